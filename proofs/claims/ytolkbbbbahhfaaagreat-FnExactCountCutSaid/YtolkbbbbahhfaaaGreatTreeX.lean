/-
  Trees: the model's test and its canonical lists, beside the program's.
-/
import Derived.Test.YtolkbbbbahhfaaaGreatCan
import Derived.Test.YtolkbbbbahhfaaaGreatSCan
namespace Go.Proofs.YtolkbbbbahhfaaaGreat
open Go.RowKit Fld
set_option linter.unusedVariables false
set_option linter.unusedSimpArgs false
set_option maxRecDepth 100000

set_option maxHeartbeats 400000 in
theorem sIsTree_L (A : Option Addr) (n c B : Nat) (t : List Int) (w : World) (hl : t.length = n) (hn : n ≤ 1048576) (hB : B ≤ w.heap.size) (h : Row w B A (ints t)) :
    Calls Tryz.prog 82 #[.slice A n c] w (ResB (isTr t) w) := by
  have C0 := l03Is_any A n c B t w hl hn h
  cases hlv : Tr.isLv t
  · have G : Hid (isTr t = false) := by rw [Hid, isTr, hlv]; rfl
    rw [hlv] at C0
    go_enter Tryz.func82, Tryz.ntmps82
    go_wp2_with fail
    refine C0.mono ?_
    rintro e w' ⟨rfl, m, rfl⟩
    go_wp2
    go_ret
    exact ⟨ret_bool G.out.symm, below_drewN (Below.refl _ _) _⟩
  · rw [hlv] at C0
    have HL := Lib.hid hl
    have HLV := Lib.hid hlv
    have HE : Hid ((Tr.can t).length = n) := by rw [Hid, (lv_can hlv).2, hl]
    have GE : Hid (isTr t = eqL (Tr.can t) t) := by rw [Hid, isTr, hlv]; rfl
    clear hl hlv
    go_enter Tryz.func82, Tryz.ntmps82
    go_wp2_with fail
    refine C0.mono ?_
    rintro e w' ⟨rfl, m, rfl⟩
    go_wp2_with fail
    refine (l03Canon_any A n c B t _ HL.out HLV.out (by exact hB) (h.drewN m)).mono ?_
    rintro e w3 ⟨A3, c3, rfl, own3, bel3⟩
    have row3 : Row w3 B A (ints t) := Row.below h (below_undrew' bel3) hB
    go_wp2_with fail
    refine (l01Same_any A3 A n n c3 c _ _ (Tr.can t) t _ HE.out HL.out (by omega) (by omega) (row_of_own own3) row3).mono ?_
    rintro e w4 ⟨rfl, m4, rfl⟩
    have GB : Hid (Below w.heap.size w w3) := below_undrew' bel3
    clear own3 bel3
    go_wp2
    go_ret
    exact ⟨ret_bool GE.out.symm, below_drewN GB.out _⟩
theorem pIsTree_L (A : Option Addr) (n c B : Nat) (t : List Int) (w : World) (hl : t.length = n) (hn : n ≤ 1048576) (hB : B ≤ w.heap.size) (h : Row w B A (ints t)) (hc : n ≤ c) :
    Calls Tryz.prog 91 #[.slice A n c] w (ResB (isTr t) w) := isTree_any A n c B t w hl (by omega) hc hB h
end Go.Proofs.YtolkbbbbahhfaaaGreat
