/-
  The program's canonical lists and its test on them.
-/
import Derived.Test.YtolkbbbbahhfaaaGreatLvl
import Derived.Test.YtolkbbbbahhfaaaGreatSame
import Derived.Test.YtolkbbbbahhfaaaGreatRes1
namespace Go.Proofs.YtolkbbbbahhfaaaGreat
open Go.RowKit Fld
set_option linter.unusedVariables false
set_option linter.unusedSimpArgs false
set_option maxRecDepth 100000

theorem wrap_brk {ss : List (List UInt8)} (h : ∀ x ∈ ss, Brk x) : Brk (Tr.wrap ss) := by
  intro c hc
  unfold Tr.wrap at hc
  rw [List.mem_cons, List.mem_append, List.mem_flatten, List.mem_singleton] at hc
  rcases hc with rfl | ⟨x, hx, hcx⟩ | rfl
  · exact .inl rfl
  · exact h x hx c hcx
  · exact .inr rfl
theorem txt_brk : ∀ (d : Nat) (t : List Int), Brk (Tr.txtF d t)
  | 0, t => fun c hc => by simp [Tr.txtF] at hc
  | d+1, t => by
    rw [Tr.txtF]
    refine wrap_brk fun x hx => ?_
    rw [(Tr.sortS_perm _).mem_iff, List.mem_map] at hx
    obtain ⟨p, _, rfl⟩ := hx
    exact txt_brk d p
theorem lv_txt {t : List Int} (h : Tr.isLv t = true) : Tr.lvl (Tr.txt t) = Tr.can t ∧ Tr.isLv (Tr.can t) = true ∧ (Tr.can t).length = t.length ∧ (Tr.txt t).length = 2 * t.length := by
  have h1 := Tr.all_of Tr.chk1_all (Tr.isLv_iff.1 h)
  unfold Tr.chk1 at h1
  simp only [Bool.and_eq_true, beq_iff_eq] at h1
  exact ⟨h1.1.1.1, h1.1.1.2, h1.1.2, h1.2⟩
theorem lv_bd {t : List Int} (h : Tr.isLv t = true) : 1 ≤ t.length ∧ t.length ≤ 8 := by
  have := Tr.isLv_iff.1 h
  exact ⟨this.1, this.2.1⟩
def isTr (t : List Int) : Bool := Tr.isLv t && eqL (Tr.can t) t
/-- levels of the text of a level list -/
theorem levelsOf_any (t : List Int) (w : World) (h : Tr.isLv t = true) : Calls Tryz.prog 102 #[.string ⟨(Tr.txt t).toArray⟩] w (NewRow 2 t.length (ints (Tr.can t)) w) := by
  obtain ⟨e1, _, e2, e3⟩ := lv_txt h
  have h1 := levels_any (Tr.txt t) w (by have := (lv_bd h).2; omega) (txt_brk _ _)
  rw [e1, e2] at h1
  exact h1
set_option maxHeartbeats 400000 in
theorem isTree_any (A : Option Addr) (n c B : Nat) (t : List Int) (w : World) (hl : t.length = n) (hn : n ≤ 9223372036854775807) (hc : n ≤ c) (hB : B ≤ w.heap.size) (h : Row w B A (ints t)) :
    Calls Tryz.prog 91 #[.slice A n c] w (ResB (isTr t) w) := by
  cases hlv : Tr.isLv t
  · have G : Hid (isTr t = false) := by rw [Hid, isTr, hlv]; rfl
    go_enter Tryz.func91, Tryz.ntmps91
    go_wp2_with fail
    have C0 := isLevels_any A n c B t w hl hn h
    rw [hlv] at C0
    refine C0.mono ?_
    rintro e w' ⟨rfl, m, rfl⟩
    go_wp2
    go_ret
    exact ⟨ret_bool G.out.symm, below_drewN (Below.refl _ _) _⟩
  · obtain ⟨b1, b8⟩ := lv_bd hlv
    rw [hl] at b1 b8
    have HL := Lib.hid hl
    have HLV := Lib.hid hlv
    have C0 := isLevels_any A n c B t w hl hn h
    rw [hlv] at C0
    have HE : Hid ((Tr.can t).length = n) := by rw [Hid, (lv_txt hlv).2.2.1, hl]
    have GE : Hid (isTr t = eqL (Tr.can t) t) := by rw [Hid, isTr, hlv]; rfl
    clear hl hlv
    go_enter Tryz.func91, Tryz.ntmps91
    go_wp2_with fail
    refine C0.mono ?_
    rintro e w' ⟨rfl, m, rfl⟩
    go_wp2_with fail
    refine (treeOf_any A n c B t _ HL.out b1 b8 hc (by exact hB) (h.drewN m)).mono ?_
    rintro e w2 ⟨rfl, bel2⟩
    go_wp2_with fail
    refine (levelsOf_any t _ HLV.out).mono ?_
    rintro e w3 ⟨A3, c3, rfl, own3, bel3⟩
    have hs2 : w.heap.size ≤ w2.heap.size := bel2.size
    have row3 : Row w3 B A (ints t) := Row.below (Row.below h (below_undrew' bel2) hB) bel3 (by omega)
    rw [HL.out]
    go_wp2_with fail
    refine (slicesEqual_any A3 A n n c3 c _ _ (Tr.can t) t _ HE.out HL.out hn hn (row_of_own (by rw [HL.out] at own3; exact own3)) row3).mono ?_
    rintro e w4 ⟨rfl, m4, rfl⟩
    have GB : Hid (Below w.heap.size w w3) := (below_undrew' bel2).trans (bel3.mono hs2)
    clear own3 bel2 bel3
    go_wp2
    go_ret
    exact ⟨ret_bool GE.out.symm, below_drewN GB.out _⟩
/-- what CanonicalTree is to answer -/
def canA (t : List Int) : List Int × Int := if Tr.isLv t = true then (Tr.can t, 0) else ([], 1)
theorem canA_yes {t : List Int} (h : Tr.isLv t = true) : canA t = (Tr.can t, 0) := if_pos h
theorem canA_no {t : List Int} (h : Tr.isLv t = false) : canA t = ([], 1) := if_neg (by rw [h]; simp)
end Go.Proofs.YtolkbbbbahhfaaaGreat
