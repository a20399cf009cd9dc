/-
  Are all lists level lists?
-/
import Derived.Test.YtjmjdcfgbaepkaaLev
namespace Go.Proofs.Ytjmjdcfgbaepkaa
open Go.RowKit Fld
set_option linter.unusedVariables false
set_option linter.unusedSimpArgs false
set_option maxRecDepth 100000

/-- lists that stand side by side in memory -/
def Lsts (w : World) (B : Nat) (A : Option Addr) (m : List (List Int)) : Prop :=
  ∀ (k : Nat) (r : List Int), m[k]? = some r → ∃ b o Ak ck, A = some ⟨b, o, none⟩ ∧ w.cell? ⟨b, o + k, none⟩ = some (.slice Ak r.length ck) ∧ Row w B Ak (ints r)
theorem Lsts.drewN {w : World} {B : Nat} {A : Option Addr} {m : List (List Int)} (h : Lsts w B A m) (d : Nat) : Lsts (w.drewN d) B A m := h
theorem Lsts.of_mat {w : World} {B : Nat} {A : Option Addr} {m : List (List Int)} (h : Mat w B A m) : Lsts w B A m := fun k r hr => by
  obtain ⟨b, o, Ak, ck, e, _, hc, _, _, hrow⟩ := h k r hr
  exact ⟨b, o, Ak, ck, e, hc, hrow⟩
def allLvM (m : List (List Int)) : Bool := m.all Tr.isLv
theorem allLvM_take {m : List (List Int)} {k : Nat} {r : List Int} (h : allLvM (m.take k) = true) (hr : m[k]? = some r) (hl : Tr.isLv r = true) : allLvM (m.take (k + 1)) = true := by
  unfold allLvM at *
  rw [List.take_add_one, hr, Option.toList_some, List.all_append, h]; simp [hl]
theorem allLvM_no {m : List (List Int)} {k : Nat} {r : List Int} (hr : m[k]? = some r) (hl : Tr.isLv r = false) : allLvM m = false := by
  unfold allLvM
  rw [List.all_eq_false]
  exact ⟨r, List.mem_of_getElem? hr, by rw [hl]; simp⟩
set_option maxHeartbeats 400000 in
theorem areLevels_any (A : Option Addr) (n c B : Nat) (m : List (List Int)) (w : World) (hl : m.length = n) (hn : n ≤ 1048576) (hr : ∀ r ∈ m, r.length ≤ 1048576) (h : Lsts w B A m) :
    Calls Try.prog 59 #[.slice A n c] w fun e w' => e = .returned (.bool (allLvM m)) ∧ ∃ d, w' = w.drewN d := by
  have HL := Lib.hid hl
  have HR := Lib.hid hr
  clear hl hr
  go_enter Try.func59, Try.ntmps59
  go_wp2_with fail
  go_loopw [7] (fun i wr => ∃ k d : Nat, k ≤ n ∧ i = .int .i64 k ∧ wr = w.drewN d ∧ Hid (allLvM (m.take k) = true)) (fun i _ => n - (intOf i).toNat)
  case atStart => exact ⟨0, 0, Nat.zero_le _, rfl, rfl, rfl⟩
  case round =>
    obtain ⟨k, d, hk, rfl, rfl, HT⟩ := hrel
    by_cases hlt : k < n
    · obtain ⟨r, hr⟩ := at_lt (show k < m.length by rw [HL.out]; exact hlt)
      obtain ⟨b, o, Ak, ck, rfl, hc, hrow⟩ := (h.drewN d) k r hr
      have C1 := isLevels_any Ak r.length ck B r (w.drewN d) rfl (by have := HR.out r (List.mem_of_getElem? hr); omega) hrow
      cases hlv : Tr.isLv r
      · have G := Lib.hid (allLvM_no hr hlv)
        rw [hlv] at C1
        clear hr hrow HT
        go_wp2_with fail
        refine C1.mono ?_
        rintro e w' ⟨rfl, d2, rfl⟩
        go_wp2
        go_ret
        exact ⟨ret_bool G.out.symm, _, rfl⟩
      · have G := Lib.hid (allLvM_take HT.out hr hlv)
        rw [hlv] at C1
        clear hr hrow HT
        go_wp2_with fail
        refine C1.mono ?_
        rintro e w' ⟨rfl, d2, rfl⟩
        go_wp2
        go_roundw
        case rel => exact ⟨k + 1, _, by omega, by go_num, rfl, G⟩
        case measure => simp [intOf]; omega
    · obtain rfl : k = n := by omega
      have G : Hid (allLvM m = true) := by
        have := HT.out
        rw [List.take_of_length_le (by rw [HL.out]; exact Nat.le_refl _)] at this
        exact this
      clear HT
      go_wp2
      go_ret
      exact ⟨ret_bool G.out.symm, _, rfl⟩
end Go.Proofs.Ytjmjdcfgbaepkaa
