/-
  Are all lists level lists?
-/
import Derived.Test.YtolkbbbbahhfaaaGreatLev
namespace Go.Proofs.YtolkbbbbahhfaaaGreat
open Go.RowKit Fld
set_option linter.unusedVariables false
set_option linter.unusedSimpArgs false
set_option maxRecDepth 100000

/-- lists that stand side by side in memory -/
def Lsts (w : World) (B : Nat) (A : Option Addr) (m : List (List Int)) : Prop :=
  ∀ (k : Nat) (r : List Int), m[k]? = some r → ∃ b o Ak ck, A = some ⟨b, o, none⟩ ∧ w.cell? ⟨b, o + k, none⟩ = some (.slice Ak r.length ck) ∧ Row w B Ak (ints r)
theorem Lsts.drewN {w : World} {B : Nat} {A : Option Addr} {m : List (List Int)} (h : Lsts w B A m) (d : Nat) : Lsts (w.drewN d) B A m := h
theorem Lsts.of_mat {w : World} {B : Nat} {A : Option Addr} {m : List (List Int)} (h : Mat w B A m) : Lsts w B A m := fun k r hr => by
  obtain ⟨b, o, Ak, ck, e, _, hc, _, _, hrow⟩ := h k r hr
  exact ⟨b, o, Ak, ck, e, hc, hrow⟩
def allLvM (m : List (List Int)) : Bool := m.all Tr.isLv
theorem allLvM_take {m : List (List Int)} {k : Nat} {r : List Int} (h : allLvM (m.take k) = true) (hr : m[k]? = some r) (hl : Tr.isLv r = true) : allLvM (m.take (k + 1)) = true := by
  unfold allLvM at *
  rw [List.take_add_one, hr, Option.toList_some, List.all_append, h]; simp [hl]
theorem allLvM_no {m : List (List Int)} {k : Nat} {r : List Int} (hr : m[k]? = some r) (hl : Tr.isLv r = false) : allLvM m = false := by
  unfold allLvM
  rw [List.all_eq_false]
  exact ⟨r, List.mem_of_getElem? hr, by rw [hl]; simp⟩
end Go.Proofs.YtolkbbbbahhfaaaGreat
