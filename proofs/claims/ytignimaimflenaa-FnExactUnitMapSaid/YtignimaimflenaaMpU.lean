/-
  The unit, the program's and the model's.
-/
import Derived.Test.YtignimaimflenaaMpA
namespace Go.Proofs.Ytignimaimflenaa
open Go.RowKit Fld
set_option linter.unusedVariables false
set_option linter.unusedSimpArgs false
set_option maxRecDepth 100000

theorem unitL_length : unitL.length = 38 := rfl
theorem pUnitMap_L (w : World) : Calls Try.prog 22 #[] w (NewRow 2 38 (ints unitL) w) := by
  have C1 := listM_any unitL w unitL_length
  go_enter Try.func22, Try.ntmps22
  go_wp2_with fail
  refine (C1).mono ?_
  rintro e w1 ⟨A1, c1, rfl, own1, bel1⟩
  go_wp2
  go_ret
  exact ⟨_, _, rfl, own1, bel1⟩
theorem zero_row {w : World} {lo : Nat} {T : TypeId} {v : Value} (h : w.ownsRow lo T 1 v 38 (madeCells (Value.int .i64 0).cells (38 * 1)).toList) : w.ownsRow lo T 1 v 38 (ints zero38) := by
  have e : (madeCells #[(.int .i64 0 : Value)] 38).toList = ints zero38 := by rw [toList_madeCells_one]; rfl
  exact e ▸ h
theorem l07Unit_any (w : World) : Calls Try.prog 49 #[] w (NewRow 2 38 (ints unitL) w) := by
  obtain ⟨i0, hi, hz0, hz1, hz2⟩ := info_parts info_i64
  have e0 : (ints zero38)[0]? = some (.int .i64 0) := rfl
  have HE : Hid ((ints zero38).set 0 (.int .i64 1) = ints unitL) := rfl
  go_enter Try.func49, Try.ntmps49
  go_wp2_with (at_make; refine wpList_make_full _ rfl _ _ 22 rfl w.heap.size 2 i0 _ 1 Try.underlying22 hi hz0 hz1 .i64 .i64 _ _ 38 rfl rfl rfl rfl (by rw [hz2]; omega) (by simp only [maxLen]; omega) (Nat.le_refl _) ?_; intro w1 hown hg; have GB : Hid (Below w.heap.size w w1) := (Below.refl _ _).grown hg (Nat.le_refl _) (fun k hk => by cases hk); replace hown := zero_row hown; have hf := hown.frozenAt 0; have ho := (hown.cellAt 0 (by omega)).trans e0; have HS := Lib.hid (hown.stored 0 (.int .i64 1)).1; clear hown hg)
  go_ret
  refine ⟨_, _, rfl, ?_, below_set GB.out (Nat.le_refl _) _⟩
  have := HS.out
  rw [HE.out] at this
  exact this
theorem sUnitMap_L (w : World) : Calls Try.prog 21 #[] w (NewRow 2 38 (ints unitL) w) := by
  go_enter Try.func21, Try.ntmps21
  go_wp2_with (go_at_call 49; refine (l07Unit_any _).mono ?_; rintro e w1 ⟨A1, c1, rfl, own1, bel1⟩)
  go_ret
  exact ⟨_, _, rfl, own1, bel1⟩
end Go.Proofs.Ytignimaimflenaa
