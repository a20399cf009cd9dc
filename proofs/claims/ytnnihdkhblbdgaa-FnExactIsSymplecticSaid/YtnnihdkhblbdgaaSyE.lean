/-
  Grids compared.
-/
import Derived.Test.YtnnihdkhblbdgaaSyG
import Derived.DeepKeys
namespace Go.Proofs.Ytnnihdkhblbdgaa
open Go.RowKit Fld
set_option linter.unusedVariables false
set_option linter.unusedSimpArgs false
set_option maxRecDepth 100000
theorem keyGrid : Try.prog.keyTypeAt 3 54 = true := by decide +kernel
theorem cellsGrid : Try.prog.cellsOf 54 = 64 := by decide +kernel
theorem cellsGrow : Try.prog.cellsOf 52 = 8 := by decide +kernel
theorem cellsGnum : Try.prog.cellsOf 51 = 1 := by decide +kernel
theorem undGrid : Try.prog.underlying 54 = some (.array 8 52) := by kernel_rfl
theorem undGrow : Try.prog.underlying 52 = some (.array 8 51) := by kernel_rfl
theorem undGnum : Try.prog.underlying 51 = some (.int .i64) := by kernel_rfl
theorem num_wf {x : Int} (h : 0 ≤ x ∧ x < 10007) : (Lit.int .i64 x).wf = true := by simp [Lit.wf, IntKind.min, IntKind.max, IntKind.signed, IntKind.bits]; omega
theorem row_lits {r : List Int} (hl : r.length = 8) (h : ∀ x ∈ r, 0 ≤ x ∧ x < 10007) : Try.prog.keyLits 2 52 (ints r) = some (r.map fun x => Lit.int .i64 x) := by
  match r, hl with
  | [a, b, c, d, e, f, g, k], _ =>
    have w1 := num_wf (h a (by simp)); have w2 := num_wf (h b (by simp)); have w3 := num_wf (h c (by simp)); have w4 := num_wf (h d (by simp))
    have w5 := num_wf (h e (by simp)); have w6 := num_wf (h f (by simp)); have w7 := num_wf (h g (by simp)); have w8 := num_wf (h k (by simp))
    unfold Program.keyLits
    rw [undGrow]
    simp only [ints, intsK, List.map_cons, List.map_nil, List.length_cons, List.length_nil, cellsGrow, cellsGnum]
    rw [if_pos trivial, show List.range 8 = [0, 1, 2, 3, 4, 5, 6, 7] from rfl]
    simp [Program.keyLits, undGnum, w1, w2, w3, w4, w5, w6, w7, w8]
theorem chunks {X : List Int} (hl : X.length = 64) : [((X.drop 0).take 8), ((X.drop 8).take 8), ((X.drop 16).take 8), ((X.drop 24).take 8), ((X.drop 32).take 8), ((X.drop 40).take 8), ((X.drop 48).take 8), ((X.drop 56).take 8)].flatten = X := by
  have e : ∀ k, (X.drop k).take 8 ++ X.drop (k + 8) = X.drop k := fun k => by rw [← List.drop_drop]; exact List.take_append_drop 8 (X.drop k)
  have e64 : X.drop 64 = [] := List.drop_eq_nil_of_le (by omega)
  simp only [List.flatten_cons, List.flatten_nil]
  rw [← e64, e 56, e 48, e 40, e 32, e 24, e 16, e 8, e 0, List.drop_zero]
theorem grid_lits {X : List Int} (hl : X.length = 64) (h : ∀ x ∈ X, 0 ≤ x ∧ x < 10007) : Try.prog.keyLits 3 54 (ints X) = some (X.map fun x => Lit.int .i64 x) := by
  have hr : ∀ k, k + 8 ≤ 64 → Try.prog.keyLits 2 52 (((ints X).drop k).take 8) = some (((X.drop k).take 8).map fun x => Lit.int .i64 x) := fun k hk => by
    have e : ((ints X).drop k).take 8 = ints ((X.drop k).take 8) := by simp [ints, intsK, List.map_drop, List.map_take]
    rw [e]
    exact row_lits (by simp; omega) (fun x hx => h x (List.mem_of_mem_drop (List.mem_of_mem_take hx)))
  unfold Program.keyLits
  rw [undGrid]
  simp only [cellsGrid, cellsGrow]
  rw [if_pos (by rw [ints_length, hl]), show List.range 8 = [0, 1, 2, 3, 4, 5, 6, 7] from rfl]
  simp only [List.mapM_cons, List.mapM_nil, Nat.zero_mul, Nat.one_mul, Nat.reduceMul, hr 0 (by omega), hr 8 (by omega), hr 16 (by omega), hr 24 (by omega), hr 32 (by omega), hr 40 (by omega), hr 48 (by omega), hr 56 (by omega), bind, Option.bind, pure, Option.map]
  congr 1
  conv => rhs; rw [← chunks hl]
  simp only [List.flatten_cons, List.flatten_nil, List.map_append, List.map_nil]
theorem lit_inj : ∀ {X Y : List Int}, (X.map fun x => Lit.int .i64 x) = (Y.map fun x => Lit.int .i64 x) → X = Y
  | [], [], _ => rfl
  | [], _ :: _, h => by simp at h
  | _ :: _, [], h => by simp at h
  | a :: X, b :: Y, h => by
    simp only [List.map_cons, List.cons.injEq, Lit.int.injEq, true_and] at h
    rw [h.1, lit_inj h.2]
theorem eqGrid {X Y : List Int} (w : World) (hx : X.length = 64) (hy : Y.length = 64) (nx : ∀ x ∈ X, 0 ≤ x ∧ x < 10007) (ny : ∀ x ∈ Y, 0 ≤ x ∧ x < 10007) :
    (Op.equalIn 10000 54 (.agg (arrG X)) (.agg (arrG Y))).run Try.prog w = .ok (decide (X = Y)) w := by
  have H := run_equalIn_deep (P := Try.prog) 9997 3 54 keyGrid w 3 3 (.agg (arrG X)) (.agg (arrG Y)) (X.map fun x => Lit.int .i64 x) (Y.map fun x => Lit.int .i64 x) (by simp [Value.formed, undGrid, cellsGrid, arrG_size hx]) (by simp [Value.formed, undGrid, cellsGrid, arrG_size hy]) (by show Try.prog.keyLits 3 54 (arrG X).toList = _; rw [show (arrG X).toList = ints X by simp [arrG]]; exact grid_lits hx nx) (by show Try.prog.keyLits 3 54 (arrG Y).toList = _; rw [show (arrG Y).toList = ints Y by simp [arrG]]; exact grid_lits hy ny)
  obtain ⟨r, h1, h2⟩ := H
  rw [h1]
  congr 1
  by_cases e : X = Y
  · rw [decide_eq_true e]; exact h2.2 (by rw [e])
  · rw [decide_eq_false e]
    cases r
    · rfl
    · exact absurd (lit_inj (h2.1 rfl)) e
theorem grL_num {f : Nat → Nat → Int} {n : Nat} (h : ∀ i k, i < n → k < n → 0 ≤ f i k ∧ f i k < 10007) : ∀ x ∈ grL f n, 0 ≤ x ∧ x < 10007 := fun x hx => by
  unfold grL gr at hx
  rw [List.mem_map] at hx
  obtain ⟨j, _, rfl⟩ := hx
  split
  · rename_i q
    exact h _ _ q.2.1 q.2.2
  · omega
end Go.Proofs.Ytnnihdkhblbdgaa
