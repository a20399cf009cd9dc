/-
  The tree on some branches, as plain functions.
-/
import Derived.Test.YtolkbbbbahhfaaaGreatTreesOfT
import Derived.Test.YtolkbbbbahhfaaaGreatParts
namespace Go.Proofs.YtolkbbbbahhfaaaGreat
open Go.RowKit Fld
set_option linter.unusedVariables false
set_option linter.unusedSimpArgs false
set_option maxRecDepth 100000

/-- levels that go on from p -/
def okL : Int → List Int → Prop
  | _, [] => True
  | p, x :: r => 1 ≤ x ∧ x ≤ p + 1 ∧ okL x r
theorem okL_at : ∀ {l : List Int} {p : Int}, okL p l → ∀ i, i < l.length → 1 ≤ l.getD i 0 ∧ l.getD i 0 ≤ (p :: l).getD i 0 + 1
  | [], _, _, i, hi => by simp at hi
  | x :: r, p, h, 0, _ => by simpa using ⟨h.1, h.2.1⟩
  | x :: r, p, h, i+1, hi => by
    have := okL_at (l := r) (p := x) h.2.2 i (by simpa using hi)
    simpa using this
theorem okL_of : ∀ {l : List Int} {p : Int}, (∀ i, i < l.length → 1 ≤ l.getD i 0 ∧ l.getD i 0 ≤ (p :: l).getD i 0 + 1) → okL p l
  | [], _, _ => trivial
  | x :: r, p, h => by
    have h0 := h 0 (by simp)
    refine ⟨by simpa using h0.1, by simpa using h0.2, okL_of fun i hi => ?_⟩
    have := h (i + 1) (by simpa using hi)
    simpa using this
theorem lv_okL {r : List Int} (h : Tr.isLv r = true) : ∃ rs, r = 0 :: rs ∧ okL 0 rs := by
  have h1 := Tr.isLv_iff.1 h
  match r, h1 with
  | [], h1 => exact absurd h1.1 (by simp)
  | x :: rs, h1 =>
    have hx : x = 0 := by simpa using h1.2.2.1
    subst hx
    refine ⟨rs, rfl, okL_of fun i hi => ?_⟩
    have := h1.2.2.2 (i + 1) (by simpa using hi) (by omega)
    simpa using this
theorem okL_lv {l : List Int} (h : okL 0 l) (hn : l.length ≤ 7) : Tr.isLv (0 :: l) = true := by
  rw [Tr.isLv_iff]
  refine ⟨by simp, by simp; omega, rfl, fun i hi h1 => ?_⟩
  obtain ⟨j, rfl⟩ : ∃ j, i = j + 1 := ⟨i - 1, by omega⟩
  have := okL_at h j (by simpa using hi)
  simpa using this
theorem okL_shift : ∀ {l : List Int} {p : Int}, okL p l → okL (p + 1) (l.map (· + 1))
  | [], _, _ => trivial
  | x :: r, p, h => ⟨by have := h.1; show 1 ≤ x + 1; omega, by have := h.2.1; show x + 1 ≤ p + 1 + 1; omega, okL_shift h.2.2⟩
theorem okL_app : ∀ {a b : List Int} {p : Int}, okL p a → 0 ≤ p → (∀ q, 0 ≤ q → okL q b) → okL p (a ++ b)
  | [], _, p, _, hp, hb => hb p hp
  | x :: r, b, p, h, hp, hb => ⟨h.1, h.2.1, okL_app h.2.2 (by have := h.1; omega) hb⟩
theorem okL_flat : ∀ {f : List (List Int)}, (∀ r ∈ f, Tr.isLv r = true) → ∀ q, 0 ≤ q → okL q (f.flatten.map (· + 1))
  | [], _, _, _ => trivial
  | r :: f, h, q, hq => by
    obtain ⟨rs, rfl, hrs⟩ := lv_okL (h r (by simp))
    rw [List.flatten_cons, List.map_append, List.map_cons, List.cons_append]
    refine ⟨by omega, by omega, okL_app (okL_shift hrs) (by omega) (okL_flat (fun r hr => h r (by simp [hr])))⟩
theorem flat_total (f : List (List Int)) : f.flatten.length = total f := by
  unfold total; rw [List.length_flatten]
theorem up_lv {f : List (List Int)} (h : ∀ r ∈ f, Tr.isLv r = true) (ht : total f ≤ 7) : Tr.isLv (Tr.up f) = true := by
  unfold Tr.up
  exact okL_lv (okL_flat h 0 (Int.le_refl 0)) (by rw [List.length_map, flat_total]; exact ht)
theorem add_next (out : List (List Int)) (acc : List Int) (x : Int) (h : 1 ≤ x) : Tr.addNode (out ++ [acc]) (x + 1) = out ++ [acc ++ [x]] := by
  have h1 : ¬ x + 1 = 1 := by omega
  unfold Tr.addNode
  simp [h1, Int.add_sub_cancel]
theorem add_rest : ∀ (l : List Int) {p : Int} (out : List (List Int)) (acc : List Int), okL p l → (l.map (· + 1)).foldl Tr.addNode (out ++ [acc]) = out ++ [acc ++ l]
  | [], _, _, _, _ => by simp
  | x :: r, p, out, acc, h => by
    rw [List.map_cons, List.foldl_cons, add_next out acc x h.1, add_rest r out (acc ++ [x]) h.2.2, List.append_assoc]; rfl
theorem add_all : ∀ {f : List (List Int)} (out : List (List Int)), (∀ r ∈ f, Tr.isLv r = true) → (f.flatten.map (· + 1)).foldl Tr.addNode out = out ++ f
  | [], out, _ => by simp
  | r :: f, out, h => by
    obtain ⟨rs, rfl, hrs⟩ := lv_okL (h r (by simp))
    rw [List.flatten_cons, List.map_append, List.foldl_append, List.map_cons, List.foldl_cons]
    have e : Tr.addNode out (0 + 1) = out ++ [[0]] := by simp [Tr.addNode]
    rw [e, add_rest rs out [0] hrs, add_all _ (fun r hr => h r (by simp [hr]))]
    simp
theorem parts_up {f : List (List Int)} (h : ∀ r ∈ f, Tr.isLv r = true) : Tr.partsL (Tr.up f) = f := by
  unfold Tr.partsL Tr.up
  rw [List.drop_one, List.tail_cons, add_all [] h, List.nil_append]
end Go.Proofs.YtolkbbbbahhfaaaGreat
namespace Go.Proofs.YtolkbbbbahhfaaaGreat.Tr
set_option maxRecDepth 100000
def chkR (t : List Int) : Bool := decide (txt t = wrap (sortS ((partsL t).map txt)))
theorem chkR_all : allLv.all chkR = true := by decide +kernel
end Go.Proofs.YtolkbbbbahhfaaaGreat.Tr
namespace Go.Proofs.YtolkbbbbahhfaaaGreat
theorem root_txt {f : List (List Int)} (h : ∀ r ∈ f, Tr.isLv r = true) (ht : total f ≤ 7) : Tr.wrap (Tr.sortS (f.map Tr.txt)) = Tr.txt (Tr.up f) := by
  have h1 := Tr.all_of Tr.chkR_all (Tr.isLv_iff.1 (up_lv h ht))
  unfold Tr.chkR at h1
  have h2 := of_decide_eq_true h1
  rw [parts_up h] at h2
  exact h2.symm
end Go.Proofs.YtolkbbbbahhfaaaGreat
