/-
  The list of all trees; what TreeAt answers, the program's and the model's.
-/
import Derived.Test.YtgklilckjpbdnaaTreesX
namespace Go.Proofs.Ytgklilckjpbdnaa
open Go.RowKit Fld
set_option linter.unusedVariables false
set_option linter.unusedSimpArgs false
set_option maxRecDepth 100000

/-- rows are added behind the last one -/
theorem OwnMat.pushAll {w w2 : World} {lo hi n n' g cap c' : Nat} {v : Value} {A' : Option Addr} {m m' : List (List Int)} {vs vs' : List Value} (h : OwnMat w lo hi v n m vs) (hs : hi ≤ w.heap.size) (h' : OwnMat w hi w.heap.size (.slice A' n' c') n' m' vs') (hl : lo ≤ hi)
    (h2 : w2.ownsRow lo 22 1 (.slice (some ⟨g, 0, none⟩) (n + n') cap) (n + n') (vs ++ vs')) (hg : w.grownBy w2 v.ownBlock) : OwnMat w2 lo w2.heap.size (.slice (some ⟨g, 0, none⟩) (n + n') cap) (n + n') (m ++ m') (vs ++ vs') := by
  have hz : w.heap.size ≤ w2.heap.size := hg.size
  have carry : ∀ (lo' hi' : Nat) (A2 : Option Addr) (c2 : Nat) (r2 : List Int), OwnR w lo' hi' 2 (.slice A2 r2.length c2) r2.length (ints r2) → OwnR w2 lo' hi' 2 (.slice A2 r2.length c2) r2.length (ints r2) := fun lo' hi' A2 c2 r2 o2 => o2.grown hg (own_types o2.1 h.outer.1 (by decide))
  have side : ∀ (r : Nat) (u : Value) (g' : Nat), (vs ++ vs')[r]? = some u → u.ownBlock = some g' → (r < vs.length ∧ vs[r]? = some u ∧ g' < hi) ∨ (vs.length ≤ r ∧ vs'[r - vs.length]? = some u ∧ hi ≤ g') := by
    intro r u g' hu hb
    rcases Nat.lt_or_ge r vs.length with x | x
    · rw [List.getElem?_append_left x] at hu
      obtain ⟨A2, c2, e2, o2⟩ := h.inner r _ (List.getElem?_eq_getElem (by rw [← h.len]; exact x))
      rw [hu] at e2
      injection e2 with e2
      subst e2
      exact .inl ⟨x, hu, o2.2 g' hb⟩
    · rw [List.getElem?_append_right x] at hu
      have hx : r - vs.length < vs'.length := by
        rcases Nat.lt_or_ge (r - vs.length) vs'.length with y | y
        · exact y
        · rw [List.getElem?_eq_none y] at hu; cases hu
      obtain ⟨A2, c2, e2, o2⟩ := h'.inner _ _ (List.getElem?_eq_getElem (by rw [← h'.len]; exact hx))
      have hu0 := hu
      rw [hu] at e2
      injection e2 with e2
      subst e2
      exact .inr ⟨x, hu0, (o2.1.lt g' hb).1⟩
  refine ⟨OwnR.of h2, by simp [h.len, h'.len], ?_, ?_⟩
  · intro r row hr
    rcases Nat.lt_or_ge r m.length with x | x
    · rw [List.getElem?_append_left x] at hr
      obtain ⟨A2, c2, e2, o2⟩ := h.inner r row hr
      exact ⟨A2, c2, by rw [List.getElem?_append_left (by rw [h.len]; exact x)]; exact e2, (carry _ _ _ _ _ o2).more (Nat.le_refl _) (by omega)⟩
    · rw [List.getElem?_append_right x] at hr
      obtain ⟨A2, c2, e2, o2⟩ := h'.inner _ row hr
      exact ⟨A2, c2, by rw [List.getElem?_append_right (by rw [h.len]; exact x), h.len]; exact e2, (carry _ _ _ _ _ o2).more hl hz⟩
  · intro r s u t g' hne hu ht hb hb'
    rcases side r u g' hu hb with ⟨a1, a2, a3⟩ | ⟨a1, a2, a3⟩ <;> rcases side s t g' ht hb' with ⟨b1, b2, b3⟩ | ⟨b1, b2, b3⟩
    · exact h.apart r s u t g' hne a2 b2 hb hb'
    · omega
    · omega
    · exact h'.apart _ _ u t g' (by omega) a2 b2 hb hb'
def treesTo (k : Nat) : List (List Int) := (List.range k).flatMap fun n => Tr.treesL (n + 1)
theorem treesTo_step (k : Nat) : treesTo (k + 1) = treesTo k ++ Tr.treesL (k + 1) := by
  unfold treesTo; rw [List.range_succ, List.flatMap_append]; simp
theorem treesTo_end : treesTo 8 = Tr.allL := rfl
theorem treesTo_len : ∀ k, k ≤ 8 → (treesTo k).length ≤ k * 115
  | 0, _ => by simp [treesTo]
  | k+1, h => by
    rw [treesTo_step, List.length_append]
    have := treesTo_len k (by omega)
    have := (trees_all (n := k + 1) (by omega) (by omega)).2
    omega
theorem own_addr {w : World} {lo : Nat} {T : TypeId} {A : Option Addr} {n c : Nat} {vs : List Value} (h : w.ownsRow lo T 1 (.slice A n c) n vs) (h1 : 0 < n) : ∃ g, A = some ⟨g, 0, none⟩ := by
  obtain ⟨g, cap, hv⟩ := own_form h h1
  injection hv with hA _ _
  exact ⟨g, hA⟩
theorem vals_one {w : World} {lo hi n : Nat} {v : Value} {m : List (List Int)} {vs : List Value} (h : OwnMat w lo hi v n m vs) : ∀ u ∈ vs, u.oneCell' = true := by
  intro u hu
  obtain ⟨k, hk⟩ := List.mem_iff_getElem?.1 hu
  have hkl : k < m.length := by
    rw [← h.len]
    rcases Nat.lt_or_ge k vs.length with y | y
    · exact y
    · rw [List.getElem?_eq_none y] at hk; cases hk
  obtain ⟨A, c, e, _⟩ := h.inner k _ (List.getElem?_eq_getElem hkl)
  rw [hk] at e
  injection e with e
  subst e
  rfl
theorem trees_pos {n : Nat} (h1 : 1 ≤ n) : 1 ≤ (Tr.treesL n).length := by
  unfold Tr.treesL
  rw [show (116 : Nat) = 115 + 1 from rfl, Tr.treesF]
  simp
theorem all_split : ∀ k, k ≤ 8 → ∃ rest, Tr.allL = treesTo k ++ rest := by
  intro k hk
  refine ⟨((List.range (8 - k)).map (· + k)).flatMap fun n => Tr.treesL (n + 1), ?_⟩
  rw [← treesTo_end]
  unfold treesTo
  rw [← List.flatMap_append]
  congr 1
  have : ∀ k, k ≤ 8 → List.range 8 = List.range k ++ (List.range (8 - k)).map (· + k) := by decide
  exact this k hk
def treeAtA (a : Int) : List Int × Int := if 0 ≤ a ∧ a ≤ 199 then (Tr.allL.getD a.toNat [], 0) else ([], 2)
theorem treeAtA_no {a : Int} (h : ¬ (0 ≤ a ∧ a ≤ 199)) : treeAtA a = ([], 2) := if_neg h
theorem treeAtA_yes {a : Nat} {t : List Int} (ht : Tr.allL[a]? = some t) (h : a ≤ 199) : treeAtA (a : Int) = (t, 0) := by
  unfold treeAtA
  rw [if_pos (by omega), Int.toNat_natCast, List.getD_eq_getElem?_getD, ht]; rfl
theorem all_len {a : Nat} {t : List Int} (ht : Tr.allL[a]? = some t) : t.length ≤ 8 := by
  have hm := List.mem_of_getElem? ht
  rw [← treesTo_end] at hm
  unfold treesTo at hm
  rw [List.mem_flatMap] at hm
  obtain ⟨n, hn, h⟩ := hm
  rw [List.mem_range] at hn
  rw [((trees_all (n := n + 1) (by omega) (by omega)).1 t h).2]; omega
end Go.Proofs.Ytgklilckjpbdnaa
