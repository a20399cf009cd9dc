/-
  Lists of lists of the call's own that grow by append.
-/
import Derived.Test.YtnnihdkhblbdgaaMat
namespace Go.Proofs.Ytnnihdkhblbdgaa
open Go.RowKit Fld
set_option linter.unusedVariables false
set_option linter.unusedSimpArgs false
set_option maxRecDepth 100000

/-- a row is added behind the last one -/
theorem OwnMat.push {w w2 : World} {lo hi n q c g cap : Nat} {v : Value} {A : Option Addr} {m : List (List Int)} {vs : List Value} {row : List Int} {o : Obj} (h : OwnMat w lo hi v n m vs) (hs : hi ≤ w.heap.size) (hq : row.length = q) (ho : w.ownsRow hi 2 1 (.slice A q c) q (ints row)) (hl : lo ≤ hi)
    (h2 : w2.ownsRow lo 23 1 (.slice (some ⟨g, 0, none⟩) (n + 1) cap) (n + 1) (vs ++ [.slice A q c])) (hg : (w.alloc o).grownBy w2 v.ownBlock) : OwnMat w2 lo w2.heap.size (.slice (some ⟨g, 0, none⟩) (n + 1) cap) (n + 1) (m ++ [row]) (vs ++ [.slice A q c]) := by
  subst hq
  have hz : w.heap.size + 1 ≤ w2.heap.size := by have := hg.size; simpa using this
  have hal : Below w.heap.size w (w.alloc o) := (Below.refl _ _).alloc (Nat.le_refl _) _
  have hnew : OwnR w hi w.heap.size 2 (.slice A row.length c) row.length (ints row) := OwnR.of ho
  have hcarry : ∀ (lo' hi' : Nat) (A2 : Option Addr) (c2 : Nat) (r2 : List Int), hi' ≤ w.heap.size → OwnR w lo' hi' 2 (.slice A2 r2.length c2) r2.length (ints r2) → OwnR w2 lo' hi' 2 (.slice A2 r2.length c2) r2.length (ints r2) := by
    intro lo' hi' A2 c2 r2 hhi o2
    exact (o2.below hal hhi).grown hg (own_types o2.1 h.outer.1 (by decide))
  refine ⟨OwnR.of h2, by simp [h.len], ?_, ?_⟩
  · intro r row2 hr
    rcases Nat.lt_or_ge r m.length with x | x
    · rw [List.getElem?_append_left x] at hr
      obtain ⟨A2, c2, e2, o2⟩ := h.inner r row2 hr
      refine ⟨A2, c2, by rw [List.getElem?_append_left (by rw [h.len]; exact x)]; exact e2, ?_⟩
      exact (hcarry lo hi A2 c2 row2 hs o2).more (Nat.le_refl _) (by omega)
    · rw [List.getElem?_append_right x] at hr
      have hx : r - m.length = 0 := by
        rcases Nat.eq_zero_or_pos (r - m.length) with y | y
        · exact y
        · rw [List.getElem?_eq_none (by simp; omega)] at hr; cases hr
      rw [hx] at hr
      simp only [List.getElem?_cons_zero, Option.some.injEq] at hr
      subst hr
      refine ⟨A, c, by rw [List.getElem?_append_right (by rw [h.len]; exact x), h.len, hx]; rfl, ?_⟩
      exact (hcarry hi w.heap.size A c row (Nat.le_refl _) hnew).more hl (by omega)
  · intro r s u t g' hne hu ht hb hb'
    have side : ∀ (r : Nat) (u : Value), (vs ++ [Value.slice A row.length c])[r]? = some u → u.ownBlock = some g' → (r < vs.length ∧ vs[r]? = some u ∧ g' < hi) ∨ (r = vs.length ∧ hi ≤ g') := by
      intro r u hu hb
      rcases Nat.lt_or_ge r vs.length with x | x
      · rw [List.getElem?_append_left x] at hu
        obtain ⟨A2, c2, e2, o2⟩ := h.inner r _ (List.getElem?_eq_getElem (by rw [← h.len]; exact x))
        rw [hu] at e2
        injection e2 with e2
        subst e2
        exact .inl ⟨x, hu, o2.2 g' hb⟩
      · rw [List.getElem?_append_right x] at hu
        have hx : r - vs.length = 0 := by
          rcases Nat.eq_zero_or_pos (r - vs.length) with y | y
          · exact y
          · rw [List.getElem?_eq_none (by simp; omega)] at hu; cases hu
        rw [hx] at hu
        simp only [List.getElem?_cons_zero, Option.some.injEq] at hu
        subst hu
        exact .inr ⟨by omega, (ho.lt g' hb).1⟩
    rcases side r u hu hb with ⟨h1, h3, h4⟩ | ⟨h1, h4⟩ <;> rcases side s t ht hb' with ⟨k1, k3, k4⟩ | ⟨k1, k4⟩
    · exact h.apart r s u t g' hne h3 k3 hb hb'
    · omega
    · omega
    · omega
theorem OwnMat.empty (w : World) : OwnMat (w.alloc (.cells #[] 23)) w.heap.size (w.heap.size + 1) (.slice (some ⟨w.heap.size, 0, none⟩) 0 0) 0 [] [] := by
  refine ⟨⟨World.ownsRow_lit w #[] 0 (Nat.le_refl _) (Nat.zero_le _) rfl, fun g hg => by have : w.heap.size = g := (by simpa [Value.ownBlock] using hg); omega⟩, rfl, fun r row hr => by simp at hr, fun r s u t g _ hu => by simp at hu⟩
/-- a list of lists that grows -/
def GrowM (w : World) (g n cap : Nat) (m : List (List Int)) (wr : World) : Prop := ∃ vs, OwnMat wr w.heap.size wr.heap.size (.slice (some ⟨g, 0, none⟩) n cap) n m vs ∧ Below w.heap.size w wr
theorem GrowM.start (w : World) : GrowM w w.heap.size 0 0 [] (w.alloc (.cells #[] 23)) :=
  ⟨[], by have := OwnMat.empty w; simpa using this, (Below.refl _ _).alloc (Nat.le_refl _) _⟩
theorem GrowM.done {w wr : World} {g n cap : Nat} {m : List (List Int)} (h : GrowM w g n cap m wr) : NewMat n m w (.returned (.slice (some ⟨g, 0, none⟩) n cap)) wr := by
  obtain ⟨vs, h1, h2⟩ := h
  exact ⟨_, _, vs, rfl, h1, h2⟩

end Go.Proofs.Ytnnihdkhblbdgaa
