/-
  A row of a list of lists grows in its place.
-/
import Derived.Test.YtdgdanpkekcckaaPush
namespace Go.Proofs.Ytdgdanpkekcckaa
open Go.RowKit Fld
set_option linter.unusedVariables false
set_option linter.unusedSimpArgs false
set_option maxRecDepth 100000

theorem OwnMat.grow_row {w w' : World} {lo hi n g cap i g5 c5 c : Nat} {A : Option Addr} {m : List (List Int)} {vs : List Value} {row : List Int} {x : Int} (h : OwnMat w lo hi (.slice (some ⟨g, 0, none⟩) n cap) n m vs) (hs : hi ≤ w.heap.size)
    (hi' : m[i]? = some row) (hv : vs[i]? = some (.slice A row.length c)) (o : w'.ownsRow lo 2 1 (.slice (some ⟨g5, 0, none⟩) (row.length + 1) c5) (row.length + 1) (ints (row ++ [x])))
    (hg : w.grownBy w' (Value.ownBlock (.slice A row.length c))) (hat : Value.ownBlock (.slice A row.length c) = some g5 ∨ hi ≤ g5) (hlt : g5 < w'.heap.size) :
    OwnMat (w'.setCell ⟨g, i, none⟩ (.slice (some ⟨g5, 0, none⟩) (row.length + 1) c5)) lo w'.heap.size (.slice (some ⟨g, 0, none⟩) n cap) n (m.set i (row ++ [x])) (vs.set i (.slice (some ⟨g5, 0, none⟩) (row.length + 1) c5)) := by
  have hil : i < m.length := by
    rcases Nat.lt_or_ge i m.length with q | q
    · exact q
    · rw [List.getElem?_eq_none q] at hi'; cases hi'
  have hsz := hg.size
  obtain ⟨A0, c0, e0, o0⟩ := h.inner i row hi'
  rw [hv] at e0
  injection e0 with e0
  injection e0 with eA eq ec
  subst eA ec
  have outer := h.outer.grown hg (own_types h.outer.1 o0.1 (by decide))
  have hst := outer.1.stored i (.slice (some ⟨g5, 0, none⟩) (row.length + 1) c5)
  have el : (row ++ [x]).length = row.length + 1 := by rw [List.length_append]; rfl
  refine ⟨⟨hst.1, fun g' e => by have := outer.2 g' e; omega⟩, by rw [List.length_set, List.length_set]; exact h.len, ?_, ?_⟩
  · intro s r hr
    by_cases his : i = s
    · subst his
      rw [List.getElem?_set_self hil] at hr
      injection hr with hr
      subst hr
      refine ⟨some ⟨g5, 0, none⟩, c5, by rw [List.getElem?_set_self (by rw [h.len]; exact hil), el], ?_⟩
      rw [el]
      exact (OwnR.of o).grown hst.2 (own_types o outer.1 (by decide))
    · rw [List.getElem?_set_ne his] at hr
      obtain ⟨A2, c2, e2, o2⟩ := h.inner s r hr
      have o3 : OwnR w' lo hi 2 (.slice A2 r.length c2) r.length (ints r) := o2.grown hg (by
        cases hb : Value.ownBlock (.slice A2 r.length c2) with
        | none => exact .inl rfl
        | some q => exact .inr (fun e => h.apart s i _ _ q (Ne.symm his) e2 hv hb e.symm))
      exact ⟨A2, c2, by rw [List.getElem?_set_ne his]; exact e2, (o3.more (Nat.le_refl _) (by omega)).grown hst.2 (own_types o3.1 outer.1 (by decide))⟩
  · have key : ∀ s t g', i ≠ s → vs[s]? = some t → t.ownBlock = some g' → g' ≠ g5 := by
      intro s t g' hne ht hb e
      subst e
      have hsl : s < m.length := by
        rcases Nat.lt_or_ge s m.length with q | q
        · exact q
        · rw [List.getElem?_eq_none (by rw [h.len]; exact q)] at ht; cases ht
      obtain ⟨A2, c2, e2, o2⟩ := h.inner s _ (List.getElem?_eq_getElem hsl)
      rw [ht] at e2
      injection e2 with e2
      subst e2
      rcases hat with q | q
      · exact h.apart i s _ _ g' hne hv ht q hb
      · have := o2.2 g' hb; omega
    intro r s u t g' hne hu ht hb hb'
    by_cases hir : i = r
    · subst hir
      rw [List.getElem?_set_self (by rw [h.len]; exact hil)] at hu
      rw [List.getElem?_set_ne hne] at ht
      injection hu with hu
      subst hu
      have e5 : g5 = g' := by simpa [Value.ownBlock] using hb
      exact key s t g' hne ht hb' e5.symm
    · rw [List.getElem?_set_ne hir] at hu
      by_cases his : i = s
      · subst his
        rw [List.getElem?_set_self (by rw [h.len]; exact hil)] at ht
        injection ht with ht
        subst ht
        have e5 : g5 = g' := by simpa [Value.ownBlock] using hb'
        exact key r u g' hir hu hb e5.symm
      · rw [List.getElem?_set_ne his] at ht
        exact h.apart r s u t g' hne hu ht hb hb'
end Go.Proofs.Ytdgdanpkekcckaa
