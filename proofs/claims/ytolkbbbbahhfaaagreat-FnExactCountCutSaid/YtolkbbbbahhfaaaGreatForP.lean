/-
  Sorting texts and sorting lists agree.
-/
import Derived.Test.YtolkbbbbahhfaaaGreatForest
import Derived.Test.YtolkbbbbahhfaaaGreatForestS
import Derived.Test.YtolkbbbbahhfaaaGreatSort
import Derived.Test.YtolkbbbbahhfaaaGreatSrtF
import Derived.Test.YtolkbbbbahhfaaaGreatAre
import Derived.Test.YtolkbbbbahhfaaaGreatTreesOfT
import Derived.Test.YtolkbbbbahhfaaaGreatTreeC8
namespace Go.Proofs.YtolkbbbbahhfaaaGreat
open Go.RowKit Fld
set_option linter.unusedVariables false
set_option linter.unusedSimpArgs false
set_option maxRecDepth 100000

theorem leT_tr {s t : List Int} (hs : isTr s = true) (ht : isTr t = true) : Tr.leT (Tr.txt s) (Tr.txt t) = !Tr.beforeL t s := by
  rw [← cmp_tr hs ht]
  unfold Tr.leT
  by_cases h : Tr.cmpT (Tr.txt s) (Tr.txt t) ≤ 0
  · rw [decide_eq_true h, decide_eq_false (by omega)]; rfl
  · rw [decide_eq_false h, decide_eq_true (by omega)]; rfl
theorem insB_perm (p : List Int) : ∀ S : List (List Int), (Tr.insB p S).Perm (p :: S)
  | [] => List.Perm.refl _
  | a :: r => by
    rw [Tr.insB]; split
    · exact List.Perm.refl _
    · exact ((insB_perm p r).cons a).trans (List.Perm.swap p a r)
theorem insB_sorted {p : List Int} (hp : isTr p = true) : ∀ {S : List (List Int)}, (∀ s ∈ S, isTr s = true) → S.Pairwise (fun a b => Tr.leT (Tr.txt a) (Tr.txt b) = true) → (Tr.insB p S).Pairwise (fun a b => Tr.leT (Tr.txt a) (Tr.txt b) = true)
  | [], _, _ => by simp [Tr.insB]
  | a :: r, hs, h => by
    have ha := hs a (by simp)
    rw [List.pairwise_cons] at h
    rw [Tr.insB]; split
    · rename_i hb
      have h1 : Tr.leT (Tr.txt p) (Tr.txt a) = true := by rw [leT_tr hp ha, beforeL_asym hb]; rfl
      rw [List.pairwise_cons, List.pairwise_cons]
      refine ⟨fun b hbm => ?_, h⟩
      rw [List.mem_cons] at hbm
      rcases hbm with rfl | hbm
      · exact h1
      · exact Tr.leT_tr h1 (h.1 b hbm)
    · rename_i hb
      have hb' : Tr.beforeL p a = false := by simpa using hb
      rw [List.pairwise_cons]
      refine ⟨fun b hbm => ?_, insB_sorted hp (fun s h => hs s (by simp [h])) h.2⟩
      rcases insB_mem hbm with rfl | hbm
      · rw [leT_tr ha hp, hb']; rfl
      · exact h.1 b hbm
theorem fold_ins : ∀ (L acc : List (List Int)), (∀ s ∈ L, isTr s = true) → (∀ s ∈ acc, isTr s = true) → acc.Pairwise (fun a b => Tr.leT (Tr.txt a) (Tr.txt b) = true) → (L.foldl (fun o p => Tr.insB p o) acc).Pairwise (fun a b => Tr.leT (Tr.txt a) (Tr.txt b) = true) ∧ (L.foldl (fun o p => Tr.insB p o) acc).Perm (L ++ acc)
  | [], acc, _, _, h => ⟨h, List.Perm.refl _⟩
  | p :: L, acc, hL, ha, h => by
    have hp := hL p (by simp)
    have := fold_ins L (Tr.insB p acc) (fun s hs => hL s (by simp [hs])) (fun s hs => by
      rcases insB_mem hs with rfl | hs
      · exact hp
      · exact ha s hs) (insB_sorted hp ha h)
    refine ⟨this.1, this.2.trans ?_⟩
    exact ((insB_perm p acc).append_left L).trans List.perm_middle
theorem sortL_perm {L : List (List Int)} (hL : ∀ s ∈ L, isTr s = true) : (Tr.sortL L).Perm L := by
  have := (fold_ins L [] hL (fun s hs => by cases hs) List.Pairwise.nil).2
  rwa [List.append_nil] at this
theorem sortL_text {L : List (List Int)} (hL : ∀ s ∈ L, isTr s = true) : (Tr.sortT (L.map Tr.txt)).map Tr.lvl = Tr.sortL L := by
  have h1 := (fold_ins L [] hL (fun s hs => by cases hs) List.Pairwise.nil).1
  have h2 := sortL_perm hL
  have e : (Tr.sortL L).map Tr.txt = Tr.sortT (L.map Tr.txt) :=
    List.Perm.eq_of_pairwise (le := fun a b => Tr.leT a b = true) (fun a b _ _ h k => Tr.leT_as h k) (List.pairwise_map.2 h1) (sortT_sorted _) ((h2.map Tr.txt).trans (sortT_perm _).symm)
  rw [← e, List.map_map]
  refine (List.map_congr_left fun t ht => ?_).trans (List.map_id _)
  obtain ⟨g1, g2⟩ := tr_lv (hL t (h2.mem_iff.1 ht))
  show Tr.lvl (Tr.txt t) = t
  rw [(lv_txt g1).1, g2]
theorem tr_can {t : List Int} (h : Tr.isLv t = true) : isTr (Tr.can t) = true := by
  unfold isTr eqL
  rw [(lv_can h).1, (Tr.can_can h).1]; simp
theorem sortL_can {L : List (List Int)} (hL : ∀ s ∈ L, Tr.isLv s = true) : (Tr.sortT (L.map Tr.txt)).map Tr.lvl = Tr.sortL (L.map Tr.can) := by
  rw [← sortL_text (L := L.map Tr.can) (fun s hs => by
    rw [List.mem_map] at hs
    obtain ⟨t, ht, rfl⟩ := hs
    exact tr_can (hL t ht)), List.map_map]
  congr 2
  refine List.map_congr_left fun t ht => ?_
  exact (Tr.can_can (hL t ht)).2.symm
theorem total_perm {L M : List (List Int)} (h : L.Perm M) : total L = total M := by
  unfold total
  exact (h.map List.length).sum_nat
theorem total_can {L : List (List Int)} (hL : ∀ s ∈ L, Tr.isLv s = true) : total (L.map Tr.can) = total L := by
  unfold total
  rw [List.map_map]
  congr 1
  refine List.map_congr_left fun t ht => ?_
  exact (lv_can (hL t ht)).2
theorem allLvM_mem {m : List (List Int)} (h : allLvM m = true) : ∀ r ∈ m, Tr.isLv r = true := by
  unfold allLvM at h
  rw [List.all_eq_true] at h
  exact h
theorem row_le_total {m : List (List Int)} : ∀ r ∈ m, r.length ≤ total m := fun r hr => by
  obtain ⟨k, hk⟩ := List.mem_iff_getElem?.1 hr
  exact row_total hk
def forestA (L : List (List Int)) : List (List Int) × Int := if allLvM L = true then (if total L ≤ 8 then (Tr.sortL (L.map Tr.can), 0) else ([], 3)) else ([], 1)
theorem forestA_no {L : List (List Int)} (h : allLvM L = false) : forestA L = ([], 1) := if_neg (by rw [h]; simp)
theorem forestA_big {L : List (List Int)} (h : allLvM L = true) (h8 : ¬ total L ≤ 8) : forestA L = ([], 3) := by unfold forestA; rw [if_pos h, if_neg h8]
theorem forestA_yes {L : List (List Int)} (h : allLvM L = true) (h8 : total L ≤ 8) : forestA L = (Tr.sortL (L.map Tr.can), 0) := by unfold forestA; rw [if_pos h, if_pos h8]
theorem forest_size {L : List (List Int)} (h : allLvM L = true) (h8 : total L ≤ 8) : L.length ≤ 8 ∧ (Tr.sortL (L.map Tr.can)).length = L.length ∧ (Tr.sortL (L.map Tr.can)).length + total (Tr.sortL (L.map Tr.can)) ≤ 1048576 := by
  have hm := allLvM_mem h
  have h1 := len_total (f := L) (fun r hr => (lv_bd (hm r hr)).1)
  have hp := sortL_perm (L := L.map Tr.can) (fun s hs => by
    rw [List.mem_map] at hs
    obtain ⟨t, ht, rfl⟩ := hs
    exact tr_can (hm t ht))
  have h2 := hp.length_eq
  rw [List.length_map] at h2
  rw [total_perm hp, total_can hm]
  exact ⟨by omega, h2, by omega⟩
def timesA (f g : List (List Int)) : List (List Int) × Int := if isFor f = true ∧ isFor g = true then (if total f + total g ≤ 8 then (Tr.sortL (f ++ g), 0) else ([], 3)) else ([], 1)
theorem timesA_no1 {f g : List (List Int)} (h : isFor f = false) : timesA f g = ([], 1) := if_neg (by rw [h]; simp)
theorem timesA_no2 {f g : List (List Int)} (h : isFor g = false) : timesA f g = ([], 1) := if_neg (by rw [h]; simp)
theorem timesA_big {f g : List (List Int)} (h : isFor f = true) (k : isFor g = true) (h8 : ¬ total f + total g ≤ 8) : timesA f g = ([], 3) := by unfold timesA; rw [if_pos ⟨h, k⟩, if_neg h8]
theorem timesA_yes {f g : List (List Int)} (h : isFor f = true) (k : isFor g = true) (h8 : total f + total g ≤ 8) : timesA f g = (Tr.sortL (f ++ g), 0) := by unfold timesA; rw [if_pos ⟨h, k⟩, if_pos h8]
theorem total_app (f g : List (List Int)) : total (f ++ g) = total f + total g := by simp [total]
theorem times_size {f g : List (List Int)} (h : isFor f = true) (k : isFor g = true) (h8 : total f + total g ≤ 8) : f.length + g.length ≤ 8 ∧ (Tr.sortL (f ++ g)).length = f.length + g.length ∧ (Tr.sortL (f ++ g)).length + total (Tr.sortL (f ++ g)) ≤ 1048576 ∧ (Tr.sortT (f.map Tr.txt ++ g.map Tr.txt)).map Tr.lvl = Tr.sortL (f ++ g) := by
  have hm : ∀ r ∈ f ++ g, isTr r = true := fun r hr => by
    rw [List.mem_append] at hr
    rcases hr with hr | hr
    · exact for_rows h r hr
    · exact for_rows k r hr
  have h1 := len_total (f := f ++ g) (fun r hr => (lv_bd (tr_lv (hm r hr)).1).1)
  have hp := sortL_perm hm
  have h2 := hp.length_eq
  have h3 := sortL_text hm
  rw [total_perm hp]
  rw [List.length_append, total_app] at h1
  rw [List.length_append] at h2
  rw [total_app]
  rw [List.map_append] at h3
  exact ⟨by omega, h2, by omega, h3⟩
end Go.Proofs.YtolkbbbbahhfaaaGreat
