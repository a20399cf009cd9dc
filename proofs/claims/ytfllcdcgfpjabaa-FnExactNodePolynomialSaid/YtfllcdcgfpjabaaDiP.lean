/-
  Lists of different numbers, the program's test: areDifferent, codeOfNodes.
-/
import Derived.Test.YtfllcdcgfpjabaaVls
import Derived.Test.YtfllcdcgfpjabaaCpt
import Derived.Test.YtfllcdcgfpjabaaDiM
import Derived.Test.YtfllcdcgfpjabaaTests
namespace Go.Proofs.Ytfllcdcgfpjabaa
open Go.RowKit Fld
set_option linter.unusedVariables false
set_option linter.unusedSimpArgs false
set_option maxRecDepth 100000

theorem sorted_nodup : ∀ l : List Int, l.Pairwise (fun a b => leZ a b = true) → Adj l → l.Nodup
  | [], _, _ => by simp
  | [x], _, _ => by simp
  | x :: y :: r, hp, ha => by
    rw [List.pairwise_cons] at hp
    have hxy : x ≠ y := ha 0 x y rfl rfl
    have ih := sorted_nodup (y :: r) hp.2 (fun j u v hu hv => ha (j + 1) u v (by rw [List.getElem?_cons_succ]; exact hu) (by rw [List.getElem?_cons_succ]; exact hv))
    rw [List.nodup_cons]
    refine ⟨fun hm => ?_, ih⟩
    rw [List.mem_cons] at hm
    rcases hm with h | h
    · exact hxy h
    · have h1 : leZ x y = true := hp.1 y (by simp)
      have h2 := hp.2
      rw [List.pairwise_cons] at h2
      exact hxy (leZ_as h1 (h2.1 x h))
theorem nodup_adj {l : List Int} (h : l.Nodup) : Adj l := fun j x y hx hy e => by
  subst e
  have hlt := (List.getElem?_eq_some_iff.1 hx).1
  have := (List.getElem?_inj hlt h).1 (hx.trans hy.symm)
  omega
theorem adj_sort (ns : List Int) : Adj (sortZ ns) ↔ ns.Nodup :=
  ⟨fun h => (sortZ_perm ns).nodup_iff.1 (sorted_nodup _ (sortZ_sorted ns) h), fun h => nodup_adj ((sortZ_perm ns).nodup_iff.2 h)⟩
set_option maxHeartbeats 1000000 in
theorem areDifferent_any (A : Option Addr) (n c B : Nat) (ns : List Int) (w : World) (hl : ns.length = n) (hn : n ≤ 12) (hB : B ≤ w.heap.size) (h : Row w B A (ints ns)) :
    Calls Try.prog 64 #[.slice A n c] w fun e w' => e = .returned (.bool (decide ns.Nodup)) ∧ Below w.heap.size w w' := by
  obtain ⟨W0, hW0⟩ : ∃ W0, W0 = w.alloc (.cells #[.slice A n c] 63) := ⟨_, rfl⟩
  have b0 : Below w.heap.size w W0 := by rw [hW0]; exact (Below.refl _ _).alloc (Nat.le_refl _) _
  have hs0 : W0.heap.size = w.heap.size + 1 := by rw [hW0]; simp
  have hc0 : W0.cell? ⟨w.heap.size, 0, none⟩ = some (.slice A n c) := by rw [hW0, cell_of_row _ _ 0 _ _ _ (heap_alloc_new w _)]; rfl
  have CV := values_any A n c w
  rw [← hW0] at CV
  have CS := sorted_any A n c B w.heap.size ns W0 hl hn (by omega) (by omega) hc0 (h.below b0 hB)
  have hz := b0.size
  have HB := Lib.hid b0
  have HP : Hid (Adj (sortZ ns) ↔ ns.Nodup) := adj_sort ns
  clear hl h hW0 hs0 hc0 b0
  go_enter Try.func64, Try.ntmps64
  go_wp2_with fail
  refine CV.mono ?_
  rintro e w1 ⟨rfl, rfl⟩
  go_wp2_with fail
  refine CS.mono ?_
  rintro e w2 ⟨A2, c2, rfl, own2, b2⟩
  have C3 := compact_any A2 w1.heap.size n c2 (sortZ ns) w2 hn b2.size own2
  have HB2 := Lib.hid (HB.out.trans (b2.mono hz))
  clear CV CS own2 b2
  go_wp2_with fail
  refine C3.mono ?_
  rintro e w3 ⟨⟨A4, q, c4, rfl, hq⟩, b4⟩
  have HB4 := Lib.hid (HB2.out.trans (b4.mono hz))
  have G : Hid (decide ((q : Int) = (n : Int)) = decide ns.Nodup) := decide_eq_decide.2 ⟨fun h => HP.out.1 (hq.1 (by omega)), fun h => by have := hq.2 (HP.out.2 h); omega⟩
  clear C3 hq b4
  go_wp2
  go_ret
  exact ⟨ret_bool G.out, HB4.out⟩
end Go.Proofs.Ytfllcdcgfpjabaa
