/-
  The list of stages in reverse: slices.Reverse in place, and the model's list.
-/
import Derived.Test.YtchimobmkmgkmaaTqT
namespace Go.Proofs.Ytchimobmkmgkmaa
open Go.RowKit Fld
set_option linter.unusedVariables false
set_option linter.unusedSimpArgs false
set_option maxRecDepth 100000

/-- the list 0 .. n-1 with its first and last k turned -/
def rvN (n k : Nat) : List Nat := (List.range n).map fun p => if p < k ∨ n - k ≤ p then n - 1 - p else p
theorem rvN_length (n k : Nat) : (rvN n k).length = n := by simp [rvN]
theorem rvN_all : (List.range 9).all (fun n => (List.range 9).all fun k =>
    (if 2 * k + 1 < n then decide ((rvN n k)[k]? = some k ∧ (rvN n k)[n - 1 - k]? = some (n - 1 - k) ∧ ((rvN n k).set k (n - 1 - k)).set (n - 1 - k) k = rvN n (k + 1)) else (if 2 * k ≤ n ∧ n ≤ 2 * k + 1 then decide (rvN n k = (List.range n).reverse) else true)) && decide (rvN n 0 = List.range n)) = true := by decide +kernel
theorem rvN_at {n k : Nat} (hn : n ≤ 8) (hk : k ≤ 8) : (2 * k + 1 < n → (rvN n k)[k]? = some k ∧ (rvN n k)[n - 1 - k]? = some (n - 1 - k) ∧ ((rvN n k).set k (n - 1 - k)).set (n - 1 - k) k = rvN n (k + 1)) ∧ (2 * k ≤ n → n ≤ 2 * k + 1 → rvN n k = (List.range n).reverse) ∧ rvN n 0 = List.range n := by
  have h := rvN_all
  rw [List.all_eq_true] at h
  have h2 := h n (List.mem_range.2 (by omega))
  rw [List.all_eq_true] at h2
  have h3 := h2 k (List.mem_range.2 (by omega))
  rw [Bool.and_eq_true] at h3
  refine ⟨fun hlt => ?_, fun h5 h6 => ?_, of_decide_eq_true h3.2⟩
  · have h4 := h3.1
    rw [if_pos hlt] at h4
    exact of_decide_eq_true h4
  · have h4 := h3.1
    rw [if_neg (by omega), if_pos ⟨h5, h6⟩] at h4
    exact of_decide_eq_true h4
theorem idx_set (is : List Nat) (k i : Nat) : (idx is).set k (i : Int) = idx (is.set k i) := by unfold idx; rw [List.map_set]
set_option maxHeartbeats 1000000 in
theorem reverse_any (base g n cap : Nat) (w : World) (h1 : 1 ≤ n) (hn : n ≤ 8) (h : w.ownsRow base 2 1 (.slice (some ⟨g, 0, none⟩) n cap) n (ints (idx (List.range n)))) :
    Calls Try.prog 109 #[.slice (some ⟨g, 0, none⟩) n cap] w fun e w' => e = .returned (.tuple #[]) ∧ w'.ownsRow base 2 1 (.slice (some ⟨g, 0, none⟩) n cap) n (ints (idx (List.range n).reverse)) ∧ w.grownBy w' (some g) := by
  have F0 : Hid (w.ownsRow base 2 1 (.slice (some ⟨g, 0, none⟩) n cap) n (ints (idx (rvN n 0))) ∧ w.grownBy w (some g)) := by rw [(rvN_at hn (Nat.zero_le 8)).2.2]; exact ⟨h, World.grownBy.refl _ _⟩
  clear h
  go_enter Try.func109, Try.ntmps109
  go_wp2_with fail
  go_loopw [2, 3] (fun i j wr => ∃ k : Nat, 2 * k ≤ n ∧ i = .int .i64 k ∧ j = .int .i64 ((n : Int) - 1 - k) ∧ Hid (wr.ownsRow base 2 1 (.slice (some ⟨g, 0, none⟩) n cap) n (ints (idx (rvN n k))) ∧ w.grownBy wr (some g))) (fun i _ _ => n - (intOf i).toNat)
  case atStart => exact ⟨0, by omega, rfl, by go_num, F0⟩
  case round =>
    obtain ⟨k, hk, rfl, rfl, HF⟩ := hrel
    by_cases hlt : 2 * k + 1 < n
    · obtain ⟨e1, e2, e3⟩ := (rvN_at hn (show k ≤ 8 by omega)).1 hlt
      obtain ⟨j, hj⟩ : ∃ j : Nat, j = n - 1 - k := ⟨_, rfl⟩
      have hjI : ((n : Int) - 1 - k) = (j : Int) := by omega
      rw [← hj] at e2 e3
      rw [hjI]
      have c1 := HF.out.1.cellAt k (by omega)
      have c2 := HF.out.1.cellAt j (by omega)
      have f1 := HF.out.1.frozenAt k
      have f2 := HF.out.1.frozenAt j
      rw [ints_at (idx_at e1)] at c1
      rw [ints_at (idx_at e2)] at c2
      have hjn : j < n := by omega
      have hkj : (k : Int) < (j : Int) := by omega
      have hji : ((j : Int) - 1) = (n : Int) - 1 - ((k : Int) + 1) := by omega
      have HJI := Lib.hid hji
      have G : Hid (∀ m, (((wr.drewN m).setCell ⟨g, k, none⟩ (.int .i64 j)).setCell ⟨g, j, none⟩ (.int .i64 k)).ownsRow base 2 1 (.slice (some ⟨g, 0, none⟩) n cap) n (ints (idx (rvN n (k + 1)))) ∧ w.grownBy (((wr.drewN m).setCell ⟨g, k, none⟩ (.int .i64 j)).setCell ⟨g, j, none⟩ (.int .i64 k)) (some g)) := fun m => by
        have hd : (wr.drewN m).ownsRow base 2 1 (.slice (some ⟨g, 0, none⟩) n cap) n (ints (idx (rvN n k))) := HF.out.1
        obtain ⟨h1, h2⟩ := hd.stored k (.int .i64 j)
        obtain ⟨h3, h4⟩ := h1.stored j (.int .i64 k)
        have hs : ((ints (idx (rvN n k))).set k (.int .i64 j)).set j (.int .i64 k) = ints (idx (rvN n (k + 1))) := by
          rw [← e3, ← idx_set, ← idx_set]; unfold ints intsK; rw [List.map_set, List.map_set]
        rw [hs] at h3
        have hg0 : w.grownBy (wr.drewN m) (some g) := ⟨HF.out.2.os, HF.out.2.tape, HF.out.2.output, HF.out.2.size, HF.out.2.block⟩
        exact ⟨h3, grownBy_trans hg0 (grownBy_trans h2 h4)⟩
      have hj1 : IntKind.i64.wrap ((j : Int) - 1) = (j : Int) - 1 := IntWalk.i64_in _ (by omega)
      have hjm : 1 ≤ j := by omega
      clear HF F0 e1 e2 e3 hji hj hjI
      go_wp2_with fail
      go_region
      go_wp2
      go_roundw
      case rel => exact ⟨k + 1, by omega, by go_num, by rw [HJI.out]; go_num, G.out _⟩
      case measure => simp [intOf]; omega
    · have e := (rvN_at hn (show k ≤ 8 by omega)).2.1 hk (by omega)
      rw [e] at HF
      have hkk : ¬ ((k : Int) < (n : Int) - 1 - k) := by omega
      clear F0
      go_wp2
      go_end0
      exact ⟨rfl, HF.out.1, HF.out.2⟩
theorem range_rev_at {n j : Nat} (h : j < n) : (List.range n).reverse[j]? = some (n - 1 - j) := by
  rw [List.getElem?_reverse (by simpa using h), List.length_range, List.getElem?_range (by omega)]
set_option maxHeartbeats 1000000 in
theorem l10Backwards_any (n : Nat) (w : World) (hn : n ≤ 8) : Calls Try.prog 71 #[.int .i64 (n : Int)] w (NewRow 2 n (ints (idx (List.range n).reverse)) w) := by
  obtain ⟨i0, hi, hz0, hz1, hz2⟩ := info_parts info_i64
  have HAL : Hid ((idx (List.range n).reverse).length = n) := by simp [Hid, idx]
  go_enter Try.func71, Try.ntmps71
  go_wp2_with fail
  go_loopw [3, 4] (fun v i wr => ∃ j g cap : Nat, j ≤ n ∧ v = .slice (some ⟨g, 0, none⟩) j cap ∧ i = .int .i64 ((n : Int) - 1 - j) ∧ Growing w 2 g j cap (ints ((idx (List.range n).reverse).take j)) wr) (fun _ i _ => ((intOf i) + 1).toNat)
  case atStart => exact ⟨0, _, 0, Nat.zero_le _, rfl, by go_num, Growing.start ..⟩
  case round =>
    obtain ⟨j, g, cap, hj, rfl, rfl, HF⟩ := hrel
    by_cases hlt : j < n
    · have HF' := Lib.hid HF
      have hown := HF.1
      have hpos : (0 : Int) ≤ (n : Int) - 1 - j := by omega
      have hwr : IntKind.i64.wrap ((n : Int) - 1 - j - 1) = (n : Int) - 1 - j - 1 := IntWalk.i64_in _ (by omega)
      have hx : (idx (List.range n).reverse)[j]? = some ((n : Int) - 1 - j) := by
        rw [idx_at (range_rev_at hlt)]; congr 1; omega
      have HC := Lib.hid (grow_ints hx)
      clear HF hx
      go_wp2_with (at_builtin; refine wpList_append_lies _ rfl (.tmp 12) (.tmp 14) 23 rfl w.heap.size 2 i0 _ 1 8 Try.underlying23 hi hz0 hz1 hz2 rfl (by omega) (.slice (some ⟨g, 0, none⟩) j cap) j (ints ((idx (List.range n).reverse).take j)) rfl (hown.alloc _) ⟨wr.heap.size, 0, none⟩ 1 1 [.int .i64 ((n : Int) - 1 - j)] rfl rfl (World.news_of_block (cs := #[.int .i64 ((n : Int) - 1 - j)]) (heap_alloc_new _ _)) (by simp [Value.oneCell']) (by omega) (by simp only [maxLen]; omega) (by omega) (by simp; have := HF'.out.2.size; omega) (wr.heap.size + 1) (by simp) ?_; intro g2 cap2 w2 hown2 hgrow2 hat2 hlt2)
      rw [HC.out] at hown2
      have G := Lib.hid (HF'.out.step ((Below.refl _ _).alloc (Nat.le_refl _) _) hown2 hgrow2)
      clear hown2 hgrow2 hat2 hown
      go_wp2
      go_roundw
      case rel => exact ⟨j + 1, _, _, by omega, rfl, by push_cast; congr 1; omega, G.out⟩
      case measure => simp [intOf]; omega
    · obtain rfl : j = n := by omega
      have e : (idx (List.range j).reverse).take j = idx (List.range j).reverse := List.take_of_length_le (by rw [HAL.out]; omega)
      rw [e] at HF
      have G := Lib.hid HF.done
      have hpos : ¬ (0 : Int) ≤ (j : Int) - 1 - j := by omega
      clear HF
      go_wp2
      go_ret
      exact G.out
end Go.Proofs.Ytchimobmkmgkmaa
