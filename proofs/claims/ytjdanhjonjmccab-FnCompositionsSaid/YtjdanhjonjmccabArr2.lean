/-
  Series as arrays of the program: shifted, derived, integrated; the exponential.
-/
import Derived.Test.YtjdanhjonjmccabArr
namespace Go.Proofs.Ytjdanhjonjmccab
open Go.RowKit Fld Ser
set_option linter.unusedVariables false
set_option linter.unusedSimpArgs false
set_option maxRecDepth 100000

theorem co_drop (xs : List Int) (m k : Nat) : co (xs.drop m) k = co xs (k + m) := by
  unfold co
  rw [List.getD_eq_getElem?_getD, List.getD_eq_getElem?_getD, List.getElem?_drop, Nat.add_comm]
theorem allNum_drop {xs : List Int} (h : allNum xs = true) (m : Nat) : allNum (xs.drop m) = true := by
  rw [allNum_iff] at *
  exact fun x hx => h x (List.mem_of_mem_drop hx)
theorem ArrAt.src {w : World} {g m : Nat} {xs : List Int} (h : ArrAt w g xs) (hm : 0 < m) : ∀ j v, (ints (xs.drop m))[j]? = some v → w.cell? ((⟨g, m, none⟩ : Addr).add j) = some v := fun j v hv => by
  have e : (⟨g, m, none⟩ : Addr).add j = ⟨g, m + j, none⟩ := by unfold Addr.add; split <;> simp_all
  rw [e, cell_of_row w g (m + j) _ _ _ h]
  unfold ints intsK at hv
  rw [List.getElem?_map, List.getElem?_drop] at hv
  simpa [arr, ints, intsK] using hv
theorem ArrAt.src0 {w : World} {g n : Nat} {xs : List Int} (h : ArrAt w g xs) : ∀ j v, (ints (xs.take n))[j]? = some v → w.cell? ((⟨g, 0, none⟩ : Addr).add j) = some v := fun j v hv => by
  have e : (⟨g, 0, none⟩ : Addr).add j = ⟨g, j, none⟩ := by unfold Addr.add; split <;> simp_all
  rw [e, cell_of_row w g j _ _ _ h]
  unfold ints intsK at hv
  rw [List.getElem?_map] at hv
  have hj : j < n := by
    rcases Nat.lt_or_ge j n with g | g
    · exact g
    · rw [List.getElem?_eq_none (by simp; omega)] at hv; simp at hv
  rw [List.getElem?_take, if_pos hj] at hv
  simpa [arr, ints, intsK] using hv

set_option maxHeartbeats 1000000 in
theorem loweredS_any (xs : List Int) (w : World) (hl : xs.length = 16) (ha : allNum xs = true) :
    Calls Try.prog 119 #[.agg (arr xs)] w fun e w' => e = .returned (.agg (arr (cl 16 (fun k => co xs (k + 1))))) ∧ Below w.heap.size w w' := by
  have HS : Hid (splice (ints zero16) 0 (ints (xs.drop 1)) = ints (cl 16 (fun k => co xs (k + 1)))) := by
    unfold Hid
    rw [splice_of (xs := xs.drop 1) (by rw [List.length_drop]; omega) (allNum_drop ha 1)]
    congr 1
    exact cl_cg (fun k _ => Eqm.of_eq (co_drop xs 1 k))
  have HL := Lib.hid hl
  have HLD : Hid ((ints (xs.drop 1)).length = 15) := by unfold Hid; rw [ints_length, List.length_drop, hl]
  clear hl ha
  go_enter Try.func119, Try.ntmps119
  go_wp2_with fail
  have F := Lib.hid (arr_three w xs zero16 zero16)
  obtain ⟨W0, hW0⟩ : ∃ W0 : World, W0 = ((w.alloc (.cells (arr xs) 65)).alloc (.cells (arr zero16) 65)).alloc (.cells (arr zero16) 65) := ⟨_, rfl⟩
  have HW0 : Hid (W0.heap.size = w.heap.size + 3) := by rw [hW0]; simp [Hid]
  change Code.wp _ _ _ _ (((w.alloc (.cells (arr xs) 65)).alloc (.cells (arr zero16) 65)).alloc (.cells (arr zero16) 65))
  rw [← hW0] at F ⊢
  clear hW0
  go_region_held3 (fun w' => True) (first | trivial)
    (first
      | (refine step_copy_splice (by rfl) (.tmp 4) (.tmp 5) 81 81 (by rfl) 63 Try.underlying81 info_num (some ⟨w.heap.size + 1 + 1, 0, none⟩) (some ⟨w.heap.size, 1, none⟩) 16 16 15 15 (by rfl) (by rfl) (w.heap.size + 1 + 1) 0 (ints zero16) 65 (by exact F.out.2.2.1) (ints (xs.drop 1)) (by rw [HLD.out]; rfl) (fun h0 => ⟨rfl, _, rfl, by exact F.out.1.src (by omega)⟩) (by rw [HLD.out]; simp [ints_length, zero16]) (ints_cells _) (w.heap.size + 1 + 1) W0 (by exact ⟨rfl, rfl, rfl, Nat.le_refl _, fun _ _ => rfl⟩) (Nat.le_refl _) ?_; intro w4 hg4 hb4))
  have G4 : Hid (ArrAt w4 (w.heap.size + 1 + 1) (cl 16 (fun k => co xs (k + 1)))) := by have := hg4.out; rw [HS.out] at this; exact this
  have G5 := Lib.hid (F.out.2.1.below hb4 (by omega))
  have G6 := Lib.hid (F.out.2.2.2.trans (hb4.mono (show w.heap.size ≤ w.heap.size + 1 + 1 by omega)))
  clear hg4 hb4
  go_wp2_with (first
    | (refine wpList_load_row rfl 65 (.tmp 3) rfl (w.heap.size + 1 + 1) rfl 65 (arr (cl 16 (fun k => co xs (k + 1)))) (0, 0) _ G4.out Try.underlying65 rfl (by rw [arr_size (cl_length _ _)]; exact info_arr) ?_)
    | (refine wpList_store_row rfl 65 (.tmp 2) (.tmp 7) rfl (w.heap.size + 1) (arr (cl 16 (fun k => co xs (k + 1)))) rfl rfl 65 (arr zero16) G5.out (by rw [arr_size (cl_length _ _)]; exact info_arr) (by rw [arr_size (cl_length _ _)]; rfl) (arr_cells _) ?_))
  refine bodyPost_ret (v := .agg (arr (cl 16 (fun k => co xs (k + 1))))) ?_ rfl ⟨rfl, below_setRow G6.out (by omega) _⟩
  exact results_cell_row rfl _ _ (w.heap.size + 1) 65 _ (0, 0) _ rfl (setRow_heap _ _ _ _ _ _ G5.out) Try.underlying65 rfl (by rw [arr_size (cl_length _ _)]; exact info_arr)
theorem dv_low {xs : List Int} (hl : xs.length = 16) : cl 16 (fun k => co (cl 16 (zd (co xs))) (k + 1)) = cl 16 (dv (co xs)) := cl_cg (fun k hk => by
  show Eqm (co (cl 16 (zd (co xs))) (k + 1)) (((k : Int) + 1) * co xs (k + 1))
  by_cases h : k + 1 < 16
  · rw [co_cl _ h]
    exact Eqm.mod _
  · rw [co_out (by rw [cl_length]; omega), co_out (by omega), Int.mul_zero]; exact Eqm.refl _)
set_option maxHeartbeats 1000000 in
theorem derivativeS_any (xs : List Int) (w : World) (hl : xs.length = 16) (ha : allNum xs = true) :
    Calls Try.prog 69 #[.agg (arr xs)] w fun e w' => e = .returned (.agg (arr (cl 16 (dv (co xs))))) ∧ Below w.heap.size w w' := by
  have HD := Lib.hid (dv_low hl)
  have HL := Lib.hid hl
  have HA := Lib.hid ha
  clear hl ha
  go_enter Try.func69, Try.ntmps69
  go_wp2_with fail
  have F := Lib.hid (arr_two w xs zero16)
  go_loopw [4] (fun i wr => ∃ k : Nat, k ≤ 16 ∧ i = .int .i64 k ∧ ArrAt wr w.heap.size ((cl 16 (zd (co xs))).take k ++ xs.drop k) ∧ ArrAt wr (w.heap.size + 1) zero16 ∧ Below w.heap.size w wr) (fun i _ => 16 - (intOf i).toNat)
  case atStart => exact ⟨0, by omega, rfl, F.out⟩
  case round =>
    obtain ⟨k, hk, rfl, H0, H2, HB⟩ := hrel
    by_cases hlt : k < 16
    · obtain ⟨x, hx⟩ := at_lt (show k < xs.length by rw [HL.out]; exact hlt)
      obtain ⟨x0, x1⟩ := num_at HA.out hx
      have hc := H0.cell (mix_at (us := cl 16 (zd (co xs))) (by rw [cl_length, HL.out]) hx)
      have hf := H0.free k
      have k0 : (0 : Int) ≤ (k : Int) := Int.natCast_nonneg _
      have k1 : (k : Int) < 16 := by omega
      have HE : Hid ((cl 16 (zd (co xs)))[k]? = some (x * k % 10007)) := by
        unfold Hid
        rw [cl_at _ hlt]
        show some (((k : Int) * co xs k) % 10007) = _
        rw [co_at hx, Int.mul_comm]
      have G := Lib.hid H0
      have G2 := Lib.hid H2
      have GB := Lib.hid HB
      have Gs := Lib.hid (H0.store (k := k) (x * k % 10007))
      clear hx H0 H2 HB F
      go_wp2_with (go_at_call 87; refine (times_any _ _ _ x0 x1 k0 (by omega)).mono ?_; rintro e w' ⟨rfl, rfl⟩)
      go_roundw
      case rel => exact ⟨k + 1, by omega, by go_num, by have := Gs.out; rw [mix_step (by rw [HL.out]; exact hlt) (by rw [cl_length, HL.out]) HE.out] at this; exact this, by exact G2.out.other (by omega) _, by exact below_set GB.out (Nat.le_refl _) _⟩
      case measure => simp [intOf]; omega
    · obtain rfl : k = 16 := by omega
      rw [mix_end (n := 16) (cl_length _ _) HL.out] at H0
      have G := Lib.hid H0
      have G2 := Lib.hid H2
      have GB := Lib.hid HB
      clear H0 H2 HB F
      go_wp2_with (refine wpList_load_row rfl 65 (.tmp 1) rfl w.heap.size rfl 65 (arr (cl 16 (zd (co xs)))) (0, 0) _ G.out Try.underlying65 rfl (by rw [arr_size (cl_length _ _)]; exact info_arr) ?_)
      refine (loweredS_any (cl 16 (zd (co xs))) _ (cl_length _ _) (cl_num _ _)).mono ?_
      rintro e w1 ⟨rfl, b1⟩
      rw [HD.out]
      have G3 := Lib.hid (G2.out.below b1 (G2.out.lt))
      have GB2 := Lib.hid (GB.out.trans (b1.mono GB.out.size))
      clear b1
      go_wp2_with (refine wpList_store_row rfl 65 (.tmp 2) (.tmp 16) rfl (w.heap.size + 1) (arr (cl 16 (dv (co xs)))) rfl rfl 65 (arr zero16) G3.out (by rw [arr_size (cl_length _ _)]; exact info_arr) (by rw [arr_size (cl_length _ _)]; rfl) (arr_cells _) ?_)
      refine bodyPost_ret (v := .agg (arr (cl 16 (dv (co xs))))) ?_ rfl ⟨rfl, below_setRow GB2.out (by omega) _⟩
      exact results_cell_row rfl _ _ (w.heap.size + 1) 65 _ (0, 0) _ rfl (setRow_heap _ _ _ _ _ _ G3.out) Try.underlying65 rfl (by rw [arr_size (cl_length _ _)]; exact info_arr)
/-- the integral -/
def itg (f : Nat → Int) : Nat → Int
  | 0 => 0
  | n+1 => f n * inv ((n : Int) + 1)
theorem splice_one {xs : List Int} (hl : xs.length = 16) : splice (ints zero16) 1 (ints (xs.take 15)) = ints (0 :: xs.take 15) := by
  have e : splice (ints zero16) 1 (ints (xs.take 15)) = ints ((0 :: xs.take 15) ++ zero16.drop 16) := by
    unfold splice ints intsK
    have : (xs.take 15).length = 15 := by rw [List.length_take]; omega
    simp [List.map_drop, this, zero16]
    omega
  rw [e]
  simp [zero16]
set_option maxHeartbeats 1000000 in
theorem integralS_any (xs : List Int) (w : World) (hl : xs.length = 16) (ha : allNum xs = true) :
    Calls Try.prog 71 #[.agg (arr xs)] w fun e w' => e = .returned (.agg (arr (cl 16 (itg (co xs))))) ∧ Below w.heap.size w w' := by
  have HS := Lib.hid (splice_one hl)
  have HL := Lib.hid hl
  have HA := Lib.hid ha
  have HLD : Hid ((ints (xs.take 15)).length = 15) := by unfold Hid; rw [ints_length, List.length_take, hl]; rfl
  have HLC : Hid ((0 :: xs.take 15).length = 16) := by unfold Hid; rw [List.length_cons, List.length_take, hl]; rfl
  clear hl ha
  go_enter Try.func71, Try.ntmps71
  go_wp2_with fail
  have F := Lib.hid (arr_three w xs zero16 zero16)
  obtain ⟨W0, hW0⟩ : ∃ W0 : World, W0 = ((w.alloc (.cells (arr xs) 65)).alloc (.cells (arr zero16) 65)).alloc (.cells (arr zero16) 65) := ⟨_, rfl⟩
  have HW0 : Hid (W0.heap.size = w.heap.size + 3) := by rw [hW0]; simp [Hid]
  change Code.wp _ _ _ _ (((w.alloc (.cells (arr xs) 65)).alloc (.cells (arr zero16) 65)).alloc (.cells (arr zero16) 65))
  rw [← hW0] at F ⊢
  clear hW0
  go_region_held3 (fun w' => True) (first | trivial)
    (first
      | (refine step_copy_splice (by rfl) (.tmp 5) (.tmp 6) 81 81 (by rfl) 63 Try.underlying81 info_num (some ⟨w.heap.size + 1 + 1, 1, none⟩) (some ⟨w.heap.size, 0, none⟩) 15 15 16 16 (by rfl) (by rfl) (w.heap.size + 1 + 1) 1 (ints zero16) 65 (by exact F.out.2.2.1) (ints (xs.take 15)) (by rw [HLD.out]; rfl) (fun h0 => ⟨rfl, _, rfl, by exact F.out.1.src0⟩) (by rw [HLD.out]; simp [ints_length, zero16]) (ints_cells _) (w.heap.size + 1 + 1) W0 (by exact ⟨rfl, rfl, rfl, Nat.le_refl _, fun _ _ => rfl⟩) (Nat.le_refl _) ?_; intro w4 hg4 hb4))
  rw [HLD.out, show goInt ((15 : Nat) : Int) = .int .i64 15 from rfl]
  have G4 : Hid (ArrAt w4 (w.heap.size + 1 + 1) ((cl 16 (itg (co xs))).take 1 ++ (0 :: xs.take 15).drop 1)) := by
    have := hg4.out
    rw [HS.out] at this
    have e : (cl 16 (itg (co xs))).take 1 ++ (0 :: xs.take 15).drop 1 = 0 :: xs.take 15 := rfl
    unfold Hid; rw [e]; exact this
  have G5 := Lib.hid (F.out.2.1.below hb4 (by omega))
  have G6 := Lib.hid (F.out.2.2.2.trans (hb4.mono (show w.heap.size ≤ w.heap.size + 1 + 1 by omega)))
  clear hg4 hb4
  go_wp2_with fail
  go_loopw [4] (fun i wr => ∃ k : Nat, 1 ≤ k ∧ k ≤ 16 ∧ i = .int .i64 k ∧ ArrAt wr (w.heap.size + 1 + 1) ((cl 16 (itg (co xs))).take k ++ (0 :: xs.take 15).drop k) ∧ ArrAt wr (w.heap.size + 1) zero16 ∧ Below w.heap.size w wr) (fun i _ => 16 - (intOf i).toNat)
  case atStart => exact ⟨1, by omega, by omega, rfl, G4.out, G5.out, G6.out⟩
  case round =>
    obtain ⟨k, hk1, hk, rfl, H0, H2, HB⟩ := hrel
    by_cases hlt : k < 16
    · obtain ⟨x, hx⟩ := at_lt (show k - 1 < xs.length by rw [HL.out]; omega)
      obtain ⟨x0, x1⟩ := num_at HA.out hx
      have hx' : (0 :: xs.take 15)[k]? = some x := by
        obtain ⟨m, rfl⟩ : ∃ m, k = m + 1 := ⟨k - 1, by omega⟩
        rw [List.getElem?_cons_succ, List.getElem?_take, if_pos (by omega)]; exact hx
      have hc := H0.cell (mix_at (us := cl 16 (itg (co xs))) (by rw [cl_length, HLC.out]) hx')
      have hf := H0.free k
      have k0 : (0 : Int) ≤ (k : Int) := Int.natCast_nonneg _
      have k1 : (k : Int) < 16 := by omega
      have HE : Hid ((cl 16 (itg (co xs)))[k]? = some (x * inv k % 10007)) := by
        unfold Hid
        rw [cl_at _ hlt]
        obtain ⟨m, rfl⟩ : ∃ m, k = m + 1 := ⟨k - 1, by omega⟩
        rw [Nat.add_sub_cancel] at hx
        show some ((co xs m * inv ((m : Int) + 1)) % 10007) = _
        rw [co_at hx]; rfl
      have G := Lib.hid H0
      have G2 := Lib.hid H2
      have GB := Lib.hid HB
      have Gs := Lib.hid (H0.store (k := k) (x * inv k % 10007))
      clear hx hx' H0 H2 HB F G4 G5 G6
      go_wp2_with (go_at_call 120; refine (over_any _ _ _ x0 x1 k0 (by omega)).mono ?_; rintro e w' ⟨rfl, rfl⟩)
      go_roundw
      case rel => exact ⟨k + 1, by omega, by omega, by go_num, by have := Gs.out; rw [mix_step (by rw [HLC.out]; exact hlt) (by rw [cl_length, HLC.out]) HE.out] at this; exact this, by exact G2.out.other (by omega) _, by exact below_set GB.out (by omega) _⟩
      case measure => simp [intOf]; omega
    · obtain rfl : k = 16 := by omega
      rw [mix_end (n := 16) (cl_length _ _) HLC.out] at H0
      have G := Lib.hid H0
      have G2 := Lib.hid H2
      have GB := Lib.hid HB
      clear H0 H2 HB F G4 G5 G6
      go_wp2_with (first
        | (refine wpList_load_row rfl 65 (.tmp 3) rfl (w.heap.size + 1 + 1) rfl 65 (arr (cl 16 (itg (co xs)))) (0, 0) _ G.out Try.underlying65 rfl (by rw [arr_size (cl_length _ _)]; exact info_arr) ?_)
        | (refine wpList_store_row rfl 65 (.tmp 2) (.tmp 19) rfl (w.heap.size + 1) (arr (cl 16 (itg (co xs)))) rfl rfl 65 (arr zero16) G2.out (by rw [arr_size (cl_length _ _)]; exact info_arr) (by rw [arr_size (cl_length _ _)]; rfl) (arr_cells _) ?_))
      refine bodyPost_ret (v := .agg (arr (cl 16 (itg (co xs))))) ?_ rfl ⟨rfl, below_setRow GB.out (by omega) _⟩
      exact results_cell_row rfl _ _ (w.heap.size + 1) 65 _ (0, 0) _ rfl (setRow_heap _ _ _ _ _ _ G2.out) Try.underlying65 rfl (by rw [arr_size (cl_length _ _)]; exact info_arr)
end Go.Proofs.Ytjdanhjonjmccab
