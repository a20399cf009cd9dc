/-
  Series as arrays of the program: blocks of sixteen cells.
-/
import Derived.Test.YtfllcdcgfpjabaaSlices
import Derived.Test.YtfllcdcgfpjabaaGrow
import Derived.Test.YtfllcdcgfpjabaaNest
import Derived.Test.YtfllcdcgfpjabaaSerl
import Derived.Laws.Rows
import Derived.Laws.Tables
import Derived.Laws.CopyOwn
import Derived.Deep.RegionLaw
import Derived.StillTailTactics
import Derived.IntWalk
namespace Go.Proofs.Ytfllcdcgfpjabaa
open Go.RowKit Fld Ser
set_option linter.unusedVariables false
set_option linter.unusedSimpArgs false
set_option maxRecDepth 100000

theorem info_arr : (Try.prog.info? 81).map (·.size) = some 16 := by kernel_rfl
/-- the cells of a series -/
def arr (xs : List Int) : Array Value := (ints xs).toArray
theorem arr_size {xs : List Int} (h : xs.length = 16) : (arr xs).size = 16 := by simp [arr, ints_length, h]
theorem arr_cells (xs : List Int) : (arr xs).all (·.oneCell') = true := by simp [arr, ints, intsK, Array.all_eq_true, Value.oneCell']
/-- block g is a series -/
def ArrAt (w : World) (g : Nat) (xs : List Int) : Prop := w.heap[g]? = some (.cells (arr xs) 81 (0, 0))
theorem ArrAt.cell {w : World} {g k : Nat} {xs : List Int} {x : Int} (h : ArrAt w g xs) (hx : xs[k]? = some x) : w.cell? ⟨g, k, none⟩ = some (.int .i64 x) := by
  rw [cell_of_row w g k _ _ _ h]
  simp [arr, ints_at hx]
theorem ArrAt.free {w : World} {g : Nat} {xs : List Int} (h : ArrAt w g xs) (k : Nat) : w.frozen? ⟨g, k, none⟩ = false := frozen_of_row w g k _ _ h
theorem ArrAt.lt {w : World} {g : Nat} {xs : List Int} (h : ArrAt w g xs) : g < w.heap.size := by
  rcases Nat.lt_or_ge g w.heap.size with h' | h'
  · exact h'
  · unfold ArrAt at h; simp [Array.getElem?_eq_none h'] at h
theorem ArrAt.store {w : World} {g k : Nat} {xs : List Int} (h : ArrAt w g xs) (x : Int) : ArrAt (w.setCell ⟨g, k, none⟩ (.int .i64 x)) g (xs.set k x) := by
  have := heap_setCell_same w g k _ _ (.int .i64 x) h
  unfold ArrAt
  rw [this]
  simp [arr, ints, intsK]
theorem ArrAt.other {w : World} {g g' k : Nat} {xs : List Int} (h : ArrAt w g xs) (hne : g ≠ g') (v : Value) : ArrAt (w.setCell ⟨g', k, none⟩ v) g xs := by
  unfold ArrAt
  rw [heap_setCell_other w ⟨g', k, none⟩ g v hne]; exact h
theorem ArrAt.alloc {w : World} {g : Nat} {xs : List Int} (h : ArrAt w g xs) (o : Obj) : ArrAt (w.alloc o) g xs := by
  unfold ArrAt
  rw [heap_alloc_old w o (ArrAt.lt h)]; exact h
theorem ArrAt.below {w w' : World} {g B : Nat} {xs : List Int} (h : ArrAt w g xs) (hb : Below B w w') (hg : g < B) : ArrAt w' g xs := by
  unfold ArrAt
  rw [hb.block g hg]; exact h
theorem ArrAt.drewN {w : World} {g : Nat} {xs : List Int} (h : ArrAt w g xs) (m : Nat) : ArrAt (w.drewN m) g xs := h
theorem ArrAt.new (w : World) (xs : List Int) : ArrAt (w.alloc (.cells (arr xs) 81)) w.heap.size xs := heap_alloc_new w _
theorem ArrAt.next {w : World} {g : Nat} (xs : List Int) (hg : w.heap.size = g) : ArrAt (w.alloc (.cells (arr xs) 81)) g xs := hg ▸ ArrAt.new w xs
/-- two and three series that were just made -/
theorem arr_two (w : World) (xs ys : List Int) : ArrAt ((w.alloc (.cells (arr xs) 81)).alloc (.cells (arr ys) 81)) w.heap.size xs ∧ ArrAt ((w.alloc (.cells (arr xs) 81)).alloc (.cells (arr ys) 81)) (w.heap.size + 1) ys ∧ Below w.heap.size w ((w.alloc (.cells (arr xs) 81)).alloc (.cells (arr ys) 81)) :=
  ⟨(ArrAt.new w xs).alloc _, ArrAt.next ys (by simp), ((Below.refl _ _).alloc (Nat.le_refl _) _).alloc (by simp) _⟩
theorem arr_three (w : World) (xs ys zs : List Int) : ArrAt (((w.alloc (.cells (arr xs) 81)).alloc (.cells (arr ys) 81)).alloc (.cells (arr zs) 81)) w.heap.size xs ∧ ArrAt (((w.alloc (.cells (arr xs) 81)).alloc (.cells (arr ys) 81)).alloc (.cells (arr zs) 81)) (w.heap.size + 1) ys ∧ ArrAt (((w.alloc (.cells (arr xs) 81)).alloc (.cells (arr ys) 81)).alloc (.cells (arr zs) 81)) (w.heap.size + 1 + 1) zs ∧ Below w.heap.size w (((w.alloc (.cells (arr xs) 81)).alloc (.cells (arr ys) 81)).alloc (.cells (arr zs) 81)) :=
  ⟨(arr_two w xs ys).1.alloc _, (arr_two w xs ys).2.1.alloc _, ArrAt.next zs (by simp), (arr_two w xs ys).2.2.alloc (by simp; omega) _⟩
def zero16 : List Int := List.replicate 16 0

/-- a mixed list: the first k from us, the others from xs -/
theorem mix_step {us xs : List Int} {k : Nat} {u : Int} (hk : k < xs.length) (hl : us.length = xs.length) (hu : us[k]? = some u) : (us.take k ++ xs.drop k).set k u = us.take (k + 1) ++ xs.drop (k + 1) := by
  have e1 : (us.take k).length = k := by simp; omega
  rw [List.set_append, if_neg (by omega), e1, Nat.sub_self, List.drop_eq_getElem_cons hk, List.set_cons_zero, List.take_add_one, hu]
  simp
theorem mix_at {us xs : List Int} {k : Nat} {x : Int} (hl : us.length = xs.length) (hx : xs[k]? = some x) : (us.take k ++ xs.drop k)[k]? = some x := by
  have hk : k < xs.length := by
    rcases Nat.lt_or_ge k xs.length with g | g
    · exact g
    · rw [List.getElem?_eq_none g] at hx; cases hx
  have e1 : (us.take k).length = k := by simp; omega
  rw [List.getElem?_append_right (by omega), e1, Nat.sub_self, List.getElem?_drop, Nat.add_zero]; exact hx
theorem mix_end {us xs : List Int} {n : Nat} (hl : us.length = n) (hx : xs.length = n) : us.take n ++ xs.drop n = us := by
  rw [List.take_of_length_le (by omega), List.drop_eq_nil_of_le (by omega), List.append_nil]

theorem stillC {P : Program} {f : FuncId} {args : Array Value} {w : World} {v : Value} (h : Calls P f args w fun e w' => e = .returned v ∧ w = w') : Calls P f args w fun e w' => e = .returned v ∧ w' = w :=
  h.mono fun _ _ ⟨he, hm⟩ => ⟨he, hm.symm⟩

theorem zero_at {k : Nat} (h : k < 16) : zero16[k]? = some 0 := by unfold zero16; rw [List.getElem?_replicate, if_pos h]
theorem take_row {w : World} {B : Nat} {A : Option Addr} {xs : List Int} (n : Nat) (h : Row w B A (ints xs)) : Row w B A (ints (xs.take n)) := by
  have e : ints xs = ints (xs.take n) ++ ints (xs.drop n) := by unfold ints intsK; rw [← List.map_append, List.take_append_drop]
  rw [e] at h
  exact h.take
theorem ArrAt.row {w : World} {g : Nat} {xs : List Int} (h : ArrAt w g xs) : Row w (g + 1) (some ⟨g, 0, none⟩) (ints xs) := fun k v hv => by
  refine ⟨g, 0, rfl, by omega, ?_⟩
  rw [Nat.zero_add, cell_of_row w g k _ _ _ h]
  simpa [arr] using hv
theorem cl_take (f : Nat → Int) {n m : Nat} (h : n ≤ m) : (cl m f).take n = cl n f := by
  unfold cl; rw [← List.map_take, List.take_range, Nat.min_eq_left h]
set_option maxHeartbeats 1000000 in
theorem listS_any (f : Nat → Int) (n : Nat) (w : World) (hn : n ≤ 16) :
    Calls Try.prog 68 #[.agg (arr (cl 16 f)), .int .i64 n] w (NewRow 2 n (ints (cl n f)) w) := by
  have H0 : Hid (Row (w.alloc (.cells (arr (cl 16 f)) 81)) (w.heap.size + 1) (some ⟨w.heap.size, 0, none⟩) (ints (cl n f))) := by
    have := take_row n (ArrAt.new w (cl 16 f)).row
    rw [cl_take f hn] at this
    exact this
  have HS := Lib.hid (arr_size (cl_length 16 f))
  have n0 : (0 : Int) ≤ (n : Int) := Int.natCast_nonneg _
  have n1 : (n : Int) ≤ 16 := by omega
  go_enter Try.func68, Try.ntmps68
  go_wp2_with (go_at_call 85; refine (integersOf_any _ n _ (w.heap.size + 1) (cl n f) _ (cl_length _ _) (by omega) (by simp) (by exact H0.out)).mono ?_; rintro e w1 ⟨A1, c1, rfl, own1, bel1⟩)
  go_ret
  exact NewRow.after ((Below.refl _ _).alloc (Nat.le_refl _) _) ⟨A1, c1, rfl, own1, bel1⟩
theorem arr_four (w : World) (xs ys zs us : List Int) : ArrAt ((((w.alloc (.cells (arr xs) 81)).alloc (.cells (arr ys) 81)).alloc (.cells (arr zs) 81)).alloc (.cells (arr us) 81)) w.heap.size xs ∧ ArrAt ((((w.alloc (.cells (arr xs) 81)).alloc (.cells (arr ys) 81)).alloc (.cells (arr zs) 81)).alloc (.cells (arr us) 81)) (w.heap.size + 1) ys ∧ ArrAt ((((w.alloc (.cells (arr xs) 81)).alloc (.cells (arr ys) 81)).alloc (.cells (arr zs) 81)).alloc (.cells (arr us) 81)) (w.heap.size + 1 + 1) zs ∧ ArrAt ((((w.alloc (.cells (arr xs) 81)).alloc (.cells (arr ys) 81)).alloc (.cells (arr zs) 81)).alloc (.cells (arr us) 81)) (w.heap.size + 1 + 1 + 1) us ∧ Below w.heap.size w ((((w.alloc (.cells (arr xs) 81)).alloc (.cells (arr ys) 81)).alloc (.cells (arr zs) 81)).alloc (.cells (arr us) 81)) :=
  ⟨(arr_three w xs ys zs).1.alloc _, (arr_three w xs ys zs).2.1.alloc _, (arr_three w xs ys zs).2.2.1.alloc _, ArrAt.next us (by simp), (arr_three w xs ys zs).2.2.2.alloc (by simp; omega) _⟩
theorem set_at {L : List Int} {j : Nat} (v : Int) (h : j < L.length) : (L.set j v)[j]? = some v := by simp [h]
theorem set_self {L : List Int} {j : Nat} {v : Int} (h : L[j]? = some v) : L.set j v = L := by
  apply List.ext_getElem?
  intro i
  rw [List.getElem?_set]
  by_cases e : j = i
  · subst e
    have hj : j < L.length := by
      rcases Nat.lt_or_ge j L.length with g | g
      · exact g
      · rw [List.getElem?_eq_none g] at h; cases h
    rw [if_pos rfl, h]; simp [hj]
  · rw [if_neg e]
/-- the value of a product that grows -/
def cvT' (xs ys : List Int) (n k : Nat) : Int := sm k (fun i => co xs i * co ys (n - i)) % 10007
theorem cvT'_bd (xs ys : List Int) (n k : Nat) : 0 ≤ cvT' xs ys n k ∧ cvT' xs ys n k < 10007 := by unfold cvT'; omega
theorem cvT'_step {xs ys : List Int} {n k : Nat} {x y : Int} (hx : xs[k]? = some x) (hy : ys[n - k]? = some y) : cvT' xs ys n (k + 1) = (cvT' xs ys n k + x * y) % 10007 := by
  unfold cvT'
  show (sm k _ + co xs k * co ys (n - k)) % 10007 = _
  rw [co_at hx, co_at hy]
  omega
theorem cvT'_end (xs ys : List Int) {m n : Nat} (h : n < m) : (cl m (cv (co xs) (co ys)))[n]? = some (cvT' xs ys n (n + 1)) := cl_at _ h
set_option maxHeartbeats 2000000 in
theorem timesS_any (xs ys : List Int) (w : World) (hl : xs.length = 16) (hl' : ys.length = 16) (ha : allNum xs = true) (ha' : allNum ys = true) :
    Calls Try.prog 96 #[.agg (arr xs), .agg (arr ys)] w fun e w' => e = .returned (.agg (arr (cl 16 (cv (co xs) (co ys))))) ∧ Below w.heap.size w w' := by
  have HL := Lib.hid hl
  have HL' := Lib.hid hl'
  have HA := Lib.hid ha
  have HA' := Lib.hid ha'
  clear hl hl' ha ha'
  go_enter Try.func96, Try.ntmps96
  go_wp2_with fail
  have F := Lib.hid (arr_four w xs ys zero16 zero16)
  go_loopw [8] (fun i wr => ∃ j : Nat, j ≤ 16 ∧ i = .int .i64 j ∧ ArrAt wr w.heap.size xs ∧ ArrAt wr (w.heap.size + 1) ys ∧ ArrAt wr (w.heap.size + 1 + 1) zero16 ∧ ArrAt wr (w.heap.size + 1 + 1 + 1) ((cl 16 (cv (co xs) (co ys))).take j ++ zero16.drop j) ∧ Below w.heap.size w wr) (fun i _ => 16 - (intOf i).toNat)
  case atStart => exact ⟨0, by omega, rfl, F.out⟩
  case round =>
    obtain ⟨j, hj, rfl, H0, H1, H2, H3, HB⟩ := hrel
    by_cases hlt : j < 16
    · have hz : ((cl 16 (cv (co xs) (co ys))).take j ++ zero16.drop j)[j]? = some 0 := mix_at (by rw [cl_length]; rfl) (zero_at hlt)
      have e0 : cvT' xs ys j 0 = 0 := rfl
      rw [← set_self (hz.trans (by rw [e0]) : _ = some (cvT' xs ys j 0))] at H3
      have HM : Hid (((cl 16 (cv (co xs) (co ys))).take j ++ zero16.drop j).length = 16) := by unfold Hid; rw [List.length_append, List.length_take, List.length_drop, cl_length]; simp [zero16]; omega
      have HEnd : Hid (((cl 16 (cv (co xs) (co ys))).take j ++ zero16.drop j).set j (cvT' xs ys j (j + 1)) = (cl 16 (cv (co xs) (co ys))).take (j + 1) ++ zero16.drop (j + 1)) := mix_step (by simp [zero16]; omega) (by rw [cl_length]; rfl) (cvT'_end xs ys hlt)
      have G0 := Lib.hid (show ArrAt wr w.heap.size xs ∧ ArrAt wr (w.heap.size + 1) ys ∧ ArrAt wr (w.heap.size + 1 + 1) zero16 ∧ ArrAt wr (w.heap.size + 1 + 1 + 1) (((cl 16 (cv (co xs) (co ys))).take j ++ zero16.drop j).set j (cvT' xs ys j 0)) ∧ Below w.heap.size w wr from ⟨H0, H1, H2, H3, HB⟩)
      clear H0 H1 H2 H3 HB hz e0 F
      obtain ⟨M, hM⟩ : ∃ M, M = (cl 16 (cv (co xs) (co ys))).take j ++ zero16.drop j := ⟨_, rfl⟩
      rw [← hM] at HM HEnd G0
      clear hM
      obtain ⟨wo, hwo⟩ : ∃ wo : World, wo = wr := ⟨_, rfl⟩
      subst hwo
      have j0 : (0 : Int) ≤ (j : Int) := Int.natCast_nonneg _
      have j1 : (j : Int) < 16 := by omega
      go_wp2_with fail
      go_loopw [13] (fun i2 wr => ∃ k : Nat, k ≤ j + 1 ∧ i2 = .int .i64 k ∧ ArrAt wr w.heap.size xs ∧ ArrAt wr (w.heap.size + 1) ys ∧ ArrAt wr (w.heap.size + 1 + 1) zero16 ∧ ArrAt wr (w.heap.size + 1 + 1 + 1) (M.set j (cvT' xs ys j k)) ∧ Below w.heap.size w wr) (fun i2 _ => j + 1 - (intOf i2).toNat)
      case atStart => exact ⟨0, by omega, rfl, G0.out⟩
      case round =>
        obtain ⟨k, hk, rfl, H0, H1, H2, H3, HB⟩ := hrel
        obtain ⟨s0, s1⟩ := cvT'_bd xs ys j k
        by_cases hkl : k < j + 1
        · obtain ⟨x, hx⟩ := at_lt (show k < xs.length by rw [HL.out]; omega)
          obtain ⟨y, hy⟩ := at_lt (show j - k < ys.length by rw [HL'.out]; omega)
          obtain ⟨x0, x1⟩ := num_at HA.out hx
          obtain ⟨y0, y1⟩ := num_at HA'.out hy
          have hc := H0.cell hx
          have hc' := H1.cell hy
          have hc3 := H3.cell (set_at (cvT' xs ys j k) (show j < M.length by rw [HM.out]; exact hlt))
          have hf := H3.free j
          have p0 : 0 ≤ x * y % 10007 := by omega
          have p1 : x * y % 10007 < 10007 := by omega
          have G := Lib.hid (cvT'_step hx hy)
          have Gs : Hid (ArrAt (wr.setCell ⟨w.heap.size + 1 + 1 + 1, j, none⟩ (.int .i64 ((cvT' xs ys j k + x * y) % 10007))) (w.heap.size + 1 + 1 + 1) (M.set j (cvT' xs ys j (k + 1)))) := by
            have := H3.store (k := j) ((cvT' xs ys j k + x * y) % 10007)
            rw [List.set_set, ← G.out] at this
            unfold Hid
            rw [← G.out]
            exact this
          have G0 := Lib.hid (show ArrAt wr w.heap.size xs ∧ ArrAt wr (w.heap.size + 1) ys ∧ ArrAt wr (w.heap.size + 1 + 1) zero16 ∧ Below w.heap.size w wr from ⟨H0, H1, H2, HB⟩)
          have d0 : (0 : Int) ≤ (j : Int) - k := by omega
          have d1 : (j : Int) - k < 16 := by omega
          have ek2 : ((j : Int) - k).toNat = j - k := by omega
          have k0 : (0 : Int) ≤ (k : Int) := Int.natCast_nonneg _
          have k1 : (k : Int) < 16 := by omega
          have hlk : (k : Int) < (j : Int) + 1 := by omega
          have hkj : k ≤ j := by omega
          have ew : IntKind.i64.wrap ((j : Int) - k) = (j : Int) - k := IntWalk.i64_in _ (by omega)
          clear hx hy H0 H1 H2 H3 HB
          go_wp2_with fail
          refine wp_region_still_tail 15 (by kernel_rfl) (by kernel_rfl) ?_
          simp only [List.take_succ_cons, List.take_zero, List.drop_succ_cons, List.drop_zero]
          repeat still_step
          refine wpStill_step (fun K hK => ?_)
          go_simp
          refine ⟨_, stillC (times_any _ _ _ x0 x1 y0 y1), hK _ ?_⟩
          clear hK K
          repeat still_step
          refine wpStill_step (fun K hK => ?_)
          go_simp
          refine ⟨_, stillC (plus_any _ _ _ s0 s1 p0 p1), hK _ ?_⟩
          clear hK K
          repeat still_step
          refine wpStill_nil ?_
          change wpList _ _ _ _ _ wr.drew
          clear ek2 ew
          go_wp2
          go_roundw
          case rel => exact ⟨k + 1, by omega, by go_num, by exact (G0.out.1.other (by omega) _).drewN 1, by exact (G0.out.2.1.other (by omega) _).drewN 1, by exact (G0.out.2.2.1.other (by omega) _).drewN 1, by exact Gs.out.drewN 1, by exact below_drewN (below_set G0.out.2.2.2 (by omega) _) 1⟩
          case measure => simp [intOf]; omega
        · obtain rfl : k = j + 1 := by omega
          rw [HEnd.out] at H3
          have G0 := Lib.hid (show ArrAt wr w.heap.size xs ∧ ArrAt wr (w.heap.size + 1) ys ∧ ArrAt wr (w.heap.size + 1 + 1) zero16 ∧ ArrAt wr (w.heap.size + 1 + 1 + 1) ((cl 16 (cv (co xs) (co ys))).take (j + 1) ++ zero16.drop (j + 1)) ∧ Below w.heap.size w wr from ⟨H0, H1, H2, H3, HB⟩)
          clear H0 H1 H2 H3 HB
          go_wp2
          go_roundw
          case rel => exact ⟨j + 1, by omega, by go_num, G0.out⟩
          case measure => simp [intOf]; omega
    · obtain rfl : j = 16 := by omega
      rw [mix_end (n := 16) (cl_length _ _) (show zero16.length = 16 from rfl)] at H3
      have G := Lib.hid H3
      have G2 := Lib.hid H2
      have GB := Lib.hid HB
      clear H0 H1 H2 H3 HB F
      go_wp2_with (first
        | (refine wpList_load_row rfl 81 (.tmp 5) rfl (w.heap.size + 1 + 1 + 1) rfl 81 (arr (cl 16 (cv (co xs) (co ys)))) (0, 0) _ G.out Try.underlying81 rfl (by rw [arr_size (cl_length _ _)]; exact info_arr) ?_)
        | (refine wpList_store_row rfl 81 (.tmp 4) (.tmp 33) rfl (w.heap.size + 1 + 1) (arr (cl 16 (cv (co xs) (co ys)))) rfl rfl 81 (arr zero16) G2.out (by rw [arr_size (cl_length _ _)]; exact info_arr) (by rw [arr_size (cl_length _ _)]; rfl) (arr_cells _) ?_))
      refine bodyPost_ret (v := .agg (arr (cl 16 (cv (co xs) (co ys))))) ?_ rfl ⟨rfl, below_setRow GB.out (by omega) _⟩
      exact results_cell_row rfl _ _ (w.heap.size + 1 + 1) 81 _ (0, 0) _ rfl (setRow_heap _ _ _ _ _ _ G2.out) Try.underlying81 rfl (by rw [arr_size (cl_length _ _)]; exact info_arr)
end Go.Proofs.Ytfllcdcgfpjabaa
