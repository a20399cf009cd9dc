/-
  Series as arrays of the program: compositions, logarithms, reverses.
-/
import Derived.Test.YtjdanhjonjmccabArr3
import Derived.Laws.StructEq
import Derived.Deep.MidRow
namespace Go.Proofs.Ytjdanhjonjmccab
open Go.RowKit Fld Ser
set_option linter.unusedVariables false
set_option linter.unusedSimpArgs false
set_option maxRecDepth 100000

/-! arrays that are compared at once -/
theorem all_same : ∀ (xs ys : List Int), xs.length = ys.length → ((List.range xs.length).all fun i => xs.getD i 0 == ys.getD i 0) = decide (xs = ys)
  | [], [], _ => rfl
  | x :: xs, y :: ys, h => by
    have ih := all_same xs ys (by simpa using h)
    rw [List.length_cons, List.range_succ_eq_map, List.all_cons, List.all_map]
    simp only [List.getD_cons_zero, Function.comp_def, List.getD_cons_succ, ih]
    by_cases e : x = y <;> simp [e]
  | [], _ :: _, h => by simp at h
  | _ :: _, [], h => by simp at h
theorem run_same {P : Program} (w : World) (d : Nat) (t e : TypeId) (n : Nat) (ht : P.underlying t = some (.array n e)) (he : P.underlying e = some (.int .i64)) (hsz : ∀ w, (sizeOf e).run P w = .ok 1 w)
    (xs ys : List Int) (hx : xs.length = n) (hy : ys.length = n) :
    (Op.equalIn (d + 2) t (.agg (arr xs)) (.agg (arr ys))).run P w = .ok (decide (xs = ys)) w := by
  rw [← all_same xs ys (hx.trans hy.symm), hx, List.range_eq_range', Op.equalIn]
  simp only [Sem.run_bind, run_underlying ht, Result.andThen_ok, hsz, Std.Legacy.Range.forIn_eq_forIn_range', Std.Legacy.Range.size, Nat.sub_zero, Nat.add_sub_cancel, Nat.div_one]
  have hl : ∀ i ∈ List.range' 0 n 1, i < n := fun i hi => by simpa using (List.mem_range'_1.1 hi).2
  generalize List.range' 0 n 1 = l at hl ⊢
  induction l with
  | nil => simp
  | cons i l ih =>
    have hi : i < n := hl i (by simp)
    have px : (part e (arr xs) (i * 1)).run P w = .ok (.int .i64 (xs.getD i 0)) w := by
      simp [part, isAgg, run_underlying he, arr, ints, intsK, List.getD, List.getElem?_eq_getElem (show i < xs.length by omega)]
    have py : (part e (arr ys) (i * 1)).run P w = .ok (.int .i64 (ys.getD i 0)) w := by
      simp [part, isAgg, run_underlying he, arr, ints, intsK, List.getD, List.getElem?_eq_getElem (show i < ys.length by omega)]
    have pe : (Op.equalIn (d + 1) e (.int .i64 (xs.getD i 0)) (.int .i64 (ys.getD i 0))).run P w = .ok (xs.getD i 0 == ys.getD i 0) w := run_equalIn_int w d e .i64 .i64 _ _ he
    simp only [List.forIn_cons, Sem.run_bind, px, py, pe, Result.andThen_ok, List.all_cons]
    cases hb : (xs.getD i 0 == ys.getD i 0)
    · simp
    · simp only [Bool.not_true, Bool.false_eq_true, if_false, Sem.run_pure, Result.andThen_ok, Bool.true_and]
      exact ih fun j hj => hl j (by simp [hj])
theorem size_num (w : World) : (sizeOf 63).run Try.prog w = .ok 1 w := by
  cases hq : Try.prog.info? 63 with
  | none => have := info_num; rw [hq] at this; cases this
  | some i =>
    have h := info_num
    rw [hq] at h
    have h2 : i.size = 1 := by simpa using h
    simp [sizeOf, typeInfo, hq, h2]
theorem run_other (xs ys : List Int) (hx : xs.length = 16) (hy : ys.length = 16) (w : World) :
    (binOp .neq 65 (.agg (arr xs)) (.agg (arr ys))).run Try.prog w = .ok (.bool (decide (xs ≠ ys))) w := by
  rw [run_neq_struct, run_same w 9998 65 63 16 Try.underlying65 Try.underlying63 size_num xs ys hx hy]
  show Result.ok _ _ = _
  by_cases e : xs = ys <;> simp [e]

/-! rows that a step of a region reads whole -/
theorem step_load_row {P : Program} {ops : Array Oper} {o : Oper} {a : Act} {w : World} {K : Act → World → Prop} {Q : Exit → Act → World → Prop} {E : Prop} (hgd : o.guard = none) (ty : TypeId) (x : Operand) (ho : o.op = .load ty x)
    (g : Nat) (hx : a.eval x = .pointer (some ⟨g, 0, none⟩)) (t : TypeId) (cs : Array Value) (fr : Nat × Nat) (d : TypeDesc) (hg : w.heap[g]? = some (.cells cs t fr))
    (hu : P.underlying ty = some d) (hd : (match d with | .struct _ | .array _ _ => true | _ => false) = true) (hi : (P.info? ty).map (·.size) = some cs.size)
    (h : K (a.put o.dst (.agg cs)) w) : if Region.wanted o (yielded ops a.tmps) = true then Oper.wp P o a w K Q else E := by
  have hw : Region.wanted o (yielded ops a.tmps) = true := by simp [Region.wanted, hgd]
  rw [if_pos hw]
  exact wp_load_row ty x ho g hx t cs fr d hg hu hd hi h
theorem step_store_row {P : Program} {ops : Array Oper} {o : Oper} {a : Act} {w : World} {K : Act → World → Prop} {Q : Exit → Act → World → Prop} {E : Prop} (hgd : o.guard = none) (ty : TypeId) (x y : Operand) (ho : o.op = .store ty x y)
    (g : Nat) (cells : Array Value) (hx : a.eval x = .pointer (some ⟨g, 0, none⟩)) (hy : a.eval y = .agg cells)
    (t : TypeId) (old : Array Value) (hg : w.heap[g]? = some (.cells old t (0, 0))) (hi : (P.info? ty).map (·.size) = some cells.size)
    (hold : old.size = cells.size) (h1 : cells.all (·.oneCell') = true)
    (h : K (a.put o.dst undef) (w.setRow g cells)) : if Region.wanted o (yielded ops a.tmps) = true then Oper.wp P o a w K Q else E := by
  have hw : Region.wanted o (yielded ops a.tmps) = true := by simp [Region.wanted, hgd]
  rw [if_pos hw]
  exact wp_store_row ty x y ho g cells hx hy t old hg hi hold h1 h

theorem cmT_zero (a b : Nat → Int) : zero16 = cl 16 (cmT a b 0) := by
  apply List.ext_getElem?
  intro i
  rcases Nat.lt_or_ge i 16 with g | g
  · rw [zero_at g, cl_at _ g]; rfl
  · rw [List.getElem?_eq_none (by simp [zero16]; omega), List.getElem?_eq_none (by rw [cl_length]; exact g)]
theorem pw_big {b : List Int} (h0 : co b 0 = 0) : cl 16 (pwr (co b) 16) = zero16 := by
  apply List.ext_getElem?
  intro i
  rcases Nat.lt_or_ge i 16 with g | g
  · rw [cl_at _ g, zero_at g, pwr_low h0 16 i g]; rfl
  · rw [List.getElem?_eq_none (by rw [cl_length]; exact g), List.getElem?_eq_none (by simp [zero16]; omega)]
theorem cg_zero {f : Nat → Int} (h : cl 16 f = zero16) : Cg 16 f (fun _ => 0) := fun k hk => by
  have := cl_at f hk
  rw [h, zero_at hk] at this
  injection this with this
  unfold Eqm; rw [← this]; rfl
theorem ArrAt.range {w : World} {g : Nat} {xs : List Int} (h : ArrAt w g xs) : w.rangeAt g 0 (ints xs) := fun j v hv => by
  rw [Nat.zero_add, cell_of_row w g j _ _ _ h]
  simpa [arr] using hv
theorem ArrAt.there_ {w : World} {g : Nat} {xs : List Int} (h : ArrAt w g xs) (ys : List Int) (hx : xs.length = 16) (hy : ys.length = 16) : w.there g 0 (ints ys).toArray.size := fun j hj => by
  have hj2 : j < 16 := by simpa [ints_length, hy] using hj
  refine ⟨?_, ?_⟩
  · obtain ⟨x, hxx⟩ := at_lt (show j < xs.length by omega)
    rw [Nat.zero_add, h.cell hxx]; rfl
  · rw [Nat.zero_add]; exact h.free j
/-- two ways of writing a whole row -/
theorem setCells_row {w : World} {g : Nat} {xs ys : List Int} (h : ArrAt w g xs) (hx : xs.length = 16) (hy : ys.length = 16) : w.setCells g 0 (ints ys) = w.setRow g (arr ys) := by
  have h1 := run_storeVar_row (P := Try.prog) w g 65 65 (arr xs) (arr ys) h (by rw [arr_size hy]; exact info_arr) (by rw [arr_size hx, arr_size hy]) (arr_cells ys)
  have h2 := run_storeVar_mid (P := Try.prog) w g 0 65 (arr ys) (h.there_ ys hx hy) (by rw [arr_size hy]; exact info_arr) (arr_cells ys)
  rw [h1] at h2
  injection h2 with _ h3
  rw [h3]; simp [arr]
set_option maxHeartbeats 2000000 in
theorem atS_any (xs ys : List Int) (w : World) (hl : xs.length = 16) (hl' : ys.length = 16) (ha : allNum xs = true) (ha' : allNum ys = true) (h0 : co ys 0 = 0) :
    Calls Try.prog 74 #[.agg (arr xs), .agg (arr ys)] w fun e w' => e = .returned (.agg (arr (cl 16 (cmp (co xs) (co ys))))) ∧ Below w.heap.size w w' := by
  have HL := Lib.hid hl
  have HL' := Lib.hid hl'
  have HA := Lib.hid ha
  have HA' := Lib.hid ha'
  have H00 := Lib.hid h0
  clear hl hl' ha ha' h0
  go_enter Try.func74, Try.ntmps74
  have F := Lib.hid (arr_four w xs ys zero16 zero16)
  have F4 : Hid (ArrAt (((((w.alloc (.cells (arr xs) 65)).alloc (.cells (arr ys) 65)).alloc (.cells (arr zero16) 65)).alloc (.cells (arr zero16) 65)).alloc (.cells (arr zero16) 65)) (w.heap.size + 1 + 1 + 1 + 1) zero16) := ArrAt.next zero16 (by simp)
  go_wp2_with (refine wpList_store_row rfl 65 (.tmp 6) (.tmp 8) rfl (w.heap.size + 1 + 1 + 1 + 1) (arr one16) rfl rfl 65 (arr zero16) F4.out info_arr rfl (arr_cells _) ?_)
  have G0 := Lib.hid (show ArrAt ((((((w.alloc (.cells (arr xs) 65)).alloc (.cells (arr ys) 65)).alloc (.cells (arr zero16) 65)).alloc (.cells (arr zero16) 65)).alloc (.cells (arr zero16) 65)).setRow (w.heap.size + 1 + 1 + 1 + 1) (arr one16)) w.heap.size xs ∧ ArrAt ((((((w.alloc (.cells (arr xs) 65)).alloc (.cells (arr ys) 65)).alloc (.cells (arr zero16) 65)).alloc (.cells (arr zero16) 65)).alloc (.cells (arr zero16) 65)).setRow (w.heap.size + 1 + 1 + 1 + 1) (arr one16)) (w.heap.size + 1) ys ∧ ArrAt ((((((w.alloc (.cells (arr xs) 65)).alloc (.cells (arr ys) 65)).alloc (.cells (arr zero16) 65)).alloc (.cells (arr zero16) 65)).alloc (.cells (arr zero16) 65)).setRow (w.heap.size + 1 + 1 + 1 + 1) (arr one16)) (w.heap.size + 1 + 1) zero16 ∧ ArrAt ((((((w.alloc (.cells (arr xs) 65)).alloc (.cells (arr ys) 65)).alloc (.cells (arr zero16) 65)).alloc (.cells (arr zero16) 65)).alloc (.cells (arr zero16) 65)).setRow (w.heap.size + 1 + 1 + 1 + 1) (arr one16)) (w.heap.size + 1 + 1 + 1) (cl 16 (cmT (co xs) (co ys) 0)) ∧ ArrAt ((((((w.alloc (.cells (arr xs) 65)).alloc (.cells (arr ys) 65)).alloc (.cells (arr zero16) 65)).alloc (.cells (arr zero16) 65)).alloc (.cells (arr zero16) 65)).setRow (w.heap.size + 1 + 1 + 1 + 1) (arr one16)) (w.heap.size + 1 + 1 + 1 + 1) (cl 16 (pwr (co ys) 0)) ∧ Below w.heap.size w ((((((w.alloc (.cells (arr xs) 65)).alloc (.cells (arr ys) 65)).alloc (.cells (arr zero16) 65)).alloc (.cells (arr zero16) 65)).alloc (.cells (arr zero16) 65)).setRow (w.heap.size + 1 + 1 + 1 + 1) (arr one16)) from
    ⟨(F.out.1.alloc _).putOther (by omega) _, (F.out.2.1.alloc _).putOther (by omega) _, (F.out.2.2.1.alloc _).putOther (by omega) _, by rw [← cmT_zero]; exact (F.out.2.2.2.1.alloc _).putOther (by omega) _, by show ArrAt _ _ (cl 16 one); rw [← one16_cl]; exact F4.out.put one16, below_setRow (F.out.2.2.2.2.alloc (by simp; omega) _) (by omega) _⟩)
  clear F F4
  go_loopw [7] (fun i wr => ∃ k : Nat, k ≤ 16 ∧ i = .int .i64 k ∧ ArrAt wr w.heap.size xs ∧ ArrAt wr (w.heap.size + 1) ys ∧ ArrAt wr (w.heap.size + 1 + 1) zero16 ∧ ArrAt wr (w.heap.size + 1 + 1 + 1) (cl 16 (cmT (co xs) (co ys) k)) ∧ ArrAt wr (w.heap.size + 1 + 1 + 1 + 1) (cl 16 (pwr (co ys) k)) ∧ Below w.heap.size w wr) (fun i _ => 16 - (intOf i).toNat)
  case atStart => exact ⟨0, by omega, rfl, G0.out⟩
  case round =>
    obtain ⟨k, hk, rfl, H0, H1, H2, H3, H4, HB⟩ := hrel
    have hne := run_other (cl 16 (pwr (co ys) k)) zero16 (cl_length _ _) rfl
    have K0 := Lib.hid (show ArrAt wr w.heap.size xs ∧ ArrAt wr (w.heap.size + 1) ys ∧ ArrAt wr (w.heap.size + 1 + 1) zero16 ∧ ArrAt wr (w.heap.size + 1 + 1 + 1) (cl 16 (cmT (co xs) (co ys) k)) ∧ ArrAt wr (w.heap.size + 1 + 1 + 1 + 1) (cl 16 (pwr (co ys) k)) ∧ Below w.heap.size w wr from ⟨H0, H1, H2, H3, H4, HB⟩)
    clear H0 H1 H2 H3 H4 HB G0
    by_cases hz : cl 16 (pwr (co ys) k) = zero16
    · have hz2 : decide (cl 16 (pwr (co ys) k) ≠ zero16) = false := by simp [hz]
      rw [hz2] at hne
      have HE : Hid (cl 16 (cmT (co xs) (co ys) k) = cl 16 (cmp (co xs) (co ys))) := cl_cg (cmT_end H00.out (cg_zero hz))
      clear hz hz2
      have hne' : ∀ w : World, (binOp .neq 65 (.agg (arr (cl 16 (pwr (co ys) k)))) (.agg #[.int .i64 0, .int .i64 0, .int .i64 0, .int .i64 0, .int .i64 0, .int .i64 0, .int .i64 0, .int .i64 0, .int .i64 0, .int .i64 0, .int .i64 0, .int .i64 0, .int .i64 0, .int .i64 0, .int .i64 0, .int .i64 0])).run Try.prog w = .ok (.bool false) w := hne
      clear hne
      go_wp2_with (first
        | (refine wpList_load_row rfl 65 (.tmp 6) rfl (w.heap.size + 1 + 1 + 1 + 1) rfl 65 (arr (cl 16 (pwr (co ys) k))) (0, 0) _ K0.out.2.2.2.2.1 Try.underlying65 rfl (by rw [arr_size (cl_length _ _)]; exact info_arr) ?_)
        | (refine wpList_load_row rfl 65 (.tmp 5) rfl (w.heap.size + 1 + 1 + 1) rfl 65 (arr (cl 16 (cmT (co xs) (co ys) k))) (0, 0) _ K0.out.2.2.2.1 Try.underlying65 rfl (by rw [arr_size (cl_length _ _)]; exact info_arr) ?_)
        | (refine wpList_store_row rfl 65 (.tmp 4) (.tmp 24) rfl (w.heap.size + 1 + 1) (arr (cl 16 (cmT (co xs) (co ys) k))) rfl rfl 65 (arr zero16) K0.out.2.2.1 (by rw [arr_size (cl_length _ _)]; exact info_arr) (by rw [arr_size (cl_length _ _)]; rfl) (arr_cells _) ?_))
      refine bodyPost_ret (v := .agg (arr (cl 16 (cmT (co xs) (co ys) k)))) ?_ rfl ⟨by rw [HE.out], below_setRow K0.out.2.2.2.2.2 (by omega) _⟩
      exact results_cell_row rfl _ _ (w.heap.size + 1 + 1) 65 _ (0, 0) _ rfl (setRow_heap _ _ _ _ _ _ K0.out.2.2.1) Try.underlying65 rfl (by rw [arr_size (cl_length _ _)]; exact info_arr)
    · have hz2 : decide (cl 16 (pwr (co ys) k) ≠ zero16) = true := by simp [hz]
      rw [hz2] at hne
      have hlt : k < 16 := by
        rcases Nat.lt_or_ge k 16 with g | g
        · exact g
        · obtain rfl : k = 16 := by omega
          exact absurd (pw_big H00.out) hz
      clear hz hz2
      have hne' : ∀ w : World, (binOp .neq 65 (.agg (arr (cl 16 (pwr (co ys) k)))) (.agg #[.int .i64 0, .int .i64 0, .int .i64 0, .int .i64 0, .int .i64 0, .int .i64 0, .int .i64 0, .int .i64 0, .int .i64 0, .int .i64 0, .int .i64 0, .int .i64 0, .int .i64 0, .int .i64 0, .int .i64 0, .int .i64 0])).run Try.prog w = .ok (.bool true) w := hne
      clear hne
      obtain ⟨x, hx⟩ := at_lt (show k < xs.length by rw [HL.out]; exact hlt)
      obtain ⟨x0, x1⟩ := num_at HA.out hx
      have hc := K0.out.1.cell hx
      have HC := Lib.hid (cmT_step (n := 16) (b := co ys) (co_at hx))
      have HP := Lib.hid (pwT_step (n := 16) (co ys) k)
      have hbw : w.heap.size + 1 + 1 + 1 + 1 < wr.heap.size := K0.out.2.2.2.2.1.lt
      have HX := Lib.hid hx
      have k0 : (0 : Int) ≤ (k : Int) := Int.natCast_nonneg _
      have k1 : (k : Int) < 16 := by omega
      clear hx
      go_wp2_with (refine wpList_load_row rfl 65 (.tmp 6) rfl (w.heap.size + 1 + 1 + 1 + 1) rfl 65 (arr (cl 16 (pwr (co ys) k))) (0, 0) _ K0.out.2.2.2.2.1 Try.underlying65 rfl (by rw [arr_size (cl_length _ _)]; exact info_arr) ?_)
      have hi6 : (Try.prog.info? 65).map (·.size) = some (ints (cl 16 (pwr (co ys) k))).length := by rw [ints_length, cl_length]; exact info_arr
      have R6 : Hid (∀ W' : World, Below wr.heap.size wr W' → W'.cell? ⟨w.heap.size, k, none⟩ = some (.int .i64 x) ∧ W'.rangeAt (w.heap.size + 1 + 1 + 1 + 1) 0 (ints (cl 16 (pwr (co ys) k)))) := fun W' hb => ⟨(hb.cell (p := ⟨w.heap.size, k, none⟩) (by show w.heap.size < wr.heap.size; omega)).trans hc, (K0.out.2.2.2.2.1.below hb (by omega)).range⟩
      refine wp_region_held_drew (S := fun w' => w'.cell? ⟨w.heap.size, k, none⟩ = some (.int .i64 x) ∧ w'.rangeAt (w.heap.size + 1 + 1 + 1 + 1) 0 (ints (cl 16 (pwr (co ys) k)))) (by kernel_rfl) (R6.out _ (below_drewN (Below.refl _ _) 1)) (fun hHeld => ?_)
      refine wpAnyH_take (i := 1) (v := .agg (arr (cl 16 (pwr (co ys) k)))) rfl (by kernel_rfl) (by kernel_rfl) (by kernel_rfl) (fun _ _ _ h => h) (yieldsIf_load_mid (by rfl) 65 (.tmp 6) rfl (w.heap.size + 1 + 1 + 1 + 1) 0 rfl (ints (cl 16 (pwr (co ys) k))) _ (fun w h => h.2) Try.underlying65 rfl hi6) hHeld ?_
      try simp only [Act.put, List.setIfInBounds_toArray, List.set_cons_zero, List.set_cons_succ]
      refine wpAnyH_take (i := 2) (v := ?_) rfl (by kernel_rfl) (by kernel_rfl) (by kernel_rfl) (fun _ _ _ h => h) (Or.inl ⟨by rfl, ?_⟩) hHeld ?_
      rotate_left
      · intro w hSw
        obtain ⟨hc1, hr1⟩ := hSw
        go_simp
        with_reducible rfl
      try simp only [Act.put, List.setIfInBounds_toArray, List.set_cons_zero, List.set_cons_succ]
      refine wpAnyH_take (i := 3) (v := ?_) rfl (by kernel_rfl) (by kernel_rfl) (by kernel_rfl) (fun _ _ _ h => h) (Or.inl ⟨by rfl, ?_⟩) hHeld ?_
      rotate_left
      · intro w hSw
        obtain ⟨hc1, hr1⟩ := hSw
        go_simp
        with_reducible rfl
      try simp only [Act.put, List.setIfInBounds_toArray, List.set_cons_zero, List.set_cons_succ]
      refine wpAnyH_take (i := 4) (v := ?_) rfl (by kernel_rfl) (by kernel_rfl) (by kernel_rfl) (fun _ _ _ h => h) (Or.inl ⟨by rfl, ?_⟩) hHeld ?_
      rotate_left
      · intro w hSw
        obtain ⟨hc1, hr1⟩ := hSw
        go_simp
        with_reducible rfl
      try simp only [Act.put, List.setIfInBounds_toArray, List.set_cons_zero, List.set_cons_succ]
      refine wpAnyH_ready (rs := [0, 5]) (by kernel_rfl) (by simp) ?_
      refine AllReadyH.cons rfl (fun K hK => ?_) ?_
      · refine step_load_row (by rfl) 65 (.tmp 5) (by rfl) (w.heap.size + 1 + 1 + 1) (by rfl) 65 (arr (cl 16 (cmT (co xs) (co ys) k))) (0, 0) _ (by exact K0.out.2.2.2.1) Try.underlying65 rfl (by rw [arr_size (cl_length _ _)]; exact info_arr) ?_
        refine hK.out _ _ hHeld (fun hHeld => ?_)
        clear hK K
        try simp only [Act.put, List.setIfInBounds_toArray, List.set_cons_zero, List.set_cons_succ]
        refine wpAnyH_ready (rs := [5]) (by kernel_rfl) (by simp) ?_
        refine AllReadyH.cons rfl (fun K hK => ?_) ?_
        · go_simp
          refine (multipleS_any (cl 16 (pwr (co ys) k)) x _ (cl_length _ _) (cl_num _ _) x0 x1).mono ?_
          rintro e w1 ⟨rfl, b1⟩
          have B1 : Below wr.heap.size wr w1 := ⟨b1.os, b1.tape, b1.output, b1.size, b1.block⟩
          clear b1
          go_wp2_with fail
          refine hK.out _ _ (R6.out _ B1) (fun hHeld => ?_)
          clear hK K
          try simp only [Act.put, List.setIfInBounds_toArray, List.set_cons_zero, List.set_cons_succ]
          refine wpAnyH_ready (rs := [6]) (by kernel_rfl) (by simp) ?_
          refine AllReadyH.cons rfl (fun K hK => ?_) ?_
          · go_simp
            refine (plusS_any (cl 16 (cmT (co xs) (co ys) k)) (cl 16 (sc x (co (cl 16 (pwr (co ys) k))))) _ (cl_length _ _) (cl_length _ _) (cl_num _ _) (cl_num _ _)).mono ?_
            rintro e w2 ⟨rfl, b2⟩
            have B2 : Below wr.heap.size wr w2 := B1.trans ((show Below w1.heap.size w1 w2 from ⟨b2.os, b2.tape, b2.output, b2.size, b2.block⟩).mono B1.size)
            clear b2
            go_wp2_with fail
            refine hK.out _ _ (R6.out _ B2) (fun hHeld => ?_)
            clear hK K
            try simp only [Act.put, List.setIfInBounds_toArray, List.set_cons_zero, List.set_cons_succ]
            refine wpAnyH_ready (rs := [7]) (by kernel_rfl) (by simp) ?_
            refine AllReadyH.cons rfl (fun K hK => ?_) ?_
            · refine step_store_row (by rfl) 65 (.tmp 5) (.tmp 20) (by rfl) (w.heap.size + 1 + 1 + 1) (arr (cl 16 (ad (co (cl 16 (cmT (co xs) (co ys) k))) (co (cl 16 (sc x (co (cl 16 (pwr (co ys) k))))))))) (by rfl) (by rfl) 65 (arr (cl 16 (cmT (co xs) (co ys) k))) (by exact K0.out.2.2.2.1.below B2 (by omega)) (by rw [arr_size (cl_length _ _)]; exact info_arr) (by rw [arr_size (cl_length _ _), arr_size (by first | exact cl_length _ _ | rfl)]) (arr_cells _) ?_
              have G5 : Hid (ArrAt (w2.setRow (w.heap.size + 1 + 1 + 1) (arr (cl 16 (ad (co (cl 16 (cmT (co xs) (co ys) k))) (co (cl 16 (sc x (co (cl 16 (pwr (co ys) k)))))))))) (w.heap.size + 1 + 1 + 1) (cl 16 (cmT (co xs) (co ys) (k + 1)))) := by rw [← HC.out]; exact (K0.out.2.2.2.1.below B2 (by omega)).put _
              have J := Lib.hid (show ArrAt (w2.setRow (w.heap.size + 1 + 1 + 1) (arr (cl 16 (ad (co (cl 16 (cmT (co xs) (co ys) k))) (co (cl 16 (sc x (co (cl 16 (pwr (co ys) k)))))))))) w.heap.size xs ∧ ArrAt (w2.setRow (w.heap.size + 1 + 1 + 1) (arr (cl 16 (ad (co (cl 16 (cmT (co xs) (co ys) k))) (co (cl 16 (sc x (co (cl 16 (pwr (co ys) k)))))))))) (w.heap.size + 1) ys ∧ ArrAt (w2.setRow (w.heap.size + 1 + 1 + 1) (arr (cl 16 (ad (co (cl 16 (cmT (co xs) (co ys) k))) (co (cl 16 (sc x (co (cl 16 (pwr (co ys) k)))))))))) (w.heap.size + 1 + 1) zero16 ∧ ArrAt (w2.setRow (w.heap.size + 1 + 1 + 1) (arr (cl 16 (ad (co (cl 16 (cmT (co xs) (co ys) k))) (co (cl 16 (sc x (co (cl 16 (pwr (co ys) k)))))))))) (w.heap.size + 1 + 1 + 1) (cl 16 (cmT (co xs) (co ys) (k + 1))) ∧ ArrAt (w2.setRow (w.heap.size + 1 + 1 + 1) (arr (cl 16 (ad (co (cl 16 (cmT (co xs) (co ys) k))) (co (cl 16 (sc x (co (cl 16 (pwr (co ys) k)))))))))) (w.heap.size + 1 + 1 + 1 + 1) (cl 16 (pwr (co ys) k)) ∧ Below w.heap.size w (w2.setRow (w.heap.size + 1 + 1 + 1) (arr (cl 16 (ad (co (cl 16 (cmT (co xs) (co ys) k))) (co (cl 16 (sc x (co (cl 16 (pwr (co ys) k)))))))))) from ⟨(K0.out.1.below B2 (by omega)).putOther (by omega) _, (K0.out.2.1.below B2 (by omega)).putOther (by omega) _, (K0.out.2.2.1.below B2 (by omega)).putOther (by omega) _, G5.out, (K0.out.2.2.2.2.1.below B2 (by omega)).putOther (by omega) _, below_setRow (K0.out.2.2.2.2.2.trans (B2.mono (by omega))) (by omega) _⟩)
              refine hK.out _ _ ⟨J.out.1.cell HX.out, J.out.2.2.2.2.1.range⟩ (fun hHeld => ?_)
              clear hK K
              try simp only [Act.put, List.setIfInBounds_toArray, List.set_cons_zero, List.set_cons_succ]
              clear B1 B2 G5 hHeld
              generalize w2.setRow (w.heap.size + 1 + 1 + 1) (arr (cl 16 (ad (co (cl 16 (cmT (co xs) (co ys) k))) (co (cl 16 (sc x (co (cl 16 (pwr (co ys) k))))))))) = W3 at J ⊢
              have hbw3 : w.heap.size + 1 + 1 + 1 + 1 < W3.heap.size := J.out.2.2.2.2.1.lt
              refine wpAnyH_done (by kernel_rfl) ?_ _
              go_wp2_with (first | (refine wpList_load_row rfl 65 (.tmp 6) rfl (w.heap.size + 1 + 1 + 1 + 1) rfl 65 (arr (cl 16 (pwr (co ys) k))) (0, 0) _ J.out.2.2.2.2.1 Try.underlying65 rfl (by rw [arr_size (cl_length _ _)]; exact info_arr) ?_) | (refine wpList_load_row rfl 65 (.tmp 3) rfl (w.heap.size + 1) rfl 65 (arr ys) (0, 0) _ J.out.2.1 Try.underlying65 rfl (by rw [arr_size HL'.out]; exact info_arr) ?_))
              refine (timesS_any (cl 16 (pwr (co ys) k)) ys _ (cl_length _ _) HL'.out (cl_num _ _) HA'.out).mono ?_
              rintro e w4 ⟨rfl, b4⟩
              rw [HP.out]
              have J4 := Lib.hid (show ArrAt w4 w.heap.size xs ∧ ArrAt w4 (w.heap.size + 1) ys ∧ ArrAt w4 (w.heap.size + 1 + 1) zero16 ∧ ArrAt w4 (w.heap.size + 1 + 1 + 1) (cl 16 (cmT (co xs) (co ys) (k + 1))) ∧ ArrAt w4 (w.heap.size + 1 + 1 + 1 + 1) (cl 16 (pwr (co ys) k)) ∧ Below w.heap.size w w4 from ⟨J.out.1.below b4 (by omega), J.out.2.1.below b4 (by omega), J.out.2.2.1.below b4 (by omega), J.out.2.2.2.1.below b4 (by omega), J.out.2.2.2.2.1.below b4 (by omega), J.out.2.2.2.2.2.trans (b4.mono (by omega))⟩)
              clear b4
              go_wp2_with (refine wpList_store_row rfl 65 (.tmp 6) (.tmp 23) rfl (w.heap.size + 1 + 1 + 1 + 1) (arr (cl 16 (pwr (co ys) (k + 1)))) rfl rfl 65 (arr (cl 16 (pwr (co ys) k))) J4.out.2.2.2.2.1 (by rw [arr_size (cl_length _ _)]; exact info_arr) (by rw [arr_size (cl_length _ _), arr_size (cl_length _ _)]) (arr_cells _) ?_)
              go_roundw
              case rel => exact ⟨k + 1, by omega, by go_num, by exact J4.out.1.putOther (by omega) _, by exact J4.out.2.1.putOther (by omega) _, by exact J4.out.2.2.1.putOther (by omega) _, by exact J4.out.2.2.2.1.putOther (by omega) _, by exact J4.out.2.2.2.2.1.put _, by exact below_setRow J4.out.2.2.2.2.2 (by omega) _⟩
              case measure => simp [intOf]; omega
            · exact AllReadyH.nil
          · exact AllReadyH.nil
        · exact AllReadyH.nil
      · refine AllReadyH.cons rfl (fun K hK => ?_) ?_
        · go_simp
          refine (multipleS_any (cl 16 (pwr (co ys) k)) x _ (cl_length _ _) (cl_num _ _) x0 x1).mono ?_
          rintro e w1 ⟨rfl, b1⟩
          have B1 : Below wr.heap.size wr w1 := ⟨b1.os, b1.tape, b1.output, b1.size, b1.block⟩
          clear b1
          go_wp2_with fail
          refine hK.out _ _ (R6.out _ B1) (fun hHeld => ?_)
          clear hK K
          try simp only [Act.put, List.setIfInBounds_toArray, List.set_cons_zero, List.set_cons_succ]
          refine wpAnyH_ready (rs := [0]) (by kernel_rfl) (by simp) ?_
          refine AllReadyH.cons rfl (fun K hK => ?_) ?_
          · refine step_load_row (by rfl) 65 (.tmp 5) (by rfl) (w.heap.size + 1 + 1 + 1) (by rfl) 65 (arr (cl 16 (cmT (co xs) (co ys) k))) (0, 0) _ (by exact K0.out.2.2.2.1.below B1 (by omega)) Try.underlying65 rfl (by rw [arr_size (cl_length _ _)]; exact info_arr) ?_
            refine hK.out _ _ hHeld (fun hHeld => ?_)
            clear hK K
            try simp only [Act.put, List.setIfInBounds_toArray, List.set_cons_zero, List.set_cons_succ]
            refine wpAnyH_ready (rs := [6]) (by kernel_rfl) (by simp) ?_
            refine AllReadyH.cons rfl (fun K hK => ?_) ?_
            · go_simp
              refine (plusS_any (cl 16 (cmT (co xs) (co ys) k)) (cl 16 (sc x (co (cl 16 (pwr (co ys) k))))) _ (cl_length _ _) (cl_length _ _) (cl_num _ _) (cl_num _ _)).mono ?_
              rintro e w2 ⟨rfl, b2⟩
              have B2 : Below wr.heap.size wr w2 := B1.trans ((show Below w1.heap.size w1 w2 from ⟨b2.os, b2.tape, b2.output, b2.size, b2.block⟩).mono B1.size)
              clear b2
              go_wp2_with fail
              refine hK.out _ _ (R6.out _ B2) (fun hHeld => ?_)
              clear hK K
              try simp only [Act.put, List.setIfInBounds_toArray, List.set_cons_zero, List.set_cons_succ]
              refine wpAnyH_ready (rs := [7]) (by kernel_rfl) (by simp) ?_
              refine AllReadyH.cons rfl (fun K hK => ?_) ?_
              · refine step_store_row (by rfl) 65 (.tmp 5) (.tmp 20) (by rfl) (w.heap.size + 1 + 1 + 1) (arr (cl 16 (ad (co (cl 16 (cmT (co xs) (co ys) k))) (co (cl 16 (sc x (co (cl 16 (pwr (co ys) k))))))))) (by rfl) (by rfl) 65 (arr (cl 16 (cmT (co xs) (co ys) k))) (by exact K0.out.2.2.2.1.below B2 (by omega)) (by rw [arr_size (cl_length _ _)]; exact info_arr) (by rw [arr_size (cl_length _ _), arr_size (by first | exact cl_length _ _ | rfl)]) (arr_cells _) ?_
                have G5 : Hid (ArrAt (w2.setRow (w.heap.size + 1 + 1 + 1) (arr (cl 16 (ad (co (cl 16 (cmT (co xs) (co ys) k))) (co (cl 16 (sc x (co (cl 16 (pwr (co ys) k)))))))))) (w.heap.size + 1 + 1 + 1) (cl 16 (cmT (co xs) (co ys) (k + 1)))) := by rw [← HC.out]; exact (K0.out.2.2.2.1.below B2 (by omega)).put _
                have J := Lib.hid (show ArrAt (w2.setRow (w.heap.size + 1 + 1 + 1) (arr (cl 16 (ad (co (cl 16 (cmT (co xs) (co ys) k))) (co (cl 16 (sc x (co (cl 16 (pwr (co ys) k)))))))))) w.heap.size xs ∧ ArrAt (w2.setRow (w.heap.size + 1 + 1 + 1) (arr (cl 16 (ad (co (cl 16 (cmT (co xs) (co ys) k))) (co (cl 16 (sc x (co (cl 16 (pwr (co ys) k)))))))))) (w.heap.size + 1) ys ∧ ArrAt (w2.setRow (w.heap.size + 1 + 1 + 1) (arr (cl 16 (ad (co (cl 16 (cmT (co xs) (co ys) k))) (co (cl 16 (sc x (co (cl 16 (pwr (co ys) k)))))))))) (w.heap.size + 1 + 1) zero16 ∧ ArrAt (w2.setRow (w.heap.size + 1 + 1 + 1) (arr (cl 16 (ad (co (cl 16 (cmT (co xs) (co ys) k))) (co (cl 16 (sc x (co (cl 16 (pwr (co ys) k)))))))))) (w.heap.size + 1 + 1 + 1) (cl 16 (cmT (co xs) (co ys) (k + 1))) ∧ ArrAt (w2.setRow (w.heap.size + 1 + 1 + 1) (arr (cl 16 (ad (co (cl 16 (cmT (co xs) (co ys) k))) (co (cl 16 (sc x (co (cl 16 (pwr (co ys) k)))))))))) (w.heap.size + 1 + 1 + 1 + 1) (cl 16 (pwr (co ys) k)) ∧ Below w.heap.size w (w2.setRow (w.heap.size + 1 + 1 + 1) (arr (cl 16 (ad (co (cl 16 (cmT (co xs) (co ys) k))) (co (cl 16 (sc x (co (cl 16 (pwr (co ys) k)))))))))) from ⟨(K0.out.1.below B2 (by omega)).putOther (by omega) _, (K0.out.2.1.below B2 (by omega)).putOther (by omega) _, (K0.out.2.2.1.below B2 (by omega)).putOther (by omega) _, G5.out, (K0.out.2.2.2.2.1.below B2 (by omega)).putOther (by omega) _, below_setRow (K0.out.2.2.2.2.2.trans (B2.mono (by omega))) (by omega) _⟩)
                refine hK.out _ _ ⟨J.out.1.cell HX.out, J.out.2.2.2.2.1.range⟩ (fun hHeld => ?_)
                clear hK K
                try simp only [Act.put, List.setIfInBounds_toArray, List.set_cons_zero, List.set_cons_succ]
                clear B1 B2 G5 hHeld
                generalize w2.setRow (w.heap.size + 1 + 1 + 1) (arr (cl 16 (ad (co (cl 16 (cmT (co xs) (co ys) k))) (co (cl 16 (sc x (co (cl 16 (pwr (co ys) k))))))))) = W3 at J ⊢
                have hbw3 : w.heap.size + 1 + 1 + 1 + 1 < W3.heap.size := J.out.2.2.2.2.1.lt
                refine wpAnyH_done (by kernel_rfl) ?_ _
                go_wp2_with (first | (refine wpList_load_row rfl 65 (.tmp 6) rfl (w.heap.size + 1 + 1 + 1 + 1) rfl 65 (arr (cl 16 (pwr (co ys) k))) (0, 0) _ J.out.2.2.2.2.1 Try.underlying65 rfl (by rw [arr_size (cl_length _ _)]; exact info_arr) ?_) | (refine wpList_load_row rfl 65 (.tmp 3) rfl (w.heap.size + 1) rfl 65 (arr ys) (0, 0) _ J.out.2.1 Try.underlying65 rfl (by rw [arr_size HL'.out]; exact info_arr) ?_))
                refine (timesS_any (cl 16 (pwr (co ys) k)) ys _ (cl_length _ _) HL'.out (cl_num _ _) HA'.out).mono ?_
                rintro e w4 ⟨rfl, b4⟩
                rw [HP.out]
                have J4 := Lib.hid (show ArrAt w4 w.heap.size xs ∧ ArrAt w4 (w.heap.size + 1) ys ∧ ArrAt w4 (w.heap.size + 1 + 1) zero16 ∧ ArrAt w4 (w.heap.size + 1 + 1 + 1) (cl 16 (cmT (co xs) (co ys) (k + 1))) ∧ ArrAt w4 (w.heap.size + 1 + 1 + 1 + 1) (cl 16 (pwr (co ys) k)) ∧ Below w.heap.size w w4 from ⟨J.out.1.below b4 (by omega), J.out.2.1.below b4 (by omega), J.out.2.2.1.below b4 (by omega), J.out.2.2.2.1.below b4 (by omega), J.out.2.2.2.2.1.below b4 (by omega), J.out.2.2.2.2.2.trans (b4.mono (by omega))⟩)
                clear b4
                go_wp2_with (refine wpList_store_row rfl 65 (.tmp 6) (.tmp 23) rfl (w.heap.size + 1 + 1 + 1 + 1) (arr (cl 16 (pwr (co ys) (k + 1)))) rfl rfl 65 (arr (cl 16 (pwr (co ys) k))) J4.out.2.2.2.2.1 (by rw [arr_size (cl_length _ _)]; exact info_arr) (by rw [arr_size (cl_length _ _), arr_size (cl_length _ _)]) (arr_cells _) ?_)
                go_roundw
                case rel => exact ⟨k + 1, by omega, by go_num, by exact J4.out.1.putOther (by omega) _, by exact J4.out.2.1.putOther (by omega) _, by exact J4.out.2.2.1.putOther (by omega) _, by exact J4.out.2.2.2.1.putOther (by omega) _, by exact J4.out.2.2.2.2.1.put _, by exact below_setRow J4.out.2.2.2.2.2 (by omega) _⟩
                case measure => simp [intOf]; omega
              · exact AllReadyH.nil
            · exact AllReadyH.nil
          · exact AllReadyH.nil
        · exact AllReadyH.nil
end Go.Proofs.Ytjdanhjonjmccab
