/-
  Polynomials of nodes, the program's: codeOfNodes, nodePolynomial, integralWith; NodePolynomial, OrthogonalTo.
-/
import Derived.Test.YtfllcdcgfpjabaaNdP
import Derived.Test.YtfllcdcgfpjabaaDiP
import Derived.Test.YtfllcdcgfpjabaaArrS
import Derived.Test.YtfllcdcgfpjabaaNum
import Derived.Test.YtfllcdcgfpjabaaRes1
import Derived.Test.YtfllcdcgfpjabaaResO
namespace Go.Proofs.Ytfllcdcgfpjabaa
open Go.RowKit Fld Ser
set_option linter.unusedVariables false
set_option linter.unusedSimpArgs false
set_option maxRecDepth 100000

set_option maxHeartbeats 1000000 in
theorem codeOfNodes_any (A : Option Addr) (n c B : Nat) (ns : List Int) (w : World) (hl : ns.length = n) (hn : n ≤ 1048576) (hB : B ≤ w.heap.size) (h : Row w B A (ints ns)) :
    Calls Try.prog 54 #[.slice A n c] w fun e w' => e = .returned (.int .i64 (nodesC ns)) ∧ Below w.heap.size w w' := by
  have HL := Lib.hid hl
  by_cases h1 : 1 ≤ n
  · by_cases h8 : n ≤ 8
    · cases hnum : allNum ns
      · have G := Lib.hid (nodesC_no (ns := ns) (by rw [hnum]; simp))
        clear hl
        go_enter Try.func54, Try.ntmps54
        go_wp2_with fail
        refine (areNumbers_any A n c B ns w HL.out (by omega) h).mono ?_
        rintro e w' ⟨rfl, rfl⟩
        rw [hnum]
        clear hnum
        go_wp2
        go_ret
        exact ⟨ret_i64 G.out.symm, Below.refl _ _⟩
      · have HOK : Hid (1 ≤ ns.length ∧ ns.length ≤ 8 ∧ allNum ns = true) := ⟨by rw [hl]; exact h1, by rw [hl]; exact h8, hnum⟩
        clear hl
        go_enter Try.func54, Try.ntmps54
        go_wp2_with fail
        refine (areNumbers_any A n c B ns w HL.out (by omega) h).mono ?_
        rintro e w' ⟨rfl, rfl⟩
        rw [hnum]
        clear hnum
        go_wp2_with fail
        refine (numbersOf_any A n c B ns w HL.out hn hB h).mono ?_
        rintro e w2 ⟨A2, c2, rfl, own2, b2⟩
        have C3 := areDifferent_any A2 n c2 w2.heap.size ns w2 HL.out (by omega) (Nat.le_refl _) (row_of_own own2)
        have HB2 := Lib.hid b2
        clear own2 b2
        by_cases hd : ns.Nodup
        · have G := Lib.hid (nodesC_yes HOK.out hd)
          rw [decide_eq_true hd] at C3
          clear hd
          go_wp2_with fail
          refine C3.mono ?_
          rintro e w3 ⟨rfl, b3⟩
          have HB3 := Lib.hid (HB2.out.trans (b3.mono HB2.out.size))
          clear C3 b3
          go_wp2
          go_ret
          exact ⟨ret_i64 G.out.symm, HB3.out⟩
        · have G := Lib.hid (nodesC_same HOK.out hd)
          rw [decide_eq_false hd] at C3
          clear hd
          go_wp2_with fail
          refine C3.mono ?_
          rintro e w3 ⟨rfl, b3⟩
          have HB3 := Lib.hid (HB2.out.trans (b3.mono HB2.out.size))
          clear C3 b3
          go_wp2
          go_ret
          exact ⟨ret_i64 G.out.symm, HB3.out⟩
    · have G := Lib.hid (nodesC_no (ns := ns) (by rw [hl]; omega))
      clear hl
      go_enter Try.func54, Try.ntmps54
      go_wp2
      go_ret
      exact ⟨ret_i64 G.out.symm, Below.refl _ _⟩
  · have G := Lib.hid (nodesC_no (ns := ns) (by rw [hl]; omega))
    clear hl
    go_enter Try.func54, Try.ntmps54
    go_wp2
    go_ret
    exact ⟨ret_i64 G.out.symm, Below.refl _ _⟩
theorem nodesC_okP {ns : List Int} (h : nodesC ns = 0) : 1 ≤ ns.length ∧ ns.length ≤ 8 ∧ allNum ns = true ∧ ns.Nodup := by
  unfold nodesC at h
  split at h
  · rename_i h1
    split at h
    · rename_i h2
      exact ⟨h1.1, h1.2.1, h1.2.2, h2⟩
    · cases h
  · cases h
theorem one_arr : cl 16 one = 1 :: List.replicate 15 0 := by decide +kernel
set_option maxHeartbeats 2000000 in
theorem nodePolynomial_any (A : Option Addr) (n c B : Nat) (ns : List Int) (w : World) (hl : ns.length = n) (hn : n ≤ 8) (hp : allNum ns = true) (hB : B ≤ w.heap.size) (h : Row w B A (ints ns)) :
    Calls Try.prog 67 #[.slice A n c] w fun e w' => e = .returned (.agg (arr (cl 16 (plF ns n)))) ∧ Below w.heap.size w w' := by
  have HL := Lib.hid hl
  have HN := Lib.hid hp
  have F := Lib.hid (arr_two w zero16 zero16)
  clear hl hp
  go_enter Try.func67, Try.ntmps67
  go_wp2_with (refine wpList_store_row rfl 81 (.tmp 3) (.tmp 6) rfl (w.heap.size + 1) (arr (cl 16 one)) rfl (by rw [one_arr]; rfl) 81 (arr zero16) F.out.2.1 (by rw [arr_size (cl_length _ _)]; exact info_arr) (by rw [arr_size (cl_length _ _)]; rfl) (arr_cells _) ?_)
  have F0 := Lib.hid (show ArrAt (((w.alloc (.cells (arr zero16) 81)).alloc (.cells (arr zero16) 81)).setRow (w.heap.size + 1) (arr (cl 16 one))) w.heap.size zero16 ∧ ArrAt (((w.alloc (.cells (arr zero16) 81)).alloc (.cells (arr zero16) 81)).setRow (w.heap.size + 1) (arr (cl 16 one))) (w.heap.size + 1) (cl 16 (plF ns 0)) ∧ Below w.heap.size w (((w.alloc (.cells (arr zero16) 81)).alloc (.cells (arr zero16) 81)).setRow (w.heap.size + 1) (arr (cl 16 one))) from ⟨F.out.1.putOther (by omega) _, F.out.2.1.put _, below_setRow F.out.2.2 (by omega) _⟩)
  clear F
  go_loopw [9] (fun i wr => ∃ k : Nat, k ≤ n ∧ i = .int .i64 k ∧ ArrAt wr w.heap.size zero16 ∧ ArrAt wr (w.heap.size + 1) (cl 16 (plF ns k)) ∧ Below w.heap.size w wr) (fun i _ => n - (intOf i).toNat)
  case atStart => exact ⟨0, Nat.zero_le _, rfl, F0.out⟩
  case round =>
    obtain ⟨k, hk, rfl, H1, H2, HB⟩ := hrel
    clear F0
    have hz1 := H2.lt
    by_cases hlt : k < n
    · obtain ⟨x, hx⟩ := at_lt (show k < ns.length by rw [HL.out]; exact hlt)
      obtain ⟨x0, x1⟩ := allNum_iff.1 HN.out x (List.mem_of_getElem? hx)
      obtain ⟨bx, ox, rfl, _, hcx⟩ := h.below HB hB k _ (ints_at hx)
      have HPL := Lib.hid (pl_prog hx)
      have CT : ∀ W, Calls Try.prog 96 #[.agg (arr (cl 16 (plF ns k))), .agg #[.int .i64 (-x % 10007), .int .i64 1, .int .i64 0, .int .i64 0, .int .i64 0, .int .i64 0, .int .i64 0, .int .i64 0, .int .i64 0, .int .i64 0, .int .i64 0, .int .i64 0, .int .i64 0, .int .i64 0, .int .i64 0, .int .i64 0]] W fun e w' => e = .returned (.agg (arr (cl 16 (plF ns (k + 1))))) ∧ Below W.heap.size W w' := fun W => by
        have := timesS_any (cl 16 (plF ns k)) (cl 16 (linF x)) W (cl_length _ _) (cl_length _ _) (cl_num _ _) (cl_num _ _)
        rw [HPL.out, lin_arr] at this
        exact this
      have G1 := Lib.hid H1
      have G2 := Lib.hid H2
      have GB := Lib.hid HB
      clear hx H1 H2 HB HPL
      go_wp2_with fail
      refine wp_region_held_drew (S := (fun w' => True)) (by kernel_rfl) trivial (fun hHeld => ?_)
      refine wpAnyH_take (i := 1) (v := ?_) rfl (by kernel_rfl) (by kernel_rfl) (by kernel_rfl) (fun _ _ _ h => h) (Or.inl ⟨by rfl, ?_⟩) hHeld ?_
      rotate_left
      · intro w hSw
        go_simp
        with_reducible rfl
      try simp only [Act.put, List.setIfInBounds_toArray, List.set_cons_zero, List.set_cons_succ]
      refine wpAnyH_ready (rs := [0, 2]) (by kernel_rfl) (by simp) ?_
      refine AllReadyH.cons rfl (fun K hK => ?_) ?_
      · refine step_load_row (by rfl) 81 (.tmp 3) (by rfl) (w.heap.size + 1) (by rfl) 81 (arr (cl 16 (plF ns k))) (0, 0) _ (by exact G2.out.drewN 1) Try.underlying81 rfl (by rw [arr_size (cl_length _ _)]; exact info_arr) ?_
        refine hK.out _ _ trivial (fun hHeld => ?_)
        clear hK K
        try simp only [Act.put, List.setIfInBounds_toArray, List.set_cons_zero, List.set_cons_succ]
        refine wpAnyH_ready (rs := [2]) (by kernel_rfl) (by simp) ?_
        refine AllReadyH.cons rfl (fun K hK => ?_) ?_
        · go_simp
          refine (negative_any x _ x0 x1).mono ?_
          rintro e w1 ⟨rfl, rfl⟩
          go_wp2_with fail
          refine hK.out _ _ trivial (fun hHeld => ?_)
          clear hK K
          try simp only [Act.put, List.setIfInBounds_toArray, List.set_cons_zero, List.set_cons_succ]
          refine wpAnyH_take (i := 3) (v := ?_) rfl (by kernel_rfl) (by kernel_rfl) (by kernel_rfl) (fun _ _ _ h => h) (Or.inl ⟨by rfl, ?_⟩) hHeld ?_
          rotate_left
          · intro w hSw
            go_simp
            with_reducible rfl
          try simp only [Act.put, List.setIfInBounds_toArray, List.set_cons_zero, List.set_cons_succ]
          refine wpAnyH_ready (rs := [4]) (by kernel_rfl) (by simp) ?_
          refine AllReadyH.cons rfl (fun K hK => ?_) ?_
          · go_simp
            refine (CT _).mono ?_
            rintro e w2 ⟨rfl, b2⟩
            have B2 : Below wr.heap.size wr w2 := ⟨b2.os, b2.tape, b2.output, b2.size, b2.block⟩
            clear b2 CT
            go_wp2_with fail
            refine hK.out _ _ trivial (fun hHeld => ?_)
            clear hK K
            try simp only [Act.put, List.setIfInBounds_toArray, List.set_cons_zero, List.set_cons_succ]
            refine wpAnyH_ready (rs := [5]) (by kernel_rfl) (by simp) ?_
            refine AllReadyH.cons rfl (fun K hK => ?_) ?_
            · refine step_store_row (by rfl) 81 (.tmp 3) (.tmp 17) (by rfl) (w.heap.size + 1) (arr (cl 16 (plF ns (k + 1)))) (by rfl) (by rfl) 81 (arr (cl 16 (plF ns k))) (by exact G2.out.below B2 hz1) (by rw [arr_size (cl_length _ _)]; exact info_arr) (by rw [arr_size (cl_length _ _), arr_size (cl_length _ _)]) (arr_cells _) ?_
              refine hK.out _ _ trivial (fun hHeld => ?_)
              clear hK K
              try simp only [Act.put, List.setIfInBounds_toArray, List.set_cons_zero, List.set_cons_succ]
              refine wpAnyH_done (by kernel_rfl) ?_ _
              have J := Lib.hid (show ArrAt (w2.setRow (w.heap.size + 1) (arr (cl 16 (plF ns (k + 1))))) w.heap.size zero16 ∧ ArrAt (w2.setRow (w.heap.size + 1) (arr (cl 16 (plF ns (k + 1))))) (w.heap.size + 1) (cl 16 (plF ns (k + 1))) ∧ Below w.heap.size w (w2.setRow (w.heap.size + 1) (arr (cl 16 (plF ns (k + 1))))) from ⟨(G1.out.below B2 (by omega)).putOther (by omega) _, (G2.out.below B2 hz1).put _, below_setRow (GB.out.trans (B2.mono GB.out.size)) (by omega) _⟩)
              clear B2 hHeld
              go_wp2
              go_roundw
              case rel => exact ⟨k + 1, by omega, by go_num, J.out⟩
              case measure => simp [intOf]; omega
            · exact AllReadyH.nil
          · exact AllReadyH.nil
        · exact AllReadyH.nil
      · refine AllReadyH.cons rfl (fun K hK => ?_) ?_
        · go_simp
          refine (negative_any x _ x0 x1).mono ?_
          rintro e w1 ⟨rfl, rfl⟩
          go_wp2_with fail
          refine hK.out _ _ trivial (fun hHeld => ?_)
          clear hK K
          try simp only [Act.put, List.setIfInBounds_toArray, List.set_cons_zero, List.set_cons_succ]
          refine wpAnyH_take (i := 3) (v := ?_) rfl (by kernel_rfl) (by kernel_rfl) (by kernel_rfl) (fun _ _ _ h => h) (Or.inl ⟨by rfl, ?_⟩) hHeld ?_
          rotate_left
          · intro w hSw
            go_simp
            with_reducible rfl
          try simp only [Act.put, List.setIfInBounds_toArray, List.set_cons_zero, List.set_cons_succ]
          refine wpAnyH_ready (rs := [0]) (by kernel_rfl) (by simp) ?_
          refine AllReadyH.cons rfl (fun K hK => ?_) ?_
          · refine step_load_row (by rfl) 81 (.tmp 3) (by rfl) (w.heap.size + 1) (by rfl) 81 (arr (cl 16 (plF ns k))) (0, 0) _ (by exact G2.out.drewN 1) Try.underlying81 rfl (by rw [arr_size (cl_length _ _)]; exact info_arr) ?_
            refine hK.out _ _ trivial (fun hHeld => ?_)
            clear hK K
            try simp only [Act.put, List.setIfInBounds_toArray, List.set_cons_zero, List.set_cons_succ]
            refine wpAnyH_ready (rs := [4]) (by kernel_rfl) (by simp) ?_
            refine AllReadyH.cons rfl (fun K hK => ?_) ?_
            · go_simp
              refine (CT _).mono ?_
              rintro e w2 ⟨rfl, b2⟩
              have B2 : Below wr.heap.size wr w2 := ⟨b2.os, b2.tape, b2.output, b2.size, b2.block⟩
              clear b2 CT
              go_wp2_with fail
              refine hK.out _ _ trivial (fun hHeld => ?_)
              clear hK K
              try simp only [Act.put, List.setIfInBounds_toArray, List.set_cons_zero, List.set_cons_succ]
              refine wpAnyH_ready (rs := [5]) (by kernel_rfl) (by simp) ?_
              refine AllReadyH.cons rfl (fun K hK => ?_) ?_
              · refine step_store_row (by rfl) 81 (.tmp 3) (.tmp 17) (by rfl) (w.heap.size + 1) (arr (cl 16 (plF ns (k + 1)))) (by rfl) (by rfl) 81 (arr (cl 16 (plF ns k))) (by exact G2.out.below B2 hz1) (by rw [arr_size (cl_length _ _)]; exact info_arr) (by rw [arr_size (cl_length _ _), arr_size (cl_length _ _)]) (arr_cells _) ?_
                refine hK.out _ _ trivial (fun hHeld => ?_)
                clear hK K
                try simp only [Act.put, List.setIfInBounds_toArray, List.set_cons_zero, List.set_cons_succ]
                refine wpAnyH_done (by kernel_rfl) ?_ _
                have J := Lib.hid (show ArrAt (w2.setRow (w.heap.size + 1) (arr (cl 16 (plF ns (k + 1))))) w.heap.size zero16 ∧ ArrAt (w2.setRow (w.heap.size + 1) (arr (cl 16 (plF ns (k + 1))))) (w.heap.size + 1) (cl 16 (plF ns (k + 1))) ∧ Below w.heap.size w (w2.setRow (w.heap.size + 1) (arr (cl 16 (plF ns (k + 1))))) from ⟨(G1.out.below B2 (by omega)).putOther (by omega) _, (G2.out.below B2 hz1).put _, below_setRow (GB.out.trans (B2.mono GB.out.size)) (by omega) _⟩)
                clear B2 hHeld
                go_wp2
                go_roundw
                case rel => exact ⟨k + 1, by omega, by go_num, J.out⟩
                case measure => simp [intOf]; omega
              · exact AllReadyH.nil
            · exact AllReadyH.nil
          · exact AllReadyH.nil
        · exact AllReadyH.nil
    · obtain rfl : k = n := by omega
      have G1 := Lib.hid H1
      have G2 := Lib.hid H2
      have GB := Lib.hid HB
      clear H1 H2 HB
      go_wp2_with (first
        | (refine wpList_load_row rfl 81 (.tmp 3) rfl (w.heap.size + 1) rfl 81 (arr (cl 16 (plF ns k))) (0, 0) _ G2.out Try.underlying81 rfl (by rw [arr_size (cl_length _ _)]; exact info_arr) ?_)
        | (refine wpList_store_row rfl 81 (.tmp 2) (.tmp 19) rfl w.heap.size (arr (cl 16 (plF ns k))) rfl rfl 81 (arr zero16) G1.out (by rw [arr_size (cl_length _ _)]; exact info_arr) (by rw [arr_size (cl_length _ _)]; rfl) (arr_cells _) ?_))
      refine bodyPost_ret (v := .agg (arr (cl 16 (plF ns k)))) ?_ rfl ⟨rfl, below_setRow GB.out (Nat.le_refl _) _⟩
      exact results_cell_row rfl _ _ w.heap.size 81 _ (0, 0) _ rfl (setRow_heap _ _ _ _ _ _ G1.out) Try.underlying81 rfl (by rw [arr_size (cl_length _ _)]; exact info_arr)
theorem info_numG : (Try.prog.info? 79).map (·.size) = some 1 := by kernel_rfl
theorem size_numG (w : World) : (sizeOf 79).run Try.prog w = .ok 1 w := by
  cases hq : Try.prog.info? 79 with
  | none => have := info_numG; rw [hq] at this; cases this
  | some i =>
    have h := info_numG
    rw [hq] at h
    have h2 : i.size = 1 := by simpa using h
    simp [sizeOf, typeInfo, hq, h2]
theorem run_index_arr {xs : List Int} {k : Nat} {x : Int} (hl : xs.length = 16) (hx : xs[k]? = some x) (W : World) : (Instr.index 81 (.agg (arr xs)) (.int .i64 (k : Int))).run Try.prog W = .ok (.int .i64 x) W := by
  have hk := (List.getElem?_eq_some_iff.1 hx).1
  have hk2 : k < 16 := by omega
  have hh : (k : Int) < 16 := by omega
  have ha : (arr xs)[k]? = some (.int .i64 x) := by unfold arr; rw [List.getElem?_toArray]; exact ints_at hx
  simp [Instr.index, run_underlying Try.underlying81, asIntOf, hh, hk2, size_numG, go_sem]
  rw [ha]; rfl
set_option maxHeartbeats 2000000 in
theorem integralWith_any (f : Nat → Int) (m : Nat) (w : World) (hm : m ≤ 20) :
    Calls Try.prog 70 #[.agg (arr (cl 16 f)), .int .i64 m] w fun e w' => e = .returned (.int .i64 (igP f m 16)) ∧ Below w.heap.size w w' := by
  have F := Lib.hid (ArrAt.new w (cl 16 f))
  have HB : Hid (Below w.heap.size w (w.alloc (.cells (arr (cl 16 f)) 81))) := (Below.refl _ _).alloc (Nat.le_refl _) _
  go_enter Try.func70, Try.ntmps70
  go_wp2_with (refine wpList_load_row rfl 81 (.tmp 2) rfl w.heap.size rfl 81 (arr (cl 16 f)) (0, 0) _ F.out Try.underlying81 rfl (by rw [arr_size (cl_length _ _)]; exact info_arr) ?_)
  go_loop [5, 9] (fun sv iv => ∃ k : Nat, k ≤ 16 ∧ sv = .int .i64 (igP f m k) ∧ iv = .int .i64 k) (fun _ iv => 16 - (intOf iv).toNat)
  case atStart => exact ⟨0, by omega, rfl, rfl⟩
  case round =>
    obtain ⟨k, hk, rfl, rfl⟩ := hrel
    by_cases hlt : k < 16
    · have hx := cl_at f hlt
      have x0 : 0 ≤ f k % 10007 := by omega
      have x1 : f k % 10007 < 10007 := by omega
      have HS : Hid (igP f m (k + 1) = (igP f m k + f k % 10007 * inv ((k : Int) + (m : Int) + 1) % 10007) % 10007) := rfl
      obtain ⟨s0, s1⟩ := igP_bd f m k
      have hw1 : IntKind.i64.wrap ((k : Int) + (m : Int)) = (k : Int) + (m : Int) := IntWalk.i64_in _ (by omega)
      have hw2 : IntKind.i64.wrap ((k : Int) + (m : Int) + 1) = (k : Int) + (m : Int) + 1 := IntWalk.i64_in _ (by omega)
      have tk : (k : Int) < 16 := by omega
      obtain ⟨y, hy⟩ : ∃ y, y = f k % 10007 := ⟨_, rfl⟩
      rw [← hy] at hx x0 x1 HS
      have hix : ∀ W, (Instr.index 81 (.agg (arr (cl 16 f))) (.int .i64 (k : Int))).run Try.prog W = .ok (.int .i64 y) W := fun W => run_index_arr (cl_length _ _) hx W
      have CO := fun W => over_any y ((k : Int) + (m : Int) + 1) W x0 x1 (by omega) (by omega)
      obtain ⟨v, hv⟩ : ∃ v, v = y * inv ((k : Int) + (m : Int) + 1) % 10007 := ⟨_, rfl⟩
      have v0 : 0 ≤ v := by rw [hv]; exact Int.emod_nonneg _ (by omega)
      have v1 : v < 10007 := by rw [hv]; exact Int.emod_lt_of_pos _ (by omega)
      rw [← hv] at CO HS
      obtain ⟨S, hS⟩ : ∃ S, S = igP f m k := ⟨_, rfl⟩
      rw [← hS] at s0 s1 HS ⊢
      clear hv hS hy hx
      go_wp2_with (first
        | (go_at_call 83; refine (CO _).mono ?_; rintro e w6 ⟨rfl, rfl⟩)
        | (go_at_call 102; refine (plus_any _ _ _ s0 s1 v0 v1).mono ?_; rintro e w6 ⟨rfl, rfl⟩))
      go_round
      case rel => exact ⟨k + 1, by omega, by rw [HS.out], by go_num⟩
      case measure => simp [intOf]; omega
    · obtain rfl : k = 16 := by omega
      go_wp2
      go_ret
      exact ⟨rfl, HB.out⟩
set_option maxHeartbeats 1000000 in
theorem pNodePolynomial_L (A : Option Addr) (n c B : Nat) (ns : List Int) (w : World) (hl : ns.length = n) (hn : n ≤ 1048576) (hB : B ≤ w.heap.size) (h : Row w B A (ints ns)) (hc : n ≤ c) :
    Calls Try.prog 35 #[.slice A n c] w (ResL (nodePolyA ns) w) := by
  have C0 := codeOfNodes_any A n c B ns w hl hn hB h
  have HL := Lib.hid hl
  by_cases h0 : nodesC ns = 0
  · obtain ⟨n1, n8, hnum, _⟩ := nodesC_okP h0
    rw [hl] at n1 n8
    have G : Hid (nodePolyA ns = (cl (n + 1) (plF ns n), 0)) := by unfold nodePolyA; rw [Hid, if_pos h0, hl]
    have HN := Lib.hid hnum
    rw [h0] at C0
    clear hl h0 hnum
    go_enter Try.func35, Try.ntmps35
    go_wp2_with fail
    refine C0.mono ?_
    rintro e w1 ⟨rfl, b1⟩
    have HR1 := Lib.hid (h.below b1 hB)
    have HB1 := Lib.hid b1
    have hz1 := b1.size
    clear C0 b1
    go_wp2_with fail
    refine (numbersOf_any A n c B ns w1 HL.out hn (by omega) HR1.out).mono ?_
    rintro e w2 ⟨A2, c2, rfl, own2, b2⟩
    have HR2 := Lib.hid (row_of_own own2)
    have HB2 := Lib.hid (HB1.out.trans (b2.mono hz1))
    clear own2 b2
    go_wp2_with fail
    refine (nodePolynomial_any A2 n c2 w2.heap.size ns w2 HL.out n8 HN.out (Nat.le_refl _) HR2.out).mono ?_
    rintro e w3 ⟨rfl, b3⟩
    have HB3 := Lib.hid (HB2.out.trans (b3.mono HB2.out.size))
    have C4 := listS_any (plF ns n) (n + 1) w3 (by omega)
    have hwr : IntKind.i64.wrap ((n : Int) + 1) = ((n + 1 : Nat) : Int) := by rw [IntWalk.i64_in _ (by omega)]; omega
    rw [Int.natCast_add, Int.natCast_one] at C4 hwr
    obtain ⟨V, hV⟩ : ∃ V, V = arr (cl 16 (plF ns n)) := ⟨_, rfl⟩
    rw [← hV] at C4 ⊢
    clear b3 hV
    go_wp2_with fail
    refine C4.mono ?_
    rintro e w4 ⟨A4, c4, rfl, own4, b4⟩
    have HB4 := Lib.hid (HB3.out.trans (b4.mono HB3.out.size))
    have GR : Hid (ResL (nodePolyA ns) w (.returned (.tuple #[.slice A4 (n + 1) c4, .int .i64 0])) w4) := ResL.of G.out (cl_length _ _) (by omega) ((OwnR.of own4).more HB3.out.size (Nat.le_refl _)).1 HB4.out
    clear C4 own4 b4
    go_wp2
    go_ret2
    exact GR.out
  · have G : Hid (nodePolyA ns = ([], nodesC ns)) := by unfold nodePolyA; rw [Hid, if_neg h0]
    obtain ⟨k, hk⟩ : ∃ k, k = nodesC ns := ⟨_, rfl⟩
    rw [← hk] at C0 G h0
    have tk := bne_t h0
    clear hl hk
    go_enter Try.func35, Try.ntmps35
    go_wp2_with fail
    refine C0.mono ?_
    rintro e w1 ⟨rfl, b1⟩
    have HB1 := Lib.hid b1
    clear C0 b1
    go_wp2
    go_ret2
    exact ResL.nil G.out HB1.out
theorem list16 : ∀ l : List Int, l.length = 16 → ∃ v0 v1 v2 v3 v4 v5 v6 v7 v8 v9 v10 v11 v12 v13 v14 v15, l = [v0, v1, v2, v3, v4, v5, v6, v7, v8, v9, v10, v11, v12, v13, v14, v15]
  | [v0, v1, v2, v3, v4, v5, v6, v7, v8, v9, v10, v11, v12, v13, v14, v15], _ => ⟨_, _, _, _, _, _, _, _, _, _, _, _, _, _, _, _, rfl⟩
theorem orth_noP {ns : List Int} {q : Nat} (h : ∀ j, j < q → orthP ns j) (hq : q < 8) (hn : ¬ orthP ns q) : ordF (orthP ns) 0 8 = q :=
  ordF_eq _ 8 0 q (by omega) (by omega) (fun j _ hj => h j hj) (Or.inr hn)
theorem orth_yesP {ns : List Int} (h : ∀ j, j < 8 → orthP ns j) : ordF (orthP ns) 0 8 = 8 :=
  ordF_eq _ 8 0 8 (by omega) (by omega) (fun j _ hj => h j hj) (Or.inl (by omega))
set_option maxHeartbeats 2000000 in
theorem pOrthogonalTo_L (A : Option Addr) (n c B : Nat) (ns : List Int) (w : World) (hl : ns.length = n) (hn : n ≤ 1048576) (hB : B ≤ w.heap.size) (h : Row w B A (ints ns)) (hc : n ≤ c) :
    Calls Try.prog 38 #[.slice A n c] w (ResI (orthA ns) w) := by
  have C0 := codeOfNodes_any A n c B ns w hl hn hB h
  have HL := Lib.hid hl
  by_cases h0 : nodesC ns = 0
  · obtain ⟨n1, n8, hnum, _⟩ := nodesC_okP h0
    rw [hl] at n1 n8
    have G : Hid (orthA ns = (((ordF (orthP ns) 0 8 : Nat) : Int), 0)) := by unfold orthA; rw [Hid, if_pos h0]
    have HN := Lib.hid hnum
    have HP : Hid (∀ m, orthP ns m ↔ igP (plF ns n) m 16 = 0) := fun m => by
      unfold orthP; rw [hl]; have e := igP_more (f := plF ns n) (m := m) (n := n + 1) (fun j hj => plF_deg ns n j (by omega)) (15 - n); rw [show n + 1 + (15 - n) = 16 by omega] at e; rw [e]
    rw [h0] at C0
    clear hl h0 hnum
    go_enter Try.func38, Try.ntmps38
    go_wp2_with fail
    refine C0.mono ?_
    rintro e w1 ⟨rfl, b1⟩
    have HR1 := Lib.hid (h.below b1 hB)
    have HB1 := Lib.hid b1
    have hz1 := b1.size
    clear C0 b1
    go_wp2_with fail
    refine (numbersOf_any A n c B ns w1 HL.out hn (by omega) HR1.out).mono ?_
    rintro e w2 ⟨A2, c2, rfl, own2, b2⟩
    have HR2 := Lib.hid (row_of_own own2)
    have HB2 := Lib.hid (HB1.out.trans (b2.mono hz1))
    clear own2 b2
    go_wp2_with fail
    refine (nodePolynomial_any A2 n c2 w2.heap.size ns w2 HL.out n8 HN.out (Nat.le_refl _) HR2.out).mono ?_
    rintro e w3 ⟨rfl, b3⟩
    have HB3 := Lib.hid (HB2.out.trans (b3.mono HB2.out.size))
    clear b3
    have F := Lib.hid (ArrAt.new w3 zero16)
    have CI := fun m (hm : m ≤ 20) W => integralWith_any (plF ns n) m W hm
    obtain ⟨v0, v1, v2, v3, v4, v5, v6, v7, v8, v9, v10, v11, v12, v13, v14, v15, hvs⟩ := list16 (cl 16 (plF ns n)) (cl_length _ _)
    rw [hvs] at CI ⊢
    clear hvs
    rw [show arr [v0, v1, v2, v3, v4, v5, v6, v7, v8, v9, v10, v11, v12, v13, v14, v15] = #[.int .i64 v0, .int .i64 v1, .int .i64 v2, .int .i64 v3, .int .i64 v4, .int .i64 v5, .int .i64 v6, .int .i64 v7, .int .i64 v8, .int .i64 v9, .int .i64 v10, .int .i64 v11, .int .i64 v12, .int .i64 v13, .int .i64 v14, .int .i64 v15] from rfl] at CI ⊢
    go_wp2_with (refine wpList_store_row rfl 81 (.tmp 5) (.tmp 14) rfl w3.heap.size #[.int .i64 v0, .int .i64 v1, .int .i64 v2, .int .i64 v3, .int .i64 v4, .int .i64 v5, .int .i64 v6, .int .i64 v7, .int .i64 v8, .int .i64 v9, .int .i64 v10, .int .i64 v11, .int .i64 v12, .int .i64 v13, .int .i64 v14, .int .i64 v15] rfl rfl 81 (arr zero16) F.out info_arr rfl rfl ?_)
    have F0 := Lib.hid (show ArrAt (w3.alloc (.cells #[.int .i64 v0, .int .i64 v1, .int .i64 v2, .int .i64 v3, .int .i64 v4, .int .i64 v5, .int .i64 v6, .int .i64 v7, .int .i64 v8, .int .i64 v9, .int .i64 v10, .int .i64 v11, .int .i64 v12, .int .i64 v13, .int .i64 v14, .int .i64 v15] 81)) w3.heap.size [v0, v1, v2, v3, v4, v5, v6, v7, v8, v9, v10, v11, v12, v13, v14, v15] ∧ Below w.heap.size w (w3.alloc (.cells #[.int .i64 v0, .int .i64 v1, .int .i64 v2, .int .i64 v3, .int .i64 v4, .int .i64 v5, .int .i64 v6, .int .i64 v7, .int .i64 v8, .int .i64 v9, .int .i64 v10, .int .i64 v11, .int .i64 v12, .int .i64 v13, .int .i64 v14, .int .i64 v15] 81)) from ⟨ArrAt.new w3 [v0, v1, v2, v3, v4, v5, v6, v7, v8, v9, v10, v11, v12, v13, v14, v15], HB3.out.alloc HB3.out.size _⟩)
    clear F
    go_loopw [6] (fun mv wr => ∃ m : Nat, m ≤ 8 ∧ mv = .int .i64 m ∧ Hid (ArrAt wr w3.heap.size [v0, v1, v2, v3, v4, v5, v6, v7, v8, v9, v10, v11, v12, v13, v14, v15]) ∧ Hid (Below w.heap.size w wr) ∧ Hid (∀ j, j < m → orthP ns j)) (fun mv _ => 8 - (intOf mv).toNat)
    case atStart => exact ⟨0, by omega, rfl, F0.out.1, F0.out.2, fun j hj => by omega⟩
    case round =>
      obtain ⟨m, hm, rfl, HF, HBB, HJ⟩ := hrel
      clear F0
      by_cases hlt : m < 8
      · have C3 := CI m (by omega) wr
        have hpm := HP.out m
        have tm : (m : Int) < 8 := by omega
        obtain ⟨V, hV⟩ : ∃ V, V = igP (plF ns n) m 16 := ⟨_, rfl⟩
        rw [← hV] at C3 hpm
        clear hV
        by_cases hv : V = 0
        · have GJ : Hid (∀ j, j < m + 1 → orthP ns j) := fun j hj => by
            by_cases e : j = m
            · rw [e]; exact hpm.2 hv
            · exact HJ.out j (by omega)
          subst hv
          clear hpm HJ
          have q0 := HF.out.cell (k := 0) rfl
          have q1 := HF.out.cell (k := 1) rfl
          have q2 := HF.out.cell (k := 2) rfl
          have q3 := HF.out.cell (k := 3) rfl
          have q4 := HF.out.cell (k := 4) rfl
          have q5 := HF.out.cell (k := 5) rfl
          have q6 := HF.out.cell (k := 6) rfl
          have q7 := HF.out.cell (k := 7) rfl
          have q8 := HF.out.cell (k := 8) rfl
          have q9 := HF.out.cell (k := 9) rfl
          have q10 := HF.out.cell (k := 10) rfl
          have q11 := HF.out.cell (k := 11) rfl
          have q12 := HF.out.cell (k := 12) rfl
          have q13 := HF.out.cell (k := 13) rfl
          have q14 := HF.out.cell (k := 14) rfl
          have q15 := HF.out.cell (k := 15) rfl
          go_wp2_with fail
          refine C3.mono ?_
          rintro e w5 ⟨rfl, b5⟩
          have HF5 := Lib.hid (HF.out.below b5 HF.out.lt)
          have HB5 := Lib.hid (HBB.out.trans (b5.mono HBB.out.size))
          clear q0 q1 q2 q3 q4 q5 q6 q7 q8 q9 q10 q11 q12 q13 q14 q15
          clear C3 b5 HF HBB
          go_wp2
          go_roundw
          case rel => exact ⟨m + 1, by omega, by go_num, HF5, HB5, GJ⟩
          case measure => simp [intOf]; omega
        · have GE : Hid (ordF (orthP ns) 0 8 = m) := orth_noP HJ.out hlt (fun hh => hv (hpm.1 hh))
          have GR : Hid (orthA ns = ((m : Int), 0)) := by rw [Hid, G.out, GE.out]
          have tv := beq_f hv
          clear hpm HJ
          have q0 := HF.out.cell (k := 0) rfl
          have q1 := HF.out.cell (k := 1) rfl
          have q2 := HF.out.cell (k := 2) rfl
          have q3 := HF.out.cell (k := 3) rfl
          have q4 := HF.out.cell (k := 4) rfl
          have q5 := HF.out.cell (k := 5) rfl
          have q6 := HF.out.cell (k := 6) rfl
          have q7 := HF.out.cell (k := 7) rfl
          have q8 := HF.out.cell (k := 8) rfl
          have q9 := HF.out.cell (k := 9) rfl
          have q10 := HF.out.cell (k := 10) rfl
          have q11 := HF.out.cell (k := 11) rfl
          have q12 := HF.out.cell (k := 12) rfl
          have q13 := HF.out.cell (k := 13) rfl
          have q14 := HF.out.cell (k := 14) rfl
          have q15 := HF.out.cell (k := 15) rfl
          go_wp2_with fail
          refine C3.mono ?_
          rintro e w5 ⟨rfl, b5⟩
          have HB5 := Lib.hid (HBB.out.trans (b5.mono HBB.out.size))
          clear q0 q1 q2 q3 q4 q5 q6 q7 q8 q9 q10 q11 q12 q13 q14 q15
          clear C3 b5 HF HBB
          go_wp2
          go_ret2
          exact ResI.of' GR.out HB5.out
      · obtain rfl : m = 8 := by omega
        have GE : Hid (ordF (orthP ns) 0 8 = 8) := orth_yesP HJ.out
        have GR : Hid (orthA ns = (8, 0)) := by rw [Hid, G.out, GE.out]; rfl
        clear HJ
        go_wp2
        go_ret2
        exact ResI.of' GR.out HBB.out
  · have G : Hid (orthA ns = (0, nodesC ns)) := by unfold orthA; rw [Hid, if_neg h0]
    obtain ⟨k, hk⟩ : ∃ k, k = nodesC ns := ⟨_, rfl⟩
    rw [← hk] at C0 G h0
    have tk := bne_t h0
    clear hl hk
    go_enter Try.func38, Try.ntmps38
    go_wp2_with fail
    refine C0.mono ?_
    rintro e w1 ⟨rfl, b1⟩
    have HB1 := Lib.hid b1
    clear C0 b1
    go_wp2
    go_ret2
    exact ResI.of' G.out HB1.out
end Go.Proofs.Ytfllcdcgfpjabaa
