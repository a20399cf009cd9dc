/-
  Series as arrays of the program: the exponential, quotients, compositions.
-/
import Derived.Test.YtjdanhjonjmccabArr2
namespace Go.Proofs.Ytjdanhjonjmccab
open Go.RowKit Fld Ser
set_option linter.unusedVariables false
set_option linter.unusedSimpArgs false
set_option maxRecDepth 100000

theorem ArrAt.put {w : World} {g : Nat} {xs : List Int} (h : ArrAt w g xs) (ys : List Int) : ArrAt (w.setRow g (arr ys)) g ys := setRow_heap w g _ _ _ _ h
theorem ArrAt.putOther {w : World} {g g' : Nat} {xs : List Int} (h : ArrAt w g xs) (hne : g ≠ g') (cs : Array Value) : ArrAt (w.setRow g' cs) g xs := by
  unfold ArrAt
  rw [setRow_other w g' g cs hne]; exact h
theorem mix_low {us xs : List Int} {k i : Nat} {x : Int} (hk : k ≤ us.length) (hi : i < k) (hx : us[i]? = some x) : (us.take k ++ xs.drop k)[i]? = some x := by
  rw [List.getElem?_append_left (by rw [List.length_take]; omega), List.getElem?_take, if_pos hi]; exact hx
theorem ex_bd : ∀ n, 0 ≤ ex n ∧ ex n < 10007
  | 0 => ⟨by decide, by decide⟩
  | n+1 => by show 0 ≤ ex n * inv ((n : Int) + 1) % 10007 ∧ ex n * inv ((n : Int) + 1) % 10007 < 10007; omega
theorem ex_at {n : Nat} (h : n < 16) : (cl 16 ex)[n]? = some (ex n) := by
  rw [cl_at _ h, Int.emod_eq_of_lt (ex_bd n).1 (ex_bd n).2]
def one16 : List Int := 1 :: List.replicate 15 0
theorem one16_cl : one16 = cl 16 one := by decide +kernel
theorem one16_at {k : Nat} (h : k < 15) : one16[k + 1]? = some 0 := by unfold one16; rw [List.getElem?_cons_succ, List.getElem?_replicate, if_pos h]
set_option maxHeartbeats 1000000 in
theorem exponential_any (w : World) : Calls Try.prog 73 #[] w fun e w' => e = .returned (.agg (arr (cl 16 ex))) ∧ Below w.heap.size w w' := by
  go_enter Try.func73, Try.ntmps73
  have F := Lib.hid (arr_two w zero16 zero16)
  go_wp2_with (refine wpList_store_row rfl 65 (.tmp 1) (.tmp 3) rfl (w.heap.size + 1) (arr one16) rfl rfl 65 (arr zero16) F.out.2.1 info_arr rfl (arr_cells _) ?_)
  have e1 : (cl 16 ex).take (0 + 1) ++ one16.drop (0 + 1) = one16 := by decide +kernel
  have F2 := Lib.hid (F.out.2.1.put one16)
  rw [← e1] at F2
  have F1 := Lib.hid (F.out.1.putOther (g' := w.heap.size + 1) (by omega) (arr one16))
  have FB := Lib.hid (below_setRow F.out.2.2 (g := w.heap.size + 1) (by omega) (arr one16))
  clear e1 F
  go_loopw [2] (fun i wr => ∃ m : Nat, m ≤ 15 ∧ i = .int .i64 ((m : Int) + 1) ∧ ArrAt wr (w.heap.size + 1) ((cl 16 ex).take (m + 1) ++ one16.drop (m + 1)) ∧ ArrAt wr w.heap.size zero16 ∧ Below w.heap.size w wr) (fun i _ => 16 - (intOf i).toNat)
  case atStart => exact ⟨0, by omega, rfl, F2.out, F1.out, FB.out⟩
  case round =>
    obtain ⟨m, hm, rfl, H0, H2, HB⟩ := hrel
    by_cases hlt : m < 15
    · have hc := H0.cell (mix_low (us := cl 16 ex) (k := m + 1) (i := m) (by rw [cl_length]; omega) (by omega) (ex_at (show m < 16 by omega)))
      have hc2 := H0.cell (mix_at (us := cl 16 ex) (k := m + 1) (by rw [cl_length]; rfl) (one16_at hlt))
      have hf := H0.free (m + 1)
      obtain ⟨x0, x1⟩ := ex_bd m
      have HE : Hid ((cl 16 ex)[m + 1]? = some (ex m * inv ((m : Int) + 1) % 10007)) := ex_at (by omega)
      have G2 := Lib.hid H2
      have GB := Lib.hid HB
      have Gs := Lib.hid (H0.store (k := m + 1) (ex m * inv ((m : Int) + 1) % 10007))
      clear H0 H2 HB F2 F1 FB
      generalize ex m = y at *
      have m0 : (0 : Int) ≤ (m : Int) := Int.natCast_nonneg _
      have m1 : (m : Int) < 15 := by omega
      go_wp2_with (go_at_call 120; refine (over_any _ _ _ x0 x1 (by omega) (by omega)).mono ?_; rintro e w' ⟨rfl, rfl⟩)
      go_roundw
      case rel => exact ⟨m + 1, by omega, by go_num, by have := Gs.out; rw [mix_step (by simp [one16]; omega) (by rw [cl_length]; rfl) HE.out] at this; exact this, by exact G2.out.other (by omega) _, by exact below_set GB.out (by omega) _⟩
      case measure => simp [intOf]; omega
    · obtain rfl : m = 15 := by omega
      have e2 : (cl 16 ex).take (15 + 1) ++ one16.drop (15 + 1) = cl 16 ex := mix_end (n := 16) (cl_length _ _) rfl
      rw [e2] at H0
      have G := Lib.hid H0
      have G2 := Lib.hid H2
      have GB := Lib.hid HB
      clear H0 H2 HB F2 F1 FB e2
      go_wp2_with (first
        | (refine wpList_load_row rfl 65 (.tmp 1) rfl (w.heap.size + 1) rfl 65 (arr (cl 16 ex)) (0, 0) _ G.out Try.underlying65 rfl (by rw [arr_size (cl_length _ _)]; exact info_arr) ?_)
        | (refine wpList_store_row rfl 65 (.tmp 0) (.tmp 16) rfl w.heap.size (arr (cl 16 ex)) rfl rfl 65 (arr zero16) G2.out (by rw [arr_size (cl_length _ _)]; exact info_arr) (by rw [arr_size (cl_length _ _)]; rfl) (arr_cells _) ?_))
      refine bodyPost_ret (v := .agg (arr (cl 16 ex))) ?_ rfl ⟨rfl, below_setRow GB.out (Nat.le_refl _) _⟩
      exact results_cell_row rfl _ _ w.heap.size 65 _ (0, 0) _ rfl (setRow_heap _ _ _ _ _ _ G2.out) Try.underlying65 rfl (by rw [arr_size (cl_length _ _)]; exact info_arr)
/-- a quotient, as far as n coefficients -/
def QuoTo (n : Nat) (L ys xs : List Int) : Prop := L.length = 16 ∧ allNum L = true ∧ (∀ i, n ≤ i → co L i = 0) ∧ Cg n (cv (co L) (co ys)) (co xs)
theorem QuoTo.zero (ys xs : List Int) : QuoTo 0 zero16 ys xs :=
  ⟨rfl, by decide, fun i _ => by
    rcases Nat.lt_or_ge i 16 with g | g
    · exact co_at (zero_at g)
    · exact co_out (by simp [zero16]; omega), fun k hk => by omega⟩
def ovT (L ys : List Int) (x : Int) (n k : Nat) : Int := (x - sm k (fun i => co L i * co ys (n - i))) % 10007
theorem ovT_bd (L ys : List Int) (x : Int) (n k : Nat) : 0 ≤ ovT L ys x n k ∧ ovT L ys x n k < 10007 := by unfold ovT; omega
theorem ovT_step {L ys : List Int} {c : Int} {n k : Nat} {x y : Int} (hx : L[k]? = some x) (hy : ys[n - k]? = some y) : ovT L ys c n (k + 1) = (ovT L ys c n k - x * y) % 10007 := by
  unfold ovT
  show (c - (sm k _ + co L k * co ys (n - k))) % 10007 = _
  rw [co_at hx, co_at hy]
  omega
theorem co_set {L : List Int} {k : Nat} (v : Int) (h : k < L.length) (i : Nat) : co (L.set k v) i = if i = k then v else co L i := by
  unfold co
  rw [List.getD_eq_getElem?_getD, List.getD_eq_getElem?_getD, List.getElem?_set]
  by_cases e : k = i
  · subst e; rw [if_pos rfl, if_pos h, if_pos rfl]; rfl
  · rw [if_neg e, if_neg (fun h => e h.symm)]
theorem allNum_set {L : List Int} {k : Nat} {v : Int} (h : allNum L = true) (h0 : 0 ≤ v) (h1 : v < 10007) : allNum (L.set k v) = true := by
  rw [allNum_iff] at *
  intro x hx
  rcases List.mem_or_eq_of_mem_set hx with h2 | rfl
  · exact h x h2
  · exact ⟨h0, h1⟩
theorem QuoTo.step {n : Nat} {L ys xs : List Int} {u x : Int} (h : QuoTo n L ys xs) (hn : n < 16) (hu : Eqm (u * co ys 0) 1) (hx : xs[n]? = some x) : QuoTo (n + 1) (L.set n (ovT L ys x n n * u % 10007)) ys xs := by
  obtain ⟨h1, h2, h3, h4⟩ := h
  have hs : ∀ i, co (L.set n (ovT L ys x n n * u % 10007)) i = if i = n then ovT L ys x n n * u % 10007 else co L i := co_set _ (by omega)
  refine ⟨by rw [List.length_set, h1], allNum_set h2 (by omega) (by omega), fun i hi => by rw [hs, if_neg (by omega)]; exact h3 i (by omega), fun k hk => ?_⟩
  by_cases e : k = n
  · subst e
    have e1 : cv (co (L.set k (ovT L ys x k k * u % 10007))) (co ys) k = sm k (fun i => co L i * co ys (k - i)) + (ovT L ys x k k * u % 10007) * co ys 0 := by
      show sm k _ + co (L.set k _) k * co ys (k - k) = _
      rw [hs k, if_pos rfl, Nat.sub_self]
      congr 1
      exact sm_congr (fun i hi => by rw [hs i, if_neg (by omega)])
    rw [e1, co_at hx]
    have e2 : Eqm ((ovT L ys x k k * u % 10007) * co ys 0) (x - sm k (fun i => co L i * co ys (k - i))) := by
      refine ((Eqm.mod _).mul (Eqm.refl _)).trans ?_
      rw [Int.mul_assoc]
      refine ((Eqm.refl _).mul hu).trans ?_
      rw [Int.mul_one]
      exact Eqm.mod _
    refine ((Eqm.refl _).add e2).trans (Eqm.of_eq (by omega))
  · have e1 : cv (co (L.set n (ovT L ys x n n * u % 10007))) (co ys) k = cv (co L) (co ys) k := sm_congr (fun i hi => by rw [hs i, if_neg (by omega)])
    rw [e1]
    exact h4 k (by omega)
def OverEnd (xs ys : List Int) (w : World) (e : Ending) (w' : World) : Prop :=
  ∃ L, QuoTo 16 L ys xs ∧ e = .returned (.agg (arr L)) ∧ Below w.heap.size w w'
set_option maxHeartbeats 2000000 in
theorem overS_any (xs ys : List Int) (w : World) (hl : xs.length = 16) (hl' : ys.length = 16) (ha : allNum xs = true) (ha' : allNum ys = true) (h0 : co ys 0 ≠ 0) :
    Calls Try.prog 63 #[.agg (arr xs), .agg (arr ys)] w (OverEnd xs ys w) := by
  have hd := co_num ha' 0
  obtain ⟨z, hz⟩ := at_lt (show 0 < ys.length by omega)
  have ez := co_at hz
  rw [ez] at hd h0
  have HU : Hid (Eqm (inv z * co ys 0) 1) := by unfold Hid; rw [ez]; exact inv_mul z (by omega) hd.2
  obtain ⟨z0, z1⟩ := hd
  have u0 := inv_lo z
  have u1 := inv_hi z
  have HL := Lib.hid hl
  have HL' := Lib.hid hl'
  have HA := Lib.hid ha
  have HA' := Lib.hid ha'
  have HZ := Lib.hid hz
  clear hl hl' ha ha' h0 ez hz
  have F := Lib.hid (arr_four w xs ys zero16 zero16)
  have hc0 : (arr ys)[0]? = some (.int .i64 z) := by simp [arr, ints_at HZ.out]
  go_enter Try.func63, Try.ntmps63
  go_wp2_with (go_at_call 113; refine (inverse_any _ _ z0 z1).mono ?_; rintro e w' ⟨rfl, rfl⟩)
  clear hc0
  generalize inv z = u at *
  go_loopw [13] (fun i wr => ∃ j : Nat, ∃ L : List Int, j ≤ 16 ∧ i = .int .i64 j ∧ QuoTo j L ys xs ∧ ArrAt wr w.heap.size xs ∧ ArrAt wr (w.heap.size + 1) ys ∧ ArrAt wr (w.heap.size + 1 + 1) zero16 ∧ ArrAt wr (w.heap.size + 1 + 1 + 1) L ∧ Below w.heap.size w wr) (fun i _ => 16 - (intOf i).toNat)
  case atStart => exact ⟨0, zero16, by omega, rfl, QuoTo.zero ys xs, F.out⟩
  case round =>
    obtain ⟨j, L, hj, rfl, HQ, H0, H1, H2, H3, HB⟩ := hrel
    by_cases hlt : j < 16
    · obtain ⟨x, hx⟩ := at_lt (show j < xs.length by rw [HL.out]; exact hlt)
      have hcx := H0.cell hx
      have e0 : ovT L ys x j 0 = x := by
        have := num_at HA.out hx
        unfold ovT sm; omega
      have HE0 := Lib.hid e0
      have HX := Lib.hid hx
      have HQ' := Lib.hid HQ
      have G0 := Lib.hid (show ArrAt wr w.heap.size xs ∧ ArrAt wr (w.heap.size + 1) ys ∧ ArrAt wr (w.heap.size + 1 + 1) zero16 ∧ ArrAt wr (w.heap.size + 1 + 1 + 1) L ∧ Below w.heap.size w wr from ⟨H0, H1, H2, H3, HB⟩)
      clear H0 H1 H2 H3 HB F HQ e0 hx
      obtain ⟨wo, hwo⟩ : ∃ wo : World, wo = wr := ⟨_, rfl⟩
      subst hwo
      have j0 : (0 : Int) ≤ (j : Int) := Int.natCast_nonneg _
      have j1 : (j : Int) < 16 := by omega
      go_wp2_with fail
      go_loopw [8, 20] (fun s i2 wr => ∃ k m : Nat, k ≤ j ∧ s = .int .i64 (ovT L ys x j k) ∧ i2 = .int .i64 k ∧ wr = wo.drewN m) (fun _ i2 _ => j - (intOf i2).toNat)
      case atStart => exact ⟨0, 0, by omega, by rw [HE0.out], rfl, rfl⟩
      case round =>
        obtain ⟨k, m, hk, rfl, rfl, rfl⟩ := hrel
        obtain ⟨s0, s1⟩ := ovT_bd L ys x j k
        by_cases hkl : k < j
        · obtain ⟨l, hlk⟩ := at_lt (show k < L.length by rw [HQ'.out.1]; omega)
          obtain ⟨y, hy⟩ := at_lt (show j - k < ys.length by rw [HL'.out]; omega)
          obtain ⟨x0, x1⟩ := num_at HQ'.out.2.1 hlk
          obtain ⟨y0, y1⟩ := num_at HA'.out hy
          have hc := G0.out.2.2.2.1.cell hlk
          have hc' := G0.out.2.1.cell hy
          have p0 : 0 ≤ l * y % 10007 := by omega
          have p1 : l * y % 10007 < 10007 := by omega
          have G : Hid (ovT L ys x j (k + 1) = (ovT L ys x j k - l * y % 10007) % 10007) := by have := ovT_step (c := x) hlk hy; unfold Hid; rw [this]; omega
          have hkj : k ≤ j := by omega
          have d0 : (0 : Int) ≤ (j : Int) - k := by omega
          have d1 : (j : Int) - k < 16 := by omega
          have ek2 : ((j : Int) - k).toNat = j - k := by omega
          have k0 : (0 : Int) ≤ (k : Int) := Int.natCast_nonneg _
          have k1 : (k : Int) < 16 := by omega
          have hlk2 : (k : Int) < (j : Int) := by omega
          have ew : IntKind.i64.wrap ((j : Int) - k) = (j : Int) - k := IntWalk.i64_in _ (by omega)
          clear hlk hy hcx
          go_wp2_with fail
          go_quiet ((first | (go_at_call 87; first | exact quietL (times_any _ _ _ x0 x1 y0 y1) | exact quietL2 (times_any _ _ _ x0 x1 y0 y1)) | (go_at_call 114; first | exact quietL (minus_any _ _ _ s0 s1 p0 p1) | exact quietL2 (minus_any _ _ _ s0 s1 p0 p1))))
          clear ek2 ew
          go_wp2
          go_roundw
          case rel => exact ⟨k + 1, _, by omega, by rw [G.out], by go_num, rfl⟩
          case measure => simp [intOf]; omega
        · obtain rfl : k = j := by omega
          have hf := G0.out.2.2.2.1.free k
          obtain ⟨l, hlk⟩ := at_lt (show k < L.length by rw [HQ'.out.1]; omega)
          have hc := G0.out.2.2.2.1.cell hlk
          have HN := Lib.hid (HQ'.out.step hlt HU.out HX.out)
          have Gs := Lib.hid (G0.out.2.2.2.1.store (k := k) (ovT L ys x k k * u % 10007))
          clear hlk hcx
          generalize ovT L ys x k k = s at *
          have hkk : ¬ ((k : Int) < (k : Int)) := by omega
          have k0 : (0 : Int) ≤ (k : Int) := Int.natCast_nonneg _
          have k1 : (k : Int) < 16 := by omega
          go_wp2_with (go_at_call 87; refine (times_any _ _ _ s0 s1 u0 u1).mono ?_; rintro e w' ⟨rfl, rfl⟩)
          go_roundw
          case rel => exact ⟨k + 1, _, by omega, by go_num, HN.out, by exact (G0.out.1.other (by omega) _).drewN m, by exact (G0.out.2.1.other (by omega) _).drewN m, by exact (G0.out.2.2.1.other (by omega) _).drewN m, by exact Gs.out.drewN m, by exact below_drewN (below_set G0.out.2.2.2.2 (by omega) _) m⟩
          case measure => simp [intOf]; omega
    · obtain rfl : j = 16 := by omega
      have G := Lib.hid H3
      have G2 := Lib.hid H2
      have GB := Lib.hid HB
      have HQ' := Lib.hid HQ
      have HS := Lib.hid (arr_size HQ.1)
      clear H0 H1 H2 H3 HB F HQ
      go_wp2_with (first
        | (refine wpList_load_row rfl 65 (.tmp 5) rfl (w.heap.size + 1 + 1 + 1) rfl 65 (arr L) (0, 0) _ G.out Try.underlying65 rfl (by rw [HS.out]; exact info_arr) ?_)
        | (refine wpList_store_row rfl 65 (.tmp 4) (.tmp 41) rfl (w.heap.size + 1 + 1) (arr L) rfl rfl 65 (arr zero16) G2.out (by rw [HS.out]; exact info_arr) (by rw [HS.out]; rfl) (arr_cells _) ?_))
      refine bodyPost_ret (v := .agg (arr L)) ?_ rfl ⟨L, HQ'.out, rfl, below_setRow GB.out (by omega) _⟩
      exact results_cell_row rfl _ _ (w.heap.size + 1 + 1) 65 _ (0, 0) _ rfl (setRow_heap _ _ _ _ _ _ G2.out) Try.underlying65 rfl (by rw [HS.out]; exact info_arr)
end Go.Proofs.Ytjdanhjonjmccab
