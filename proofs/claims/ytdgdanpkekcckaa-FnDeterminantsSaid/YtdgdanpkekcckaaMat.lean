/-
  Matrices: what is one, columns, products, the program's and the model's alike.
-/
import Derived.Test.YtdgdanpkekcckaaNestc
import Derived.Test.YtdgdanpkekcckaaGrow
import Derived.Deep.AppendLies
import Derived.Deep.RegionHeld3
import Derived.Outline
namespace Go.Proofs.Ytdgdanpkekcckaa
open Go.RowKit Fld
set_option linter.unusedVariables false
set_option linter.unusedSimpArgs false
set_option maxRecDepth 100000

def colAt (m : List (List Int)) (k : Nat) : List Int := m.map fun r => r.getD k 0
theorem colAt_at {m : List (List Int)} {k j : Nat} {r : List Int} {x : Int} (h : m[j]? = some r) (hx : r[k]? = some x) : (colAt m k)[j]? = some x := by
  unfold colAt; rw [List.getElem?_map, h]; simp [hx]
theorem colAt_length (m : List (List Int)) (k : Nat) : (colAt m k).length = m.length := by simp [colAt]
/-- all rows have q numbers -/
def Wide (m : List (List Int)) (q : Nat) : Prop := ∀ r ∈ m, r.length = q
theorem Wide.at_ {m : List (List Int)} {q j : Nat} {r : List Int} (h : Wide m q) (hr : m[j]? = some r) : r.length = q := h r (List.mem_of_getElem? hr)
theorem columnOf_any_info : (Try.prog.info? 42).map (fun i => (i.zero, i.size, i.bytes)) = some (some (.int .i64 0), 1, 8) := by kernel_rfl
set_option maxHeartbeats 400000 in
theorem columnOf_any (A : Option Addr) (n c B q k : Nat) (m : List (List Int)) (w : World) (hl : m.length = n) (hn : n ≤ 1048576) (hq : Wide m q) (hk : k < q) (hq1 : q ≤ 1048576) (hB : B ≤ w.heap.size) (h : Mat w B A m) :
    Calls Try.prog 24 #[.slice A n c, .int .i64 k] w (NewRow 42 n (ints (colAt m k)) w) := by
  obtain ⟨i0, hi, hz0, hz1, hz2⟩ := info_parts columnOf_any_info
  have HL := Lib.hid hl
  have HQ := Lib.hid hq
  have HCL : Hid ((colAt m k).length = n) := (colAt_length m k).trans hl
  clear hl hq
  go_enter Try.func24, Try.ntmps24
  go_wp2_with (at_make; refine wpList_make_full _ rfl (.tmp 9) (.tmp 9) 51 rfl w.heap.size 42 i0 _ 1 Try.underlying51 hi hz0 hz1 .i64 .i64 _ _ n rfl rfl rfl rfl (by rw [hz2]; omega) (by simp only [maxLen]; omega) (Nat.le_refl _) ?_; intro w1 hown hg)
  have F0 := Filling.start (xs := colAt m k) hown hg
  clear hown hg hz0 hz1 hz2 hi
  go_loopw [13] (fun i wr => ∃ j : Nat, j ≤ n ∧ i = .int .i64 j ∧ Filling w 42 n (colAt m k) j wr) (fun i _ => n - (intOf i).toNat)
  case atStart => exact ⟨0, Nat.zero_le _, rfl, F0⟩
  case round =>
    obtain ⟨j, hj, rfl, HF⟩ := hrel
    by_cases hlt : j < n
    · obtain ⟨r, hr⟩ := at_lt (show j < m.length by rw [HL.out]; exact hlt)
      have hrq := HQ.out.at_ hr
      obtain ⟨x, hx⟩ := at_lt (show k < r.length by omega)
      obtain ⟨b, o, Ak, ck, rfl, _, hc, _, _, hrow⟩ := h.below HF.2 hB j r hr
      obtain ⟨b', o', rfl, _, hc'⟩ := hrow k _ (ints_at hx)
      have hkl : (k : Int) < r.length := by omega
      have hf := HF.1.frozenAt j
      have ho := fill_at' HF HCL.out hlt
      have G := Lib.hid (HF.step HCL.out (colAt_at hr hx))
      clear hr hx hrq F0 HF hrow
      go_wp2
      go_roundw
      case rel => exact ⟨j + 1, by omega, by go_num, G.out⟩
      case measure => simp [intOf]; omega
    · obtain rfl : j = n := by omega
      have G := Lib.hid (HF.done HCL.out)
      clear HF F0
      go_wp2
      go_ret
      exact G.out

/-! what is a matrix -/
def okRows (q : Nat) (m : List (List Int)) : Bool := m.all fun r => decide (r.length = q) && allNum r
def isMatB (m : List (List Int)) : Bool := decide (1 ≤ m.length ∧ m.length ≤ 8 ∧ 1 ≤ (m.getD 0 []).length ∧ (m.getD 0 []).length ≤ 8) && okRows (m.getD 0 []).length m
def matCode (m : List (List Int)) : Int := if isMatB m = true then 0 else 1
theorem matCode_yes {m : List (List Int)} (h : isMatB m = true) : matCode m = 0 := if_pos h
theorem matCode_no {m : List (List Int)} (h : isMatB m = false) : matCode m = 1 := if_neg (by rw [h]; simp)
theorem isMatB_len {m : List (List Int)} (h : m.length = 0 ∨ 8 < m.length) : isMatB m = false := by
  unfold isMatB; rw [decide_eq_false (by omega)]; rfl
theorem getD_of {m : List (List Int)} {k : Nat} {r : List Int} (h : m[k]? = some r) : m.getD k [] = r := by rw [List.getD_eq_getElem?_getD, h]; rfl
theorem isMatB_row {m : List (List Int)} {r : List Int} (hr : m[0]? = some r) (h : r.length = 0 ∨ 8 < r.length) : isMatB m = false := by
  unfold isMatB; rw [getD_of hr, decide_eq_false (by omega)]; rfl
theorem isMatB_bad {m : List (List Int)} {r0 r : List Int} {k : Nat} (h0 : m[0]? = some r0) (hr : m[k]? = some r) (h : r.length ≠ r0.length ∨ allNum r = false) : isMatB m = false := by
  unfold isMatB
  rw [getD_of h0]
  have : okRows r0.length m = false := by
    unfold okRows
    rw [List.all_eq_false]
    refine ⟨r, List.mem_of_getElem? hr, ?_⟩
    rcases h with h | h
    · simp [h]
    · simp [h]
  rw [this, Bool.and_false]
theorem okRows_step {m : List (List Int)} {q k : Nat} {r : List Int} (hr : m[k]? = some r) (hq : r.length = q) (hn : allNum r = true) (h : okRows q (m.take k) = true) : okRows q (m.take (k + 1)) = true := by
  rw [List.take_add_one, hr]
  unfold okRows at *
  simp [h, hq, hn]
theorem isMatB_yes {m : List (List Int)} {r0 : List Int} {n : Nat} (h0 : m[0]? = some r0) (hl : m.length = n) (h1 : 1 ≤ n) (h8 : n ≤ 8) (hq1 : 1 ≤ r0.length) (hq8 : r0.length ≤ 8) (h : okRows r0.length (m.take n) = true) : isMatB m = true := by
  unfold isMatB
  rw [getD_of h0, decide_eq_true (by omega)]
  rw [List.take_of_length_le (by omega)] at h
  rw [h]; rfl
theorem isMatB_parts {m : List (List Int)} (h : isMatB m = true) : 1 ≤ m.length ∧ m.length ≤ 8 ∧ 1 ≤ (m.getD 0 []).length ∧ (m.getD 0 []).length ≤ 8 ∧ Wide m (m.getD 0 []).length ∧ ∀ r ∈ m, allNum r = true := by
  unfold isMatB at h
  rw [Bool.and_eq_true] at h
  obtain ⟨h1, h2⟩ := h
  have h3 := of_decide_eq_true h1
  unfold okRows at h2
  rw [List.all_eq_true] at h2
  refine ⟨h3.1, h3.2.1, h3.2.2.1, h3.2.2.2, fun r hr => ?_, fun r hr => ?_⟩
  · have := h2 r hr; simp at this; exact this.1
  · have := h2 r hr; simp at this; exact this.2

set_option maxHeartbeats 800000 in
theorem isMatrix_any (A : Option Addr) (n c B : Nat) (m : List (List Int)) (w : World) (hl : m.length = n) (hn : n ≤ 9223372036854775807) (h : Mat w B A m) :
    Calls Try.prog 16 #[.slice A n c] w fun e w' => e = .returned (.bool (isMatB m)) ∧ w = w' := by
  have HL := Lib.hid hl
  clear hl
  by_cases h0 : n = 0
  · have H := Lib.hid (isMatB_len (m := m) (.inl (by rw [HL.out]; exact h0)))
    subst h0
    go_enter Try.func16, Try.ntmps16
    go_wp2
    go_ret
    exact ⟨ret_bool H.out.symm, rfl⟩
  · by_cases h8 : 8 < n
    · have H := Lib.hid (isMatB_len (m := m) (.inr (by rw [HL.out]; exact h8)))
      have t0 : ((n : Int) == 0) = false := beq_f (by omega)
      clear h0
      go_enter Try.func16, Try.ntmps16
      go_wp2
      go_ret
      exact ⟨ret_bool H.out.symm, rfl⟩
    · obtain ⟨r0, hr0⟩ := at_lt (show 0 < m.length by rw [HL.out]; omega)
      obtain ⟨b0, o0, A0, c0, rfl, _, hc0, hlc0, hcm0, hrow0⟩ := h 0 r0 hr0
      rw [Nat.add_zero] at hc0
      unfold maxLen at hcm0
      have t0 : ((n : Int) == 0) = false := beq_f (by omega)
      have hn1 : 1 ≤ n := by omega
      clear h0
      by_cases hq0 : r0.length = 0
      · have H := Lib.hid (isMatB_row hr0 (.inl hq0))
        have tq : ((r0.length : Int) == 0) = true := beq_t (by omega)
        have tq2 : (r0.length : Int) < 1 := by omega
        clear hr0 hq0
        go_enter Try.func16, Try.ntmps16
        go_wp2
        go_ret
        exact ⟨ret_bool H.out.symm, rfl⟩
      · have tq : ((r0.length : Int) == 0) = false := beq_f (by omega)
        have tq2 : 1 ≤ (r0.length : Int) := by omega
        by_cases hq8 : 8 < r0.length
        · have H := Lib.hid (isMatB_row hr0 (.inr hq8))
          clear hr0 hq0
          go_enter Try.func16, Try.ntmps16
          go_wp2
          go_ret
          exact ⟨ret_bool H.out.symm, rfl⟩
        · have HR0 := Lib.hid hr0
          have HQ0 := Lib.hid hq0
          clear hr0 hq0
          go_enter Try.func16, Try.ntmps16
          go_wp2_with fail
          go_loop [29] (fun i => ∃ k : Nat, k ≤ n ∧ i = .int .i64 k ∧ Hid (okRows r0.length (m.take k) = true)) (fun i => n - (intOf i).toNat)
          case atStart => exact ⟨0, Nat.zero_le _, rfl, rfl⟩
          case round =>
            obtain ⟨k, hk, rfl, HT⟩ := hrel
            by_cases hlt : k < n
            · obtain ⟨r, hr⟩ := at_lt (show k < m.length by rw [HL.out]; exact hlt)
              obtain ⟨b, o, Ak, ck, e1, _, hc, hlc, hcm, hrow⟩ := h k r hr
              injection e1 with e1
              injection e1 with eb eo
              subst eb eo
              unfold maxLen at hcm
              by_cases hrq : r.length = r0.length
              · have tr : ((r.length : Int) != r0.length) = false := bne_f (by omega)
                cases hnum : allNum r
                · have H := Lib.hid (isMatB_bad HR0.out hr (.inr hnum))
                  clear hr hrq HT
                  go_wp2_with (go_at_call 31; refine (areNumbers_any _ _ _ B r _ rfl (by omega) hrow).mono ?_; rintro e w' ⟨rfl, rfl⟩)
                  go_ret
                  exact ⟨ret_bool H.out.symm, rfl⟩
                · have G := Lib.hid (okRows_step hr hrq hnum HT.out)
                  clear hr hrq HT
                  go_wp2_with (go_at_call 31; refine (areNumbers_any _ _ _ B r _ rfl (by omega) hrow).mono ?_; rintro e w' ⟨rfl, rfl⟩)
                  go_round
                  case rel => exact ⟨k + 1, by omega, by go_num, G⟩
                  case measure => simp [intOf]; omega
              · have tr : ((r.length : Int) != r0.length) = true := bne_t (by omega)
                have H := Lib.hid (isMatB_bad HR0.out hr (.inl hrq))
                clear hr hrq HT
                go_wp2
                go_ret
                exact ⟨ret_bool H.out.symm, rfl⟩
            · obtain rfl : k = n := by omega
              have H := Lib.hid (isMatB_yes HR0.out HL.out (by omega) (by omega) (by have := HQ0.out; omega) (by omega) HT.out)
              clear HT
              go_wp2
              go_ret
              exact ⟨ret_bool H.out.symm, rfl⟩
set_option maxHeartbeats 800000 in
theorem l01Matrix_any (A : Option Addr) (n c B : Nat) (m : List (List Int)) (w : World) (hl : m.length = n) (hn : n ≤ 9223372036854775807) (h : Mat w B A m) :
    Calls Try.prog 19 #[.slice A n c] w fun e w' => e = .returned (.int .i64 (matCode m)) ∧ ∃ j, w' = w.drewN j := by
  have HL := Lib.hid hl
  clear hl
  by_cases h0 : n = 0
  · have H := Lib.hid (isMatB_len (m := m) (.inl (by rw [HL.out]; exact h0)))
    subst h0
    go_enter Try.func19, Try.ntmps19
    go_wp2
    go_ret
    exact ⟨ret_i64 (matCode_no H.out).symm, 0, rfl⟩
  · by_cases h8 : 8 < n
    · have H := Lib.hid (isMatB_len (m := m) (.inr (by rw [HL.out]; exact h8)))
      have t0 : ((n : Int) == 0) = false := beq_f (by omega)
      clear h0
      go_enter Try.func19, Try.ntmps19
      go_wp2
      go_ret
      exact ⟨ret_i64 (matCode_no H.out).symm, 0, rfl⟩
    · obtain ⟨r0, hr0⟩ := at_lt (show 0 < m.length by rw [HL.out]; omega)
      obtain ⟨b0, o0, A0, c0, rfl, _, hc0, hlc0, hcm0, hrow0⟩ := h 0 r0 hr0
      rw [Nat.add_zero] at hc0
      unfold maxLen at hcm0
      have t0 : ((n : Int) == 0) = false := beq_f (by omega)
      have hn1 : 1 ≤ n := by omega
      clear h0
      by_cases hq0 : r0.length = 0
      · have H := Lib.hid (isMatB_row hr0 (.inl hq0))
        have tq : ((r0.length : Int) == 0) = true := beq_t (by omega)
        have tq2 : (r0.length : Int) < 1 := by omega
        clear hr0 hq0
        go_enter Try.func19, Try.ntmps19
        go_wp2
        go_ret
        exact ⟨ret_i64 (matCode_no H.out).symm, 0, rfl⟩
      · have tq : ((r0.length : Int) == 0) = false := beq_f (by omega)
        have tq2 : 1 ≤ (r0.length : Int) := by omega
        by_cases hq8 : 8 < r0.length
        · have H := Lib.hid (isMatB_row hr0 (.inr hq8))
          clear hr0 hq0
          go_enter Try.func19, Try.ntmps19
          go_wp2
          go_ret
          exact ⟨ret_i64 (matCode_no H.out).symm, 0, rfl⟩
        · have HR0 := Lib.hid hr0
          have HQ0 := Lib.hid hq0
          clear hr0 hq0
          go_enter Try.func19, Try.ntmps19
          go_wp2_with fail
          go_loopw [3] (fun i wr => ∃ k j : Nat, k ≤ n ∧ i = .int .i64 k ∧ wr = w.drewN j ∧ Hid (okRows r0.length (m.take k) = true)) (fun i _ => n - (intOf i).toNat)
          case atStart => exact ⟨0, 0, Nat.zero_le _, rfl, rfl, rfl⟩
          case round =>
            obtain ⟨k, j, hk, rfl, rfl, HT⟩ := hrel
            by_cases hlt : k < n
            · obtain ⟨r, hr⟩ := at_lt (show k < m.length by rw [HL.out]; exact hlt)
              obtain ⟨b, o, Ak, ck, e1, _, hc, hlc, hcm, hrow⟩ := h k r hr
              injection e1 with e1
              injection e1 with eb eo
              subst eb eo
              unfold maxLen at hcm
              by_cases hrq : r.length = r0.length
              · have tr : ((r.length : Int) != r0.length) = false := bne_f (by omega)
                cases hnum : allNum r
                · have H := Lib.hid (isMatB_bad HR0.out hr (.inr hnum))
                  clear hr hrq HT
                  go_wp2_with fail
                  go_quiet (((go_at_call 35; first | exact quietL (l01Numbers_any _ _ _ B r _ rfl (by omega) hrow) | exact quietL2 (l01Numbers_any _ _ _ B r _ rfl (by omega) hrow))))
                  go_wp2
                  go_ret
                  exact ⟨ret_i64 (matCode_no H.out).symm, _, World.drewN_drewN ..⟩
                · have G := Lib.hid (okRows_step hr hrq hnum HT.out)
                  clear hr hrq HT
                  go_wp2_with fail
                  go_quiet (((go_at_call 35; first | exact quietL (l01Numbers_any _ _ _ B r _ rfl (by omega) hrow) | exact quietL2 (l01Numbers_any _ _ _ B r _ rfl (by omega) hrow))))
                  go_wp2
                  go_roundw
                  case rel => exact ⟨k + 1, _, by omega, by go_num, rfl, G⟩
                  case measure => simp [intOf]; omega
              · have tr : ((r.length : Int) != r0.length) = true := bne_t (by omega)
                have H := Lib.hid (isMatB_bad HR0.out hr (.inl hrq))
                clear hr hrq HT
                go_wp2_with fail
                go_quiet (fail)
                go_wp2
                go_ret
                exact ⟨ret_i64 (matCode_no H.out).symm, _, World.drewN_drewN ..⟩
            · obtain rfl : k = n := by omega
              have H := Lib.hid (isMatB_yes HR0.out HL.out (by omega) (by omega) (by have := HQ0.out; omega) (by omega) HT.out)
              clear HT
              go_wp2
              go_ret
              exact ⟨ret_i64 (matCode_yes H.out).symm, _, rfl⟩
end Go.Proofs.Ytdgdanpkekcckaa
