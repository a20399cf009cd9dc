/-
  What is a tableau: the plain test, the program's and the model's.
-/
import Derived.Test.YtnnihdkhblbdgaaTab
import Derived.Test.YtnnihdkhblbdgaaMat
namespace Go.Proofs.Ytnnihdkhblbdgaa
open Go.RowKit Fld
set_option linter.unusedVariables false
set_option linter.unusedSimpArgs false
set_option maxRecDepth 100000

def isTabB (m : List (List Int)) (b : List Int) : Bool := decide (1 ≤ b.length ∧ b.length ≤ 8 ∧ m.length = b.length) && (allNum b && okRows b.length m)
theorem isTabB_len {m : List (List Int)} {b : List Int} (h : b.length = 0 ∨ 8 < b.length ∨ m.length ≠ b.length) : isTabB m b = false := by
  unfold isTabB; rw [decide_eq_false (by omega)]; rfl
theorem isTabB_num {m : List (List Int)} {b : List Int} (h : allNum b = false) : isTabB m b = false := by
  unfold isTabB; rw [h]; simp
theorem isTabB_bad {m : List (List Int)} {b r : List Int} {k : Nat} (hr : m[k]? = some r) (h : r.length ≠ b.length ∨ allNum r = false) : isTabB m b = false := by
  unfold isTabB
  have : okRows b.length m = false := by
    unfold okRows
    rw [List.all_eq_false]
    refine ⟨r, List.mem_of_getElem? hr, ?_⟩
    rcases h with h | h
    · simp [h]
    · simp [h]
  rw [this, Bool.and_false, Bool.and_false]
theorem isTabB_yes {m : List (List Int)} {b : List Int} {n : Nat} (hl : m.length = n) (hb : b.length = n) (h1 : 1 ≤ n) (h8 : n ≤ 8) (hn : allNum b = true) (h : okRows n (m.take n) = true) : isTabB m b = true := by
  unfold isTabB
  rw [List.take_of_length_le (by omega)] at h
  rw [decide_eq_true (by omega), hn, hb, h]; rfl
theorem isTabB_parts {m : List (List Int)} {b : List Int} (h : isTabB m b = true) : 1 ≤ b.length ∧ b.length ≤ 8 ∧ m.length = b.length ∧ allNum b = true ∧ Wide m b.length ∧ ∀ r ∈ m, allNum r = true := by
  unfold isTabB at h
  rw [Bool.and_eq_true, Bool.and_eq_true] at h
  obtain ⟨h1, h2, h3⟩ := h
  have h4 := of_decide_eq_true h1
  unfold okRows at h3
  rw [List.all_eq_true] at h3
  refine ⟨h4.1, h4.2.1, h4.2.2, h2, fun r hr => ?_, fun r hr => ?_⟩
  · have := h3 r hr; simp at this; exact this.1
  · have := h3 r hr; simp at this; exact this.2

set_option maxHeartbeats 1600000 in
theorem isTableau_any (A D : Option Addr) (n c n' d B B' : Nat) (m : List (List Int)) (b : List Int) (w : World) (hl : m.length = n) (hl' : b.length = n') (hn : n ≤ 9223372036854775807) (hn' : n' ≤ 9223372036854775807) (hB : B ≤ w.heap.size) (hB' : B' ≤ w.heap.size) (h : Mat w B A m) (r : Row w B' D (ints b)) :
    Calls Try.prog 40 #[.agg #[.slice A n c, .slice D n' d]] w fun e w' => e = .returned (.bool (isTabB m b)) ∧ Below w.heap.size w w' := by
  have HL := Lib.hid hl
  have HL' := Lib.hid hl'
  clear hl hl'
  obtain ⟨W0, hW0⟩ : ∃ W0, W0 = w.alloc (.cells #[.slice A n c, .slice D n' d] 29) := ⟨_, rfl⟩
  have HB : Hid (Below w.heap.size w W0) := by rw [hW0]; exact (Below.refl _ _).alloc (Nat.le_refl _) _
  have HM : Hid (Mat W0 B A m) := h.below HB.out hB
  have HR : Hid (Row W0 B' D (ints b)) := r.below HB.out hB'
  have hx := heap_alloc_new w (.cells #[.slice A n c, .slice D n' d] 29)
  have hx0 : W0.cell? ⟨w.heap.size, 0, none⟩ = some (.slice A n c) := by rw [hW0, cell_of_row _ _ 0 _ _ _ hx]; rfl
  have hx1 : W0.cell? ⟨w.heap.size, 1, none⟩ = some (.slice D n' d) := by rw [hW0, cell_of_row _ _ 1 _ _ _ hx]; rfl
  clear h r hx hB hB'
  by_cases h0 : n = 0
  · have H : Hid (isTabB m b = false) := isTabB_len (by rw [HL'.out]; have := HL.out; omega)
    subst h0
    clear hx0 hx1
    go_enter Try.func40, Try.ntmps40
    go_wp2
    go_ret
    exact ⟨ret_bool H.out.symm, by rw [← hW0]; exact HB.out⟩
  · by_cases h8 : 8 < n
    · have H : Hid (isTabB m b = false) := isTabB_len (by rw [HL'.out]; have := HL.out; omega)
      have t0 : ¬ ((n : Int) < 1) := by omega
      clear h0 hx0 hx1
      go_enter Try.func40, Try.ntmps40
      go_wp2
      go_ret
      exact ⟨ret_bool H.out.symm, by rw [← hW0]; exact HB.out⟩
    · by_cases hq : n' = n
      · subst hq
        have hn1 : 1 ≤ n' := by omega
        have t0 : ¬ ((n' : Int) < 1) := by omega
        clear h0
        cases hnb : allNum b
        · have H : Hid (isTabB m b = false) := isTabB_num hnb
          go_enter Try.func40, Try.ntmps40
          go_wp2_with fail
          rw [← hW0]
          refine (areNumbers_any _ _ _ B' b _ HL'.out (by omega) HR.out).mono ?_
          rintro e w' ⟨rfl, rfl⟩
          rw [hnb]
          clear hW0 hx0 hx1
          go_wp2
          go_ret
          exact ⟨ret_bool H.out.symm, HB.out⟩
        · go_enter Try.func40, Try.ntmps40
          go_wp2_with fail
          rw [← hW0]
          refine (areNumbers_any _ _ _ B' b _ HL'.out (by omega) HR.out).mono ?_
          rintro e w' ⟨rfl, rfl⟩
          rw [hnb]
          have HNB := Lib.hid hnb
          clear hW0 hnb
          go_wp2_with fail
          go_loop [31] (fun i => ∃ k : Nat, k ≤ n' ∧ i = .int .i64 k ∧ Hid (okRows n' (m.take k) = true)) (fun i => n' - (intOf i).toNat)
          case atStart => exact ⟨0, Nat.zero_le _, rfl, rfl⟩
          case round =>
            obtain ⟨k, hk, rfl, HT⟩ := hrel
            by_cases hlt : k < n'
            · obtain ⟨r, hr⟩ := at_lt (show k < m.length by rw [HL.out]; exact hlt)
              obtain ⟨b2, o2, Ak, ck, rfl, _, hc, hlc, hcm, hrow⟩ := HM.out k r hr
              unfold maxLen at hcm
              by_cases hrq : r.length = n'
              · have tr : ((r.length : Int) != n') = false := bne_f (by omega)
                cases hnum : allNum r
                · have H : Hid (isTabB m b = false) := isTabB_bad hr (.inr hnum)
                  clear hr hrq HT
                  go_wp2_with (go_at_call 64; refine (areNumbers_any _ _ _ B r _ rfl (by omega) hrow).mono ?_; rintro e w' ⟨rfl, rfl⟩)
                  go_ret
                  exact ⟨ret_bool H.out.symm, HB.out⟩
                · have G := Lib.hid (okRows_step hr hrq hnum HT.out)
                  clear hr hrq HT
                  go_wp2_with (go_at_call 64; refine (areNumbers_any _ _ _ B r _ rfl (by omega) hrow).mono ?_; rintro e w' ⟨rfl, rfl⟩)
                  go_round
                  case rel => exact ⟨k + 1, by omega, by go_num, G⟩
                  case measure => simp [intOf]; omega
              · have tr : ((r.length : Int) != n') = true := bne_t (by omega)
                have H : Hid (isTabB m b = false) := isTabB_bad hr (.inl (by rw [HL'.out]; exact hrq))
                clear hr hrq HT
                go_wp2
                go_ret
                exact ⟨ret_bool H.out.symm, HB.out⟩
            · obtain rfl : k = n' := by omega
              have H : Hid (isTabB m b = true) := isTabB_yes HL.out HL'.out (by omega) (by omega) HNB.out HT.out
              clear HT
              go_wp2
              go_ret
              exact ⟨ret_bool H.out.symm, HB.out⟩
      · have H : Hid (isTabB m b = false) := isTabB_len (by rw [HL'.out]; have := HL.out; omega)
        have t0 : ¬ ((n : Int) < 1) := by omega
        have t1 := bne_t (show (n' : Int) ≠ (n : Int) by omega)
        clear h0 hq hx0 hx1
        go_enter Try.func40, Try.ntmps40
        go_wp2
        go_ret
        exact ⟨ret_bool H.out.symm, by rw [← hW0]; exact HB.out⟩
set_option maxHeartbeats 1600000 in
theorem l09Is_any (A D : Option Addr) (n c n' d B B' : Nat) (m : List (List Int)) (b : List Int) (w : World) (hl : m.length = n) (hl' : b.length = n') (hn : n ≤ 9223372036854775807) (hn' : n' ≤ 9223372036854775807) (hB : B ≤ w.heap.size) (hB' : B' ≤ w.heap.size) (h : Mat w B A m) (r : Row w B' D (ints b)) :
    Calls Try.prog 37 #[.agg #[.slice A n c, .slice D n' d]] w fun e w' => e = .returned (.bool (isTabB m b)) ∧ Below w.heap.size w w' := by
  have HL := Lib.hid hl
  have HL' := Lib.hid hl'
  clear hl hl'
  obtain ⟨W0, hW0⟩ : ∃ W0, W0 = w.alloc (.cells #[.slice A n c, .slice D n' d] 29) := ⟨_, rfl⟩
  have HB : Hid (Below w.heap.size w W0) := by rw [hW0]; exact (Below.refl _ _).alloc (Nat.le_refl _) _
  have HM : Hid (Mat W0 B A m) := h.below HB.out hB
  have HR : Hid (Row W0 B' D (ints b)) := r.below HB.out hB'
  have hx := heap_alloc_new w (.cells #[.slice A n c, .slice D n' d] 29)
  have hx0 : W0.cell? ⟨w.heap.size, 0, none⟩ = some (.slice A n c) := by rw [hW0, cell_of_row _ _ 0 _ _ _ hx]; rfl
  have hx1 : W0.cell? ⟨w.heap.size, 1, none⟩ = some (.slice D n' d) := by rw [hW0, cell_of_row _ _ 1 _ _ _ hx]; rfl
  clear h r hx hB hB'
  by_cases h0 : n' = 0
  · have H : Hid (isTabB m b = false) := isTabB_len (by rw [HL'.out]; have := HL.out; omega)
    subst h0
    clear hx0 hx1
    go_enter Try.func37, Try.ntmps37
    go_wp2
    go_ret
    exact ⟨ret_bool H.out.symm, by rw [← hW0]; exact HB.out⟩
  · by_cases h8 : 8 < n'
    · have H : Hid (isTabB m b = false) := isTabB_len (by rw [HL'.out]; have := HL.out; omega)
      have t0 : ¬ ((n' : Int) < 1) := by omega
      clear h0 hx0 hx1
      go_enter Try.func37, Try.ntmps37
      go_wp2
      go_ret
      exact ⟨ret_bool H.out.symm, by rw [← hW0]; exact HB.out⟩
    · by_cases hq : n = n'
      · subst hq
        have hn1 : 1 ≤ n := by omega
        have t0 : ¬ ((n : Int) < 1) := by omega
        clear h0
        cases hnb : allNum b
        · have H : Hid (isTabB m b = false) := isTabB_num hnb
          go_enter Try.func37, Try.ntmps37
          go_wp2_with fail
          rw [← hW0]
          refine (l01Numbers_any _ _ _ B' b _ HL'.out (by omega) HR.out).mono ?_
          rintro e w' ⟨rfl, rfl⟩
          rw [hnb]
          clear hW0 hx0 hx1
          go_wp2
          go_ret
          exact ⟨ret_bool H.out.symm, HB.out⟩
        · go_enter Try.func37, Try.ntmps37
          go_wp2_with fail
          rw [← hW0]
          refine (l01Numbers_any _ _ _ B' b _ HL'.out (by omega) HR.out).mono ?_
          rintro e w' ⟨rfl, rfl⟩
          rw [hnb]
          have HNB := Lib.hid hnb
          clear hW0 hnb
          go_wp2_with fail
          go_loop [4] (fun i => ∃ k : Nat, k ≤ n ∧ i = .int .i64 k ∧ Hid (okRows n (m.take k) = true)) (fun i => n - (intOf i).toNat)
          case atStart => exact ⟨0, Nat.zero_le _, rfl, rfl⟩
          case round =>
            obtain ⟨k, hk, rfl, HT⟩ := hrel
            by_cases hlt : k < n
            · obtain ⟨r, hr⟩ := at_lt (show k < m.length by rw [HL.out]; exact hlt)
              obtain ⟨b2, o2, Ak, ck, rfl, _, hc, hlc, hcm, hrow⟩ := HM.out k r hr
              unfold maxLen at hcm
              by_cases hrq : r.length = n
              · have tr : ((r.length : Int) != n) = false := bne_f (by omega)
                cases hnum : allNum r
                · have H : Hid (isTabB m b = false) := isTabB_bad hr (.inr hnum)
                  clear hr hrq HT
                  go_wp2_with fail
                  refine (l01Numbers_any _ _ _ B r _ rfl (by omega) hrow).mono ?_
                  rintro e w' ⟨rfl, rfl⟩
                  rw [hnum]
                  go_wp2
                  go_ret
                  exact ⟨ret_bool H.out.symm, HB.out⟩
                · have G := Lib.hid (okRows_step hr hrq hnum HT.out)
                  clear hr hrq HT
                  go_wp2_with fail
                  refine (l01Numbers_any _ _ _ B r _ rfl (by omega) hrow).mono ?_
                  rintro e w' ⟨rfl, rfl⟩
                  rw [hnum]
                  go_wp2
                  go_round
                  case rel => exact ⟨k + 1, by omega, by go_num, G⟩
                  case measure => simp [intOf]; omega
              · have tr : ((r.length : Int) != n) = true := bne_t (by omega)
                have H : Hid (isTabB m b = false) := isTabB_bad hr (.inl (by rw [HL'.out]; exact hrq))
                clear hr hrq HT
                go_wp2
                go_ret
                exact ⟨ret_bool H.out.symm, HB.out⟩
            · obtain rfl : k = n := by omega
              have H : Hid (isTabB m b = true) := isTabB_yes HL.out HL'.out (by omega) (by omega) HNB.out HT.out
              clear HT
              go_wp2
              go_ret
              exact ⟨ret_bool H.out.symm, HB.out⟩
      · have H : Hid (isTabB m b = false) := isTabB_len (by rw [HL'.out]; have := HL.out; omega)
        have t0 : ¬ ((n' : Int) < 1) := by omega
        have t1 := bne_t (show (n : Int) ≠ (n' : Int) by omega)
        clear h0 hq hx0 hx1
        go_enter Try.func37, Try.ntmps37
        go_wp2
        go_ret
        exact ⟨ret_bool H.out.symm, by rw [← hW0]; exact HB.out⟩
end Go.Proofs.Ytnnihdkhblbdgaa
