/-
  What division, fractions and powers answer, the program's and the model's alike.
-/
import Derived.Test.YteaadpdbiakbkaaArith
namespace Go.Proofs.Yteaadpdbiakbkaa
open Go.RowKit Fld
set_option linter.unusedVariables false
set_option linter.unusedSimpArgs false

def whole (k : Int) : Bool := isIn k (-1000000000) 1000000000
theorem whole_yes {k : Int} (h0 : -1000000000 ≤ k) (h1 : k ≤ 1000000000) : whole k = true := isIn_yes h0 h1
theorem whole_no {k : Int} (h0 : k < -1000000000 ∨ 1000000000 < k) : whole k = false := isIn_no h0
theorem whole_iff {k : Int} : whole k = true ↔ -1000000000 ≤ k ∧ k ≤ 1000000000 := isIn_iff
def divA (a b : Int) : Int × Int := if allNum [a, b] = true then (if b = 0 then (0, 5) else (a * inv b % 10007, 0)) else (0, 2)
def fracA (p q : Int) : Int × Int := if whole p = true ∧ whole q = true then (if q % 10007 = 0 then (0, 5) else (p % 10007 * inv (q % 10007) % 10007, 0)) else (0, 2)
def powA (a k : Int) : Int × Int := if isNum a = true ∧ whole k = true then (if 0 ≤ k then (pw a k.toNat, 0) else if a = 0 then (0, 5) else (pw (inv a) (-k).toNat, 0)) else (0, 2)

theorem isWhole_any (k : Int) (w : World) : Calls Try.prog 61 #[.int .i64 k] w fun e w' => e = .returned (.bool (whole k)) ∧ w = w' := by
  by_cases h0 : -1000000000 ≤ k
  · by_cases h1 : k ≤ 1000000000
    · have H := Lib.hid (whole_yes h0 h1)
      go_enter Try.func61, Try.ntmps61
      go_wp2
      go_ret
      exact ⟨ret_bool H.out.symm, rfl⟩
    · have H := Lib.hid (whole_no (.inr (Int.not_le.1 h1)))
      go_enter Try.func61, Try.ntmps61
      go_wp2
      go_ret
      exact ⟨ret_bool H.out.symm, rfl⟩
  · have H := Lib.hid (whole_no (.inl (Int.not_le.1 h0)))
    go_enter Try.func61, Try.ntmps61
    go_wp2
    go_ret
    exact ⟨ret_bool H.out.symm, rfl⟩
theorem divideNumbers_any (a b : Int) (w : World) : Calls Try.prog 16 #[.int .i64 a, .int .i64 b] w fun e w' => e = .returned (.tuple #[.int .i64 (divA a b).1, .int .i64 (divA a b).2]) ∧ Below w.heap.size w w' := by
  cases h : allNum [a, b]
  · have H := Lib.hid (show divA a b = (0, 2) from if_neg (by rw [h]; simp))
    go_enter Try.func16, Try.ntmps16
    go_wp2_with (first | (go_at_call 52; refine (areNumbers_any _ 2 _ (w.heap.size + 1) [a, b] _ rfl (by omega) (Row.new w _ (ints [a, b]))).mono ?_; rintro e w' ⟨rfl, rfl⟩) | (go_at_call 53; refine (over_any _ _ _ (by omega) (by omega) (by omega) (by omega)).mono ?_; rintro e w' ⟨rfl, rfl⟩))
    go_ret2
    exact ⟨ret_pair H.out, (Below.refl _ _).alloc (Nat.le_refl _) _⟩
  · obtain ⟨a0, a1, b0, b1⟩ := ok_two_num h
    have e0 : divA a b = (if b = 0 then (0, 5) else (a * inv b % 10007, 0)) := if_pos h
    by_cases hb : b = 0
    · have H := Lib.hid (e0.trans (if_pos hb))
      have hb0 : (b == 0) = true := beq_t hb
      clear e0 hb
      go_enter Try.func16, Try.ntmps16
      go_wp2_with (first | (go_at_call 52; refine (areNumbers_any _ 2 _ (w.heap.size + 1) [a, b] _ rfl (by omega) (Row.new w _ (ints [a, b]))).mono ?_; rintro e w' ⟨rfl, rfl⟩) | (go_at_call 53; refine (over_any _ _ _ (by omega) (by omega) (by omega) (by omega)).mono ?_; rintro e w' ⟨rfl, rfl⟩))
      go_ret2
      exact ⟨ret_pair H.out, (Below.refl _ _).alloc (Nat.le_refl _) _⟩
    · have H := Lib.hid (e0.trans (if_neg hb))
      have hb0 : (b == 0) = false := beq_f hb
      have i0 := inv_lo b
      have i1 := inv_hi b
      clear e0
      go_enter Try.func16, Try.ntmps16
      go_wp2_with (first | (go_at_call 52; refine (areNumbers_any _ 2 _ (w.heap.size + 1) [a, b] _ rfl (by omega) (Row.new w _ (ints [a, b]))).mono ?_; rintro e w' ⟨rfl, rfl⟩) | (go_at_call 53; refine (over_any _ _ _ (by omega) (by omega) (by omega) (by omega)).mono ?_; rintro e w' ⟨rfl, rfl⟩))
      go_ret2
      exact ⟨ret_pair H.out, (Below.refl _ _).alloc (Nat.le_refl _) _⟩
theorem sDivideNumbers_any (a b : Int) (w : World) : Calls Try.prog 17 #[.int .i64 a, .int .i64 b] w fun e w' => e = .returned (.tuple #[.int .i64 (divA a b).1, .int .i64 (divA a b).2]) ∧ w = w' := by
  cases h : allNum [a, b]
  · have H := Lib.hid (show divA a b = (0, 2) from if_neg (by rw [h]; simp))
    have ht := twoCode_no h
    have t1 : (twoCode a b == 0) = false := beq_f (by omega)
    have t2 : (twoCode a b != 0) = true := bne_t (by omega)
    have G := Lib.hid ht
    clear h ht
    go_enter Try.func17, Try.ntmps17
    go_wp2_with (first | (go_at_call 54; refine (l01Two_any _ _ _).mono ?_; rintro e w' ⟨rfl, rfl⟩) | (go_at_call 56; refine (l01Inv_any _ _ (by omega) (by omega)).mono ?_; rintro e w' ⟨rfl, rfl⟩) | (go_at_call 55; refine (l01Mul_any _ _ _ (by omega) (by omega) (by omega) (by omega)).mono ?_; rintro e w' ⟨rfl, rfl⟩))
    go_ret2
    exact ⟨ret_pair (H.out.trans (by rw [G.out])), rfl⟩
  · obtain ⟨a0, a1, b0, b1⟩ := ok_two_num h
    have e0 : divA a b = (if b = 0 then (0, 5) else (a * inv b % 10007, 0)) := if_pos h
    by_cases hb : b = 0
    · have H := Lib.hid (e0.trans (if_pos hb))
      have hb0 : (b == 0) = true := beq_t hb
      clear e0 hb
      have ht := twoCode_yes h
      have t1 : (twoCode a b == 0) = true := beq_t ht
      have t2 : (twoCode a b != 0) = false := bne_f ht
      clear ht h
      go_enter Try.func17, Try.ntmps17
      go_wp2_with (first | (go_at_call 54; refine (l01Two_any _ _ _).mono ?_; rintro e w' ⟨rfl, rfl⟩) | (go_at_call 56; refine (l01Inv_any _ _ (by omega) (by omega)).mono ?_; rintro e w' ⟨rfl, rfl⟩) | (go_at_call 55; refine (l01Mul_any _ _ _ (by omega) (by omega) (by omega) (by omega)).mono ?_; rintro e w' ⟨rfl, rfl⟩))
      go_ret2
      exact ⟨ret_pair H.out, rfl⟩
    · have H := Lib.hid (e0.trans (if_neg hb))
      have hb0 : (b == 0) = false := beq_f hb
      have i0 := inv_lo b
      have i1 := inv_hi b
      clear e0
      have ht := twoCode_yes h
      have t1 : (twoCode a b == 0) = true := beq_t ht
      have t2 : (twoCode a b != 0) = false := bne_f ht
      clear ht h
      go_enter Try.func17, Try.ntmps17
      go_wp2_with (first | (go_at_call 54; refine (l01Two_any _ _ _).mono ?_; rintro e w' ⟨rfl, rfl⟩) | (go_at_call 56; refine (l01Inv_any _ _ (by omega) (by omega)).mono ?_; rintro e w' ⟨rfl, rfl⟩) | (go_at_call 55; refine (l01Mul_any _ _ _ (by omega) (by omega) (by omega) (by omega)).mono ?_; rintro e w' ⟨rfl, rfl⟩))
      go_ret2
      exact ⟨ret_pair H.out, rfl⟩
theorem numberOf_any (p q : Int) (w : World) : Calls Try.prog 45 #[.int .i64 p, .int .i64 q] w fun e w' => e = .returned (.tuple #[.int .i64 (fracA p q).1, .int .i64 (fracA p q).2]) ∧ w = w' := by
  cases hp : whole p
  · have H := Lib.hid (show fracA p q = (0, 2) from if_neg (by rw [hp]; simp))
    go_enter Try.func45, Try.ntmps45
    go_wp2_with (first | (go_at_call 61; refine (isWhole_any _ _).mono ?_; rintro e w' ⟨rfl, rfl⟩) | (go_at_call 85; refine (reduced_any _ _).mono ?_; rintro e w' ⟨rfl, rfl⟩) | (go_at_call 53; refine (over_any _ _ _ (by omega) (by omega) (by omega) (by omega)).mono ?_; rintro e w' ⟨rfl, rfl⟩))
    go_ret2
    exact ⟨ret_pair H.out, rfl⟩
  · cases hq : whole q
    · have H := Lib.hid (show fracA p q = (0, 2) from if_neg (by rw [hq]; simp))
      go_enter Try.func45, Try.ntmps45
      go_wp2_with (first | (go_at_call 61; refine (isWhole_any _ _).mono ?_; rintro e w' ⟨rfl, rfl⟩) | (go_at_call 85; refine (reduced_any _ _).mono ?_; rintro e w' ⟨rfl, rfl⟩) | (go_at_call 53; refine (over_any _ _ _ (by omega) (by omega) (by omega) (by omega)).mono ?_; rintro e w' ⟨rfl, rfl⟩))
      go_ret2
      exact ⟨ret_pair H.out, rfl⟩
    · have e0 : fracA p q = (if q % 10007 = 0 then (0, 5) else (p % 10007 * inv (q % 10007) % 10007, 0)) := if_pos ⟨hp, hq⟩
      have tq : q.tmod 10007 = 0 ↔ q % 10007 = 0 := by rw [Int.tmod_eq_emod]; split <;> omega
      by_cases h : q % 10007 = 0
      · have H := Lib.hid (e0.trans (if_pos h))
        have t1 : (q % 10007 == 0) = true := beq_t h
        have t2 : (q.tmod 10007 == 0) = true := beq_t (tq.2 h)
        clear e0 tq h
        go_enter Try.func45, Try.ntmps45
        go_wp2_with (first | (go_at_call 61; refine (isWhole_any _ _).mono ?_; rintro e w' ⟨rfl, rfl⟩) | (go_at_call 85; refine (reduced_any _ _).mono ?_; rintro e w' ⟨rfl, rfl⟩) | (go_at_call 53; refine (over_any _ _ _ (by omega) (by omega) (by omega) (by omega)).mono ?_; rintro e w' ⟨rfl, rfl⟩))
        go_ret2
        exact ⟨ret_pair H.out, rfl⟩
      · have H := Lib.hid (e0.trans (if_neg h))
        have t1 : (q % 10007 == 0) = false := beq_f h
        have t2 : (q.tmod 10007 == 0) = false := beq_f (fun g => h (tq.1 g))
        clear e0 tq h
        go_enter Try.func45, Try.ntmps45
        go_wp2_with (first | (go_at_call 61; refine (isWhole_any _ _).mono ?_; rintro e w' ⟨rfl, rfl⟩) | (go_at_call 85; refine (reduced_any _ _).mono ?_; rintro e w' ⟨rfl, rfl⟩) | (go_at_call 53; refine (over_any _ _ _ (by omega) (by omega) (by omega) (by omega)).mono ?_; rintro e w' ⟨rfl, rfl⟩))
        go_ret2
        exact ⟨ret_pair H.out, rfl⟩
theorem sNumberOf_any (p q : Int) (w : World) : Calls Try.prog 44 #[.int .i64 p, .int .i64 q] w fun e w' => e = .returned (.tuple #[.int .i64 (fracA p q).1, .int .i64 (fracA p q).2]) ∧ w = w' := by
  cases hp : whole p
  · have H := Lib.hid (show fracA p q = (0, 2) from if_neg (by rw [hp]; simp))
    have up : isIn p (-1000000000) 1000000000 = false := hp
    go_enter Try.func44, Try.ntmps44
    go_wp2_with (first | (go_at_call 57; show Calls Try.prog 57 _ _ _; refine (l01In_any _ _ _ _).mono ?_; rintro e w' ⟨rfl, rfl⟩) | (go_at_call 84; refine (l01Frac_any _ _ _).mono ?_; rintro e w' ⟨rfl, rfl⟩))
    go_ret2
    exact ⟨ret_pair H.out, rfl⟩
  · cases hq : whole q
    · have H := Lib.hid (show fracA p q = (0, 2) from if_neg (by rw [hq]; simp))
      have up : isIn p (-1000000000) 1000000000 = true := hp
      have uq : isIn q (-1000000000) 1000000000 = false := hq
      go_enter Try.func44, Try.ntmps44
      go_wp2_with (first | (go_at_call 57; show Calls Try.prog 57 _ _ _; refine (l01In_any _ _ _ _).mono ?_; rintro e w' ⟨rfl, rfl⟩) | (go_at_call 84; refine (l01Frac_any _ _ _).mono ?_; rintro e w' ⟨rfl, rfl⟩))
      go_ret2
      exact ⟨ret_pair H.out, rfl⟩
    · have e0 : fracA p q = (if q % 10007 = 0 then (0, 5) else (p % 10007 * inv (q % 10007) % 10007, 0)) := if_pos ⟨hp, hq⟩
      have tq : q.tmod 10007 = 0 ↔ q % 10007 = 0 := by rw [Int.tmod_eq_emod]; split <;> omega
      by_cases h : q % 10007 = 0
      · have H := Lib.hid (e0.trans (if_pos h))
        have t1 : (q % 10007 == 0) = true := beq_t h
        have t2 : (q.tmod 10007 == 0) = true := beq_t (tq.2 h)
        clear e0 tq h
        have up : isIn p (-1000000000) 1000000000 = true := hp
        have uq : isIn q (-1000000000) 1000000000 = true := hq
        go_enter Try.func44, Try.ntmps44
        go_wp2_with (first | (go_at_call 57; show Calls Try.prog 57 _ _ _; refine (l01In_any _ _ _ _).mono ?_; rintro e w' ⟨rfl, rfl⟩) | (go_at_call 84; refine (l01Frac_any _ _ _).mono ?_; rintro e w' ⟨rfl, rfl⟩))
        go_ret2
        exact ⟨ret_pair H.out, rfl⟩
      · have H := Lib.hid (e0.trans (if_neg h))
        have t1 : (q % 10007 == 0) = false := beq_f h
        have t2 : (q.tmod 10007 == 0) = false := beq_f (fun g => h (tq.1 g))
        clear e0 tq h
        have up : isIn p (-1000000000) 1000000000 = true := hp
        have uq : isIn q (-1000000000) 1000000000 = true := hq
        go_enter Try.func44, Try.ntmps44
        go_wp2_with (first | (go_at_call 57; show Calls Try.prog 57 _ _ _; refine (l01In_any _ _ _ _).mono ?_; rintro e w' ⟨rfl, rfl⟩) | (go_at_call 84; refine (l01Frac_any _ _ _).mono ?_; rintro e w' ⟨rfl, rfl⟩))
        go_ret2
        exact ⟨ret_pair H.out, rfl⟩
theorem powerNumber_any (a k : Int) (w : World) : Calls Try.prog 26 #[.int .i64 a, .int .i64 k] w fun e w' => e = .returned (.tuple #[.int .i64 (powA a k).1, .int .i64 (powA a k).2]) ∧ w = w' := by
  cases ha : isNum a
  · have H := Lib.hid (show powA a k = (0, 2) from if_neg (by rw [ha]; simp))
    go_enter Try.func26, Try.ntmps26
    go_wp2_with (first | (go_at_call 18; refine (isNumber_any _ _).mono ?_; rintro e w' ⟨rfl, rfl⟩) | (go_at_call 61; refine (isWhole_any _ _).mono ?_; rintro e w' ⟨rfl, rfl⟩) | (go_at_call 63; refine (inverse_any _ _ (by omega) (by omega)).mono ?_; rintro e w' ⟨rfl, rfl⟩) | (go_at_call 62; refine (power_any _ _ _ (by omega) (by omega) (by omega) (by omega)).mono ?_; rintro e w' ⟨rfl, rfl⟩))
    go_ret2
    exact ⟨ret_pair H.out, rfl⟩
  · cases hk : whole k
    · have H := Lib.hid (show powA a k = (0, 2) from if_neg (by rw [hk]; simp))
      go_enter Try.func26, Try.ntmps26
      go_wp2_with (first | (go_at_call 18; refine (isNumber_any _ _).mono ?_; rintro e w' ⟨rfl, rfl⟩) | (go_at_call 61; refine (isWhole_any _ _).mono ?_; rintro e w' ⟨rfl, rfl⟩) | (go_at_call 63; refine (inverse_any _ _ (by omega) (by omega)).mono ?_; rintro e w' ⟨rfl, rfl⟩) | (go_at_call 62; refine (power_any _ _ _ (by omega) (by omega) (by omega) (by omega)).mono ?_; rintro e w' ⟨rfl, rfl⟩))
      go_ret2
      exact ⟨ret_pair H.out, rfl⟩
    · have e0 : powA a k = (if 0 ≤ k then (pw a k.toNat, 0) else if a = 0 then (0, 5) else (pw (inv a) (-k).toNat, 0)) := if_pos ⟨ha, hk⟩
      obtain ⟨a0, a1⟩ := isNum_iff.1 ha
      obtain ⟨k0, k1⟩ := whole_iff.1 hk
      have i0 := inv_lo a
      have i1 := inv_hi a
      by_cases h : 0 ≤ k
      · have H := Lib.hid (e0.trans (if_pos h))
        clear e0
        go_enter Try.func26, Try.ntmps26
        go_wp2_with (first | (go_at_call 18; refine (isNumber_any _ _).mono ?_; rintro e w' ⟨rfl, rfl⟩) | (go_at_call 61; refine (isWhole_any _ _).mono ?_; rintro e w' ⟨rfl, rfl⟩) | (go_at_call 63; refine (inverse_any _ _ (by omega) (by omega)).mono ?_; rintro e w' ⟨rfl, rfl⟩) | (go_at_call 62; refine (power_any _ _ _ (by omega) (by omega) (by omega) (by omega)).mono ?_; rintro e w' ⟨rfl, rfl⟩))
        go_ret2
        exact ⟨ret_pair H.out, rfl⟩
      · by_cases hz : a = 0
        · have H := Lib.hid ((e0.trans (if_neg h)).trans (if_pos hz))
          have t1 : (a == 0) = true := beq_t hz
          clear e0 hz
          go_enter Try.func26, Try.ntmps26
          go_wp2_with (first | (go_at_call 18; refine (isNumber_any _ _).mono ?_; rintro e w' ⟨rfl, rfl⟩) | (go_at_call 61; refine (isWhole_any _ _).mono ?_; rintro e w' ⟨rfl, rfl⟩) | (go_at_call 63; refine (inverse_any _ _ (by omega) (by omega)).mono ?_; rintro e w' ⟨rfl, rfl⟩) | (go_at_call 62; refine (power_any _ _ _ (by omega) (by omega) (by omega) (by omega)).mono ?_; rintro e w' ⟨rfl, rfl⟩))
          go_ret2
          exact ⟨ret_pair H.out, rfl⟩
        · have H := Lib.hid ((e0.trans (if_neg h)).trans (if_neg hz))
          have t1 : (a == 0) = false := beq_f hz
          clear e0 hz
          go_enter Try.func26, Try.ntmps26
          go_wp2_with (first | (go_at_call 18; refine (isNumber_any _ _).mono ?_; rintro e w' ⟨rfl, rfl⟩) | (go_at_call 61; refine (isWhole_any _ _).mono ?_; rintro e w' ⟨rfl, rfl⟩) | (go_at_call 63; refine (inverse_any _ _ (by omega) (by omega)).mono ?_; rintro e w' ⟨rfl, rfl⟩) | (go_at_call 62; refine (power_any _ _ _ (by omega) (by omega) (by omega) (by omega)).mono ?_; rintro e w' ⟨rfl, rfl⟩))
          go_ret2
          exact ⟨ret_pair H.out, rfl⟩
theorem sPowerNumber_any (a k : Int) (w : World) : Calls Try.prog 49 #[.int .i64 a, .int .i64 k] w fun e w' => e = .returned (.tuple #[.int .i64 (powA a k).1, .int .i64 (powA a k).2]) ∧ w = w' := by
  cases ha : isNum a
  · have H := Lib.hid (show powA a k = (0, 2) from if_neg (by rw [ha]; simp))
    go_enter Try.func49, Try.ntmps49
    go_wp2_with (first | (go_at_call 19; refine (sIsNumber_any _ _).mono ?_; rintro e w' ⟨rfl, rfl⟩) | (go_at_call 57; refine (l01In_any _ _ _ _).mono ?_; rintro e w' ⟨rfl, rfl⟩) | (go_at_call 56; refine (l01Inv_any _ _ (by omega) (by omega)).mono ?_; rintro e w' ⟨rfl, rfl⟩) | (go_at_call 88; refine (l01Pow_any _ _ _ (by omega) (by omega) (by omega) (by omega)).mono ?_; rintro e w' ⟨rfl, rfl⟩))
    go_ret2
    exact ⟨ret_pair H.out, rfl⟩
  · cases hk : whole k
    · have H := Lib.hid (show powA a k = (0, 2) from if_neg (by rw [hk]; simp))
      have uk : isIn k (-1000000000) 1000000000 = false := hk
      go_enter Try.func49, Try.ntmps49
      go_wp2_with (first | (go_at_call 19; refine (sIsNumber_any _ _).mono ?_; rintro e w' ⟨rfl, rfl⟩) | (go_at_call 57; refine (l01In_any _ _ _ _).mono ?_; rintro e w' ⟨rfl, rfl⟩) | (go_at_call 56; refine (l01Inv_any _ _ (by omega) (by omega)).mono ?_; rintro e w' ⟨rfl, rfl⟩) | (go_at_call 88; refine (l01Pow_any _ _ _ (by omega) (by omega) (by omega) (by omega)).mono ?_; rintro e w' ⟨rfl, rfl⟩))
      go_ret2
      exact ⟨ret_pair H.out, rfl⟩
    · have e0 : powA a k = (if 0 ≤ k then (pw a k.toNat, 0) else if a = 0 then (0, 5) else (pw (inv a) (-k).toNat, 0)) := if_pos ⟨ha, hk⟩
      obtain ⟨a0, a1⟩ := isNum_iff.1 ha
      obtain ⟨k0, k1⟩ := whole_iff.1 hk
      have i0 := inv_lo a
      have i1 := inv_hi a
      by_cases h : 0 ≤ k
      · have H := Lib.hid (e0.trans (if_pos h))
        clear e0
        have uk : isIn k (-1000000000) 1000000000 = true := hk
        go_enter Try.func49, Try.ntmps49
        go_wp2_with (first | (go_at_call 19; refine (sIsNumber_any _ _).mono ?_; rintro e w' ⟨rfl, rfl⟩) | (go_at_call 57; refine (l01In_any _ _ _ _).mono ?_; rintro e w' ⟨rfl, rfl⟩) | (go_at_call 56; refine (l01Inv_any _ _ (by omega) (by omega)).mono ?_; rintro e w' ⟨rfl, rfl⟩) | (go_at_call 88; refine (l01Pow_any _ _ _ (by omega) (by omega) (by omega) (by omega)).mono ?_; rintro e w' ⟨rfl, rfl⟩))
        go_ret2
        exact ⟨ret_pair H.out, rfl⟩
      · by_cases hz : a = 0
        · have H := Lib.hid ((e0.trans (if_neg h)).trans (if_pos hz))
          have t1 : (a == 0) = true := beq_t hz
          clear e0 hz
          have uk : isIn k (-1000000000) 1000000000 = true := hk
          go_enter Try.func49, Try.ntmps49
          go_wp2_with (first | (go_at_call 19; refine (sIsNumber_any _ _).mono ?_; rintro e w' ⟨rfl, rfl⟩) | (go_at_call 57; refine (l01In_any _ _ _ _).mono ?_; rintro e w' ⟨rfl, rfl⟩) | (go_at_call 56; refine (l01Inv_any _ _ (by omega) (by omega)).mono ?_; rintro e w' ⟨rfl, rfl⟩) | (go_at_call 88; refine (l01Pow_any _ _ _ (by omega) (by omega) (by omega) (by omega)).mono ?_; rintro e w' ⟨rfl, rfl⟩))
          go_ret2
          exact ⟨ret_pair H.out, rfl⟩
        · have H := Lib.hid ((e0.trans (if_neg h)).trans (if_neg hz))
          have t1 : (a == 0) = false := beq_f hz
          clear e0 hz
          have uk : isIn k (-1000000000) 1000000000 = true := hk
          go_enter Try.func49, Try.ntmps49
          go_wp2_with (first | (go_at_call 19; refine (sIsNumber_any _ _).mono ?_; rintro e w' ⟨rfl, rfl⟩) | (go_at_call 57; refine (l01In_any _ _ _ _).mono ?_; rintro e w' ⟨rfl, rfl⟩) | (go_at_call 56; refine (l01Inv_any _ _ (by omega) (by omega)).mono ?_; rintro e w' ⟨rfl, rfl⟩) | (go_at_call 88; refine (l01Pow_any _ _ _ (by omega) (by omega) (by omega) (by omega)).mono ?_; rintro e w' ⟨rfl, rfl⟩))
          go_ret2
          exact ⟨ret_pair H.out, rfl⟩
end Go.Proofs.Yteaadpdbiakbkaa
