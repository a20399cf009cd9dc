/-
  PROVED: for every code the law FnFieldLaws returns true: dividing undoes multiplying, products distribute, exponents are added.
  CONDITIONS: none; every slice of bytes.
-/
import Derived.Test.YteaadpdbiakbkaaDraws
import Derived.Test.YteaadpdbiakbkaaPower
import Derived.Test.YteaadpdbiakbkaaFFnFieldLaws
namespace Go.Proofs.Yteaadpdbiakbkaa.fnFieldLaws
open Go.ChangeShapes Go.WideShapes Go.ChangeAt Go.RowKit Fld
set_option linter.unusedVariables false

/-! the plain laws -/
theorem back_law {a b : Int} (a0 : 0 ≤ a) (a1 : a < 10007) (b0 : 0 < b) (b1 : b < 10007) : a * inv b % 10007 * b % 10007 = a := by
  have e : Eqm (a * inv b % 10007 * b) a := by
    refine ((Eqm.mod _).mul (Eqm.refl b)).trans ?_
    rw [Int.mul_assoc]
    exact ((Eqm.refl a).mul (inv_mul b b0 b1)).trans (Eqm.of_eq (Int.mul_one a))
  rw [e.emod]; omega
theorem left_law (a b c : Int) : (a + b) % 10007 * c % 10007 = (a * c % 10007 + b * c % 10007) % 10007 := by
  have e : Eqm ((a + b) % 10007 * c) (a * c % 10007 + b * c % 10007) := by
    refine ((Eqm.mod _).mul (Eqm.refl c)).trans ?_
    rw [Int.add_mul]
    exact (Eqm.mod' _).add (Eqm.mod' _)
  exact e.emod
theorem first_law (p r : Int) (p0 : 0 ≤ p) (p1 : p < 10007) : ((p + r) % 10007 - r) % 10007 = p := by omega
/-- powers with whole exponents -/
def zp (b k : Int) : Int := if 0 ≤ k then pw b k.toNat else pw (inv b) (-k).toNat
theorem zp_lo (b k : Int) : 0 ≤ zp b k := by unfold zp; split <;> exact pw_lo _ _
theorem zp_hi (b k : Int) : zp b k < 10007 := by unfold zp; split <;> exact pw_hi _ _
theorem inv_pow {b : Int} (b0 : 0 < b) (b1 : b < 10007) (n : Nat) : Eqm (inv b ^ n * b ^ n) 1 := by
  have h := (inv_mul b b0 b1).pow n
  rw [Int.mul_pow, Int.one_pow] at h
  exact h
theorem zp_shift {b k : Int} (b0 : 0 < b) (b1 : b < 10007) (N : Nat) (hk : 0 ≤ k + N) : Eqm (zp b k * b ^ N) (b ^ (k + N).toNat) := by
  unfold zp
  split
  · rename_i h
    refine ((pw_eqm b _).mul (Eqm.refl _)).trans (Eqm.of_eq ?_)
    rw [← Int.pow_add]; congr 1; omega
  · rename_i h
    have e : N = (-k).toNat + (k + N).toNat := by omega
    have e2 : b ^ N = b ^ (-k).toNat * b ^ (k + N).toNat := by rw [← Int.pow_add, ← e]
    rw [e2, ← Int.mul_assoc]
    refine ((((pw_eqm (inv b) _).mul (Eqm.refl _)).trans (inv_pow b0 b1 _)).mul (Eqm.refl _)).trans (Eqm.of_eq (Int.one_mul _))
theorem cancel_pow {b x y : Int} (b0 : 0 < b) (b1 : b < 10007) (N : Nat) (h : Eqm (x * b ^ N) (y * b ^ N)) : Eqm x y := by
  have key : ∀ z : Int, Eqm (z * b ^ N * inv b ^ N) z := fun z => by
    rw [Int.mul_assoc, Int.mul_comm (b ^ N)]
    exact ((Eqm.refl z).mul (inv_pow b0 b1 N)).trans (Eqm.of_eq (Int.mul_one z))
  exact (key x).symm.trans ((h.mul (Eqm.refl _)).trans (key y))
theorem zp_add {b m n : Int} (b0 : 0 < b) (b1 : b < 10007) : zp b m * zp b n % 10007 = zp b (m + n) := by
  have h1 := zp_shift (k := m) b0 b1 m.natAbs (by omega)
  have h2 := zp_shift (k := n) b0 b1 n.natAbs (by omega)
  have h3 := zp_shift (k := m + n) b0 b1 (m.natAbs + n.natAbs) (by omega)
  have h4 : Eqm (zp b m * zp b n * b ^ (m.natAbs + n.natAbs)) (zp b (m + n) * b ^ (m.natAbs + n.natAbs)) := by
    refine Eqm.trans (Eqm.of_eq ?_) ((h1.mul h2).trans (Eqm.trans (Eqm.of_eq ?_) h3.symm))
    · rw [Int.pow_add]; grind
    · rw [← Int.pow_add]; congr 1; omega
  have h5 := (cancel_pow b0 b1 _ h4).emod
  have := zp_lo b (m + n)
  have := zp_hi b (m + n)
  omega
theorem powA_ok {b k : Int} (b0 : 0 < b) (b1 : b < 10007) (k0 : -1000 ≤ k) (k1 : k ≤ 1000) : powA b k = (zp b k, 0) := by
  unfold powA zp
  rw [if_pos ⟨isNum_iff.2 ⟨by omega, b1⟩, whole_yes (by omega) (by omega)⟩]
  by_cases h : 0 ≤ k
  · rw [if_pos h, if_pos h]
  · rw [if_neg h, if_neg h, if_neg (by omega)]
theorem two_ok {a b : Int} (a0 : 0 ≤ a) (a1 : a < 10007) (b0 : 0 ≤ b) (b1 : b < 10007) : allNum [a, b] = true := by
  rw [allNum_iff]; intro x hx; simp at hx; rcases hx with rfl | rfl <;> omega

theorem mulOk (a b : Int) (w : World) (a0 : 0 ≤ a) (a1 : a < 10007) (b0 : 0 ≤ b) (b1 : b < 10007) : Calls Try.prog 23 #[.int .i64 a, .int .i64 b] w fun e w' => e = .returned (.tuple #[.int .i64 (a * b % 10007), .int .i64 0]) ∧ Below w.heap.size w w' :=
  (multiplyNumbers_any a b w).mono fun e w' ⟨he, hb⟩ => ⟨by rw [he, pick_yes (two_ok a0 a1 b0 b1), twoCode_yes (two_ok a0 a1 b0 b1)], hb⟩
theorem addOk (a b : Int) (w : World) (a0 : 0 ≤ a) (a1 : a < 10007) (b0 : 0 ≤ b) (b1 : b < 10007) : Calls Try.prog 24 #[.int .i64 a, .int .i64 b] w fun e w' => e = .returned (.tuple #[.int .i64 ((a + b) % 10007), .int .i64 0]) ∧ Below w.heap.size w w' :=
  (addNumbers_any a b w).mono fun e w' ⟨he, hb⟩ => ⟨by rw [he, pick_yes (two_ok a0 a1 b0 b1), twoCode_yes (two_ok a0 a1 b0 b1)], hb⟩
theorem subOk (a b : Int) (w : World) (a0 : 0 ≤ a) (a1 : a < 10007) (b0 : 0 ≤ b) (b1 : b < 10007) : Calls Try.prog 25 #[.int .i64 a, .int .i64 b] w fun e w' => e = .returned (.tuple #[.int .i64 ((a - b) % 10007), .int .i64 0]) ∧ Below w.heap.size w w' :=
  (subtractNumbers_any a b w).mono fun e w' ⟨he, hb⟩ => ⟨by rw [he, pick_yes (two_ok a0 a1 b0 b1), twoCode_yes (two_ok a0 a1 b0 b1)], hb⟩
theorem powOk (b k : Int) (w : World) (b0 : 0 < b) (b1 : b < 10007) (k0 : -1000 ≤ k) (k1 : k ≤ 1000) : Calls Try.prog 26 #[.int .i64 b, .int .i64 k] w fun e w' => e = .returned (.tuple #[.int .i64 (zp b k), .int .i64 0]) ∧ w = w' :=
  (powerNumber_any b k w).mono fun e w' ⟨he, hb⟩ => ⟨by rw [he, powA_ok b0 b1 k0 k1], hb⟩

set_option maxRecDepth 100000 in
set_option maxHeartbeats 2000000 in
theorem walk (w : World) (a0 : Option Addr) (len0 cap0 : Nat) (z0 : List Int) (w0 : IsRow .u8 w a0 len0 cap0 z0) : Calls Try.prog 3 #[.slice a0 len0 cap0] w fun e w' => e = .returned (.bool true) ∧ Below w.heap.size w w' := by
  have hcode := isCode_of w0
  have hcm := w0.2.2.1
  have hlc := w0.2.1
  unfold maxLen at hcm
  have HX := Lib.hid hcode
  clear hcode w0
  by_cases hn : len0 ≤ 4096
  · have t0 : decide ((4096 : Int) < len0) = false := decide_eq_false (by omega)
    go_enter Try.func3, Try.ntmps3
    go_wp2_with fail
    refine (big_any _ _ _ _ (by omega)).mono ?_
    rintro e w' ⟨rfl, rfl⟩
    go_wp2_with fail
    refine (drawDivide_any _ _ _ _ _ hn HX.out).mono ?_
    rintro e u1 ⟨a, b, rfl, ha, hb, b1⟩
    unfold IsI64 at ha hb
    go_wp2_with fail
    refine (divideNumbers_any a b _).mono ?_
    rintro e u2 ⟨rfl, be2⟩
    have b2 := b1.trans (be2.mono b1.size)
    go_wp2_with fail
    refine (sDivideNumbers_any a b _).mono ?_
    rintro e w' ⟨rfl, rfl⟩
    go_wp2_with fail
    refine (isNumber_any a _).mono ?_
    rintro e w' ⟨rfl, rfl⟩
    go_wp2_with fail
    refine (sIsNumber_any a _).mono ?_
    rintro e w' ⟨rfl, rfl⟩
    by_cases hc : (divA a b).2 = 0
    · have hnum : allNum [a, b] = true ∧ b ≠ 0 := by
        unfold divA at hc
        cases hh : allNum [a, b]
        · rw [hh] at hc; simp at hc
        · rw [hh, if_pos rfl] at hc
          refine ⟨rfl, fun e => ?_⟩
          rw [if_pos e] at hc; simp at hc
      obtain ⟨a0, a1, b0', b1'⟩ := ok_two_num hnum.1
      have b0 : 0 < b := by have := hnum.2; omega
      have e0 : divA a b = (a * inv b % 10007, 0) := by unfold divA; rw [if_pos hnum.1, if_neg hnum.2]
      rw [e0]
      clear hc e0 hnum ha hb
      have q0 : 0 ≤ a * inv b % 10007 := by omega
      have q1 : a * inv b % 10007 < 10007 := by omega
      have tb := bne_f (back_law a0 a1 b0 b1')
      generalize a * inv b % 10007 = q at *
      go_wp2_with fail
      refine (roll_any _ _ _ _ _ _ _ (HX.out.below b2).1 hn (Nat.le_refl _) ((HX.out.below b2).2.1) (HX.out.below b2).2.2).mono ?_
      rintro e u3 ⟨G, rfl, hG, s3, be3⟩
      have b3 := b2.trans (be3.mono b2.size)
      go_wp2_with fail
      refine (number5_any G _ _ _ s3).mono ?_
      rintro e u4 ⟨c, rfl, hcN, s4, o4⟩
      obtain ⟨c0, c1⟩ := hcN
      have b4 := below_only b3 o4 b3.size (by have := b2.size; omega)
      go_wp2_with fail
      refine (below_any G _ _ _ _ (by omega) s4).mono ?_
      rintro e u5 ⟨r5, rfl, r50, r51, s5, o5⟩
      have b5 := below_only b4 o5 b4.size (by have := b2.size; omega)
      go_wp2_with fail
      refine (below_any G _ _ _ _ (by omega) s5).mono ?_
      rintro e u6 ⟨r6, rfl, r60, r61, s6, o6⟩
      have b6 := below_only b5 o6 b5.size (by have := b2.size; omega)
      clear s3 s4 s5 s6 o4 o5 o6 b1 b2 b3 b4 b5 be2 be3
      have tl := bne_f ((left_law a b c).trans (Int.add_emod (a * c) (b * c) 10007).symm)
      have tf := bne_f (first_law (a * c % 10007) (b * c % 10007) (by omega) (by omega))
      have p0 : 0 ≤ a * c % 10007 := by omega
      have p1 : a * c % 10007 < 10007 := by omega
      have x0 : 0 ≤ b * c % 10007 := by omega
      have x1 : b * c % 10007 < 10007 := by omega
      go_wp2_with fail
      refine (mulOk q b _ q0 q1 b0' b1').mono ?_
      rintro e u7 ⟨rfl, be7⟩
      have b7 := b6.trans (be7.mono b6.size)
      clear be7 b6
      go_wp2_with fail
      refine (addOk a b _ a0 a1 b0' b1').mono ?_
      rintro e u8 ⟨rfl, be8⟩
      have b8 := b7.trans (be8.mono b7.size)
      clear be8 b7
      go_wp2_with fail
      refine (mulOk _ c _ (by omega) (by omega) c0 c1).mono ?_
      rintro e u9 ⟨rfl, be9⟩
      have b9 := b8.trans (be9.mono b8.size)
      clear be9 b8
      go_wp2_with fail
      refine (mulOk a c _ a0 a1 c0 c1).mono ?_
      rintro e u10 ⟨rfl, be10⟩
      have b10 := b9.trans (be10.mono b9.size)
      clear be10 b9
      go_wp2_with fail
      refine (mulOk b c _ b0' b1' c0 c1).mono ?_
      rintro e u11 ⟨rfl, be11⟩
      have b11 := b10.trans (be11.mono b10.size)
      clear be11 b10
      go_wp2_with fail
      refine (addOk _ _ _ p0 p1 x0 x1).mono ?_
      rintro e u12 ⟨rfl, be12⟩
      have b12 := b11.trans (be12.mono b11.size)
      clear be12 b11
      go_wp2_with fail
      refine (subOk _ _ _ (by omega) (by omega) x0 x1).mono ?_
      rintro e u13 ⟨rfl, be13⟩
      have b13 := b12.trans (be13.mono b12.size)
      clear be13 b12
      have tz := beq_t (zp_add (m := r5 - 20) (n := r6 - 20) b0 b1')
      have z0 := zp_lo b (r5 - 20)
      have z1 := zp_hi b (r5 - 20)
      have y0 := zp_lo b (r6 - 20)
      have y1 := zp_hi b (r6 - 20)
      go_wp2_with fail
      refine (powOk b _ _ b0 b1' (by omega) (by omega)).mono ?_
      rintro e w' ⟨rfl, rfl⟩
      go_wp2_with fail
      refine (powOk b _ _ b0 b1' (by omega) (by omega)).mono ?_
      rintro e w' ⟨rfl, rfl⟩
      go_wp2_with fail
      refine (powOk b _ _ b0 b1' (by omega) (by omega)).mono ?_
      rintro e w' ⟨rfl, rfl⟩
      go_wp2_with fail
      refine (mulOk _ _ _ z0 z1 y0 y1).mono ?_
      rintro e u14 ⟨rfl, be14⟩
      have b14 := b13.trans (be14.mono b13.size)
      go_wp2
      go_ret
      exact ⟨rfl, b14⟩
    · have t1 := bne_t hc
      clear hc
      go_wp2
      go_ret
      exact ⟨rfl, b2⟩
  · have t0 : decide ((4096 : Int) < len0) = true := decide_eq_true (by omega)
    go_enter Try.func3, Try.ntmps3
    go_wp2_with fail
    refine (big_any _ _ _ _ (by omega)).mono ?_
    rintro e w' ⟨rfl, rfl⟩
    go_wp2
    go_ret
    exact ⟨rfl, Below.refl _ _⟩
/-- the statement -/
theorem holds : Rows.FnFieldLawsSaid := of_walk walk
end Go.Proofs.Yteaadpdbiakbkaa.fnFieldLaws
