/-
  PROVED: for every code the law FnRootsOfNumbers returns true: square roots of squares are the lesser of a number and its negative, third and fifth roots lead back.
  CONDITIONS: none; every slice of bytes.
-/
import Derived.Test.YteaadpdbiakbkaaDraws
import Derived.Test.YteaadpdbiakbkaaPower
import Derived.Test.YteaadpdbiakbkaaRoots
import Derived.Test.YteaadpdbiakbkaaFFnRootsOfNumbers
namespace Go.Proofs.Yteaadpdbiakbkaa.fnRootsOfNumbers
open Go.ChangeShapes Go.WideShapes Go.ChangeAt Go.RowKit Fld
set_option linter.unusedVariables false

/-! the plain laws -/
theorem sqrt_lead {b r c : Int} (b0 : 0 ≤ b) (b1 : b < 10007) (h : SqrtIs (pw b 2) r c) : c = 0 ∧ ((r = b ∧ b ≤ -b % 10007) ∨ (r = -b % 10007 ∧ -b % 10007 ≤ b ∧ r ≠ b)) := by
  rcases h with ⟨h1, _⟩ | ⟨_, h2, _⟩ | ⟨_, h0, h2, h3⟩
  · rw [isNum_iff.2 ⟨pw_lo _ _, pw_hi _ _⟩] at h1; exact Bool.noConfusion h1
  · rcases h2 with ⟨_, h2⟩ | ⟨h2, _⟩
    · exact absurd rfl (h2 b b0 b1)
    · omega
  · refine ⟨h3, ?_⟩
    rcases h2 with ⟨h2, _⟩ | ⟨r0, r1, he, hl⟩
    · omega
    · have hle : r ≤ b := by
        rcases Int.lt_or_le b r with g | g
        · exact absurd rfl (hl b b0 g)
        · exact g
      have hneg : pw (-b % 10007) 2 = pw b 2 := by
        have e : Eqm ((-b % 10007) ^ 2) (b ^ 2) := by
          rw [sq_eq, sq_eq]
          refine ((Eqm.mod (-b)).mul (Eqm.mod (-b))).trans (Eqm.of_eq (by rw [Int.neg_mul_neg]))
        exact e
      have hle2 : r ≤ -b % 10007 := by
        rcases Int.lt_or_le (-b % 10007) r with g | g
        · exact absurd hneg (hl _ (by omega) g)
        · exact g
      have e : Eqm (r ^ 2) (b ^ 2) := he
      rw [sq_eq, sq_eq] at e
      by_cases hbr : r = b
      · exact .inl ⟨hbr, by omega⟩
      · have e2 : Eqm (((r - b) % 10007) * (r + b)) 0 := by
          refine ((Eqm.mod _).mul (Eqm.refl _)).trans ?_
          have : (r - b) * (r + b) = r * r - b * b := by grind
          rw [this]
          exact (e.sub (Eqm.refl (b * b))).trans (Eqm.of_eq (by omega))
        have e3 := no_zero _ _ (by omega) (by omega) e2
        unfold Eqm at e3
        have e4 : r + b = 0 ∨ r + b = 10007 := by omega
        have e5 : r = -b % 10007 := by rcases e4 with e4 | e4 <;> omega
        exact .inr ⟨e5, by omega, hbr⟩
theorem root_back {b : Int} (b0 : 0 ≤ b) (b1 : b < 10007) (k e m : Nat) (h : k * e = 10006 * m + (0 + 1)) : pw (pw b k) e = b := by
  have e1 : Eqm (pw (pw b k) e) b := by
    refine (pw_eqm _ _).trans (((pw_eqm b k).pow e).trans ?_)
    rw [← Int.pow_mul, h]
    exact (pow_wrap b b0 b1 m 0).trans (Eqm.of_eq (by rw [Nat.zero_add, Int.pow_succ, Int.pow_zero, Int.one_mul]))
  exact e1.eq (pw_lo _ _) (pw_hi _ _) b0 b1
theorem cube_back {b : Int} (b0 : 0 ≤ b) (b1 : b < 10007) : rootA (pw b 3) 3 = (b, 0) := by
  rw [rootA_3 (isNum_iff.2 ⟨pw_lo _ _, pw_hi _ _⟩), root_back b0 b1 3 6671 2 (by decide)]
theorem fifth_back {b : Int} (b0 : 0 ≤ b) (b1 : b < 10007) : rootA (pw b 5) 5 = (b, 0) := by
  rw [rootA_5 (isNum_iff.2 ⟨pw_lo _ _, pw_hi _ _⟩), root_back b0 b1 5 8005 4 (by decide)]
theorem powA_nat {b : Int} (b0 : 0 ≤ b) (b1 : b < 10007) (k : Int) (n : Nat) (hk : k = n) (hn : n ≤ 1000) : powA b k = (pw b n, 0) := by
  subst hk
  unfold powA
  rw [if_pos ⟨isNum_iff.2 ⟨b0, b1⟩, whole_yes (by omega) (by omega)⟩, if_pos (by omega), Int.toNat_natCast]
theorem powerNat (b k : Int) (n : Nat) (w : World) (b0 : 0 ≤ b) (b1 : b < 10007) (hk : k = n) (hn : n ≤ 1000) : Calls Try.prog 26 #[.int .i64 b, .int .i64 k] w fun e w' => e = .returned (.tuple #[.int .i64 (pw b n), .int .i64 0]) ∧ w = w' :=
  (powerNumber_any b k w).mono fun e w' ⟨he, hb⟩ => ⟨by rw [he, powA_nat b0 b1 k n hk hn], hb⟩
theorem cubeRoot (b : Int) (w : World) (b0 : 0 ≤ b) (b1 : b < 10007) : Calls Try.prog 31 #[.int .i64 (pw b 3), .int .i64 3] w fun e w' => e = .returned (.tuple #[.int .i64 b, .int .i64 0]) ∧ w = w' :=
  (rootNumber_any (pw b 3) 3 w).mono fun e w' ⟨he, hb⟩ => ⟨by rw [he, cube_back b0 b1], hb⟩
theorem fifthRoot (b : Int) (w : World) (b0 : 0 ≤ b) (b1 : b < 10007) : Calls Try.prog 31 #[.int .i64 (pw b 5), .int .i64 5] w fun e w' => e = .returned (.tuple #[.int .i64 b, .int .i64 0]) ∧ w = w' :=
  (rootNumber_any (pw b 5) 5 w).mono fun e w' ⟨he, hb⟩ => ⟨by rw [he, fifth_back b0 b1], hb⟩
theorem sq_of {a v : Int} (h0 : 0 ≤ v) (h : Least a 2 v) : v < 10007 ∧ v * v % 10007 = a := by
  rcases h with ⟨h, _⟩ | ⟨_, h1, h2, _⟩
  · omega
  · exact ⟨h1, by rw [← h2]; unfold pw; rw [sq_eq]⟩

set_option maxRecDepth 100000 in
set_option maxHeartbeats 2000000 in
theorem walk (w : World) (a0 : Option Addr) (len0 cap0 : Nat) (z0 : List Int) (w0 : IsRow .u8 w a0 len0 cap0 z0) : Calls Try.prog 4 #[.slice a0 len0 cap0] w fun e w' => e = .returned (.bool true) ∧ Below w.heap.size w w' := by
  have hcode := isCode_of w0
  have hcm := w0.2.2.1
  have hlc := w0.2.1
  unfold maxLen at hcm
  have HX := Lib.hid hcode
  clear hcode w0
  by_cases hn : len0 ≤ 4096
  · have t0 : decide ((4096 : Int) < len0) = false := decide_eq_false (by omega)
    go_enter Try.func4, Try.ntmps4
    go_wp2_with fail
    refine (big_any _ _ _ _ (by omega)).mono ?_
    rintro e w' ⟨rfl, rfl⟩
    go_wp2_with fail
    refine (drawSquareRoot_any _ _ _ _ _ hn HX.out).mono ?_
    rintro e u1 ⟨a, rfl, ha, b1⟩
    unfold IsI64 at ha
    go_wp2_with fail
    refine (squareRoot_any a _).mono ?_
    rintro e w' ⟨v, c, rfl, hv, rfl⟩
    have HV := Lib.hid hv
    clear hv
    go_wp2_with fail
    refine (sSquareRoot_any a _).mono ?_
    rintro e w' ⟨v', c', rfl, hv', rfl⟩
    obtain ⟨rfl, rfl⟩ := HV.out.uniq hv'
    clear hv'
    by_cases hc : c = 0
    · have hv : 0 ≤ v ∧ Least a 2 v := by
        rcases HV.out with ⟨_, _, h⟩ | ⟨_, _, _, h⟩ | ⟨_, h1, h2, _⟩
        · omega
        · omega
        · exact ⟨h1, h2⟩
      have v0 := hv.1
      obtain ⟨v1, vsq⟩ := sq_of hv.1 hv.2
      obtain ⟨m0, m1⟩ := mul_bd v0 v1 v0 v1
      have tc := beq_t hc
      have ts := bne_f vsq
      clear hv HV hc vsq
      go_wp2_with fail
      refine (mod5_any _ _).mono ?_
      rintro e w' ⟨rfl, rfl⟩
      go_wp2_with fail
      refine (roll_any _ _ _ _ _ _ _ (HX.out.below b1).1 hn (Nat.le_refl _) ((HX.out.below b1).2.1) (HX.out.below b1).2.2).mono ?_
      rintro e u3 ⟨G, rfl, hG, s3, be3⟩
      have b3 := b1.trans (be3.mono b1.size)
      go_wp2_with fail
      refine (number5_any G _ _ _ s3).mono ?_
      rintro e u4 ⟨b, rfl, hcN, s4, o4⟩
      obtain ⟨p0, p1⟩ := hcN
      have b4 := below_only b3 o4 b3.size (by have := b1.size; omega)
      clear s3 s4 o4 be3 b1 b3
      go_wp2_with fail
      refine (powerNat b _ 2 _ p0 p1 rfl (by omega)).mono ?_
      rintro e w' ⟨rfl, rfl⟩
      go_wp2_with fail
      refine (squareRoot_any _ _).mono ?_
      rintro e w' ⟨r, c4, rfl, hr, rfl⟩
      obtain ⟨rfl, hcase⟩ := sqrt_lead p0 p1 hr
      have HC := Lib.hid hcase
      clear hr hcase
      go_wp2_with fail
      refine (powerNat b _ 3 _ p0 p1 rfl (by omega)).mono ?_
      rintro e w' ⟨rfl, rfl⟩
      go_wp2_with fail
      refine (cubeRoot b _ p0 p1).mono ?_
      rintro e w' ⟨rfl, rfl⟩
      go_wp2_with fail
      refine (powerNat b _ 5 _ p0 p1 rfl (by omega)).mono ?_
      rintro e w' ⟨rfl, rfl⟩
      go_wp2_with fail
      refine (fifthRoot b _ p0 p1).mono ?_
      rintro e w' ⟨rfl, rfl⟩
      rcases HC.out with ⟨h1, h2⟩ | ⟨h1, h2, h3⟩
      · have tr := beq_t h1
        clear HC h1
        go_wp2_with (go_at_call 30; refine (mod5_any _ _).mono ?_; rintro e w' ⟨rfl, rfl⟩)
        go_ret
        exact ⟨rfl, b4⟩
      · have tr := beq_t h1
        have tr3 := beq_f h3
        clear HC h1 h3
        go_wp2_with (go_at_call 30; refine (mod5_any _ _).mono ?_; rintro e w' ⟨rfl, rfl⟩)
        go_ret
        exact ⟨rfl, b4⟩
    · have tc := beq_f hc
      clear HV hc
      go_wp2_with fail
      refine (roll_any _ _ _ _ _ _ _ (HX.out.below b1).1 hn (Nat.le_refl _) ((HX.out.below b1).2.1) (HX.out.below b1).2.2).mono ?_
      rintro e u3 ⟨G, rfl, hG, s3, be3⟩
      have b3 := b1.trans (be3.mono b1.size)
      go_wp2_with fail
      refine (number5_any G _ _ _ s3).mono ?_
      rintro e u4 ⟨b, rfl, hcN, s4, o4⟩
      obtain ⟨p0, p1⟩ := hcN
      have b4 := below_only b3 o4 b3.size (by have := b1.size; omega)
      clear s3 s4 o4 be3 b1 b3
      go_wp2_with fail
      refine (powerNat b _ 2 _ p0 p1 rfl (by omega)).mono ?_
      rintro e w' ⟨rfl, rfl⟩
      go_wp2_with fail
      refine (squareRoot_any _ _).mono ?_
      rintro e w' ⟨r, c4, rfl, hr, rfl⟩
      obtain ⟨rfl, hcase⟩ := sqrt_lead p0 p1 hr
      have HC := Lib.hid hcase
      clear hr hcase
      go_wp2_with fail
      refine (powerNat b _ 3 _ p0 p1 rfl (by omega)).mono ?_
      rintro e w' ⟨rfl, rfl⟩
      go_wp2_with fail
      refine (cubeRoot b _ p0 p1).mono ?_
      rintro e w' ⟨rfl, rfl⟩
      go_wp2_with fail
      refine (powerNat b _ 5 _ p0 p1 rfl (by omega)).mono ?_
      rintro e w' ⟨rfl, rfl⟩
      go_wp2_with fail
      refine (fifthRoot b _ p0 p1).mono ?_
      rintro e w' ⟨rfl, rfl⟩
      rcases HC.out with ⟨h1, h2⟩ | ⟨h1, h2, h3⟩
      · have tr := beq_t h1
        clear HC h1
        go_wp2_with (go_at_call 30; refine (mod5_any _ _).mono ?_; rintro e w' ⟨rfl, rfl⟩)
        go_ret
        exact ⟨rfl, b4⟩
      · have tr := beq_t h1
        have tr3 := beq_f h3
        clear HC h1 h3
        go_wp2_with (go_at_call 30; refine (mod5_any _ _).mono ?_; rintro e w' ⟨rfl, rfl⟩)
        go_ret
        exact ⟨rfl, b4⟩
  · have t0 : decide ((4096 : Int) < len0) = true := decide_eq_true (by omega)
    go_enter Try.func4, Try.ntmps4
    go_wp2_with fail
    refine (big_any _ _ _ _ (by omega)).mono ?_
    rintro e w' ⟨rfl, rfl⟩
    go_wp2
    go_ret
    exact ⟨rfl, Below.refl _ _⟩
/-- the statement -/
theorem holds : Rows.FnRootsOfNumbersSaid := of_walk walk
end Go.Proofs.Yteaadpdbiakbkaa.fnRootsOfNumbers
