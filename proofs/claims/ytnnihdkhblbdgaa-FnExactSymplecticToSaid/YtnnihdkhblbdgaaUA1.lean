/-
  Texts of this seat, joined: what several laws lean on.
-/
import Derived.Test.YtnnihdkhblbdgaaBase
import Derived.IntWalk
import Derived.OwnWalk
import Derived.Laws.OwnMore
import Derived.Deep.QuietTactic
import Derived.BigQuiet
import Derived.LoopTactic
import Derived.Test.YtnnihdkhblbdgaaTree
import Derived.Deep.AppendLies
import Derived.Deep.RegionHeld3
import Derived.Outline
import Derived.Laws.AppendOwnNone
import Derived.Test.YtnnihdkhblbdgaaTreeN
import Derived.Lib.SliceRun
import Derived.Test.YtnnihdkhblbdgaaShelf
import Derived.BigRegion
import Derived.Lib.OthersKept
import Derived.Deep.RegionLaw
/-
  The field with 10007 elements, on integers: congruence, the little theorem of Fermat by reckoning, powers, inverses, least roots. No Go in sight.
-/
namespace Go.Proofs.Ytnnihdkhblbdgaa.Fld

/-! congruence modulo 10007, on integers -/
def Eqm (a b : Int) : Prop := a % 10007 = b % 10007
theorem Eqm.refl (a : Int) : Eqm a a := rfl
theorem Eqm.symm {a b : Int} (h : Eqm a b) : Eqm b a := Eq.symm h
theorem Eqm.trans {a b c : Int} (h : Eqm a b) (g : Eqm b c) : Eqm a c := Eq.trans h g
theorem Eqm.mod (a : Int) : Eqm (a % 10007) a := by unfold Eqm; omega
theorem Eqm.mod' (a : Int) : Eqm a (a % 10007) := by unfold Eqm; omega
theorem Eqm.add {a b c d : Int} (h : Eqm a b) (g : Eqm c d) : Eqm (a + c) (b + d) := by unfold Eqm at *; omega
theorem Eqm.sub {a b c d : Int} (h : Eqm a b) (g : Eqm c d) : Eqm (a - c) (b - d) := by unfold Eqm at *; omega
theorem Eqm.neg {a b : Int} (h : Eqm a b) : Eqm (-a) (-b) := by unfold Eqm at *; omega
theorem Eqm.mul {a b c d : Int} (h : Eqm a b) (g : Eqm c d) : Eqm (a * c) (b * d) := by
  unfold Eqm at *; rw [Int.mul_emod, h, g, ← Int.mul_emod]
theorem Eqm.pow {a b : Int} (h : Eqm a b) (n : Nat) : Eqm (a ^ n) (b ^ n) := by
  induction n with
  | zero => rw [Int.pow_zero, Int.pow_zero]; exact Eqm.refl _
  | succ n ih => rw [Int.pow_succ, Int.pow_succ]; exact ih.mul h
theorem Eqm.eq {a b : Int} (h : Eqm a b) (a0 : 0 ≤ a) (a1 : a < 10007) (b0 : 0 ≤ b) (b1 : b < 10007) : a = b := by unfold Eqm at h; omega
theorem Eqm.emod {a b : Int} (h : Eqm a b) : a % 10007 = b % 10007 := h
theorem Eqm.of_eq {a b : Int} (h : a = b) : Eqm a b := h ▸ Eqm.refl _

/-! Fermat, by reckoning -/
def pmGo : Nat → Nat → Nat → Nat → Nat
  | 0, _, _, r => r
  | f+1, a, k, r => pmGo f (a*a % 10007) (k/2) (if k % 2 = 1 then r*a % 10007 else r)
def chk : Nat → Bool
  | 0 => true
  | n+1 => Nat.beq (pmGo 14 (n+1) 10006 1) 1 && chk n
set_option maxRecDepth 100000 in
theorem chk_ok : chk 10006 = true := by decide +kernel
theorem chk_at (n : Nat) : ∀ m : Nat, chk n = true → 0 < m → m ≤ n → pmGo 14 m 10006 1 = 1 := by
  induction n with
  | zero => intro m _ h0 h1; omega
  | succ n ih =>
    intro m h h0 h1
    have h2 : (Nat.beq (pmGo 14 (n+1) 10006 1) 1 && chk n) = true := h
    rw [Bool.and_eq_true] at h2
    rcases Nat.lt_or_ge n m with g | g
    · obtain rfl : m = n + 1 := by omega
      exact Nat.eq_of_beq_eq_true h2.1
    · exact ih m h2.2 h0 g
theorem pmGo_eq : ∀ (f : Nat) (a k r : Nat), k < 2 ^ f → Eqm (pmGo f a k r : Nat) ((r : Int) * (a : Int) ^ k)
  | 0, a, k, r, h => by
    obtain rfl : k = 0 := by simp at h; omega
    simp [pmGo]; exact Eqm.refl _
  | f+1, a, k, r, h => by
    have ih := pmGo_eq f (a*a % 10007) (k/2) (if k % 2 = 1 then r*a % 10007 else r) (by rw [Nat.pow_succ] at h; omega)
    simp only [pmGo]
    refine ih.trans ?_
    have e1 : Eqm ((a * a % 10007 : Nat) : Int) ((a : Int) ^ 2) := by
      rw [Int.natCast_emod, Int.natCast_mul]; exact (Eqm.mod _).trans (Eqm.of_eq (by rw [Int.pow_succ, Int.pow_succ, Int.pow_zero, Int.one_mul]))
    have e2 := e1.pow (k/2)
    rw [← Int.pow_mul] at e2
    by_cases hk : k % 2 = 1
    · rw [if_pos hk]
      have e3 : Eqm ((r * a % 10007 : Nat) : Int) ((r : Int) * a) := by
        rw [Int.natCast_emod, Int.natCast_mul]; exact Eqm.mod _
      refine (e3.mul e2).trans (Eqm.of_eq ?_)
      have : k = 2 * (k/2) + 1 := by omega
      conv => rhs; rw [this, Int.pow_succ]
      rw [Int.mul_assoc, Int.mul_comm (a : Int)]
    · rw [if_neg hk]
      refine ((Eqm.refl _).mul e2).trans (Eqm.of_eq ?_)
      have : k = 2 * (k/2) := by omega
      conv => rhs; rw [this]
theorem fermat (a : Int) (h0 : 0 < a) (h1 : a < 10007) : Eqm (a ^ 10006) 1 := by
  obtain ⟨n, rfl⟩ := Int.eq_ofNat_of_zero_le (Int.le_of_lt h0)
  have h := chk_at 10006 n chk_ok (by omega) (by omega)
  have g := pmGo_eq 14 n 10006 1 (by decide)
  rw [h] at g
  exact (by simpa using g.symm)

/-- the power, and the inverse -/
def pw (a : Int) (k : Nat) : Int := a ^ k % 10007
def inv (a : Int) : Int := pw a 10005
theorem pw_lo (a : Int) (k : Nat) : 0 ≤ pw a k := by unfold pw; omega
theorem pw_hi (a : Int) (k : Nat) : pw a k < 10007 := by unfold pw; omega
theorem pw_eqm (a : Int) (k : Nat) : Eqm (pw a k) (a ^ k) := Eqm.mod _
theorem inv_lo (a : Int) : 0 ≤ inv a := pw_lo _ _
theorem inv_hi (a : Int) : inv a < 10007 := pw_hi _ _
theorem inv_mul (a : Int) (h0 : 0 < a) (h1 : a < 10007) : Eqm (inv a * a) 1 :=
  (((pw_eqm a 10005).mul (Eqm.refl a)).trans (Eqm.of_eq (Int.pow_succ a 10005).symm)).trans (fermat a h0 h1)
theorem no_zero (a b : Int) (a0 : 0 < a) (a1 : a < 10007) (h : Eqm (a * b) 0) : Eqm b 0 := by
  have := ((inv_mul a a0 a1).mul (Eqm.refl b)).symm
  rw [Int.one_mul, Int.mul_assoc] at this
  exact this.trans (((Eqm.refl _).mul h).trans (Eqm.of_eq (Int.mul_zero _)))
theorem pow_wrap (b : Int) (b0 : 0 ≤ b) (b1 : b < 10007) (m : Nat) (j : Nat) : Eqm (b ^ (10006 * m + (j + 1))) (b ^ (j + 1)) := by
  rcases Int.lt_or_le 0 b with h | h
  · rw [Int.pow_add, Int.pow_mul]
    have := (((fermat b h b1).pow m).mul (Eqm.refl (b ^ (j + 1))))
    rw [Int.one_pow, Int.one_mul] at this
    exact this
  · obtain rfl : b = 0 := by omega
    rw [Int.zero_pow (by omega), Int.zero_pow (by omega)]; exact Eqm.refl _

/-- the least root, as a search from 0 on finds it -/
def Least (a : Int) (k : Nat) (r : Int) : Prop :=
  (r = -1 ∧ ∀ b : Int, 0 ≤ b → b < 10007 → pw b k ≠ a) ∨ (0 ≤ r ∧ r < 10007 ∧ pw r k = a ∧ ∀ b : Int, 0 ≤ b → b < r → pw b k ≠ a)
theorem Least.uniq {a : Int} {k : Nat} {r s : Int} (h : Least a k r) (g : Least a k s) : r = s := by
  rcases h with ⟨rfl, h⟩ | ⟨h0, h1, h2, h3⟩ <;> rcases g with ⟨rfl, g⟩ | ⟨g0, g1, g2, g3⟩
  · rfl
  · exact absurd g2 (h _ g0 g1)
  · exact absurd h2 (g _ h0 h1)
  · rcases Int.lt_or_le r s with e | e
    · exact absurd h2 (g3 _ h0 e)
    · rcases Int.lt_or_le s r with e' | e'
      · exact absurd g2 (h3 _ g0 e')
      · omega
theorem eqm_of_pw {a b : Int} {k : Nat} (h : pw b k = a) : Eqm (b ^ k) a := h ▸ (pw_eqm b k).symm

theorem sqrt_no (a : Int) (a0 : 0 ≤ a) (a1 : a < 10007) (h : pw a 2502 * pw a 2502 % 10007 ≠ a) : Least a 2 (-1) := by
  refine Or.inl ⟨rfl, fun b b0 b1 hb => h ?_⟩
  have e : Eqm (pw a 2502 * pw a 2502) a := by
    have e1 : Eqm (a ^ 2502) (b ^ (2 * 2502)) := by rw [Int.pow_mul]; exact (eqm_of_pw hb).symm.pow 2502
    have e2 := (pw_eqm a 2502).trans e1
    refine (e2.mul e2).trans ?_
    rw [← Int.pow_add]
    exact (pow_wrap b b0 b1 1 1).trans (eqm_of_pw hb)
  have := e.emod
  rw [this]; omega
theorem sq_eq (x : Int) : x ^ 2 = x * x := by rw [Int.pow_succ, Int.pow_succ, Int.pow_zero, Int.one_mul]
theorem sqrt_yes (a : Int) (h : pw a 2502 * pw a 2502 % 10007 = a) : Least a 2 (min (pw a 2502) (-(pw a 2502) % 10007)) := by
  have r0 := pw_lo a 2502
  have r1 := pw_hi a 2502
  generalize pw a 2502 = r at *
  have key : ∀ b : Int, 0 ≤ b → b < 10007 → pw b 2 = a → b = r ∨ b = -r % 10007 := by
    intro b b0 b1 hb
    have e : Eqm (b ^ 2) (r * r) := by
      refine (eqm_of_pw hb).trans ?_
      rw [← h]; exact Eqm.mod _
    rw [sq_eq] at e
    by_cases hbr : b = r
    · exact Or.inl hbr
    · refine Or.inr ?_
      have e2 : Eqm (((b - r) % 10007) * (b + r)) 0 := by
        refine ((Eqm.mod _).mul (Eqm.refl _)).trans ?_
        have : (b - r) * (b + r) = b * b - r * r := by grind
        rw [this]
        exact (e.sub (Eqm.refl (r * r))).trans (Eqm.of_eq (by omega))
      have e3 := no_zero _ _ (by omega) (by omega) e2
      unfold Eqm at e3
      omega
  have sq1 : pw r 2 = a := by unfold pw; rw [sq_eq]; exact h
  have sq2 : pw (-r % 10007) 2 = a := by
    unfold pw; rw [sq_eq, ← h]
    refine ((Eqm.mod (-r)).mul (Eqm.mod (-r))).trans (Eqm.of_eq ?_)
    rw [Int.neg_mul_neg]
  rcases Int.le_total r (-r % 10007) with hle | hle
  · rw [Int.min_eq_left hle]
    refine Or.inr ⟨r0, r1, sq1, fun b b0 b1 hb => ?_⟩
    rcases key b b0 (by omega) hb with e | e <;> omega
  · rw [Int.min_eq_right hle]
    refine Or.inr ⟨by omega, by omega, sq2, fun b b0 b1 hb => ?_⟩
    rcases key b b0 (by omega) hb with e | e <;> omega
theorem root_ex (a : Int) (a0 : 0 ≤ a) (a1 : a < 10007) (k e m : Nat) (hk : e * (k + 1) = 10006 * m + (0 + 1)) :
    Least a (k + 1) (pw a e) := by
  refine Or.inr ⟨pw_lo _ _, pw_hi _ _, ?_, fun b b0 b1 hb => ?_⟩
  · have : Eqm (pw a e ^ (k + 1)) a := by
      refine ((pw_eqm a e).pow (k + 1)).trans ?_
      rw [← Int.pow_mul, hk]
      exact (pow_wrap a a0 a1 m 0).trans (Eqm.of_eq (by rw [Nat.zero_add, Int.pow_succ, Int.pow_zero, Int.one_mul]))
    unfold pw at this ⊢
    have := this.emod
    rw [this]; omega
  · have e1 : Eqm (a ^ e) b := by
      refine ((eqm_of_pw hb).symm.pow e).trans ?_
      rw [← Int.pow_mul, Nat.mul_comm (k + 1), hk]
      exact (pow_wrap b b0 (by have := pw_hi a e; omega) m 0).trans (Eqm.of_eq (by rw [Nat.zero_add, Int.pow_succ, Int.pow_zero, Int.one_mul]))
    have e2 := (pw_eqm a e).trans e1
    have := e2.eq (pw_lo _ _) (pw_hi _ _) b0 (by have := pw_hi a e; omega)
    omega
theorem root3 (a : Int) (a0 : 0 ≤ a) (a1 : a < 10007) : Least a 3 (pw a 6671) := root_ex a a0 a1 2 6671 2 (by decide)
theorem root5 (a : Int) (a0 : 0 ≤ a) (a1 : a < 10007) : Least a 5 (pw a 8005) := root_ex a a0 a1 4 8005 4 (by decide)
theorem mul_bd {a b : Int} (a0 : 0 ≤ a) (a1 : a < 10007) (b0 : 0 ≤ b) (b1 : b < 10007) : 0 ≤ a * b ∧ a * b ≤ 100120036 := by
  refine ⟨Int.mul_nonneg a0 b0, ?_⟩
  have h : a * b ≤ 10006 * 10006 := Int.mul_le_mul (by omega) (by omega) b0 (by omega)
  omega
theorem pstep_odd (x y p q : Int) (hy : 0 < y) (h1 : y % 2 = 1) (h : Eqm (p * x ^ y.toNat) q) : Eqm (p * x % 10007 * (x * x % 10007) ^ (y / 2).toNat) q := by
  refine Eqm.trans ?_ h
  have e : y.toNat = 2 * (y / 2).toNat + 1 := by omega
  rw [e, Int.pow_succ, Int.pow_mul, sq_eq]
  refine (Eqm.mul (Eqm.mod _) ((Eqm.mod (x * x)).pow _)).trans (Eqm.of_eq ?_)
  rw [Int.mul_assoc, Int.mul_comm x]
theorem pstep_even (x y p q : Int) (hy : 0 < y) (h1 : y % 2 ≠ 1) (h : Eqm (p * x ^ y.toNat) q) : Eqm (p * (x * x % 10007) ^ (y / 2).toNat) q := by
  refine Eqm.trans ?_ h
  have e : y.toNat = 2 * (y / 2).toNat := by omega
  rw [e, Int.pow_mul, sq_eq]
  exact Eqm.mul (Eqm.refl _) ((Eqm.mod (x * x)).pow _)
theorem pstep_end (x p q : Int) (k : Nat) (p0 : 0 ≤ p) (p1 : p < 10007) (h : Eqm (p * x ^ (0 : Int).toNat) (q ^ k)) : p = pw q k := by
  have e : Eqm p (q ^ k) := by simpa using h
  unfold pw
  rw [← e.emod]; omega
end Go.Proofs.Ytnnihdkhblbdgaa.Fld
/-
  What the small functions on numbers answer, the program's and the model's: remainders, sums, products, powers, inverses.
-/
namespace Go.Proofs.Ytnnihdkhblbdgaa
open Go.RowKit Fld
set_option linter.unusedVariables false
set_option linter.unusedSimpArgs false
set_option maxRecDepth 100000

theorem tmod_fix (n : Int) : (n.tmod 10007 + 10007) % 10007 = n % 10007 := by
  rw [Int.tmod_eq_emod]; split <;> omega
theorem tmod_bd (n : Int) : -10006 ≤ n.tmod 10007 ∧ n.tmod 10007 ≤ 10006 := by
  rw [Int.tmod_eq_emod]; split <;> omega

theorem l01Mod_any (n : Int) (w : World) : Calls Try.prog 74 #[.int .i64 n] w fun e w' => e = .returned (.int .i64 (n % 10007)) ∧ w = w' := by
  have hb := tmod_bd n
  obtain ⟨hb1, hb2⟩ := hb
  go_enter Try.func74, Try.ntmps74
  go_wp2
  go_ret
  exact ⟨ret_i64 (tmod_fix n), rfl⟩
theorem reduced_any (n : Int) (w : World) : Calls Try.prog 86 #[.int .i64 n] w fun e w' => e = .returned (.int .i64 (n % 10007)) ∧ w = w' := by
  have hb := tmod_bd n
  obtain ⟨hb1, hb2⟩ := hb
  have he := tmod_fix n
  by_cases h : n.tmod 10007 < 0
  · have hr : n.tmod 10007 + 10007 = n % 10007 := by omega
    have H := Lib.hid hr
    clear he hr
    go_enter Try.func86, Try.ntmps86
    go_wp2
    go_ret
    exact ⟨ret_i64 H.out, rfl⟩
  · have hr : n.tmod 10007 = n % 10007 := by omega
    have H := Lib.hid hr
    clear he hr
    go_enter Try.func86, Try.ntmps86
    go_wp2
    go_ret
    exact ⟨ret_i64 H.out, rfl⟩
theorem l01Add_any (a b : Int) (w : World) (a0 : 0 ≤ a) (a1 : a < 10007) (b0 : 0 ≤ b) (b1 : b < 10007) : Calls Try.prog 44 #[.int .i64 a, .int .i64 b] w fun e w' => e = .returned (.int .i64 ((a + b) % 10007)) ∧ w = w' := by
  go_enter Try.func44, Try.ntmps44
  go_wp2_with (go_at_call 74; refine (l01Mod_any _ _).mono ?_; rintro e w' ⟨rfl, rfl⟩)
  go_ret
  exact ⟨rfl, rfl⟩
theorem l01Sub_any (a b : Int) (w : World) (a0 : 0 ≤ a) (a1 : a < 10007) (b0 : 0 ≤ b) (b1 : b < 10007) : Calls Try.prog 104 #[.int .i64 a, .int .i64 b] w fun e w' => e = .returned (.int .i64 ((a - b) % 10007)) ∧ w = w' := by
  go_enter Try.func104, Try.ntmps104
  go_wp2_with (go_at_call 74; refine (l01Mod_any _ _).mono ?_; rintro e w' ⟨rfl, rfl⟩)
  go_ret
  exact ⟨rfl, rfl⟩
theorem l01Mul_any (a b : Int) (w : World) (a0 : 0 ≤ a) (a1 : a < 10007) (b0 : 0 ≤ b) (b1 : b < 10007) : Calls Try.prog 81 #[.int .i64 a, .int .i64 b] w fun e w' => e = .returned (.int .i64 (a * b % 10007)) ∧ w = w' := by
  obtain ⟨m0, m1⟩ := mul_bd a0 a1 b0 b1
  go_enter Try.func81, Try.ntmps81
  go_wp2_with (go_at_call 74; refine (l01Mod_any _ _).mono ?_; rintro e w' ⟨rfl, rfl⟩)
  go_ret
  exact ⟨rfl, rfl⟩
theorem plus_any (a b : Int) (w : World) (a0 : 0 ≤ a) (a1 : a < 10007) (b0 : 0 ≤ b) (b1 : b < 10007) : Calls Try.prog 72 #[.int .i64 a, .int .i64 b] w fun e w' => e = .returned (.int .i64 ((a + b) % 10007)) ∧ w = w' := by
  go_enter Try.func72, Try.ntmps72
  go_wp2_with (go_at_call 86; refine (reduced_any _ _).mono ?_; rintro e w' ⟨rfl, rfl⟩)
  go_ret
  exact ⟨rfl, rfl⟩
theorem times_any (a b : Int) (w : World) (a0 : 0 ≤ a) (a1 : a < 10007) (b0 : 0 ≤ b) (b1 : b < 10007) : Calls Try.prog 51 #[.int .i64 a, .int .i64 b] w fun e w' => e = .returned (.int .i64 (a * b % 10007)) ∧ w = w' := by
  obtain ⟨m0, m1⟩ := mul_bd a0 a1 b0 b1
  go_enter Try.func51, Try.ntmps51
  go_wp2_with (go_at_call 86; refine (reduced_any _ _).mono ?_; rintro e w' ⟨rfl, rfl⟩)
  go_ret
  exact ⟨rfl, rfl⟩
theorem power_any (a k : Int) (w : World) (a0 : 0 ≤ a) (a1 : a < 10007) (k0 : 0 ≤ k) (k1 : k ≤ 9223372036854775807) : Calls Try.prog 124 #[.int .i64 a, .int .i64 k] w fun e w' => e = .returned (.int .i64 (pw a k.toNat)) ∧ w = w' := by
  go_enter Try.func124, Try.ntmps124
  go_wp2_with fail
  go_loop [0, 1, 5] (fun u v o => ∃ x y p : Int, 0 ≤ x ∧ x < 10007 ∧ 0 ≤ y ∧ y ≤ 9223372036854775807 ∧ 0 ≤ p ∧ p < 10007 ∧ Hid (Eqm (p * x ^ y.toNat) (a ^ k.toNat)) ∧ u = .int .i64 x ∧ v = .int .i64 y ∧ o = .int .i64 p) (fun _ v _ => (intOf v).toNat)
  case atStart => exact ⟨a, k, 1, a0, a1, k0, k1, by omega, by omega, Eqm.of_eq (Int.one_mul _), rfl, rfl, rfl⟩
  case round =>
    obtain ⟨x, y, p, x0, x1, y0, y1, p0, p1, H, rfl, rfl, rfl⟩ := hrel
    by_cases hy : 0 < y
    · obtain ⟨m0, m1⟩ := mul_bd x0 x1 x0 x1
      obtain ⟨n0, n1⟩ := mul_bd p0 p1 x0 x1
      by_cases hodd : y % 2 = 1
      · have ho : ((y % 2) == 1) = true := beq_iff_eq.2 hodd
        have G := Lib.hid (pstep_odd x y p _ hy hodd H.out)
        clear hodd H
        go_wp2_with (go_at_call 51; refine (times_any _ _ _ (by omega) (by omega) (by omega) (by omega)).mono ?_; rintro e w' ⟨rfl, rfl⟩)
        go_round
        case rel => exact ⟨_, _, _, by omega, by omega, by omega, by omega, by omega, by omega, G, rfl, rfl, rfl⟩
        case measure => simp [intOf]; omega
      · have ho : ((y % 2) == 1) = false := beq_eq_false_iff_ne.2 hodd
        have G := Lib.hid (pstep_even x y p _ hy hodd H.out)
        clear hodd H
        go_wp2_with (go_at_call 51; refine (times_any _ _ _ (by omega) (by omega) (by omega) (by omega)).mono ?_; rintro e w' ⟨rfl, rfl⟩)
        go_round
        case rel => exact ⟨_, _, _, by omega, by omega, by omega, by omega, by omega, by omega, G, rfl, rfl, rfl⟩
        case measure => simp [intOf]; omega
    · obtain rfl : y = 0 := by omega
      go_wp2
      go_ret
      exact ⟨ret_i64 (pstep_end x p a _ p0 p1 H.out), rfl⟩
end Go.Proofs.Ytnnihdkhblbdgaa
/-
  What the tests on numbers answer, of one number, two numbers and lists, the program's and the model's.
-/
namespace Go.Proofs.Ytnnihdkhblbdgaa
open Go.RowKit Fld
set_option linter.unusedVariables false
set_option linter.unusedSimpArgs false
set_option maxRecDepth 100000

theorem isNumber_any (a : Int) (w : World) : Calls Try.prog 101 #[.int .i64 a] w fun e w' => e = .returned (.bool (isNum a)) ∧ w = w' := by
  by_cases h0 : 0 ≤ a
  · by_cases h1 : a < 10007
    · have H := Lib.hid (isNum_iff.2 ⟨h0, h1⟩)
      go_enter Try.func101, Try.ntmps101
      go_wp2
      go_ret
      exact ⟨ret_bool H.out.symm, rfl⟩
    · have H := Lib.hid (isNum_no.2 (.inr (Int.not_lt.1 h1)))
      go_enter Try.func101, Try.ntmps101
      go_wp2
      go_ret
      exact ⟨ret_bool H.out.symm, rfl⟩
  · have H := Lib.hid (isNum_no.2 (.inl (Int.not_le.1 h0)))
    go_enter Try.func101, Try.ntmps101
    go_wp2
    go_ret
    exact ⟨ret_bool H.out.symm, rfl⟩
theorem l01In_any (n l h : Int) (w : World) : Calls Try.prog 55 #[.int .i64 n, .int .i64 l, .int .i64 h] w fun e w' => e = .returned (.bool (isIn n l h)) ∧ w = w' := by
  by_cases h0 : l ≤ n
  · by_cases h1 : n ≤ h
    · have H := Lib.hid (isIn_yes h0 h1)
      go_enter Try.func55, Try.ntmps55
      go_wp2
      go_ret
      exact ⟨ret_bool H.out.symm, rfl⟩
    · have H := Lib.hid (isIn_no (l := l) (.inr (Int.not_le.1 h1)))
      go_enter Try.func55, Try.ntmps55
      go_wp2
      go_ret
      exact ⟨ret_bool H.out.symm, rfl⟩
  · have H := Lib.hid (isIn_no (h := h) (.inl (Int.not_le.1 h0)))
    go_enter Try.func55, Try.ntmps55
    go_wp2
    go_ret
    exact ⟨ret_bool H.out.symm, rfl⟩
theorem sIsNumber_any (a : Int) (w : World) : Calls Try.prog 98 #[.int .i64 a] w fun e w' => e = .returned (.bool (isNum a)) ∧ w = w' := by
  go_enter Try.func98, Try.ntmps98
  go_wp2_with (go_at_call 55; refine (l01In_any _ _ _ _).mono ?_; rintro e w' ⟨rfl, rfl⟩)
  go_ret
  exact ⟨ret_bool (isIn_num a), rfl⟩
theorem areNumbers_any (A : Option Addr) (n c B : Nat) (xs : List Int) (w : World) (hl : xs.length = n) (hn : n ≤ 9223372036854775807) (h : Row w B A (ints xs)) :
    Calls Try.prog 64 #[.slice A n c] w fun e w' => e = .returned (.bool (allNum xs)) ∧ w = w' := by
  have HL := Lib.hid hl
  clear hl
  go_enter Try.func64, Try.ntmps64
  go_wp2_with fail
  go_loop [7] (fun i => ∃ k : Nat, k ≤ n ∧ i = .int .i64 k ∧ Hid (allNum (xs.take k) = true)) (fun i => n - (intOf i).toNat)
  case atStart => exact ⟨0, Nat.zero_le _, rfl, rfl⟩
  case round =>
    obtain ⟨k, hk, rfl, HT⟩ := hrel
    by_cases hlt : k < n
    · obtain ⟨x, hx⟩ := at_lt (show k < xs.length by rw [HL.out]; exact hlt)
      obtain ⟨b, o, rfl, _, hc⟩ := h k _ (ints_at hx)
      cases hnum : isNum x
      · have G := Lib.hid (allNum_no hx hnum)
        clear hx
        go_wp2_with (go_at_call 101; refine (isNumber_any _ _).mono ?_; rintro e w' ⟨rfl, rfl⟩)
        go_ret
        exact ⟨ret_bool G.out.symm, rfl⟩
      · have G := Lib.hid (allNum_take hx HT.out hnum)
        clear hx HT
        go_wp2_with (go_at_call 101; refine (isNumber_any _ _).mono ?_; rintro e w' ⟨rfl, rfl⟩)
        go_round
        case rel => exact ⟨k + 1, by omega, by go_num, G⟩
        case measure => simp [intOf]; omega
    · have G := Lib.hid HT.out
      clear HT
      go_wp2
      go_ret
      exact ⟨ret_bool (by have := G.out; rw [List.take_of_length_le (by rw [HL.out]; omega)] at this; exact this.symm), rfl⟩
end Go.Proofs.Ytnnihdkhblbdgaa
/-
  Lists of numbers in memory: copies, comparisons, sums and products, the program's and the model's alike.
-/
namespace Go.Proofs.Ytnnihdkhblbdgaa
open Go.RowKit Fld
set_option linter.unusedVariables false
set_option linter.unusedSimpArgs false
set_option maxRecDepth 100000

theorem info_i64 : (Try.prog.info? 2).map (fun i => (i.zero, i.size, i.bytes)) = some (some (.int .i64 0), 1, 8) := by kernel_rfl

theorem row_of_own {w : World} {base : Nat} {e : TypeId} {A : Option Addr} {n c : Nat} {vs : List Value} (h : w.ownsRow base e 1 (.slice A n c) n vs) : Row w w.heap.size A vs := by
  intro k v hv
  rcases h.2 with ⟨_, h0⟩ | ⟨g, cap, cur, hs, _, hg, _⟩
  · have : vs = [] := List.eq_nil_of_length_eq_zero (by rw [h.1, h0])
    rw [this] at hv; simp at hv
  · injection hs with h1 h2 h3
    subst h1 h3
    have hk : k < n * 1 := by
      rcases Nat.lt_or_ge k (n * 1) with g' | g'
      · exact g'
      · rw [List.getElem?_eq_none (by rw [h.1]; exact g')] at hv; cases hv
    refine ⟨g, 0, rfl, ?_, ?_⟩
    · rcases Nat.lt_or_ge g w.heap.size with g' | g'
      · exact g'
      · rw [Array.getElem?_eq_none g'] at hg; cases hg
    · rw [Nat.zero_add, h.cellAt k hk]; exact hv
theorem own_len {w : World} {base : Nat} {e : TypeId} {v : Value} {n : Nat} {vs : List Value} (h : w.ownsRow base e 1 v n vs) : vs.length = n := by rw [h.1]; omega

/-- a new row of n cells that holds vs -/
def NewRow (T : TypeId) (n : Nat) (vs : List Value) (w : World) (e : Ending) (w' : World) : Prop :=
  ∃ A c, e = .returned (.slice A n c) ∧ w'.ownsRow w.heap.size T 1 (.slice A n c) n vs ∧ Below w.heap.size w w'
theorem fill_start (z : Value) (vs : List Value) (n : Nat) : List.replicate n z = vs.take 0 ++ List.replicate (n - 0) z := by simp
theorem fill_step {vs : List Value} {n k : Nat} {v z : Value} (hl : vs.length = n) (h : vs[k]? = some v) : (vs.take k ++ List.replicate (n - k) z).set k v = vs.take (k + 1) ++ List.replicate (n - (k + 1)) z := by
  have hk : k < n := by
    rcases Nat.lt_or_ge k n with g | g
    · exact g
    · rw [List.getElem?_eq_none (by omega)] at h; cases h
  have e1 : (vs.take k).length = k := by simp; omega
  rw [List.set_append, if_neg (by omega), e1, Nat.sub_self, show n - k = (n - (k + 1)) + 1 from by omega, List.replicate_succ, List.set_cons_zero, List.take_add_one, h]
  simp
theorem fill_end {vs : List Value} {n : Nat} (z : Value) (hl : vs.length = n) : vs.take n ++ List.replicate (n - n) z = vs := by
  rw [Nat.sub_self, List.take_of_length_le (by omega)]; simp
theorem fill_at {vs : List Value} {n k : Nat} {z : Value} (hl : vs.length = n) (hk : k < n) : (vs.take k ++ List.replicate (n - k) z)[k]? = some z := by
  have e1 : (vs.take k).length = k := by simp; omega
  rw [List.getElem?_append_right (by omega), e1, Nat.sub_self, List.getElem?_replicate, if_pos (by omega)]
theorem below_set {B : Nat} {a w : World} (h : Below B a w) {g k : Nat} (hg : B ≤ g) (u : Value) : Below B a (w.setCell ⟨g, k, none⟩ u) := h.setCell (p := ⟨g, k, none⟩) hg u
theorem ints_length (xs : List Int) : (ints xs).length = xs.length := by simp [ints, intsK]

/-- a copy of xs[0..] filled in a loop, in a row of the call's own -/
def Filling (w : World) (T : TypeId) (n : Nat) (xs : List Int) (k : Nat) (wr : World) : Prop :=
  wr.ownsRow w.heap.size T 1 (.slice (some ⟨w.heap.size, 0, none⟩) n n) n ((ints xs).take k ++ List.replicate (n - k) (.int .i64 0)) ∧ Below w.heap.size w wr
theorem Filling.step {w wr : World} {T : TypeId} {n k : Nat} {xs : List Int} {x : Int} (h : Filling w T n xs k wr) (hl : xs.length = n) (hx : xs[k]? = some x) : Filling w T n xs (k + 1) (wr.setCell ⟨w.heap.size, k, none⟩ (.int .i64 x)) := by
  obtain ⟨h1, h2⟩ := h
  refine ⟨?_, below_set h2 (Nat.le_refl _) _⟩
  have := (h1.stored k (.int .i64 x)).1
  rw [fill_step (by rw [ints_length]; exact hl) (ints_at hx)] at this
  exact this
theorem Filling.done {w wr : World} {T : TypeId} {n : Nat} {xs : List Int} (h : Filling w T n xs n wr) (hl : xs.length = n) : NewRow T n (ints xs) w (.returned (.slice (some ⟨w.heap.size, 0, none⟩) n n)) wr := by
  obtain ⟨h1, h2⟩ := h
  rw [fill_end _ (by rw [ints_length]; exact hl)] at h1
  exact ⟨_, _, rfl, h1, h2⟩
theorem Filling.start {w w1 : World} {T : TypeId} {n : Nat} {xs : List Int} (h : w1.ownsRow w.heap.size T 1 (.slice (some ⟨w.heap.size, 0, none⟩) n n) n (madeCells (Value.int .i64 0).cells (n * 1)).toList) (hg : w.grownBy w1 none) : Filling w T n xs 0 w1 := by
  refine ⟨?_, (Below.refl _ _).grown hg (Nat.le_refl _) (fun k hk => by cases hk)⟩
  have e : (madeCells (Value.int .i64 0).cells (n * 1)).toList = (ints xs).take 0 ++ List.replicate (n - 0) (.int .i64 0) := by
    rw [← fill_start, Nat.mul_one]; exact toList_madeCells_one _ _
  rw [e] at h
  exact h

set_option maxHeartbeats 400000 in
theorem toInt64S_any (A : Option Addr) (n c B : Nat) (xs : List Int) (w : World) (hl : xs.length = n) (hn : n ≤ 1048576) (hB : B ≤ w.heap.size) (h : Row w B A (ints xs)) :
    Calls Try.prog 24 #[.slice A n c] w (NewRow 2 n (ints xs) w) := by
  obtain ⟨i0, hi, hz0, hz1, hz2⟩ := info_parts info_i64
  have HL := Lib.hid hl
  clear hl
  go_enter Try.func24, Try.ntmps24
  go_wp2_with (at_make; refine wpList_make_full _ rfl (.tmp 6) (.tmp 6) 23 rfl w.heap.size 2 i0 _ 1 Try.underlying23 hi hz0 hz1 .i64 .i64 _ _ n rfl rfl rfl rfl (by rw [hz2]; omega) (by simp only [maxLen]; omega) (Nat.le_refl _) ?_; intro w1 hown hg)
  have F0 := Filling.start (xs := xs) hown hg
  clear hown hg hz0 hz1 hz2 hi
  go_loopw [4] (fun i wr => ∃ k : Nat, k ≤ n ∧ i = .int .i64 k ∧ Filling w 2 n xs k wr) (fun i _ => n - (intOf i).toNat)
  case atStart => exact ⟨0, Nat.zero_le _, rfl, F0⟩
  case round =>
    obtain ⟨k, hk, rfl, HF⟩ := hrel
    by_cases hlt : k < n
    · obtain ⟨x, hx⟩ := at_lt (show k < xs.length by rw [HL.out]; exact hlt)
      obtain ⟨b, o, rfl, _, hc⟩ := h.below HF.2 hB k _ (ints_at hx)
      have hf := HF.1.frozenAt k
      have ho := HF.1.cellAt k (by omega)
      rw [fill_at (by rw [ints_length]; exact HL.out) hlt] at ho
      have G := Lib.hid (HF.step HL.out hx)
      clear hx F0 HF
      go_wp2
      go_roundw
      case rel => exact ⟨k + 1, by omega, by go_num, G.out⟩
      case measure => simp [intOf]; omega
    · obtain rfl : k = n := by omega
      have G := Lib.hid (HF.done HL.out)
      clear HF F0
      go_wp2
      go_ret
      exact G.out

theorem ints_cells (xs : List Int) : ∀ u ∈ ints xs, u.oneCell' = true := by
  intro u hu
  simp only [ints, intsK, List.mem_map] at hu
  obtain ⟨x, _, rfl⟩ := hu
  rfl
theorem Row.src {w : World} {B : Nat} {A : Option Addr} {vs : List Value} (h : Row w B A vs) (h0 : 0 < vs.length) : ∃ a, A = some a ∧ ∀ j v, vs[j]? = some v → w.cell? (a.add j) = some v := by
  obtain ⟨b, o, rfl, _, hc⟩ := h 0 _ (List.getElem?_eq_getElem h0)
  refine ⟨_, rfl, fun j v hv => ?_⟩
  obtain ⟨b', o', e, _, hc'⟩ := h j v hv
  injection e with e
  injection e with e1 e2 _
  subst e1 e2
  have : (⟨b, o, none⟩ : Addr).add j = ⟨b, o + j, none⟩ := by unfold Addr.add; split <;> simp_all
  rw [this]; exact hc'
theorem quietL {P : Program} {f : FuncId} {args : Array Value} {w : World} {n : Nat} {v : Value} (h : Calls P f args (w.drewN n) fun e w' => e = .returned v ∧ w.drewN n = w') : Calls P f args (w.drewN n) fun e w'' => e = .returned v ∧ ∃ m, w'' = w.drewN m :=
  h.mono fun _ _ ⟨he, hm⟩ => ⟨he, n, hm.symm⟩
theorem quietL2 {P : Program} {f : FuncId} {args : Array Value} {w : World} {a n : Nat} {v : Value} (h : Calls P f args (w.drewN (a + n)) fun e w' => e = .returned v ∧ w.drewN (a + n) = w') : Calls P f args (w.drewN (a + n)) fun e w'' => e = .returned v ∧ ∃ m, w'' = w.drewN (a + m) :=
  h.mono fun _ _ ⟨he, hm⟩ => ⟨he, n, hm.symm⟩
theorem below_drewN {B : Nat} {a w : World} (h : Below B a w) (n : Nat) : Below B a (w.drewN n) := ⟨h.os, h.tape, h.output, h.size, h.block⟩
theorem Row.drewN {w : World} {B : Nat} {A : Option Addr} {vs : List Value} (h : Row w B A vs) (n : Nat) : Row (w.drewN n) B A vs := h

/-- are two lists alike -/
def eqL (xs ys : List Int) : Bool := decide (xs = ys)
theorem eqL_self (xs : List Int) : eqL xs xs = true := by simp [eqL]
theorem eqL_len {xs ys : List Int} (h : xs.length ≠ ys.length) : eqL xs ys = false := by
  unfold eqL; exact decide_eq_false (fun e => h (by rw [e]))
theorem eqL_at {xs ys : List Int} {k : Nat} {x y : Int} (hx : xs[k]? = some x) (hy : ys[k]? = some y) (h : x ≠ y) : eqL xs ys = false := by
  unfold eqL; exact decide_eq_false (fun e => h (by rw [e, hy] at hx; exact (Option.some.inj hx).symm))
theorem take_same {xs ys : List Int} {k : Nat} {x : Int} (h : xs.take k = ys.take k) (hx : xs[k]? = some x) (hy : ys[k]? = some x) : xs.take (k + 1) = ys.take (k + 1) := by
  rw [List.take_add_one, List.take_add_one, h, hx, hy]
theorem eqL_end {xs ys : List Int} {n : Nat} (h : xs.take n = ys.take n) (hx : xs.length = n) (hy : ys.length = n) : eqL xs ys = true := by
  rw [List.take_of_length_le (by omega), List.take_of_length_le (by omega)] at h
  rw [h]; exact eqL_self _

set_option maxHeartbeats 400000 in
theorem eqInt64S_any (A A' : Option Addr) (n n' c c' B B' : Nat) (xs ys : List Int) (w : World) (hl : xs.length = n) (hl' : ys.length = n') (hn : n ≤ 9223372036854775807) (hn' : n' ≤ 9223372036854775807) (h : Row w B A (ints xs)) (h' : Row w B' A' (ints ys)) :
    Calls Try.prog 17 #[.slice A n c, .slice A' n' c'] w fun e w' => e = .returned (.bool (eqL xs ys)) ∧ ∃ m, w' = w.drewN m := by
  have HL := Lib.hid hl
  have HL' := Lib.hid hl'
  clear hl hl'
  by_cases hnn : n = n'
  · subst hnn
    go_enter Try.func17, Try.ntmps17
    go_wp2_with fail
    go_loopw [5] (fun i wr => ∃ k m : Nat, k ≤ n ∧ i = .int .i64 k ∧ wr = w.drewN m ∧ Hid (xs.take k = ys.take k)) (fun i _ => n - (intOf i).toNat)
    case atStart => exact ⟨0, 0, Nat.zero_le _, rfl, rfl, rfl⟩
    case round =>
      obtain ⟨k, m, hk, rfl, rfl, HT⟩ := hrel
      by_cases hlt : k < n
      · obtain ⟨x, hx⟩ := at_lt (show k < xs.length by rw [HL.out]; exact hlt)
        obtain ⟨y, hy⟩ := at_lt (show k < ys.length by rw [HL'.out]; exact hlt)
        obtain ⟨b, o, rfl, _, hc⟩ := h k _ (ints_at hx)
        obtain ⟨b', o', rfl, _, hc'⟩ := h' k _ (ints_at hy)
        by_cases hxy : x = y
        · subst hxy
          have G := Lib.hid (take_same HT.out hx hy)
          clear hx hy HT
          go_wp2_with fail
          go_quiet (fail)
          go_wp2
          go_roundw
          case rel => exact ⟨k + 1, _, by omega, by go_num, rfl, G⟩
          case measure => simp [intOf]; omega
        · have G := Lib.hid (eqL_at hx hy hxy)
          have t := bne_t hxy
          clear hx hy HT hxy
          go_wp2_with fail
          go_quiet (fail)
          go_wp2
          go_ret
          exact ⟨ret_bool G.out.symm, _, World.drewN_drewN ..⟩
      · obtain rfl : k = n := by omega
        have G := Lib.hid (eqL_end HT.out HL.out HL'.out)
        clear HT
        go_wp2
        go_ret
        exact ⟨ret_bool G.out.symm, _, rfl⟩
  · have G := Lib.hid (eqL_len (xs := xs) (ys := ys) (by rw [HL.out, HL'.out]; exact hnn))
    have t := bne_t (show (n : Int) ≠ (n' : Int) by omega)
    clear hnn
    go_enter Try.func17, Try.ntmps17
    go_wp2
    go_ret
    exact ⟨ret_bool G.out.symm, 0, rfl⟩
theorem l01Numbers_any (A : Option Addr) (n c B : Nat) (xs : List Int) (w : World) (hl : xs.length = n) (hn : n ≤ 9223372036854775807) (h : Row w B A (ints xs)) :
    Calls Try.prog 62 #[.slice A n c] w fun e w' => e = .returned (.bool (allNum xs)) ∧ w = w' := by
  have HL := Lib.hid hl
  clear hl
  go_enter Try.func62, Try.ntmps62
  go_wp2_with fail
  go_loop [3] (fun i => ∃ k : Nat, k ≤ n ∧ i = .int .i64 k ∧ Hid (allNum (xs.take k) = true)) (fun i => n - (intOf i).toNat)
  case atStart => exact ⟨0, Nat.zero_le _, rfl, rfl⟩
  case round =>
    obtain ⟨k, hk, rfl, HT⟩ := hrel
    by_cases hlt : k < n
    · obtain ⟨x, hx⟩ := at_lt (show k < xs.length by rw [HL.out]; exact hlt)
      obtain ⟨b, o, rfl, _, hc⟩ := h k _ (ints_at hx)
      cases hnum : isNum x
      · have G := Lib.hid (allNum_no hx hnum)
        clear hx
        go_wp2_with (go_at_call 98; refine (sIsNumber_any _ _).mono ?_; rintro e w' ⟨rfl, rfl⟩)
        go_ret
        exact ⟨ret_bool G.out.symm, rfl⟩
      · have G := Lib.hid (allNum_take hx HT.out hnum)
        clear hx HT
        go_wp2_with (go_at_call 98; refine (sIsNumber_any _ _).mono ?_; rintro e w' ⟨rfl, rfl⟩)
        go_round
        case rel => exact ⟨k + 1, by omega, by go_num, G⟩
        case measure => simp [intOf]; omega
    · have G := Lib.hid HT.out
      clear HT
      go_wp2
      go_ret
      exact ⟨ret_bool (by have := G.out; rw [List.take_of_length_le (by rw [HL.out]; omega)] at this; exact this.symm), rfl⟩

/-- the sum of a list -/
def sumP (xs : List Int) : Int := xs.foldl (fun s x => (s + x) % 10007) 0
theorem sumP_snoc {xs : List Int} {k : Nat} {x : Int} (h : xs[k]? = some x) : sumP (xs.take (k + 1)) = (sumP (xs.take k) + x) % 10007 := by
  unfold sumP; rw [List.take_add_one, h]; simp
theorem sumP_bd (xs : List Int) : 0 ≤ sumP xs ∧ sumP xs < 10007 := by
  rcases List.eq_nil_or_concat xs with rfl | ⟨ys, y, rfl⟩
  · exact ⟨by decide, by decide⟩
  · unfold sumP; simp; omega
def sumA (n : Nat) (xs : List Int) : Int × Int := if n ≤ 64 ∧ allNum xs = true then (sumP xs, 0) else (0, 2)
theorem num_at {xs : List Int} {k : Nat} {x : Int} (h : allNum xs = true) (hx : xs[k]? = some x) : 0 ≤ x ∧ x < 10007 := allNum_iff.1 h x (List.mem_of_getElem? hx)

/-- the sum of the products of two lists, up to an index -/
def dotK (xs ys : List Int) : Nat → Int
  | 0 => 0
  | k+1 => (dotK xs ys k + xs.getD k 0 * ys.getD k 0 % 10007) % 10007
theorem dotK_bd (xs ys : List Int) (k : Nat) : 0 ≤ dotK xs ys k ∧ dotK xs ys k < 10007 := by
  cases k with
  | zero => show (0 : Int) ≤ 0 ∧ (0 : Int) < 10007; omega
  | succ k => unfold dotK; omega
theorem dotK_succ {xs ys : List Int} {k : Nat} {x y : Int} (hx : xs[k]? = some x) (hy : ys[k]? = some y) : dotK xs ys (k + 1) = (dotK xs ys k + x * y % 10007) % 10007 := by
  rw [dotK, List.getD_eq_getElem?_getD, List.getD_eq_getElem?_getD, hx, hy]; rfl
def dotA (n n' : Nat) (xs ys : List Int) : Int × Int := if n ≤ 64 ∧ n = n' ∧ allNum xs = true ∧ allNum ys = true then (dotK xs ys n, 0) else (0, 2)

theorem fill_at' {w wr : World} {T : TypeId} {n k : Nat} {xs : List Int} (h : Filling w T n xs k wr) (hl : xs.length = n) (hk : k < n) : wr.cell? ⟨w.heap.size, k, none⟩ = some (.int .i64 0) := by
  have ho := h.1.cellAt k (by omega)
  rw [fill_at (by rw [ints_length]; exact hl) hk] at ho
  exact ho
theorem numbersOf_any_info : (Try.prog.info? 51).map (fun i => (i.zero, i.size, i.bytes)) = some (some (.int .i64 0), 1, 8) := by kernel_rfl
set_option maxHeartbeats 400000 in
theorem numbersOf_any (A : Option Addr) (n c B : Nat) (xs : List Int) (w : World) (hl : xs.length = n) (hn : n ≤ 1048576) (hB : B ≤ w.heap.size) (h : Row w B A (ints xs)) :
    Calls Try.prog 66 #[.slice A n c] w (NewRow 51 n (ints xs) w) := by
  obtain ⟨i0, hi, hz0, hz1, hz2⟩ := info_parts numbersOf_any_info
  have HL := Lib.hid hl
  clear hl
  go_enter Try.func66, Try.ntmps66
  go_wp2_with (at_make; refine wpList_make_full _ rfl (.tmp 7) (.tmp 7) 58 rfl w.heap.size 51 i0 _ 1 Try.underlying58 hi hz0 hz1 .i64 .i64 _ _ n rfl rfl rfl rfl (by rw [hz2]; omega) (by simp only [maxLen]; omega) (Nat.le_refl _) ?_; intro w1 hown hg)
  have F0 := Filling.start (xs := xs) hown hg
  clear hown hg hz0 hz1 hz2 hi
  go_loopw [11] (fun i wr => ∃ k : Nat, k ≤ n ∧ i = .int .i64 k ∧ Filling w 51 n xs k wr) (fun i _ => n - (intOf i).toNat)
  case atStart => exact ⟨0, Nat.zero_le _, rfl, F0⟩
  case round =>
    obtain ⟨k, hk, rfl, HF⟩ := hrel
    by_cases hlt : k < n
    · obtain ⟨x, hx⟩ := at_lt (show k < xs.length by rw [HL.out]; exact hlt)
      obtain ⟨b, o, rfl, _, hc⟩ := h.below HF.2 hB k _ (ints_at hx)
      have hf := HF.1.frozenAt k
      have ho := fill_at' HF HL.out hlt
      have G := Lib.hid (HF.step HL.out hx)
      clear hx F0 HF
      go_wp2
      go_roundw
      case rel => exact ⟨k + 1, by omega, by go_num, G.out⟩
      case measure => simp [intOf]; omega
    · obtain rfl : k = n := by omega
      have G := Lib.hid (HF.done HL.out)
      clear HF F0
      go_wp2
      go_ret
      exact G.out
theorem integersOf_any_info : (Try.prog.info? 2).map (fun i => (i.zero, i.size, i.bytes)) = some (some (.int .i64 0), 1, 8) := by kernel_rfl
set_option maxHeartbeats 400000 in
theorem integersOf_any (A : Option Addr) (n c B : Nat) (xs : List Int) (w : World) (hl : xs.length = n) (hn : n ≤ 1048576) (hB : B ≤ w.heap.size) (h : Row w B A (ints xs)) :
    Calls Try.prog 103 #[.slice A n c] w (NewRow 2 n (ints xs) w) := by
  obtain ⟨i0, hi, hz0, hz1, hz2⟩ := info_parts integersOf_any_info
  have HL := Lib.hid hl
  clear hl
  go_enter Try.func103, Try.ntmps103
  go_wp2_with (at_make; refine wpList_make_full _ rfl (.tmp 7) (.tmp 7) 23 rfl w.heap.size 2 i0 _ 1 Try.underlying23 hi hz0 hz1 .i64 .i64 _ _ n rfl rfl rfl rfl (by rw [hz2]; omega) (by simp only [maxLen]; omega) (Nat.le_refl _) ?_; intro w1 hown hg)
  have F0 := Filling.start (xs := xs) hown hg
  clear hown hg hz0 hz1 hz2 hi
  go_loopw [11] (fun i wr => ∃ k : Nat, k ≤ n ∧ i = .int .i64 k ∧ Filling w 2 n xs k wr) (fun i _ => n - (intOf i).toNat)
  case atStart => exact ⟨0, Nat.zero_le _, rfl, F0⟩
  case round =>
    obtain ⟨k, hk, rfl, HF⟩ := hrel
    by_cases hlt : k < n
    · obtain ⟨x, hx⟩ := at_lt (show k < xs.length by rw [HL.out]; exact hlt)
      obtain ⟨b, o, rfl, _, hc⟩ := h.below HF.2 hB k _ (ints_at hx)
      have hf := HF.1.frozenAt k
      have ho := fill_at' HF HL.out hlt
      have G := Lib.hid (HF.step HL.out hx)
      clear hx F0 HF
      go_wp2
      go_roundw
      case rel => exact ⟨k + 1, by omega, by go_num, G.out⟩
      case measure => simp [intOf]; omega
    · obtain rfl : k = n := by omega
      have G := Lib.hid (HF.done HL.out)
      clear HF F0
      go_wp2
      go_ret
      exact G.out
end Go.Proofs.Ytnnihdkhblbdgaa
/-
  Lists of lists of numbers in memory that a call has made: ranges of blocks, rows apart from each other, marks.
-/
namespace Go.Proofs.Ytnnihdkhblbdgaa
open Go.RowKit Fld
set_option linter.unusedVariables false
set_option linter.unusedSimpArgs false
set_option maxRecDepth 100000

theorem info_row : (Try.prog.info? 23).map (fun i => (i.zero, i.size, i.bytes)) = some (some (.slice none 0 0), 1, 24) := by kernel_rfl

/-- of what was there only blocks from lo to hi may have turned -/
structure Within (lo hi : Nat) (w w' : World) : Prop where
  os : w'.os = w.os
  tape : w'.tape = w.tape
  output : w'.output = w.output
  size : w.heap.size ≤ w'.heap.size
  block : ∀ k, k < w.heap.size → k < lo ∨ hi ≤ k → w'.heap[k]? = w.heap[k]?
theorem Within.refl (lo hi : Nat) (w : World) : Within lo hi w w := ⟨rfl, rfl, rfl, Nat.le_refl _, fun _ _ _ => rfl⟩
theorem Within.trans {lo hi : Nat} {a b c : World} (h : Within lo hi a b) (k : Within lo hi b c) : Within lo hi a c :=
  ⟨k.os.trans h.os, k.tape.trans h.tape, k.output.trans h.output, Nat.le_trans h.size k.size, fun i hi hr => (k.block i (Nat.lt_of_lt_of_le hi h.size) hr).trans (h.block i hi hr)⟩
theorem Within.grown {lo hi : Nat} {w w' : World} {row : Option Nat} (h : w.grownBy w' row) (hr : ∀ g, row = some g → lo ≤ g ∧ g < hi) : Within lo hi w w' :=
  ⟨h.os, h.tape, h.output, h.size, fun k hk hkr => h.block k hk (fun e => by have := hr k e.symm; omega)⟩
theorem Within.below {lo hi B : Nat} {w w' : World} (h : Within lo hi w w') (hB : B ≤ lo) (hw : B ≤ w.heap.size) : Below B w w' :=
  ⟨h.os, h.tape, h.output, h.size, fun k hk => h.block k (by omega) (.inl (by omega))⟩
theorem Below.then {B lo hi : Nat} {a w w' : World} (h : Below B a w) (k : Within lo hi w w') (hB : B ≤ lo) (hw : B ≤ w.heap.size) : Below B a w' := h.trans (k.below hB hw)

/-- a row of the call's own, in a block from lo to hi -/
def OwnR (w : World) (lo hi : Nat) (T : TypeId) (v : Value) (n : Nat) (vs : List Value) : Prop :=
  w.ownsRow lo T 1 v n vs ∧ ∀ g, v.ownBlock = some g → g < hi
theorem OwnR.of {w : World} {lo : Nat} {T : TypeId} {v : Value} {n : Nat} {vs : List Value} (h : w.ownsRow lo T 1 v n vs) : OwnR w lo w.heap.size T v n vs := ⟨h, fun g hg => (h.lt g hg).2⟩
theorem OwnR.keep {w w' : World} {lo hi : Nat} {T : TypeId} {v : Value} {n : Nat} {vs : List Value} (h : OwnR w lo hi T v n vs) (hk : ∀ g, lo ≤ g → g < hi → w'.heap[g]? = w.heap[g]?) : OwnR w' lo hi T v n vs := by
  refine ⟨⟨h.1.1, ?_⟩, h.2⟩
  rcases h.1.2 with h1 | ⟨g, cap, cur, hv, hb, hg, r⟩
  · exact .inl h1
  · exact .inr ⟨g, cap, cur, hv, hb, by rw [hk g hb (h.2 g (by rw [hv]; rfl))]; exact hg, r⟩
theorem OwnR.below {w w' : World} {lo hi B : Nat} {T : TypeId} {v : Value} {n : Nat} {vs : List Value} (h : OwnR w lo hi T v n vs) (hb : Below B w w') (hB : hi ≤ B) : OwnR w' lo hi T v n vs := h.keep fun g _ hg => hb.block g (by omega)
theorem OwnR.within {w w' : World} {lo hi lo' hi' : Nat} {T : TypeId} {v : Value} {n : Nat} {vs : List Value} (h : OwnR w lo hi T v n vs) (hb : Within lo' hi' w w') (hs : hi ≤ w.heap.size) (hd : hi ≤ lo' ∨ hi' ≤ lo) : OwnR w' lo hi T v n vs :=
  h.keep fun g h1 h2 => hb.block g (by omega) (by omega)
theorem OwnR.more {w : World} {lo hi lo' hi' : Nat} {T : TypeId} {v : Value} {n : Nat} {vs : List Value} (h : OwnR w lo hi T v n vs) (h1 : lo' ≤ lo) (h2 : hi ≤ hi') : OwnR w lo' hi' T v n vs := by
  refine ⟨⟨h.1.1, ?_⟩, fun g hg => by have := h.2 g hg; omega⟩
  rcases h.1.2 with k | ⟨g, cap, cur, hv, hb, r⟩
  · exact .inl k
  · exact .inr ⟨g, cap, cur, hv, by omega, r⟩
theorem OwnR.row {w : World} {lo hi : Nat} {T : TypeId} {A : Option Addr} {n c : Nat} {vs : List Value} (h : OwnR w lo hi T (.slice A n c) n vs) : Row w hi A vs := by
  intro k v hv
  obtain ⟨b, o, e, hb, hc⟩ := row_of_own h.1 k v hv
  refine ⟨b, o, e, h.2 b ?_, hc⟩
  rw [e]; rfl
theorem NewRow.after {w W w' : World} {T : TypeId} {n : Nat} {vs : List Value} {e : Ending} (hb : Below w.heap.size w W) (h : NewRow T n vs W e w') : NewRow T n vs w e w' := by
  obtain ⟨A, c, he, ho, h2⟩ := h
  exact ⟨A, c, he, ((OwnR.of ho).more hb.size (Nat.le_refl _)).1, hb.trans (h2.mono hb.size)⟩
theorem own_cap {w : World} {lo : Nat} {T : TypeId} {A : Option Addr} {n c : Nat} {vs : List Value} (h : w.ownsRow lo T 1 (.slice A n c) n vs) : n ≤ c ∧ c ≤ maxLen := by
  rcases h.2 with ⟨h1, h2⟩ | ⟨g, cap, cur, hv, _, _, h3, h4, _⟩
  · injection h1 with a b d; subst b d; exact ⟨Nat.le_refl _, Nat.zero_le _⟩
  · injection hv with a b d; subst d; exact ⟨h3, h4⟩
/-- rows of different element types lie in different blocks -/
theorem own_types {w : World} {lo lo' : Nat} {T S : TypeId} {u v : Value} {n n' : Nat} {us vs : List Value} (h : w.ownsRow lo T 1 u n us) (h' : w.ownsRow lo' S 1 v n' vs) (hne : T ≠ S) : u.ownBlock = none ∨ u.ownBlock ≠ v.ownBlock := by
  rcases h.2 with ⟨rfl, _⟩ | ⟨g, cap, cur, rfl, _, hg, _⟩
  · exact .inl rfl
  · rcases h'.2 with ⟨rfl, _⟩ | ⟨g', cap', cur', rfl, _, hg', _⟩
    · exact .inr (by simp [Value.ownBlock])
    · refine .inr fun e => ?_
      have e2 : g = g' := by simpa [Value.ownBlock] using e
      subst e2
      rw [hg] at hg'
      injection hg' with hg'
      injection hg' with _ ht
      exact hne ht
theorem OwnR.grown {w w' : World} {lo hi : Nat} {T : TypeId} {v : Value} {n : Nat} {vs : List Value} {row : Option Nat} (h : OwnR w lo hi T v n vs) (hg : w.grownBy w' row) (hne : v.ownBlock = none ∨ v.ownBlock ≠ row) : OwnR w' lo hi T v n vs := ⟨h.1.kept hg hne, h.2⟩

/-- a list of lists of the call's own: its rows lie apart -/
structure OwnMat (w : World) (lo hi : Nat) (v : Value) (n : Nat) (m : List (List Int)) (vs : List Value) : Prop where
  outer : OwnR w lo hi 23 v n vs
  len : vs.length = m.length
  inner : ∀ (r : Nat) (row : List Int), m[r]? = some row → ∃ A c, vs[r]? = some (.slice A row.length c) ∧ OwnR w lo hi 2 (.slice A row.length c) row.length (ints row)
  apart : ∀ (r s : Nat) (u t : Value) (g : Nat), r ≠ s → vs[r]? = some u → vs[s]? = some t → u.ownBlock = some g → t.ownBlock ≠ some g
theorem OwnMat.keep {w w' : World} {lo hi n : Nat} {v : Value} {m : List (List Int)} {vs : List Value} (h : OwnMat w lo hi v n m vs) (hk : ∀ g, lo ≤ g → g < hi → w'.heap[g]? = w.heap[g]?) : OwnMat w' lo hi v n m vs :=
  ⟨h.outer.keep hk, h.len, fun r row hr => by obtain ⟨A, c, h1, h2⟩ := h.inner r row hr; exact ⟨A, c, h1, h2.keep hk⟩, h.apart⟩
theorem OwnMat.below {w w' : World} {lo hi n B : Nat} {v : Value} {m : List (List Int)} {vs : List Value} (h : OwnMat w lo hi v n m vs) (hb : Below B w w') (hB : hi ≤ B) : OwnMat w' lo hi v n m vs := h.keep fun g _ hg => hb.block g (by omega)
theorem OwnMat.within {w w' : World} {lo hi lo' hi' n : Nat} {v : Value} {m : List (List Int)} {vs : List Value} (h : OwnMat w lo hi v n m vs) (hb : Within lo' hi' w w') (hs : hi ≤ w.heap.size) (hd : hi ≤ lo' ∨ hi' ≤ lo) : OwnMat w' lo hi v n m vs :=
  h.keep fun g h1 h2 => hb.block g (by omega) (by omega)
theorem OwnMat.more {w : World} {lo hi lo' hi' n : Nat} {v : Value} {m : List (List Int)} {vs : List Value} (h : OwnMat w lo hi v n m vs) (h1 : lo' ≤ lo) (h2 : hi ≤ hi') : OwnMat w lo' hi' v n m vs :=
  ⟨h.outer.more h1 h2, h.len, fun r row hr => by obtain ⟨A, c, h3, h4⟩ := h.inner r row hr; exact ⟨A, c, h3, h4.more h1 h2⟩, h.apart⟩
theorem OwnMat.mat {w : World} {lo hi n c : Nat} {A : Option Addr} {m : List (List Int)} {vs : List Value} (h : OwnMat w lo hi (.slice A n c) n m vs) : Mat w hi A m := by
  intro k r hr
  obtain ⟨Ak, ck, h1, h2⟩ := h.inner k r hr
  obtain ⟨b, o, e, hb, hc⟩ := h.outer.row k _ h1
  have := own_cap h2.1
  exact ⟨b, o, Ak, ck, e, hb, hc, this.1, this.2, h2.row⟩
theorem OwnMat.drewN {w : World} {lo hi n : Nat} {v : Value} {m : List (List Int)} {vs : List Value} (h : OwnMat w lo hi v n m vs) (k : Nat) : OwnMat (w.drewN k) lo hi v n m vs := h.keep fun _ _ _ => rfl
theorem Mat.drewN {w : World} {B : Nat} {A : Option Addr} {m : List (List Int)} (h : Mat w B A m) (k : Nat) : Mat (w.drewN k) B A m := h
theorem OwnMat.size {w : World} {lo hi n : Nat} {v : Value} {m : List (List Int)} {vs : List Value} (h : OwnMat w lo hi v n m vs) : m.length = n := by
  have := own_len h.outer.1; have := h.len; omega
/-- one row of it is written anew, in its place -/
theorem OwnMat.set_row {w w' : World} {lo hi n r q c : Nat} {v : Value} {A : Option Addr} {m : List (List Int)} {vs : List Value} {row' : List Int} (h : OwnMat w lo hi v n m vs) (hr : vs[r]? = some (.slice A q c)) (hq : row'.length = q)
    (h1 : w'.ownsRow lo 2 1 (.slice A q c) q (ints row')) (hg : w.grownBy w' (Value.ownBlock (.slice A q c))) : OwnMat w' lo hi v n (m.set r row') vs := by
  have hrl : r < m.length := by
    rcases Nat.lt_or_ge r m.length with g | g
    · exact g
    · rw [List.getElem?_eq_none (by rw [h.len]; exact g)] at hr; cases hr
  obtain ⟨A0, c0, e0, o0⟩ := h.inner r _ (List.getElem?_eq_getElem hrl)
  rw [hr] at e0
  injection e0 with e0
  injection e0 with eA eq ec
  subst eA ec
  have hot : w.ownsRow lo 2 1 (.slice A q c) q (ints m[r]) := by rw [eq]; exact o0.1
  refine ⟨h.outer.grown hg ?_, by rw [List.length_set]; exact h.len, ?_, h.apart⟩
  · exact own_types h.outer.1 hot (by decide)
  · intro s row hs
    by_cases hsr : r = s
    · subst hsr
      rw [List.getElem?_set_self (by exact hrl)] at hs
      injection hs with hs
      subst hs
      refine ⟨A, c, by rw [hq]; exact hr, ⟨by rw [hq]; exact h1, ?_⟩⟩
      rw [hq, eq]; exact o0.2
    · rw [List.getElem?_set_ne hsr] at hs
      obtain ⟨A2, c2, e2, o2⟩ := h.inner s row hs
      refine ⟨A2, c2, e2, o2.grown hg ?_⟩
      cases hb : Value.ownBlock (.slice A2 row.length c2) with
      | none => exact .inl rfl
      | some g => exact .inr (fun e => h.apart s r _ _ g (Ne.symm hsr) e2 hr hb e.symm)

/-! marks -/
def marks (k : Int) (n : Nat) : List Int := (List.range n).map fun i : Nat => k + (i : Int)
theorem marks_length (k : Int) (n : Nat) : (marks k n).length = n := by simp [marks]
theorem marks_at (k : Int) {n i : Nat} (h : i < n) : (marks k n)[i]? = some (k + (i : Int)) := by simp [marks, h]
theorem mark_step {α : Type} {vs us : List α} {k : Nat} {u : α} (hk : k < vs.length) (hl : us.length = vs.length) (hu : us[k]? = some u) : (us.take k ++ vs.drop k).set k u = us.take (k + 1) ++ vs.drop (k + 1) := by
  have e1 : (us.take k).length = k := by simp; omega
  rw [List.set_append, if_neg (by omega), e1, Nat.sub_self, List.take_add_one, hu, List.drop_eq_getElem_cons hk, List.set_cons_zero]
  simp
def total (m : List (List Int)) : Nat := (m.map List.length).sum
def marksM : Int → List (List Int) → List (List Int)
  | _, [] => []
  | k, row :: rest => marks k row.length :: marksM (k + row.length) rest
theorem total_take {m : List (List Int)} {r : Nat} {row : List Int} (h : m[r]? = some row) : total (m.take (r + 1)) = total (m.take r) + row.length := by
  unfold total; rw [List.take_add_one, h]; simp
theorem total_le (m : List (List Int)) (r : Nat) : total (m.take r) ≤ total m := by
  have : total m = total (m.take r) + total (m.drop r) := by
    unfold total; rw [← List.sum_append, ← List.map_append, List.take_append_drop]
  omega
theorem marksM_at : ∀ (m : List (List Int)) (k : Int) (r : Nat) (row : List Int), m[r]? = some row → (marksM k m)[r]? = some (marks (k + (total (m.take r) : Nat)) row.length)
  | [], _, _, _, h => by simp at h
  | x :: rest, k, 0, row, h => by
    simp only [List.getElem?_cons_zero, Option.some.injEq] at h
    subst h
    simp [marksM, total]
  | x :: rest, k, r+1, row, h => by
    simp only [List.getElem?_cons_succ] at h
    have := marksM_at rest (k + x.length) r row h
    simp only [marksM, List.getElem?_cons_succ, this]
    congr 2
    simp [total]; omega
theorem marksM_length (k : Int) (m : List (List Int)) : (marksM k m).length = m.length := by
  induction m generalizing k with
  | nil => rfl
  | cons x r ih => simp [marksM, ih]
theorem markM_step {m : List (List Int)} {us : List (List Int)} {r : Nat} {u : List Int} (hr : r < m.length) (hl : us.length = m.length) (hu : us[r]? = some u) : (us.take r ++ m.drop r).set r u = us.take (r + 1) ++ m.drop (r + 1) := by
  have e1 : (us.take r).length = r := by simp; omega
  rw [List.set_append, if_neg (by omega), e1, Nat.sub_self, List.take_add_one, hu, List.drop_eq_getElem_cons hr, List.set_cons_zero]
  simp
end Go.Proofs.Ytnnihdkhblbdgaa
/-
  Marks that the laws write into a list of the call's own, and their reading.
-/
namespace Go.Proofs.Ytnnihdkhblbdgaa
open Go.RowKit Fld
set_option linter.unusedVariables false
set_option linter.unusedSimpArgs false
set_option maxRecDepth 100000

def Marked (lo n c : Nat) (A : Option Addr) (k : Int) (w : World) (e : Ending) (w' : World) : Prop :=
  e = .returned (.int .i64 (k + (n : Int))) ∧ w'.ownsRow lo 2 1 (.slice A n c) n (ints (marks k n)) ∧ w.grownBy w' (Value.ownBlock (.slice A n c))
def Marking (lo n c : Nat) (A : Option Addr) (k : Int) (xs : List Int) (j : Nat) (w wr : World) : Prop :=
  wr.ownsRow lo 2 1 (.slice A n c) n (ints ((marks k n).take j ++ xs.drop j)) ∧ w.grownBy wr (Value.ownBlock (.slice A n c))
theorem grownBy_trans {a b c : World} {row : Option Nat} (h : a.grownBy b row) (k : b.grownBy c row) : a.grownBy c row :=
  ⟨k.os.trans h.os, k.tape.trans h.tape, k.output.trans h.output, Nat.le_trans h.size k.size, fun i hi hne => (k.block i (Nat.lt_of_lt_of_le hi h.size) hne).trans (h.block i hi hne)⟩
theorem own_form {w : World} {lo : Nat} {T : TypeId} {v : Value} {n : Nat} {vs : List Value} (h : w.ownsRow lo T 1 v n vs) (hn : 0 < n) : ∃ g cap, v = .slice (some ⟨g, 0, none⟩) n cap := by
  rcases h.2 with ⟨_, h0⟩ | ⟨g, cap, cur, hv, _⟩
  · omega
  · exact ⟨g, cap, hv⟩
theorem Marking.step {lo n c g j : Nat} {k : Int} {xs : List Int} {w wr : World} (h : Marking lo n c (some ⟨g, 0, none⟩) k xs j w wr) (hl : xs.length = n) (hj : j < n) : Marking lo n c (some ⟨g, 0, none⟩) k xs (j + 1) w (wr.setCell ⟨g, j, none⟩ (.int .i64 (k + (j : Int)))) := by
  obtain ⟨h1, h2⟩ := h
  have h3 := h1.stored j (.int .i64 (k + (j : Int)))
  refine ⟨?_, grownBy_trans h2 h3.2⟩
  have e : (ints ((marks k n).take j ++ xs.drop j)).set j (.int .i64 (k + (j : Int))) = ints ((marks k n).take (j + 1) ++ xs.drop (j + 1)) := by
    rw [← mark_step (vs := xs) (us := marks k n) (k := j) (by omega) (by rw [marks_length]; omega) (marks_at k hj)]
    unfold ints intsK; rw [List.map_set]
  rw [e] at h3
  exact h3.1
theorem Marking.done {lo n c : Nat} {A : Option Addr} {k : Int} {xs : List Int} {w wr : World} (h : Marking lo n c A k xs n w wr) (hl : xs.length = n) : Marked lo n c A k w (.returned (.int .i64 (k + (n : Int)))) wr := by
  obtain ⟨h1, h2⟩ := h
  rw [List.take_of_length_le (by rw [marks_length]; omega), List.drop_eq_nil_of_le (by omega), List.append_nil] at h1
  exact ⟨rfl, h1, h2⟩
set_option maxHeartbeats 400000 in
theorem markInt64S_any (A : Option Addr) (n c lo : Nat) (xs : List Int) (k : Int) (w : World) (hl : xs.length = n) (hn : n ≤ 1099511627776) (k0 : 0 ≤ k) (k1 : k ≤ 1099511627776) (h : w.ownsRow lo 2 1 (.slice A n c) n (ints xs)) :
    Calls Try.prog 19 #[.slice A n c, .int .i64 k] w (Marked lo n c A k w) := by
  have HL := Lib.hid hl
  clear hl
  have F0 : Hid (Marking lo n c A k xs 0 w w) := ⟨by simpa using h, World.grownBy.refl _ _⟩
  clear h
  go_enter Try.func19, Try.ntmps19
  go_wp2_with fail
  go_loopw [1, 5] (fun kk i wr => ∃ j : Nat, j ≤ n ∧ kk = .int .i64 (k + (j : Int)) ∧ i = .int .i64 j ∧ Marking lo n c A k xs j w wr) (fun _ i _ => n - (intOf i).toNat)
  case atStart => exact ⟨0, Nat.zero_le _, by simp, rfl, F0.out⟩
  case round =>
    obtain ⟨j, hj, rfl, rfl, HF⟩ := hrel
    by_cases hlt : j < n
    · obtain ⟨g, cap, hv⟩ := own_form HF.1 (by omega)
      injection hv with hA _ hcap
      subst hA hcap
      have hf := HF.1.frozenAt j
      have ho := HF.1.cellAt j (by omega)
      have hlen : j < (ints ((marks k n).take j ++ xs.drop j)).length := by rw [own_len HF.1]; exact hlt
      rw [List.getElem?_eq_getElem hlen] at ho
      generalize (ints ((marks k n).take j ++ xs.drop j))[j] = old at *
      have G := Lib.hid (HF.step HL.out hlt)
      clear HF F0 hlen
      go_wp2
      go_roundw
      case rel => exact ⟨j + 1, by omega, by go_num, by go_num, G.out⟩
      case measure => simp [intOf]; omega
    · obtain rfl : j = n := by omega
      have G := Lib.hid (HF.done HL.out)
      clear HF F0
      go_wp2
      go_ret
      exact G.out
theorem heldInt64S_any (A : Option Addr) (n c B : Nat) (k : Int) (w : World) (hn : n ≤ 1099511627776) (k0 : 0 ≤ k) (k1 : k ≤ 1099511627776) (h : Row w B A (ints (marks k n))) :
    Calls Try.prog 20 #[.slice A n c, .int .i64 k] w fun e w' => e = .returned (.int .i64 (k + (n : Int))) ∧ w = w' := by
  go_enter Try.func20, Try.ntmps20
  go_wp2_with fail
  go_loop [1, 5] (fun kk i => ∃ j : Nat, j ≤ n ∧ kk = .int .i64 (k + (j : Int)) ∧ i = .int .i64 j) (fun _ i => n - (intOf i).toNat)
  case atStart => exact ⟨0, Nat.zero_le _, by simp, rfl⟩
  case round =>
    obtain ⟨j, hj, rfl, rfl⟩ := hrel
    by_cases hlt : j < n
    · obtain ⟨b, o, rfl, _, hc⟩ := h j _ (ints_at (marks_at k hlt))
      go_wp2
      go_round
      case rel => exact ⟨j + 1, by omega, by go_num, by go_num⟩
      case measure => simp [intOf]; omega
    · obtain rfl : j = n := by omega
      go_wp2
      go_ret
      exact ⟨rfl, rfl⟩
end Go.Proofs.Ytnnihdkhblbdgaa
/-
  A list beside a code, as a function of this program hands it back.
-/
namespace Go.Proofs.Ytnnihdkhblbdgaa
open Go.RowKit Fld
set_option linter.unusedVariables false
set_option linter.unusedSimpArgs false
set_option maxRecDepth 100000

theorem OwnR.drewN {w : World} {lo hi : Nat} {T : TypeId} {v : Value} {n : Nat} {vs : List Value} (h : OwnR w lo hi T v n vs) (k : Nat) : OwnR (w.drewN k) lo hi T v n vs := h.keep fun _ _ _ => rfl
/-- a list that the call owns, beside a code -/
def ResL (r : List Int × Int) (w : World) (e : Ending) (w' : World) : Prop :=
  r.1.length ≤ 1048576 ∧ ∃ A c, e = .returned (.tuple #[.slice A r.1.length c, .int .i64 r.2]) ∧ w'.ownsRow w.heap.size 2 1 (.slice A r.1.length c) r.1.length (ints r.1) ∧ Below w.heap.size w w'
theorem ResL.nil {r : List Int × Int} {w w' : World} {k : Int} (h : r = ([], k)) (hb : Below w.heap.size w w') : ResL r w (.returned (.tuple #[.slice none 0 0, .int .i64 k])) w' := by
  subst h
  exact ⟨Nat.zero_le _, none, 0, rfl, World.ownsRow_nil .., hb⟩
theorem ResL.of {r : List Int × Int} {w w' : World} {A : Option Addr} {n c : Nat} {xs : List Int} {k : Int} (h : r = (xs, k)) (hl : xs.length = n) (hn : n ≤ 1048576)
    (ho : w'.ownsRow w.heap.size 2 1 (.slice A n c) n (ints xs)) (hb : Below w.heap.size w w') : ResL r w (.returned (.tuple #[.slice A n c, .int .i64 k])) w' := by
  subst h; subst hl
  exact ⟨hn, A, c, rfl, ho, hb⟩
/-- a number beside a code -/
def ResI (r : Int × Int) (w : World) (e : Ending) (w' : World) : Prop :=
  e = .returned (.tuple #[.int .i64 r.1, .int .i64 r.2]) ∧ Below w.heap.size w w'
/-- a test -/
def ResB (b : Bool) (w : World) (e : Ending) (w' : World) : Prop := e = .returned (.bool b) ∧ Below w.heap.size w w'
end Go.Proofs.Ytnnihdkhblbdgaa
/-
  Level lists: what the tests answer, the program's and the model's.
-/
namespace Go.Proofs.Ytnnihdkhblbdgaa
open Go.RowKit Fld
set_option linter.unusedVariables false
set_option linter.unusedSimpArgs false
set_option maxRecDepth 100000

theorem below_undrew' {w w' : World} {a : Nat} (h : Below (w.drewN a).heap.size (w.drewN a) w') : Below w.heap.size w w' := ⟨h.os, h.tape, h.output, h.size, h.block⟩
theorem lv_at {t : List Int} {k : Nat} {x : Int} (h : t[k]? = some x) : t.getD k 0 = x := by rw [List.getD_eq_getElem?_getD, h]; rfl
/-- the steps up to a place are those of a level list -/
def StepsTo (t : List Int) (k : Nat) : Prop := ∀ i, i < k → 1 ≤ i → 1 ≤ t.getD i 0 ∧ t.getD i 0 ≤ t.getD (i - 1) 0 + 1
theorem StepsTo.one (t : List Int) : StepsTo t 1 := fun i h1 h2 => by omega
theorem StepsTo.step {t : List Int} {k : Nat} {x y : Int} (h : StepsTo t k) (hx : t.getD k 0 = x) (hy : t.getD (k - 1) 0 = y) (h1 : 1 ≤ x) (h2 : x ≤ y + 1) : StepsTo t (k + 1) := fun i hi h3 => by
  by_cases e : i = k
  · subst e; rw [hx, hy]; exact ⟨h1, h2⟩
  · exact h i (by omega) h3
theorem StepsTo.lv {t : List Int} {n : Nat} (h : StepsTo t n) (hl : t.length = n) (h1 : 1 ≤ n) (h8 : n ≤ 8) (h0 : t.getD 0 0 = 0) : Tr.isLv t = true :=
  Tr.isLv_iff.2 ⟨by omega, by omega, h0, fun i hi h2 => h i (by omega) h2⟩
theorem StepsTo.le {t : List Int} {n : Nat} (h : StepsTo t n) (h0 : t.getD 0 0 = 0) : ∀ k, k < n → t.getD k 0 ≤ (k : Int)
  | 0, _ => by rw [h0]; exact Int.le_refl _
  | k+1, hk => by
    have h1 := StepsTo.le h h0 k (by omega)
    have h2 := (h (k + 1) hk (by omega)).2
    rw [Nat.add_sub_cancel] at h2
    omega
theorem lv_no_len {t : List Int} (h : t.length = 0 ∨ 8 < t.length) : Tr.isLv t = false := by
  apply Bool.eq_false_iff.2
  intro e
  obtain ⟨h0, h1, _⟩ := Tr.isLv_iff.1 e
  omega
theorem lv_no_head {t : List Int} (h : t.getD 0 0 ≠ 0) : Tr.isLv t = false := by
  apply Bool.eq_false_iff.2
  intro e
  exact h (Tr.isLv_iff.1 e).2.2.1
theorem lv_no_at {t : List Int} {k : Nat} {x y : Int} (hx : t.getD k 0 = x) (hy : t.getD (k - 1) 0 = y) (hk : k < t.length) (h1 : 1 ≤ k) (h : x < 1 ∨ y + 1 < x) : Tr.isLv t = false := by
  apply Bool.eq_false_iff.2
  intro e
  have := (Tr.isLv_iff.1 e).2.2.2 k hk h1
  rw [hx, hy] at this
  omega
theorem lv_no_big {t : List Int} {k : Nat} {y : Int} (hy : t.getD k 0 = y) (hk : k < t.length) (h : 8 < y) : Tr.isLv t = false := by
  apply Bool.eq_false_iff.2
  intro e
  have h1 := Tr.isLv_iff.1 e
  have h2 : StepsTo t t.length := h1.2.2.2
  have := h2.le h1.2.2.1 k hk
  have := h1.2.1
  omega
theorem StepsTo.bd {t : List Int} {n k : Nat} {y : Int} (h : StepsTo t n) (h0 : t.getD 0 0 = 0) (hk : k < n) (hy : t.getD k 0 = y) : 0 ≤ y ∧ y ≤ (k : Int) := by
  have h1 := h.le h0 k hk
  rw [hy] at h1
  refine ⟨?_, h1⟩
  rcases Nat.eq_zero_or_pos k with e | e
  · rw [e, h0] at hy; omega
  · have := (h k hk e).1; rw [hy] at this; omega
end Go.Proofs.Ytnnihdkhblbdgaa
/-
  A list of the call's own that grows by append.
-/
namespace Go.Proofs.Ytnnihdkhblbdgaa
open Go.RowKit Fld
set_option linter.unusedVariables false
set_option linter.unusedSimpArgs false
set_option maxRecDepth 100000

theorem grow_ints {xs : List Int} {j : Nat} {x : Int} (h : xs[j]? = some x) : ints (xs.take j) ++ [.int .i64 x] = ints (xs.take (j + 1)) := by
  rw [List.take_add_one, h]; simp [ints, intsK]
/-- a list of the call's own that grows -/
def Growing (w : World) (T : TypeId) (g j cap : Nat) (vs : List Value) (wr : World) : Prop := wr.ownsRow w.heap.size T 1 (.slice (some ⟨g, 0, none⟩) j cap) j vs ∧ Below w.heap.size w wr
theorem Growing.start (w : World) (T : TypeId) : Growing w T w.heap.size 0 0 [] (w.alloc (.cells #[] T)) :=
  ⟨World.ownsRow_lit w #[] 0 (Nat.le_refl _) (Nat.zero_le _) rfl, (Below.refl _ _).alloc (Nat.le_refl _) _⟩
theorem Growing.step {w wr w1 w2 : World} {T : TypeId} {g j cap g2 cap2 : Nat} {vs us : List Value} (h : Growing w T g j cap vs wr) (hb : Below wr.heap.size wr w1) (h2 : w2.ownsRow w.heap.size T 1 (.slice (some ⟨g2, 0, none⟩) (j + 1) cap2) (j + 1) us)
    (hg : w1.grownBy w2 (Value.ownBlock (.slice (some ⟨g, 0, none⟩) j cap))) : Growing w T g2 (j + 1) cap2 us w2 :=
  ⟨h2, (h.2.trans (hb.mono h.2.size)).grown hg (Nat.le_trans h.2.size hb.size) (fun k hk => (h.1.lt k hk).1)⟩
theorem Growing.done {w wr : World} {T : TypeId} {g n cap : Nat} {vs : List Value} (h : Growing w T g n cap vs wr) : NewRow T n vs w (.returned (.slice (some ⟨g, 0, none⟩) n cap)) wr := ⟨_, _, rfl, h.1, h.2⟩
end Go.Proofs.Ytnnihdkhblbdgaa
/-
  The model's copy of a list.
-/
namespace Go.Proofs.Ytnnihdkhblbdgaa
open Go.RowKit Fld
set_option linter.unusedVariables false
set_option linter.unusedSimpArgs false
set_option maxRecDepth 100000

theorem Row.news {w : World} {B : Nat} {ad : Addr} {vs : List Value} (h : Row w B (some ad) vs) : ∀ j u, vs[j]? = some u → w.cell? (ad.add j) = some u := by
  intro j u hu
  obtain ⟨b, o, e, _, hc⟩ := h j u hu
  cases e
  have : (⟨b, o, none⟩ : Addr).add j = ⟨b, o + j, none⟩ := by unfold Addr.add; split <;> simp_all
  rw [this]; exact hc
theorem NewRow.own {w w' : World} {T : TypeId} {v : Value} {n : Nat} {vs : List Value} (h : w'.ownsRow w.heap.size T 1 v n vs) (hb : Below w.heap.size w w') : NewRow T n vs w (.returned v) w' := by
  rcases h.2 with ⟨rfl, rfl⟩ | ⟨g, cap, cur, rfl, _⟩
  · exact ⟨_, _, rfl, h, hb⟩
  · exact ⟨_, _, rfl, h, hb⟩
theorem l01Own_any (ad : Addr) (n c B : Nat) (xs : List Int) (w : World) (hl : xs.length = n) (hn : n ≤ 1048576) (hB : B ≤ w.heap.size) (h : Row w B (some ad) (ints xs)) :
    Calls Try.prog 106 #[.slice (some ad) n c] w (NewRow 2 n (ints xs) w) := by
  obtain ⟨i0, hi, hz0, hz1, hz2⟩ := info_parts info_i64
  have hnews := (h.alloc hB (.cells #[] 2)).news
  have hlen : (ints xs).length = n * 1 := by rw [ints_length, hl, Nat.mul_one]
  have h1 := ints_cells xs
  have hown0 := (Growing.start w 2).1
  have hbel0 := (Growing.start w 2).2
  go_enter Try.func106, Try.ntmps106
  go_wp2_with (at_builtin; refine wpList_append_own _ rfl (.tmp 3) (.tmp 4) 23 rfl w.heap.size 2 i0 _ 1 8 Try.underlying23 hi hz0 hz1 hz2 rfl (by omega) (.slice (some ⟨w.heap.size, 0, none⟩) 0 0) 0 [] rfl hown0 ad n c (ints xs) rfl hlen hnews h1 (by simp only [maxLen]; omega) (by omega) (by simp) ?_; intro v' w' hown hgrow _)
  go_ret
  rw [Nat.zero_add] at hown
  exact NewRow.own hown (hbel0.grown hgrow (by simp) (fun k hk => (hown0.lt k hk).1))
end Go.Proofs.Ytnnihdkhblbdgaa
/-
  The next lower list of a tree, in place.
-/
namespace Go.Proofs.Ytnnihdkhblbdgaa
open Go.RowKit Fld
set_option linter.unusedVariables false
set_option linter.unusedSimpArgs false
set_option maxRecDepth 100000

theorem last_le (t : List Int) : ∀ k, Tr.lastF t k ≤ k
  | 0 => Nat.le_refl _
  | k+1 => by rw [Tr.lastF]; split; · have := last_le t k; omega
              · exact Nat.le_refl _
theorem par_le (t : List Int) (x : Int) : ∀ k, Tr.parF t x k ≤ k
  | 0 => Nat.le_refl _
  | k+1 => by rw [Tr.parF]; split; · have := par_le t x k; omega
              · exact Nat.le_refl _
/-- what lower leaves -/
def Lowered (base g n cap : Nat) (t : List Int) (w : World) (e : Ending) (w' : World) : Prop :=
  (Tr.lowerL t = none ∧ e = .returned (.bool false) ∧ w = w') ∨ (∃ u, Tr.lowerL t = some u ∧ e = .returned (.bool true) ∧ w'.ownsRow base 2 1 (.slice (some ⟨g, 0, none⟩) n cap) n (ints u) ∧ w.grownBy w' (some g))
theorem cpy_step {d f i : Nat} {t : List Int} {x : Int} (hx : t[i - d]? = some x) : Tr.cpyF d (f + 1) i t = Tr.cpyF d f (i + 1) (t.set i x) := by
  rw [Tr.cpyF, lv_at hx]
def Cpd (base g n cap : Nat) (w : World) (T : List Int) (wr : World) : Prop := wr.ownsRow base 2 1 (.slice (some ⟨g, 0, none⟩) n cap) n (ints T) ∧ w.grownBy wr (some g)
theorem Cpd.step {base g n cap i : Nat} {w wr : World} {T : List Int} {x : Int} (h : Cpd base g n cap w T wr) : Cpd base g n cap w (T.set i x) (wr.setCell ⟨g, i, none⟩ (.int .i64 x)) := by
  obtain ⟨h1, h2⟩ := h.1.stored i (.int .i64 x)
  have e : (ints T).set i (.int .i64 x) = ints (T.set i x) := by unfold ints intsK; rw [List.map_set]
  rw [e] at h1
  exact ⟨h1, grownBy_trans h.2 h2⟩
theorem Cpd.start {base g n cap : Nat} {w : World} {t : List Int} (h : w.ownsRow base 2 1 (.slice (some ⟨g, 0, none⟩) n cap) n (ints t)) (M : Nat) : Cpd base g n cap (w.drewN M) t (w.drewN M) := ⟨h, World.grownBy.refl _ _⟩
set_option maxHeartbeats 1000000 in
theorem lower_any (base g n cap : Nat) (t : List Int) (w : World) (hl : t.length = n) (hlv : Tr.isLv t = true) (h : w.ownsRow base 2 1 (.slice (some ⟨g, 0, none⟩) n cap) n (ints t)) :
    Calls Try.prog 116 #[.slice (some ⟨g, 0, none⟩) n cap] w fun e w' => ∃ m, Lowered base g n cap t (w.drewN m) e w' := by
  have h3 := Tr.isLv_iff.1 hlv
  have n1 : 1 ≤ n := by have := h3.1; omega
  have n8 : n ≤ 8 := by have := h3.2.1; omega
  have HST : Hid (StepsTo t n) := by rw [Hid, ← hl]; exact h3.2.2.2
  have HZ : Hid (t.getD 0 0 = 0) := h3.2.2.1
  have HL := Lib.hid hl
  have HO := Lib.hid h
  have HLAST : Hid (Tr.lastF t (t.length - 1) = Tr.lastF t (n - 1)) := by rw [Hid, hl]
  clear hl hlv h3 h
  go_enter Try.func116, Try.ntmps116
  go_wp2_with fail
  go_loop [3] (fun l => ∃ k : Nat, k < n ∧ l = .int .i64 k ∧ Hid (Tr.lastF t (n - 1) = Tr.lastF t k)) (fun l => (intOf l).toNat)
  case atStart => exact ⟨n - 1, by omega, by go_num, rfl⟩
  case round =>
    obtain ⟨k, hk, rfl, HK⟩ := hrel
    obtain ⟨x, hx⟩ := at_lt (show k < t.length by rw [HL.out]; exact hk)
    have hcx := HO.out.cellAt k (by omega)
    rw [ints_at hx] at hcx
    have HX := Lib.hid hx
    rcases Nat.eq_zero_or_pos k with k0 | k0
    · subst k0
      have G : Hid (Tr.lowerL t = none) := by
        rw [Hid, Tr.lowerL]
        simp only [HLAST.out, HK.out]
        rfl
      clear hx HK
      go_wp2
      go_ret
      exact ⟨0, .inl ⟨G.out, rfl, rfl⟩⟩
    · obtain ⟨j, rfl⟩ : ∃ j, k = j + 1 := ⟨k - 1, by omega⟩
      by_cases hx1 : x = 1
      · have G : Hid (Tr.lastF t (n - 1) = Tr.lastF t j) := by
          rw [Hid, HK.out, Tr.lastF, lv_at hx, if_pos hx1]
        subst hx1
        clear hx HK
        go_wp2
        go_round
        case rel => exact ⟨j, by omega, by go_num, G⟩
        case measure => simp [intOf]
      · have tx := beq_f hx1
        have HLL : Hid (Tr.lastF t (n - 1) = j + 1) := by
          rw [Hid, HK.out, Tr.lastF, lv_at hx, if_neg hx1]
        have hxp : 1 ≤ x := by have := (HST.out (j + 1) hk (by omega)).1; rw [lv_at hx] at this; exact this
        clear hx HK
        have tz : ((j : Int) + 1 == 0) = false := beq_f (by omega)
        go_wp2_with fail
        go_loopw [4] (fun pp wr => ∃ p m : Nat, p ≤ j ∧ pp = .int .i64 p ∧ wr = w.drewN m ∧ Hid (Tr.parF t x j = Tr.parF t x p)) (fun pp _ => (intOf pp).toNat)
        case atStart => exact ⟨j, 0, Nat.le_refl _, by go_num, rfl, rfl⟩
        case round =>
          obtain ⟨p, m, hp, rfl, rfl, HP⟩ := hrel
          obtain ⟨y, hy⟩ := at_lt (show p < t.length by rw [HL.out]; omega)
          have hcy := HO.out.cellAt p (by omega)
          rw [ints_at hy] at hcy
          have hcx' : (w.drewN m).cell? ⟨g, j + 1, none⟩ = some (.int .i64 x) := hcx
          have hcy' : (w.drewN m).cell? ⟨g, p, none⟩ = some (.int .i64 y) := hcy
          by_cases hxy : x ≤ y
          · have hd : decide (x ≤ y) = true := decide_eq_true hxy
            obtain ⟨q, rfl⟩ : ∃ q, p = q + 1 := ⟨p - 1, by
              rcases Nat.eq_zero_or_pos p with e | e
              · subst e; have h9 := HZ.out; rw [lv_at hy] at h9; omega
              · omega⟩
            have G : Hid (Tr.parF t x j = Tr.parF t x q) := by
              rw [Hid, HP.out, Tr.parF, lv_at hy, if_pos hxy]
            clear hy HP
            go_wp2_with fail
            go_quiet (fail)
            go_wp2
            go_roundw
            case rel => exact ⟨q, _, by omega, by go_num, rfl, G⟩
            case measure => simp [intOf]
          · have hd : decide (x ≤ y) = false := decide_eq_false hxy
            have HPP : Hid (Tr.parF t x j = p) := by
              rw [Hid, HP.out]
              match p, hy with
              | 0, _ => rfl
              | q+1, hy => rw [Tr.parF, lv_at hy, if_neg hxy]
            have HLO : Hid (Tr.lowerL t = some (Tr.cpyF (j + 1 - p) (n - (j + 1)) (j + 1) t)) := by
              rw [Hid, Tr.lowerL]
              simp only [HL.out, HLL.out, lv_at HX.out, Nat.add_sub_cancel, HPP.out]
              rfl
            clear hy HP HLL
            go_wp2_with fail
            go_quiet (fail)
            go_wp2_with fail
            go_loopw [5] (fun ii wr => ∃ (e : Nat) (T : List Int), j + 1 + e ≤ n ∧ ii = .int .i64 ((j + 1 + e : Nat) : Int) ∧ Hid (Tr.cpyF (j + 1 - p) (n - (j + 1)) (j + 1) t = Tr.cpyF (j + 1 - p) (n - (j + 1 + e)) (j + 1 + e) T) ∧ Hid (T.length = n) ∧ ∃ M, Cpd base g n cap (w.drewN M) T wr) (fun ii _ => n - (intOf ii).toNat)
            case atStart => exact ⟨0, t, by omega, by go_num, rfl, HL.out, _, by rw [World.drewN_drewN]; exact Cpd.start HO.out _⟩
            case round =>
              obtain ⟨e, T, he, rfl, HC, HT, M, HD⟩ := hrel
              by_cases hlt : j + 1 + e < n
              · have hep : e + p < j + 1 + e := by omega
                obtain ⟨z, hz⟩ := at_lt (show e + p < T.length by rw [HT.out]; omega)
                have hcz := HD.1.cellAt (e + p) (by omega)
                rw [ints_at hz] at hcz
                obtain ⟨old, hold⟩ := at_lt (show j + 1 + e < T.length by rw [HT.out]; exact hlt)
                have hco := HD.1.cellAt (j + 1 + e) (by omega)
                rw [ints_at hold] at hco
                have hfo := HD.1.frozenAt (j + 1 + e)
                have HC2 : Hid (Tr.cpyF (j + 1 - p) (n - (j + 1)) (j + 1) t = Tr.cpyF (j + 1 - p) (n - (j + 1 + (e + 1))) (j + 1 + (e + 1)) (T.set (j + 1 + e) z)) := by
                  rw [Hid, HC.out, show n - (j + 1 + e) = n - (j + 1 + (e + 1)) + 1 from by omega, cpy_step (x := z) (by rw [show j + 1 + e - (j + 1 - p) = e + p from by omega]; exact hz)]
                  rfl
                have HT2 : Hid ((T.set (j + 1 + e) z).length = n) := by rw [Hid, List.length_set]; exact HT.out
                have G := Lib.hid (HD.step (i := j + 1 + e) (x := z))
                have ew1 : ((j + 1 + e : Nat) : Int) - ((j : Int) + 1) = (e : Int) := by omega
                clear hz hold HD HC
                go_wp2
                go_roundw
                case rel => exact ⟨e + 1, T.set (j + 1 + e) z, by omega, by go_num, HC2, HT2, M, G.out⟩
                case measure => simp [intOf]; omega
              · have hne : n = j + 1 + e := by omega
                have G : Hid (∃ m, Lowered base g n cap t (w.drewN m) (.returned (.bool true)) wr) := by
                  have hc := HC.out
                  rw [show n - (j + 1 + e) = 0 from by omega, Tr.cpyF] at hc
                  exact ⟨M, .inr ⟨T, by rw [HLO.out, hc], rfl, HD.1, HD.2⟩⟩
                clear HD HC
                go_wp2
                go_ret
                exact G.out
end Go.Proofs.Ytnnihdkhblbdgaa
/-
  Copies, comparisons, marks and sizes of lists of lists of numbers, as the laws call them.
-/
namespace Go.Proofs.Ytnnihdkhblbdgaa
open Go.RowKit Fld
set_option linter.unusedVariables false
set_option linter.unusedSimpArgs false
set_option maxRecDepth 100000

/-- a new row is laid into a place of the outer row -/
theorem OwnMat.put_row {w : World} {lo hi hi' n k q c g cap : Nat} {A : Option Addr} {m : List (List Int)} {vs : List Value} {row : List Int} (h : OwnMat w lo hi (.slice (some ⟨g, 0, none⟩) n cap) n m vs) (hk : k < m.length) (hq : row.length = q)
    (ho : OwnR w hi hi' 2 (.slice A q c) q (ints row)) (hl : lo ≤ hi) (hh : hi ≤ hi') : OwnMat (w.setCell ⟨g, k, none⟩ (.slice A q c)) lo hi' (.slice (some ⟨g, 0, none⟩) n cap) n (m.set k row) (vs.set k (.slice A q c)) := by
  have hs := h.outer.1.stored k (.slice A q c)
  have hg2 : ∀ g', Value.ownBlock (.slice A q c) = some g' → hi ≤ g' := fun g' e => (ho.1.lt g' e).1
  refine ⟨⟨hs.1, fun g' e => by have := h.outer.2 g' e; omega⟩, by rw [List.length_set, List.length_set]; exact h.len, ?_, ?_⟩
  · intro s r hr
    by_cases hsk : k = s
    · subst hsk
      rw [List.getElem?_set_self hk] at hr
      injection hr with hr
      subst hr
      subst hq
      refine ⟨A, c, by rw [List.getElem?_set_self (by rw [h.len]; exact hk)], ?_⟩
      exact (ho.more hl (Nat.le_refl _)).grown hs.2 ((own_types ho.1 h.outer.1 (by decide)).imp id (fun e => e))
    · rw [List.getElem?_set_ne hsk] at hr
      obtain ⟨A2, c2, e2, o2⟩ := h.inner s r hr
      exact ⟨A2, c2, by rw [List.getElem?_set_ne hsk]; exact e2, (o2.more (Nat.le_refl _) hh).grown hs.2 ((own_types o2.1 h.outer.1 (by decide)).imp id (fun e => e))⟩
  · intro r s u t g' hne hu ht hb hb'
    by_cases hrk : k = r
    · subst hrk
      have hks : k ≠ s := hne
      rw [List.getElem?_set_self (by rw [h.len]; exact hk)] at hu
      rw [List.getElem?_set_ne hks] at ht
      injection hu with hu
      subst hu
      have h1 := hg2 g' hb
      have hsl : s < m.length := by
        rcases Nat.lt_or_ge s m.length with x | x
        · exact x
        · rw [List.getElem?_eq_none (by rw [h.len]; exact x)] at ht; cases ht
      obtain ⟨A2, c2, e2, o2⟩ := h.inner s _ (List.getElem?_eq_getElem hsl)
      rw [ht] at e2
      injection e2 with e2
      subst e2
      have := o2.2 g' hb'
      omega
    · rw [List.getElem?_set_ne hrk] at hu
      by_cases hsk : k = s
      · subst hsk
        rw [List.getElem?_set_self (by rw [h.len]; exact hk)] at ht
        injection ht with ht
        subst ht
        have h1 := hg2 g' hb'
        have hrl : r < m.length := by
          rcases Nat.lt_or_ge r m.length with x | x
          · exact x
          · rw [List.getElem?_eq_none (by rw [h.len]; exact x)] at hu; cases hu
        obtain ⟨A2, c2, e2, o2⟩ := h.inner r _ (List.getElem?_eq_getElem hrl)
        rw [hu] at e2
        injection e2 with e2
        subst e2
        have := o2.2 g' hb
        omega
      · rw [List.getElem?_set_ne hsk] at ht
        exact h.apart r s u t g' hne hu ht hb hb'
/-- an outer row of empty rows -/
theorem OwnMat.blank {w w1 : World} {n : Nat} (h : w1.ownsRow w.heap.size 23 1 (.slice (some ⟨w.heap.size, 0, none⟩) n n) n (madeCells (Value.slice none 0 0).cells (n * 1)).toList) (hz : w.heap.size < w1.heap.size) :
    OwnMat w1 w.heap.size w1.heap.size (.slice (some ⟨w.heap.size, 0, none⟩) n n) n (List.replicate n []) (List.replicate n (.slice none 0 0)) := by
  have e : (madeCells (Value.slice none 0 0).cells (n * 1)).toList = List.replicate n (.slice none 0 0) := by rw [Nat.mul_one]; exact toList_madeCells_one _ _
  rw [e] at h
  refine ⟨⟨h, fun g hg => by have : w.heap.size = g := (by simpa [Value.ownBlock] using hg); omega⟩, by simp, ?_, ?_⟩
  · intro r row hr
    rw [List.getElem?_replicate] at hr
    split at hr
    · rename_i hlt
      injection hr with hr
      subst hr
      exact ⟨none, 0, by rw [List.getElem?_replicate, if_pos hlt]; rfl, World.ownsRow_nil _ _ _ _, fun g hg => by simp [Value.ownBlock] at hg⟩
    · cases hr
  · intro r s u t g hne hu ht hb
    rw [List.getElem?_replicate] at hu
    split at hu
    · injection hu with hu; subst hu; simp [Value.ownBlock] at hb
    · cases hu
/-- a new list of lists -/
def NewMat (n : Nat) (m : List (List Int)) (w : World) (e : Ending) (w' : World) : Prop :=
  ∃ A c vs, e = .returned (.slice A n c) ∧ OwnMat w' w.heap.size w'.heap.size (.slice A n c) n m vs ∧ Below w.heap.size w w'
/-- the rows up to k are filled -/
def FillM (w : World) (n : Nat) (m : List (List Int)) (k : Nat) (wr : World) : Prop :=
  ∃ vs, OwnMat wr w.heap.size wr.heap.size (.slice (some ⟨w.heap.size, 0, none⟩) n n) n (m.take k ++ List.replicate (n - k) []) vs ∧ Below w.heap.size w wr ∧ w.heap.size < wr.heap.size
theorem fillM_step {m : List (List Int)} {n k : Nat} {r : List Int} (hl : m.length = n) (h : m[k]? = some r) : (m.take k ++ List.replicate (n - k) []).set k r = m.take (k + 1) ++ List.replicate (n - (k + 1)) [] := by
  have hk : k < n := by
    rcases Nat.lt_or_ge k n with g | g
    · exact g
    · rw [List.getElem?_eq_none (by omega)] at h; cases h
  have e1 : (m.take k).length = k := by simp; omega
  rw [List.set_append, if_neg (by omega), e1, Nat.sub_self, show n - k = (n - (k + 1)) + 1 from by omega, List.replicate_succ, List.set_cons_zero, List.take_add_one, h]
  simp
theorem FillM.step {w wr w2 : World} {n k c : Nat} {A : Option Addr} {m : List (List Int)} {row : List Int} (h : FillM w n m k wr) (hl : m.length = n) (hr : m[k]? = some row)
    (ho : w2.ownsRow wr.heap.size 2 1 (.slice A row.length c) row.length (ints row)) (hb : Below wr.heap.size wr w2) : FillM w n m (k + 1) (w2.setCell ⟨w.heap.size, k, none⟩ (.slice A row.length c)) := by
  obtain ⟨vs, h1, h2, h3⟩ := h
  have hk : k < n := by
    rcases Nat.lt_or_ge k n with g | g
    · exact g
    · rw [List.getElem?_eq_none (by omega)] at hr; cases hr
  have hlen : (m.take k ++ List.replicate (n - k) []).length = n := by simp; omega
  have h4 := (h1.below hb (Nat.le_refl _)).put_row (k := k) (by omega) rfl (OwnR.of ho) (by omega) hb.size
  rw [fillM_step hl hr] at h4
  have hsz : (w2.setCell ⟨w.heap.size, k, none⟩ (.slice A row.length c)).heap.size = w2.heap.size := by simp [World.setCell]
  exact ⟨_, by rw [hsz]; exact h4, below_set (h2.trans (hb.mono (by omega))) (Nat.le_refl _) _, by rw [hsz]; have := hb.size; omega⟩
theorem FillM.done {w wr : World} {n : Nat} {m : List (List Int)} (h : FillM w n m n wr) (hl : m.length = n) : NewMat n m w (.returned (.slice (some ⟨w.heap.size, 0, none⟩) n n)) wr := by
  obtain ⟨vs, h1, h2, _⟩ := h
  rw [Nat.sub_self, List.take_of_length_le (by omega)] at h1
  simp only [List.replicate_zero, List.append_nil] at h1
  exact ⟨_, _, vs, rfl, h1, h2⟩
theorem FillM.start {w w1 : World} {n : Nat} {m : List (List Int)} (h : w1.ownsRow w.heap.size 23 1 (.slice (some ⟨w.heap.size, 0, none⟩) n n) n (madeCells (Value.slice none 0 0).cells (n * 1)).toList) (hg : w.grownBy w1 none) : FillM w n m 0 w1 := by
  have hz : w.heap.size < w1.heap.size := (h.lt w.heap.size rfl).2
  refine ⟨List.replicate n (.slice none 0 0), ?_, (Below.refl _ _).grown hg (Nat.le_refl _) (fun k hk => by cases hk), hz⟩
  simp only [List.take_zero, List.nil_append, Nat.sub_zero]
  exact OwnMat.blank h hz
theorem FillM.cell {w wr w2 : World} {n k : Nat} {m : List (List Int)} (h : FillM w n m k wr) (hl : m.length = n) (hk : k < n) (hb : Below wr.heap.size wr w2) :
    (∃ u, w2.cell? ⟨w.heap.size, k, none⟩ = some u) ∧ w2.frozen? ⟨w.heap.size, k, none⟩ = false := by
  obtain ⟨vs, h1, _, h3⟩ := h
  have h2 := (h1.below hb (Nat.le_refl _)).outer.1
  refine ⟨?_, h2.frozenAt k⟩
  have e := h2.cellAt k (by omega)
  have hv : k < vs.length := by rw [own_len h2]; exact hk
  rw [List.getElem?_eq_getElem hv] at e
  exact ⟨_, e⟩

set_option maxHeartbeats 400000 in
theorem toInt64SS_any (A : Option Addr) (n c B : Nat) (m : List (List Int)) (w : World) (hl : m.length = n) (hn : n ≤ 1048576) (ht : total m ≤ 1048576) (hB : B ≤ w.heap.size) (h : Mat w B A m) :
    Calls Try.prog 39 #[.slice A n c] w (NewMat n m w) := by
  obtain ⟨i0, hi, hz0, hz1, hz2⟩ := info_parts info_row
  have HL := Lib.hid hl
  clear hl
  go_enter Try.func39, Try.ntmps39
  go_wp2_with (at_make; refine wpList_make_full _ rfl (.tmp 6) (.tmp 6) 22 rfl w.heap.size 23 i0 _ 1 Try.underlying22 hi hz0 hz1 .i64 .i64 _ _ n rfl rfl rfl rfl (by rw [hz2]; omega) (by simp only [maxLen]; omega) (Nat.le_refl _) ?_; intro w1 hown hg)
  have F0 := FillM.start (m := m) hown hg
  clear hown hg hz0 hz1 hz2 hi
  go_loopw [4] (fun i wr => ∃ k : Nat, k ≤ n ∧ i = .int .i64 k ∧ FillM w n m k wr) (fun i _ => n - (intOf i).toNat)
  case atStart => exact ⟨0, Nat.zero_le _, rfl, F0⟩
  case round =>
    obtain ⟨k, hk, rfl, HF⟩ := hrel
    by_cases hlt : k < n
    · obtain ⟨r, hr⟩ := at_lt (show k < m.length by rw [HL.out]; exact hlt)
      obtain ⟨vs, hvs, hbel, hsz⟩ := id HF
      obtain ⟨b, o, Ak, ck, rfl, _, hc, hlc, hcm, hrow⟩ := h.below hbel hB k r hr
      have hrl : r.length ≤ 1048576 := by
        have h1 := total_take hr
        have h2 := total_le m (k + 1)
        omega
      have HF' := Lib.hid HF
      have HR := Lib.hid hr
      have hBs := hbel.size
      clear hr F0 HF hvs hbel
      go_wp2_with fail
      refine (toInt64S_any Ak r.length ck B r _ rfl hrl (by omega) hrow).mono ?_
      rintro e w2 ⟨A2, c2, rfl, own2, be2⟩
      obtain ⟨⟨u, hu⟩, hf⟩ := HF'.out.cell HL.out hlt be2
      have G := Lib.hid (HF'.out.step HL.out HR.out own2 be2)
      clear own2
      go_wp2
      go_roundw
      case rel => exact ⟨k + 1, by omega, by go_num, G.out⟩
      case measure => simp [intOf]; omega
    · obtain rfl : k = n := by omega
      have G := Lib.hid (HF.done HL.out)
      clear HF F0
      go_wp2
      go_ret
      exact G.out

/-! comparisons -/
def eqM (m m' : List (List Int)) : Bool := decide (m = m')
theorem eqM_self (m : List (List Int)) : eqM m m = true := by simp [eqM]
theorem eqM_len {m m' : List (List Int)} (h : m.length ≠ m'.length) : eqM m m' = false := by
  unfold eqM; exact decide_eq_false (fun e => h (by rw [e]))
theorem eqM_at {m m' : List (List Int)} {k : Nat} {x y : List Int} (hx : m[k]? = some x) (hy : m'[k]? = some y) (h : eqL x y = false) : eqM m m' = false := by
  unfold eqM; refine decide_eq_false (fun e => ?_)
  rw [e, hy] at hx
  injection hx with hx
  rw [hx, eqL_self] at h
  cases h
theorem takeM_same {m m' : List (List Int)} {k : Nat} {x y : List Int} (h : m.take k = m'.take k) (hx : m[k]? = some x) (hy : m'[k]? = some y) (he : eqL x y = true) : m.take (k + 1) = m'.take (k + 1) := by
  have e : x = y := by simpa [eqL] using he
  rw [List.take_add_one, List.take_add_one, h, hx, hy, e]
theorem eqM_end {m m' : List (List Int)} {n : Nat} (h : m.take n = m'.take n) (hx : m.length = n) (hy : m'.length = n) : eqM m m' = true := by
  rw [List.take_of_length_le (by omega), List.take_of_length_le (by omega)] at h
  rw [h]; exact eqM_self _
theorem quiet_any {P : Program} {f : FuncId} {args : Array Value} {w : World} {a n : Nat} {v : Value} (h : Calls P f args (w.drewN (a + n)) fun e w' => e = .returned v ∧ ∃ m, w' = (w.drewN (a + n)).drewN m) : Calls P f args (w.drewN (a + n)) fun e w'' => e = .returned v ∧ ∃ m, w'' = w.drewN (a + m) :=
  h.mono fun _ _ ⟨he, m, hm⟩ => ⟨he, n + m, by rw [hm, World.drewN_drewN, Nat.add_assoc]⟩
set_option maxHeartbeats 400000 in
theorem eqInt64SS_any (A A' : Option Addr) (n n' c c' B B' : Nat) (m m' : List (List Int)) (w : World) (hl : m.length = n) (hl' : m'.length = n') (hn : n ≤ 9223372036854775807) (hn' : n' ≤ 9223372036854775807) (h : Mat w B A m) (h' : Mat w B' A' m') :
    Calls Try.prog 30 #[.slice A n c, .slice A' n' c'] w fun e w' => e = .returned (.bool (eqM m m')) ∧ ∃ j, w' = w.drewN j := by
  have HL := Lib.hid hl
  have HL' := Lib.hid hl'
  clear hl hl'
  by_cases hnn : n = n'
  · subst hnn
    go_enter Try.func30, Try.ntmps30
    go_wp2_with fail
    go_loopw [5] (fun i wr => ∃ k j : Nat, k ≤ n ∧ i = .int .i64 k ∧ wr = w.drewN j ∧ Hid (m.take k = m'.take k)) (fun i _ => n - (intOf i).toNat)
    case atStart => exact ⟨0, 0, Nat.zero_le _, rfl, rfl, rfl⟩
    case round =>
      obtain ⟨k, j, hk, rfl, rfl, HT⟩ := hrel
      by_cases hlt : k < n
      · obtain ⟨x, hx⟩ := at_lt (show k < m.length by rw [HL.out]; exact hlt)
        obtain ⟨y, hy⟩ := at_lt (show k < m'.length by rw [HL'.out]; exact hlt)
        obtain ⟨b, o, Ak, ck, rfl, _, hc, hlc, hcm, hrow⟩ := h k x hx
        obtain ⟨b', o', Ak', ck', rfl, _, hc', hlc', hcm', hrow'⟩ := h' k y hy
        unfold maxLen at hcm hcm'
        cases he : eqL x y
        · have G := Lib.hid (eqM_at hx hy he)
          clear hx hy HT
          go_wp2_with fail
          go_quiet ((go_at_call 17; first | exact Calls.quiet_of (eqInt64S_any _ _ x.length y.length _ _ _ _ x y _ rfl rfl (by omega) (by omega) hrow hrow') | exact quiet_any (eqInt64S_any _ _ x.length y.length _ _ _ _ x y _ rfl rfl (by omega) (by omega) hrow hrow')))
          go_wp2
          go_ret
          exact ⟨ret_bool G.out.symm, _, World.drewN_drewN ..⟩
        · have G := Lib.hid (takeM_same HT.out hx hy he)
          clear hx hy HT
          go_wp2_with fail
          go_quiet ((go_at_call 17; first | exact Calls.quiet_of (eqInt64S_any _ _ x.length y.length _ _ _ _ x y _ rfl rfl (by omega) (by omega) hrow hrow') | exact quiet_any (eqInt64S_any _ _ x.length y.length _ _ _ _ x y _ rfl rfl (by omega) (by omega) hrow hrow')))
          go_wp2
          go_roundw
          case rel => exact ⟨k + 1, _, by omega, by go_num, rfl, G⟩
          case measure => simp [intOf]; omega
      · obtain rfl : k = n := by omega
        have G := Lib.hid (eqM_end HT.out HL.out HL'.out)
        clear HT
        go_wp2
        go_ret
        exact ⟨ret_bool G.out.symm, _, rfl⟩
  · have G := Lib.hid (eqM_len (m := m) (m' := m') (by rw [HL.out, HL'.out]; exact hnn))
    have t := bne_t (show (n : Int) ≠ (n' : Int) by omega)
    clear hnn
    go_enter Try.func30, Try.ntmps30
    go_wp2
    go_ret
    exact ⟨ret_bool G.out.symm, 0, rfl⟩

/-! sizes -/
def szR (left : Int) (used : Nat) : Int := if (used : Int) ≤ left then left - used else -1
theorem szInt64S_any (A : Option Addr) (n c : Nat) (left : Int) (w : World) (h0 : -1 ≤ left) (h1 : left ≤ 1048576) (hn : n ≤ 9223372036854775807) : Calls Try.prog 36 #[.slice A n c, .int .i64 left] w fun e w' => e = .returned (.int .i64 (szR left n)) ∧ w = w' := by
  by_cases h : (n : Int) ≤ left
  · have H := Lib.hid (show szR left n = left - n from if_pos h)
    go_enter Try.func36, Try.ntmps36
    go_wp2
    go_ret
    exact ⟨ret_i64 H.out.symm, rfl⟩
  · have H := Lib.hid (show szR left n = -1 from if_neg h)
    go_enter Try.func36, Try.ntmps36
    go_wp2
    go_ret
    exact ⟨ret_i64 H.out.symm, rfl⟩
theorem szR_neg {left : Int} {used : Nat} (h : left < used) : szR left used = -1 := if_neg (by omega)
theorem szR_pos {left : Int} {used : Nat} (h : (used : Int) ≤ left) : szR left used = left - used := if_pos h
theorem szR_bd (left : Int) (used : Nat) (h : -1 ≤ left) : -1 ≤ szR left used := by unfold szR; split <;> omega
set_option maxHeartbeats 400000 in
theorem szInt64SS_any (A : Option Addr) (n c B : Nat) (m : List (List Int)) (left : Int) (w : World) (hl : m.length = n) (hn : n ≤ 9223372036854775807) (h : Mat w B A m) (h0 : -1 ≤ left) (h1 : left ≤ 1048576) :
    Calls Try.prog 35 #[.slice A n c, .int .i64 left] w fun e w' => e = .returned (.int .i64 (szR left (n + total m))) ∧ w = w' := by
  have HL := Lib.hid hl
  clear hl
  by_cases hlt0 : left < n
  · have H := Lib.hid (szR_neg (left := left) (used := n + total m) (by omega))
    go_enter Try.func35, Try.ntmps35
    go_wp2
    go_ret
    exact ⟨ret_i64 H.out.symm, rfl⟩
  · go_enter Try.func35, Try.ntmps35
    go_wp2_with fail
    go_loop [1, 5] (fun l i => ∃ k : Nat, k ≤ n ∧ 0 ≤ left - n - (total (m.take k) : Nat) ∧ l = .int .i64 (left - n - (total (m.take k) : Nat)) ∧ i = .int .i64 k) (fun _ i => n - (intOf i).toNat)
    case atStart => exact ⟨0, Nat.zero_le _, by simp [total]; omega, by simp [total], rfl⟩
    case round =>
      obtain ⟨k, hk, hpos, rfl, rfl⟩ := hrel
      by_cases hlt : k < n
      · obtain ⟨r, hr⟩ := at_lt (show k < m.length by rw [HL.out]; exact hlt)
        obtain ⟨b, o, Ak, ck, rfl, _, hc, hlc, hcm, hrow⟩ := h k r hr
        unfold maxLen at hcm
        have ht := total_take hr
        have hle := total_le m (k + 1)
        clear hr
        by_cases hfit : (r.length : Int) ≤ left - n - (total (m.take k) : Nat)
        · have G := Lib.hid (szR_pos hfit)
          have hs : left - n - (total (m.take k) : Nat) - r.length = left - n - (total (m.take (k + 1)) : Nat) := by omega
          have HS := Lib.hid hs
          have hp2 : 0 ≤ left - n - (total (m.take (k + 1)) : Nat) := by omega
          clear ht hs
          go_wp2_with fail
          refine (szInt64S_any Ak r.length ck _ _ (by omega) (by omega) (by omega)).mono ?_
          rintro e w' ⟨rfl, rfl⟩
          rw [G.out, HS.out]
          go_wp2
          go_round
          case rel => exact ⟨k + 1, by omega, hp2, rfl, by go_num⟩
          case measure => simp [intOf]; omega
        · have G := Lib.hid (szR_neg (left := left - n - (total (m.take k) : Nat)) (used := r.length) (by omega))
          have H := Lib.hid (szR_neg (left := left) (used := n + total m) (by omega))
          clear ht
          go_wp2_with fail
          refine (szInt64S_any Ak r.length ck _ _ (by omega) (by omega) (by omega)).mono ?_
          rintro e w' ⟨rfl, rfl⟩
          rw [G.out]
          go_wp2
          go_ret
          exact ⟨ret_i64 H.out.symm, rfl⟩
      · obtain rfl : k = n := by omega
        have e : total (m.take k) = total m := by rw [List.take_of_length_le (by rw [HL.out]; omega)]
        have H := Lib.hid (szR_pos (left := left) (used := k + total m) (by omega))
        have HE := Lib.hid e
        clear e
        go_wp2
        go_ret
        exact ⟨ret_i64 (by rw [H.out, HE.out]; omega), rfl⟩
end Go.Proofs.Ytnnihdkhblbdgaa
/-
  Matrices: what is one, columns, products, the program's and the model's alike.
-/
namespace Go.Proofs.Ytnnihdkhblbdgaa
open Go.RowKit Fld
set_option linter.unusedVariables false
set_option linter.unusedSimpArgs false
set_option maxRecDepth 100000

def colAt (m : List (List Int)) (k : Nat) : List Int := m.map fun r => r.getD k 0
theorem colAt_at {m : List (List Int)} {k j : Nat} {r : List Int} {x : Int} (h : m[j]? = some r) (hx : r[k]? = some x) : (colAt m k)[j]? = some x := by
  unfold colAt; rw [List.getElem?_map, h]; simp [hx]
theorem colAt_length (m : List (List Int)) (k : Nat) : (colAt m k).length = m.length := by simp [colAt]
/-- all rows have q numbers -/
def Wide (m : List (List Int)) (q : Nat) : Prop := ∀ r ∈ m, r.length = q
theorem Wide.at_ {m : List (List Int)} {q j : Nat} {r : List Int} (h : Wide m q) (hr : m[j]? = some r) : r.length = q := h r (List.mem_of_getElem? hr)
/-! what is a matrix -/
def okRows (q : Nat) (m : List (List Int)) : Bool := m.all fun r => decide (r.length = q) && allNum r
def isMatB (m : List (List Int)) : Bool := decide (1 ≤ m.length ∧ m.length ≤ 8 ∧ 1 ≤ (m.getD 0 []).length ∧ (m.getD 0 []).length ≤ 8) && okRows (m.getD 0 []).length m
def matCode (m : List (List Int)) : Int := if isMatB m = true then 0 else 1
theorem matCode_yes {m : List (List Int)} (h : isMatB m = true) : matCode m = 0 := if_pos h
theorem matCode_no {m : List (List Int)} (h : isMatB m = false) : matCode m = 1 := if_neg (by rw [h]; simp)
theorem isMatB_len {m : List (List Int)} (h : m.length = 0 ∨ 8 < m.length) : isMatB m = false := by
  unfold isMatB; rw [decide_eq_false (by omega)]; rfl
theorem getD_of {m : List (List Int)} {k : Nat} {r : List Int} (h : m[k]? = some r) : m.getD k [] = r := by rw [List.getD_eq_getElem?_getD, h]; rfl
theorem isMatB_row {m : List (List Int)} {r : List Int} (hr : m[0]? = some r) (h : r.length = 0 ∨ 8 < r.length) : isMatB m = false := by
  unfold isMatB; rw [getD_of hr, decide_eq_false (by omega)]; rfl
theorem isMatB_bad {m : List (List Int)} {r0 r : List Int} {k : Nat} (h0 : m[0]? = some r0) (hr : m[k]? = some r) (h : r.length ≠ r0.length ∨ allNum r = false) : isMatB m = false := by
  unfold isMatB
  rw [getD_of h0]
  have : okRows r0.length m = false := by
    unfold okRows
    rw [List.all_eq_false]
    refine ⟨r, List.mem_of_getElem? hr, ?_⟩
    rcases h with h | h
    · simp [h]
    · simp [h]
  rw [this, Bool.and_false]
theorem okRows_step {m : List (List Int)} {q k : Nat} {r : List Int} (hr : m[k]? = some r) (hq : r.length = q) (hn : allNum r = true) (h : okRows q (m.take k) = true) : okRows q (m.take (k + 1)) = true := by
  rw [List.take_add_one, hr]
  unfold okRows at *
  simp [h, hq, hn]
theorem isMatB_yes {m : List (List Int)} {r0 : List Int} {n : Nat} (h0 : m[0]? = some r0) (hl : m.length = n) (h1 : 1 ≤ n) (h8 : n ≤ 8) (hq1 : 1 ≤ r0.length) (hq8 : r0.length ≤ 8) (h : okRows r0.length (m.take n) = true) : isMatB m = true := by
  unfold isMatB
  rw [getD_of h0, decide_eq_true (by omega)]
  rw [List.take_of_length_le (by omega)] at h
  rw [h]; rfl
theorem isMatB_parts {m : List (List Int)} (h : isMatB m = true) : 1 ≤ m.length ∧ m.length ≤ 8 ∧ 1 ≤ (m.getD 0 []).length ∧ (m.getD 0 []).length ≤ 8 ∧ Wide m (m.getD 0 []).length ∧ ∀ r ∈ m, allNum r = true := by
  unfold isMatB at h
  rw [Bool.and_eq_true] at h
  obtain ⟨h1, h2⟩ := h
  have h3 := of_decide_eq_true h1
  unfold okRows at h2
  rw [List.all_eq_true] at h2
  refine ⟨h3.1, h3.2.1, h3.2.2.1, h3.2.2.2, fun r hr => ?_, fun r hr => ?_⟩
  · have := h2 r hr; simp at this; exact this.1
  · have := h2 r hr; simp at this; exact this.2

end Go.Proofs.Ytnnihdkhblbdgaa
/-
  Lists of lists of the call's own that grow by append.
-/
namespace Go.Proofs.Ytnnihdkhblbdgaa
open Go.RowKit Fld
set_option linter.unusedVariables false
set_option linter.unusedSimpArgs false
set_option maxRecDepth 100000

/-- a row is added behind the last one -/
theorem OwnMat.push {w w2 : World} {lo hi n q c g cap : Nat} {v : Value} {A : Option Addr} {m : List (List Int)} {vs : List Value} {row : List Int} {o : Obj} (h : OwnMat w lo hi v n m vs) (hs : hi ≤ w.heap.size) (hq : row.length = q) (ho : w.ownsRow hi 2 1 (.slice A q c) q (ints row)) (hl : lo ≤ hi)
    (h2 : w2.ownsRow lo 23 1 (.slice (some ⟨g, 0, none⟩) (n + 1) cap) (n + 1) (vs ++ [.slice A q c])) (hg : (w.alloc o).grownBy w2 v.ownBlock) : OwnMat w2 lo w2.heap.size (.slice (some ⟨g, 0, none⟩) (n + 1) cap) (n + 1) (m ++ [row]) (vs ++ [.slice A q c]) := by
  subst hq
  have hz : w.heap.size + 1 ≤ w2.heap.size := by have := hg.size; simpa using this
  have hal : Below w.heap.size w (w.alloc o) := (Below.refl _ _).alloc (Nat.le_refl _) _
  have hnew : OwnR w hi w.heap.size 2 (.slice A row.length c) row.length (ints row) := OwnR.of ho
  have hcarry : ∀ (lo' hi' : Nat) (A2 : Option Addr) (c2 : Nat) (r2 : List Int), hi' ≤ w.heap.size → OwnR w lo' hi' 2 (.slice A2 r2.length c2) r2.length (ints r2) → OwnR w2 lo' hi' 2 (.slice A2 r2.length c2) r2.length (ints r2) := by
    intro lo' hi' A2 c2 r2 hhi o2
    exact (o2.below hal hhi).grown hg (own_types o2.1 h.outer.1 (by decide))
  refine ⟨OwnR.of h2, by simp [h.len], ?_, ?_⟩
  · intro r row2 hr
    rcases Nat.lt_or_ge r m.length with x | x
    · rw [List.getElem?_append_left x] at hr
      obtain ⟨A2, c2, e2, o2⟩ := h.inner r row2 hr
      refine ⟨A2, c2, by rw [List.getElem?_append_left (by rw [h.len]; exact x)]; exact e2, ?_⟩
      exact (hcarry lo hi A2 c2 row2 hs o2).more (Nat.le_refl _) (by omega)
    · rw [List.getElem?_append_right x] at hr
      have hx : r - m.length = 0 := by
        rcases Nat.eq_zero_or_pos (r - m.length) with y | y
        · exact y
        · rw [List.getElem?_eq_none (by simp; omega)] at hr; cases hr
      rw [hx] at hr
      simp only [List.getElem?_cons_zero, Option.some.injEq] at hr
      subst hr
      refine ⟨A, c, by rw [List.getElem?_append_right (by rw [h.len]; exact x), h.len, hx]; rfl, ?_⟩
      exact (hcarry hi w.heap.size A c row (Nat.le_refl _) hnew).more hl (by omega)
  · intro r s u t g' hne hu ht hb hb'
    have side : ∀ (r : Nat) (u : Value), (vs ++ [Value.slice A row.length c])[r]? = some u → u.ownBlock = some g' → (r < vs.length ∧ vs[r]? = some u ∧ g' < hi) ∨ (r = vs.length ∧ hi ≤ g') := by
      intro r u hu hb
      rcases Nat.lt_or_ge r vs.length with x | x
      · rw [List.getElem?_append_left x] at hu
        obtain ⟨A2, c2, e2, o2⟩ := h.inner r _ (List.getElem?_eq_getElem (by rw [← h.len]; exact x))
        rw [hu] at e2
        injection e2 with e2
        subst e2
        exact .inl ⟨x, hu, o2.2 g' hb⟩
      · rw [List.getElem?_append_right x] at hu
        have hx : r - vs.length = 0 := by
          rcases Nat.eq_zero_or_pos (r - vs.length) with y | y
          · exact y
          · rw [List.getElem?_eq_none (by simp; omega)] at hu; cases hu
        rw [hx] at hu
        simp only [List.getElem?_cons_zero, Option.some.injEq] at hu
        subst hu
        exact .inr ⟨by omega, (ho.lt g' hb).1⟩
    rcases side r u hu hb with ⟨h1, h3, h4⟩ | ⟨h1, h4⟩ <;> rcases side s t ht hb' with ⟨k1, k3, k4⟩ | ⟨k1, k4⟩
    · exact h.apart r s u t g' hne h3 k3 hb hb'
    · omega
    · omega
    · omega
theorem OwnMat.empty (w : World) : OwnMat (w.alloc (.cells #[] 23)) w.heap.size (w.heap.size + 1) (.slice (some ⟨w.heap.size, 0, none⟩) 0 0) 0 [] [] := by
  refine ⟨⟨World.ownsRow_lit w #[] 0 (Nat.le_refl _) (Nat.zero_le _) rfl, fun g hg => by have : w.heap.size = g := (by simpa [Value.ownBlock] using hg); omega⟩, rfl, fun r row hr => by simp at hr, fun r s u t g _ hu => by simp at hu⟩
/-- a list of lists that grows -/
def GrowM (w : World) (g n cap : Nat) (m : List (List Int)) (wr : World) : Prop := ∃ vs, OwnMat wr w.heap.size wr.heap.size (.slice (some ⟨g, 0, none⟩) n cap) n m vs ∧ Below w.heap.size w wr
theorem GrowM.start (w : World) : GrowM w w.heap.size 0 0 [] (w.alloc (.cells #[] 23)) :=
  ⟨[], by have := OwnMat.empty w; simpa using this, (Below.refl _ _).alloc (Nat.le_refl _) _⟩
theorem GrowM.done {w wr : World} {g n cap : Nat} {m : List (List Int)} (h : GrowM w g n cap m wr) : NewMat n m w (.returned (.slice (some ⟨g, 0, none⟩) n cap)) wr := by
  obtain ⟨vs, h1, h2⟩ := h
  exact ⟨_, _, vs, rfl, h1, h2⟩

end Go.Proofs.Ytnnihdkhblbdgaa
/-
  Marks that the laws write into lists of the call's own, and their reading.
-/
namespace Go.Proofs.Ytnnihdkhblbdgaa
open Go.RowKit Fld
set_option linter.unusedVariables false
set_option linter.unusedSimpArgs false
set_option maxRecDepth 100000

def MarkedM (lo hi n : Nat) (v : Value) (k : Int) (m : List (List Int)) (vs : List Value) (w : World) (e : Ending) (w' : World) : Prop :=
  e = .returned (.int .i64 (k + (total m : Nat))) ∧ OwnMat w' lo hi v n (marksM k m) vs ∧ Within lo hi w w'
def MarkingM (lo hi n : Nat) (v : Value) (k : Int) (m : List (List Int)) (vs : List Value) (r : Nat) (w wr : World) : Prop :=
  OwnMat wr lo hi v n ((marksM k m).take r ++ m.drop r) vs ∧ Within lo hi w wr
theorem MarkingM.step {lo hi n r c : Nat} {v : Value} {A : Option Addr} {k : Int} {m : List (List Int)} {vs : List Value} {row : List Int} {w wr w2 : World} {e : Ending} (h : MarkingM lo hi n v k m vs r w wr) (hr : m[r]? = some row) (hv : vs[r]? = some (.slice A row.length c))
    (hm : Marked lo row.length c A (k + (total (m.take r) : Nat)) wr e w2) : MarkingM lo hi n v k m vs (r + 1) w w2 := by
  obtain ⟨h1, h2⟩ := h
  obtain ⟨_, h3, h4⟩ := hm
  have hrl : r < m.length := by
    rcases Nat.lt_or_ge r m.length with g | g
    · exact g
    · rw [List.getElem?_eq_none g] at hr; cases hr
  have h5 := h1.set_row hv (marks_length _ _) h3 h4
  rw [markM_step hrl (marksM_length _ _) (marksM_at m k r row hr)] at h5
  refine ⟨h5, h2.trans (Within.grown h4 fun g hg => ?_)⟩
  have hat : ((marksM k m).take r ++ m.drop r)[r]? = some row := by
    have e1 : ((marksM k m).take r).length = r := by simp [marksM_length]; omega
    rw [List.getElem?_append_right (by omega), e1, Nat.sub_self, List.getElem?_drop, Nat.add_zero]; exact hr
  obtain ⟨A2, c2, e2, o2⟩ := h1.inner r row hat
  rw [hv] at e2
  injection e2 with e2
  rw [e2] at hg
  exact ⟨(o2.1.lt g hg).1, o2.2 g hg⟩
theorem MarkingM.done {lo hi n : Nat} {v : Value} {k : Int} {m : List (List Int)} {vs : List Value} {w wr : World} (h : MarkingM lo hi n v k m vs n w wr) (hl : m.length = n) : MarkedM lo hi n v k m vs w (.returned (.int .i64 (k + (total m : Nat)))) wr := by
  obtain ⟨h1, h2⟩ := h
  rw [List.take_of_length_le (by rw [marksM_length]; omega), List.drop_eq_nil_of_le (by omega), List.append_nil] at h1
  exact ⟨rfl, h1, h2⟩
theorem MarkingM.at_ {lo hi n r : Nat} {v : Value} {k : Int} {m : List (List Int)} {vs : List Value} {row : List Int} {w wr : World} (h : MarkingM lo hi n v k m vs r w wr) (hr : m[r]? = some row) :
    ∃ A c, vs[r]? = some (.slice A row.length c) ∧ OwnR wr lo hi 2 (.slice A row.length c) row.length (ints row) := by
  have hrl : r < m.length := by
    rcases Nat.lt_or_ge r m.length with g | g
    · exact g
    · rw [List.getElem?_eq_none g] at hr; cases hr
  have hat : ((marksM k m).take r ++ m.drop r)[r]? = some row := by
    have e1 : ((marksM k m).take r).length = r := by simp [marksM_length]; omega
    rw [List.getElem?_append_right (by omega), e1, Nat.sub_self, List.getElem?_drop, Nat.add_zero]; exact hr
  exact h.1.inner r row hat
set_option maxHeartbeats 400000 in
theorem markInt64SS_any (A : Option Addr) (n c lo hi : Nat) (m : List (List Int)) (vs : List Value) (k : Int) (w : World) (hn : n ≤ 1099511627776) (ht : total m ≤ 1048576) (k0 : 0 ≤ k) (k1 : k ≤ 1073741824) (h : OwnMat w lo hi (.slice A n c) n m vs) :
    Calls Try.prog 31 #[.slice A n c, .int .i64 k] w (MarkedM lo hi n (.slice A n c) k m vs w) := by
  have HL := Lib.hid h.size
  have F0 : Hid (MarkingM lo hi n (.slice A n c) k m vs 0 w w) := ⟨by simpa using h, Within.refl _ _ _⟩
  clear h
  go_enter Try.func31, Try.ntmps31
  go_wp2_with fail
  go_loopw [1, 5] (fun kk i wr => ∃ r : Nat, r ≤ n ∧ kk = .int .i64 (k + (total (m.take r) : Nat)) ∧ i = .int .i64 r ∧ MarkingM lo hi n (.slice A n c) k m vs r w wr) (fun _ i _ => n - (intOf i).toNat)
  case atStart => exact ⟨0, Nat.zero_le _, by simp [total], rfl, F0.out⟩
  case round =>
    obtain ⟨r, hr, rfl, rfl, HF⟩ := hrel
    have hle := total_le m r
    by_cases hlt : r < n
    · obtain ⟨row, hrow⟩ := at_lt (show r < m.length by rw [HL.out]; exact hlt)
      obtain ⟨Ar, cr, hvr, hor⟩ := HF.at_ hrow
      obtain ⟨b, o, rfl, _, hc⟩ := HF.1.outer.row r _ hvr
      have hrl : row.length ≤ 1048576 := by
        have h1 := total_take hrow
        have h2 := total_le m (r + 1)
        omega
      have HT := Lib.hid (total_take hrow)
      have HV := Lib.hid hvr
      have HF' := Lib.hid HF
      have HR := Lib.hid hrow
      clear HF F0 hvr hrow
      go_wp2_with fail
      refine (markInt64S_any Ar row.length cr lo row _ _ rfl (by omega) (by omega) (by omega) hor.1).mono ?_
      rintro e w2 hm
      have G := Lib.hid (HF'.out.step HR.out HV.out hm)
      obtain ⟨rfl, _, _⟩ := hm
      have he : k + (total (m.take r) : Nat) + (row.length : Int) = k + (total (m.take (r + 1)) : Nat) := by rw [HT.out]; omega
      have HE := Lib.hid he
      clear he
      rw [HE.out]
      have hle2 := total_le m (r + 1)
      go_wp2
      go_roundw
      case rel => exact ⟨r + 1, by omega, rfl, by go_num, G.out⟩
      case measure => simp [intOf]; omega
    · obtain rfl : r = n := by omega
      have e : total (m.take r) = total m := by rw [List.take_of_length_le (by rw [HL.out]; omega)]
      have HE := Lib.hid e
      have G := Lib.hid (HF.done HL.out)
      clear HF F0 e
      go_wp2
      go_ret
      rw [HE.out]
      exact G.out
set_option maxHeartbeats 400000 in
theorem heldInt64SS_any (A : Option Addr) (n c B : Nat) (m : List (List Int)) (k : Int) (w : World) (hl : m.length = n) (hn : n ≤ 1099511627776) (ht : total m ≤ 1048576) (k0 : 0 ≤ k) (k1 : k ≤ 1073741824) (h : Mat w B A (marksM k m)) :
    Calls Try.prog 32 #[.slice A n c, .int .i64 k] w fun e w' => e = .returned (.int .i64 (k + (total m : Nat))) ∧ w = w' := by
  have HL := Lib.hid hl
  clear hl
  go_enter Try.func32, Try.ntmps32
  go_wp2_with fail
  go_loop [1, 5] (fun kk i => ∃ r : Nat, r ≤ n ∧ kk = .int .i64 (k + (total (m.take r) : Nat)) ∧ i = .int .i64 r) (fun _ i => n - (intOf i).toNat)
  case atStart => exact ⟨0, Nat.zero_le _, by simp [total], rfl⟩
  case round =>
    obtain ⟨r, hr, rfl, rfl⟩ := hrel
    have hle := total_le m r
    by_cases hlt : r < n
    · obtain ⟨row, hrow⟩ := at_lt (show r < m.length by rw [HL.out]; exact hlt)
      obtain ⟨b, o, Ak, ck, rfl, _, hc, _, _, hrr⟩ := h r _ (marksM_at m k r row hrow)
      rw [marks_length] at hc
      have hrl : row.length ≤ 1048576 := by
        have h1 := total_take hrow
        have h2 := total_le m (r + 1)
        omega
      have HT := Lib.hid (total_take hrow)
      clear hrow
      have he : k + (total (m.take r) : Nat) + (row.length : Int) = k + (total (m.take (r + 1)) : Nat) := by rw [HT.out]; omega
      have HE := Lib.hid he
      clear he
      have hle2 := total_le m (r + 1)
      go_wp2_with fail
      refine (heldInt64S_any Ak row.length ck B _ _ (by omega) (by omega) (by omega) hrr).mono ?_
      rintro e w' ⟨rfl, rfl⟩
      rw [HE.out]
      go_wp2
      go_round
      case rel => exact ⟨r + 1, by omega, rfl, by go_num⟩
      case measure => simp [intOf]; omega
    · obtain rfl : r = n := by omega
      have e : total (m.take r) = total m := by rw [List.take_of_length_le (by rw [HL.out]; omega)]
      have HE := Lib.hid e
      clear e
      go_wp2
      go_ret
      exact ⟨ret_i64 (by rw [HE.out]), rfl⟩
end Go.Proofs.Ytnnihdkhblbdgaa
/-
  All trees with so many nodes, the program's.
-/
namespace Go.Proofs.Ytnnihdkhblbdgaa
open Go.RowKit Fld
set_option linter.unusedVariables false
set_option linter.unusedSimpArgs false
set_option maxRecDepth 100000

theorem slicesClone_any (ad : Addr) (n c B : Nat) (xs : List Int) (w : World) (hl : xs.length = n) (hn : n ≤ 1048576) (hB : B ≤ w.heap.size) (h : Row w B (some ad) (ints xs)) :
    Calls Try.prog 115 #[.slice (some ad) n c] w (NewRow 2 n (ints xs) w) := by
  obtain ⟨i0, hi, hz0, hz1, hz2⟩ := info_parts info_i64
  have hnews := (h.alloc hB (.cells #[] 2)).news
  have hlen : (ints xs).length = n * 1 := by rw [ints_length, hl, Nat.mul_one]
  have h1 := ints_cells xs
  have hown0 := (Growing.start w 2).1
  have hbel0 := (Growing.start w 2).2
  have q22 : ∀ (w : World) (a : Option Addr) (n c n' c' : Nat), (binOp .eql 23 (.slice a n c) (.slice none n' c')).run Try.prog w = .ok (.bool a.isNone) w := fun w a n c n' c' => Lib.run_eql_slice_nil w _ _ a n c n' c' Try.underlying23
  go_enter Try.func115, Try.ntmps115
  go_wp2_with (at_builtin; refine wpList_append_own _ rfl (.tmp 5) (.tmp 6) 23 rfl w.heap.size 2 i0 _ 1 8 Try.underlying23 hi hz0 hz1 hz2 rfl (by omega) (.slice (some ⟨w.heap.size, 0, none⟩) 0 0) 0 [] rfl hown0 ad n c (ints xs) rfl hlen hnews h1 (by simp only [maxLen]; omega) (by omega) (by simp) ?_; intro v' w' hown hgrow _)
  go_ret
  rw [Nat.zero_add] at hown
  exact NewRow.own hown (hbel0.grown hgrow (by simp) (fun k hk => (hown0.lt k hk).1))
def rangeL (n : Nat) : List Int := (List.range n).map fun k : Nat => (k : Int)
theorem rangeL_length (n : Nat) : (rangeL n).length = n := by simp [rangeL]
theorem rangeL_at {n k : Nat} (h : k < n) : (rangeL n)[k]? = some (k : Int) := by unfold rangeL; rw [List.getElem?_map, List.getElem?_range h]; rfl
def chkT (n : Nat) : Bool := (Tr.treesL (n + 1)).all (fun t => Tr.isLv t && decide (t.length = n + 1)) && decide ((Tr.treesL (n + 1)).length ≤ 115)
theorem chkT_all : (List.range 8).all chkT = true := by decide +kernel
theorem trees_all {n : Nat} (h1 : 1 ≤ n) (h8 : n ≤ 8) : (∀ t ∈ Tr.treesL n, Tr.isLv t = true ∧ t.length = n) ∧ (Tr.treesL n).length ≤ 115 := by
  have h := List.all_eq_true.1 chkT_all (n - 1) (by rw [List.mem_range]; omega)
  unfold chkT at h
  rw [show n - 1 + 1 = n from by omega] at h
  simp only [Bool.and_eq_true, List.all_eq_true, decide_eq_true_eq] at h
  exact h
/-- the trees so far, the last one of them as it stands in the levels -/
structure Listed (n : Nat) (m : List (List Int)) (T : List Int) : Prop where
  last : ∃ m', m = m' ++ [T] ∧ Tr.treesL n = m' ++ Tr.treesF (116 - m'.length) T
theorem Listed.bd {n : Nat} {m : List (List Int)} {T : List Int} (h : Listed n m T) (h1 : 1 ≤ n) (h8 : n ≤ 8) : Tr.isLv T = true ∧ T.length = n ∧ 1 ≤ m.length ∧ m.length ≤ 115 := by
  obtain ⟨m', rfl, e⟩ := h.last
  obtain ⟨hall, hlen⟩ := trees_all h1 h8
  rw [e, List.length_append] at hlen
  have hf : 116 - m'.length = (115 - m'.length) + 1 := by omega
  have hT : T ∈ Tr.treesL n := by rw [e, hf, Tr.treesF]; simp
  have h2 := hall T hT
  rw [hf, Tr.treesF, List.length_cons] at hlen
  exact ⟨h2.1, h2.2, by simp, by rw [List.length_append]; simp; omega⟩
theorem Listed.done {n : Nat} {m : List (List Int)} {T : List Int} (h : Listed n m T) (h1 : 1 ≤ n) (h8 : n ≤ 8) (hl : Tr.lowerL T = none) : m = Tr.treesL n := by
  have hb := h.bd h1 h8
  obtain ⟨m', rfl, e⟩ := h.last
  have hlen := hb.2.2.2
  rw [List.length_append] at hlen
  simp at hlen
  rw [e, show 116 - m'.length = (115 - m'.length) + 1 from by omega, Tr.treesF, hl]
theorem Listed.next {n : Nat} {m : List (List Int)} {T u : List Int} (h : Listed n m T) (h1 : 1 ≤ n) (h8 : n ≤ 8) (hl : Tr.lowerL T = some u) : Listed n (m ++ [u]) u := by
  have hb := h.bd h1 h8
  obtain ⟨m', rfl, e⟩ := h.last
  have hlen := hb.2.2.2
  rw [List.length_append] at hlen
  simp at hlen
  refine ⟨m' ++ [T], rfl, ?_⟩
  rw [e, show 116 - m'.length = (115 - m'.length) + 1 from by omega, Tr.treesF, hl, List.length_append]
  simp
theorem Listed.start (n : Nat) : Listed n [rangeL n] (rangeL n) := ⟨[], rfl, rfl⟩
set_option maxHeartbeats 2000000 in
theorem treesWith_any (n : Nat) (w : World) (h1 : 1 ≤ n) (h8 : n ≤ 8) :
    Calls Try.prog 91 #[.int .i64 n] w (NewMat (Tr.treesL n).length (Tr.treesL n) w) := by
  obtain ⟨i0, hi, hz0, hz1, hz2⟩ := info_parts info_i64
  obtain ⟨j0, hj, hy0, hy1, hy2⟩ := info_parts info_row
  go_enter Try.func91, Try.ntmps91
  go_wp2_with (at_make; refine wpList_make_full _ rfl (.tmp 6) (.tmp 6) 23 rfl w.heap.size 2 i0 _ 1 Try.underlying23 hi hz0 hz1 .i64 .i64 _ _ n rfl rfl rfl rfl (by rw [hz2]; omega) (by simp only [maxLen]; omega) (Nat.le_refl _) ?_; intro w1 hown hg)
  have F0 := Filling.start (xs := rangeL n) hown hg
  clear hown hg hz0 hz1 hz2 hi
  go_wp2_with fail
  go_loopw [10] (fun i wr => ∃ k : Nat, k ≤ n ∧ i = .int .i64 k ∧ Filling w 2 n (rangeL n) k wr) (fun i _ => n - (intOf i).toNat)
  case atStart => exact ⟨0, Nat.zero_le _, rfl, F0⟩
  case round =>
    obtain ⟨k, hk, rfl, HF⟩ := hrel
    by_cases hlt : k < n
    · have hf := HF.1.frozenAt k
      have ho := HF.1.cellAt k (by omega)
      rw [fill_at (by rw [ints_length]; exact rangeL_length n) hlt] at ho
      have G := Lib.hid (HF.step (rangeL_length n) (rangeL_at hlt))
      clear F0 HF
      go_wp2
      go_roundw
      case rel => exact ⟨k + 1, by omega, by go_num, G.out⟩
      case measure => simp [intOf]; omega
    · obtain rfl : k = n := by omega
      obtain ⟨A0, c0, e0, hown1, hbel1⟩ := HF.done (rangeL_length k)
      injection e0 with e0
      injection e0 with eA _ ec
      subst eA ec
      obtain ⟨wo, hwo⟩ : ∃ wo, wo = wr := ⟨wr, rfl⟩
      subst hwo
      have HLV := Lib.hid (OwnR.of hown1)
      have HB1 := Lib.hid hbel1
      have hs1 : w.heap.size < wo.heap.size := (hown1.lt w.heap.size rfl).2
      clear F0 HF hown1 hbel1
      go_wp2_with fail
      refine (slicesClone_any ⟨w.heap.size, 0, none⟩ k k wo.heap.size (rangeL k) _ (rangeL_length k) (by omega) (Nat.le_refl _) HLV.out.row).mono ?_
      rintro e w2 ⟨A2, c2, rfl, own2, bel2⟩
      have HO2 := Lib.hid own2
      have HB2 := Lib.hid bel2
      have hs2 := bel2.size
      clear own2 bel2
      go_wp2_with fail
      have HM0 : Hid (OwnMat (w2.alloc (.cells #[.slice A2 k c2] 23)) wo.heap.size (w2.alloc (.cells #[.slice A2 k c2] 23)).heap.size (.slice (some ⟨w2.heap.size, 0, none⟩) 1 1) 1 [rangeL k] [.slice A2 k c2]) := by
        have hal : Below w2.heap.size w2 (w2.alloc (.cells #[.slice A2 k c2] 23)) := (Below.refl _ _).alloc (Nat.le_refl _) _
        have hlit := World.ownsRow_lit (base := wo.heap.size) (size := 1) (e := 23) w2 #[.slice A2 k c2] 1 hs2 (by simp [maxLen]) rfl
        refine ⟨OwnR.of hlit, rfl, ?_, ?_⟩
        · intro r row hr
          match r, hr with
          | 0, hr =>
            simp only [List.getElem?_cons_zero, Option.some.injEq] at hr
            subst hr
            refine ⟨A2, c2, by rw [rangeL_length]; rfl, ?_⟩
            rw [rangeL_length]
            exact ((OwnR.of HO2.out).below hal (Nat.le_refl _)).more (Nat.le_refl _) hal.size
          | r+1, hr => simp at hr
        · intro r s u t g hne hu ht
          match r, s, hu, ht with
          | 0, 0, _, _ => exact absurd rfl hne
          | r+1, _, hu, _ => simp at hu
          | 0, s+1, _, ht => simp at ht
      have HL0 : Hid (OwnR (w2.alloc (.cells #[.slice A2 k c2] 23)) w.heap.size wo.heap.size 2 (.slice (some ⟨w.heap.size, 0, none⟩) k k) k (ints (rangeL k))) :=
        (HLV.out.below HB2.out (Nat.le_refl _)).below ((Below.refl w2.heap.size w2).alloc (Nat.le_refl _) _) hs2
      have HB0 : Hid (Below w.heap.size w (w2.alloc (.cells #[.slice A2 k c2] 23))) := (HB1.out.trans (HB2.out.mono (by omega))).alloc (by omega) _
      go_loopw [5] (fun v W => ∃ (g cap j : Nat) (m : List (List Int)) (vs : List Value) (T : List Int), v = .slice (some ⟨g, 0, none⟩) j cap ∧ 1 ≤ j ∧ j ≤ 115 ∧ Hid (Listed k m T) ∧ Hid (OwnMat W wo.heap.size W.heap.size (.slice (some ⟨g, 0, none⟩) j cap) j m vs) ∧ Hid (OwnR W w.heap.size wo.heap.size 2 (.slice (some ⟨w.heap.size, 0, none⟩) k k) k (ints T)) ∧ Below w.heap.size w W ∧ wo.heap.size ≤ W.heap.size) (fun v _ => 200 - (match v with | .slice _ n _ => n | _ => 0))
      case atStart => exact ⟨w2.heap.size, 1, 1, [rangeL k], [.slice A2 k c2], rangeL k, rfl, Nat.le_refl _, by omega, Listed.start k, HM0, HL0, HB0.out, by simp; omega⟩
      case round =>
        obtain ⟨g, cap, j, m, vs, T, rfl, j1, j115, HT, HM, HL, HB, hWo⟩ := hrel
        obtain ⟨tlv, tl, _, _⟩ := HT.out.bd h1 h8
        have HTL := Lib.hid tl
        have C0 := lower_any w.heap.size w.heap.size k k T wr tl tlv HL.out.1
        clear tl tlv
        go_wp2_with fail
        refine C0.mono ?_
        rintro e w3 ⟨md, ⟨hlo, rfl, rfl⟩ | ⟨u, hlo, rfl, hown3, hg3⟩⟩
        · have e := HT.out.done h1 h8 hlo
          have hjl : m.length = j := HM.out.size
          have G : Hid (NewMat (Tr.treesL k).length (Tr.treesL k) w (.returned (.slice (some ⟨g, 0, none⟩) j cap)) (wr.drewN md)) := by
            rw [Hid, ← e, hjl]
            exact ⟨_, _, vs, rfl, (HM.out.drewN md).more (by omega) (Nat.le_refl _), below_drewN HB md⟩
          clear hlo e hjl HB C0
          go_wp2
          go_ret
          exact G.out
        · have hsz3 : wr.heap.size ≤ w3.heap.size := hg3.size
          have hWI : Within w.heap.size wo.heap.size (wr.drewN md) w3 := Within.grown hg3 (fun g' e => by injection e with e; omega)
          have HM3 : Hid (OwnMat w3 wo.heap.size w3.heap.size (.slice (some ⟨g, 0, none⟩) j cap) j m vs) := ((HM.out.drewN md).within hWI (by show wr.heap.size ≤ wr.heap.size; omega) (.inr (Nat.le_refl _))).more (Nat.le_refl _) hsz3
          have HL3 : Hid (OwnR w3 w.heap.size wo.heap.size 2 (.slice (some ⟨w.heap.size, 0, none⟩) k k) k (ints u)) := ⟨hown3, fun g' e => by have : w.heap.size = g' := (by simpa [Value.ownBlock] using e); omega⟩
          have HB3 : Hid (Below w.heap.size w w3) := Below.then (below_drewN HB md) hWI (Nat.le_refl _) (by show w.heap.size ≤ wr.heap.size; omega)
          have HN := Lib.hid (HT.out.next h1 h8 hlo)
          have hul : u.length = k := (HN.out.bd h1 h8).2.1
          have huj : j + 1 ≤ 115 := by have := (HN.out.bd h1 h8).2.2.2; rw [List.length_append] at this; have := HM.out.size; simp at *; omega
          have HUL := Lib.hid hul
          have hW3 : wo.heap.size ≤ w3.heap.size := by omega
          clear hlo hown3 hg3 hWI HB C0 HM HL HT hul
          go_wp2_with fail
          refine (slicesClone_any ⟨w.heap.size, 0, none⟩ k k wo.heap.size u _ HUL.out (by omega) hW3 HL3.out.row).mono ?_
          rintro e w4 ⟨A4, c4, rfl, own4, bel4⟩
          have hs4 := bel4.size
          have HM4 := Lib.hid (HM3.out.below bel4 (Nat.le_refl _))
          have HL4 := Lib.hid (HL3.out.below bel4 hW3)
          have HB4 := Lib.hid (HB3.out.trans (bel4.mono (by omega)))
          have HO4 := Lib.hid own4
          have hownO := HM4.out.outer.1
          clear own4 bel4
          go_wp2_with (at_builtin; refine wpList_append_lies _ rfl (.tmp 23) (.tmp 26) 22 rfl wo.heap.size 23 j0 _ 1 24 Try.underlying22 hj hy0 hy1 hy2 rfl (by omega) (.slice (some ⟨g, 0, none⟩) j cap) j vs rfl (hownO.alloc _) ⟨w4.heap.size, 0, none⟩ 1 1 [.slice A4 k c4] rfl rfl (World.news_of_block (cs := #[.slice A4 k c4]) (heap_alloc_new _ _)) (by simp [Value.oneCell']) (by omega) (by simp only [maxLen]; omega) (by omega) (by simp; omega) (w4.heap.size + 1) (by simp) ?_; intro g5 cap5 w5 hown5 hgrow5 hat5 hlt5)
          have hs5 : w4.heap.size ≤ w5.heap.size := by have := hgrow5.size; simp at this; omega
          have GM : Hid (OwnMat w5 wo.heap.size w5.heap.size (.slice (some ⟨g5, 0, none⟩) (j + 1) cap5) (j + 1) (m ++ [u]) (vs ++ [.slice A4 k c4])) := HM4.out.push (row := u) hs4 HUL.out HO4.out hW3 hown5 hgrow5
          have GL : Hid (OwnR w5 w.heap.size wo.heap.size 2 (.slice (some ⟨w.heap.size, 0, none⟩) k k) k (ints u)) :=
            ((HL4.out.below ((Below.refl w4.heap.size w4).alloc (Nat.le_refl _) _) (by omega)).grown hgrow5 (own_types HL4.out.1 hownO (by decide)))
          have GB : Hid (Below w.heap.size w w5) := (HB4.out.alloc (by omega) _).grown hgrow5 (by simp; omega) (fun q hq => by have := (hownO.lt q hq).1; omega)
          clear hown5 hgrow5 hat5 hownO
          go_wp2
          go_roundw
          case rel => exact ⟨g5, cap5, j + 1, _, _, u, rfl, by omega, huj, HN, GM, GL, GB.out, by omega⟩
          case measure => simp; omega
end Go.Proofs.Ytnnihdkhblbdgaa
/-
  The model's list of all trees with n nodes, plainly.
-/
namespace Go.Proofs.Ytnnihdkhblbdgaa
set_option maxRecDepth 100000

theorem grow_trees {n : Nat} (h1 : 1 ≤ n) (h8 : n ≤ 8) : Tr.growF (n - 1) [0] [] = Tr.treesL n := by
  have h := List.all_eq_true.1 Tr.grow_eq (n - 1) (by rw [List.mem_range]; omega)
  rw [show n - 1 + 1 = n from by omega] at h
  exact eq_of_beq h
end Go.Proofs.Ytnnihdkhblbdgaa
/-
  A strings.Builder of the call's own: what its two methods answer that the program calls.
-/
namespace Go.Proofs.Ytnnihdkhblbdgaa
open Go.RowKit Fld
set_option linter.unusedVariables false
set_option linter.unusedSimpArgs false
set_option maxRecDepth 100000

theorem bld_used (b : Nat) (w : World) (h0 : w.cell? ⟨b, 0, none⟩ = some (.pointer (some ⟨b, 0, none⟩))) :
    Calls Try.prog 149 #[.pointer (some ⟨b, 0, none⟩)] w fun e w' => e = .returned (.tuple #[]) ∧ w' = w := by
  obtain ⟨j, hj, _⟩ := Option.map_eq_some_iff.1 Try.Builder_Extra_169.toX72.sizeBuilder
  go_enter Try.func149, Try.ntmps149
  go_wp2
  rw [Lib.run_neq_ptr_same w _ Try.underlying130 hj]
  go_wp2
  go_end0
  exact ⟨rfl, rfl⟩
theorem bld_fresh (b : Nat) (w : World) (h0 : w.cell? ⟨b, 0, none⟩ = some (.pointer none)) (hsh : w.shape? b = some (133, 2)) (hfz : w.frozen? ⟨b, 0, none⟩ = false) :
    Calls Try.prog 149 #[.pointer (some ⟨b, 0, none⟩)] w fun e w' => e = .returned (.tuple #[]) ∧ w' = w.setCell ⟨b, 0, none⟩ (.pointer (some ⟨b, 0, none⟩)) := by
  obtain ⟨j, hj, hjs⟩ := Option.map_eq_some_iff.1 Try.Builder_Extra_169.toX72.sizeBuilder
  go_enter Try.func149, Try.ntmps149
  go_wp2
  rw [Lib.run_to_unsafe w ⟨b, 0, none⟩ Try.underlying130 Try.underlying166 hj (by rw [hjs]; decide) hsh (Nat.zero_lt_succ 1)]
  simp only [Result.andThen]
  rw [Oper.upon_value]
  go_wp2
  rw [run_callFunc_extern Try.func158 (by kernel_rfl) (by kernel_rfl) (by kernel_rfl) (e := Extern.AbiNoEscape.same) (by kernel_rfl)]
  rw [Lib.run_noEscape]
  simp only [Result.andThen]
  rw [Oper.upon_value]
  go_wp2
  rw [Lib.run_from_unsafe w ⟨b, 0, none⟩ Try.underlying166 Try.underlying130 hj hsh Try.Builder_Extra_169.toX72.liesBuilder]
  simp only [Result.andThen]
  rw [Oper.upon_value]
  go_wp2
  go_end0
  exact ⟨rfl, rfl⟩
theorem bld_check (B b : Nat) (bs : List Value) (w : World) (h : Lib.IsBuilder 133 5 B b bs w) :
    Calls Try.prog 149 #[.pointer (some ⟨b, 0, none⟩)] w fun e w' => e = .returned (.tuple #[]) ∧ (Lib.BuilderAt 133 5 B b (.pointer (some ⟨b, 0, none⟩)) bs w' ∧ Below B w w') := by
  rcases h with h | h
  · refine (bld_fresh b w h.cell0 h.shape h.frozen0).mono ?_
    rintro e w' ⟨rfl, rfl⟩
    exact ⟨rfl, h.used _, (Below.refl B w).setCell (p := ⟨b, 0, none⟩) h.1 _⟩
  · refine (bld_used b w h.cell0).mono ?_
    rintro e w' ⟨rfl, rfl⟩
    exact ⟨rfl, h, Below.refl B _⟩
theorem info_byte : (Try.prog.info? 5).map (fun i => (i.zero, i.size, i.bytes)) = some (some (.int .u8 0), 1, 1) := by kernel_rfl
set_option maxHeartbeats 1000000 in
theorem bld_write (B b : Nat) (bs : List Value) (s : ByteArray) (w : World) (h : Lib.IsBuilder 133 5 B b bs w) (hlen : bs.length + s.size ≤ 1048576) (hBw : B ≤ w.heap.size) :
    Calls Try.prog 132 #[.pointer (some ⟨b, 0, none⟩), .string s] w fun e w' => e = .returned (.tuple #[.int .i64 s.size, .nilIface]) ∧ (Lib.BuilderAt 133 5 B b (.pointer (some ⟨b, 0, none⟩)) (bs ++ Lib.strCells s) w' ∧ Below B w w') := by
  obtain ⟨i0, hi, hz0, hz1, hz2⟩ := info_parts info_byte
  go_enter Try.func132, Try.ntmps132
  go_wp2_with (go_at_call 149; refine (bld_check B b bs _ h).mono ?_)
  rintro e w1 ⟨rfl, h1, hb1⟩
  obtain ⟨hB, v, hbk, hown, hne⟩ := h1
  have c0 : w1.cell? ⟨b, 0, none⟩ = some (.pointer (some ⟨b, 0, none⟩)) := by rw [Lib.cell_of_heap hbk]; rfl
  have c1 : w1.cell? ⟨b, 1, none⟩ = some v := by rw [Lib.cell_of_heap hbk]; rfl
  go_wp2_with (at_builtin; refine Lib.wpList_append_own_string _ rfl _ _ 131 9 rfl B 5 i0 Try.underlying131 Try.underlying9 hi hz0 hz1 hz2 _ _ _ rfl hown s rfl ?c3 ?c4 ?c5 ?_)
  case c3 => unfold maxLen; omega
  case c4 => omega
  case c5 => have := hb1.size; omega
  intro v' w2 hown' hgrow _
  have hlt : b < w1.heap.size := by
    rcases Nat.lt_or_ge b w1.heap.size with h' | h'
    · exact h'
    · simp [Array.getElem?_eq_none h'] at hbk
  have hb2 : w2.heap[b]? = some (.cells #[.pointer (some ⟨b, 0, none⟩), v] 133 (0, 0)) := by
    rw [hgrow.block b hlt (fun e => hne e.symm)]
    exact hbk
  have d0 : w2.cell? ⟨b, 0, none⟩ = some (.pointer (some ⟨b, 0, none⟩)) := by rw [Lib.cell_of_heap hb2]; rfl
  have d1 : w2.cell? ⟨b, 1, none⟩ = some v := by rw [Lib.cell_of_heap hb2]; rfl
  have f1 : w2.frozen? ⟨b, 1, none⟩ = false := Lib.frozen_of_heap hb2 1
  obtain ⟨ao, n', cap, rfl⟩ : ∃ ao n' cap, v' = .slice ao n' cap := by
    rcases hown'.2 with ⟨hv, _⟩ | ⟨g, cap, cur, hv, _⟩
    · exact ⟨_, _, _, hv⟩
    · exact ⟨_, _, _, hv⟩
  go_wp2
  go_ret2
  refine ⟨rfl, ?_, ?_⟩
  · exact Lib.BuilderAt.put (T := 133) (e := 5) hB hb2 (bs' := bs ++ Lib.strCells s) (by simpa [Lib.strCells_length] using hown') Try.Builder_Extra_169.neB5
  · exact (hb1.grown hgrow (by have := hb1.size; omega) (fun k hk => (hown.lt k hk).1)).setCell (p := ⟨b, 1, none⟩) hB _
end Go.Proofs.Ytnnihdkhblbdgaa
/-
  The library's sort of a few texts in a row of the call's own.
-/
namespace Go.Proofs.Ytnnihdkhblbdgaa
open Go.RowKit Fld
set_option linter.unusedVariables false
set_option linter.unusedSimpArgs false
set_option maxRecDepth 100000

def strs (ls : List (List UInt8)) : List Value := ls.map fun l => .string ⟨l.toArray⟩
theorem strs_at {ls : List (List UInt8)} {k : Nat} {l : List UInt8} (h : ls[k]? = some l) : (strs ls)[k]? = some (.string ⟨l.toArray⟩) := by
  unfold strs; rw [List.getElem?_map, h]; rfl
theorem strs_length (ls : List (List UInt8)) : (strs ls).length = ls.length := by simp [strs]
theorem strs_set (ls : List (List UInt8)) (k : Nat) (l : List UInt8) : strs (ls.set k l) = (strs ls).set k (.string ⟨l.toArray⟩) := by unfold strs; rw [List.map_set]

/-! what insertion does, in any order -/
section
variable {α : Type} {le : α → α → Bool}
def insAt (S : List α) (j : Nat) (x : α) (R : List α) : List α := S.take j ++ x :: (S.drop j ++ R)
theorem insAt_x {S R : List α} {j : Nat} {x : α} (h : j ≤ S.length) : (insAt S j x R)[j]? = some x := by
  unfold insAt
  have e : (S.take j).length = j := by rw [List.length_take]; omega
  rw [List.getElem?_append_right (by omega), e, Nat.sub_self]; rfl
theorem insAt_y {S R : List α} {j : Nat} {x y : α} (h : j + 1 ≤ S.length) (hy : S[j]? = some y) : (insAt S (j + 1) x R)[j]? = some y := by
  unfold insAt
  rw [List.getElem?_append_left (by rw [List.length_take]; omega), List.getElem?_take, if_pos (by omega)]; exact hy
theorem insAt_swap {S R : List α} {j : Nat} {x y : α} (h : j + 1 ≤ S.length) (hy : S[j]? = some y) : ((insAt S (j + 1) x R).set (j + 1) y).set j x = insAt S j x R := by
  unfold insAt
  have e : (S.take j).length = j := by rw [List.length_take]; omega
  have hd : S.drop j = y :: S.drop (j + 1) := by
    have hlt : j < S.length := by omega
    rw [List.drop_eq_getElem_cons hlt]
    rw [List.getElem?_eq_getElem hlt] at hy
    injection hy with hy
    rw [hy]
  rw [List.take_add_one, hy, hd]
  simp only [Option.toList_some, List.append_assoc, List.cons_append, List.nil_append]
  rw [List.set_append_right _ _ (by omega), e, show j + 1 - j = 1 from by omega, List.set_cons_succ, List.set_cons_zero, List.set_append_right _ _ (by omega), e, Nat.sub_self, List.set_cons_zero]
theorem insAt_start {S R : List α} {x : α} : insAt S S.length x R = S ++ x :: R := by unfold insAt; simp
theorem ins_perm (S : List α) (j : Nat) (x : α) : (S.take j ++ x :: S.drop j).Perm (x :: S) := by
  have := @List.perm_middle _ x (S.take j) (S.drop j)
  rwa [List.take_append_drop] at this
theorem ins_done (tr : ∀ {a b c : α}, le a b = true → le b c = true → le a c = true) {S : List α} {j : Nat} {x : α} (hS : S.Pairwise fun a b => le a b = true) (h1 : ∀ s ∈ S.drop j, le x s = true) (hj : j ≤ S.length) (h2 : ∀ y, 0 < j → S[j - 1]? = some y → le y x = true) : (S.take j ++ x :: S.drop j).Pairwise fun a b => le a b = true := by
  have hS' := hS
  rw [← List.take_append_drop j S, List.pairwise_append] at hS'
  obtain ⟨p1, p2, p3⟩ := hS'
  rw [List.pairwise_append, List.pairwise_cons]
  refine ⟨p1, ⟨h1, p2⟩, fun a ha b hb => ?_⟩
  rw [List.mem_cons] at hb
  rcases hb with rfl | hb
  · obtain ⟨i, hi⟩ := List.mem_iff_getElem?.1 ha
    rw [List.getElem?_take] at hi
    split at hi
    · rename_i hij
      obtain ⟨y, hy⟩ : ∃ y, S[j - 1]? = some y := ⟨_, List.getElem?_eq_getElem (by omega)⟩
      have hyx := h2 y (by omega) hy
      rcases Nat.lt_or_ge i (j - 1) with g | g
      · refine tr ?_ hyx
        have hi2 : i < S.length := by omega
        have hj2 : j - 1 < S.length := by omega
        rw [List.getElem?_eq_getElem hi2] at hi
        rw [List.getElem?_eq_getElem hj2] at hy
        injection hi with hi
        injection hy with hy
        subst hi hy
        exact List.pairwise_iff_getElem.1 hS i (j - 1) hi2 hj2 g
      · have : i = j - 1 := by omega
        subst this
        rw [hy] at hi
        injection hi with hi
        rw [← hi]; exact hyx
    · cases hi
  · exact p3 a ha b hb
theorem ins_low {S : List α} {j : Nat} {x y : α} (h1 : ∀ s ∈ S.drop (j + 1), le x s = true) (hy : S[j]? = some y) (hxy : le x y = true) : ∀ s ∈ S.drop j, le x s = true := by
  intro s hs
  have hlt : j < S.length := by
    rcases Nat.lt_or_ge j S.length with g | g
    · exact g
    · rw [List.getElem?_eq_none g] at hy; cases hy
  rw [List.drop_eq_getElem_cons hlt, List.mem_cons] at hs
  rw [List.getElem?_eq_getElem hlt] at hy
  injection hy with hy
  rcases hs with rfl | hs
  · rw [hy]; exact hxy
  · exact h1 s hs
/-- the first i of l, sorted, ahead of the others -/
structure Insd (le : α → α → Bool) (l : List α) (i : Nat) (S : List α) : Prop where
  len : S.length = i
  perm : S.Perm (l.take i)
  sorted : S.Pairwise fun a b => le a b = true
theorem Insd.one (l : List α) (h : 1 ≤ l.length) : Insd le l 1 (l.take 1) := by
  refine ⟨by rw [List.length_take]; omega, List.Perm.refl _, ?_⟩
  match l, h with
  | a :: r, _ => simp
theorem Insd.step (tr : ∀ {a b c : α}, le a b = true → le b c = true → le a c = true) {l S : List α} {i j : Nat} {x : α} (h : Insd le l i S) (hx : l[i]? = some x) (h1 : ∀ s ∈ S.drop j, le x s = true) (hj : j ≤ i) (h2 : ∀ y, 0 < j → S[j - 1]? = some y → le y x = true) : Insd le l (i + 1) (S.take j ++ x :: S.drop j) := by
  refine ⟨?_, ?_, ins_done (le := le) tr h.sorted h1 (by rw [h.len]; exact hj) h2⟩
  · have := (ins_perm S j x).length_eq
    rw [this, List.length_cons, h.len]
  · rw [List.take_add_one, hx]
    refine (ins_perm S j x).trans (((h.perm).cons x).trans ?_)
    exact (List.perm_append_singleton x _).symm
theorem Insd.eq (asy : ∀ {a b : α}, le a b = true → le b a = true → a = b) {l S : List α} {n : Nat} (h : Insd le l n S) (hl : l.length = n) {T : List α} (hp : T.Perm l) (hT : T.Pairwise fun a b => le a b = true) : S = T := by
  have p := h.perm
  rw [List.take_of_length_le (by omega)] at p
  exact List.Perm.eq_of_pairwise (le := fun a b => le a b = true) (fun a b _ _ h1 h2 => asy h1 h2) h.sorted hT (p.trans hp.symm)
end

theorem treeNaN_any (x : ByteArray) (w : World) : Calls Try.prog 151 #[.string x] w fun e w' => e = .returned (.bool false) ∧ w = w' := by
  go_enter Try.func151, Try.ntmps151
  go_wp2
  go_ret
  exact ⟨by simp, rfl⟩
theorem less_eq (x y : List UInt8) : Op.bytesLess x y = !Tr.leS y x := by
  induction x generalizing y with
  | nil => cases y <;> rfl
  | cons a x ih =>
    cases y with
    | nil => rfl
    | cons b y =>
      rw [Op.bytesLess, Tr.leS, ih]
      by_cases e : a = b
      · subst e; simp
      · have e' : ¬ b = a := fun h => e h.symm
        simp only [e, e', if_false, decide_false, Bool.false_and, Bool.or_false]
        rcases Nat.lt_or_ge a.toNat b.toNat with g | g
        · have h1 : a < b := UInt8.lt_iff_toNat_lt.2 g
          have h2 : ¬ b < a := fun h => by have := UInt8.lt_iff_toNat_lt.1 h; omega
          simp [h1, h2]
        · have h3 : a.toNat ≠ b.toNat := fun h => e (UInt8.toNat_inj.1 h)
          have h1 : b < a := UInt8.lt_iff_toNat_lt.2 (by omega)
          have h2 : ¬ a < b := fun h => by have := UInt8.lt_iff_toNat_lt.1 h; omega
          simp [h1, h2]
          exact fun h => absurd h e
theorem treeLess_any (x y : List UInt8) (w : World) : Calls Try.prog 144 #[.string ⟨x.toArray⟩, .string ⟨y.toArray⟩] w fun e w' => e = .returned (.bool (!Tr.leS y x)) ∧ w = w' := by
  go_enter Try.func144, Try.ntmps144
  go_wp2_with (go_at_call 151; refine (treeNaN_any _ _).mono ?_; rintro e w' ⟨rfl, rfl⟩)
  go_ret
  exact ⟨ret_bool (less_eq x y), rfl⟩
/-- a row of texts that a sort turns -/
def Srow (base g n cap : Nat) (w : World) (ls : List (List UInt8)) (wr : World) : Prop := wr.ownsRow base 73 1 (.slice (some ⟨g, 0, none⟩) n cap) n (strs ls) ∧ w.grownBy wr (some g)
theorem Srow.swap {base g n cap j : Nat} {w wr : World} {ls : List (List UInt8)} {x y : List UInt8} (h : Srow base g n cap w ls wr) :
    Srow base g n cap w ((ls.set (j + 1) y).set j x) ((wr.setCell ⟨g, j + 1, none⟩ (.string ⟨y.toArray⟩)).setCell ⟨g, j, none⟩ (.string ⟨x.toArray⟩)) := by
  obtain ⟨h1, h2⟩ := h.1.stored (j + 1) (.string ⟨y.toArray⟩)
  obtain ⟨h3, h4⟩ := h1.stored j (.string ⟨x.toArray⟩)
  rw [← strs_set, ← strs_set] at h3
  exact ⟨h3, grownBy_trans h.2 (grownBy_trans h2 h4)⟩
theorem Srow.drewN {base g n cap : Nat} {w wr : World} {ls : List (List UInt8)} (h : Srow base g n cap w ls wr) (m : Nat) : Srow base g n cap w ls (wr.drewN m) := ⟨h.1, ⟨h.2.os, h.2.tape, h.2.output, h.2.size, h.2.block⟩⟩
set_option maxHeartbeats 1000000 in
theorem treeInsert_any (base g n cap : Nat) (ss : List (List UInt8)) (w : World) (hl : ss.length = n) (h1 : 1 ≤ n) (hn : n ≤ 12) (h : w.ownsRow base 73 1 (.slice (some ⟨g, 0, none⟩) n cap) n (strs ss)) :
    Calls Try.prog 138 #[.slice (some ⟨g, 0, none⟩) n cap, .int .i64 0, .int .i64 n] w fun e w' => e = .returned (.tuple #[]) ∧ Srow base g n cap w (Tr.sortS ss) w' := by
  have HL := Lib.hid hl
  have F0 : Hid (Srow base g n cap w (ss.take 1 ++ ss.drop 1) w) := by rw [Hid, List.take_append_drop]; exact ⟨h, World.grownBy.refl _ _⟩
  have I0 := Lib.hid (Insd.one (le := Tr.leS) ss (by omega))
  clear hl h
  go_enter Try.func138, Try.ntmps138
  go_wp2_with fail
  go_loopw [6] (fun i wr => ∃ (k : Nat) (S : List (List UInt8)), 1 ≤ k ∧ k ≤ n ∧ i = .int .i64 k ∧ Hid (Insd Tr.leS ss k S) ∧ Srow base g n cap w (S ++ ss.drop k) wr) (fun i _ => n - (intOf i).toNat)
  case atStart => exact ⟨1, _, Nat.le_refl _, h1, rfl, I0, F0.out⟩
  case round =>
    obtain ⟨i, S, i1, hi, rfl, HI, HF⟩ := hrel
    by_cases hlt : i < n
    · obtain ⟨x, hx⟩ := at_lt (show i < ss.length by rw [HL.out]; exact hlt)
      have HX := Lib.hid hx
      have hin : Hid (∀ j T W, j ≤ i → Srow base g n cap w (insAt S j x (ss.drop (i + 1))) W → Insd Tr.leS ss (i + 1) T → T = S.take j ++ x :: S.drop j → Srow base g n cap w (T ++ ss.drop (i + 1)) W) := by
        intro j T W hj hW hT e
        subst e
        unfold insAt at hW
        simpa using hW
      have F1 : Hid (Srow base g n cap w (insAt S i x (ss.drop (i + 1))) wr) := by
        rw [Hid]
        have e := insAt_start (S := S) (R := ss.drop (i + 1)) (x := x)
        rw [HI.out.len] at e
        rw [e]
        have e2 : ss.drop i = x :: ss.drop (i + 1) := by
          have hlt2 : i < ss.length := by rw [HL.out]; exact hlt
          rw [List.drop_eq_getElem_cons hlt2]
          rw [List.getElem?_eq_getElem hlt2] at hx
          injection hx with hx
          rw [hx]
        rw [← e2]; exact HF
      clear hx HF F0 I0
      go_wp2_with fail
      go_loopw [7] (fun jj wr => ∃ j : Nat, j ≤ i ∧ jj = .int .i64 j ∧ Hid (∀ s ∈ S.drop j, Tr.leS x s = true) ∧ Srow base g n cap w (insAt S j x (ss.drop (i + 1))) wr) (fun jj _ => (intOf jj).toNat)
      case atStart => exact ⟨i, Nat.le_refl _, rfl, (fun s hs => by rw [List.drop_of_length_le (by rw [HI.out.len]; exact Nat.le_refl _)] at hs; cases hs), F1.out⟩
      case round =>
        obtain ⟨j, hj, rfl, HD, HF⟩ := hrel
        by_cases h0 : j = 0
        · have G : Hid (∃ T, Insd Tr.leS ss (i + 1) T ∧ Srow base g n cap w (T ++ ss.drop (i + 1)) wr) :=
            have hT := HI.out.step (le := Tr.leS) Tr.leS_tr HX.out HD.out hj (fun y hy => by omega)
            ⟨_, hT, hin.out j _ _ hj HF hT rfl⟩
          obtain rfl : j = 0 := h0
          obtain ⟨T, hT, hW⟩ := G.out
          have GT := Lib.hid hT
          have GW := Lib.hid hW
          clear HF HD F1 G hT hW hin
          go_wp2_with fail
          go_quiet (fail)
          go_wp2
          go_roundw
          case rel => exact ⟨i + 1, T, by omega, by omega, by go_num, GT, GW.out.drewN _⟩
          case measure => simp [intOf]; omega
        · obtain ⟨k, rfl⟩ : ∃ k, j = k + 1 := ⟨j - 1, by omega⟩
          obtain ⟨y, hy⟩ := at_lt (show k < S.length by rw [HI.out.len]; omega)
          have hjl : k + 1 ≤ S.length := by rw [HI.out.len]; exact hj
          have c1 := HF.1.cellAt (k + 1) (by omega)
          have c2 := HF.1.cellAt k (by omega)
          have f1 := HF.1.frozenAt (k + 1)
          have f2 := HF.1.frozenAt k
          rw [strs_at (insAt_x hjl)] at c1
          rw [strs_at (insAt_y hjl hy)] at c2
          have hd : decide ((0 : Int) < (k : Int) + 1) = true := decide_eq_true (by omega)
          cases hyx : Tr.leS y x
          · have HD2 : Hid (∀ s ∈ S.drop k, Tr.leS x s = true) := ins_low HD.out hy (Tr.leS_to hyx)
            have HS : Hid (insAt S k x (ss.drop (i + 1)) = ((insAt S (k + 1) x (ss.drop (i + 1))).set (k + 1) y).set k x) := (insAt_swap hjl hy).symm
            have G : Hid (∀ m, Srow base g n cap w (insAt S k x (ss.drop (i + 1))) (((wr.drewN m).setCell ⟨g, k + 1, none⟩ (.string ⟨y.toArray⟩)).setCell ⟨g, k, none⟩ (.string ⟨x.toArray⟩))) := fun m => by rw [HS.out]; exact (HF.drewN m).swap
            clear HF HD F1 hjl hy hin h0 HS
            have C0 : ∀ w : World, Calls Try.prog 144 #[.string ⟨x.toArray⟩, .string ⟨y.toArray⟩] w fun e w' => e = .returned (.bool true) ∧ w = w' := fun w => by have := treeLess_any x y w; rw [hyx] at this; exact this
            go_wp2_with fail
            go_quiet ((go_at_call 144; exact quietL (C0 _)))
            go_wp2_with fail
            go_region
            go_wp2
            go_roundw
            case rel => exact ⟨k, by omega, by go_num, HD2, G.out _⟩
            case measure => simp [intOf]
          · have G : Hid (∃ T, Insd Tr.leS ss (i + 1) T ∧ Srow base g n cap w (T ++ ss.drop (i + 1)) wr) :=
              have hT := HI.out.step (le := Tr.leS) Tr.leS_tr HX.out HD.out hj (fun z _ hz => by rw [Nat.add_sub_cancel, hy] at hz; injection hz with hz; rw [← hz]; exact hyx)
              ⟨_, hT, hin.out (k + 1) _ _ hj HF hT rfl⟩
            obtain ⟨T, hT, hW⟩ := G.out
            have GT := Lib.hid hT
            have GW := Lib.hid hW
            clear HF HD F1 G hT hW hin hjl hy h0
            have C0 : ∀ w : World, Calls Try.prog 144 #[.string ⟨x.toArray⟩, .string ⟨y.toArray⟩] w fun e w' => e = .returned (.bool false) ∧ w = w' := fun w => by have := treeLess_any x y w; rw [hyx] at this; exact this
            go_wp2_with fail
            go_quiet ((go_at_call 144; exact quietL (C0 _)))
            go_wp2
            go_roundw
            case rel => exact ⟨i + 1, T, by omega, by omega, by go_num, GT, GW.out.drewN _⟩
            case measure => simp [intOf]; omega
    · obtain rfl : i = n := by omega
      have G : Hid (Srow base g i cap w (Tr.sortS ss) wr) := by
        have e := HI.out.eq (fun h k => Tr.leS_as h k) HL.out (Tr.sortS_perm ss) (Tr.sortS_sorted ss)
        rw [e, List.drop_of_length_le (by rw [HL.out]; exact Nat.le_refl _), List.append_nil] at HF
        exact HF
      clear HF F0 HI I0
      go_wp2
      go_end0
      exact ⟨rfl, G.out⟩
theorem bitsLen_any (n : Nat) (hn : n ≤ 12) (w : World) : Calls Try.prog 148 #[.int .u64 n] w fun e w' => (∃ l : Int, e = .returned (.int .i64 l)) ∧ w = w' := by
  have h : n = 0 ∨ n = 1 ∨ n = 2 ∨ n = 3 ∨ n = 4 ∨ n = 5 ∨ n = 6 ∨ n = 7 ∨ n = 8 ∨ n = 9 ∨ n = 10 ∨ n = 11 ∨ n = 12 := by omega
  rcases h with rfl | rfl | rfl | rfl | rfl | rfl | rfl | rfl | rfl | rfl | rfl | rfl | rfl
  all_goals
    go_enter Try.func148, Try.ntmps148
    go_wp2
    go_ret
    exact ⟨⟨_, rfl⟩, rfl⟩
theorem bitsLen (n : Nat) (hn : n ≤ 12) (w : World) : Calls Try.prog 131 #[.int .u64 n] w fun e w' => (∃ l : Int, e = .returned (.int .i64 l)) ∧ w = w' := by
  go_enter Try.func131, Try.ntmps131
  go_wp2_with fail
  refine (bitsLen_any n hn _).mono ?_
  rintro e w' ⟨⟨l, rfl⟩, rfl⟩
  go_wp2
  go_ret
  exact ⟨⟨_, rfl⟩, rfl⟩
/-- what a sort leaves -/
def Sorted (base n : Nat) (v : Value) (w : World) (ls : List (List UInt8)) (e : Ending) (w' : World) : Prop := e = .returned (.tuple #[]) ∧ w'.ownsRow base 73 1 v n (strs ls) ∧ w.grownBy w' v.ownBlock
theorem treeInsert_all (A : Option Addr) (base n c : Nat) (ss : List (List UInt8)) (w : World) (hn : n ≤ 12) (h : w.ownsRow base 73 1 (.slice A n c) n (strs ss)) :
    Calls Try.prog 138 #[.slice A n c, .int .i64 0, .int .i64 n] w (Sorted base n (.slice A n c) w (Tr.sortS ss)) := by
  have hl : ss.length = n := by rw [← strs_length]; exact own_len h
  rcases Nat.eq_zero_or_pos n with h0 | h0
  · subst h0
    have e : ss = [] := List.eq_nil_of_length_eq_zero hl
    subst e
    clear hl
    go_enter Try.func138, Try.ntmps138
    go_wp2_with fail
    go_loopw [6] (fun i wr => i = .int .i64 1 ∧ wr = w) (fun i _ => 0)
    case atStart => exact ⟨rfl, rfl⟩
    case round =>
      obtain ⟨rfl, rfl⟩ := hrel
      go_wp2
      go_end0
      exact ⟨rfl, h, World.grownBy.refl _ _⟩
  · obtain ⟨g, cap, hv⟩ := own_form h h0
    injection hv with hA _ hcap
    subst hA hcap
    refine (treeInsert_any base g n c ss w hl h0 hn h).mono ?_
    rintro e w' ⟨rfl, h1, h2⟩
    exact ⟨rfl, h1, h2⟩
theorem treePdq_any (A : Option Addr) (base n c : Nat) (ss : List (List UInt8)) (l : Int) (w : World) (hn : n ≤ 12) (h : w.ownsRow base 73 1 (.slice A n c) n (strs ss)) :
    Calls Try.prog 130 #[.slice A n c, .int .i64 0, .int .i64 n, .int .i64 l] w (Sorted base n (.slice A n c) w (Tr.sortS ss)) := by
  go_enter Try.func130, Try.ntmps130
  go_wp2_with fail
  go_loopw [1, 2] (fun a b wr => a = .int .i64 0 ∧ b = .int .i64 n ∧ wr = w) (fun _ _ _ => 0)
  case atStart => exact ⟨rfl, rfl, rfl⟩
  case round =>
    obtain ⟨rfl, rfl, rfl⟩ := hrel
    go_wp2_with fail
    refine (treeInsert_all A base n c ss _ hn h).mono ?_
    rintro e w' ⟨rfl, h1, h2⟩
    go_wp2
    go_end0
    exact ⟨rfl, h1, h2⟩
theorem treeSort_any (A : Option Addr) (base n c : Nat) (ss : List (List UInt8)) (w : World) (hn : n ≤ 12) (h : w.ownsRow base 73 1 (.slice A n c) n (strs ss)) :
    Calls Try.prog 117 #[.slice A n c] w (Sorted base n (.slice A n c) w (Tr.sortS ss)) := by
  go_enter Try.func117, Try.ntmps117
  go_wp2_with fail
  refine (bitsLen n hn _).mono ?_
  rintro e w' ⟨⟨l, rfl⟩, rfl⟩
  go_wp2_with fail
  refine (treePdq_any A base n c ss l _ hn h).mono ?_
  rintro e w' ⟨rfl, h1, h2⟩
  go_wp2
  go_end0
  exact ⟨rfl, h1, h2⟩
end Go.Proofs.Ytnnihdkhblbdgaa
/-
  Texts of trees: one after the other, and the tree on some branches.
-/
namespace Go.Proofs.Ytnnihdkhblbdgaa
open Go.RowKit Fld
set_option linter.unusedVariables false
set_option linter.unusedSimpArgs false
set_option maxRecDepth 100000

theorem bytes_S (l : List UInt8) : Lib.strCells ⟨l.toArray⟩ = Lib.byteCells l := rfl
theorem size_S (l : List UInt8) : (⟨l.toArray⟩ : ByteArray).size = l.length := by simp [ByteArray.size]
theorem flat_take {ss : List (List UInt8)} {k : Nat} {x : List UInt8} (h : ss[k]? = some x) : (ss.take (k + 1)).flatten = (ss.take k).flatten ++ x := by
  rw [List.take_add_one, h]; simp
theorem flat_le (ss : List (List UInt8)) (k : Nat) : (ss.take k).flatten.length ≤ ss.flatten.length := by
  have : ss.flatten = (ss.take k).flatten ++ (ss.drop k).flatten := by rw [← List.flatten_append, List.take_append_drop]
  rw [this, List.length_append]; omega
theorem textOf_any (A : Option Addr) (n c B : Nat) (ss : List (List UInt8)) (w : World) (hl : ss.length = n) (hn : n ≤ 1048576) (ht : ss.flatten.length ≤ 1048576) (hB : B ≤ w.heap.size) (h : Row w B A (strs ss)) :
    Calls Try.prog 118 #[.slice A n c] w fun e w' => e = .returned (.string ⟨ss.flatten.toArray⟩) ∧ Below w.heap.size w w' := by
  have HL := Lib.hid hl
  have HT := Lib.hid ht
  clear hl ht
  go_enter Try.func118, Try.ntmps118
  go_wp2_with fail
  go_loopw [8] (fun i wr => ∃ k : Nat, k ≤ n ∧ i = .int .i64 k ∧ Lib.IsBuilder 133 5 w.heap.size w.heap.size (Lib.byteCells (ss.take k).flatten) wr ∧ Below w.heap.size w wr) (fun i _ => n - (intOf i).toNat)
  case atStart => exact ⟨0, Nat.zero_le _, rfl, Lib.fresh_isBuilder _ _ _, (Below.refl _ _).alloc (Nat.le_refl _) _⟩
  case round =>
    obtain ⟨k, hk, rfl, HI, HB⟩ := hrel
    have hsz := HB.size
    by_cases hlt : k < n
    · obtain ⟨x, hx⟩ := at_lt (show k < ss.length by rw [HL.out]; exact hlt)
      obtain ⟨b, o, rfl, _, hc⟩ := h.below HB hB k _ (strs_at hx)
      have HX := Lib.hid (flat_take hx)
      have hsx : (⟨x.toArray⟩ : ByteArray).size = x.length := size_S x
      have hle : (Lib.byteCells (ss.take k).flatten).length + (⟨x.toArray⟩ : ByteArray).size ≤ 1048576 := by
        have h1 := flat_le ss (k + 1)
        rw [HX.out, List.length_append] at h1
        have := HT.out
        rw [Lib.byteCells_length, size_S]; omega
      have HI' := Lib.hid HI
      have HB' := Lib.hid HB
      clear hx HI HB hsx
      go_wp2_with fail
      refine (bld_write w.heap.size w.heap.size _ _ _ HI'.out hle hsz).mono ?_
      rintro e w2 ⟨rfl, h1, b1⟩
      have G : Hid (Lib.IsBuilder 133 5 w.heap.size w.heap.size (Lib.byteCells (ss.take (k + 1)).flatten) w2) := by
        rw [Hid, HX.out, Lib.byteCells_append]; exact .inr h1
      have GB := Lib.hid (HB'.out.trans b1)
      clear h1 b1 HI' HB'
      go_wp2
      go_roundw
      case rel => exact ⟨k + 1, by omega, by go_num, G.out, GB.out⟩
      case measure => simp [intOf]; omega
    · obtain rfl : k = n := by omega
      rw [List.take_of_length_le (by rw [HL.out]; exact Nat.le_refl _)] at HI
      have HB' := Lib.hid HB
      clear HB
      go_wp2_with fail
      refine (Try.Builder_String_any w.heap.size w.heap.size _ _ HI hsz).mono ?_
      rintro e w2 ⟨rfl, b1⟩
      have GB := Lib.hid (HB'.out.trans b1)
      clear b1 HB'
      go_wp2
      go_ret
      exact ⟨rfl, GB.out⟩
theorem flat_sorted (ss : List (List UInt8)) : (Tr.sortS ss).flatten.length = ss.flatten.length := by
  rw [List.length_flatten, List.length_flatten]
  exact ((Tr.sortS_perm ss).map _).sum_nat
theorem rootOn_any (A : Option Addr) (base n c : Nat) (ss : List (List UInt8)) (w : World) (hn : n ≤ 12) (ht : ss.flatten.length ≤ 1048574) (hB : base ≤ w.heap.size) (h : w.ownsRow base 73 1 (.slice A n c) n (strs ss)) :
    Calls Try.prog 92 #[.slice A n c] w fun e w' => e = .returned (.string ⟨(Tr.wrap (Tr.sortS ss)).toArray⟩) ∧ Below base w w' := by
  have hl : ss.length = n := by rw [← strs_length]; exact own_len h
  go_enter Try.func92, Try.ntmps92
  go_wp2_with fail
  refine (treeSort_any A base n c ss _ hn h).mono ?_
  rintro e w1 ⟨rfl, ho, hg⟩
  have b1 : Below base w w1 := (Below.refl _ _).grown hg hB (fun b hb => (h.lt b hb).1)
  have hs1 := hg.size
  clear h hg
  go_wp2_with fail
  have hcall := textOf_any A n c w1.heap.size (Tr.sortS ss) w1 (by rw [Tr.sortS_length]; exact hl) (by omega) (by rw [flat_sorted]; omega) (Nat.le_refl _) (row_of_own ho)
  obtain ⟨L, hL⟩ : ∃ L, L = (Tr.sortS ss).flatten := ⟨_, rfl⟩
  have hz : L.length ≤ 1048574 := by rw [hL, flat_sorted]; exact ht
  have GW : Hid (Tr.wrap (Tr.sortS ss) = [91] ++ L ++ [93]) := by rw [hL]; rfl
  rw [← hL] at hcall
  clear hL ht ho hl
  refine hcall.mono ?_
  rintro e w2 ⟨rfl, b2⟩
  have GB := Lib.hid (b1.trans (b2.mono (by omega)))
  have GE : Hid (∀ z : ByteArray, z = ByteArray.mk #[91] ++ ⟨L.toArray⟩ ++ ByteArray.mk #[93] → z = ⟨(Tr.wrap (Tr.sortS ss)).toArray⟩) := fun z hz => by
    rw [hz, show (ByteArray.mk #[91]) = ⟨([91] : List UInt8).toArray⟩ from rfl, show (ByteArray.mk #[93]) = ⟨([93] : List UInt8).toArray⟩ from rfl, ByteArray.mk_append_mk, ByteArray.mk_append_mk, GW.out]
  clear b1 b2 hcall
  go_wp2
  go_ret
  refine ⟨?_, GB.out⟩
  rw [GE.out _ rfl]
  rfl
end Go.Proofs.Ytnnihdkhblbdgaa
/-
  The program's tree of a list: its text.
-/
namespace Go.Proofs.Ytnnihdkhblbdgaa
open Go.RowKit Fld
set_option linter.unusedVariables false
set_option linter.unusedSimpArgs false
set_option maxRecDepth 100000

theorem tw_at {x : Int} : ∀ {l : List Int} {k : Nat}, (∀ j y, j < k → l[j]? = some y → x < y) → (∀ y, l[k]? = some y → ¬ x < y) → k ≤ l.length → l.takeWhile (fun y => decide (x < y)) = l.take k ∧ l.dropWhile (fun y => decide (x < y)) = l.drop k
  | [], k, _, _, h => by simp
  | a :: l, 0, _, h, _ => by
    have := h a rfl
    simp [this]
  | a :: l, k+1, h1, h2, h3 => by
    have ha := h1 0 a (by omega) rfl
    obtain ⟨e1, e2⟩ := tw_at (l := l) (k := k) (fun j y hj hy => h1 (j + 1) y (by omega) hy) (fun y hy => h2 y hy) (by simpa using h3)
    simp [ha, e1, e2]
/-- a part of a list begins at st and ends at e -/
theorem spl_step {t : List Int} {f st e : Nat} {x : Int} (hx : t[st]? = some x) (h1 : ∀ j y, st < j → j < e → t[j]? = some y → x < y) (h2 : ∀ y, t[e]? = some y → ¬ x < y) (hst : st < e) (he : e ≤ t.length) :
    Tr.splF (f + 1) (t.drop st) = (t.drop st).take (e - st) :: Tr.splF f (t.drop e) := by
  have hlt : st < t.length := by omega
  have hd : t.drop st = x :: t.drop (st + 1) := by
    rw [List.drop_eq_getElem_cons hlt]
    rw [List.getElem?_eq_getElem hlt] at hx
    injection hx with hx
    rw [hx]
  obtain ⟨e1, e2⟩ := tw_at (x := x) (l := t.drop (st + 1)) (k := e - (st + 1)) (fun j y hj hy => h1 (st + 1 + j) y (by omega) (by omega) (by rw [List.getElem?_drop] at hy; exact hy)) (fun y hy => h2 y (by rw [List.getElem?_drop, show st + 1 + (e - (st + 1)) = e from by omega] at hy; exact hy)) (by rw [List.length_drop]; omega)
  rw [hd, Tr.splF, e1, e2, List.drop_drop, show e - st = (e - (st + 1)) + 1 from by omega, List.take_succ_cons, show st + 1 + (e - (st + 1)) = e from by omega]
theorem spl_nil (f : Nat) : Tr.splF f [] = [] := by cases f <;> rfl
theorem Row.part {w : World} {B b o : Nat} {t : List Int} (h : Row w B (some ⟨b, o, none⟩) (ints t)) (st k : Nat) : Row w B (some ⟨b, o + st, none⟩) (ints ((t.drop st).take k)) := fun j v hv => by
  have hj : ((t.drop st).take k)[j]? ≠ none := fun e => by
    unfold ints intsK at hv
    rw [List.getElem?_map, e] at hv; cases hv
  obtain ⟨x, hx⟩ := Option.ne_none_iff_exists'.1 hj
  rw [ints_at hx] at hv
  injection hv with hv
  subst hv
  rw [List.getElem?_take] at hx
  split at hx
  · rw [List.getElem?_drop] at hx
    obtain ⟨b', o', e', hb, hc⟩ := h (st + j) _ (ints_at hx)
    cases e'
    exact ⟨b, o + st, rfl, hb, by rw [Nat.add_assoc]; exact hc⟩
  · cases hx
theorem info_tree : (Try.prog.info? 73).map (fun i => (i.zero, i.size, i.bytes)) = some (some (.string ByteArray.empty), 1, 16) := by kernel_rfl
theorem spl_flat : ∀ (f : Nat) (l : List Int), l.length ≤ f → (Tr.splF f l).flatten = l
  | 0, l, h => by have : l = [] := List.eq_nil_of_length_eq_zero (by omega); subst this; rfl
  | f+1, [], _ => rfl
  | f+1, x :: xs, h => by
    have h1 : (xs.dropWhile fun y => decide (x < y)).length ≤ f := by
      have := (List.dropWhile_sublist (fun y => decide (x < y)) (l := xs)).length_le
      simp at h; omega
    rw [Tr.splF, List.flatten_cons, spl_flat f _ h1, List.cons_append, List.takeWhile_append_dropWhile]
theorem spl_mem : ∀ (f : Nat) (l : List Int) (p : List Int), p ∈ Tr.splF f l → 1 ≤ p.length
  | 0, l, p, h => by simp [Tr.splF] at h
  | f+1, [], p, h => by simp [Tr.splF] at h
  | f+1, x :: xs, p, h => by
    rw [Tr.splF, List.mem_cons] at h
    rcases h with rfl | h
    · simp
    · exact spl_mem f _ p h
theorem sum_two (L : List (List Int)) (f : List Int → List UInt8) (h : ∀ p ∈ L, (f p).length = 2 * p.length) : ((L.map f).flatten).length = 2 * L.flatten.length := by
  induction L with
  | nil => rfl
  | cons a r ih =>
    have h1 := h a (by simp)
    have h2 := ih (fun p hp => h p (by simp [hp]))
    rw [List.map_cons, List.flatten_cons, List.flatten_cons, List.length_append, List.length_append, h1, h2]; omega
theorem part_le {L : List (List Int)} {p : List Int} (h : p ∈ L) : p.length ≤ L.flatten.length := by
  induction L with
  | nil => cases h
  | cons a r ih =>
    rw [List.flatten_cons, List.length_append]
    rcases List.mem_cons.1 h with rfl | h
    · omega
    · have := ih h; omega
theorem txt_len : ∀ (d : Nat) (t : List Int), 1 ≤ t.length → t.length ≤ d → (Tr.txtF d t).length = 2 * t.length
  | 0, t, h1, h2 => by omega
  | d+1, t, h1, h2 => by
    have hf := spl_flat t.length (t.drop 1) (by rw [List.length_drop]; omega)
    have hs := sum_two (Tr.splF t.length (t.drop 1)) (Tr.txtF d) (fun p hp => by
      have a1 := spl_mem _ _ p hp
      have a2 := part_le hp
      rw [hf, List.length_drop] at a2
      exact txt_len d p a1 (by omega))
    rw [hf, List.length_drop] at hs
    rw [Tr.txtF, Tr.wrap, List.length_cons, List.length_append, flat_sorted, hs]
    simp; omega
def TreeOf (d : Nat) : Prop := ∀ (A : Option Addr) (n c B : Nat) (t : List Int) (w : World), t.length = n → 1 ≤ n → n ≤ d → n ≤ c → B ≤ w.heap.size → Row w B A (ints t) →
    Calls Try.prog 59 #[.slice A n c] w fun e w' => e = .returned (.string ⟨(Tr.txtF d t).toArray⟩) ∧ Below w.heap.size w w'
theorem treeOf_zero : TreeOf 0 := fun A n c B t w hl h1 h2 => by omega
set_option maxHeartbeats 1000000 in
theorem treeOf_succ (d : Nat) (hd : d + 1 ≤ 8) (IH : TreeOf d) : TreeOf (d + 1) := by
  obtain ⟨i0, hi, hz0, hz1, hz2⟩ := info_parts info_tree
  intro A n c B t w hl h1 hnd hnc hB h
  obtain ⟨x0, hx0⟩ := at_lt (show 0 < t.length by omega)
  obtain ⟨b, o, rfl, _, _⟩ := h 0 _ (ints_at hx0)
  have HL := Lib.hid hl
  have HN : Hid (n ≤ d + 1) := hnd
  have n8 : n ≤ 8 := by omega
  clear hl hx0 hnd
  go_enter Try.func59, Try.ntmps59
  go_wp2_with fail
  go_loopw [3, 4] (fun v s wr => ∃ (st k f : Nat) (Av : Option Addr) (cv : Nat) (done : List (List Int)), 1 ≤ st ∧ st ≤ n ∧ k + 1 ≤ st ∧ v = .slice Av k cv ∧ s = .int .i64 st ∧ Hid (n ≤ st + f) ∧ Hid (Tr.splF n (t.drop 1) = done ++ Tr.splF f (t.drop st)) ∧ wr.ownsRow w.heap.size 73 1 (.slice Av k cv) k (strs (done.map (Tr.txtF d))) ∧ Below w.heap.size w wr) (fun _ s _ => n - (intOf s).toNat)
  case atStart => exact ⟨1, 0, n, none, 0, [], Nat.le_refl _, h1, Nat.le_refl _, rfl, rfl, Nat.le_add_left _ _, rfl, World.ownsRow_nil .., Below.refl _ _⟩
  case round =>
    obtain ⟨st, k, f, Av, cv, done, s1, s2, hk, rfl, rfl, HF, HS, ho, HB⟩ := hrel
    have hsz := HB.size
    by_cases hlt : st < n
    · obtain ⟨x, hx⟩ := at_lt (show st < t.length by rw [HL.out]; exact hlt)
      obtain ⟨_, _, e1, _, hcx⟩ := h.below HB hB st _ (ints_at hx)
      cases e1
      have HX := Lib.hid hx
      have HO := Lib.hid ho
      have HBB := Lib.hid HB
      clear hx ho HB
      go_wp2_with fail
      go_loopw [5] (fun ee wr2 => ∃ e m : Nat, st < e ∧ e ≤ n ∧ ee = .int .i64 e ∧ wr2 = wr.drewN m ∧ Hid (∀ j y, st < j → j < e → t[j]? = some y → x < y)) (fun ee _ => n - (intOf ee).toNat)
      case atStart => exact ⟨st + 1, 0, by omega, by omega, by go_num, rfl, fun j y h1 h2 => by omega⟩
      case round =>
        obtain ⟨e, m, e1, e2, rfl, rfl, HE⟩ := hrel
        have hxw : ∀ m, (wr.drewN m).cell? ⟨b, o + st, none⟩ = some (.int .i64 x) := fun m => hcx
        have GO : Hid (∀ M, Calls Try.prog 59 #[.slice (some ⟨b, o + st, none⟩) (e - st) (c - st)] (wr.drewN M) fun e1 w2 => e1 = .returned (.string ⟨(Tr.txtF d ((t.drop st).take (e - st))).toArray⟩) ∧ w2.ownsRow w.heap.size 73 1 (.slice Av k cv) k (strs (done.map (Tr.txtF d))) ∧ Below w.heap.size w w2) := fun M =>
          (IH _ (e - st) (c - st) (wr.drewN M).heap.size ((t.drop st).take (e - st)) _ (by rw [List.length_take, List.length_drop, HL.out]; omega) (by omega) (by have := HN.out; omega) (by omega) (Nat.le_refl _) (((h.below HBB.out hB).more (by show B ≤ wr.heap.size; omega)).drewN M |>.part st (e - st))).mono fun e1 w2 ⟨he1, b2⟩ =>
            ⟨he1, (((OwnR.of HO.out).drewN M).below b2 (Nat.le_refl _)).1, (below_drewN HBB.out M).trans (b2.mono (by show w.heap.size ≤ wr.heap.size; omega))⟩
        have GS : Hid (e = n ∨ (∃ y, t[e]? = some y ∧ ¬ x < y) → n ≤ e + (f - 1) ∧ Tr.splF n (t.drop 1) = (done ++ [(t.drop st).take (e - st)]) ++ Tr.splF (f - 1) (t.drop e)) := fun hc => by
          have hf := HF.out
          refine ⟨by omega, ?_⟩
          have e3 := spl_step (f := f - 1) HX.out HE.out (fun y hy => by
            rcases hc with hc | ⟨z, hz, hxz⟩
            · rw [List.getElem?_eq_none (by rw [HL.out]; omega)] at hy; cases hy
            · rw [hz] at hy; injection hy with hy; rw [← hy]; exact hxz) e1 (by rw [HL.out]; exact e2)
          rw [HS.out, show f = f - 1 + 1 from by omega, e3]
          simp
        by_cases hen : e < n
        · obtain ⟨y, hy⟩ := at_lt (show e < t.length by rw [HL.out]; exact hen)
          obtain ⟨_, _, e3, _, hcy⟩ := h.below HBB.out hB e _ (ints_at hy)
          cases e3
          have hcy' : ∀ m, (wr.drewN m).cell? ⟨b, o + e, none⟩ = some (.int .i64 y) := fun m => hcy
          have hd1 : decide ((e : Int) < (n : Int)) = true := decide_eq_true (by omega)
          by_cases hxy : x < y
          · have hd2 : decide (x < y) = true := decide_eq_true hxy
            have HE2 : Hid (∀ j z, st < j → j < e + 1 → t[j]? = some z → x < z) := fun j z h1 h2 hz => by
              by_cases hje : j = e
              · subst hje; rw [hy] at hz; injection hz with hz; rw [← hz]; exact hxy
              · exact HE.out j z h1 (by omega) hz
            clear hy HE GS GO
            go_wp2_with fail
            go_quiet (fail)
            go_wp2
            go_roundw
            case rel => exact ⟨e + 1, _, by omega, by omega, by go_num, rfl, HE2⟩
            case measure => simp [intOf]; omega
          · have hd2 : decide (x < y) = false := decide_eq_false hxy
            have GS2 := Lib.hid (GS.out (.inr ⟨y, hy, hxy⟩))
            clear hy HE GS
            go_wp2_with fail
            go_quiet (fail)
            go_wp2_with fail
            refine (GO.out _).mono ?_
            rintro e1 w2 ⟨rfl, own2, b2⟩
            have hs2 := b2.size
            have HB2 := Lib.hid b2
            have HO2 := Lib.hid own2
            clear b2 GO
            go_wp2_with (at_builtin; (refine wpList_append_lies _ rfl (.tmp 29) (.tmp 35) 91 rfl w.heap.size 73 i0 _ 1 16 Try.underlying91 hi hz0 hz1 hz2 rfl (by omega) (.slice Av k cv) k (strs (done.map (Tr.txtF d))) rfl (own2.alloc _) ⟨w2.heap.size, 0, none⟩ 1 1 [.string ⟨(Tr.txtF d ((t.drop st).take (e - st))).toArray⟩] rfl rfl (World.news_of_block (cs := #[.string ⟨(Tr.txtF d ((t.drop st).take (e - st))).toArray⟩]) (heap_alloc_new _ _)) (by simp [Value.oneCell']) (by omega) (by simp only [maxLen]; omega) (by omega) (by simp; omega) (w2.heap.size + 1) (by simp) ?_); intro g2 cap2 w3 hown2 hgrow2 hat2 hlt2)
            rw [show strs (done.map (Tr.txtF d)) ++ [.string ⟨(Tr.txtF d ((t.drop st).take (e - st))).toArray⟩] = strs ((done ++ [(t.drop st).take (e - st)]).map (Tr.txtF d)) by simp [strs]] at hown2
            have G3 := Lib.hid hown2
            have GB3 : Hid (Below w.heap.size w w3) := ((HB2.out.alloc hs2 _).grown hgrow2 (by simp; omega) (fun q hq => (HO2.out.lt q hq).1))
            clear hown2 hgrow2 hat2 own2
            go_wp2
            go_roundw
            case rel => exact ⟨e, k + 1, f - 1, _, _, _, by omega, by omega, by omega, rfl, by go_num, GS2.out.1, GS2.out.2, G3.out, GB3.out⟩
            case measure => simp [intOf]; omega
        · obtain rfl : e = n := by omega
          have hd1 : decide ((e : Int) < (e : Int)) = false := decide_eq_false (by omega)
          have GS2 := Lib.hid (GS.out (.inl rfl))
          clear HE GS
          go_wp2_with fail
          go_quiet (fail)
          go_wp2_with fail
          refine (GO.out _).mono ?_
          rintro e1 w2 ⟨rfl, own2, b2⟩
          have hs2 := b2.size
          have HB2 := Lib.hid b2
          have HO2 := Lib.hid own2
          clear b2 GO
          go_wp2_with (at_builtin; (refine wpList_append_lies _ rfl (.tmp 29) (.tmp 35) 91 rfl w.heap.size 73 i0 _ 1 16 Try.underlying91 hi hz0 hz1 hz2 rfl (by omega) (.slice Av k cv) k (strs (done.map (Tr.txtF d))) rfl (own2.alloc _) ⟨w2.heap.size, 0, none⟩ 1 1 [.string ⟨(Tr.txtF d ((t.drop st).take (e - st))).toArray⟩] rfl rfl (World.news_of_block (cs := #[.string ⟨(Tr.txtF d ((t.drop st).take (e - st))).toArray⟩]) (heap_alloc_new _ _)) (by simp [Value.oneCell']) (by omega) (by simp only [maxLen]; omega) (by omega) (by simp; omega) (w2.heap.size + 1) (by simp) ?_); intro g2 cap2 w3 hown2 hgrow2 hat2 hlt2)
          rw [show strs (done.map (Tr.txtF d)) ++ [.string ⟨(Tr.txtF d ((t.drop st).take (e - st))).toArray⟩] = strs ((done ++ [(t.drop st).take (e - st)]).map (Tr.txtF d)) by simp [strs]] at hown2
          have G3 := Lib.hid hown2
          have GB3 : Hid (Below w.heap.size w w3) := ((HB2.out.alloc hs2 _).grown hgrow2 (by simp; omega) (fun q hq => (HO2.out.lt q hq).1))
          clear hown2 hgrow2 hat2 own2
          go_wp2
          go_roundw
          case rel => exact ⟨e, k + 1, f - 1, _, _, _, by omega, by omega, by omega, rfl, by go_num, GS2.out.1, GS2.out.2, G3.out, GB3.out⟩
          case measure => simp [intOf]; omega
    · obtain rfl : st = n := by omega
      rw [List.drop_of_length_le (show t.length ≤ st by rw [HL.out]; exact Nat.le_refl _), spl_nil, List.append_nil] at HS
      have hf := spl_flat st (t.drop 1) (by rw [List.length_drop, HL.out]; omega)
      have hlen : (done.map (Tr.txtF d)).flatten.length = 2 * (st - 1) := by
        have h5 := sum_two done (Tr.txtF d) (fun p hp => by
          rw [← HS.out] at hp
          have a1 := spl_mem _ _ p hp
          have a2 := part_le hp
          rw [hf, List.length_drop, HL.out] at a2
          exact txt_len d p a1 (by have := HN.out; omega))
        rw [h5, ← HS.out, hf, List.length_drop, HL.out]
      have GE : Hid (Tr.txtF (d + 1) t = Tr.wrap (Tr.sortS (done.map (Tr.txtF d)))) := by rw [Hid, Tr.txtF, HL.out, HS.out]
      have HLEN := Lib.hid hlen
      have HBB := Lib.hid HB
      clear hf HS hlen HB
      go_wp2_with fail
      refine (rootOn_any Av w.heap.size k cv _ _ (by omega) (by rw [HLEN.out]; omega) hsz ho).mono ?_
      rintro e w2 ⟨rfl, b2⟩
      have GB := Lib.hid (HBB.out.trans b2)
      clear ho b2
      go_wp2
      go_ret
      exact ⟨by rw [GE.out]; rfl, GB.out⟩
theorem treeOf_upto : ∀ d, d ≤ 8 → TreeOf d
  | 0, _ => treeOf_zero
  | d+1, h => treeOf_succ d h (treeOf_upto d (by omega))
theorem treeOf_any (A : Option Addr) (n c B : Nat) (t : List Int) (w : World) (hl : t.length = n) (h1 : 1 ≤ n) (h8 : n ≤ 8) (hc : n ≤ c) (hB : B ≤ w.heap.size) (h : Row w B A (ints t)) :
    Calls Try.prog 59 #[.slice A n c] w fun e w' => e = .returned (.string ⟨(Tr.txt t).toArray⟩) ∧ Below w.heap.size w w' := treeOf_upto 8 (Nat.le_refl _) A n c B t w hl h1 h8 hc hB h
end Go.Proofs.Ytnnihdkhblbdgaa
/-
  The levels of a text of brackets.
-/
namespace Go.Proofs.Ytnnihdkhblbdgaa
open Go.RowKit Fld
set_option linter.unusedVariables false
set_option linter.unusedSimpArgs false
set_option maxRecDepth 100000

theorem nodes_any (l : List UInt8) (w : World) (hn : l.length ≤ 1048576) : Calls Try.prog 84 #[.string ⟨l.toArray⟩] w fun e w' => e = .returned (.int .i64 ((l.length / 2 : Nat) : Int)) ∧ w = w' := by
  obtain ⟨s, hs⟩ : ∃ s : ByteArray, s = ⟨l.toArray⟩ := ⟨_, rfl⟩
  have hz : s.size = l.length := by rw [hs]; exact size_S l
  rw [← hs, ← hz]
  rw [← hz] at hn
  clear hz hs
  go_enter Try.func84, Try.ntmps84
  go_wp2
  go_ret
  exact ⟨rfl, rfl⟩
theorem own_ne_iter {w : World} {lo : Nat} {T : TypeId} {v : Value} {n : Nat} {vs : List Value} {k : Nat} {s : ByteArray} {p : Nat} (h : w.ownsRow lo T 1 v n vs) (hk : w.heap[k]? = some (.stringIter s p)) : some k ≠ v.ownBlock := by
  intro e
  rcases h.2 with ⟨rfl, _⟩ | ⟨g, cap, cur, rfl, _, hg, _⟩
  · cases e
  · have e2 : k = g := by simpa [Value.ownBlock] using e
    subst e2
    rw [hk] at hg
    cases hg
theorem own_iterAt {w : World} {lo : Nat} {T : TypeId} {v : Value} {n : Nat} {vs : List Value} {k : Nat} {s : ByteArray} {p p' : Nat} (h : w.ownsRow lo T 1 v n vs) (hk : w.heap[k]? = some (.stringIter s p)) : (w.iterAt k s p').ownsRow lo T 1 v n vs := by
  have hne := own_ne_iter h hk
  refine ⟨h.1, ?_⟩
  rcases h.2 with h1 | ⟨g, cap, cur, hv, hb, hg, r⟩
  · exact .inl h1
  · refine .inr ⟨g, cap, cur, hv, hb, ?_, r⟩
    rw [Lib.iterAt_other _ _ _ _ _ (fun e => hne (by rw [hv, ← e]; simp [Value.ownBlock]))]
    exact hg
/-- all bytes are brackets -/
def Brk (s : List UInt8) : Prop := ∀ c ∈ s, c = 91 ∨ c = 93
theorem byte_at {s : List UInt8} {p : Nat} {c : UInt8} (h : s[p]? = some c) (hp : p < (⟨s.toArray⟩ : ByteArray).size) : (⟨s.toArray⟩ : ByteArray)[p]'hp = c := by
  have h1 : p < s.length := by rw [← size_S]; exact hp
  rw [List.getElem?_eq_getElem h1] at h
  exact Option.some.inj h
theorem lvl_open {s : List UInt8} {p : Nat} (h : s[p]? = some 91) (l : Int) : Tr.lvlF l (s.drop p) = l :: Tr.lvlF (l + 1) (s.drop (p + 1)) := by
  have hlt : p < s.length := by
    rcases Nat.lt_or_ge p s.length with g | g
    · exact g
    · rw [List.getElem?_eq_none g] at h; cases h
  rw [List.getElem?_eq_getElem hlt] at h
  injection h with h
  rw [List.drop_eq_getElem_cons hlt, h, Tr.lvlF, if_pos rfl]
theorem lvl_close {s : List UInt8} {p : Nat} (h : s[p]? = some 93) (l : Int) : Tr.lvlF l (s.drop p) = Tr.lvlF (l - 1) (s.drop (p + 1)) := by
  have hlt : p < s.length := by
    rcases Nat.lt_or_ge p s.length with g | g
    · exact g
    · rw [List.getElem?_eq_none g] at h; cases h
  rw [List.getElem?_eq_getElem hlt] at h
  injection h with h
  rw [List.drop_eq_getElem_cons hlt, h, Tr.lvlF, if_neg (by decide)]
set_option maxHeartbeats 1000000 in
theorem levels_any (s : List UInt8) (w : World) (hn : s.length ≤ 1048576) (hb : Brk s) :
    Calls Try.prog 125 #[.string ⟨s.toArray⟩] w (NewRow 2 (Tr.lvl s).length (ints (Tr.lvl s)) w) := by
  obtain ⟨i0, hi, hz0, hz1, hz2⟩ := info_parts info_i64
  have HB := Lib.hid hb
  have HN := Lib.hid hn
  obtain ⟨S, hS⟩ : ∃ S : ByteArray, S = ⟨s.toArray⟩ := ⟨_, rfl⟩
  have hsz : S.size = s.length := by rw [hS]; exact size_S s
  have HSZ := Lib.hid hsz
  have HS := Lib.hid hS
  have C0 := nodes_any s w hn
  rw [← hS] at C0 ⊢
  have hcap : s.length / 2 ≤ 1048576 := by omega
  obtain ⟨q, hq⟩ : ∃ q, q = s.length / 2 := ⟨_, rfl⟩
  rw [← hq] at C0 hcap
  clear hb hS hsz hn hq
  go_enter Try.func125, Try.ntmps125
  go_wp2_with fail
  refine C0.mono ?_
  rintro e w' ⟨rfl, rfl⟩
  go_wp2_with (at_make; refine wpList_make_own _ rfl _ _ 23 rfl w.heap.size 2 i0 (.int .i64 0) 1 Try.underlying23 hi hz0 hz1 .i64 .i64 _ q rfl rfl rfl (by rw [hz2]; omega) (by unfold maxLen; omega) (Nat.le_refl _) ?_; intro w1 hown hg)
  have HO1 := Lib.hid hown
  have HB1 : Hid (Below w.heap.size w w1) := (Below.refl _ _).grown hg (Nat.le_refl _) (fun k hk => by cases hk)
  have hs1 := hg.size
  clear hown hg
  go_loopw [3, 4] (fun v l wr => ∃ (p g cap : Nat) (lv : Int) (L : List Int), p ≤ S.size ∧ -(p : Int) ≤ lv ∧ lv ≤ p ∧ v = .slice (some ⟨g, 0, none⟩) L.length cap ∧ l = .int .i64 lv ∧ L.length ≤ p ∧ wr.heap[w1.heap.size]? = some (.stringIter S p) ∧ Hid (Tr.lvl s = L ++ Tr.lvlF lv (s.drop p)) ∧ Hid (wr.ownsRow w.heap.size 2 1 (.slice (some ⟨g, 0, none⟩) L.length cap) L.length (ints L)) ∧ Below w.heap.size w wr) (fun _ _ wr => S.size - wr.iterPos w1.heap.size)
  case atStart =>
    have hit := World.iter_heap w1 S 0
    exact ⟨0, _, q, 0, [], Nat.zero_le _, by omega, by omega, rfl, rfl, Nat.le_refl _, hit, rfl, HO1.out.alloc _, HB1.out.alloc (by omega) _⟩
  case round =>
    obtain ⟨p, g, cap, lv, L, hp, l0, l1, rfl, rfl, hL, hit, HE, HO, HBw⟩ := hrel
    have hlt := (Array.getElem?_eq_some_iff.1 hit).1
    by_cases hps : p < S.size
    · obtain ⟨c, hc⟩ := at_lt (show p < s.length by rw [← HSZ.out]; exact hps)
      have hbyte : S[p]'hps = c := by
        have hS := HS.out
        subst hS
        exact byte_at hc hps
      have hcb := HB.out c (List.mem_of_getElem? hc)
      have hasc : (S[p]'hps).toNat < 128 := by rw [hbyte]; rcases hcb with rfl | rfl <;> decide
      have hnx : ∀ ty, (Instr.next (.pointer (some ⟨w1.heap.size, 0, none⟩)) true ty).run Try.prog wr = _ := fun ty => Lib.run_next_ascii_at wr w1.heap.size S p ty hit hps hasc
      rw [hbyte] at hnx
      have hp3 : p + 1 ≤ 1048576 := by have := HSZ.out; have := HN.out; omega
      have HIT := Lib.hid hit
      have hit2 := Lib.iterAt_heap wr w1.heap.size S p (p + 1) hit
      have HO2 := Lib.hid (own_iterAt (p' := p + 1) HO.out hit)
      have HB2 := Lib.hid (Lib.below_iterAt HBw (k := w1.heap.size) hs1 S (p + 1))
      have hsz2 : (wr.iterAt w1.heap.size S (p + 1)).heap.size = wr.heap.size := Lib.iterAt_size ..
      rcases hcb with rfl | rfl
      · have HE2 : Hid (Tr.lvl s = (L ++ [lv]) ++ Tr.lvlF (lv + 1) (s.drop (p + 1))) := by rw [Hid, HE.out, lvl_open hc]; simp
        have e91 : ((91 : UInt8).toNat : Int) = 91 := rfl
        rw [e91] at hnx
        generalize hW : wr.iterAt w1.heap.size S (p + 1) = W at *
        have hown2 := HO2.out
        have HH2 := Lib.hid hit2
        have hW1 : w1.heap.size < W.heap.size := by omega
        have hW2 : w.heap.size ≤ W.heap.size := by omega
        clear hc hbyte hasc HE HBw HO hit hW hit2 hsz2
        go_wp2_with (at_builtin; (refine wpList_append_lies _ rfl (.tmp 17) (.tmp 19) 23 rfl w.heap.size 2 i0 _ 1 8 Try.underlying23 hi hz0 hz1 hz2 rfl (by omega) (.slice (some ⟨g, 0, none⟩) L.length cap) L.length (ints L) rfl (hown2.alloc _) ⟨W.heap.size, 0, none⟩ 1 1 [.int .i64 lv] rfl rfl (World.news_of_block (cs := #[.int .i64 lv]) (heap_alloc_new _ _)) (by simp [Value.oneCell']) (by omega) (by simp only [maxLen]; omega) (by omega) (by simp; omega) (W.heap.size + 1) (by simp) ?_); intro g2 cap2 w3 hown3 hgrow3 hat3 hlt3)
        have G3 : Hid (w3.ownsRow w.heap.size 2 1 (.slice (some ⟨g2, 0, none⟩) (L ++ [lv]).length cap2) (L ++ [lv]).length (ints (L ++ [lv]))) := by
          have e : ints L ++ [.int .i64 lv] = ints (L ++ [lv]) := by simp [ints, intsK]
          rw [e] at hown3
          rw [Hid, List.length_append]; exact hown3
        have GB3 : Hid (Below w.heap.size w w3) := (HB2.out.alloc hW2 _).grown hgrow3 (by simp; omega) (fun q hq => (HO2.out.lt q hq).1)
        have GI : Hid (w3.heap[w1.heap.size]? = some (.stringIter S (p + 1))) := by
          rw [Hid, hgrow3.block _ (by simp; omega) (own_ne_iter HO2.out HH2.out), Lib.alloc_old _ _ _ hW1]
          exact HH2.out
        have hl2 : (L ++ [lv]).length = L.length + 1 := by simp
        have HL2 := Lib.hid hl2
        clear hown3 hgrow3 hat3 hown2 hl2
        go_wp2
        go_roundw
        case rel => exact ⟨p + 1, g2, cap2, lv + 1, L ++ [lv], by omega, by omega, by omega, by rw [HL2.out], by go_num, by have := HL2.out; omega, GI.out, HE2, G3, GB3.out⟩
        case measure =>
          simp only [World.iterPos, GI.out, HIT.out]
          omega
      · have HE2 : Hid (Tr.lvl s = L ++ Tr.lvlF (lv - 1) (s.drop (p + 1))) := by rw [Hid, HE.out, lvl_close hc]
        have e93 : ((93 : UInt8).toNat : Int) = 93 := rfl
        rw [e93] at hnx
        generalize hW : wr.iterAt w1.heap.size S (p + 1) = W at *
        have HH2 := Lib.hid hit2
        clear hc hbyte hasc HE HBw HO hit hW hit2 hsz2
        go_wp2
        go_roundw
        case rel => exact ⟨p + 1, g, cap, lv - 1, L, by omega, by omega, by omega, rfl, by go_num, by omega, HH2.out, HE2, HO2, HB2.out⟩
        case measure =>
          simp only [World.iterPos, HH2.out, HIT.out]
          omega
    · have hnx : ∀ ty, (Instr.next (.pointer (some ⟨w1.heap.size, 0, none⟩)) true ty).run Try.prog wr = _ := fun ty => Lib.run_next_end_at wr w1.heap.size S p ty hit hps
      have e : Tr.lvl s = L := by
        have := HE.out
        rw [List.drop_of_length_le (by have := HSZ.out; omega), Tr.lvlF, List.append_nil] at this
        exact this
      have G : Hid (NewRow 2 (Tr.lvl s).length (ints (Tr.lvl s)) w (.returned (.slice (some ⟨g, 0, none⟩) L.length cap)) wr) := by rw [e]; exact ⟨_, _, rfl, HO.out, HBw⟩
      clear HBw HE e hit
      go_wp2
      go_ret
      exact G.out
end Go.Proofs.Ytnnihdkhblbdgaa
/-
  Lists compared: alike, less; the model's and the library's.
-/
namespace Go.Proofs.Ytnnihdkhblbdgaa
open Go.RowKit Fld
set_option linter.unusedVariables false
set_option linter.unusedSimpArgs false
set_option maxRecDepth 100000

set_option maxHeartbeats 400000 in
theorem l01Same_any (A A' : Option Addr) (n n' c c' B B' : Nat) (xs ys : List Int) (w : World) (hl : xs.length = n) (hl' : ys.length = n') (hn : n ≤ 9223372036854775807) (hn' : n' ≤ 9223372036854775807) (h : Row w B A (ints xs)) (h' : Row w B' A' (ints ys)) :
    Calls Try.prog 88 #[.slice A n c, .slice A' n' c'] w fun e w' => e = .returned (.bool (eqL xs ys)) ∧ ∃ m, w' = w.drewN m := by
  have HL := Lib.hid hl
  have HL' := Lib.hid hl'
  clear hl hl'
  by_cases hnn : n = n'
  · subst hnn
    go_enter Try.func88, Try.ntmps88
    go_wp2_with fail
    go_loopw [5] (fun i wr => ∃ k m : Nat, k ≤ n ∧ i = .int .i64 k ∧ wr = w.drewN m ∧ Hid (xs.take k = ys.take k)) (fun i _ => n - (intOf i).toNat)
    case atStart => exact ⟨0, 0, Nat.zero_le _, rfl, rfl, rfl⟩
    case round =>
      obtain ⟨k, m, hk, rfl, rfl, HT⟩ := hrel
      by_cases hlt : k < n
      · obtain ⟨x, hx⟩ := at_lt (show k < xs.length by rw [HL.out]; exact hlt)
        obtain ⟨y, hy⟩ := at_lt (show k < ys.length by rw [HL'.out]; exact hlt)
        obtain ⟨b, o, rfl, _, hc⟩ := h k _ (ints_at hx)
        obtain ⟨b', o', rfl, _, hc'⟩ := h' k _ (ints_at hy)
        by_cases hxy : x = y
        · subst hxy
          have G := Lib.hid (take_same HT.out hx hy)
          clear hx hy HT
          go_wp2_with fail
          go_quiet (fail)
          go_wp2
          go_roundw
          case rel => exact ⟨k + 1, _, by omega, by go_num, rfl, G⟩
          case measure => simp [intOf]; omega
        · have G := Lib.hid (eqL_at hx hy hxy)
          have t := bne_t hxy
          clear hx hy HT hxy
          go_wp2_with fail
          go_quiet (fail)
          go_wp2
          go_ret
          exact ⟨ret_bool G.out.symm, _, World.drewN_drewN ..⟩
      · obtain rfl : k = n := by omega
        have G := Lib.hid (eqL_end HT.out HL.out HL'.out)
        clear HT
        go_wp2
        go_ret
        exact ⟨ret_bool G.out.symm, _, rfl⟩
  · have G := Lib.hid (eqL_len (xs := xs) (ys := ys) (by rw [HL.out, HL'.out]; exact hnn))
    have t := bne_t (show (n : Int) ≠ (n' : Int) by omega)
    clear hnn
    go_enter Try.func88, Try.ntmps88
    go_wp2
    go_ret
    exact ⟨ret_bool G.out.symm, 0, rfl⟩
theorem less_at : ∀ {xs ys : List Int} {k : Nat} {x y : Int}, xs.take k = ys.take k → xs[k]? = some x → ys[k]? = some y → x ≠ y → Tr.lessL xs ys = decide (x < y)
  | [], ys, k, x, y, _, hx, _, _ => by simp at hx
  | a :: xs, [], k, x, y, _, _, hy, _ => by simp at hy
  | a :: xs, b :: ys, 0, x, y, _, hx, hy, hne => by
    simp at hx hy
    subst hx hy
    rw [Tr.lessL, if_neg hne]
  | a :: xs, b :: ys, k+1, x, y, h, hx, hy, hne => by
    simp only [List.take_succ_cons, List.cons.injEq] at h
    simp only [List.getElem?_cons_succ] at hx hy
    rw [Tr.lessL, if_pos h.1]
    exact less_at h.2 hx hy hne
theorem less_end : ∀ {xs ys : List Int} {k : Nat}, xs.take k = ys.take k → (xs.length = k ∨ ys.length = k) → Tr.lessL xs ys = decide (xs.length < ys.length)
  | [], [], k, _, _ => by simp [Tr.lessL]
  | [], b :: ys, k, _, _ => by simp [Tr.lessL]
  | a :: xs, [], k, _, _ => by simp [Tr.lessL]
  | a :: xs, b :: ys, 0, _, h => by simp at h
  | a :: xs, b :: ys, k+1, h, hl => by
    simp only [List.take_succ_cons, List.cons.injEq] at h
    simp only [List.length_cons, Nat.add_right_cancel_iff] at hl
    rw [Tr.lessL, if_pos h.1, less_end h.2 hl]
    simp
set_option maxHeartbeats 400000 in
theorem l01Less_any (A A' : Option Addr) (n n' c c' B B' : Nat) (xs ys : List Int) (w : World) (hl : xs.length = n) (hl' : ys.length = n') (hn : n ≤ 9223372036854775807) (hn' : n' ≤ 9223372036854775807) (h : Row w B A (ints xs)) (h' : Row w B' A' (ints ys)) :
    Calls Try.prog 127 #[.slice A n c, .slice A' n' c'] w fun e w' => e = .returned (.bool (Tr.lessL xs ys)) ∧ ∃ m, w' = w.drewN m := by
  have HL := Lib.hid hl
  have HL' := Lib.hid hl'
  clear hl hl'
  go_enter Try.func127, Try.ntmps127
  go_wp2_with fail
  go_loopw [5] (fun i wr => ∃ k m : Nat, k ≤ n ∧ k ≤ n' ∧ i = .int .i64 k ∧ wr = w.drewN m ∧ Hid (xs.take k = ys.take k)) (fun i _ => n - (intOf i).toNat)
  case atStart => exact ⟨0, 0, Nat.zero_le _, Nat.zero_le _, rfl, rfl, rfl⟩
  case round =>
    obtain ⟨k, m, hk, hk', rfl, rfl, HT⟩ := hrel
    by_cases hlt : k < n
    · by_cases hlt' : k < n'
      · obtain ⟨x, hx⟩ := at_lt (show k < xs.length by rw [HL.out]; exact hlt)
        obtain ⟨y, hy⟩ := at_lt (show k < ys.length by rw [HL'.out]; exact hlt')
        obtain ⟨b, o, rfl, _, hc⟩ := h k _ (ints_at hx)
        obtain ⟨b', o', rfl, _, hc'⟩ := h' k _ (ints_at hy)
        by_cases hxy : x = y
        · subst hxy
          have G := Lib.hid (take_same HT.out hx hy)
          clear hx hy HT
          go_wp2_with fail
          go_quiet (fail)
          go_wp2
          go_roundw
          case rel => exact ⟨k + 1, _, by omega, by omega, by go_num, rfl, G⟩
          case measure => simp [intOf]; omega
        · have G := Lib.hid (less_at HT.out hx hy hxy)
          have t := bne_t hxy
          clear hx hy HT hxy
          go_wp2_with fail
          go_quiet (fail)
          go_wp2_with fail
          go_quiet (fail)
          go_wp2
          go_ret
          exact ⟨by rw [G.out]; rfl, _, by rw [World.drewN_drewN, World.drewN_drewN]⟩
      · have G := Lib.hid (less_end HT.out (.inr (by rw [HL'.out]; omega)))
        rw [HL.out, HL'.out] at G
        clear HT
        go_wp2
        go_ret
        exact ⟨by rw [G.out]; rfl, _, rfl⟩
    · have G := Lib.hid (less_end HT.out (.inl (by rw [HL.out]; omega)))
      rw [HL.out, HL'.out] at G
      clear HT
      go_wp2
      go_ret
      exact ⟨by rw [G.out]; rfl, _, rfl⟩
end Go.Proofs.Ytnnihdkhblbdgaa
/-
  The program's canonical lists and its test on them.
-/
namespace Go.Proofs.Ytnnihdkhblbdgaa
open Go.RowKit Fld
set_option linter.unusedVariables false
set_option linter.unusedSimpArgs false
set_option maxRecDepth 100000

theorem wrap_brk {ss : List (List UInt8)} (h : ∀ x ∈ ss, Brk x) : Brk (Tr.wrap ss) := by
  intro c hc
  unfold Tr.wrap at hc
  rw [List.mem_cons, List.mem_append, List.mem_flatten, List.mem_singleton] at hc
  rcases hc with rfl | ⟨x, hx, hcx⟩ | rfl
  · exact .inl rfl
  · exact h x hx c hcx
  · exact .inr rfl
theorem txt_brk : ∀ (d : Nat) (t : List Int), Brk (Tr.txtF d t)
  | 0, t => fun c hc => by simp [Tr.txtF] at hc
  | d+1, t => by
    rw [Tr.txtF]
    refine wrap_brk fun x hx => ?_
    rw [(Tr.sortS_perm _).mem_iff, List.mem_map] at hx
    obtain ⟨p, _, rfl⟩ := hx
    exact txt_brk d p
theorem lv_txt {t : List Int} (h : Tr.isLv t = true) : Tr.lvl (Tr.txt t) = Tr.can t ∧ Tr.isLv (Tr.can t) = true ∧ (Tr.can t).length = t.length ∧ (Tr.txt t).length = 2 * t.length := by
  have h1 := Tr.all_of Tr.chk1_all (Tr.isLv_iff.1 h)
  unfold Tr.chk1 at h1
  simp only [Bool.and_eq_true, beq_iff_eq] at h1
  exact ⟨h1.1.1.1, h1.1.1.2, h1.1.2, h1.2⟩
theorem lv_bd {t : List Int} (h : Tr.isLv t = true) : 1 ≤ t.length ∧ t.length ≤ 8 := by
  have := Tr.isLv_iff.1 h
  exact ⟨this.1, this.2.1⟩
def isTr (t : List Int) : Bool := Tr.isLv t && eqL (Tr.can t) t
/-- levels of the text of a level list -/
theorem levelsOf_any (t : List Int) (w : World) (h : Tr.isLv t = true) : Calls Try.prog 125 #[.string ⟨(Tr.txt t).toArray⟩] w (NewRow 2 t.length (ints (Tr.can t)) w) := by
  obtain ⟨e1, _, e2, e3⟩ := lv_txt h
  have h1 := levels_any (Tr.txt t) w (by have := (lv_bd h).2; omega) (txt_brk _ _)
  rw [e1, e2] at h1
  exact h1
/-- what CanonicalTree is to answer -/
def canA (t : List Int) : List Int × Int := if Tr.isLv t = true then (Tr.can t, 0) else ([], 1)
theorem canA_yes {t : List Int} (h : Tr.isLv t = true) : canA t = (Tr.can t, 0) := if_pos h
theorem canA_no {t : List Int} (h : Tr.isLv t = false) : canA t = ([], 1) := if_neg (by rw [h]; simp)
end Go.Proofs.Ytnnihdkhblbdgaa
/-
  The model's branches of a list.
-/
namespace Go.Proofs.Ytnnihdkhblbdgaa
open Go.RowKit Fld
set_option linter.unusedVariables false
set_option linter.unusedSimpArgs false
set_option maxRecDepth 100000

/-- a number is added to a row, and the row laid into its place again -/
theorem OwnMat.app_row {w w2 : World} {lo hi n k q c g cap g2 c2 : Nat} {A : Option Addr} {m : List (List Int)} {vs : List Value} {r : List Int} {x : Int} {o : Obj}
    (h : OwnMat w lo hi (.slice (some ⟨g, 0, none⟩) n cap) n m vs) (hs : hi ≤ w.heap.size) (hk : m[k]? = some r) (hv : vs[k]? = some (.slice A q c)) (hq : r.length = q)
    (h2 : w2.ownsRow lo 2 1 (.slice (some ⟨g2, 0, none⟩) (q + 1) c2) (q + 1) (ints (r ++ [x]))) (hg : (w.alloc o).grownBy w2 (Value.ownBlock (.slice A q c)))
    (hat : Value.ownBlock (.slice A q c) = some g2 ∨ g2 = w.heap.size + 1) (hlt : g2 < w2.heap.size) :
    OwnMat (w2.setCell ⟨g, k, none⟩ (.slice (some ⟨g2, 0, none⟩) (q + 1) c2)) lo w2.heap.size (.slice (some ⟨g, 0, none⟩) n cap) n (m.set k (r ++ [x])) (vs.set k (.slice (some ⟨g2, 0, none⟩) (q + 1) c2)) := by
  have hal : Below w.heap.size w (w.alloc o) := (Below.refl _ _).alloc (Nat.le_refl _) _
  have hz : w.heap.size + 1 ≤ w2.heap.size := by have := hg.size; simpa using this
  have hkl : k < m.length := by
    rcases Nat.lt_or_ge k m.length with y | y
    · exact y
    · rw [List.getElem?_eq_none y] at hk; cases hk
  obtain ⟨A0, c0, e0, o0⟩ := h.inner k r hk
  rw [hv] at e0
  injection e0 with e0
  injection e0 with eA eq ec
  subst eA ec
  rw [← eq] at o0
  have hout2 : OwnR w2 lo hi 23 (.slice (some ⟨g, 0, none⟩) n cap) n vs := (h.outer.below hal hs).grown hg (own_types h.outer.1 o0.1 (by decide))
  have hset := hout2.1.stored k (.slice (some ⟨g2, 0, none⟩) (q + 1) c2)
  have other : ∀ s r2, s ≠ k → m[s]? = some r2 → ∃ A2 c', vs[s]? = some (.slice A2 r2.length c') ∧ OwnR w2 lo hi 2 (.slice A2 r2.length c') r2.length (ints r2) ∧ (∀ g', Value.ownBlock (.slice A2 r2.length c') = some g' → g' ≠ g2) := by
    intro s r2 hsk hr
    obtain ⟨A2, c', e2, o2⟩ := h.inner s r2 hr
    refine ⟨A2, c', e2, (o2.below hal hs).grown hg ?_, fun g' hg' => ?_⟩
    · cases hb : Value.ownBlock (.slice A2 r2.length c') with
      | none => exact .inl rfl
      | some g' => exact .inr (fun e => h.apart s k _ _ g' hsk e2 hv hb e.symm)
    · rcases hat with hat | hat
      · intro e
        exact h.apart s k _ _ g' hsk e2 hv hg' (by rw [hat, e])
      · have := o2.2 g' hg'; omega
  refine ⟨⟨hset.1, fun g' e => by have := hout2.2 g' e; omega⟩, by rw [List.length_set, List.length_set]; exact h.len, ?_, ?_⟩
  · intro s r2 hr
    by_cases hsk : k = s
    · subst hsk
      rw [List.getElem?_set_self hkl] at hr
      injection hr with hr
      subst hr
      have el : (r ++ [x]).length = q + 1 := by rw [List.length_append]; simp; exact hq
      refine ⟨some ⟨g2, 0, none⟩, c2, by rw [el, List.getElem?_set_self (by rw [h.len]; exact hkl)], ?_⟩
      rw [el]
      have oR : OwnR w2 lo w2.heap.size 2 (.slice (some ⟨g2, 0, none⟩) (q + 1) c2) (q + 1) (ints (r ++ [x])) := ⟨h2, fun g' e => by have : g2 = g' := (by simpa [Value.ownBlock] using e); omega⟩
      exact oR.grown hset.2 (own_types oR.1 hout2.1 (by decide))
    · rw [List.getElem?_set_ne hsk] at hr
      obtain ⟨A2, c', e2, o2, _⟩ := other s r2 (fun e => hsk e.symm) hr
      exact ⟨A2, c', by rw [List.getElem?_set_ne hsk]; exact e2, (o2.more (Nat.le_refl _) (by omega)).grown hset.2 (own_types o2.1 hout2.1 (by decide))⟩
  · intro a b u t g' hne hu ht hb hb'
    by_cases hak : k = a
    · subst hak
      rw [List.getElem?_set_self (by rw [h.len]; exact hkl)] at hu
      rw [List.getElem?_set_ne hne] at ht
      injection hu with hu
      subst hu
      have hbl : b < m.length := by
        rcases Nat.lt_or_ge b m.length with y | y
        · exact y
        · rw [List.getElem?_eq_none (by rw [h.len]; exact y)] at ht; cases ht
      obtain ⟨A2, c', e2, _, n2⟩ := other b _ (Ne.symm hne) (List.getElem?_eq_getElem hbl)
      rw [ht] at e2
      injection e2 with e2
      subst e2
      have h1 : g2 = g' := by simpa [Value.ownBlock] using hb
      exact n2 g' hb' h1.symm
    · rw [List.getElem?_set_ne hak] at hu
      by_cases hbk : k = b
      · subst hbk
        rw [List.getElem?_set_self (by rw [h.len]; exact hkl)] at ht
        injection ht with ht
        subst ht
        have hal2 : a < m.length := by
          rcases Nat.lt_or_ge a m.length with y | y
          · exact y
          · rw [List.getElem?_eq_none (by rw [h.len]; exact y)] at hu; cases hu
        obtain ⟨A2, c', e2, _, n2⟩ := other a _ hne (List.getElem?_eq_getElem hal2)
        rw [hu] at e2
        injection e2 with e2
        subst e2
        have h1 : g2 = g' := by simpa [Value.ownBlock] using hb'
        exact n2 g' hb h1.symm
      · rw [List.getElem?_set_ne hbk] at ht
        exact h.apart a b u t g' hne hu ht hb hb'
/-- the branches up to a place -/
def partsTo (t : List Int) (i : Nat) : List (List Int) := ((t.take i).drop 1).foldl Tr.addNode []
theorem partsTo_one (t : List Int) : partsTo t 1 = [] := by
  unfold partsTo
  have : (t.take 1).drop 1 = [] := List.drop_of_length_le (by rw [List.length_take]; omega)
  rw [this]; rfl
theorem partsTo_step {t : List Int} {i : Nat} {x : Int} (hx : t[i]? = some x) (h1 : 1 ≤ i) : partsTo t (i + 1) = Tr.addNode (partsTo t i) x := by
  unfold partsTo
  rw [List.take_add_one, hx, Option.toList_some, List.drop_append_of_le_length (by
    have : i < t.length := by
      rcases Nat.lt_or_ge i t.length with y | y
      · exact y
      · rw [List.getElem?_eq_none y] at hx; cases hx
    rw [List.length_take]; omega), List.foldl_append]
  rfl
theorem partsTo_end (t : List Int) : partsTo t t.length = Tr.partsL t := by unfold partsTo Tr.partsL; rw [List.take_length]
theorem add_new (m : List (List Int)) : Tr.addNode m 1 = (m ++ [[]]).set m.length ([] ++ [1 - 1]) := by
  simp [Tr.addNode]
theorem add_last {m : List (List Int)} {x : Int} {r : List Int} (h : x ≠ 1) (hr : m[m.length - 1]? = some r) : Tr.addNode m x = m.set (m.length - 1) (r ++ [x - 1]) := by
  unfold Tr.addNode
  simp only [if_neg h]
  rw [List.getD_eq_getElem?_getD, hr]; rfl
theorem add_length (m : List (List Int)) (x : Int) : (Tr.addNode m x).length = if x = 1 then m.length + 1 else m.length := by
  unfold Tr.addNode
  split <;> simp
theorem add_bd {m : List (List Int)} {x : Int} {q : Nat} (h : ∀ r ∈ m, r.length ≤ q) : ∀ r ∈ Tr.addNode m x, r.length ≤ q + 1 := by
  intro r hr
  unfold Tr.addNode at hr
  have hm : ∀ r ∈ (if x = 1 then m ++ [[]] else m), r.length ≤ q := by
    intro r hr
    split at hr
    · rw [List.mem_append] at hr
      rcases hr with hr | hr
      · exact h r hr
      · rw [List.mem_singleton] at hr; subst hr; simp
    · exact h r hr
  rcases List.mem_or_eq_of_mem_set hr with hr | rfl
  · have := hm r hr; omega
  · rw [List.length_append]
    have : ∀ k, ((if x = 1 then m ++ [[]] else m).getD k []).length ≤ q := fun k => by
      rw [List.getD_eq_getElem?_getD]
      cases e : (if x = 1 then m ++ [[]] else m)[k]? with
      | none => simp
      | some z => exact hm z (List.mem_of_getElem? e)
    exact Nat.succ_le_succ (this ((if x = 1 then m ++ [[]] else m).length - 1))
theorem parts_bd (t : List Int) : ∀ (k : Nat), k ≤ k → ∀ {r}, r ∈ partsTo t k → r.length ≤ k
  | 0, _, r, hr => by simp [partsTo] at hr
  | k+1, _, r, hr => by
    rcases Nat.eq_zero_or_pos k with e | e
    · subst e; rw [partsTo_one] at hr; cases hr
    · cases hx : t[k]? with
      | none =>
        have e2 : partsTo t (k + 1) = partsTo t k := by unfold partsTo; rw [List.take_add_one, hx]; simp
        rw [e2] at hr
        have := parts_bd t k (Nat.le_refl _) hr; omega
      | some x =>
        rw [partsTo_step hx e] at hr
        exact add_bd (fun r hr => parts_bd t k (Nat.le_refl _) hr) r hr
theorem below_drew' {B : Nat} {a w : World} (h : Below B a w) : Below B a w.drew := ⟨h.os, h.tape, h.output, h.size, h.block⟩
set_option maxHeartbeats 1000000 in
theorem l03Parts_any (A : Option Addr) (n c B : Nat) (t : List Int) (w : World) (hl : t.length = n) (hlv : Tr.isLv t = true) (hB : B ≤ w.heap.size) (h : Row w B A (ints t)) :
    Calls Try.prog 126 #[.slice A n c] w (NewMat (Tr.partsL t).length (Tr.partsL t) w) := by
  obtain ⟨i0, hi, hz0, hz1, hz2⟩ := info_parts info_i64
  obtain ⟨j0, hj, hy0, hy1, hy2⟩ := info_parts info_row
  have hL := Tr.isLv_iff.1 hlv
  obtain ⟨x0, hx0⟩ := at_lt (show 0 < t.length by have := hL.1; omega)
  obtain ⟨b, o, rfl, _, _⟩ := h 0 _ (ints_at hx0)
  have HST : Hid (StepsTo t n) := by rw [Hid, ← hl]; exact hL.2.2.2
  have HZ : Hid (t.getD 0 0 = 0) := hL.2.2.1
  have n1 : 1 ≤ n := by have := hL.1; omega
  have n8 : n ≤ 8 := by have := hL.2.1; omega
  have HL := Lib.hid hl
  clear hl hlv hL hx0
  go_enter Try.func126, Try.ntmps126
  go_wp2_with fail
  go_loopw [3, 4] (fun v i wr => ∃ (k q g cap : Nat) (m : List (List Int)), 1 ≤ k ∧ k ≤ n ∧ q ≤ k ∧ (2 ≤ k → 1 ≤ q) ∧ v = .slice (some ⟨g, 0, none⟩) q cap ∧ i = .int .i64 k ∧ Hid (m = partsTo t k) ∧ Hid (m.length = q) ∧ GrowM w g q cap m wr) (fun _ i _ => n - (intOf i).toNat)
  case atStart => exact ⟨1, 0, _, 0, [], Nat.le_refl _, n1, by omega, by omega, rfl, rfl, (partsTo_one t).symm, rfl, GrowM.start ..⟩
  case round =>
    obtain ⟨k, q, g, cap, m, k1, hk, hqk, hq1, rfl, rfl, HP, HQ, vs, HM, HBel⟩ := hrel
    have hsz := HBel.size
    by_cases hlt : k < n
    · obtain ⟨x, hx⟩ := at_lt (show k < t.length by rw [HL.out]; exact hlt)
      obtain ⟨_, _, e1, _, hcx⟩ := h.below HBel hB k _ (ints_at hx)
      cases e1
      have hx1 : 1 ≤ x := by have := (HST.out k hlt k1).1; rw [lv_at hx] at this; exact this
      have hx8 : x ≤ 8 := by have := HST.out.le HZ.out k hlt; rw [lv_at hx] at this; omega
      have HPS : Hid (partsTo t (k + 1) = Tr.addNode m x) := by rw [Hid, HP.out]; exact partsTo_step hx k1
      have HXK := Lib.hid hx
      clear hx
      by_cases hxe : x = 1
      · subst hxe
        have HM' := Lib.hid HM
        have HBel' := Lib.hid HBel
        have hown1 := (HM.below ((Below.refl wr.heap.size wr).alloc (Nat.le_refl _) (.cells #[] 2)) (Nat.le_refl _)).outer.1
        clear HM HBel
        go_wp2_with (at_builtin; refine wpList_append_lies _ rfl (.tmp 18) (.tmp 20) 22 rfl w.heap.size 23 j0 _ 1 24 Try.underlying22 hj hy0 hy1 hy2 rfl (by omega) (.slice (some ⟨g, 0, none⟩) q cap) q vs rfl (hown1.alloc _) ⟨wr.heap.size + 1, 0, none⟩ 1 1 [.slice (some ⟨wr.heap.size, 0, none⟩) 0 0] rfl rfl (by have := World.news_of_block (w := (wr.alloc (.cells #[] 2)).alloc (.cells #[.slice (some ⟨wr.heap.size, 0, none⟩) 0 0] 23)) (cs := #[.slice (some ⟨wr.heap.size, 0, none⟩) 0 0]) (heap_alloc_new _ _); simpa using this) (by simp [Value.oneCell']) (by omega) (by simp only [maxLen]; omega) (by omega) (by simp; omega) (wr.heap.size + 2) (by simp) ?_; intro g4 cap4 w4 hown4 hgrow4 hat4 hlt4)
        have HM1 : OwnMat w4 w.heap.size w4.heap.size (.slice (some ⟨g4, 0, none⟩) (q + 1) cap4) (q + 1) (m ++ [[]]) (vs ++ [.slice (some ⟨wr.heap.size, 0, none⟩) 0 0]) :=
          (HM'.out.below ((Below.refl wr.heap.size wr).alloc (Nat.le_refl _) (.cells #[] 2)) (Nat.le_refl _)).push (row := []) (by simp) rfl (World.ownsRow_lit wr #[] 0 (Nat.le_refl _) (Nat.zero_le _) rfl) hsz hown4 hgrow4
        have hwW : w.heap.size ≤ w4.heap.size := by have := hgrow4.size; simp at this; omega
        have HBW : Hid (Below w.heap.size w w4) := ((HBel'.out.alloc hsz _).alloc (by simp; omega) _).grown hgrow4 (by simp; omega) (fun p hp => (hown1.lt p hp).1)
        have hvv : (vs ++ [Value.slice (some ⟨wr.heap.size, 0, none⟩) 0 0])[q]? = some (.slice (some ⟨wr.heap.size, 0, none⟩) 0 0) := by
          have e : vs.length = q := by rw [HM'.out.len]; exact HQ.out
          rw [List.getElem?_append_right (by omega), e, Nat.sub_self]; rfl
        have HRR : Hid ((m ++ [[]])[q]? = some []) := by
          have e := HQ.out
          rw [Hid, List.getElem?_append_right (by omega), e, Nat.sub_self]; rfl
        have HRL : Hid (([] : List Int).length = 0) := rfl
        have hrl8 : 0 ≤ 8 := by omega
        have hcx2 : w4.cell? ⟨b, o + k, none⟩ = some (.int .i64 1) := (HBW.out.cell (p := ⟨b, o + k, none⟩) (by show b < w.heap.size; omega)).trans (((HBel'.out.cell (p := ⟨b, o + k, none⟩) (by show b < w.heap.size; omega)).symm).trans hcx)
        clear hcx
        have hcx := hcx2
        have HSET : Hid ((m ++ [[]]).set q ([] ++ [1 - 1]) = partsTo t (k + 1)) := by rw [Hid, HPS.out, add_new, HQ.out]
        have HLEN : Hid ((partsTo t (k + 1)).length = q + 1) := by rw [Hid, HPS.out, add_length, if_pos rfl, HQ.out]
        clear hown4 hgrow4 hat4 hown1 hcx2
        have HM2 := Lib.hid HM1
        have hcell := HM1.outer.1.cellAt q (by omega)
        rw [hvv] at hcell
        have hfr := HM1.outer.1.frozenAt q
        have HKO : Hid (∀ (o : Obj) (W2 : World), (w4.drew.alloc o).grownBy W2 (Value.ownBlock (.slice (some ⟨wr.heap.size, 0, none⟩) 0 0)) → W2.cell? ⟨g4, q, none⟩ = some (.slice (some ⟨wr.heap.size, 0, none⟩) 0 0) ∧ W2.frozen? ⟨g4, q, none⟩ = false) := fun o W2 hg => by
          have h1 : OwnR W2 w.heap.size w4.heap.size 23 (.slice (some ⟨g4, 0, none⟩) (q + 1) cap4) (q + 1) (vs ++ [Value.slice (some ⟨wr.heap.size, 0, none⟩) 0 0]) := by
            refine OwnR.grown (w := w4.drew.alloc o) ((HM2.out.outer.keep (w' := w4.drew) fun _ _ _ => rfl).below ((Below.refl _ _).alloc (Nat.le_refl _) _) (Nat.le_refl _)) hg ?_
            obtain ⟨A9, c9, e9, o9⟩ := HM2.out.inner q [] HRR.out
            rw [hvv] at e9
            injection e9 with e9
            exact own_types HM2.out.outer.1 (by rw [e9]; exact o9.1) (by decide)
          have h2 := h1.1.cellAt q (by omega)
          rw [hvv] at h2
          exact ⟨h2, h1.1.frozenAt q⟩
        have hrow : w4.drew.ownsRow w.heap.size 2 1 (.slice (some ⟨wr.heap.size, 0, none⟩) 0 0) 0 (ints []) := by
          obtain ⟨A9, c9, e9, o9⟩ := HM2.out.inner q [] HRR.out
          rw [hvv] at e9
          injection e9 with e9
          have o10 := (o9.keep (w' := w4.drew) fun _ _ _ => rfl).1
          have el := HRL.out
          rw [← e9, el] at o10
          exact o10
        have HROW := Lib.hid hrow
        have HVV := Lib.hid hvv
        have rl8 : 0 ≤ 8 := hrl8
        clear HM1 hvv hrow hrl8
        have hcx' : w4.drew.cell? ⟨b, o + k, none⟩ = some (.int .i64 1) := hcx
        have hcell' : w4.drew.cell? ⟨g4, q, none⟩ = some (.slice (some ⟨wr.heap.size, 0, none⟩) 0 0) := hcell
        have hfr' : w4.drew.frozen? ⟨g4, q, none⟩ = false := hfr
        have hwd : w.heap.size ≤ w4.drew.heap.size := hwW
        have HG : Hid (∀ (o : Obj) (W2 : World) (g5 cap5 : Nat), W2.ownsRow w.heap.size 2 1 (.slice (some ⟨g5, 0, none⟩) (0 + 1) cap5) (0 + 1) (ints [] ++ [.int .i64 (1 - 1)]) → (w4.drew.alloc o).grownBy W2 (Value.ownBlock (.slice (some ⟨wr.heap.size, 0, none⟩) 0 0)) → (Value.ownBlock (.slice (some ⟨wr.heap.size, 0, none⟩) 0 0) = some g5 ∨ g5 = w4.drew.heap.size + 1) → g5 < W2.heap.size → GrowM w g4 (q + 1) cap4 (partsTo t (k + 1)) (W2.setCell ⟨g4, q, none⟩ (.slice (some ⟨g5, 0, none⟩) (0 + 1) cap5))) := fun o W2 g5 cap5 hown5 hgrow5 hat5 hlt5 => by
          have e1 : ints [] ++ [.int .i64 (1 - 1)] = ints ([] ++ [1 - 1]) := by simp [ints, intsK]
          rw [e1] at hown5
          have h1 := OwnMat.app_row (w := w4.drew) (HM2.out.keep (w' := w4.drew) fun _ _ _ => rfl) (Nat.le_refl _) HRR.out HVV.out HRL.out hown5 hgrow5 hat5 hlt5
          rw [HSET.out] at h1
          refine ⟨_, by rw [show ∀ (p : Addr) (v : Value), (W2.setCell p v).heap.size = W2.heap.size from fun p v => by simp [World.setCell]]; exact h1, ?_⟩
          refine below_set (((below_drew' HBW.out).alloc hwd _).grown hgrow5 (by simp; omega) (fun q hq => (HROW.out.lt q hq).1)) ?_ _
          exact (HM2.out.outer.1.lt g4 rfl).1
        have hwr : IntKind.i64.wrap (1 - 1) = 1 - 1 := IntWalk.i64_in _ (by omega)
        have s0 : (0 : Int) ≤ (q : Int) := by omega
        have s1 : (q : Int) < (q : Int) + 1 := by omega
        have s2 : (0 : Int) ≤ (k : Int) := by omega
        have s3 : (k : Int) < (n : Int) := by omega
        go_wp2_with fail
        have hrow2 := HROW.out
        go_region_law (first | (go_loud (refine step_append_lies _ (by rfl) _ _ 23 (by rfl) w.heap.size 2 i0 _ 1 8 Try.underlying23 hi hz0 hz1 hz2 rfl (by omega) (.slice (some ⟨wr.heap.size, 0, none⟩) 0 0) 0 (ints []) rfl (hrow2.alloc _) ⟨w4.drew.heap.size, 0, none⟩ 1 1 [.int .i64 (1 - 1)] rfl rfl (World.news_of_block (cs := #[.int .i64 (1 - 1)]) (heap_alloc_new _ _)) (by simp [Value.oneCell']) (by omega) (by simp only [maxLen]; omega) (by omega) (by simp; omega) (w4.drew.heap.size + 1) (by simp) ?_); intro g5 cap5 w5 hown5 hgrow5 hat5 hlt5; obtain ⟨hc5, hf5⟩ := HKO.out _ _ hgrow5))
        all_goals
          have G := Lib.hid (HG.out _ _ _ _ hown5 hgrow5 hat5 hlt5)
          clear hown5 hgrow5 hat5 hc5 hf5 hrow2 hwr
          try clear hcellA
          go_wp2
          go_roundw
          case rel => exact ⟨k + 1, q + 1, g4, cap4, _, by omega, by omega, by omega, by omega, rfl, by go_num, rfl, HLEN.out, G.out⟩
          case measure => simp [intOf]; omega
      · have h2k : 2 ≤ k := by
          rcases Nat.lt_or_ge k 2 with y | y
          · have e : k = 1 := by omega
            subst e
            have h9 := (HST.out 1 hlt (Nat.le_refl _)).2
            rw [lv_at HXK.out, HZ.out] at h9
            omega
          · exact y
        obtain ⟨p, rfl⟩ : ∃ p, q = p + 1 := ⟨q - 1, by have := hq1 h2k; omega⟩
        have tx := beq_f hxe
        have hmp : p < m.length := by rw [HQ.out]; omega
        obtain ⟨r, hr⟩ := at_lt hmp
        obtain ⟨Ar, cr, hvv, hor⟩ := HM.inner p r hr
        have HM1 := HM
        have hwW := hsz
        have HBW := Lib.hid HBel
        have HRR := Lib.hid hr
        obtain ⟨rl, hrl⟩ : ∃ rl, rl = r.length := ⟨_, rfl⟩
        have HRL : Hid (r.length = rl) := hrl.symm
        rw [← hrl] at hvv
        have hrl8 : rl ≤ 8 := by
          have := parts_bd t k (by omega) (by rw [← HP.out]; exact List.mem_of_getElem? hr)
          omega
        have HSET : Hid (m.set p (r ++ [x - 1]) = partsTo t (k + 1)) := by
          have e := HQ.out
          rw [Hid, HPS.out, add_last hxe (r := r) (by rw [e]; exact hr), e]; rfl
        have HLEN : Hid ((partsTo t (k + 1)).length = p + 1) := by rw [Hid, HPS.out, add_length, if_neg hxe, HQ.out]
        clear HM HBel hr hor hrl hmp
        have HM2 := Lib.hid HM1
        have hcell := HM1.outer.1.cellAt p (by omega)
        rw [hvv] at hcell
        have hfr := HM1.outer.1.frozenAt p
        have HKO : Hid (∀ (o : Obj) (W2 : World), (wr.drew.alloc o).grownBy W2 (Value.ownBlock (.slice Ar rl cr)) → W2.cell? ⟨g, p, none⟩ = some (.slice Ar rl cr) ∧ W2.frozen? ⟨g, p, none⟩ = false) := fun o W2 hg => by
          have h1 : OwnR W2 w.heap.size wr.heap.size 23 (.slice (some ⟨g, 0, none⟩) (p + 1) cap) (p + 1) vs := by
            refine OwnR.grown (w := wr.drew.alloc o) ((HM2.out.outer.keep (w' := wr.drew) fun _ _ _ => rfl).below ((Below.refl _ _).alloc (Nat.le_refl _) _) (Nat.le_refl _)) hg ?_
            obtain ⟨A9, c9, e9, o9⟩ := HM2.out.inner p r HRR.out
            rw [hvv] at e9
            injection e9 with e9
            exact own_types HM2.out.outer.1 (by rw [e9]; exact o9.1) (by decide)
          have h2 := h1.1.cellAt p (by omega)
          rw [hvv] at h2
          exact ⟨h2, h1.1.frozenAt p⟩
        have hrow : wr.drew.ownsRow w.heap.size 2 1 (.slice Ar rl cr) rl (ints r) := by
          obtain ⟨A9, c9, e9, o9⟩ := HM2.out.inner p r HRR.out
          rw [hvv] at e9
          injection e9 with e9
          have o10 := (o9.keep (w' := wr.drew) fun _ _ _ => rfl).1
          have el := HRL.out
          rw [← e9, el] at o10
          exact o10
        have HROW := Lib.hid hrow
        have HVV := Lib.hid hvv
        have rl8 : rl ≤ 8 := hrl8
        clear HM1 hvv hrow hrl8
        have hcx' : wr.drew.cell? ⟨b, o + k, none⟩ = some (.int .i64 x) := hcx
        have hcell' : wr.drew.cell? ⟨g, p, none⟩ = some (.slice Ar rl cr) := hcell
        have hfr' : wr.drew.frozen? ⟨g, p, none⟩ = false := hfr
        have hwd : w.heap.size ≤ wr.drew.heap.size := hwW
        have HG : Hid (∀ (o : Obj) (W2 : World) (g5 cap5 : Nat), W2.ownsRow w.heap.size 2 1 (.slice (some ⟨g5, 0, none⟩) (rl + 1) cap5) (rl + 1) (ints r ++ [.int .i64 (x - 1)]) → (wr.drew.alloc o).grownBy W2 (Value.ownBlock (.slice Ar rl cr)) → (Value.ownBlock (.slice Ar rl cr) = some g5 ∨ g5 = wr.drew.heap.size + 1) → g5 < W2.heap.size → GrowM w g (p + 1) cap (partsTo t (k + 1)) (W2.setCell ⟨g, p, none⟩ (.slice (some ⟨g5, 0, none⟩) (rl + 1) cap5))) := fun o W2 g5 cap5 hown5 hgrow5 hat5 hlt5 => by
          have e1 : ints r ++ [.int .i64 (x - 1)] = ints (r ++ [x - 1]) := by simp [ints, intsK]
          rw [e1] at hown5
          have h1 := OwnMat.app_row (w := wr.drew) (HM2.out.keep (w' := wr.drew) fun _ _ _ => rfl) (Nat.le_refl _) HRR.out HVV.out HRL.out hown5 hgrow5 hat5 hlt5
          rw [HSET.out] at h1
          refine ⟨_, by rw [show ∀ (p : Addr) (v : Value), (W2.setCell p v).heap.size = W2.heap.size from fun p v => by simp [World.setCell]]; exact h1, ?_⟩
          refine below_set (((below_drew' HBW.out).alloc hwd _).grown hgrow5 (by simp; omega) (fun q hq => (HROW.out.lt q hq).1)) ?_ _
          exact (HM2.out.outer.1.lt g rfl).1
        have hwr : IntKind.i64.wrap (x - 1) = x - 1 := IntWalk.i64_in _ (by omega)
        have s0 : (0 : Int) ≤ (p : Int) := by omega
        have s1 : (p : Int) < (p : Int) + 1 := by omega
        have s2 : (0 : Int) ≤ (k : Int) := by omega
        have s3 : (k : Int) < (n : Int) := by omega
        have hcellA : ∀ o : Obj, (wr.alloc o).cell? ⟨g, p, none⟩ = some (.slice Ar rl cr) := fun o => (((Below.refl wr.heap.size wr).alloc (Nat.le_refl _) o).cell (p := ⟨g, p, none⟩) (lt_of_cell hcell)).trans hcell
        go_wp2_with fail
        have hrow2 := HROW.out
        go_region_law (first | (go_loud (refine step_append_lies _ (by rfl) _ _ 23 (by rfl) w.heap.size 2 i0 _ 1 8 Try.underlying23 hi hz0 hz1 hz2 rfl (by omega) (.slice Ar rl cr) rl (ints r) rfl (hrow2.alloc _) ⟨wr.drew.heap.size, 0, none⟩ 1 1 [.int .i64 (x - 1)] rfl rfl (World.news_of_block (cs := #[.int .i64 (x - 1)]) (heap_alloc_new _ _)) (by simp [Value.oneCell']) (by omega) (by simp only [maxLen]; omega) (by omega) (by simp; omega) (wr.drew.heap.size + 1) (by simp) ?_); intro g5 cap5 w5 hown5 hgrow5 hat5 hlt5; obtain ⟨hc5, hf5⟩ := HKO.out _ _ hgrow5))
        all_goals
          have G := Lib.hid (HG.out _ _ _ _ hown5 hgrow5 hat5 hlt5)
          clear hown5 hgrow5 hat5 hc5 hf5 hrow2 hwr
          try clear hcellA
          go_wp2
          go_roundw
          case rel => exact ⟨k + 1, p + 1, g, cap, _, by omega, by omega, by omega, by omega, rfl, by go_num, rfl, HLEN.out, G.out⟩
          case measure => simp [intOf]; omega
    · obtain rfl : k = n := by omega
      have e : m = Tr.partsL t := by rw [HP.out, ← HL.out]; exact partsTo_end t
      have G : Hid (NewMat (Tr.partsL t).length (Tr.partsL t) w (.returned (.slice (some ⟨g, 0, none⟩) q cap)) wr) := by
        have h1 := GrowM.done ⟨vs, HM, HBel⟩
        rw [e] at h1
        have e2 : (Tr.partsL t).length = q := by rw [← e]; exact HQ.out
        rw [Hid, e2]; exact h1
      clear HM HBel e
      go_wp2
      go_ret
      exact G.out
end Go.Proofs.Ytnnihdkhblbdgaa
/-
  What holds at all level lists of the model's canonical lists, gone through.
-/
namespace Go.Proofs.Ytnnihdkhblbdgaa.Tr
set_option maxRecDepth 100000

def chk6 (t : List Int) : Bool := decide (can t = up (((partsL t).map can).foldl (fun s p => insD p s) [])) && (partsL t).all (fun p => isLv p && decide (p.length < t.length)) && decide ((partsL t).length ≤ 7)
theorem chk6_all : allLv.all chk6 = true := by decide +kernel
theorem can_parts {t : List Int} (h : isLv t = true) : can t = up (((partsL t).map can).foldl (fun s p => insD p s) []) ∧ (∀ p ∈ partsL t, isLv p = true ∧ p.length < t.length) ∧ (partsL t).length ≤ 7 := by
  have h1 := all_of chk6_all (isLv_iff.1 h)
  unfold chk6 at h1
  simp only [Bool.and_eq_true, decide_eq_true_eq, List.all_eq_true] at h1
  exact ⟨h1.1.1, h1.1.2, h1.2⟩
/-- put in at a place -/
theorem insD_at {part : List Int} : ∀ {S : List (List Int)} {k : Nat}, (∀ j s, j < k → S[j]? = some s → lessL s part = false) → (∀ s, S[k]? = some s → lessL s part = true) → k ≤ S.length → insD part S = S.take k ++ part :: S.drop k
  | [], k, _, _, h => by
    have : k = 0 := by simpa using h
    subst this; rfl
  | s :: r, 0, _, h2, _ => by
    have := h2 s rfl
    rw [insD, if_pos this]; rfl
  | s :: r, k+1, h1, h2, h3 => by
    have h0 := h1 0 s (by omega) rfl
    rw [insD, if_neg (by rw [h0]; simp), insD_at (S := r) (k := k) (fun j x hj hx => h1 (j + 1) x (by omega) hx) (fun x hx => h2 x hx) (by simpa using h3)]
    rfl
theorem insD_length (part : List Int) : ∀ S : List (List Int), (insD part S).length = S.length + 1
  | [] => rfl
  | s :: r => by
    rw [insD]; split
    · rfl
    · rw [List.length_cons, insD_length part r]; rfl
theorem insD_sum (part : List Int) : ∀ S : List (List Int), (insD part S).flatten.length = S.flatten.length + part.length
  | [] => by simp [insD]
  | s :: r => by
    rw [insD]; split
    · rw [List.flatten_cons, List.length_append]; omega
    · rw [List.flatten_cons, List.flatten_cons, List.length_append, List.length_append, insD_sum part r]; omega
end Go.Proofs.Ytnnihdkhblbdgaa.Tr
/-
  The model's canonical list of a level list.
-/
namespace Go.Proofs.Ytnnihdkhblbdgaa
open Go.RowKit Fld
set_option linter.unusedVariables false
set_option linter.unusedSimpArgs false
set_option maxRecDepth 100000

theorem own_shape' {w : World} {base : Nat} {T : TypeId} {v : Value} {n : Nat} {vs : List Value} (h : w.ownsRow base T 1 v n vs) : ∃ A c, v = .slice A n c := by
  rcases h.2 with ⟨rfl, rfl⟩ | ⟨g, cap, cur, rfl, _⟩
  · exact ⟨_, _, rfl⟩
  · exact ⟨_, _, rfl⟩
theorem row_news {w : World} {B : Nat} {ad : Addr} {vs : List Value} (h : Row w B (some ad) vs) : ∀ j u, vs[j]? = some u → w.cell? (ad.add j) = some u := by
  intro j u hu
  obtain ⟨b, o, e, _, hc⟩ := h j u hu
  cases e
  have : (⟨b, o, none⟩ : Addr).add j = ⟨b, o + j, none⟩ := by unfold Addr.add; split <;> simp_all
  rw [this]; exact hc
/-- values that are rows of numbers -/
def Vals (w : World) (B : Nat) (m : List (List Int)) (vs : List Value) : Prop :=
  vs.length = m.length ∧ ∀ (k : Nat) (r : List Int), m[k]? = some r → ∃ (A : Option Addr) (c : Nat), vs[k]? = some (Value.slice A r.length c) ∧ r.length ≤ c ∧ c ≤ maxLen ∧ Row w B A (ints r)
theorem Vals.nil (w : World) (B : Nat) : Vals w B [] [] := ⟨rfl, fun k r h => by simp at h⟩
theorem Vals.below {w w' : World} {B B' : Nat} {m : List (List Int)} {vs : List Value} (h : Vals w B m vs) (hb : Below B' w w') (hB : B ≤ B') : Vals w' B m vs :=
  ⟨h.1, fun k r hr => by obtain ⟨A, c, e1, e2, e3, e4⟩ := h.2 k r hr; exact ⟨A, c, e1, e2, e3, e4.below hb hB⟩⟩
theorem Vals.more {w : World} {B B' : Nat} {m : List (List Int)} {vs : List Value} (h : Vals w B m vs) (hB : B ≤ B') : Vals w B' m vs :=
  ⟨h.1, fun k r hr => by obtain ⟨A, c, e1, e2, e3, e4⟩ := h.2 k r hr; exact ⟨A, c, e1, e2, e3, e4.more hB⟩⟩
theorem Vals.next {w w' : World} {m : List (List Int)} {vs : List Value} (h : Vals w w.heap.size m vs) (hb : Below w.heap.size w w') : Vals w' w'.heap.size m vs := (h.below hb (Nat.le_refl _)).more hb.size
theorem Vals.one {v : Value} {m : List (List Int)} {vs : List Value} {w : World} {B : Nat} (h : Vals w B m vs) : ∀ u ∈ vs, u.oneCell' = true := by
  intro u hu
  obtain ⟨k, hk⟩ := List.mem_iff_getElem?.1 hu
  have hkl : k < m.length := by
    rw [← h.1]
    rcases Nat.lt_or_ge k vs.length with y | y
    · exact y
    · rw [List.getElem?_eq_none y] at hk; cases hk
  obtain ⟨A, c, e, _⟩ := h.2 k _ (List.getElem?_eq_getElem hkl)
  rw [hk] at e
  injection e with e
  subst e
  rfl
/-- put in at a place -/
theorem Vals.put {w : World} {B k : Nat} {m : List (List Int)} {vs : List Value} {A : Option Addr} {c : Nat} {r : List Int} (h : Vals w B m vs) (hk : k ≤ m.length) (hc : r.length ≤ c) (hm : c ≤ maxLen) (hr : Row w B A (ints r)) :
    Vals w B (m.take k ++ r :: m.drop k) (vs.take k ++ .slice A r.length c :: vs.drop k) := by
  have hl := h.1
  refine ⟨by simp [hl], fun j s hs => ?_⟩
  have e1 : (m.take k).length = k := by rw [List.length_take]; omega
  have e2 : (vs.take k).length = k := by rw [List.length_take]; omega
  rcases Nat.lt_trichotomy j k with g | g | g
  · rw [List.getElem?_append_left (by omega), List.getElem?_take, if_pos g] at hs
    obtain ⟨A', c', q1, q2⟩ := h.2 j s hs
    exact ⟨A', c', by rw [List.getElem?_append_left (by omega), List.getElem?_take, if_pos g]; exact q1, q2⟩
  · subst g
    rw [List.getElem?_append_right (by omega), e1, Nat.sub_self] at hs
    simp only [List.getElem?_cons_zero, Option.some.injEq] at hs
    subst hs
    exact ⟨A, c, by rw [List.getElem?_append_right (by omega), e2, Nat.sub_self]; rfl, hc, hm, hr⟩
  · obtain ⟨i, rfl⟩ : ∃ i, j = k + 1 + i := ⟨j - k - 1, by omega⟩
    rw [List.getElem?_append_right (by omega), e1, show k + 1 + i - k = i + 1 from by omega, List.getElem?_cons_succ, List.getElem?_drop] at hs
    obtain ⟨A', c', q1, q2⟩ := h.2 (k + i) s hs
    exact ⟨A', c', by rw [List.getElem?_append_right (by omega), e2, show k + 1 + i - k = i + 1 from by omega, List.getElem?_cons_succ, List.getElem?_drop]; exact q1, q2⟩
/-- a list of lists in memory, by its values -/
def Rws (w : World) (A : Option Addr) (m : List (List Int)) : Prop := ∃ vs, Row w w.heap.size A vs ∧ Vals w w.heap.size m vs
theorem Rws.next {w w' : World} {A : Option Addr} {m : List (List Int)} (h : Rws w A m) (hb : Below w.heap.size w w') : Rws w' A m := by
  obtain ⟨vs, h1, h2⟩ := h
  exact ⟨vs, (h1.below hb (Nat.le_refl _)).more hb.size, h2.next hb⟩
theorem Rws.drewN {w : World} {A : Option Addr} {m : List (List Int)} (h : Rws w A m) (k : Nat) : Rws (w.drewN k) A m := h.next (below_drewN (Below.refl _ _) k)
theorem Rws.mat {w : World} {A : Option Addr} {m : List (List Int)} (h : Rws w A m) : Mat w w.heap.size A m := by
  obtain ⟨vs, h1, h2⟩ := h
  intro k r hr
  obtain ⟨A', c', q1, q2, q3, q4⟩ := h2.2 k r hr
  obtain ⟨b, o, e, hb, hc⟩ := h1 k _ q1
  exact ⟨b, o, A', c', e, hb, hc, q2, q3, q4⟩
theorem Row.dropA {w : World} {B b o k : Nat} {vs : List Value} (h : Row w B (some ⟨b, o, none⟩) vs) : Row w B (some ⟨b, o + k, none⟩) (vs.drop k) := fun j v hv => by
  rw [List.getElem?_drop] at hv
  obtain ⟨b', o', e, hb, hc⟩ := h (k + j) v hv
  cases e
  exact ⟨b, o + k, rfl, hb, by rw [Nat.add_assoc]; exact hc⟩
theorem Row.takeA {w : World} {B : Nat} {A : Option Addr} {vs : List Value} (h : Row w B A vs) (k : Nat) : Row w B A (vs.take k) := fun j v hv => by
  rw [List.getElem?_take] at hv
  split at hv
  · exact h j v hv
  · cases hv
/-- the branches so far, in descending order -/
def sortedTo (t : List Int) (i : Nat) : List (List Int) := (((Tr.partsL t).take i).map Tr.can).foldl (fun s p => Tr.insD p s) []
theorem sortedTo_step {t : List Int} {i : Nat} {p : List Int} (h : (Tr.partsL t)[i]? = some p) : sortedTo t (i + 1) = Tr.insD (Tr.can p) (sortedTo t i) := by
  unfold sortedTo
  rw [List.take_add_one, h, Option.toList_some, List.map_append, List.foldl_append]; rfl
theorem sortedTo_length (t : List Int) : ∀ i, i ≤ (Tr.partsL t).length → (sortedTo t i).length = i
  | 0, _ => rfl
  | i+1, h => by
    rw [sortedTo_step (List.getElem?_eq_getElem h), Tr.insD_length, sortedTo_length t i (by omega)]
theorem sortedTo_end {t : List Int} (h : Tr.isLv t = true) : Tr.can t = Tr.up (sortedTo t (Tr.partsL t).length) := by
  unfold sortedTo
  rw [List.take_length]
  exact (Tr.can_parts h).1
theorem insD_mem {p : List Int} : ∀ {S : List (List Int)} {s : List Int}, s ∈ Tr.insD p S → s = p ∨ s ∈ S
  | [], s, hs => by simpa [Tr.insD] using hs
  | a :: r, s, hs => by
    rw [Tr.insD] at hs
    split at hs
    · simpa using hs
    · rw [List.mem_cons] at hs
      rcases hs with rfl | hs
      · simp
      · rcases insD_mem hs with e | e
        · exact .inl e
        · exact .inr (by simp [e])
theorem lv_can {t : List Int} (h : Tr.isLv t = true) : Tr.isLv (Tr.can t) = true ∧ (Tr.can t).length = t.length := by
  have h1 := Tr.all_of Tr.chk1_all (Tr.isLv_iff.1 h)
  unfold Tr.chk1 at h1
  simp only [Bool.and_eq_true, beq_iff_eq] at h1
  exact ⟨h1.1.1.2, h1.1.2⟩
theorem sorted_key : ∀ (L : List (List Int)), (∀ p ∈ L, Tr.isLv p = true) → ∀ S : List (List Int), (∀ s ∈ S, Tr.isLv s = true) → ∀ s ∈ (L.map Tr.can).foldl (fun s p => Tr.insD p s) S, Tr.isLv s = true
  | [], _, S, hS, s, hs => hS s hs
  | p :: r, hp, S, hS, s, hs => sorted_key r (fun p' hp' => hp p' (by simp [hp'])) (Tr.insD (Tr.can p) S) (fun s hs => by
      rcases insD_mem hs with rfl | e
      · exact (lv_can (hp p (by simp))).1
      · exact hS s e) s hs
theorem sorted_lv {t : List Int} (h : Tr.isLv t = true) {k q : Nat} {s : List Int} (hs : (sortedTo t k)[q]? = some s) : Tr.isLv s = true :=
  sorted_key ((Tr.partsL t).take k) (fun p hp => ((Tr.can_parts h).2.1 p (List.mem_of_mem_take hp)).1) [] (fun s hs => by cases hs) s (List.mem_of_getElem? hs)
theorem sorted_bd {t : List Int} (h : Tr.isLv t = true) {k q : Nat} {s : List Int} (hs : (sortedTo t k)[q]? = some s) : s.length ≤ 1048576 := by
  have := (Tr.isLv_iff.1 (sorted_lv h hs)).2.1; omega
theorem lv_el {s : List Int} {j : Nat} {x : Int} (h : Tr.isLv s = true) (hx : s[j]? = some x) : 0 ≤ x ∧ x ≤ 8 := by
  have h1 := Tr.isLv_iff.1 h
  have hj : j < s.length := by
    rcases Nat.lt_or_ge j s.length with y | y
    · exact y
    · rw [List.getElem?_eq_none y] at hx; cases hx
  have h2 := StepsTo.bd (n := s.length) h1.2.2.2 h1.2.2.1 hj (lv_at hx)
  have := h1.2.1
  exact ⟨h2.1, by omega⟩
def outL (l : List Int) : List Int := 0 :: l.map (· + 1)
theorem outL_push (l : List Int) (x : Int) : ints (outL l) ++ [.int .i64 (x + 1)] = ints (outL (l ++ [x])) := by simp [outL, ints, intsK]
theorem outL_length (l : List Int) : (outL l).length = l.length + 1 := by simp [outL]
theorem flat_take' {S : List (List Int)} {k : Nat} {x : List Int} (h : S[k]? = some x) : (S.take (k + 1)).flatten = (S.take k).flatten ++ x := by
  rw [List.take_add_one, h]; simp
theorem flat_le' (S : List (List Int)) (k : Nat) : (S.take k).flatten.length ≤ S.flatten.length := by
  have : S.flatten = (S.take k).flatten ++ (S.drop k).flatten := by rw [← List.flatten_append, List.take_append_drop]
  rw [this, List.length_append]; omega
def SCan (d : Nat) : Prop := ∀ (A : Option Addr) (n c B : Nat) (t : List Int) (w : World), t.length = n → n ≤ d → Tr.isLv t = true → B ≤ w.heap.size → Row w B A (ints t) →
    Calls Try.prog 107 #[.slice A n c] w (NewRow 2 n (ints (Tr.can t)) w)
set_option maxHeartbeats 2000000 in
theorem sCan_succ (d : Nat) (IH : SCan d) : SCan (d + 1) := by
  obtain ⟨i0, hi, hz0, hz1, hz2⟩ := info_parts info_i64
  obtain ⟨j0, hj, hy0, hy1, hy2⟩ := info_parts info_row
  intro A n c B t w hl hnd hlv hB h
  have n8 : n ≤ 8 := by have := (Tr.isLv_iff.1 hlv).2.1; omega
  obtain ⟨_, PS, P7⟩ := Tr.can_parts hlv
  have HPS := Lib.hid PS
  have HL := Lib.hid hl
  have HLV := Lib.hid hlv
  obtain ⟨P, hP⟩ : ∃ P, P = (Tr.partsL t).length := ⟨_, rfl⟩
  have HP : Hid ((Tr.partsL t).length = P) := hP.symm
  have C0 := l03Parts_any A n c B t w hl hlv hB h
  rw [HP.out] at C0
  have hP7 : P ≤ 7 := by rw [hP]; exact P7
  clear hl hlv PS P7 hP
  go_enter Try.func107, Try.ntmps107
  go_wp2_with fail
  refine C0.mono ?_
  rintro e w1 ⟨Ap, cp, pvs, rfl, ownp, belp⟩
  have HMP : Hid (Mat w1 w1.heap.size Ap (Tr.partsL t)) := ownp.mat
  have HB1 := Lib.hid belp
  have hs1 := belp.size
  clear ownp belp C0
  go_wp2_with fail
  go_loopw [4, 5] (fun v i wr => ∃ (k cap : Nat) (b o : Nat), k ≤ P ∧ v = .slice (some ⟨b, o, none⟩) k cap ∧ k ≤ cap ∧ i = .int .i64 k ∧ Rws wr (some ⟨b, o, none⟩) (sortedTo t k) ∧ Below w1.heap.size w1 wr) (fun _ i _ => P - (intOf i).toNat)
  case atStart => exact ⟨0, 0, w1.heap.size, 0, Nat.zero_le _, rfl, Nat.le_refl _, rfl, ⟨[], Row.nil _ _ _, Vals.nil _ _⟩, (Below.refl _ _).alloc (Nat.le_refl _) _⟩
  case round =>
    obtain ⟨k, cap, b, o, hk, rfl, hkc, rfl, HR, HB⟩ := hrel
    have hsz := HB.size
    by_cases hlt : k < P
    · obtain ⟨p, hp⟩ := at_lt (show k < (Tr.partsL t).length by rw [HP.out]; exact hlt)
      obtain ⟨bp, op, Ak, ck, rfl, hbp, hcp, hlc, hcm, hrp⟩ := HMP.out.below HB (Nat.le_refl _) k p hp
      obtain ⟨hpl, hpt⟩ := HPS.out p (List.mem_of_getElem? hp)
      have hpt2 : p.length ≤ d := by have := HL.out; omega
      have HSS : Hid (sortedTo t (k + 1) = Tr.insD (Tr.can p) (sortedTo t k)) := sortedTo_step hp
      have HSL : Hid ((sortedTo t k).length = k) := sortedTo_length t k (by rw [HP.out]; exact hk)
      have hp8 : p.length ≤ 8 := by have := (Tr.isLv_iff.1 hpl).2.1; exact this
      have HPL := Lib.hid hpl
      clear hp hpt hpl
      go_wp2_with fail
      refine (IH Ak p.length ck w1.heap.size p _ rfl hpt2 HPL.out (by omega) hrp).mono ?_
      rintro e w2 ⟨A2, c2, rfl, own2, bel2⟩
      have HR2 := Lib.hid (HR.next bel2)
      have HB2 := Lib.hid (HB.trans (bel2.mono hsz))
      have hs2 := bel2.size
      have HO2 := Lib.hid own2
      obtain ⟨hc2, hc2m⟩ := own_cap own2
      have HCL : Hid ((Tr.can p).length = p.length) := by
        have := own_len own2; rw [ints_length] at this; exact this
      have HROW2 : Hid (Row w2 w2.heap.size A2 (ints (Tr.can p))) := row_of_own own2
      clear HR HB bel2 own2 hcp
      go_wp2_with fail
      go_loopw [7] (fun a wr => ∃ (at' m : Nat), at' ≤ k ∧ a = .int .i64 at' ∧ wr = w2.drewN m ∧ Hid (∀ j s, j < at' → (sortedTo t k)[j]? = some s → Tr.lessL s (Tr.can p) = false)) (fun a _ => k - (intOf a).toNat)
      case atStart => exact ⟨0, 0, Nat.zero_le _, rfl, rfl, fun j s hj => by omega⟩
      case round =>
        obtain ⟨q, m, hq, rfl, rfl, HQ⟩ := hrel
        by_cases hqk : q < k
        · obtain ⟨s, hs⟩ := at_lt (show q < (sortedTo t k).length by rw [HSL.out]; exact hqk)
          obtain ⟨_, _, As, cs, e1, _, hcs, _, _, hrs⟩ := (HR2.out.drewN m).mat q s hs
          cases e1
          have hs1 : s.length ≤ 1048576 := by
            have := HR2.out
            exact sorted_bd HLV.out hs
          have C1 := l01Less_any As A2 s.length p.length cs c2 _ _ s (Tr.can p) (w2.drewN m) rfl HCL.out (by omega) (by omega) hrs (HROW2.out.drewN m)
          cases hless : Tr.lessL s (Tr.can p)
          · rw [hless] at C1
            have HQ2 : Hid (∀ j s, j < q + 1 → (sortedTo t k)[j]? = some s → Tr.lessL s (Tr.can p) = false) := fun j s' hj hs' => by
              by_cases hjq : j = q
              · subst hjq; rw [hs] at hs'; injection hs' with hs'; rw [← hs']; exact hless
              · exact HQ.out j s' (by omega) hs'
            clear hs HQ hless
            go_wp2_with fail
            refine C1.mono ?_
            rintro e w3 ⟨rfl, m3, rfl⟩
            go_wp2
            go_roundw
            case rel => exact ⟨q + 1, _, by omega, by go_num, rfl, HQ2⟩
            case measure => simp [intOf]; omega
          · rw [hless] at C1
            have HQ2 : Hid (∀ s, (sortedTo t k)[q]? = some s → Tr.lessL s (Tr.can p) = true) := fun s' hs' => by
              rw [hs] at hs'; injection hs' with hs'; rw [← hs']; exact hless
            clear hs hless
            go_wp2_with fail
            refine C1.mono ?_
            rintro e w3' ⟨rfl, m3, rfl⟩
            clear hcs hrs C1
            obtain ⟨W, hW⟩ : ∃ W, W = (w2.drewN m).drewN m3 := ⟨_, rfl⟩
            have BW : Hid (Below w2.heap.size w2 W) := by rw [hW]; exact below_drewN (below_drewN (Below.refl _ _) _) _
            have hW1 : w2.heap.size ≤ W.heap.size := BW.out.size
            rw [← hW]
            clear hW
            obtain ⟨vs, hrow, hvals⟩ := HR2.out.next BW.out
            have hvl : vs.length = k := by rw [hvals.1]; exact HSL.out
            have HVL := Lib.hid hvl
            have HPV : Hid (Row W W.heap.size A2 (ints (Tr.can p))) := (HROW2.out.below BW.out (Nat.le_refl _)).more hW1
            have OWN1 := Lib.hid (World.ownsRow_lit (base := W.heap.size) (size := 1) (e := 23) W #[.slice A2 p.length c2] 1 (Nat.le_refl _) (by simp [maxLen]) rfl)
            have HROW := Lib.hid hrow
            have HVALS := Lib.hid hvals
            have HPUT : Hid (sortedTo t (k + 1) = (sortedTo t k).take q ++ Tr.can p :: (sortedTo t k).drop q) := by
              rw [Hid, HSS.out]; exact Tr.insD_at HQ.out HQ2.out (by rw [HSL.out]; exact hq)
            clear hrow hvals hvl HQ HQ2
            have HLEN1 : Hid ((vs.drop q).length = (k - q) * 1) := by rw [Hid, List.length_drop, HVL.out]; omega
            have HNEWS1 : Hid (∀ j u, (vs.drop q)[j]? = some u → (W.alloc (.cells #[.slice A2 p.length c2] 23)).cell? ((⟨b, o + q, none⟩ : Addr).add j) = some u) := row_news (Row.dropA (HROW.out.alloc (Nat.le_refl _) _))
            have HONE1 : Hid (∀ u ∈ vs.drop q, u.oneCell' = true) := fun u hu => HVALS.out.one (v := u) u (List.mem_of_mem_drop hu)
            have HLEN2 : Hid ((vs.take q).length = q * 1) := by rw [Hid, List.length_take, HVL.out]; omega
            have HONE2 : Hid (∀ u ∈ vs.take q, u.oneCell' = true) := fun u hu => HVALS.out.one (v := u) u (List.mem_of_mem_take hu)
            have HONE3 : Hid (∀ u ∈ [Value.slice A2 p.length c2] ++ vs.drop q, u.oneCell' = true) := fun u hu => by
              rw [List.mem_append, List.mem_singleton] at hu
              rcases hu with rfl | hu
              · rfl
              · exact HVALS.out.one (v := u) u (List.mem_of_mem_drop hu)
            have HS5 : Hid (q + (1 + (k - q)) = k + 1) := by rw [Hid]; omega
            go_wp2_with (first
              | (at_builtin; (refine wpList_append_own _ rfl (.tmp 42) (.tmp 45) 22 rfl W.heap.size 23 j0 _ 1 24 Try.underlying22 hj hy0 hy1 hy2 rfl (by omega) (.slice (some ⟨W.heap.size, 0, none⟩) 1 1) 1 [.slice A2 p.length c2] rfl OWN1.out ⟨b, o + q, none⟩ (k - q) (cap - q) (vs.drop q) rfl HLEN1.out HNEWS1.out HONE1.out (by simp only [maxLen]; omega) (by omega) (by simp) ?_; intro v3 w3 own3 hgrow3 _; obtain ⟨g3, c3, rfl⟩ := own_form own3 (by omega); have BW3 : Hid (Below W.heap.size W w3) := ((Below.refl _ _).alloc (Nat.le_refl _) _).grown hgrow3 (by simp) (fun z hz => (OWN1.out.lt z hz).1); have hW3 : W.heap.size ≤ w3.heap.size := BW3.out.size; have HO3 := Lib.hid (OwnR.of own3); have OWN2 := Lib.hid (World.ownsRow_lit (base := w3.heap.size) (size := 1) (e := 23) w3 #[] 0 (Nat.le_refl _) (Nat.zero_le _) rfl); have HNEWS2 : Hid (∀ j u, (vs.take q)[j]? = some u → (w3.alloc (.cells #[] 23)).cell? ((⟨b, o, none⟩ : Addr).add j) = some u) := row_news ((((HROW.out.takeA q).below BW3.out (Nat.le_refl _)).more hW3).alloc (Nat.le_refl _) _)))
              | (at_builtin; refine wpList_append_own _ rfl (.tmp 47) (.tmp 50) 22 rfl w3.heap.size 23 j0 _ 1 24 Try.underlying22 hj hy0 hy1 hy2 rfl (by omega) (.slice (some ⟨w3.heap.size, 0, none⟩) 0 0) 0 [] rfl OWN2.out ⟨b, o, none⟩ q cap (vs.take q) rfl HLEN2.out HNEWS2.out HONE2.out (by simp only [maxLen]; omega) (by omega) (by simp) ?_; intro v4 w4 own4 hgrow4 _; obtain ⟨A4, c4, rfl⟩ := own_shape' own4; rw [Nat.zero_add, List.nil_append] at own4; have BW4 : Below w3.heap.size w3 w4 := ((Below.refl _ _).alloc (Nat.le_refl _) _).grown hgrow4 (by simp) (fun z hz => (OWN2.out.lt z hz).1); have hW4 : w3.heap.size ≤ w4.heap.size := BW4.size; have HO4 := (HO3.out.below BW4 (Nat.le_refl _)).1)
              | (at_builtin; refine wpList_append_own _ rfl (.tmp 51) (.tmp 52) 22 rfl w3.heap.size 23 j0 _ 1 24 Try.underlying22 hj hy0 hy1 hy2 rfl (by omega) (.slice A4 q c4) q (vs.take q) rfl own4 ⟨g3, 0, none⟩ (1 + (k - q)) c3 ([Value.slice A2 p.length c2] ++ vs.drop q) rfl (by rw [Nat.mul_one]; exact own_len HO4) (row_news (row_of_own HO4)) HONE3.out (by simp only [maxLen]; omega) (by omega) (by omega) ?_; intro v5 w5 own5 hgrow5 _; rw [HS5.out] at own5; obtain ⟨g5, c5, rfl⟩ := own_form own5 (by omega)))
            have BW5 : Hid (Below w3.heap.size w3 w5) := BW4.grown hgrow5 hW4 (fun z hz => (own4.lt z hz).1)
            have GB : Hid (Below w1.heap.size w1 w5) := ((HB2.out.trans (BW.out.mono (by omega))).trans (BW3.out.mono (by omega))).trans (BW5.out.mono (by omega))
            have GC : k + 1 ≤ c5 := (own_cap own5).1
            have GR : Hid (Rws w5 (some ⟨g5, 0, none⟩) (sortedTo t (k + 1))) := by
              refine ⟨_, row_of_own own5, ?_⟩
              have hv := Vals.put (k := q) (A := A2) (c := c2) (r := Tr.can p) ((HVALS.out.next BW3.out).next BW5.out) (by rw [HSL.out]; exact hq) (by rw [HCL.out]; exact hc2) hc2m (((HPV.out.below BW3.out (Nat.le_refl _)).below BW5.out hW3).more (by have := BW5.out.size; omega))
              rw [HCL.out, ← HPUT.out] at hv
              exact hv
            clear own5 hgrow5 own4 hgrow4 BW4 HO4 own3 hgrow3
            go_wp2
            go_roundw
            case rel => exact ⟨k + 1, c5, g5, 0, by omega, rfl, GC, by go_num, GR.out, GB.out⟩
            case measure => simp [intOf]; omega
        · obtain rfl : q = k := by omega
          have HQ2 : Hid (∀ s, (sortedTo t q)[q]? = some s → Tr.lessL s (Tr.can p) = true) := fun s' hs' => by
            rw [List.getElem?_eq_none (by rw [HSL.out]; exact Nat.le_refl _)] at hs'; cases hs'
          obtain ⟨W, hW⟩ : ∃ W, W = w2.drewN m := ⟨_, rfl⟩
          have BW : Hid (Below w2.heap.size w2 W) := by rw [hW]; exact below_drewN (Below.refl _ _) _
          have hW1 : w2.heap.size ≤ W.heap.size := BW.out.size
          rw [← hW]
          clear hW
          obtain ⟨vs, hrow, hvals⟩ := HR2.out.next BW.out
          have hvl : vs.length = q := by rw [hvals.1]; exact HSL.out
          have HVL := Lib.hid hvl
          have HPV : Hid (Row W W.heap.size A2 (ints (Tr.can p))) := (HROW2.out.below BW.out (Nat.le_refl _)).more hW1
          have OWN1 := Lib.hid (World.ownsRow_lit (base := W.heap.size) (size := 1) (e := 23) W #[.slice A2 p.length c2] 1 (Nat.le_refl _) (by simp [maxLen]) rfl)
          have HROW := Lib.hid hrow
          have HVALS := Lib.hid hvals
          have HPUT : Hid (sortedTo t (q + 1) = (sortedTo t q).take q ++ Tr.can p :: (sortedTo t q).drop q) := by
            rw [Hid, HSS.out]; exact Tr.insD_at HQ.out HQ2.out (by rw [HSL.out]; exact hq)
          clear hrow hvals hvl HQ HQ2
          by_cases hcap : q = cap
          · subst hcap
            have HLEN1 : Hid (([] : List Value).length = 0 * 1) := rfl
            have HNEWS1 : Hid (∀ j u, ([] : List Value)[j]? = some u → (W.alloc (.cells #[.slice A2 p.length c2] 23)).cell? ((⟨b, o, none⟩ : Addr).add j) = some u) := fun j u hu => by simp at hu
            have HE1 : Hid ([Value.slice A2 p.length c2] ++ ([] : List Value) = [Value.slice A2 p.length c2] ++ vs.drop q) := by
              rw [Hid, List.drop_of_length_le (by rw [HVL.out]; omega)]
            have HONE1 : Hid (∀ u ∈ ([] : List Value), u.oneCell' = true) := fun u hu => by cases hu
            have HLEN2 : Hid ((vs.take q).length = q * 1) := by rw [Hid, List.length_take, HVL.out]; omega
            have HONE2 : Hid (∀ u ∈ vs.take q, u.oneCell' = true) := fun u hu => HVALS.out.one (v := u) u (List.mem_of_mem_take hu)
            have HONE3 : Hid (∀ u ∈ [Value.slice A2 p.length c2] ++ vs.drop q, u.oneCell' = true) := fun u hu => by
              rw [List.mem_append, List.mem_singleton] at hu
              rcases hu with rfl | hu
              · rfl
              · exact HVALS.out.one (v := u) u (List.mem_of_mem_drop hu)
            go_wp2_with (first
              | (at_builtin; (refine wpList_append_own _ rfl (.tmp 42) (.tmp 45) 22 rfl W.heap.size 23 j0 _ 1 24 Try.underlying22 hj hy0 hy1 hy2 rfl (by omega) (.slice (some ⟨W.heap.size, 0, none⟩) 1 1) 1 [.slice A2 p.length c2] rfl OWN1.out ⟨b, o, none⟩ 0 0 [] rfl HLEN1.out HNEWS1.out HONE1.out (by simp only [maxLen]; omega) (by omega) (by simp) ?_; intro v3 w3 own3 hgrow3 _; obtain ⟨g3, c3, rfl⟩ := own_form own3 (by omega); rw [show 1 + 0 = 1 from rfl] at own3; rw [HE1.out] at own3; have BW3 : Hid (Below W.heap.size W w3) := ((Below.refl _ _).alloc (Nat.le_refl _) _).grown hgrow3 (by simp) (fun z hz => (OWN1.out.lt z hz).1); have hW3 : W.heap.size ≤ w3.heap.size := BW3.out.size; have HO3 := Lib.hid (OwnR.of own3); have OWN2 := Lib.hid (World.ownsRow_lit (base := w3.heap.size) (size := 1) (e := 23) w3 #[] 0 (Nat.le_refl _) (Nat.zero_le _) rfl); have HNEWS2 : Hid (∀ j u, (vs.take q)[j]? = some u → (w3.alloc (.cells #[] 23)).cell? ((⟨b, o, none⟩ : Addr).add j) = some u) := row_news ((((HROW.out.takeA q).below BW3.out (Nat.le_refl _)).more hW3).alloc (Nat.le_refl _) _)))
              | (at_builtin; refine wpList_append_own _ rfl (.tmp 47) (.tmp 50) 22 rfl w3.heap.size 23 j0 _ 1 24 Try.underlying22 hj hy0 hy1 hy2 rfl (by omega) (.slice (some ⟨w3.heap.size, 0, none⟩) 0 0) 0 [] rfl OWN2.out ⟨b, o, none⟩ q q (vs.take q) rfl HLEN2.out HNEWS2.out HONE2.out (by simp only [maxLen]; omega) (by omega) (by simp) ?_; intro v4 w4 own4 hgrow4 _; obtain ⟨A4, c4, rfl⟩ := own_shape' own4; rw [Nat.zero_add, List.nil_append] at own4; have BW4 : Below w3.heap.size w3 w4 := ((Below.refl _ _).alloc (Nat.le_refl _) _).grown hgrow4 (by simp) (fun z hz => (OWN2.out.lt z hz).1); have hW4 : w3.heap.size ≤ w4.heap.size := BW4.size; have HO4 := (HO3.out.below BW4 (Nat.le_refl _)).1)
              | (at_builtin; refine wpList_append_own _ rfl (.tmp 51) (.tmp 52) 22 rfl w3.heap.size 23 j0 _ 1 24 Try.underlying22 hj hy0 hy1 hy2 rfl (by omega) (.slice A4 q c4) q (vs.take q) rfl own4 ⟨g3, 0, none⟩ 1 c3 ([Value.slice A2 p.length c2] ++ vs.drop q) rfl (by rw [Nat.mul_one]; exact own_len HO4) (row_news (row_of_own HO4)) HONE3.out (by simp only [maxLen]; omega) (by omega) (by omega) ?_; intro v5 w5 own5 hgrow5 _; obtain ⟨g5, c5, rfl⟩ := own_form own5 (by omega)))
            have BW5 : Hid (Below w3.heap.size w3 w5) := BW4.grown hgrow5 hW4 (fun z hz => (own4.lt z hz).1)
            have GB : Hid (Below w1.heap.size w1 w5) := ((HB2.out.trans (BW.out.mono (by omega))).trans (BW3.out.mono (by omega))).trans (BW5.out.mono (by omega))
            have GC : q + 1 ≤ c5 := (own_cap own5).1
            have GR : Hid (Rws w5 (some ⟨g5, 0, none⟩) (sortedTo t (q + 1))) := by
              refine ⟨_, row_of_own own5, ?_⟩
              have hv := Vals.put (k := q) (A := A2) (c := c2) (r := Tr.can p) ((HVALS.out.next BW3.out).next BW5.out) (by rw [HSL.out]; exact hq) (by rw [HCL.out]; exact hc2) hc2m (((HPV.out.below BW3.out (Nat.le_refl _)).below BW5.out hW3).more (by have := BW5.out.size; omega))
              rw [HCL.out, ← HPUT.out] at hv
              exact hv
            clear own5 hgrow5 own4 hgrow4 BW4 HO4 own3 hgrow3
            go_wp2
            go_roundw
            case rel => exact ⟨q + 1, c5, g5, 0, by omega, rfl, GC, by go_num, GR.out, GB.out⟩
            case measure => simp [intOf]; omega
          · skip
            have HLEN1 : Hid ((vs.drop q).length = 0 * 1) := by rw [Hid, List.length_drop, HVL.out]; omega
            have HNEWS1 : Hid (∀ j u, (vs.drop q)[j]? = some u → (W.alloc (.cells #[.slice A2 p.length c2] 23)).cell? ((⟨b, o + q, none⟩ : Addr).add j) = some u) := row_news (Row.dropA (HROW.out.alloc (Nat.le_refl _) _))
            have HONE1 : Hid (∀ u ∈ vs.drop q, u.oneCell' = true) := fun u hu => HVALS.out.one (v := u) u (List.mem_of_mem_drop hu)
            have HLEN2 : Hid ((vs.take q).length = q * 1) := by rw [Hid, List.length_take, HVL.out]; omega
            have HONE2 : Hid (∀ u ∈ vs.take q, u.oneCell' = true) := fun u hu => HVALS.out.one (v := u) u (List.mem_of_mem_take hu)
            have HONE3 : Hid (∀ u ∈ [Value.slice A2 p.length c2] ++ vs.drop q, u.oneCell' = true) := fun u hu => by
              rw [List.mem_append, List.mem_singleton] at hu
              rcases hu with rfl | hu
              · rfl
              · exact HVALS.out.one (v := u) u (List.mem_of_mem_drop hu)
            go_wp2_with (first
              | (at_builtin; (refine wpList_append_own _ rfl (.tmp 42) (.tmp 45) 22 rfl W.heap.size 23 j0 _ 1 24 Try.underlying22 hj hy0 hy1 hy2 rfl (by omega) (.slice (some ⟨W.heap.size, 0, none⟩) 1 1) 1 [.slice A2 p.length c2] rfl OWN1.out ⟨b, o + q, none⟩ 0 (cap - q) (vs.drop q) rfl HLEN1.out HNEWS1.out HONE1.out (by simp only [maxLen]; omega) (by omega) (by simp) ?_; intro v3 w3 own3 hgrow3 _; obtain ⟨g3, c3, rfl⟩ := own_form own3 (by omega); rw [show 1 + 0 = 1 from rfl] at own3; have BW3 : Hid (Below W.heap.size W w3) := ((Below.refl _ _).alloc (Nat.le_refl _) _).grown hgrow3 (by simp) (fun z hz => (OWN1.out.lt z hz).1); have hW3 : W.heap.size ≤ w3.heap.size := BW3.out.size; have HO3 := Lib.hid (OwnR.of own3); have OWN2 := Lib.hid (World.ownsRow_lit (base := w3.heap.size) (size := 1) (e := 23) w3 #[] 0 (Nat.le_refl _) (Nat.zero_le _) rfl); have HNEWS2 : Hid (∀ j u, (vs.take q)[j]? = some u → (w3.alloc (.cells #[] 23)).cell? ((⟨b, o, none⟩ : Addr).add j) = some u) := row_news ((((HROW.out.takeA q).below BW3.out (Nat.le_refl _)).more hW3).alloc (Nat.le_refl _) _)))
              | (at_builtin; refine wpList_append_own _ rfl (.tmp 47) (.tmp 50) 22 rfl w3.heap.size 23 j0 _ 1 24 Try.underlying22 hj hy0 hy1 hy2 rfl (by omega) (.slice (some ⟨w3.heap.size, 0, none⟩) 0 0) 0 [] rfl OWN2.out ⟨b, o, none⟩ q cap (vs.take q) rfl HLEN2.out HNEWS2.out HONE2.out (by simp only [maxLen]; omega) (by omega) (by simp) ?_; intro v4 w4 own4 hgrow4 _; obtain ⟨A4, c4, rfl⟩ := own_shape' own4; rw [Nat.zero_add, List.nil_append] at own4; have BW4 : Below w3.heap.size w3 w4 := ((Below.refl _ _).alloc (Nat.le_refl _) _).grown hgrow4 (by simp) (fun z hz => (OWN2.out.lt z hz).1); have hW4 : w3.heap.size ≤ w4.heap.size := BW4.size; have HO4 := (HO3.out.below BW4 (Nat.le_refl _)).1)
              | (at_builtin; refine wpList_append_own _ rfl (.tmp 51) (.tmp 52) 22 rfl w3.heap.size 23 j0 _ 1 24 Try.underlying22 hj hy0 hy1 hy2 rfl (by omega) (.slice A4 q c4) q (vs.take q) rfl own4 ⟨g3, 0, none⟩ 1 c3 ([Value.slice A2 p.length c2] ++ vs.drop q) rfl (by rw [Nat.mul_one]; exact own_len HO4) (row_news (row_of_own HO4)) HONE3.out (by simp only [maxLen]; omega) (by omega) (by omega) ?_; intro v5 w5 own5 hgrow5 _; obtain ⟨g5, c5, rfl⟩ := own_form own5 (by omega)))
            have BW5 : Hid (Below w3.heap.size w3 w5) := BW4.grown hgrow5 hW4 (fun z hz => (own4.lt z hz).1)
            have GB : Hid (Below w1.heap.size w1 w5) := ((HB2.out.trans (BW.out.mono (by omega))).trans (BW3.out.mono (by omega))).trans (BW5.out.mono (by omega))
            have GC : q + 1 ≤ c5 := (own_cap own5).1
            have GR : Hid (Rws w5 (some ⟨g5, 0, none⟩) (sortedTo t (q + 1))) := by
              refine ⟨_, row_of_own own5, ?_⟩
              have hv := Vals.put (k := q) (A := A2) (c := c2) (r := Tr.can p) ((HVALS.out.next BW3.out).next BW5.out) (by rw [HSL.out]; exact hq) (by rw [HCL.out]; exact hc2) hc2m (((HPV.out.below BW3.out (Nat.le_refl _)).below BW5.out hW3).more (by have := BW5.out.size; omega))
              rw [HCL.out, ← HPUT.out] at hv
              exact hv
            clear own5 hgrow5 own4 hgrow4 BW4 HO4 own3 hgrow3
            go_wp2
            go_roundw
            case rel => exact ⟨q + 1, c5, g5, 0, by omega, rfl, GC, by go_num, GR.out, GB.out⟩
            case measure => simp [intOf]; omega
    · obtain rfl : k = P := by omega
      have HE : Hid (Tr.can t = outL (sortedTo t k).flatten) := by
        have := sortedTo_end HLV.out
        rw [HP.out] at this
        exact this
      have HSL : Hid ((sortedTo t k).length = k) := sortedTo_length t k (by rw [HP.out]; exact Nat.le_refl _)
      have HFL : Hid ((sortedTo t k).flatten.length + 1 = n) := by
        have h1 := (lv_can HLV.out).2
        rw [HE.out, outL_length, HL.out] at h1
        exact h1
      have HR2 := Lib.hid HR
      have HB2 := Lib.hid (HB1.out.trans (HB.mono hs1))
      have hwr : w.heap.size ≤ wr.heap.size := by omega
      clear HR HB
      obtain ⟨wo, hwo⟩ : ∃ wo, wo = wr := ⟨wr, rfl⟩
      subst hwo
      go_wp2_with fail
      go_loopw [9, 10] (fun v i W => ∃ (q g cap j : Nat), q ≤ k ∧ v = .slice (some ⟨g, 0, none⟩) j cap ∧ i = .int .i64 q ∧ Hid (j = ((sortedTo t k).take q).flatten.length + 1) ∧ Growing wo 2 g j cap (ints (outL ((sortedTo t k).take q).flatten)) W) (fun _ i _ => k - (intOf i).toNat)
      case atStart => exact ⟨0, wo.heap.size, 1, 1, Nat.zero_le _, rfl, rfl, rfl, World.ownsRow_lit (base := wo.heap.size) (size := 1) (e := 2) wo #[.int .i64 0] 1 (Nat.le_refl _) (by simp [maxLen]) rfl, (Below.refl _ _).alloc (Nat.le_refl _) _⟩
      case round =>
        obtain ⟨q, g, cp2, j, hq, rfl, rfl, HJ, HG⟩ := hrel
        have hsz := HG.2.size
        by_cases hlt2 : q < k
        · obtain ⟨r, hr⟩ := at_lt (show q < (sortedTo t k).length by rw [HSL.out]; exact hlt2)
          have hrl := sorted_lv HLV.out hr
          have hr8 : r.length ≤ 8 := (Tr.isLv_iff.1 hrl).2.1
          have HRT : Hid (((sortedTo t k).take (q + 1)).flatten = ((sortedTo t k).take q).flatten ++ r) := flat_take' hr
          have hfl : ((sortedTo t k).take q).flatten.length + r.length ≤ 8 := by
            have h1 := flat_le' (sortedTo t k) (q + 1)
            rw [HRT.out, List.length_append] at h1
            have := HFL.out; omega
          obtain ⟨F, hF⟩ : ∃ F, F = ((sortedTo t k).take q).flatten := ⟨_, rfl⟩
          rw [← hF] at HRT hfl HG HJ
          have HRL := Lib.hid hrl
          have HRR := Lib.hid hr
          have HFL2 := Lib.hid hfl
          have F0 : Hid (Growing wo 2 g j cp2 (ints (outL (F ++ r.take 0))) wr) := by
            rw [Hid, List.take_zero, List.append_nil]; exact HG
          have hj8 : j ≤ 9 := by have := HJ.out; omega
          have J0 : Hid (j = F.length + 0 + 1) := HJ
          clear hrl hr hF HG HJ hfl
          go_wp2_with fail
          go_loopw [9, 11] (fun v i W => ∃ (e g cap j : Nat), e ≤ r.length ∧ j ≤ 9 ∧ v = .slice (some ⟨g, 0, none⟩) j cap ∧ i = .int .i64 e ∧ Hid (j = F.length + e + 1) ∧ Growing wo 2 g j cap (ints (outL (F ++ r.take e))) W) (fun _ i _ => r.length - (intOf i).toNat)
          case atStart => exact ⟨0, g, cp2, j, Nat.zero_le _, hj8, rfl, rfl, J0, F0.out⟩
          case round =>
            obtain ⟨e, g, cp2, j, he, hj9, rfl, rfl, HJ, HG⟩ := hrel
            have hsz := HG.2.size
            have HR3 := (HR2.out.next HG.2).mat q r HRR.out
            obtain ⟨_, _, Ar, cr, e1, _, hcr, _, _, hrr⟩ := HR3
            cases e1
            by_cases hlt3 : e < r.length
            · obtain ⟨x, hx⟩ := at_lt hlt3
              obtain ⟨br, orr, rfl, _, hcx⟩ := hrr e _ (ints_at hx)
              obtain ⟨x0, x8⟩ := lv_el HRL.out hx
              have HXE : Hid (r.take (e + 1) = r.take e ++ [x]) := by rw [Hid, List.take_add_one, hx]; rfl
              have HG' := Lib.hid HG
              have hown := HG.1
              clear hx HG hrr
              go_wp2_with (at_builtin; refine wpList_append_lies _ rfl (.tmp 70) (.tmp 79) 23 rfl wo.heap.size 2 i0 _ 1 8 Try.underlying23 hi hz0 hz1 hz2 rfl (by omega) (.slice (some ⟨g, 0, none⟩) j cp2) j (ints (outL (F ++ r.take e))) rfl (hown.alloc _) ⟨wr.heap.size, 0, none⟩ 1 1 [.int .i64 (x + 1)] rfl rfl (World.news_of_block (cs := #[.int .i64 (x + 1)]) (heap_alloc_new _ _)) (by simp [Value.oneCell']) (by omega) (by simp only [maxLen]; omega) (by omega) (by simp; omega) (wr.heap.size + 1) (by simp) ?_; intro g4 cap4 w4 hown4 hgrow4 hat4 hlt4)
              rw [outL_push, List.append_assoc, ← HXE.out] at hown4
              have G := Lib.hid (HG'.out.step ((Below.refl _ _).alloc (Nat.le_refl _) _) hown4 hgrow4)
              clear hown4 hgrow4 hat4 hown
              go_wp2
              go_roundw
              case rel => exact ⟨e + 1, g4, cap4, j + 1, by omega, by have := HJ.out; have := HFL2.out; omega, rfl, by go_num, by have := HJ.out; rw [Hid]; omega, G.out⟩
              case measure => simp [intOf]; omega
            · obtain rfl : e = r.length := by omega
              have G : Hid (Growing wo 2 g j cp2 (ints (outL ((sortedTo t k).take (q + 1)).flatten)) wr) := by
                rw [Hid, HRT.out]
                rw [List.take_length] at HG
                exact HG
              have GJ : Hid (j = ((sortedTo t k).take (q + 1)).flatten.length + 1) := by
                have := HJ.out
                rw [Hid, HRT.out, List.length_append]; omega
              clear HG hrr HJ
              go_wp2
              go_roundw
              case rel => exact ⟨q + 1, g, cp2, j, by omega, rfl, by go_num, GJ, G.out⟩
              case measure => simp [intOf]; omega
        · obtain rfl : q = k := by omega
          rw [List.take_of_length_le (by rw [HSL.out]; exact Nat.le_refl _), ← HE.out] at HG
          have e : j = n := by
            have h1 := HJ.out
            rw [List.take_of_length_le (by rw [HSL.out]; exact Nat.le_refl _)] at h1
            have := HFL.out; omega
          subst e
          have G : Hid (NewRow 2 j (ints (Tr.can t)) w (.returned (.slice (some ⟨g, 0, none⟩) j cp2)) wr) := ⟨_, _, rfl, ((OwnR.of HG.1).more hwr (Nat.le_refl _)).1, HB2.out.trans (HG.2.mono hwr)⟩
          clear HG HJ
          go_wp2
          go_ret
          exact G.out
theorem sCan_upto : ∀ d, SCan d
  | 0 => fun A n c B t w hl hd hlv => by have := (Tr.isLv_iff.1 hlv).1; omega
  | d+1 => sCan_succ d (sCan_upto d)
theorem l03Canon_any (A : Option Addr) (n c B : Nat) (t : List Int) (w : World) (hl : t.length = n) (hlv : Tr.isLv t = true) (hB : B ≤ w.heap.size) (h : Row w B A (ints t)) :
    Calls Try.prog 107 #[.slice A n c] w (NewRow 2 n (ints (Tr.can t)) w) := sCan_upto n A n c B t w hl (Nat.le_refl _) hlv hB h
end Go.Proofs.Ytnnihdkhblbdgaa
/-
  Trees: the model's test and its canonical lists, beside the program's.
-/
namespace Go.Proofs.Ytnnihdkhblbdgaa
open Go.RowKit Fld
set_option linter.unusedVariables false
set_option linter.unusedSimpArgs false
set_option maxRecDepth 100000

end Go.Proofs.Ytnnihdkhblbdgaa
