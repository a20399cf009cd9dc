/-
  The field with 10007 elements, on integers: congruence, the little theorem of Fermat by reckoning, powers, inverses, least roots. No Go in sight.
-/
namespace Go.Proofs.Ytnnihdkhblbdgaa.Fld

/-! congruence modulo 10007, on integers -/
def Eqm (a b : Int) : Prop := a % 10007 = b % 10007
theorem Eqm.refl (a : Int) : Eqm a a := rfl
theorem Eqm.symm {a b : Int} (h : Eqm a b) : Eqm b a := Eq.symm h
theorem Eqm.trans {a b c : Int} (h : Eqm a b) (g : Eqm b c) : Eqm a c := Eq.trans h g
theorem Eqm.mod (a : Int) : Eqm (a % 10007) a := by unfold Eqm; omega
theorem Eqm.mod' (a : Int) : Eqm a (a % 10007) := by unfold Eqm; omega
theorem Eqm.add {a b c d : Int} (h : Eqm a b) (g : Eqm c d) : Eqm (a + c) (b + d) := by unfold Eqm at *; omega
theorem Eqm.sub {a b c d : Int} (h : Eqm a b) (g : Eqm c d) : Eqm (a - c) (b - d) := by unfold Eqm at *; omega
theorem Eqm.neg {a b : Int} (h : Eqm a b) : Eqm (-a) (-b) := by unfold Eqm at *; omega
theorem Eqm.mul {a b c d : Int} (h : Eqm a b) (g : Eqm c d) : Eqm (a * c) (b * d) := by
  unfold Eqm at *; rw [Int.mul_emod, h, g, ← Int.mul_emod]
theorem Eqm.pow {a b : Int} (h : Eqm a b) (n : Nat) : Eqm (a ^ n) (b ^ n) := by
  induction n with
  | zero => rw [Int.pow_zero, Int.pow_zero]; exact Eqm.refl _
  | succ n ih => rw [Int.pow_succ, Int.pow_succ]; exact ih.mul h
theorem Eqm.eq {a b : Int} (h : Eqm a b) (a0 : 0 ≤ a) (a1 : a < 10007) (b0 : 0 ≤ b) (b1 : b < 10007) : a = b := by unfold Eqm at h; omega
theorem Eqm.emod {a b : Int} (h : Eqm a b) : a % 10007 = b % 10007 := h
theorem Eqm.of_eq {a b : Int} (h : a = b) : Eqm a b := h ▸ Eqm.refl _

/-! Fermat, by reckoning -/
def pmGo : Nat → Nat → Nat → Nat → Nat
  | 0, _, _, r => r
  | f+1, a, k, r => pmGo f (a*a % 10007) (k/2) (if k % 2 = 1 then r*a % 10007 else r)
def chk : Nat → Bool
  | 0 => true
  | n+1 => Nat.beq (pmGo 14 (n+1) 10006 1) 1 && chk n
set_option maxRecDepth 100000 in
theorem chk_ok : chk 10006 = true := by decide +kernel
theorem chk_at (n : Nat) : ∀ m : Nat, chk n = true → 0 < m → m ≤ n → pmGo 14 m 10006 1 = 1 := by
  induction n with
  | zero => intro m _ h0 h1; omega
  | succ n ih =>
    intro m h h0 h1
    have h2 : (Nat.beq (pmGo 14 (n+1) 10006 1) 1 && chk n) = true := h
    rw [Bool.and_eq_true] at h2
    rcases Nat.lt_or_ge n m with g | g
    · obtain rfl : m = n + 1 := by omega
      exact Nat.eq_of_beq_eq_true h2.1
    · exact ih m h2.2 h0 g
theorem pmGo_eq : ∀ (f : Nat) (a k r : Nat), k < 2 ^ f → Eqm (pmGo f a k r : Nat) ((r : Int) * (a : Int) ^ k)
  | 0, a, k, r, h => by
    obtain rfl : k = 0 := by simp at h; omega
    simp [pmGo]; exact Eqm.refl _
  | f+1, a, k, r, h => by
    have ih := pmGo_eq f (a*a % 10007) (k/2) (if k % 2 = 1 then r*a % 10007 else r) (by rw [Nat.pow_succ] at h; omega)
    simp only [pmGo]
    refine ih.trans ?_
    have e1 : Eqm ((a * a % 10007 : Nat) : Int) ((a : Int) ^ 2) := by
      rw [Int.natCast_emod, Int.natCast_mul]; exact (Eqm.mod _).trans (Eqm.of_eq (by rw [Int.pow_succ, Int.pow_succ, Int.pow_zero, Int.one_mul]))
    have e2 := e1.pow (k/2)
    rw [← Int.pow_mul] at e2
    by_cases hk : k % 2 = 1
    · rw [if_pos hk]
      have e3 : Eqm ((r * a % 10007 : Nat) : Int) ((r : Int) * a) := by
        rw [Int.natCast_emod, Int.natCast_mul]; exact Eqm.mod _
      refine (e3.mul e2).trans (Eqm.of_eq ?_)
      have : k = 2 * (k/2) + 1 := by omega
      conv => rhs; rw [this, Int.pow_succ]
      rw [Int.mul_assoc, Int.mul_comm (a : Int)]
    · rw [if_neg hk]
      refine ((Eqm.refl _).mul e2).trans (Eqm.of_eq ?_)
      have : k = 2 * (k/2) := by omega
      conv => rhs; rw [this]
theorem fermat (a : Int) (h0 : 0 < a) (h1 : a < 10007) : Eqm (a ^ 10006) 1 := by
  obtain ⟨n, rfl⟩ := Int.eq_ofNat_of_zero_le (Int.le_of_lt h0)
  have h := chk_at 10006 n chk_ok (by omega) (by omega)
  have g := pmGo_eq 14 n 10006 1 (by decide)
  rw [h] at g
  exact (by simpa using g.symm)

/-- the power, and the inverse -/
def pw (a : Int) (k : Nat) : Int := a ^ k % 10007
def inv (a : Int) : Int := pw a 10005
theorem pw_lo (a : Int) (k : Nat) : 0 ≤ pw a k := by unfold pw; omega
theorem pw_hi (a : Int) (k : Nat) : pw a k < 10007 := by unfold pw; omega
theorem pw_eqm (a : Int) (k : Nat) : Eqm (pw a k) (a ^ k) := Eqm.mod _
theorem inv_lo (a : Int) : 0 ≤ inv a := pw_lo _ _
theorem inv_hi (a : Int) : inv a < 10007 := pw_hi _ _
theorem inv_mul (a : Int) (h0 : 0 < a) (h1 : a < 10007) : Eqm (inv a * a) 1 :=
  (((pw_eqm a 10005).mul (Eqm.refl a)).trans (Eqm.of_eq (Int.pow_succ a 10005).symm)).trans (fermat a h0 h1)
theorem no_zero (a b : Int) (a0 : 0 < a) (a1 : a < 10007) (h : Eqm (a * b) 0) : Eqm b 0 := by
  have := ((inv_mul a a0 a1).mul (Eqm.refl b)).symm
  rw [Int.one_mul, Int.mul_assoc] at this
  exact this.trans (((Eqm.refl _).mul h).trans (Eqm.of_eq (Int.mul_zero _)))
theorem pow_wrap (b : Int) (b0 : 0 ≤ b) (b1 : b < 10007) (m : Nat) (j : Nat) : Eqm (b ^ (10006 * m + (j + 1))) (b ^ (j + 1)) := by
  rcases Int.lt_or_le 0 b with h | h
  · rw [Int.pow_add, Int.pow_mul]
    have := (((fermat b h b1).pow m).mul (Eqm.refl (b ^ (j + 1))))
    rw [Int.one_pow, Int.one_mul] at this
    exact this
  · obtain rfl : b = 0 := by omega
    rw [Int.zero_pow (by omega), Int.zero_pow (by omega)]; exact Eqm.refl _

/-- the least root, as a search from 0 on finds it -/
def Least (a : Int) (k : Nat) (r : Int) : Prop :=
  (r = -1 ∧ ∀ b : Int, 0 ≤ b → b < 10007 → pw b k ≠ a) ∨ (0 ≤ r ∧ r < 10007 ∧ pw r k = a ∧ ∀ b : Int, 0 ≤ b → b < r → pw b k ≠ a)
theorem Least.uniq {a : Int} {k : Nat} {r s : Int} (h : Least a k r) (g : Least a k s) : r = s := by
  rcases h with ⟨rfl, h⟩ | ⟨h0, h1, h2, h3⟩ <;> rcases g with ⟨rfl, g⟩ | ⟨g0, g1, g2, g3⟩
  · rfl
  · exact absurd g2 (h _ g0 g1)
  · exact absurd h2 (g _ h0 h1)
  · rcases Int.lt_or_le r s with e | e
    · exact absurd h2 (g3 _ h0 e)
    · rcases Int.lt_or_le s r with e' | e'
      · exact absurd g2 (h3 _ g0 e')
      · omega
theorem eqm_of_pw {a b : Int} {k : Nat} (h : pw b k = a) : Eqm (b ^ k) a := h ▸ (pw_eqm b k).symm

theorem sqrt_no (a : Int) (a0 : 0 ≤ a) (a1 : a < 10007) (h : pw a 2502 * pw a 2502 % 10007 ≠ a) : Least a 2 (-1) := by
  refine Or.inl ⟨rfl, fun b b0 b1 hb => h ?_⟩
  have e : Eqm (pw a 2502 * pw a 2502) a := by
    have e1 : Eqm (a ^ 2502) (b ^ (2 * 2502)) := by rw [Int.pow_mul]; exact (eqm_of_pw hb).symm.pow 2502
    have e2 := (pw_eqm a 2502).trans e1
    refine (e2.mul e2).trans ?_
    rw [← Int.pow_add]
    exact (pow_wrap b b0 b1 1 1).trans (eqm_of_pw hb)
  have := e.emod
  rw [this]; omega
theorem sq_eq (x : Int) : x ^ 2 = x * x := by rw [Int.pow_succ, Int.pow_succ, Int.pow_zero, Int.one_mul]
theorem sqrt_yes (a : Int) (h : pw a 2502 * pw a 2502 % 10007 = a) : Least a 2 (min (pw a 2502) (-(pw a 2502) % 10007)) := by
  have r0 := pw_lo a 2502
  have r1 := pw_hi a 2502
  generalize pw a 2502 = r at *
  have key : ∀ b : Int, 0 ≤ b → b < 10007 → pw b 2 = a → b = r ∨ b = -r % 10007 := by
    intro b b0 b1 hb
    have e : Eqm (b ^ 2) (r * r) := by
      refine (eqm_of_pw hb).trans ?_
      rw [← h]; exact Eqm.mod _
    rw [sq_eq] at e
    by_cases hbr : b = r
    · exact Or.inl hbr
    · refine Or.inr ?_
      have e2 : Eqm (((b - r) % 10007) * (b + r)) 0 := by
        refine ((Eqm.mod _).mul (Eqm.refl _)).trans ?_
        have : (b - r) * (b + r) = b * b - r * r := by grind
        rw [this]
        exact (e.sub (Eqm.refl (r * r))).trans (Eqm.of_eq (by omega))
      have e3 := no_zero _ _ (by omega) (by omega) e2
      unfold Eqm at e3
      omega
  have sq1 : pw r 2 = a := by unfold pw; rw [sq_eq]; exact h
  have sq2 : pw (-r % 10007) 2 = a := by
    unfold pw; rw [sq_eq, ← h]
    refine ((Eqm.mod (-r)).mul (Eqm.mod (-r))).trans (Eqm.of_eq ?_)
    rw [Int.neg_mul_neg]
  rcases Int.le_total r (-r % 10007) with hle | hle
  · rw [Int.min_eq_left hle]
    refine Or.inr ⟨r0, r1, sq1, fun b b0 b1 hb => ?_⟩
    rcases key b b0 (by omega) hb with e | e <;> omega
  · rw [Int.min_eq_right hle]
    refine Or.inr ⟨by omega, by omega, sq2, fun b b0 b1 hb => ?_⟩
    rcases key b b0 (by omega) hb with e | e <;> omega
theorem root_ex (a : Int) (a0 : 0 ≤ a) (a1 : a < 10007) (k e m : Nat) (hk : e * (k + 1) = 10006 * m + (0 + 1)) :
    Least a (k + 1) (pw a e) := by
  refine Or.inr ⟨pw_lo _ _, pw_hi _ _, ?_, fun b b0 b1 hb => ?_⟩
  · have : Eqm (pw a e ^ (k + 1)) a := by
      refine ((pw_eqm a e).pow (k + 1)).trans ?_
      rw [← Int.pow_mul, hk]
      exact (pow_wrap a a0 a1 m 0).trans (Eqm.of_eq (by rw [Nat.zero_add, Int.pow_succ, Int.pow_zero, Int.one_mul]))
    unfold pw at this ⊢
    have := this.emod
    rw [this]; omega
  · have e1 : Eqm (a ^ e) b := by
      refine ((eqm_of_pw hb).symm.pow e).trans ?_
      rw [← Int.pow_mul, Nat.mul_comm (k + 1), hk]
      exact (pow_wrap b b0 (by have := pw_hi a e; omega) m 0).trans (Eqm.of_eq (by rw [Nat.zero_add, Int.pow_succ, Int.pow_zero, Int.one_mul]))
    have e2 := (pw_eqm a e).trans e1
    have := e2.eq (pw_lo _ _) (pw_hi _ _) b0 (by have := pw_hi a e; omega)
    omega
theorem root3 (a : Int) (a0 : 0 ≤ a) (a1 : a < 10007) : Least a 3 (pw a 6671) := root_ex a a0 a1 2 6671 2 (by decide)
theorem root5 (a : Int) (a0 : 0 ≤ a) (a1 : a < 10007) : Least a 5 (pw a 8005) := root_ex a a0 a1 4 8005 4 (by decide)
theorem mul_bd {a b : Int} (a0 : 0 ≤ a) (a1 : a < 10007) (b0 : 0 ≤ b) (b1 : b < 10007) : 0 ≤ a * b ∧ a * b ≤ 100120036 := by
  refine ⟨Int.mul_nonneg a0 b0, ?_⟩
  have h : a * b ≤ 10006 * 10006 := Int.mul_le_mul (by omega) (by omega) b0 (by omega)
  omega
theorem pstep_odd (x y p q : Int) (hy : 0 < y) (h1 : y % 2 = 1) (h : Eqm (p * x ^ y.toNat) q) : Eqm (p * x % 10007 * (x * x % 10007) ^ (y / 2).toNat) q := by
  refine Eqm.trans ?_ h
  have e : y.toNat = 2 * (y / 2).toNat + 1 := by omega
  rw [e, Int.pow_succ, Int.pow_mul, sq_eq]
  refine (Eqm.mul (Eqm.mod _) ((Eqm.mod (x * x)).pow _)).trans (Eqm.of_eq ?_)
  rw [Int.mul_assoc, Int.mul_comm x]
theorem pstep_even (x y p q : Int) (hy : 0 < y) (h1 : y % 2 ≠ 1) (h : Eqm (p * x ^ y.toNat) q) : Eqm (p * (x * x % 10007) ^ (y / 2).toNat) q := by
  refine Eqm.trans ?_ h
  have e : y.toNat = 2 * (y / 2).toNat := by omega
  rw [e, Int.pow_mul, sq_eq]
  exact Eqm.mul (Eqm.refl _) ((Eqm.mod (x * x)).pow _)
theorem pstep_end (x p q : Int) (k : Nat) (p0 : 0 ≤ p) (p1 : p < 10007) (h : Eqm (p * x ^ (0 : Int).toNat) (q ^ k)) : p = pw q k := by
  have e : Eqm p (q ^ k) := by simpa using h
  unfold pw
  rw [← e.emod]; omega
end Go.Proofs.Ytnnihdkhblbdgaa.Fld
