/-
  Plain facts: decimals read back. No condition beyond the size of the number.
-/
import Derived.Test.YtcjomceaiokciaaDoorNtP
import Derived.Test.YtcjomceaiokciaaDoorText
namespace Go.Proofs.YtcjomceaiokciaaDoor
open Fld
set_option linter.unusedVariables false

theorem dec_step {n : Nat} (h : ¬ n < 10) : Lib.decDigits n = Lib.decDigits (n / 10) ++ [UInt8.ofNat (48 + n % 10)] := by rw [Lib.decDigits, dif_neg h]
theorem dig_nat {r : Nat} (h : r < 10) : (UInt8.ofNat (48 + r)).toNat = 48 + r := by rw [UInt8.toNat_ofNat']; omega
theorem dig_is {c : UInt8} (h : 48 ≤ c.toNat ∧ c.toNat ≤ 57) : isDig c = true := by unfold isDig; exact decide_eq_true (by omega)
theorem dec_len_le : ∀ (k n : Nat), n < 10 ^ (k + 1) → (Lib.decDigits n).length ≤ k + 1
  | 0, n, h => by rw [Lib.decDigits_one (by simpa using h)]; simp
  | k + 1, n, h => by
    by_cases g : n < 10
    · rw [Lib.decDigits_one g]; simp
    · rw [dec_step g]
      have := dec_len_le k (n / 10) (by rw [Nat.pow_succ] at h; omega)
      simp; omega
theorem dec_facts (n : Nat) : 1 ≤ (Lib.decDigits n).length ∧ (Lib.decDigits n).all isDig = true ∧ dv (Lib.decDigits n) = (n : Int) ∧ (1 ≤ n → ((Lib.decDigits n).getD 0 0).toNat ≠ 48) ∧ (10 ≤ n ∨ (Lib.decDigits n).length = 1) := by
  induction n using Nat.strongRecOn with
  | _ n ih =>
    by_cases g : n < 10
    · rw [Lib.decDigits_one g]
      have e := dig_nat g
      generalize UInt8.ofNat (48 + n) = x at e ⊢
      refine ⟨by simp, ?_, ?_, fun h => ?_, .inr rfl⟩
      · have : isDig x = true := dig_is (by omega)
        simp [this]
      · have := dv_snoc [] x
        rw [List.nil_append] at this
        rw [this, e, show dv [] = 0 from rfl]
        omega
      · show x.toNat ≠ 48
        omega
    · obtain ⟨a, b, c, d, _⟩ := ih (n / 10) (by omega)
      have e := dig_nat (show n % 10 < 10 by omega)
      rw [dec_step g]
      generalize UInt8.ofNat (48 + n % 10) = x at e ⊢
      refine ⟨by simp, ?_, ?_, fun _ => ?_, .inl (by omega)⟩
      · have : isDig x = true := dig_is (by omega)
        rw [List.all_append, b]; simp [this]
      · rw [dv_snoc, c, e]; omega
      · have h1 := d (by omega)
        have h2 : (Lib.decDigits (n / 10) ++ [x]).getD 0 0 = (Lib.decDigits (n / 10)).getD 0 0 := by
          cases hl : Lib.decDigits (n / 10) with
          | nil => rw [hl] at a; simp at a
          | cons y ys => rfl
        rw [h2]
        exact h1
theorem decA_dec (n : Nat) (h : n < 1000000000) : decA (Lib.decDigits n) = (n : Int) := by
  obtain ⟨a, b, c, d, e⟩ := dec_facts n
  have l := dec_len_le 8 n (by simpa using h)
  unfold decA
  rw [if_pos ⟨a, by omega, fun ⟨g1, g2⟩ => by
    rcases e with e | e
    · exact d (by omega) g2
    · omega, b⟩, c]
theorem numT_cases (a : Int) : ∀ (n q : Nat), 1 ≤ q → q + n ≤ 71 → numT a q n = Lib.itoa a ∨ ∃ (p : Int) (r : Nat), 1 ≤ r ∧ r ≤ 70 ∧ -70 ≤ p ∧ p ≤ 70 ∧ (p - a * r) % 10007 = 0 ∧ numT a q n = fracT p r
  | 0, q, _, _ => .inl rfl
  | n + 1, q, h1, h2 => by
    by_cases h : fitP a q < -70
    · rw [numT_skip h]; exact numT_cases a n (q + 1) (by omega) (by omega)
    · rw [numT_hit h]
      exact .inr ⟨fitP a q, q, h1, by omega, by omega, fit_le a q, fit_mod a q, rfl⟩
/-- what a text of a number is: the number in decimal, or a short fraction of it -/
theorem numA_cases (a : Int) : numA a = Lib.itoa a ∨ ∃ (p : Int) (r : Nat), 1 ≤ r ∧ r ≤ 70 ∧ -70 ≤ p ∧ p ≤ 70 ∧ (p - a * r) % 10007 = 0 ∧ numA a = fracT p r := numT_cases a 70 1 (by omega) (by omega)
theorem frac_back {a p : Int} {q : Nat} (a0 : 0 ≤ a) (a1 : a < 10007) (q1 : 1 ≤ q) (q2 : q ≤ 70) (p0 : -70 ≤ p) (p1 : p ≤ 70) (h : (p - a * q) % 10007 = 0) : fracA p q = (a, 0) := by
  have hq : (q : Int) % 10007 = q := by omega
  have h1 : Eqm (p % 10007) (a * q) := by unfold Eqm; omega
  have h2 : Eqm (p % 10007 * inv q) a := (h1.mul (Eqm.refl (inv q))).trans (by
    rw [show a * (q : Int) * inv q = a * (inv q * q) by rw [Int.mul_assoc, Int.mul_comm (q : Int)]]
    exact ((Eqm.refl a).mul (inv_mul q (by omega) (by omega))).trans (Eqm.of_eq (Int.mul_one a)))
  unfold fracA
  rw [if_pos ⟨whole_yes (by omega) (by omega), whole_yes (by omega) (by omega)⟩, if_neg (by omega), hq]
  have : p % 10007 * inv q % 10007 = a := by have := h2.emod; omega
  rw [this]
end Go.Proofs.YtcjomceaiokciaaDoor
