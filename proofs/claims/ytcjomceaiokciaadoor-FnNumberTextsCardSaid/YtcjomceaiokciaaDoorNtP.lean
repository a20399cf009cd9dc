/-
  Plain facts about the texts of numbers: the first denominator that fits, and the decimals at it. No condition.
-/
import Derived.Test.YtcjomceaiokciaaDoorTests
import Derived.Lib.ItoaNum
namespace Go.Proofs.YtcjomceaiokciaaDoor
set_option linter.unusedVariables false

/-- the numerator next to 0 at a denominator -/
def fitP (a : Int) (q : Nat) : Int := if 70 < a * q % 10007 then a * q % 10007 - 10007 else a * q % 10007
def fracT (p : Int) (q : Nat) : List UInt8 := if q = 1 then Lib.itoa p else Lib.itoa p ++ 47 :: Lib.itoa (q : Int)
def numT (a : Int) : Nat → Nat → List UInt8
  | _, 0 => Lib.itoa a
  | q, n + 1 => if fitP a q < -70 then numT a (q + 1) n else fracT (fitP a q) q
def numA (a : Int) : List UInt8 := numT a 1 70
theorem numT_skip {a : Int} {q n : Nat} (h : fitP a q < -70) : numT a q (n + 1) = numT a (q + 1) n := if_pos h
theorem numT_hit {a : Int} {q n : Nat} (h : ¬ fitP a q < -70) : numT a q (n + 1) = fracT (fitP a q) q := if_neg h
theorem fitP_big {a : Int} {q : Nat} (h : 70 < a * q % 10007) : fitP a q = a * q % 10007 - 10007 := if_pos h
theorem fitP_small {a : Int} {q : Nat} (h : ¬ 70 < a * q % 10007) : fitP a q = a * q % 10007 := if_neg h
theorem fracT_one {p : Int} {q : Nat} (h : q = 1) : fracT p q = Lib.itoa p := if_pos h
theorem fracT_more {p : Int} {q : Nat} (h : ¬ q = 1) : fracT p q = Lib.itoa p ++ 47 :: Lib.itoa (q : Int) := if_neg h
theorem itoa_small {n : Int} (h : 0 ≤ n) : Lib.itoa n = Lib.decDigits n.toNat := if_neg (by omega)
theorem itoa_less {n : Int} (h : n < 0) : Lib.itoa n = 45 :: Lib.decDigits n.natAbs := if_pos h
theorem fit_le (a : Int) (q : Nat) : fitP a q ≤ 70 := by unfold fitP; split <;> omega
theorem fit_mod (a : Int) (q : Nat) : (fitP a q - a * q) % 10007 = 0 := by unfold fitP; split <;> omega
theorem fit_of {a p : Int} {q : Nat} (p0 : -70 ≤ p) (p1 : p ≤ 70) (h : (p - a * q) % 10007 = 0) : fitP a q = p := by unfold fitP; split <;> omega
theorem fit_none {a : Int} {q : Nat} (h : ∀ p : Int, -70 ≤ p → p < 71 → (p - a * q) % 10007 ≠ 0) : fitP a q < -70 := by
  rcases Int.lt_or_le (fitP a q) (-70) with g | g
  · exact g
  · exact absurd (fit_mod a q) (h _ g (by have := fit_le a q; omega))
/-- what NumberText returns -/
def numTx (a : Int) : List UInt8 × Int := if isNum a = true then (numA a, 0) else ([], 2)
end Go.Proofs.YtcjomceaiokciaaDoor
