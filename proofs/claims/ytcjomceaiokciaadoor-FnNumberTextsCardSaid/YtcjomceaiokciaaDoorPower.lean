/-
  What division, fractions and powers answer, the program's and the model's alike.
-/
import Derived.Test.YtcjomceaiokciaaDoorArith
namespace Go.Proofs.YtcjomceaiokciaaDoor
open Go.RowKit Fld
set_option linter.unusedVariables false
set_option linter.unusedSimpArgs false
set_option maxRecDepth 100000

def whole (k : Int) : Bool := isIn k (-1000000000) 1000000000
theorem whole_yes {k : Int} (h0 : -1000000000 ≤ k) (h1 : k ≤ 1000000000) : whole k = true := isIn_yes h0 h1
theorem whole_no {k : Int} (h0 : k < -1000000000 ∨ 1000000000 < k) : whole k = false := isIn_no h0
theorem whole_iff {k : Int} : whole k = true ↔ -1000000000 ≤ k ∧ k ≤ 1000000000 := isIn_iff
def divA (a b : Int) : Int × Int := if allNum [a, b] = true then (if b = 0 then (0, 5) else (a * inv b % 10007, 0)) else (0, 2)
def fracA (p q : Int) : Int × Int := if whole p = true ∧ whole q = true then (if q % 10007 = 0 then (0, 5) else (p % 10007 * inv (q % 10007) % 10007, 0)) else (0, 2)
def powA (a k : Int) : Int × Int := if isNum a = true ∧ whole k = true then (if 0 ≤ k then (pw a k.toNat, 0) else if a = 0 then (0, 5) else (pw (inv a) (-k).toNat, 0)) else (0, 2)

theorem isWhole_any (k : Int) (w : World) : Calls Tryd.prog 26 #[.int .i64 k] w fun e w' => e = .returned (.bool (whole k)) ∧ w = w' := by
  by_cases h0 : -1000000000 ≤ k
  · by_cases h1 : k ≤ 1000000000
    · have H := Lib.hid (whole_yes h0 h1)
      go_enter Tryd.func26, Tryd.ntmps26
      go_wp2
      go_ret
      exact ⟨ret_bool H.out.symm, rfl⟩
    · have H := Lib.hid (whole_no (.inr (Int.not_le.1 h1)))
      go_enter Tryd.func26, Tryd.ntmps26
      go_wp2
      go_ret
      exact ⟨ret_bool H.out.symm, rfl⟩
  · have H := Lib.hid (whole_no (.inl (Int.not_le.1 h0)))
    go_enter Tryd.func26, Tryd.ntmps26
    go_wp2
    go_ret
    exact ⟨ret_bool H.out.symm, rfl⟩
theorem numberOf_any (p q : Int) (w : World) : Calls Tryd.prog 11 #[.int .i64 p, .int .i64 q] w fun e w' => e = .returned (.tuple #[.int .i64 (fracA p q).1, .int .i64 (fracA p q).2]) ∧ w = w' := by
  cases hp : whole p
  · have H := Lib.hid (show fracA p q = (0, 2) from if_neg (by rw [hp]; simp))
    go_enter Tryd.func11, Tryd.ntmps11
    go_wp2_with (first | (go_at_call 26; refine (isWhole_any _ _).mono ?_; rintro e w' ⟨rfl, rfl⟩) | (go_at_call 27; refine (reduced_any _ _).mono ?_; rintro e w' ⟨rfl, rfl⟩) | (go_at_call 28; refine (over_any _ _ _ (by omega) (by omega) (by omega) (by omega)).mono ?_; rintro e w' ⟨rfl, rfl⟩))
    go_ret2
    exact ⟨ret_pair H.out, rfl⟩
  · cases hq : whole q
    · have H := Lib.hid (show fracA p q = (0, 2) from if_neg (by rw [hq]; simp))
      go_enter Tryd.func11, Tryd.ntmps11
      go_wp2_with (first | (go_at_call 26; refine (isWhole_any _ _).mono ?_; rintro e w' ⟨rfl, rfl⟩) | (go_at_call 27; refine (reduced_any _ _).mono ?_; rintro e w' ⟨rfl, rfl⟩) | (go_at_call 28; refine (over_any _ _ _ (by omega) (by omega) (by omega) (by omega)).mono ?_; rintro e w' ⟨rfl, rfl⟩))
      go_ret2
      exact ⟨ret_pair H.out, rfl⟩
    · have e0 : fracA p q = (if q % 10007 = 0 then (0, 5) else (p % 10007 * inv (q % 10007) % 10007, 0)) := if_pos ⟨hp, hq⟩
      have tq : q.tmod 10007 = 0 ↔ q % 10007 = 0 := by rw [Int.tmod_eq_emod]; split <;> omega
      by_cases h : q % 10007 = 0
      · have H := Lib.hid (e0.trans (if_pos h))
        have t1 : (q % 10007 == 0) = true := beq_t h
        have t2 : (q.tmod 10007 == 0) = true := beq_t (tq.2 h)
        clear e0 tq h
        go_enter Tryd.func11, Tryd.ntmps11
        go_wp2_with (first | (go_at_call 26; refine (isWhole_any _ _).mono ?_; rintro e w' ⟨rfl, rfl⟩) | (go_at_call 27; refine (reduced_any _ _).mono ?_; rintro e w' ⟨rfl, rfl⟩) | (go_at_call 28; refine (over_any _ _ _ (by omega) (by omega) (by omega) (by omega)).mono ?_; rintro e w' ⟨rfl, rfl⟩))
        go_ret2
        exact ⟨ret_pair H.out, rfl⟩
      · have H := Lib.hid (e0.trans (if_neg h))
        have t1 : (q % 10007 == 0) = false := beq_f h
        have t2 : (q.tmod 10007 == 0) = false := beq_f (fun g => h (tq.1 g))
        clear e0 tq h
        go_enter Tryd.func11, Tryd.ntmps11
        go_wp2_with (first | (go_at_call 26; refine (isWhole_any _ _).mono ?_; rintro e w' ⟨rfl, rfl⟩) | (go_at_call 27; refine (reduced_any _ _).mono ?_; rintro e w' ⟨rfl, rfl⟩) | (go_at_call 28; refine (over_any _ _ _ (by omega) (by omega) (by omega) (by omega)).mono ?_; rintro e w' ⟨rfl, rfl⟩))
        go_ret2
        exact ⟨ret_pair H.out, rfl⟩
theorem sNumberOf_any (p q : Int) (w : World) : Calls Tryd.prog 12 #[.int .i64 p, .int .i64 q] w fun e w' => e = .returned (.tuple #[.int .i64 (fracA p q).1, .int .i64 (fracA p q).2]) ∧ w = w' := by
  cases hp : whole p
  · have H := Lib.hid (show fracA p q = (0, 2) from if_neg (by rw [hp]; simp))
    have up : isIn p (-1000000000) 1000000000 = false := hp
    go_enter Tryd.func12, Tryd.ntmps12
    go_wp2_with (first | (go_at_call 29; show Calls Tryd.prog 29 _ _ _; refine (l01In_any _ _ _ _).mono ?_; rintro e w' ⟨rfl, rfl⟩) | (go_at_call 16; refine (l01Frac_any _ _ _).mono ?_; rintro e w' ⟨rfl, rfl⟩))
    go_ret2
    exact ⟨ret_pair H.out, rfl⟩
  · cases hq : whole q
    · have H := Lib.hid (show fracA p q = (0, 2) from if_neg (by rw [hq]; simp))
      have up : isIn p (-1000000000) 1000000000 = true := hp
      have uq : isIn q (-1000000000) 1000000000 = false := hq
      go_enter Tryd.func12, Tryd.ntmps12
      go_wp2_with (first | (go_at_call 29; show Calls Tryd.prog 29 _ _ _; refine (l01In_any _ _ _ _).mono ?_; rintro e w' ⟨rfl, rfl⟩) | (go_at_call 16; refine (l01Frac_any _ _ _).mono ?_; rintro e w' ⟨rfl, rfl⟩))
      go_ret2
      exact ⟨ret_pair H.out, rfl⟩
    · have e0 : fracA p q = (if q % 10007 = 0 then (0, 5) else (p % 10007 * inv (q % 10007) % 10007, 0)) := if_pos ⟨hp, hq⟩
      have tq : q.tmod 10007 = 0 ↔ q % 10007 = 0 := by rw [Int.tmod_eq_emod]; split <;> omega
      by_cases h : q % 10007 = 0
      · have H := Lib.hid (e0.trans (if_pos h))
        have t1 : (q % 10007 == 0) = true := beq_t h
        have t2 : (q.tmod 10007 == 0) = true := beq_t (tq.2 h)
        clear e0 tq h
        have up : isIn p (-1000000000) 1000000000 = true := hp
        have uq : isIn q (-1000000000) 1000000000 = true := hq
        go_enter Tryd.func12, Tryd.ntmps12
        go_wp2_with (first | (go_at_call 29; show Calls Tryd.prog 29 _ _ _; refine (l01In_any _ _ _ _).mono ?_; rintro e w' ⟨rfl, rfl⟩) | (go_at_call 16; refine (l01Frac_any _ _ _).mono ?_; rintro e w' ⟨rfl, rfl⟩))
        go_ret2
        exact ⟨ret_pair H.out, rfl⟩
      · have H := Lib.hid (e0.trans (if_neg h))
        have t1 : (q % 10007 == 0) = false := beq_f h
        have t2 : (q.tmod 10007 == 0) = false := beq_f (fun g => h (tq.1 g))
        clear e0 tq h
        have up : isIn p (-1000000000) 1000000000 = true := hp
        have uq : isIn q (-1000000000) 1000000000 = true := hq
        go_enter Tryd.func12, Tryd.ntmps12
        go_wp2_with (first | (go_at_call 29; show Calls Tryd.prog 29 _ _ _; refine (l01In_any _ _ _ _).mono ?_; rintro e w' ⟨rfl, rfl⟩) | (go_at_call 16; refine (l01Frac_any _ _ _).mono ?_; rintro e w' ⟨rfl, rfl⟩))
        go_ret2
        exact ⟨ret_pair H.out, rfl⟩
end Go.Proofs.YtcjomceaiokciaaDoor
