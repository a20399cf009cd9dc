/-
  The draws of numbers for their texts, and of fractions.
-/
import Derived.Test.YtcjomceaiokciaaDoorDraws
import Derived.Test.YtcjomceaiokciaaDoorNum
namespace Go.Proofs.YtcjomceaiokciaaDoor
open Go.RowKit Fld
set_option linter.unusedVariables false
set_option linter.unusedSimpArgs false
set_option maxRecDepth 100000

set_option maxHeartbeats 1000000 in
theorem drawNumberText_any (A : Option Addr) (n c : Nat) (xs : List Int) (w : World) (hn : n ≤ 4096) (h : IsCode w A n xs) : Calls Tryd.prog 6 #[.slice A n c] w (DrawnOne IsI64 w) := by
  have HX := Lib.hid h
  clear h
  go_enter Tryd.func6, Tryd.ntmps6
  go_wp2_with fail
  refine (l01From_any A n c w.heap.size xs _ HX.out.1 hn (Nat.le_refl _) HX.out.2.1 HX.out.2.2).mono ?_
  rintro e w1 ⟨G, rfl, hG, s1, b1⟩
  go_wp2_with fail
  refine (l01Next_any G w.heap.size xs _ _ (by omega) s1).mono ?_
  rintro e w2 ⟨r, rfl, r0, r1, s2, o2⟩
  have b2 := below_only b1 o2 b1.size hG
  by_cases h : r = 0
  · have t := beq_t h
    clear h
    go_wp2_with fail
    refine (l01Next_any G w.heap.size xs _ _ (by omega) s2).mono ?_
    rintro e w3 ⟨p, rfl, p0, p1, s3, o3⟩
    have hw1 : IntKind.i64.wrap (p - 80) = p - 80 := IntWalk.i64_in _ (by omega)
    go_wp2_with fail
    refine (l01Next_any G w.heap.size xs _ _ (by omega) s3).mono ?_
    rintro e w4 ⟨q, rfl, q0, q1, s4, o4⟩
    have hw2 : IntKind.i64.wrap (1 + q) = 1 + q := IntWalk.i64_in _ (by omega)
    go_wp2_with fail
    refine (l01Frac_any (p - 80) (1 + q) w4).mono ?_
    rintro e w5 ⟨rfl, rfl⟩
    have G1 : Hid (IsI64 ((p - 80) % 10007 * inv ((1 + q) % 10007) % 10007)) := by rw [Hid]; unfold IsI64; omega
    obtain ⟨v, hv⟩ : ∃ v, v = (p - 80) % 10007 * inv ((1 + q) % 10007) % 10007 := ⟨_, rfl⟩
    rw [← hv] at G1 ⊢
    clear hv
    go_wp2
    go_ret
    exact ⟨_, rfl, G1.out, below_only b2 (only_trans o3 o4) b2.size hG⟩
  · have t := beq_f h
    clear h
    go_wp2_with fail
    refine (l01Spoil_any G w.heap.size xs _ s2).mono ?_
    rintro e w3 ⟨a, rfl, ha, s3, o3⟩
    go_wp2
    go_ret
    exact ⟨_, rfl, ha, below_only b2 o3 b2.size hG⟩
set_option maxHeartbeats 2000000 in
theorem drawNumberOf_any (A : Option Addr) (n c : Nat) (xs : List Int) (w : World) (hn : n ≤ 4096) (h : IsCode w A n xs) : Calls Tryd.prog 10 #[.slice A n c] w (DrawnTwo IsI64 IsI64 w) := by
  have HX := Lib.hid h
  clear h
  go_enter Tryd.func10, Tryd.ntmps10
  go_wp2_with fail
  refine (l01From_any A n c w.heap.size xs _ HX.out.1 hn (Nat.le_refl _) HX.out.2.1 HX.out.2.2).mono ?_
  rintro e w1 ⟨G, rfl, hG, s1, b1⟩
  go_wp2_with fail
  refine (l01Next_any G w.heap.size xs _ _ (by omega) s1).mono ?_
  rintro e w2 ⟨p, rfl, p0, p1, s2, o2⟩
  have hw1 : IntKind.i64.wrap (p - 1000000) = p - 1000000 := IntWalk.i64_in _ (by omega)
  go_wp2_with fail
  refine (l01Next_any G w.heap.size xs _ _ (by omega) s2).mono ?_
  rintro e w3 ⟨q, rfl, q0, q1, s3, o3⟩
  have hw2 : IntKind.i64.wrap (q - 10) = q - 10 := IntWalk.i64_in _ (by omega)
  go_wp2_with fail
  refine (l01Pick_any G w.heap.size xs _ 4 _ _ [p - 1000000, q - 10, 1000000000, -1000000001] _ (s3.alloc _) (Row.new w3 _ (ints [p - 1000000, q - 10, 1000000000, -1000000001])) (fun b o e => by have := s3.lt; injection e with e; injection e with e1; omega) rfl (by omega) (by omega)).mono ?_
  rintro e w4 ⟨u, rfl, hu, s4, o4⟩
  have HU : Hid (IsI64 u) := by simp at hu; rw [Hid]; unfold IsI64; omega
  have b4 := below_only b1 (only_trans (only_alloc (only_trans o2 o3) _) o4) b1.size hG
  clear hu hw1 hw2
  go_wp2_with fail
  refine (l01Next_any G w.heap.size xs _ _ (by omega) s4).mono ?_
  rintro e w5 ⟨p, rfl, p0, p1, s5, o5⟩
  have hw1 : IntKind.i64.wrap (p - 10) = p - 10 := IntWalk.i64_in _ (by omega)
  go_wp2_with fail
  refine (l01Next_any G w.heap.size xs _ _ (by omega) s5).mono ?_
  rintro e w6 ⟨q, rfl, q0, q1, s6, o6⟩
  have hw2 : IntKind.i64.wrap (1 + q) = 1 + q := IntWalk.i64_in _ (by omega)
  go_wp2_with fail
  refine (l01Next_any G w.heap.size xs _ _ (by omega) s6).mono ?_
  rintro e w7 ⟨t, rfl, t0, t1, s7, o7⟩
  have hw3 : IntKind.i64.wrap (-1 - t) = -1 - t := IntWalk.i64_in _ (by omega)
  go_wp2_with fail
  refine (l01Pick_any G w.heap.size xs _ 7 _ _ [p - 10, 1 + q, -1 - t, 10007, -20014, 1000000000, 1000000001] _ (s7.alloc _) (Row.new w7 _ (ints [p - 10, 1 + q, -1 - t, 10007, -20014, 1000000000, 1000000001])) (fun b o e => by have := s7.lt; injection e with e; injection e with e1; omega) rfl (by omega) (by omega)).mono ?_
  rintro e w8 ⟨v, rfl, hv, s8, o8⟩
  have HV : Hid (IsI64 v) := by simp at hv; rw [Hid]; unfold IsI64; omega
  have b8 := below_only b4 (only_trans (only_alloc (only_trans (only_trans o5 o6) o7) _) o8) b4.size hG
  clear hv hw1 hw2 hw3
  go_wp2
  go_ret2
  exact ⟨_, _, rfl, HU.out, HV.out, b8⟩
end Go.Proofs.YtcjomceaiokciaaDoor
