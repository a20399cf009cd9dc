/-
  What the sum of products of two lists is, the program's and the model's alike.
-/
import Derived.Test.YteaadpdbiakbkabSlices
namespace Go.Proofs.Yteaadpdbiakbkab
open Go.RowKit Fld
set_option linter.unusedVariables false
set_option linter.unusedSimpArgs false

theorem dotA_no {n n' : Nat} {xs ys : List Int} (h : 64 < n ∨ n ≠ n' ∨ allNum xs = false ∨ allNum ys = false) : dotA n n' xs ys = (0, 2) :=
  if_neg (fun g => by rcases h with h | h | h | h; omega; exact h g.2.1; rw [h] at g; exact Bool.noConfusion g.2.2.1; rw [h] at g; exact Bool.noConfusion g.2.2.2)
set_option maxHeartbeats 400000 in
theorem sDotOf_any (A A' : Option Addr) (n n' c c' B B' : Nat) (xs ys : List Int) (w : World) (hl : xs.length = n) (hl' : ys.length = n') (hn : n ≤ 1048576) (hn' : n' ≤ 1048576) (hB : B ≤ w.heap.size) (hB' : B' ≤ w.heap.size) (h : Row w B A (ints xs)) (h' : Row w B' A' (ints ys)) :
    Calls Try.prog 22 #[.slice A n c, .slice A' n' c'] w fun e w' => e = .returned (.tuple #[.int .i64 (dotA n n' xs ys).1, .int .i64 (dotA n n' xs ys).2]) ∧ Below w.heap.size w w' := by
  have HL := Lib.hid hl
  have HL' := Lib.hid hl'
  clear hl hl'
  by_cases hb : n ≤ 64
  · by_cases hnn : n = n'
    · cases ha : allNum xs
      · have H := Lib.hid (dotA_no (n := n) (n' := n') (ys := ys) (.inr (.inr (.inl ha))))
        have t1 : ((n : Int) != n') = false := bne_f (by omega)
        clear hnn
        go_enter Try.func22, Try.ntmps22
        go_wp2_with fail
        refine (l01Numbers_any _ _ _ B xs _ HL.out (by omega) h).mono ?_
        rintro e w' ⟨rfl, rfl⟩
        go_wp2
        go_ret2
        exact ⟨ret_pair H.out, Below.refl _ _⟩
      · cases ha' : allNum ys
        · have H := Lib.hid (dotA_no (n := n) (n' := n') (xs := xs) (.inr (.inr (.inr ha'))))
          have t1 : ((n : Int) != n') = false := bne_f (by omega)
          clear hnn
          go_enter Try.func22, Try.ntmps22
          go_wp2_with fail
          refine (l01Numbers_any _ _ _ B xs _ HL.out (by omega) h).mono ?_
          rintro e w' ⟨rfl, rfl⟩
          go_wp2_with fail
          refine (l01Numbers_any _ _ _ B' ys _ HL'.out (by omega) h').mono ?_
          rintro e w' ⟨rfl, rfl⟩
          go_wp2
          go_ret2
          exact ⟨ret_pair H.out, Below.refl _ _⟩
        · subst hnn
          have H := Lib.hid (show dotA n n xs ys = (dotK xs ys n, 0) from if_pos ⟨hb, rfl, ha, ha'⟩)
          have HA := Lib.hid ha
          have HA' := Lib.hid ha'
          go_enter Try.func22, Try.ntmps22
          go_wp2_with fail
          refine (l01Numbers_any _ _ _ B xs _ HL.out (by omega) h).mono ?_
          rintro e w' ⟨rfl, rfl⟩
          go_wp2_with fail
          refine (l01Numbers_any _ _ _ B' ys _ HL'.out (by omega) h').mono ?_
          rintro e w' ⟨rfl, rfl⟩
          go_wp2_with fail
          refine (l01Dot_any _ _ n _ _ _ _ xs ys _ HL.out HL'.out (by omega) h h' HA.out HA'.out).mono ?_
          rintro e w' ⟨rfl, m, rfl⟩
          go_wp2
          go_ret2
          exact ⟨ret_pair H.out, below_drewN (Below.refl _ _) _⟩
    · have H := Lib.hid (dotA_no (xs := xs) (ys := ys) (.inr (.inl hnn)))
      have t1 : ((n : Int) != n') = true := bne_t (by omega)
      clear hnn
      go_enter Try.func22, Try.ntmps22
      go_wp2
      go_ret2
      exact ⟨ret_pair H.out, Below.refl _ _⟩
  · have H := Lib.hid (dotA_no (n := n) (n' := n') (xs := xs) (ys := ys) (.inl (by omega)))
    go_enter Try.func22, Try.ntmps22
    go_wp2
    go_ret2
    exact ⟨ret_pair H.out, Below.refl _ _⟩
set_option maxHeartbeats 400000 in
theorem dotOf_any' (A A' : Option Addr) (n n' c c' B B' : Nat) (xs ys : List Int) (w : World) (hl : xs.length = n) (hl' : ys.length = n') (hn : n ≤ 1048576) (hn' : n' ≤ 1048576) (hB : B ≤ w.heap.size) (hB' : B' ≤ w.heap.size) (h : Row w B A (ints xs)) (h' : Row w B' A' (ints ys)) :
    Calls Try.prog 23 #[.slice A n c, .slice A' n' c'] w fun e w' => e = .returned (.tuple #[.int .i64 (dotA n n' xs ys).1, .int .i64 (dotA n n' xs ys).2]) ∧ Below w.heap.size w w' := by
  have HL := Lib.hid hl
  have HL' := Lib.hid hl'
  clear hl hl'
  by_cases hb : n ≤ 64
  · by_cases hnn : n = n'
    · cases ha : allNum xs
      · have H := Lib.hid (dotA_no (n := n) (n' := n') (ys := ys) (.inr (.inr (.inl ha))))
        have t1 : ((n : Int) != n') = false := bne_f (by omega)
        clear hnn
        go_enter Try.func23, Try.ntmps23
        go_wp2_with fail
        refine (areNumbers_any _ _ _ B xs _ HL.out (by omega) h).mono ?_
        rintro e w' ⟨rfl, rfl⟩
        go_wp2
        go_ret2
        exact ⟨ret_pair H.out, Below.refl _ _⟩
      · cases ha' : allNum ys
        · have H := Lib.hid (dotA_no (n := n) (n' := n') (xs := xs) (.inr (.inr (.inr ha'))))
          have t1 : ((n : Int) != n') = false := bne_f (by omega)
          clear hnn
          go_enter Try.func23, Try.ntmps23
          go_wp2_with fail
          refine (areNumbers_any _ _ _ B xs _ HL.out (by omega) h).mono ?_
          rintro e w' ⟨rfl, rfl⟩
          go_wp2_with fail
          refine (areNumbers_any _ _ _ B' ys _ HL'.out (by omega) h').mono ?_
          rintro e w' ⟨rfl, rfl⟩
          go_wp2
          go_ret2
          exact ⟨ret_pair H.out, Below.refl _ _⟩
        · subst hnn
          have H := Lib.hid (show dotA n n xs ys = (dotK xs ys n, 0) from if_pos ⟨hb, rfl, ha, ha'⟩)
          have HA := Lib.hid ha
          have HA' := Lib.hid ha'
          go_enter Try.func23, Try.ntmps23
          go_wp2_with fail
          refine (areNumbers_any _ _ _ B xs _ HL.out (by omega) h).mono ?_
          rintro e w' ⟨rfl, rfl⟩
          go_wp2_with fail
          refine (areNumbers_any _ _ _ B' ys _ HL'.out (by omega) h').mono ?_
          rintro e w' ⟨rfl, rfl⟩
          go_wp2_with fail
          refine (numbersOf_any _ n _ B xs _ HL.out (by omega) hB h).mono ?_
          rintro e w1 ⟨A1, c1, rfl, own1, bel1⟩
          go_wp2_with fail
          refine (numbersOf_any _ n _ B' ys _ HL'.out (by omega) (Nat.le_trans hB' bel1.size) (h'.below bel1 hB')).mono ?_
          rintro e w2 ⟨A2, c2, rfl, own2, bel2⟩
          have r1 := (row_of_own own1).below bel2 (Nat.le_refl _)
          have r2 := row_of_own own2
          have bel3 : Below w.heap.size w w2 := bel1.trans (bel2.mono bel1.size)
          go_wp2_with fail
          refine (dotOf_any _ _ n _ _ _ _ xs ys _ HL.out HL'.out (by omega) r1 r2 HA.out HA'.out).mono ?_
          rintro e w' ⟨rfl, m, rfl⟩
          go_wp2
          go_ret2
          exact ⟨ret_pair H.out, below_drewN bel3 _⟩
    · have H := Lib.hid (dotA_no (xs := xs) (ys := ys) (.inr (.inl hnn)))
      have t1 : ((n : Int) != n') = true := bne_t (by omega)
      clear hnn
      go_enter Try.func23, Try.ntmps23
      go_wp2
      go_ret2
      exact ⟨ret_pair H.out, Below.refl _ _⟩
  · have H := Lib.hid (dotA_no (n := n) (n' := n') (xs := xs) (ys := ys) (.inl (by omega)))
    go_enter Try.func23, Try.ntmps23
    go_wp2
    go_ret2
    exact ⟨ret_pair H.out, Below.refl _ _⟩
end Go.Proofs.Yteaadpdbiakbkab
