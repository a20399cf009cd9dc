/-
  PROVED: for all arguments the law FnExactIsElement returns true: IsElement answers as its model and leaves its list alone.
  CONDITIONS: none; every argument that the types hold.
-/
import Derived.Test.YtjmjdcfgbaepkaaIsS
import Derived.Test.YtjmjdcfgbaepkaaFFnExactIsElement
namespace Go.Proofs.Ytjmjdcfgbaepkaa.fnExactIsElement
open Go.ChangeShapes Go.WideShapes Go.ChangeAt Go.RowKit Fld
set_option linter.unusedVariables false
set_option linter.unusedSimpArgs false
set_option maxRecDepth 100000

set_option maxHeartbeats 4000000 in
theorem walk (w : World) (a0 : Option Addr) (len0 cap0 : Nat) (z0 : List (Int × List (List Int))) (w0 : IsParts w a0 len0 cap0 z0) : Calls Try.prog 7 #[.slice a0 len0 cap0] w fun e w' => e = .returned (.bool true) ∧ Below w.heap.size w w' := by
  obtain ⟨hl0, hlc0, hcm0, row0, _⟩ := w0
  have HL := Lib.hid hl0
  have P0 := Lib.hid row0
  unfold maxLen at hcm0
  have hz := szTo_le z0 0
  rw [hl0] at hz
  clear hl0 row0
  by_cases hfit : ((szP z0 : Nat) : Int) ≤ 1048576
  · have G := Lib.hid (szR_pos hfit)
    have hn : len0 ≤ 1048576 := by omega
    have ht : szP z0 ≤ 1048576 := by omega
    have hd : decide ((1048576 : Int) - ((szP z0 : Nat) : Int) < 0) = false := decide_eq_false (by omega)
    obtain ⟨sz, hsz⟩ : ∃ sz, sz = szP z0 := ⟨_, rfl⟩
    rw [← hsz] at G hd hfit
    have HT := Lib.hid ht
    clear hz ht
    go_enter Try.func7, Try.ntmps7
    go_wp2_with fail
    refine (szPartS_any a0 len0 cap0 w.heap.size z0 1048576 w HL.out (by omega) (Nat.le_refl _) P0.out (by omega) (by omega)).mono ?_
    rintro e u1 ⟨rfl, y⟩
    rw [← hsz, G.out]
    replace P0 := Lib.hid (P0.out.next y)
    have B := Lib.hid y
    clear y hsz
    go_wp2_with fail
    refine (toPartS_any a0 len0 cap0 u1.heap.size z0 u1 HL.out hn HT.out (Nat.le_refl _) P0.out).mono ?_
    rintro e u2 ⟨A1, rfl, p1, y⟩
    replace P0 := Lib.hid (P0.out.next y)
    replace B := Lib.hid (B.out.trans (y.mono B.out.size))
    have P1 := Lib.hid p1
    clear p1 y
    go_wp2_with fail
    refine (sIsElement_any A1 len0 len0 u2.heap.size z0 u2 HL.out hn HT.out (Nat.le_refl _) P1.out).mono ?_
    rintro e u3 ⟨rfl, y⟩
    obtain ⟨v, hv⟩ : ∃ v, v = isE z0 := ⟨_, rfl⟩
    have HV := Lib.hid hv
    rw [← hv]
    have zv : (v != v) = false := by cases v <;> rfl
    clear hv
    replace P0 := Lib.hid (P0.out.next y)
    replace B := Lib.hid (B.out.trans (y.mono B.out.size))
    clear y P1
    go_wp2_with fail
    refine (toPartS_any a0 len0 cap0 u3.heap.size z0 u3 HL.out hn HT.out (Nat.le_refl _) P0.out).mono ?_
    rintro e u4 ⟨A2, rfl, p1, y⟩
    replace P0 := Lib.hid (P0.out.next y)
    replace B := Lib.hid (B.out.trans (y.mono B.out.size))
    have P1 := Lib.hid p1
    clear p1 y
    go_wp2_with fail
    refine (isElement_any A2 len0 len0 u4.heap.size z0 u4 HL.out hn HT.out (Nat.le_refl _) P1.out).mono ?_
    rintro e u5 ⟨rfl, y⟩
    rw [← HV.out]
    replace P0 := Lib.hid (P0.out.next y)
    replace P1 := Lib.hid (P1.out.next y)
    replace B := Lib.hid (B.out.trans (y.mono B.out.size))
    clear y
    go_wp2_with fail
    refine (toPartS_any a0 len0 cap0 u5.heap.size z0 u5 HL.out hn HT.out (Nat.le_refl _) P0.out).mono ?_
    rintro e u6 ⟨A3, rfl, p3, y⟩
    replace P1 := Lib.hid (P1.out.next y)
    replace B := Lib.hid (B.out.trans (y.mono B.out.size))
    have P3 := Lib.hid p3
    clear p3 y P0
    go_wp2_with fail
    refine (eqPartS_same A2 A3 len0 len0 len0 u6.heap.size u6.heap.size z0 u6 HL.out hn HT.out (Nat.le_refl _) (Nat.le_refl _) P1.out P3.out).mono ?_
    rintro e u7 ⟨rfl, y⟩
    replace B := Lib.hid (B.out.trans (y.mono B.out.size))
    clear y P1 P3
    go_wp2
    go_ret
    exact ⟨rfl, B.out⟩
  · have G := Lib.hid (szR_neg (left := 1048576) (used := szP z0) (by omega))
    clear hz
    go_enter Try.func7, Try.ntmps7
    go_wp2_with fail
    refine (szPartS_any a0 len0 cap0 w.heap.size z0 1048576 w HL.out (by omega) (Nat.le_refl _) P0.out (by omega) (by omega)).mono ?_
    rintro e u1 ⟨rfl, y⟩
    rw [G.out]
    have B := Lib.hid y
    clear y
    go_wp2
    go_ret
    exact ⟨rfl, B.out⟩
/-- the statement -/
theorem holds : Rows.FnExactIsElementSaid := of_walk walk
end Go.Proofs.Ytjmjdcfgbaepkaa.fnExactIsElement
