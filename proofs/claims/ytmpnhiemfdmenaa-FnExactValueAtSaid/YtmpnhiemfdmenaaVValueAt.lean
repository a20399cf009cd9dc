/-
  PROVED: for all arguments the law FnExactValueAt returns true: ValueAt answers as its model, leaves its lists alone.
  CONDITIONS: none; every argument that the types hold.
-/
import Derived.Test.YtmpnhiemfdmenaaUW1
import Derived.Test.YtmpnhiemfdmenaaRes1
import Derived.Test.YtmpnhiemfdmenaaFFnExactValueAt
namespace Go.Proofs.Ytmpnhiemfdmenaa.fnExactValueAt
open Go.ChangeShapes Go.WideShapes Go.ChangeAt Go.RowKit Fld
set_option linter.unusedVariables false

set_option maxRecDepth 100000 in
set_option maxHeartbeats 4000000 in
theorem walk (w : World) (a0 : Option Addr) (len0 cap0 : Nat) (z0 : List Int) (w0 : IsRow .i64 w a0 len0 cap0 z0) (a1 : Option Addr) (len1 cap1 : Nat) (z1 : List (List Int)) (w1 : IsMat w a1 len1 cap1 z1) : Calls Try.prog 4 #[.slice a0 len0 cap0, .slice a1 len1 cap1] w fun e w' => e = .returned (.bool true) ∧ Below w.heap.size w w' := by
  obtain ⟨hl0, hlc0, hcm0, row0, _⟩ := w0
  have HL0 := Lib.hid hl0
  clear hl0
  unfold maxLen at hcm0
  obtain ⟨hl1, hlc1, hcm1, row1, _⟩ := w1
  have HL1 := Lib.hid hl1
  clear hl1
  unfold maxLen at hcm1
  have b0 : Below w.heap.size w w := Below.refl _ _
  by_cases hf0 : len0 ≤ 1048576
  · skip
    by_cases hf1 : len1 + total z1 ≤ 1048576
    · have S1 := Lib.hid (szR_pos (left := 1048576) (used := len1 + total z1) (by omega))
      go_enter Try.func4, Try.ntmps4
      go_wp2_with fail
      refine (szInt64SS_any _ len1 _ _ z1 _ _ HL1.out (by omega) row1 (by omega) (by omega)).mono ?_
      rintro e w' ⟨rfl, rfl⟩
      rw [S1.out]
      go_wp2_with fail
      refine (toInt64S_any _ len0 _ w.heap.size z0 _ HL0.out (by omega) (by exact b0.size) (by exact row0.below b0 (Nat.le_refl _))).mono ?_
      rintro e u1 ⟨AC0, cC0, rfl, oC0, beu1⟩
      have HC0 := Lib.hid (show OwnR u1 w.heap.size u1.heap.size 2 (.slice AC0 len0 cC0) len0 (ints z0) from OwnR.of oC0)
      clear oC0
      have yu1 : Below w.heap.size w u1 := ⟨beu1.os, beu1.tape, beu1.output, beu1.size, beu1.block⟩
      have zu1 : w.heap.size ≤ u1.heap.size := yu1.size
      have bu1 : Below w.heap.size w u1 := b0.trans (yu1.mono b0.size)
      clear yu1 beu1
      go_wp2_with fail
      refine (toInt64SS_any _ len1 _ w.heap.size z1 _ HL1.out (by omega) (by omega) (by exact bu1.size) (by exact row1.below bu1 (Nat.le_refl _))).mono ?_
      rintro e u2 ⟨AC1, cC1, vsC1, rfl, oC1, beu2⟩
      have HC1 := Lib.hid (show OwnMat u2 u1.heap.size u2.heap.size (.slice AC1 len1 cC1) len1 z1 vsC1 from oC1)
      clear oC1
      have yu2 : Below u1.heap.size u1 u2 := ⟨beu2.os, beu2.tape, beu2.output, beu2.size, beu2.block⟩
      have zu2 : u1.heap.size ≤ u2.heap.size := yu2.size
      have bu2 : Below w.heap.size w u2 := bu1.trans (yu2.mono bu1.size)
      have HC0u2 := Lib.hid (HC0.out.below yu2 (by omega))
      clear HC0
      clear yu2 beu2
      clear bu1
      go_wp2_with fail
      refine (sValueAt_L _ _ len0 len1 _ _ u2.heap.size u2.heap.size z0 z1  _ HL0.out HL1.out (by omega) (by omega) (Nat.le_refl _) (Nat.le_refl _) (by exact (HC0u2.out.row).more (by omega)) (by exact (HC1.out.mat).more (by omega)) ).mono ?_
      rintro e u3 ⟨rfl, beu3⟩
      have yu3 : Below u2.heap.size u2 u3 := ⟨beu3.os, beu3.tape, beu3.output, beu3.size, beu3.block⟩
      have zu3 : u2.heap.size ≤ u3.heap.size := yu3.size
      have bu3 : Below w.heap.size w u3 := bu2.trans (yu3.mono bu2.size)
      have HC0u3 := Lib.hid (HC0u2.out.below yu3 (by omega))
      clear HC0u2
      have HC1u3 := Lib.hid (HC1.out.below yu3 (by omega))
      clear HC1
      clear yu3 beu3
      clear bu2
      clear HC0u3
      clear HC1u3
      go_wp2_with fail
      refine (toInt64S_any _ len0 _ w.heap.size z0 _ HL0.out (by omega) (by exact bu3.size) (by exact row0.below bu3 (Nat.le_refl _))).mono ?_
      rintro e u4 ⟨AX0, cX0, rfl, oX0, beu4⟩
      have HX0 := Lib.hid (show OwnR u4 u3.heap.size u4.heap.size 2 (.slice AX0 len0 cX0) len0 (ints z0) from OwnR.of oX0)
      clear oX0
      have yu4 : Below u3.heap.size u3 u4 := ⟨beu4.os, beu4.tape, beu4.output, beu4.size, beu4.block⟩
      have zu4 : u3.heap.size ≤ u4.heap.size := yu4.size
      have bu4 : Below w.heap.size w u4 := bu3.trans (yu4.mono bu3.size)
      clear yu4 beu4
      clear bu3
      go_wp2_with fail
      refine (toInt64SS_any _ len1 _ w.heap.size z1 _ HL1.out (by omega) (by omega) (by exact bu4.size) (by exact row1.below bu4 (Nat.le_refl _))).mono ?_
      rintro e u5 ⟨AX1, cX1, vsX1, rfl, oX1, beu5⟩
      have HX1 := Lib.hid (show OwnMat u5 u4.heap.size u5.heap.size (.slice AX1 len1 cX1) len1 z1 vsX1 from oX1)
      clear oX1
      have yu5 : Below u4.heap.size u4 u5 := ⟨beu5.os, beu5.tape, beu5.output, beu5.size, beu5.block⟩
      have zu5 : u4.heap.size ≤ u5.heap.size := yu5.size
      have bu5 : Below w.heap.size w u5 := bu4.trans (yu5.mono bu4.size)
      have HX0u5 := Lib.hid (HX0.out.below yu5 (by omega))
      clear HX0
      clear yu5 beu5
      clear bu4
      go_wp2_with fail
      refine (pValueAt_L _ _ len0 len1 _ _ u5.heap.size u5.heap.size z0 z1  _ HL0.out HL1.out (by omega) (by omega) (Nat.le_refl _) (Nat.le_refl _) (by exact (HX0u5.out.row).more (by omega)) (by exact (HX1.out.mat).more (by omega))  (own_cap (HX0u5.out).1).1).mono ?_
      rintro e u6 ⟨rfl, beu6⟩
      have yu6 : Below u5.heap.size u5 u6 := ⟨beu6.os, beu6.tape, beu6.output, beu6.size, beu6.block⟩
      have zu6 : u5.heap.size ≤ u6.heap.size := yu6.size
      have bu6 : Below w.heap.size w u6 := bu5.trans (yu6.mono bu5.size)
      have HX0u6 := Lib.hid (HX0u5.out.below yu6 (by omega))
      clear HX0u5
      have HX1u6 := Lib.hid (HX1.out.below yu6 (by omega))
      clear HX1
      clear yu6 beu6
      clear bu5
      go_wp2_with fail
      refine (toInt64S_any _ len0 _ w.heap.size z0 _ HL0.out (by omega) (by exact bu6.size) (by exact row0.below bu6 (Nat.le_refl _))).mono ?_
      rintro e u7 ⟨AD0, cD0, rfl, oD0, beu7⟩
      have HD0 := Lib.hid (show OwnR u7 u6.heap.size u7.heap.size 2 (.slice AD0 len0 cD0) len0 (ints z0) from OwnR.of oD0)
      clear oD0
      have yu7 : Below u6.heap.size u6 u7 := ⟨beu7.os, beu7.tape, beu7.output, beu7.size, beu7.block⟩
      have zu7 : u6.heap.size ≤ u7.heap.size := yu7.size
      have bu7 : Below w.heap.size w u7 := bu6.trans (yu7.mono bu6.size)
      have HX0u7 := Lib.hid (HX0u6.out.below yu7 (by omega))
      clear HX0u6
      have HX1u7 := Lib.hid (HX1u6.out.below yu7 (by omega))
      clear HX1u6
      clear yu7 beu7
      clear bu6
      go_wp2_with fail
      refine (eqInt64S_any _ _ len0 len0 _ _ _ _ z0 z0 _ HL0.out HL0.out (by omega) (by omega) (by exact HX0u7.out.row) (by exact HD0.out.row)).mono ?_
      rintro e vj8 ⟨rfl, j8, rfl⟩
      rw [eqL_self]
      clear HD0
      go_wp2_with fail
      refine (toInt64SS_any _ len1 _ w.heap.size z1 _ HL1.out (by omega) (by omega) (by exact (below_drewN bu7 _).size) (by exact row1.below (below_drewN bu7 _) (Nat.le_refl _))).mono ?_
      rintro e u9 ⟨AD1, cD1, vsD1, rfl, oD1, beu9⟩
      have HD1 := Lib.hid (show OwnMat u9 u7.heap.size u9.heap.size (.slice AD1 len1 cD1) len1 z1 vsD1 from oD1)
      clear oD1
      have yu9 : Below u7.heap.size u7 u9 := ⟨beu9.os, beu9.tape, beu9.output, beu9.size, beu9.block⟩
      have zu9 : u7.heap.size ≤ u9.heap.size := yu9.size
      have bu9 : Below w.heap.size w u9 := bu7.trans (yu9.mono bu7.size)
      have HX0u9 := Lib.hid (HX0u7.out.below yu9 (by omega))
      clear HX0u7
      have HX1u9 := Lib.hid (HX1u7.out.below yu9 (by omega))
      clear HX1u7
      clear yu9 beu9
      clear bu7
      go_wp2_with fail
      refine (eqInt64SS_any _ _ len1 len1 _ _ _ _ z1 z1 _ HL1.out HL1.out (by omega) (by omega) (by exact HX1u9.out.mat) (by exact HD1.out.mat)).mono ?_
      rintro e vj10 ⟨rfl, j10, rfl⟩
      rw [eqM_self]
      clear HD1
      go_wp2
      go_ret
      exact ⟨rfl, below_drewN bu9 _⟩
    · have S1 := Lib.hid (szR_neg (left := 1048576) (used := len1 + total z1) (by omega))
      go_enter Try.func4, Try.ntmps4
      go_wp2_with fail
      refine (szInt64SS_any _ len1 _ _ z1 _ _ HL1.out (by omega) row1 (by omega) (by omega)).mono ?_
      rintro e w' ⟨rfl, rfl⟩
      rw [S1.out]
      go_wp2
      go_ret
      exact ⟨rfl, Below.refl _ _⟩
  · go_enter Try.func4, Try.ntmps4
    go_wp2
    go_ret
    exact ⟨rfl, Below.refl _ _⟩
/-- the statement -/
theorem holds : Rows.FnExactValueAtSaid := of_walk walk
end Go.Proofs.Ytmpnhiemfdmenaa.fnExactValueAt
