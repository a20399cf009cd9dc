/-
  PROVED: for all arguments the law FnExactCutAbove returns true: CutAbove answers as its model, leaves its lists alone, and its result owns its memory.
  CONDITIONS: none; every argument that the types hold.
-/
import Derived.Test.YtgicbmfcojfjcaaCutX
import Derived.Test.YtgicbmfcojfjcaaFFnExactCutAbove
namespace Go.Proofs.Ytgicbmfcojfjcaa.fnExactCutAbove
open Go.ChangeShapes Go.WideShapes Go.ChangeAt Go.RowKit Fld
set_option linter.unusedVariables false

set_option maxRecDepth 100000 in
set_option maxHeartbeats 4000000 in
theorem walk (w : World) (a0 : Option Addr) (len0 cap0 : Nat) (z0 : List Int) (w0 : IsRow .i64 w a0 len0 cap0 z0) (a1 : Int) (w1 : (Lit.int .i64 a1).wf = true) : Calls Try.prog 13 #[.slice a0 len0 cap0, .int .i64 a1] w fun e w' => e = .returned (.bool true) ∧ Below w.heap.size w w' := by
  obtain ⟨hl0, hlc0, hcm0, row0, _⟩ := w0
  have HL0 := Lib.hid hl0
  clear hl0
  unfold maxLen at hcm0
  have b0 : Below w.heap.size w w := Below.refl _ _
  by_cases hf0 : len0 ≤ 1048576
  · skip
    go_enter Try.func13, Try.ntmps13
    go_wp2_with fail
    refine (toInt64S_any _ len0 _ w.heap.size z0 _ HL0.out (by omega) (by exact b0.size) (by exact row0.below b0 (Nat.le_refl _))).mono ?_
    rintro e u1 ⟨AC0, cC0, rfl, oC0, beu1⟩
    have HC0 := Lib.hid (show OwnR u1 w.heap.size u1.heap.size 2 (.slice AC0 len0 cC0) len0 (ints z0) from OwnR.of oC0)
    clear oC0
    have yu1 : Below w.heap.size w u1 := ⟨beu1.os, beu1.tape, beu1.output, beu1.size, beu1.block⟩
    have zu1 : w.heap.size ≤ u1.heap.size := yu1.size
    have bu1 : Below w.heap.size w u1 := b0.trans (yu1.mono b0.size)
    clear yu1 beu1
    go_wp2_with fail
    refine (sCutAbove_L _ len0 _ u1.heap.size z0 a1 _ HL0.out (by omega) (Nat.le_refl _) (by exact (HC0.out.row).more (by omega)) (i64_of_wf w1)).mono ?_
    rintro e u2 ⟨saW, sbW, AW0, cW0, AW1, cW1, rfl, oW0, oW1, beu2⟩
    have HW0 := Lib.hid (show LowRow u2 u2.heap.size AW0 (cutA z0 a1).1 from oW0)
    clear oW0
    have HW1 := Lib.hid (show LowRow u2 u2.heap.size AW1 (cutA z0 a1).2.1 from oW1)
    clear oW1
    have yu2 : Below u1.heap.size u1 u2 := ⟨beu2.os, beu2.tape, beu2.output, beu2.size, beu2.block⟩
    have zu2 : u1.heap.size ≤ u2.heap.size := yu2.size
    have bu2 : Below w.heap.size w u2 := bu1.trans (yu2.mono bu1.size)
    have HC0u2 := Lib.hid (HC0.out.below yu2 (by omega))
    clear HC0
    clear yu2 beu2
    clear bu1
    clear HC0u2
    go_wp2_with fail
    refine (toInt64S_any _ len0 _ w.heap.size z0 _ HL0.out (by omega) (by exact bu2.size) (by exact row0.below bu2 (Nat.le_refl _))).mono ?_
    rintro e u3 ⟨AX0, cX0, rfl, oX0, beu3⟩
    have HX0 := Lib.hid (show OwnR u3 u2.heap.size u3.heap.size 2 (.slice AX0 len0 cX0) len0 (ints z0) from OwnR.of oX0)
    clear oX0
    have yu3 : Below u2.heap.size u2 u3 := ⟨beu3.os, beu3.tape, beu3.output, beu3.size, beu3.block⟩
    have zu3 : u2.heap.size ≤ u3.heap.size := yu3.size
    have bu3 : Below w.heap.size w u3 := bu2.trans (yu3.mono bu2.size)
    have HW0u3 := Lib.hid (HW0.out.below yu3 (by omega))
    clear HW0
    have HW1u3 := Lib.hid (HW1.out.below yu3 (by omega))
    clear HW1
    clear yu3 beu3
    clear bu2
    go_wp2_with fail
    refine (pCutAbove_L _ len0 _ u3.heap.size z0 a1 _ HL0.out (by omega) (Nat.le_refl _) (by exact (HX0.out.row).more (by omega)) (i64_of_wf w1) (own_cap (HX0.out).1).1).mono ?_
    rintro e u4 ⟨saG, sbG, AG0, cG0, AG1, cG1, midG, rfl, laG, lbG, oG0, oG1, beu4⟩
    have HG0 := Lib.hid (show OwnR u4 u3.heap.size midG 2 (.slice AG0 (cutA z0 a1).1.length cG0) (cutA z0 a1).1.length (ints (cutA z0 a1).1) from oG0)
    clear oG0
    have HG1 := Lib.hid (show OwnR u4 midG u4.heap.size 2 (.slice AG1 (cutA z0 a1).2.1.length cG1) (cutA z0 a1).2.1.length (ints (cutA z0 a1).2.1) from oG1)
    clear oG1
    have yu4 : Below u3.heap.size u3 u4 := ⟨beu4.os, beu4.tape, beu4.output, beu4.size, beu4.block⟩
    have zu4 : u3.heap.size ≤ u4.heap.size := yu4.size
    have bu4 : Below w.heap.size w u4 := bu3.trans (yu4.mono bu3.size)
    have HW0u4 := Lib.hid (HW0u3.out.below yu4 (by omega))
    clear HW0u3
    have HW1u4 := Lib.hid (HW1u3.out.below yu4 (by omega))
    clear HW1u3
    have HX0u4 := Lib.hid (HX0.out.below yu4 (by omega))
    clear HX0
    clear yu4 beu4
    clear bu3
    go_wp2_with fail
    refine (eqInt64S_any _ _ (cutA z0 a1).1.length (cutA z0 a1).1.length _ _ _ _ (cutA z0 a1).1 (cutA z0 a1).1 _ rfl rfl (by omega) (by omega) (by exact HG0.out.row) (by exact HW0u4.out.row)).mono ?_
    rintro e vj5 ⟨rfl, j5, rfl⟩
    rw [eqL_self]
    go_wp2_with fail
    refine (eqInt64S_any _ _ (cutA z0 a1).2.1.length (cutA z0 a1).2.1.length _ _ _ _ (cutA z0 a1).2.1 (cutA z0 a1).2.1 _ rfl rfl (by omega) (by omega) (by exact (HG1.out.drewN _).row) (by exact (HW1u4.out.drewN _).row)).mono ?_
    rintro e vj6 ⟨rfl, j6, rfl⟩
    rw [eqL_self]
    go_wp2_with fail
    refine (toInt64S_any _ len0 _ w.heap.size z0 _ HL0.out (by omega) (by exact (below_drewN bu4 _).size) (by exact row0.below (below_drewN bu4 _) (Nat.le_refl _))).mono ?_
    rintro e u7 ⟨AD0, cD0, rfl, oD0, beu7⟩
    have HD0 := Lib.hid (show OwnR u7 u4.heap.size u7.heap.size 2 (.slice AD0 len0 cD0) len0 (ints z0) from OwnR.of oD0)
    clear oD0
    have yu7 : Below u4.heap.size u4 u7 := ⟨beu7.os, beu7.tape, beu7.output, beu7.size, beu7.block⟩
    have zu7 : u4.heap.size ≤ u7.heap.size := yu7.size
    have bu7 : Below w.heap.size w u7 := bu4.trans (yu7.mono bu4.size)
    have HW0u7 := Lib.hid (HW0u4.out.below yu7 (by omega))
    clear HW0u4
    have HW1u7 := Lib.hid (HW1u4.out.below yu7 (by omega))
    clear HW1u4
    have HX0u7 := Lib.hid (HX0u4.out.below yu7 (by omega))
    clear HX0u4
    have HG0u7 := Lib.hid (HG0.out.below yu7 (by omega))
    clear HG0
    have HG1u7 := Lib.hid (HG1.out.below yu7 (by omega))
    clear HG1
    clear yu7 beu7
    clear bu4
    go_wp2_with fail
    refine (eqInt64S_any _ _ len0 len0 _ _ _ _ z0 z0 _ HL0.out HL0.out (by omega) (by omega) (by exact HX0u7.out.row) (by exact HD0.out.row)).mono ?_
    rintro e vj8 ⟨rfl, j8, rfl⟩
    rw [eqL_self]
    clear HD0
    go_wp2_with fail
    refine (markInt64S_any _ len0 _ u2.heap.size z0 1 _ HL0.out (by omega) (by omega) (by omega) (by exact ((HX0u7.out.drewN _)).1)).mono ?_
    rintro e u9 ⟨rfl, ou9, gu9⟩
    have wiu9 := Within.grown gu9 (fun g hg => ⟨((HX0u7.out).1.lt g hg).1, (HX0u7.out).2 g hg⟩)
    have yu9 : Within u2.heap.size u3.heap.size u7 u9 := ⟨wiu9.os, wiu9.tape, wiu9.output, wiu9.size, wiu9.block⟩
    have zu9 : u7.heap.size ≤ u9.heap.size := yu9.size
    have bu9 : Below w.heap.size w u9 := Below.then bu7 yu9 (by omega) (by omega)
    have HX0u9 := Lib.hid (show OwnR u9 u2.heap.size u3.heap.size 2 (.slice AX0 len0 cX0) len0 (ints (marks 1 len0)) from ⟨ou9, HX0u7.out.2⟩)
    clear ou9 gu9 HX0u7
    have HW0u9 := Lib.hid (HW0u7.out.within yu9 (by omega) (by omega))
    clear HW0u7
    have HW1u9 := Lib.hid (HW1u7.out.within yu9 (by omega) (by omega))
    clear HW1u7
    have HG0u9 := Lib.hid (HG0u7.out.within yu9 (by omega) (by omega))
    clear HG0u7
    have HG1u9 := Lib.hid (HG1u7.out.within yu9 (by omega) (by omega))
    clear HG1u7
    clear yu9 wiu9 bu7
    clear HX0u9
    go_wp2_with fail
    refine (eqInt64S_any _ _ (cutA z0 a1).1.length (cutA z0 a1).1.length _ _ _ _ (cutA z0 a1).1 (cutA z0 a1).1 _ rfl rfl (by omega) (by omega) (by exact HG0u9.out.row) (by exact HW0u9.out.row)).mono ?_
    rintro e vj10 ⟨rfl, j10, rfl⟩
    rw [eqL_self]
    go_wp2_with fail
    refine (eqInt64S_any _ _ (cutA z0 a1).2.1.length (cutA z0 a1).2.1.length _ _ _ _ (cutA z0 a1).2.1 (cutA z0 a1).2.1 _ rfl rfl (by omega) (by omega) (by exact (HG1u9.out.drewN _).row) (by exact (HW1u9.out.drewN _).row)).mono ?_
    rintro e vj11 ⟨rfl, j11, rfl⟩
    rw [eqL_self]
    go_wp2_with fail
    refine (markInt64S_any _ (cutA z0 a1).1.length _ u3.heap.size (cutA z0 a1).1 1 _ rfl (by omega) (by omega) (by omega) (by exact ((HG0u9.out.drewN _)).1)).mono ?_
    rintro e u12 ⟨rfl, ou12, gu12⟩
    have wiu12 := Within.grown gu12 (fun g hg => ⟨((HG0u9.out).1.lt g hg).1, (HG0u9.out).2 g hg⟩)
    have yu12 : Within u3.heap.size midG u9 u12 := ⟨wiu12.os, wiu12.tape, wiu12.output, wiu12.size, wiu12.block⟩
    have zu12 : u9.heap.size ≤ u12.heap.size := yu12.size
    have bu12 : Below w.heap.size w u12 := Below.then bu9 yu12 (by omega) (by omega)
    have HG0u12 := Lib.hid (show OwnR u12 u3.heap.size midG 2 (.slice AG0 (cutA z0 a1).1.length cG0) (cutA z0 a1).1.length (ints (marks 1 (cutA z0 a1).1.length)) from ⟨ou12, HG0u9.out.2⟩)
    clear ou12 gu12 HG0u9
    have HW0u12 := Lib.hid (HW0u9.out.within yu12 (by omega) (by omega))
    clear HW0u9
    have HW1u12 := Lib.hid (HW1u9.out.within yu12 (by omega) (by omega))
    clear HW1u9
    have HG1u12 := Lib.hid (HG1u9.out.within yu12 (by omega) (by omega))
    clear HG1u9
    clear yu12 wiu12 bu9
    go_wp2_with fail
    refine (markInt64S_any _ (cutA z0 a1).2.1.length _ midG (cutA z0 a1).2.1 (1 + ((cutA z0 a1).1.length : Int)) _ rfl (by omega) (by omega) (by omega) (by exact (HG1u12.out).1)).mono ?_
    rintro e u13 ⟨rfl, ou13, gu13⟩
    have wiu13 := Within.grown gu13 (fun g hg => ⟨((HG1u12.out).1.lt g hg).1, (HG1u12.out).2 g hg⟩)
    have yu13 : Within midG u4.heap.size u12 u13 := ⟨wiu13.os, wiu13.tape, wiu13.output, wiu13.size, wiu13.block⟩
    have zu13 : u12.heap.size ≤ u13.heap.size := yu13.size
    have bu13 : Below w.heap.size w u13 := Below.then bu12 yu13 (by omega) (by omega)
    have HG1u13 := Lib.hid (show OwnR u13 midG u4.heap.size 2 (.slice AG1 (cutA z0 a1).2.1.length cG1) (cutA z0 a1).2.1.length (ints (marks (1 + ((cutA z0 a1).1.length : Int)) (cutA z0 a1).2.1.length)) from ⟨ou13, HG1u12.out.2⟩)
    clear ou13 gu13 HG1u12
    have HW0u13 := Lib.hid (HW0u12.out.within yu13 (by omega) (by omega))
    clear HW0u12
    have HW1u13 := Lib.hid (HW1u12.out.within yu13 (by omega) (by omega))
    clear HW1u12
    have HG0u13 := Lib.hid (HG0u12.out.within yu13 (by omega) (by omega))
    clear HG0u12
    clear yu13 wiu13 bu12
    go_wp2_with fail
    refine (heldInt64S_any _ (cutA z0 a1).1.length _ _ 1 _ (by omega) (by omega) (by omega) (by exact HG0u13.out.row)).mono ?_
    rintro e vu13 ⟨rfl, rfl⟩
    go_wp2_with fail
    refine (heldInt64S_any _ (cutA z0 a1).2.1.length _ _ (1 + ((cutA z0 a1).1.length : Int)) _ (by omega) (by omega) (by omega) (by exact HG1u13.out.row)).mono ?_
    rintro e vu13 ⟨rfl, rfl⟩
    go_wp2_with fail
    refine (toInt64S_any _ len0 _ w.heap.size z0 _ HL0.out (by omega) (by exact bu13.size) (by exact row0.below bu13 (Nat.le_refl _))).mono ?_
    rintro e u14 ⟨AP0, cP0, rfl, oP0, beu14⟩
    have HP0 := Lib.hid (show OwnR u14 u13.heap.size u14.heap.size 2 (.slice AP0 len0 cP0) len0 (ints z0) from OwnR.of oP0)
    clear oP0
    have yu14 : Below u13.heap.size u13 u14 := ⟨beu14.os, beu14.tape, beu14.output, beu14.size, beu14.block⟩
    have zu14 : u13.heap.size ≤ u14.heap.size := yu14.size
    have bu14 : Below w.heap.size w u14 := bu13.trans (yu14.mono bu13.size)
    have HW0u14 := Lib.hid (HW0u13.out.below yu14 (by omega))
    clear HW0u13
    have HW1u14 := Lib.hid (HW1u13.out.below yu14 (by omega))
    clear HW1u13
    have HG0u14 := Lib.hid (HG0u13.out.below yu14 (by omega))
    clear HG0u13
    have HG1u14 := Lib.hid (HG1u13.out.below yu14 (by omega))
    clear HG1u13
    clear yu14 beu14
    clear bu13
    go_wp2_with fail
    refine (pCutAbove_L _ len0 _ u14.heap.size z0 a1 _ HL0.out (by omega) (Nat.le_refl _) (by exact (HP0.out.row).more (by omega)) (i64_of_wf w1) (own_cap (HP0.out).1).1).mono ?_
    rintro e u15 ⟨saK, sbK, AK0, cK0, AK1, cK1, midK, rfl, laK, lbK, oK0, oK1, beu15⟩
    have HK0 := Lib.hid (show OwnR u15 u14.heap.size midK 2 (.slice AK0 (cutA z0 a1).1.length cK0) (cutA z0 a1).1.length (ints (cutA z0 a1).1) from oK0)
    clear oK0
    have HK1 := Lib.hid (show OwnR u15 midK u15.heap.size 2 (.slice AK1 (cutA z0 a1).2.1.length cK1) (cutA z0 a1).2.1.length (ints (cutA z0 a1).2.1) from oK1)
    clear oK1
    have yu15 : Below u14.heap.size u14 u15 := ⟨beu15.os, beu15.tape, beu15.output, beu15.size, beu15.block⟩
    have zu15 : u14.heap.size ≤ u15.heap.size := yu15.size
    have bu15 : Below w.heap.size w u15 := bu14.trans (yu15.mono bu14.size)
    have HW0u15 := Lib.hid (HW0u14.out.below yu15 (by omega))
    clear HW0u14
    have HW1u15 := Lib.hid (HW1u14.out.below yu15 (by omega))
    clear HW1u14
    have HG0u15 := Lib.hid (HG0u14.out.below yu15 (by omega))
    clear HG0u14
    have HG1u15 := Lib.hid (HG1u14.out.below yu15 (by omega))
    clear HG1u14
    have HP0u15 := Lib.hid (HP0.out.below yu15 (by omega))
    clear HP0
    clear yu15 beu15
    clear bu14
    clear HP0u15
    go_wp2_with fail
    refine (eqInt64S_any _ _ (cutA z0 a1).1.length (cutA z0 a1).1.length _ _ _ _ (cutA z0 a1).1 (cutA z0 a1).1 _ rfl rfl (by omega) (by omega) (by exact HK0.out.row) (by exact HW0u15.out.row)).mono ?_
    rintro e vj16 ⟨rfl, j16, rfl⟩
    rw [eqL_self]
    go_wp2_with fail
    refine (eqInt64S_any _ _ (cutA z0 a1).2.1.length (cutA z0 a1).2.1.length _ _ _ _ (cutA z0 a1).2.1 (cutA z0 a1).2.1 _ rfl rfl (by omega) (by omega) (by exact (HK1.out.drewN _).row) (by exact (HW1u15.out.drewN _).row)).mono ?_
    rintro e vj17 ⟨rfl, j17, rfl⟩
    rw [eqL_self]
    go_wp2_with fail
    refine (heldInt64S_any _ (cutA z0 a1).1.length _ _ 1 _ (by omega) (by omega) (by omega) (by exact (HG0u15.out.drewN _).row)).mono ?_
    rintro e vu15 ⟨rfl, rfl⟩
    go_wp2_with fail
    refine (heldInt64S_any _ (cutA z0 a1).2.1.length _ _ (1 + ((cutA z0 a1).1.length : Int)) _ (by omega) (by omega) (by omega) (by exact (HG1u15.out.drewN _).row)).mono ?_
    rintro e vu15 ⟨rfl, rfl⟩
    go_wp2
    go_ret
    exact ⟨rfl, below_drewN bu15 _⟩
  · go_enter Try.func13, Try.ntmps13
    go_wp2
    go_ret
    exact ⟨rfl, Below.refl _ _⟩
/-- the statement -/
theorem holds : Rows.FnExactCutAboveSaid := of_walk walk
end Go.Proofs.Ytgicbmfcojfjcaa.fnExactCutAbove
