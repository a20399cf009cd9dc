/-
  PROVED: for all arguments the law FnExactFreeConditions returns true: FreeConditions answers as its model, and its result owns its memory.
  CONDITIONS: none; every argument that the types hold.
-/
import Derived.Test.YtnnihdkhblbdgaaUF2
import Derived.Test.YtnnihdkhblbdgaaFFnExactFreeConditions
namespace Go.Proofs.Ytnnihdkhblbdgaa.fnExactFreeConditions
open Go.ChangeShapes Go.WideShapes Go.ChangeAt Go.RowKit Fld
set_option linter.unusedVariables false

set_option maxRecDepth 100000 in
set_option maxHeartbeats 4000000 in
theorem walk (w : World) (a0 : Int) (w0 : (Lit.int .i64 a0).wf = true) : Calls Try.prog 8 #[.int .i64 a0] w fun e w' => e = .returned (.bool true) ∧ Below w.heap.size w w' := by
  have b0 : Below w.heap.size w w := Below.refl _ _
  go_enter Try.func8, Try.ntmps8
  go_wp2_with fail
  refine (sFreeConditions_L    a0 _   (i64_of_wf w0)).mono ?_
  rintro e u1 ⟨sW, AW, cW, rfl, oW, beu1⟩
  have HW := Lib.hid (show LowMat u1 u1.heap.size AW (condsA a0).1 from oW)
  clear oW
  have yu1 : Below w.heap.size w u1 := ⟨beu1.os, beu1.tape, beu1.output, beu1.size, beu1.block⟩
  have zu1 : w.heap.size ≤ u1.heap.size := yu1.size
  have bu1 : Below w.heap.size w u1 := b0.trans (yu1.mono b0.size)
  clear yu1 beu1
  go_wp2_with fail
  refine (pFreeConditions_L    a0 _   (i64_of_wf w0) ).mono ?_
  rintro e u2 ⟨sG, AG, cG, vsG, rfl, oG, beu2⟩
  have HG := Lib.hid (show OwnMat u2 u1.heap.size u2.heap.size (.slice AG (condsA a0).1.length cG) (condsA a0).1.length (condsA a0).1 vsG from oG)
  clear oG
  have yu2 : Below u1.heap.size u1 u2 := ⟨beu2.os, beu2.tape, beu2.output, beu2.size, beu2.block⟩
  have zu2 : u1.heap.size ≤ u2.heap.size := yu2.size
  have bu2 : Below w.heap.size w u2 := bu1.trans (yu2.mono bu1.size)
  have HWu2 := Lib.hid (HW.out.below yu2 (by omega))
  clear HW
  clear yu2 beu2
  clear bu1
  go_wp2_with fail
  refine (eqInt64SS_any _ _ (condsA a0).1.length (condsA a0).1.length _ _ _ _ (condsA a0).1 (condsA a0).1 _ rfl rfl (by omega) (by omega) (by exact HG.out.mat) (by exact HWu2.out.mat)).mono ?_
  rintro e vj3 ⟨rfl, j3, rfl⟩
  rw [eqM_self]
  go_wp2_with fail
  refine (markInt64SS_any _ (condsA a0).1.length _ _ _ (condsA a0).1 vsG 1 _ (by omega) (by omega) (by omega) (by omega) (by exact (HG.out.drewN _))).mono ?_
  rintro e u4 ⟨rfl, ou4, wiu4⟩
  have yu4 : Within u1.heap.size u2.heap.size u2 u4 := ⟨wiu4.os, wiu4.tape, wiu4.output, wiu4.size, wiu4.block⟩
  have zu4 : u2.heap.size ≤ u4.heap.size := yu4.size
  have bu4 : Below w.heap.size w u4 := Below.then bu2 yu4 (by omega) (by omega)
  have HGu4 := Lib.hid ou4
  clear ou4 HG
  have HWu4 := Lib.hid (HWu2.out.within yu4 (by omega) (by omega))
  clear HWu2
  clear yu4 wiu4 bu2
  go_wp2_with fail
  refine (heldInt64SS_any _ (condsA a0).1.length _ _ (condsA a0).1 1 _ rfl (by omega) (by omega) (by omega) (by omega) (by exact HGu4.out.mat)).mono ?_
  rintro e vu4 ⟨rfl, rfl⟩
  go_wp2_with fail
  refine (pFreeConditions_L    a0 _   (i64_of_wf w0) ).mono ?_
  rintro e u5 ⟨sK, AK, cK, vsK, rfl, oK, beu5⟩
  have HK := Lib.hid (show OwnMat u5 u4.heap.size u5.heap.size (.slice AK (condsA a0).1.length cK) (condsA a0).1.length (condsA a0).1 vsK from oK)
  clear oK
  have yu5 : Below u4.heap.size u4 u5 := ⟨beu5.os, beu5.tape, beu5.output, beu5.size, beu5.block⟩
  have zu5 : u4.heap.size ≤ u5.heap.size := yu5.size
  have bu5 : Below w.heap.size w u5 := bu4.trans (yu5.mono bu4.size)
  have HWu5 := Lib.hid (HWu4.out.below yu5 (by omega))
  clear HWu4
  have HGu5 := Lib.hid (HGu4.out.below yu5 (by omega))
  clear HGu4
  clear yu5 beu5
  clear bu4
  go_wp2_with fail
  refine (eqInt64SS_any _ _ (condsA a0).1.length (condsA a0).1.length _ _ _ _ (condsA a0).1 (condsA a0).1 _ rfl rfl (by omega) (by omega) (by exact HK.out.mat) (by exact HWu5.out.mat)).mono ?_
  rintro e vj6 ⟨rfl, j6, rfl⟩
  rw [eqM_self]
  go_wp2_with fail
  refine (heldInt64SS_any _ (condsA a0).1.length _ _ (condsA a0).1 1 _ rfl (by omega) (by omega) (by omega) (by omega) (by exact (HGu5.out.drewN _).mat)).mono ?_
  rintro e vu5 ⟨rfl, rfl⟩
  go_wp2
  go_ret
  exact ⟨rfl, below_drewN bu5 _⟩
/-- the statement -/
theorem holds : Rows.FnExactFreeConditionsSaid := of_walk walk
end Go.Proofs.Ytnnihdkhblbdgaa.fnExactFreeConditions
