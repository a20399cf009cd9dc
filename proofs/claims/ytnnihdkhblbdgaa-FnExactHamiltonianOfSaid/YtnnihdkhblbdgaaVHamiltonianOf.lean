/-
  PROVED: for all arguments the law FnExactHamiltonianOf returns true: HamiltonianOf answers as its model, leaves its lists alone, and its result owns its memory.
  CONDITIONS: none; every argument that the types hold.
-/
import Derived.Test.YtnnihdkhblbdgaaUH2
import Derived.Test.YtnnihdkhblbdgaaMark1
import Derived.Test.YtnnihdkhblbdgaaFFnExactHamiltonianOf
namespace Go.Proofs.Ytnnihdkhblbdgaa.fnExactHamiltonianOf
open Go.ChangeShapes Go.WideShapes Go.ChangeAt Go.RowKit Fld
set_option linter.unusedVariables false

set_option maxRecDepth 100000 in
set_option maxHeartbeats 4000000 in
theorem walk (w : World) (a0 : Option Addr) (len0 cap0 : Nat) (z0 : List Int) (w0 : IsRow .i64 w a0 len0 cap0 z0) : Calls Try.prog 9 #[.slice a0 len0 cap0] w fun e w' => e = .returned (.bool true) ∧ Below w.heap.size w w' := by
  obtain ⟨hl0, hlc0, hcm0, row0, _⟩ := w0
  have HL0 := Lib.hid hl0
  clear hl0
  unfold maxLen at hcm0
  have b0 : Below w.heap.size w w := Below.refl _ _
  by_cases hf0 : len0 ≤ 1048576
  · skip
    go_enter Try.func9, Try.ntmps9
    go_wp2_with fail
    refine (toInt64S_any _ len0 _ w.heap.size z0 _ HL0.out (by omega) (by exact b0.size) (by exact row0.below b0 (Nat.le_refl _))).mono ?_
    rintro e u1 ⟨AC0, cC0, rfl, oC0, beu1⟩
    have HC0 := Lib.hid (show OwnR u1 w.heap.size u1.heap.size 2 (.slice AC0 len0 cC0) len0 (ints z0) from OwnR.of oC0)
    clear oC0
    have yu1 : Below w.heap.size w u1 := ⟨beu1.os, beu1.tape, beu1.output, beu1.size, beu1.block⟩
    have zu1 : w.heap.size ≤ u1.heap.size := yu1.size
    have bu1 : Below w.heap.size w u1 := b0.trans (yu1.mono b0.size)
    clear yu1 beu1
    go_wp2_with fail
    refine (sHamiltonianOf_L _ len0 _ u1.heap.size z0  _ HL0.out (by omega) (Nat.le_refl _) (by exact (HC0.out.row).more (by omega)) ).mono ?_
    rintro e u2 ⟨sW, AW, cW, rfl, oW, beu2⟩
    have HW := Lib.hid (show OwnR u2 u1.heap.size u2.heap.size 2 (.slice AW (hamA z0).1.length cW) (hamA z0).1.length (ints (hamA z0).1) from OwnR.of oW)
    clear oW
    have yu2 : Below u1.heap.size u1 u2 := ⟨beu2.os, beu2.tape, beu2.output, beu2.size, beu2.block⟩
    have zu2 : u1.heap.size ≤ u2.heap.size := yu2.size
    have bu2 : Below w.heap.size w u2 := bu1.trans (yu2.mono bu1.size)
    have HC0u2 := Lib.hid (HC0.out.below yu2 (by omega))
    clear HC0
    clear yu2 beu2
    clear bu1
    clear HC0u2
    go_wp2_with fail
    refine (toInt64S_any _ len0 _ w.heap.size z0 _ HL0.out (by omega) (by exact bu2.size) (by exact row0.below bu2 (Nat.le_refl _))).mono ?_
    rintro e u3 ⟨AX0, cX0, rfl, oX0, beu3⟩
    have HX0 := Lib.hid (show OwnR u3 u2.heap.size u3.heap.size 2 (.slice AX0 len0 cX0) len0 (ints z0) from OwnR.of oX0)
    clear oX0
    have yu3 : Below u2.heap.size u2 u3 := ⟨beu3.os, beu3.tape, beu3.output, beu3.size, beu3.block⟩
    have zu3 : u2.heap.size ≤ u3.heap.size := yu3.size
    have bu3 : Below w.heap.size w u3 := bu2.trans (yu3.mono bu2.size)
    have HWu3 := Lib.hid (HW.out.below yu3 (by omega))
    clear HW
    clear yu3 beu3
    clear bu2
    go_wp2_with fail
    refine (pHamiltonianOf_L _ len0 _ u3.heap.size z0  _ HL0.out (by omega) (Nat.le_refl _) (by exact (HX0.out.row).more (by omega))  (own_cap (HX0.out).1).1).mono ?_
    rintro e u4 ⟨sG, AG, cG, rfl, oG, beu4⟩
    have HG := Lib.hid (show OwnR u4 u3.heap.size u4.heap.size 2 (.slice AG (hamA z0).1.length cG) (hamA z0).1.length (ints (hamA z0).1) from OwnR.of oG)
    clear oG
    have yu4 : Below u3.heap.size u3 u4 := ⟨beu4.os, beu4.tape, beu4.output, beu4.size, beu4.block⟩
    have zu4 : u3.heap.size ≤ u4.heap.size := yu4.size
    have bu4 : Below w.heap.size w u4 := bu3.trans (yu4.mono bu3.size)
    have HWu4 := Lib.hid (HWu3.out.below yu4 (by omega))
    clear HWu3
    have HX0u4 := Lib.hid (HX0.out.below yu4 (by omega))
    clear HX0
    clear yu4 beu4
    clear bu3
    go_wp2_with fail
    refine (eqInt64S_any _ _ (hamA z0).1.length (hamA z0).1.length _ _ _ _ (hamA z0).1 (hamA z0).1 _ rfl rfl (by omega) (by omega) (by exact HG.out.row) (by exact HWu4.out.row)).mono ?_
    rintro e vj5 ⟨rfl, j5, rfl⟩
    rw [eqL_self]
    go_wp2_with fail
    refine (toInt64S_any _ len0 _ w.heap.size z0 _ HL0.out (by omega) (by exact (below_drewN bu4 _).size) (by exact row0.below (below_drewN bu4 _) (Nat.le_refl _))).mono ?_
    rintro e u6 ⟨AD0, cD0, rfl, oD0, beu6⟩
    have HD0 := Lib.hid (show OwnR u6 u4.heap.size u6.heap.size 2 (.slice AD0 len0 cD0) len0 (ints z0) from OwnR.of oD0)
    clear oD0
    have yu6 : Below u4.heap.size u4 u6 := ⟨beu6.os, beu6.tape, beu6.output, beu6.size, beu6.block⟩
    have zu6 : u4.heap.size ≤ u6.heap.size := yu6.size
    have bu6 : Below w.heap.size w u6 := bu4.trans (yu6.mono bu4.size)
    have HWu6 := Lib.hid (HWu4.out.below yu6 (by omega))
    clear HWu4
    have HX0u6 := Lib.hid (HX0u4.out.below yu6 (by omega))
    clear HX0u4
    have HGu6 := Lib.hid (HG.out.below yu6 (by omega))
    clear HG
    clear yu6 beu6
    clear bu4
    go_wp2_with fail
    refine (eqInt64S_any _ _ len0 len0 _ _ _ _ z0 z0 _ HL0.out HL0.out (by omega) (by omega) (by exact HX0u6.out.row) (by exact HD0.out.row)).mono ?_
    rintro e vj7 ⟨rfl, j7, rfl⟩
    rw [eqL_self]
    clear HD0
    go_wp2_with fail
    refine (markInt64S_any _ len0 _ u2.heap.size z0 1 _ HL0.out (by omega) (by omega) (by omega) (by exact ((HX0u6.out.drewN _)).1)).mono ?_
    rintro e u8 ⟨rfl, ou8, gu8⟩
    have wiu8 := Within.grown gu8 (fun g hg => ⟨((HX0u6.out).1.lt g hg).1, (HX0u6.out).2 g hg⟩)
    have yu8 : Within u2.heap.size u3.heap.size u6 u8 := ⟨wiu8.os, wiu8.tape, wiu8.output, wiu8.size, wiu8.block⟩
    have zu8 : u6.heap.size ≤ u8.heap.size := yu8.size
    have bu8 : Below w.heap.size w u8 := Below.then bu6 yu8 (by omega) (by omega)
    have HX0u8 := Lib.hid (show OwnR u8 u2.heap.size u3.heap.size 2 (.slice AX0 len0 cX0) len0 (ints (marks 1 len0)) from ⟨ou8, HX0u6.out.2⟩)
    clear ou8 gu8 HX0u6
    have HWu8 := Lib.hid (HWu6.out.within yu8 (by omega) (by omega))
    clear HWu6
    have HGu8 := Lib.hid (HGu6.out.within yu8 (by omega) (by omega))
    clear HGu6
    clear yu8 wiu8 bu6
    clear HX0u8
    go_wp2_with fail
    refine (eqInt64S_any _ _ (hamA z0).1.length (hamA z0).1.length _ _ _ _ (hamA z0).1 (hamA z0).1 _ rfl rfl (by omega) (by omega) (by exact HGu8.out.row) (by exact HWu8.out.row)).mono ?_
    rintro e vj9 ⟨rfl, j9, rfl⟩
    rw [eqL_self]
    go_wp2_with fail
    refine (markInt64S_any _ (hamA z0).1.length _ u3.heap.size (hamA z0).1 1 _ rfl (by omega) (by omega) (by omega) (by exact ((HGu8.out.drewN _)).1)).mono ?_
    rintro e u10 ⟨rfl, ou10, gu10⟩
    have wiu10 := Within.grown gu10 (fun g hg => ⟨((HGu8.out).1.lt g hg).1, (HGu8.out).2 g hg⟩)
    have yu10 : Within u3.heap.size u4.heap.size u8 u10 := ⟨wiu10.os, wiu10.tape, wiu10.output, wiu10.size, wiu10.block⟩
    have zu10 : u8.heap.size ≤ u10.heap.size := yu10.size
    have bu10 : Below w.heap.size w u10 := Below.then bu8 yu10 (by omega) (by omega)
    have HGu10 := Lib.hid (show OwnR u10 u3.heap.size u4.heap.size 2 (.slice AG (hamA z0).1.length cG) (hamA z0).1.length (ints (marks 1 (hamA z0).1.length)) from ⟨ou10, HGu8.out.2⟩)
    clear ou10 gu10 HGu8
    have HWu10 := Lib.hid (HWu8.out.within yu10 (by omega) (by omega))
    clear HWu8
    clear yu10 wiu10 bu8
    go_wp2_with fail
    refine (heldInt64S_any _ (hamA z0).1.length _ _ 1 _ (by omega) (by omega) (by omega) (by exact HGu10.out.row)).mono ?_
    rintro e vu10 ⟨rfl, rfl⟩
    go_wp2_with fail
    refine (toInt64S_any _ len0 _ w.heap.size z0 _ HL0.out (by omega) (by exact bu10.size) (by exact row0.below bu10 (Nat.le_refl _))).mono ?_
    rintro e u11 ⟨AP0, cP0, rfl, oP0, beu11⟩
    have HP0 := Lib.hid (show OwnR u11 u10.heap.size u11.heap.size 2 (.slice AP0 len0 cP0) len0 (ints z0) from OwnR.of oP0)
    clear oP0
    have yu11 : Below u10.heap.size u10 u11 := ⟨beu11.os, beu11.tape, beu11.output, beu11.size, beu11.block⟩
    have zu11 : u10.heap.size ≤ u11.heap.size := yu11.size
    have bu11 : Below w.heap.size w u11 := bu10.trans (yu11.mono bu10.size)
    have HWu11 := Lib.hid (HWu10.out.below yu11 (by omega))
    clear HWu10
    have HGu11 := Lib.hid (HGu10.out.below yu11 (by omega))
    clear HGu10
    clear yu11 beu11
    clear bu10
    go_wp2_with fail
    refine (pHamiltonianOf_L _ len0 _ u11.heap.size z0  _ HL0.out (by omega) (Nat.le_refl _) (by exact (HP0.out.row).more (by omega))  (own_cap (HP0.out).1).1).mono ?_
    rintro e u12 ⟨sK, AK, cK, rfl, oK, beu12⟩
    have HK := Lib.hid (show OwnR u12 u11.heap.size u12.heap.size 2 (.slice AK (hamA z0).1.length cK) (hamA z0).1.length (ints (hamA z0).1) from OwnR.of oK)
    clear oK
    have yu12 : Below u11.heap.size u11 u12 := ⟨beu12.os, beu12.tape, beu12.output, beu12.size, beu12.block⟩
    have zu12 : u11.heap.size ≤ u12.heap.size := yu12.size
    have bu12 : Below w.heap.size w u12 := bu11.trans (yu12.mono bu11.size)
    have HWu12 := Lib.hid (HWu11.out.below yu12 (by omega))
    clear HWu11
    have HGu12 := Lib.hid (HGu11.out.below yu12 (by omega))
    clear HGu11
    have HP0u12 := Lib.hid (HP0.out.below yu12 (by omega))
    clear HP0
    clear yu12 beu12
    clear bu11
    clear HP0u12
    go_wp2_with fail
    refine (eqInt64S_any _ _ (hamA z0).1.length (hamA z0).1.length _ _ _ _ (hamA z0).1 (hamA z0).1 _ rfl rfl (by omega) (by omega) (by exact HK.out.row) (by exact HWu12.out.row)).mono ?_
    rintro e vj13 ⟨rfl, j13, rfl⟩
    rw [eqL_self]
    go_wp2_with fail
    refine (heldInt64S_any _ (hamA z0).1.length _ _ 1 _ (by omega) (by omega) (by omega) (by exact (HGu12.out.drewN _).row)).mono ?_
    rintro e vu12 ⟨rfl, rfl⟩
    go_wp2
    go_ret
    exact ⟨rfl, below_drewN bu12 _⟩
  · go_enter Try.func9, Try.ntmps9
    go_wp2
    go_ret
    exact ⟨rfl, Below.refl _ _⟩
/-- the statement -/
theorem holds : Rows.FnExactHamiltonianOfSaid := of_walk walk
end Go.Proofs.Ytnnihdkhblbdgaa.fnExactHamiltonianOf
