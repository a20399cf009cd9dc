/-
  PROVED: for all arguments the law FnExactReducedOrder returns true: ReducedOrder answers as its model, leaves its lists alone.
  CONDITIONS: none; every argument that the types hold.
-/
import Derived.Test.YtnnihdkhblbdgaaGreatUR2
import Derived.Test.YtnnihdkhblbdgaaGreatFFnExactReducedOrder
namespace Go.Proofs.YtnnihdkhblbdgaaGreat.fnExactReducedOrder
open Go.ChangeShapes Go.WideShapes Go.ChangeAt Go.RowKit Fld
set_option linter.unusedVariables false

set_option maxRecDepth 100000 in
set_option maxHeartbeats 4000000 in
theorem walk (w : World) (a0 : Option Addr) (len0 cap0 : Nat) (z0 : List Int) (w0 : IsRow .i64 w a0 len0 cap0 z0) : Calls Tryz.prog 3 #[.slice a0 len0 cap0] w fun e w' => e = .returned (.bool true) ∧ Below w.heap.size w w' := by
  obtain ⟨hl0, hlc0, hcm0, row0, _⟩ := w0
  have HL0 := Lib.hid hl0
  clear hl0
  unfold maxLen at hcm0
  have b0 : Below w.heap.size w w := Below.refl _ _
  by_cases hf0 : len0 ≤ 1048576
  · skip
    go_enter Tryz.func3, Tryz.ntmps3
    go_wp2_with fail
    refine (toInt64S_any _ len0 _ w.heap.size z0 _ HL0.out (by omega) (by exact b0.size) (by exact row0.below b0 (Nat.le_refl _))).mono ?_
    rintro e u1 ⟨AC0, cC0, rfl, oC0, beu1⟩
    have HC0 := Lib.hid (show OwnR u1 w.heap.size u1.heap.size 2 (.slice AC0 len0 cC0) len0 (ints z0) from OwnR.of oC0)
    clear oC0
    have yu1 : Below w.heap.size w u1 := ⟨beu1.os, beu1.tape, beu1.output, beu1.size, beu1.block⟩
    have zu1 : w.heap.size ≤ u1.heap.size := yu1.size
    have bu1 : Below w.heap.size w u1 := b0.trans (yu1.mono b0.size)
    clear yu1 beu1
    go_wp2_with fail
    refine (sReducedOrder_L _ len0 _ u1.heap.size z0  _ HL0.out (by omega) (Nat.le_refl _) (by exact (HC0.out.row).more (by omega)) ).mono ?_
    rintro e u2 ⟨rfl, beu2⟩
    have yu2 : Below u1.heap.size u1 u2 := ⟨beu2.os, beu2.tape, beu2.output, beu2.size, beu2.block⟩
    have zu2 : u1.heap.size ≤ u2.heap.size := yu2.size
    have bu2 : Below w.heap.size w u2 := bu1.trans (yu2.mono bu1.size)
    have HC0u2 := Lib.hid (HC0.out.below yu2 (by omega))
    clear HC0
    clear yu2 beu2
    clear bu1
    clear HC0u2
    go_wp2_with fail
    refine (toInt64S_any _ len0 _ w.heap.size z0 _ HL0.out (by omega) (by exact bu2.size) (by exact row0.below bu2 (Nat.le_refl _))).mono ?_
    rintro e u3 ⟨AX0, cX0, rfl, oX0, beu3⟩
    have HX0 := Lib.hid (show OwnR u3 u2.heap.size u3.heap.size 2 (.slice AX0 len0 cX0) len0 (ints z0) from OwnR.of oX0)
    clear oX0
    have yu3 : Below u2.heap.size u2 u3 := ⟨beu3.os, beu3.tape, beu3.output, beu3.size, beu3.block⟩
    have zu3 : u2.heap.size ≤ u3.heap.size := yu3.size
    have bu3 : Below w.heap.size w u3 := bu2.trans (yu3.mono bu2.size)
    clear yu3 beu3
    clear bu2
    go_wp2_with fail
    refine (pReducedOrder_L _ len0 _ u3.heap.size z0  _ HL0.out (by omega) (Nat.le_refl _) (by exact (HX0.out.row).more (by omega)) ).mono ?_
    rintro e u4 ⟨rfl, beu4⟩
    have yu4 : Below u3.heap.size u3 u4 := ⟨beu4.os, beu4.tape, beu4.output, beu4.size, beu4.block⟩
    have zu4 : u3.heap.size ≤ u4.heap.size := yu4.size
    have bu4 : Below w.heap.size w u4 := bu3.trans (yu4.mono bu3.size)
    have HX0u4 := Lib.hid (HX0.out.below yu4 (by omega))
    clear HX0
    clear yu4 beu4
    clear bu3
    go_wp2_with fail
    refine (toInt64S_any _ len0 _ w.heap.size z0 _ HL0.out (by omega) (by exact bu4.size) (by exact row0.below bu4 (Nat.le_refl _))).mono ?_
    rintro e u5 ⟨AD0, cD0, rfl, oD0, beu5⟩
    have HD0 := Lib.hid (show OwnR u5 u4.heap.size u5.heap.size 2 (.slice AD0 len0 cD0) len0 (ints z0) from OwnR.of oD0)
    clear oD0
    have yu5 : Below u4.heap.size u4 u5 := ⟨beu5.os, beu5.tape, beu5.output, beu5.size, beu5.block⟩
    have zu5 : u4.heap.size ≤ u5.heap.size := yu5.size
    have bu5 : Below w.heap.size w u5 := bu4.trans (yu5.mono bu4.size)
    have HX0u5 := Lib.hid (HX0u4.out.below yu5 (by omega))
    clear HX0u4
    clear yu5 beu5
    clear bu4
    go_wp2_with fail
    refine (eqInt64S_any _ _ len0 len0 _ _ _ _ z0 z0 _ HL0.out HL0.out (by omega) (by omega) (by exact HX0u5.out.row) (by exact HD0.out.row)).mono ?_
    rintro e vj6 ⟨rfl, j6, rfl⟩
    rw [eqL_self]
    clear HD0
    go_wp2
    go_ret
    exact ⟨rfl, below_drewN bu5 _⟩
  · go_enter Tryz.func3, Tryz.ntmps3
    go_wp2
    go_ret
    exact ⟨rfl, Below.refl _ _⟩
/-- the statement -/
theorem holds : Rows.FnExactReducedOrderSaid := of_walk walk
end Go.Proofs.YtnnihdkhblbdgaaGreat.fnExactReducedOrder
