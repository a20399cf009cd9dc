/-
  PROVED: for all arguments the law FnExactCountCut returns true: CountCut answers as its model, leaves its lists alone.
  CONDITIONS: none; every argument that the types hold.
-/
import Derived.Test.YtolkbbbbahhfaaaGreatUC2
import Derived.Test.YtolkbbbbahhfaaaGreatFFnExactCountCut
namespace Go.Proofs.YtolkbbbbahhfaaaGreat.fnExactCountCut
open Go.ChangeShapes Go.WideShapes Go.ChangeAt Go.RowKit Fld
set_option linter.unusedVariables false

set_option maxRecDepth 100000 in
set_option maxHeartbeats 4000000 in
theorem walk (w : World) (a0 : Option Addr) (len0 cap0 : Nat) (z0 : List Int) (w0 : IsRow .i64 w a0 len0 cap0 z0) (a1 : Option Addr) (len1 cap1 : Nat) (z1 : List (List Int)) (w1 : IsMat w a1 len1 cap1 z1) (a2 : Option Addr) (len2 cap2 : Nat) (z2 : List Int) (w2 : IsRow .i64 w a2 len2 cap2 z2) : Calls Tryz.prog 6 #[.slice a0 len0 cap0, .slice a1 len1 cap1, .slice a2 len2 cap2] w fun e w' => e = .returned (.bool true) ∧ Below w.heap.size w w' := by
  obtain ⟨hl0, hlc0, hcm0, row0, _⟩ := w0
  have HL0 := Lib.hid hl0
  clear hl0
  unfold maxLen at hcm0
  obtain ⟨hl1, hlc1, hcm1, row1, _⟩ := w1
  have HL1 := Lib.hid hl1
  clear hl1
  unfold maxLen at hcm1
  obtain ⟨hl2, hlc2, hcm2, row2, _⟩ := w2
  have HL2 := Lib.hid hl2
  clear hl2
  unfold maxLen at hcm2
  have b0 : Below w.heap.size w w := Below.refl _ _
  by_cases hf0 : len0 ≤ 1048576
  · skip
    by_cases hf2 : len2 ≤ 1048576
    · skip
      by_cases hf1 : len1 + total z1 ≤ 1048576
      · have S1 := Lib.hid (szR_pos (left := 1048576) (used := len1 + total z1) (by omega))
        go_enter Tryz.func6, Tryz.ntmps6
        go_wp2_with fail
        refine (szInt64SS_any _ len1 _ _ z1 _ _ HL1.out (by omega) row1 (by omega) (by omega)).mono ?_
        rintro e w' ⟨rfl, rfl⟩
        rw [S1.out]
        go_wp2_with fail
        refine (toInt64S_any _ len0 _ w.heap.size z0 _ HL0.out (by omega) (by exact b0.size) (by exact row0.below b0 (Nat.le_refl _))).mono ?_
        rintro e u1 ⟨AC0, cC0, rfl, oC0, beu1⟩
        have HC0 := Lib.hid (show OwnR u1 w.heap.size u1.heap.size 2 (.slice AC0 len0 cC0) len0 (ints z0) from OwnR.of oC0)
        clear oC0
        have yu1 : Below w.heap.size w u1 := ⟨beu1.os, beu1.tape, beu1.output, beu1.size, beu1.block⟩
        have zu1 : w.heap.size ≤ u1.heap.size := yu1.size
        have bu1 : Below w.heap.size w u1 := b0.trans (yu1.mono b0.size)
        clear yu1 beu1
        go_wp2_with fail
        refine (toInt64SS_any _ len1 _ w.heap.size z1 _ HL1.out (by omega) (by omega) (by exact bu1.size) (by exact row1.below bu1 (Nat.le_refl _))).mono ?_
        rintro e u2 ⟨AC1, cC1, vsC1, rfl, oC1, beu2⟩
        have HC1 := Lib.hid (show OwnMat u2 u1.heap.size u2.heap.size (.slice AC1 len1 cC1) len1 z1 vsC1 from oC1)
        clear oC1
        have yu2 : Below u1.heap.size u1 u2 := ⟨beu2.os, beu2.tape, beu2.output, beu2.size, beu2.block⟩
        have zu2 : u1.heap.size ≤ u2.heap.size := yu2.size
        have bu2 : Below w.heap.size w u2 := bu1.trans (yu2.mono bu1.size)
        have HC0u2 := Lib.hid (HC0.out.below yu2 (by omega))
        clear HC0
        clear yu2 beu2
        clear bu1
        go_wp2_with fail
        refine (toInt64S_any _ len2 _ w.heap.size z2 _ HL2.out (by omega) (by exact bu2.size) (by exact row2.below bu2 (Nat.le_refl _))).mono ?_
        rintro e u3 ⟨AC2, cC2, rfl, oC2, beu3⟩
        have HC2 := Lib.hid (show OwnR u3 u2.heap.size u3.heap.size 2 (.slice AC2 len2 cC2) len2 (ints z2) from OwnR.of oC2)
        clear oC2
        have yu3 : Below u2.heap.size u2 u3 := ⟨beu3.os, beu3.tape, beu3.output, beu3.size, beu3.block⟩
        have zu3 : u2.heap.size ≤ u3.heap.size := yu3.size
        have bu3 : Below w.heap.size w u3 := bu2.trans (yu3.mono bu2.size)
        have HC0u3 := Lib.hid (HC0u2.out.below yu3 (by omega))
        clear HC0u2
        have HC1u3 := Lib.hid (HC1.out.below yu3 (by omega))
        clear HC1
        clear yu3 beu3
        clear bu2
        go_wp2_with fail
        refine (sCountCut_L _ _ _ len0 len1 len2 _ _ _ u3.heap.size u3.heap.size u3.heap.size z0 z1 z2  _ HL0.out HL1.out HL2.out (by omega) (by omega) (by omega) (Nat.le_refl _) (Nat.le_refl _) (Nat.le_refl _) (by exact (HC0u3.out.row).more (by omega)) (by exact (HC1u3.out.mat).more (by omega)) (by exact (HC2.out.row).more (by omega)) ).mono ?_
        rintro e u4 ⟨rfl, beu4⟩
        have yu4 : Below u3.heap.size u3 u4 := ⟨beu4.os, beu4.tape, beu4.output, beu4.size, beu4.block⟩
        have zu4 : u3.heap.size ≤ u4.heap.size := yu4.size
        have bu4 : Below w.heap.size w u4 := bu3.trans (yu4.mono bu3.size)
        have HC0u4 := Lib.hid (HC0u3.out.below yu4 (by omega))
        clear HC0u3
        have HC1u4 := Lib.hid (HC1u3.out.below yu4 (by omega))
        clear HC1u3
        have HC2u4 := Lib.hid (HC2.out.below yu4 (by omega))
        clear HC2
        clear yu4 beu4
        clear bu3
        clear HC0u4
        clear HC1u4
        clear HC2u4
        go_wp2_with fail
        refine (toInt64S_any _ len0 _ w.heap.size z0 _ HL0.out (by omega) (by exact bu4.size) (by exact row0.below bu4 (Nat.le_refl _))).mono ?_
        rintro e u5 ⟨AX0, cX0, rfl, oX0, beu5⟩
        have HX0 := Lib.hid (show OwnR u5 u4.heap.size u5.heap.size 2 (.slice AX0 len0 cX0) len0 (ints z0) from OwnR.of oX0)
        clear oX0
        have yu5 : Below u4.heap.size u4 u5 := ⟨beu5.os, beu5.tape, beu5.output, beu5.size, beu5.block⟩
        have zu5 : u4.heap.size ≤ u5.heap.size := yu5.size
        have bu5 : Below w.heap.size w u5 := bu4.trans (yu5.mono bu4.size)
        clear yu5 beu5
        clear bu4
        go_wp2_with fail
        refine (toInt64SS_any _ len1 _ w.heap.size z1 _ HL1.out (by omega) (by omega) (by exact bu5.size) (by exact row1.below bu5 (Nat.le_refl _))).mono ?_
        rintro e u6 ⟨AX1, cX1, vsX1, rfl, oX1, beu6⟩
        have HX1 := Lib.hid (show OwnMat u6 u5.heap.size u6.heap.size (.slice AX1 len1 cX1) len1 z1 vsX1 from oX1)
        clear oX1
        have yu6 : Below u5.heap.size u5 u6 := ⟨beu6.os, beu6.tape, beu6.output, beu6.size, beu6.block⟩
        have zu6 : u5.heap.size ≤ u6.heap.size := yu6.size
        have bu6 : Below w.heap.size w u6 := bu5.trans (yu6.mono bu5.size)
        have HX0u6 := Lib.hid (HX0.out.below yu6 (by omega))
        clear HX0
        clear yu6 beu6
        clear bu5
        go_wp2_with fail
        refine (toInt64S_any _ len2 _ w.heap.size z2 _ HL2.out (by omega) (by exact bu6.size) (by exact row2.below bu6 (Nat.le_refl _))).mono ?_
        rintro e u7 ⟨AX2, cX2, rfl, oX2, beu7⟩
        have HX2 := Lib.hid (show OwnR u7 u6.heap.size u7.heap.size 2 (.slice AX2 len2 cX2) len2 (ints z2) from OwnR.of oX2)
        clear oX2
        have yu7 : Below u6.heap.size u6 u7 := ⟨beu7.os, beu7.tape, beu7.output, beu7.size, beu7.block⟩
        have zu7 : u6.heap.size ≤ u7.heap.size := yu7.size
        have bu7 : Below w.heap.size w u7 := bu6.trans (yu7.mono bu6.size)
        have HX0u7 := Lib.hid (HX0u6.out.below yu7 (by omega))
        clear HX0u6
        have HX1u7 := Lib.hid (HX1.out.below yu7 (by omega))
        clear HX1
        clear yu7 beu7
        clear bu6
        go_wp2_with fail
        refine (pCountCut_L _ _ _ len0 len1 len2 _ _ _ u7.heap.size u7.heap.size u7.heap.size z0 z1 z2  _ HL0.out HL1.out HL2.out (by omega) (by omega) (by omega) (Nat.le_refl _) (Nat.le_refl _) (Nat.le_refl _) (by exact (HX0u7.out.row).more (by omega)) (by exact (HX1u7.out.mat).more (by omega)) (by exact (HX2.out.row).more (by omega))  (own_cap (HX0u7.out).1).1 (own_cap (HX2.out).1).1).mono ?_
        rintro e u8 ⟨rfl, beu8⟩
        have yu8 : Below u7.heap.size u7 u8 := ⟨beu8.os, beu8.tape, beu8.output, beu8.size, beu8.block⟩
        have zu8 : u7.heap.size ≤ u8.heap.size := yu8.size
        have bu8 : Below w.heap.size w u8 := bu7.trans (yu8.mono bu7.size)
        have HX0u8 := Lib.hid (HX0u7.out.below yu8 (by omega))
        clear HX0u7
        have HX1u8 := Lib.hid (HX1u7.out.below yu8 (by omega))
        clear HX1u7
        have HX2u8 := Lib.hid (HX2.out.below yu8 (by omega))
        clear HX2
        clear yu8 beu8
        clear bu7
        go_wp2_with fail
        refine (toInt64S_any _ len0 _ w.heap.size z0 _ HL0.out (by omega) (by exact bu8.size) (by exact row0.below bu8 (Nat.le_refl _))).mono ?_
        rintro e u9 ⟨AD0, cD0, rfl, oD0, beu9⟩
        have HD0 := Lib.hid (show OwnR u9 u8.heap.size u9.heap.size 2 (.slice AD0 len0 cD0) len0 (ints z0) from OwnR.of oD0)
        clear oD0
        have yu9 : Below u8.heap.size u8 u9 := ⟨beu9.os, beu9.tape, beu9.output, beu9.size, beu9.block⟩
        have zu9 : u8.heap.size ≤ u9.heap.size := yu9.size
        have bu9 : Below w.heap.size w u9 := bu8.trans (yu9.mono bu8.size)
        have HX0u9 := Lib.hid (HX0u8.out.below yu9 (by omega))
        clear HX0u8
        have HX1u9 := Lib.hid (HX1u8.out.below yu9 (by omega))
        clear HX1u8
        have HX2u9 := Lib.hid (HX2u8.out.below yu9 (by omega))
        clear HX2u8
        clear yu9 beu9
        clear bu8
        go_wp2_with fail
        refine (eqInt64S_any _ _ len0 len0 _ _ _ _ z0 z0 _ HL0.out HL0.out (by omega) (by omega) (by exact HX0u9.out.row) (by exact HD0.out.row)).mono ?_
        rintro e vj10 ⟨rfl, j10, rfl⟩
        rw [eqL_self]
        clear HD0
        go_wp2_with fail
        refine (toInt64SS_any _ len1 _ w.heap.size z1 _ HL1.out (by omega) (by omega) (by exact (below_drewN bu9 _).size) (by exact row1.below (below_drewN bu9 _) (Nat.le_refl _))).mono ?_
        rintro e u11 ⟨AD1, cD1, vsD1, rfl, oD1, beu11⟩
        have HD1 := Lib.hid (show OwnMat u11 u9.heap.size u11.heap.size (.slice AD1 len1 cD1) len1 z1 vsD1 from oD1)
        clear oD1
        have yu11 : Below u9.heap.size u9 u11 := ⟨beu11.os, beu11.tape, beu11.output, beu11.size, beu11.block⟩
        have zu11 : u9.heap.size ≤ u11.heap.size := yu11.size
        have bu11 : Below w.heap.size w u11 := bu9.trans (yu11.mono bu9.size)
        have HX0u11 := Lib.hid (HX0u9.out.below yu11 (by omega))
        clear HX0u9
        have HX1u11 := Lib.hid (HX1u9.out.below yu11 (by omega))
        clear HX1u9
        have HX2u11 := Lib.hid (HX2u9.out.below yu11 (by omega))
        clear HX2u9
        clear yu11 beu11
        clear bu9
        go_wp2_with fail
        refine (eqInt64SS_any _ _ len1 len1 _ _ _ _ z1 z1 _ HL1.out HL1.out (by omega) (by omega) (by exact HX1u11.out.mat) (by exact HD1.out.mat)).mono ?_
        rintro e vj12 ⟨rfl, j12, rfl⟩
        rw [eqM_self]
        clear HD1
        go_wp2_with fail
        refine (toInt64S_any _ len2 _ w.heap.size z2 _ HL2.out (by omega) (by exact (below_drewN bu11 _).size) (by exact row2.below (below_drewN bu11 _) (Nat.le_refl _))).mono ?_
        rintro e u13 ⟨AD2, cD2, rfl, oD2, beu13⟩
        have HD2 := Lib.hid (show OwnR u13 u11.heap.size u13.heap.size 2 (.slice AD2 len2 cD2) len2 (ints z2) from OwnR.of oD2)
        clear oD2
        have yu13 : Below u11.heap.size u11 u13 := ⟨beu13.os, beu13.tape, beu13.output, beu13.size, beu13.block⟩
        have zu13 : u11.heap.size ≤ u13.heap.size := yu13.size
        have bu13 : Below w.heap.size w u13 := bu11.trans (yu13.mono bu11.size)
        have HX0u13 := Lib.hid (HX0u11.out.below yu13 (by omega))
        clear HX0u11
        have HX1u13 := Lib.hid (HX1u11.out.below yu13 (by omega))
        clear HX1u11
        have HX2u13 := Lib.hid (HX2u11.out.below yu13 (by omega))
        clear HX2u11
        clear yu13 beu13
        clear bu11
        go_wp2_with fail
        refine (eqInt64S_any _ _ len2 len2 _ _ _ _ z2 z2 _ HL2.out HL2.out (by omega) (by omega) (by exact HX2u13.out.row) (by exact HD2.out.row)).mono ?_
        rintro e vj14 ⟨rfl, j14, rfl⟩
        rw [eqL_self]
        clear HD2
        go_wp2
        go_ret
        exact ⟨rfl, below_drewN bu13 _⟩
      · have S1 := Lib.hid (szR_neg (left := 1048576) (used := len1 + total z1) (by omega))
        go_enter Tryz.func6, Tryz.ntmps6
        go_wp2_with fail
        refine (szInt64SS_any _ len1 _ _ z1 _ _ HL1.out (by omega) row1 (by omega) (by omega)).mono ?_
        rintro e w' ⟨rfl, rfl⟩
        rw [S1.out]
        go_wp2
        go_ret
        exact ⟨rfl, Below.refl _ _⟩
    · go_enter Tryz.func6, Tryz.ntmps6
      go_wp2
      go_ret
      exact ⟨rfl, Below.refl _ _⟩
  · go_enter Tryz.func6, Tryz.ntmps6
    go_wp2
    go_ret
    exact ⟨rfl, Below.refl _ _⟩
/-- the statement -/
theorem holds : Rows.FnExactCountCutSaid := of_walk walk
end Go.Proofs.YtolkbbbbahhfaaaGreat.fnExactCountCut
