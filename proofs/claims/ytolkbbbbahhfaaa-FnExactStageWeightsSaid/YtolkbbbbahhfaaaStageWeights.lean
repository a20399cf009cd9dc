/-
  PROVED: for all arguments the law FnExactStageWeights returns true: StageWeights answers as its model, leaves its arguments alone, and its result owns its memory.
  CONDITIONS: none; every argument that the types hold.
-/
import Derived.Test.YtolkbbbbahhfaaaTabM
import Derived.Test.YtolkbbbbahhfaaaFFnExactStageWeights
namespace Go.Proofs.Ytolkbbbbahhfaaa.fnExactStageWeights
open Go.ChangeShapes Go.WideShapes Go.ChangeAt Go.RowKit Fld
set_option linter.unusedVariables false

set_option maxRecDepth 100000 in
set_option maxHeartbeats 4000000 in
theorem walk (w : World) (a0 : Option Addr) (len0 cap0 : Nat) (z0 : List (List Int)) (w0 : IsMat w a0 len0 cap0 z0) (aa0 : Option Addr) (lenb0 capb0 : Nat) (zb0 : List Int) (wb0 : IsRow .i64 w aa0 lenb0 capb0 zb0) (a1 : Option Addr) (len1 cap1 : Nat) (z1 : List Int) (w1 : IsRow .i64 w a1 len1 cap1 z1) : Calls Try.prog 7 #[.agg #[.slice a0 len0 cap0, .slice aa0 lenb0 capb0], .slice a1 len1 cap1] w fun e w' => e = .returned (.bool true) ∧ Below w.heap.size w w' := by
  obtain ⟨hl0, hlc0, hcm0, row0, _⟩ := w0
  have HL0 := Lib.hid hl0
  clear hl0
  unfold maxLen at hcm0
  obtain ⟨hlb0, hlcb0, hcmb0, rowb0, _⟩ := wb0
  have HLb0 := Lib.hid hlb0
  clear hlb0
  unfold maxLen at hcmb0
  obtain ⟨hl1, hlc1, hcm1, row1, _⟩ := w1
  have HL1 := Lib.hid hl1
  clear hl1
  unfold maxLen at hcm1
  obtain ⟨W, hW⟩ : ∃ W, W = w.alloc (.cells #[.slice a0 len0 cap0, .slice aa0 lenb0 capb0] 25) := ⟨_, rfl⟩
  have b0 : Below w.heap.size w W := by rw [hW]; exact (Below.refl _ _).alloc (Nat.le_refl _) _
  have zW := b0.size
  have Ha := Lib.hid (show Bx W w.heap.size 25 (.slice a0 len0 cap0) (.slice aa0 lenb0 capb0) by rw [hW]; exact Bx.new _ _ _ _)
  have zA : w.heap.size < W.heap.size := Ha.out.lt
  by_cases hf1 : len1 ≤ 1048576
  · skip
    by_cases hf0 : len0 + total z0 + lenb0 ≤ 1048576
    · have S0 := Lib.hid (szR_pos (left := 1048576) (used := len0 + total z0 + lenb0) (by omega))
      go_enter Try.func7, Try.ntmps7
      go_wp2_with fail
      rw [← hW]
      refine (szTableau_any _ _ len0 _ w.heap.size lenb0 _ z0 _ W HL0.out (by omega) (by omega) (by omega) (row0.below b0 (Nat.le_refl _)) (by omega) (by omega)).mono ?_
      rintro e u1 ⟨rfl, beu1⟩
      rw [S0.out]
      clear hW
      have yu1 : Below W.heap.size W u1 := ⟨beu1.os, beu1.tape, beu1.output, beu1.size, beu1.block⟩
      have zu1 : W.heap.size ≤ u1.heap.size := yu1.size
      have bu1 : Below w.heap.size w u1 := b0.trans (yu1.mono b0.size)
      have Hau1 := Lib.hid (Ha.out.next yu1)
      clear Ha
      clear yu1 beu1
      have q0 := Hau1.out.c0
      have q1 := Hau1.out.c1
      go_wp2_with fail
      clear q0 q1
      refine (toTableau_any _ _ len0 _ lenb0 _ w.heap.size z0 zb0 _ HL0.out HLb0.out (by omega) (by omega) (by omega) (by exact bu1.size) (by exact row0.below bu1 (Nat.le_refl _)) (by exact rowb0.below bu1 (Nat.le_refl _))).mono ?_
      rintro e u2 ⟨AC0, cC0, vsC0, DC0, dC0, midC0, rfl, laC0, lbC0, oC0, qC0, beu2⟩
      have HC0 := Lib.hid (show OwnMat u2 u1.heap.size midC0 (.slice AC0 len0 cC0) len0 z0 vsC0 from oC0)
      have HC0b := Lib.hid (show OwnR u2 midC0 u2.heap.size 2 (.slice DC0 lenb0 dC0) lenb0 (ints zb0) from qC0)
      clear oC0 qC0
      have yu2 : Below u1.heap.size u1 u2 := ⟨beu2.os, beu2.tape, beu2.output, beu2.size, beu2.block⟩
      have zu2 : u1.heap.size ≤ u2.heap.size := yu2.size
      have bu2 : Below w.heap.size w u2 := bu1.trans (yu2.mono bu1.size)
      have Hau2 := Lib.hid (Hau1.out.next yu2)
      clear Hau1
      clear yu2 beu2
      clear bu1
      go_wp2_with fail
      refine (toInt64S_any _ len1 _ w.heap.size z1 _ HL1.out (by omega) (by exact bu2.size) (by exact row1.below bu2 (Nat.le_refl _))).mono ?_
      rintro e u3 ⟨AC1, cC1, rfl, oC1, beu3⟩
      have HC1 := Lib.hid (show OwnR u3 u2.heap.size u3.heap.size 2 (.slice AC1 len1 cC1) len1 (ints z1) from OwnR.of oC1)
      clear oC1
      have yu3 : Below u2.heap.size u2 u3 := ⟨beu3.os, beu3.tape, beu3.output, beu3.size, beu3.block⟩
      have zu3 : u2.heap.size ≤ u3.heap.size := yu3.size
      have bu3 : Below w.heap.size w u3 := bu2.trans (yu3.mono bu2.size)
      have HC0u3 := Lib.hid (HC0.out.below yu3 (by omega))
      clear HC0
      have HC0bu3 := Lib.hid (HC0b.out.below yu3 (by omega))
      clear HC0b
      have Hau3 := Lib.hid (Hau2.out.next yu3)
      clear Hau2
      clear yu3 beu3
      clear bu2
      go_wp2_with fail
      refine (sStageWeights_L (A := _) (D := _) (c := _) (d := _) (w := _) (A2 := _) (c2 := _) (n := len0) (n' := lenb0) (B := u3.heap.size) (B' := u3.heap.size) (m := z0) (b := zb0) (hl := HL0.out) (hl' := HLb0.out) (hn := by omega) (hn' := by omega) (hB := Nat.le_refl _) (hB' := Nat.le_refl _) (h := by exact (HC0u3.out.mat).more (by omega)) (r := by exact (HC0bu3.out.row).more (by omega)) (n2 := len1) (B2 := u3.heap.size) (t := z1) (hl2 := HL1.out) (hn2 := by omega) (hB2 := Nat.le_refl _) (h2 := by exact (HC1.out.row).more (by omega))).mono ?_
      rintro e u4 ⟨sW, AW, cW, rfl, oW, beu4⟩
      have HW := Lib.hid (show OwnR u4 u3.heap.size u4.heap.size 2 (.slice AW (stageWA z0 zb0 z1).1.length cW) (stageWA z0 zb0 z1).1.length (ints (stageWA z0 zb0 z1).1) from OwnR.of oW)
      clear oW
      have yu4 : Below u3.heap.size u3 u4 := ⟨beu4.os, beu4.tape, beu4.output, beu4.size, beu4.block⟩
      have zu4 : u3.heap.size ≤ u4.heap.size := yu4.size
      have bu4 : Below w.heap.size w u4 := bu3.trans (yu4.mono bu3.size)
      have HC0u4 := Lib.hid (HC0u3.out.below yu4 (by omega))
      clear HC0u3
      have HC0bu4 := Lib.hid (HC0bu3.out.below yu4 (by omega))
      clear HC0bu3
      have HC1u4 := Lib.hid (HC1.out.below yu4 (by omega))
      clear HC1
      have Hau4 := Lib.hid (Hau3.out.next yu4)
      clear Hau3
      clear yu4 beu4
      clear bu3
      clear HC0u4
      clear HC0bu4
      clear HC1u4
      have q0 := Hau4.out.c0
      have q1 := Hau4.out.c1
      go_wp2_with fail
      clear q0 q1
      refine (toTableau_any _ _ len0 _ lenb0 _ w.heap.size z0 zb0 _ HL0.out HLb0.out (by omega) (by omega) (by omega) (by exact bu4.size) (by exact row0.below bu4 (Nat.le_refl _)) (by exact rowb0.below bu4 (Nat.le_refl _))).mono ?_
      rintro e u5 ⟨AX0, cX0, vsX0, DX0, dX0, midX0, rfl, laX0, lbX0, oX0, qX0, beu5⟩
      have HX0 := Lib.hid (show OwnMat u5 u4.heap.size midX0 (.slice AX0 len0 cX0) len0 z0 vsX0 from oX0)
      have HX0b := Lib.hid (show OwnR u5 midX0 u5.heap.size 2 (.slice DX0 lenb0 dX0) lenb0 (ints zb0) from qX0)
      clear oX0 qX0
      have yu5 : Below u4.heap.size u4 u5 := ⟨beu5.os, beu5.tape, beu5.output, beu5.size, beu5.block⟩
      have zu5 : u4.heap.size ≤ u5.heap.size := yu5.size
      have bu5 : Below w.heap.size w u5 := bu4.trans (yu5.mono bu4.size)
      have HWu5 := Lib.hid (HW.out.below yu5 (by omega))
      clear HW
      have Hau5 := Lib.hid (Hau4.out.next yu5)
      clear Hau4
      clear yu5 beu5
      clear bu4
      obtain ⟨u6, hu6⟩ : ∃ V, V = u5.alloc (.cells #[.slice AX0 len0 cX0, .slice DX0 lenb0 dX0] 28) := ⟨_, rfl⟩
      have beu6 : Below u5.heap.size u5 u6 := by rw [hu6]; exact (Below.refl _ _).alloc (Nat.le_refl _) _
      have Hx0 := Lib.hid (show Bx u6 u5.heap.size 28 (.slice AX0 len0 cX0) (.slice DX0 lenb0 dX0) by rw [hu6]; exact Bx.new _ _ _ _)
      have zx : u5.heap.size < u6.heap.size := Hx0.out.lt
      have q0 := Hau5.out.c0
      have q1 := Hau5.out.c1
      go_wp2_with fail
      clear q0 q1
      rw [← hu6]
      clear hu6
      have yu6 : Below u5.heap.size u5 u6 := ⟨beu6.os, beu6.tape, beu6.output, beu6.size, beu6.block⟩
      have zu6 : u5.heap.size ≤ u6.heap.size := yu6.size
      have bu6 : Below w.heap.size w u6 := bu5.trans (yu6.mono bu5.size)
      have HWu6 := Lib.hid (HWu5.out.below yu6 (by omega))
      clear HWu5
      have HX0u6 := Lib.hid (HX0.out.below yu6 (by omega))
      clear HX0
      have HX0bu6 := Lib.hid (HX0b.out.below yu6 (by omega))
      clear HX0b
      have Hau6 := Lib.hid (Hau5.out.next yu6)
      clear Hau5
      clear yu6 beu6
      clear bu5
      refine (toInt64S_any _ len1 _ w.heap.size z1 _ HL1.out (by omega) (by exact bu6.size) (by exact row1.below bu6 (Nat.le_refl _))).mono ?_
      rintro e u7 ⟨AX1, cX1, rfl, oX1, beu7⟩
      have HX1 := Lib.hid (show OwnR u7 u6.heap.size u7.heap.size 2 (.slice AX1 len1 cX1) len1 (ints z1) from OwnR.of oX1)
      clear oX1
      have yu7 : Below u6.heap.size u6 u7 := ⟨beu7.os, beu7.tape, beu7.output, beu7.size, beu7.block⟩
      have zu7 : u6.heap.size ≤ u7.heap.size := yu7.size
      have bu7 : Below w.heap.size w u7 := bu6.trans (yu7.mono bu6.size)
      have HWu7 := Lib.hid (HWu6.out.below yu7 (by omega))
      clear HWu6
      have HX0u7 := Lib.hid (HX0u6.out.below yu7 (by omega))
      clear HX0u6
      have HX0bu7 := Lib.hid (HX0bu6.out.below yu7 (by omega))
      clear HX0bu6
      have Hau7 := Lib.hid (Hau6.out.next yu7)
      clear Hau6
      have Hxu7 := Lib.hid (Hx0.out.next yu7)
      clear Hx0
      clear yu7 beu7
      clear bu6
      have q0 := Hxu7.out.c0
      have q1 := Hxu7.out.c1
      go_wp2_with fail
      clear q0 q1
      refine (pStageWeights_L (A := _) (D := _) (c := _) (d := _) (w := _) (A2 := _) (c2 := _) (n := len0) (n' := lenb0) (B := u7.heap.size) (B' := u7.heap.size) (m := z0) (b := zb0) (hl := HL0.out) (hl' := HLb0.out) (hn := by omega) (hn' := by omega) (hB := Nat.le_refl _) (hB' := Nat.le_refl _) (h := by exact (HX0u7.out.mat).more (by omega)) (r := by exact (HX0bu7.out.row).more (by omega)) (n2 := len1) (B2 := u7.heap.size) (t := z1) (hl2 := HL1.out) (hn2 := by omega) (hB2 := Nat.le_refl _) (h2 := by exact (HX1.out.row).more (by omega)) (hc2 := (own_cap (HX1.out).1).1)).mono ?_
      rintro e u8 ⟨sG, AG, cG, rfl, oG, beu8⟩
      have HG := Lib.hid (show OwnR u8 u7.heap.size u8.heap.size 2 (.slice AG (stageWA z0 zb0 z1).1.length cG) (stageWA z0 zb0 z1).1.length (ints (stageWA z0 zb0 z1).1) from OwnR.of oG)
      clear oG
      have yu8 : Below u7.heap.size u7 u8 := ⟨beu8.os, beu8.tape, beu8.output, beu8.size, beu8.block⟩
      have zu8 : u7.heap.size ≤ u8.heap.size := yu8.size
      have bu8 : Below w.heap.size w u8 := bu7.trans (yu8.mono bu7.size)
      have HWu8 := Lib.hid (HWu7.out.below yu8 (by omega))
      clear HWu7
      have HX0u8 := Lib.hid (HX0u7.out.below yu8 (by omega))
      clear HX0u7
      have HX0bu8 := Lib.hid (HX0bu7.out.below yu8 (by omega))
      clear HX0bu7
      have HX1u8 := Lib.hid (HX1.out.below yu8 (by omega))
      clear HX1
      have Hau8 := Lib.hid (Hau7.out.next yu8)
      clear Hau7
      have Hxu8 := Lib.hid (Hxu7.out.next yu8)
      clear Hxu7
      clear yu8 beu8
      clear bu7
      go_wp2_with fail
      refine (eqInt64S_any _ _ (stageWA z0 zb0 z1).1.length (stageWA z0 zb0 z1).1.length _ _ _ _ (stageWA z0 zb0 z1).1 (stageWA z0 zb0 z1).1 _ rfl rfl (by omega) (by omega) (by exact HG.out.row) (by exact HWu8.out.row)).mono ?_
      rintro e vj9 ⟨rfl, j9, rfl⟩
      rw [eqL_self]
      have KK : Hid (∀ V, Below u8.heap.size u8 V → V.cell? ⟨w.heap.size, 0, none⟩ = some (.slice a0 len0 cap0) ∧ V.cell? ⟨w.heap.size, 1, none⟩ = some (.slice aa0 lenb0 capb0) ∧ V.cell? ⟨u5.heap.size, 0, none⟩ = some (.slice AX0 len0 cX0) ∧ V.cell? ⟨u5.heap.size, 1, none⟩ = some (.slice DX0 lenb0 dX0)) := fun V hV => ⟨(Hau8.out.next hV).c0, (Hau8.out.next hV).c1, (Hxu8.out.next hV).c0, (Hxu8.out.next hV).c1⟩
      have C1 := fun V (hV : Below u8.heap.size u8 V) => toTableau_any a0 aa0 len0 cap0 lenb0 capb0 w.heap.size z0 zb0 V HL0.out HLb0.out (by omega) (by omega) (by omega) (by have := bu8.size; have := hV.size; omega) (row0.below (bu8.trans (hV.mono bu8.size)) (Nat.le_refl _)) (rowb0.below (bu8.trans (hV.mono bu8.size)) (Nat.le_refl _))
      have C2 := fun V (hV : Below u8.heap.size u8 V) AY cY vsY DY dY lo mid hi (oY : OwnMat V lo mid (.slice AY len0 cY) len0 z0 vsY) (qY : OwnR V mid hi 2 (.slice DY lenb0 dY) lenb0 (ints zb0)) (hm : mid ≤ hi) (hh : hi ≤ V.heap.size) => eqTableau_same AX0 AY DX0 DY len0 cX0 cY lenb0 dX0 dY u8.heap.size V.heap.size u8.heap.size V.heap.size z0 zb0 V HL0.out HLb0.out (by omega) (by omega) hV.size (Nat.le_refl _) hV.size (Nat.le_refl _) ((HX0u8.out.mat.more (by omega)).below hV (Nat.le_refl _)) (oY.mat.more (by omega)) ((HX0bu8.out.row.more (by omega)).below hV (Nat.le_refl _)) (qY.row.more (by omega))
      go_wp2_with fail
      go_region_held3 (fun V => V.cell? ⟨w.heap.size, 0, none⟩ = some (.slice a0 len0 cap0) ∧ V.cell? ⟨w.heap.size, 1, none⟩ = some (.slice aa0 lenb0 capb0) ∧ V.cell? ⟨u5.heap.size, 0, none⟩ = some (.slice AX0 len0 cX0) ∧ V.cell? ⟨u5.heap.size, 1, none⟩ = some (.slice DX0 lenb0 dX0)) (first | exact KK.out _ (Below.refl _ _) | exact KK.out _ (Below.refl _ _).drew | exact KK.out _ (below_drewN (Below.refl _ _) _) | exact KK.out _ (below_drewN (Below.refl _ _) _).drew | exact KK.out _ (below_undrawn (w := u8) (a := _) beu10) | exact KK.out _ beu10 | exact KK.out _ ((below_undrawn (w := u8) (a := _) beu10).trans (beu11.mono (below_undrawn (w := u8) (a := _) beu10).size)))
        (first
          | (go_at_call 12; refine (C1 _ (by first | exact Below.refl _ _ | exact (Below.refl _ _).drew | exact below_drewN (Below.refl _ _) _ | exact (below_drewN (Below.refl _ _) _).drew)).mono ?_; clear C1; rintro e u10 ⟨AY, cY, vsY, DY, dY, midY, rfl, laY, lbY, oY, qY, beu10⟩)
          | (go_at_call 14; refine (C2 _ (below_undrawn (w := u8) (a := _) beu10) AY cY vsY DY dY _ midY _ oY qY (by exact lbY) (by exact Nat.le_refl _)).mono ?_; clear C2; rintro e u11 ⟨rfl, beu11⟩))
      have bfu11 := (below_undrawn (w := u8) (a := _) beu10).trans (beu11.mono (below_undrawn (w := u8) (a := _) beu10).size)
      clear oY qY laY lbY KK beu10 beu11
      have yu11 : Below u8.heap.size u8 u11 := ⟨bfu11.os, bfu11.tape, bfu11.output, bfu11.size, bfu11.block⟩
      have zu11 : u8.heap.size ≤ u11.heap.size := yu11.size
      have bu11 : Below w.heap.size w u11 := bu8.trans (yu11.mono bu8.size)
      have HWu11 := Lib.hid (HWu8.out.below yu11 (by omega))
      clear HWu8
      have HX0u11 := Lib.hid (HX0u8.out.below yu11 (by omega))
      clear HX0u8
      have HX0bu11 := Lib.hid (HX0bu8.out.below yu11 (by omega))
      clear HX0bu8
      have HX1u11 := Lib.hid (HX1u8.out.below yu11 (by omega))
      clear HX1u8
      have HGu11 := Lib.hid (HG.out.below yu11 (by omega))
      clear HG
      have Hau11 := Lib.hid (Hau8.out.next yu11)
      clear Hau8
      have Hxu11 := Lib.hid (Hxu8.out.next yu11)
      clear Hxu8
      clear yu11 bfu11
      clear bu8
      go_wp2_with fail
      refine (toInt64S_any _ len1 _ w.heap.size z1 _ HL1.out (by omega) (by exact bu11.size) (by exact row1.below bu11 (Nat.le_refl _))).mono ?_
      rintro e u12 ⟨AD1, cD1, rfl, oD1, beu12⟩
      have HD1 := Lib.hid (show OwnR u12 u11.heap.size u12.heap.size 2 (.slice AD1 len1 cD1) len1 (ints z1) from OwnR.of oD1)
      clear oD1
      have yu12 : Below u11.heap.size u11 u12 := ⟨beu12.os, beu12.tape, beu12.output, beu12.size, beu12.block⟩
      have zu12 : u11.heap.size ≤ u12.heap.size := yu12.size
      have bu12 : Below w.heap.size w u12 := bu11.trans (yu12.mono bu11.size)
      have HWu12 := Lib.hid (HWu11.out.below yu12 (by omega))
      clear HWu11
      have HX0u12 := Lib.hid (HX0u11.out.below yu12 (by omega))
      clear HX0u11
      have HX0bu12 := Lib.hid (HX0bu11.out.below yu12 (by omega))
      clear HX0bu11
      have HX1u12 := Lib.hid (HX1u11.out.below yu12 (by omega))
      clear HX1u11
      have HGu12 := Lib.hid (HGu11.out.below yu12 (by omega))
      clear HGu11
      have Hau12 := Lib.hid (Hau11.out.next yu12)
      clear Hau11
      have Hxu12 := Lib.hid (Hxu11.out.next yu12)
      clear Hxu11
      clear yu12 beu12
      clear bu11
      go_wp2_with fail
      refine (eqInt64S_any _ _ len1 len1 _ _ _ _ z1 z1 _ HL1.out HL1.out (by omega) (by omega) (by exact HX1u12.out.row) (by exact HD1.out.row)).mono ?_
      rintro e vj13 ⟨rfl, j13, rfl⟩
      rw [eqL_self]
      clear HD1
      have q0 := Hxu12.out.c0
      have q1 := Hxu12.out.c1
      go_wp2_with fail
      clear q0 q1
      refine (markTableau_any _ _ len0 _ lenb0 _ u4.heap.size midX0 u5.heap.size z0 vsX0 zb0 1 _ HLb0.out (by omega) (by omega) (by omega) (by omega) (by omega) (by omega) (by omega) (by show u5.heap.size ≤ u12.heap.size; omega) (by exact (HX0u12.out.drewN _)) (by exact (HX0bu12.out.drewN _))).mono ?_
      rintro e u14 ⟨rfl, ou14, qu14, wiu14⟩
      clear ou14 qu14
      have yu14 : Within u4.heap.size u5.heap.size u12 u14 := ⟨wiu14.os, wiu14.tape, wiu14.output, wiu14.size, wiu14.block⟩
      have zu14 : u12.heap.size ≤ u14.heap.size := yu14.size
      have bu14 : Below w.heap.size w u14 := Below.then bu12 yu14 (by omega) (by omega)
      clear HX0u12
      clear HX0bu12
      have Hau14 := Lib.hid (Hau12.out.within yu14 (by omega))
      clear Hau12
      have HWu14 := Lib.hid (HWu12.out.within yu14 (by omega) (by omega))
      clear HWu12
      have HX1u14 := Lib.hid (HX1u12.out.within yu14 (by omega) (by omega))
      clear HX1u12
      have HGu14 := Lib.hid (HGu12.out.within yu14 (by omega) (by omega))
      clear HGu12
      clear yu14 wiu14 bu12
      go_wp2_with fail
      refine (markInt64S_any _ len1 _ u6.heap.size z1 (1 + (total z0 : Nat) + (lenb0 : Int)) _ HL1.out (by omega) (by omega) (by omega) (by exact (HX1u14.out).1)).mono ?_
      rintro e u15 ⟨rfl, ou15, gu15⟩
      have wiu15 := Within.grown gu15 (fun g hg => ⟨((HX1u14.out).1.lt g hg).1, (HX1u14.out).2 g hg⟩)
      have yu15 : Within u6.heap.size u7.heap.size u14 u15 := ⟨wiu15.os, wiu15.tape, wiu15.output, wiu15.size, wiu15.block⟩
      have zu15 : u14.heap.size ≤ u15.heap.size := yu15.size
      have bu15 : Below w.heap.size w u15 := Below.then bu14 yu15 (by omega) (by omega)
      have HX1u15 := Lib.hid (show OwnR u15 u6.heap.size u7.heap.size 2 (.slice AX1 len1 cX1) len1 (ints (marks (1 + (total z0 : Nat) + (lenb0 : Int)) len1)) from ⟨ou15, HX1u14.out.2⟩)
      clear ou15 gu15 HX1u14
      have HWu15 := Lib.hid (HWu14.out.within yu15 (by omega) (by omega))
      clear HWu14
      have HGu15 := Lib.hid (HGu14.out.within yu15 (by omega) (by omega))
      clear HGu14
      have Hau15 := Lib.hid (Hau14.out.within yu15 (by omega))
      clear Hau14
      clear yu15 wiu15 bu14
      clear HX1u15
      go_wp2_with fail
      refine (eqInt64S_any _ _ (stageWA z0 zb0 z1).1.length (stageWA z0 zb0 z1).1.length _ _ _ _ (stageWA z0 zb0 z1).1 (stageWA z0 zb0 z1).1 _ rfl rfl (by omega) (by omega) (by exact HGu15.out.row) (by exact HWu15.out.row)).mono ?_
      rintro e vj16 ⟨rfl, j16, rfl⟩
      rw [eqL_self]
      go_wp2_with fail
      refine (markInt64S_any _ (stageWA z0 zb0 z1).1.length _ u7.heap.size (stageWA z0 zb0 z1).1 1 _ rfl (by omega) (by omega) (by omega) (by exact ((HGu15.out.drewN _)).1)).mono ?_
      rintro e u17 ⟨rfl, ou17, gu17⟩
      have wiu17 := Within.grown gu17 (fun g hg => ⟨((HGu15.out).1.lt g hg).1, (HGu15.out).2 g hg⟩)
      have yu17 : Within u7.heap.size u8.heap.size u15 u17 := ⟨wiu17.os, wiu17.tape, wiu17.output, wiu17.size, wiu17.block⟩
      have zu17 : u15.heap.size ≤ u17.heap.size := yu17.size
      have bu17 : Below w.heap.size w u17 := Below.then bu15 yu17 (by omega) (by omega)
      have HGu17 := Lib.hid (show OwnR u17 u7.heap.size u8.heap.size 2 (.slice AG (stageWA z0 zb0 z1).1.length cG) (stageWA z0 zb0 z1).1.length (ints (marks 1 (stageWA z0 zb0 z1).1.length)) from ⟨ou17, HGu15.out.2⟩)
      clear ou17 gu17 HGu15
      have HWu17 := Lib.hid (HWu15.out.within yu17 (by omega) (by omega))
      clear HWu15
      have Hau17 := Lib.hid (Hau15.out.within yu17 (by omega))
      clear Hau15
      clear yu17 wiu17 bu15
      go_wp2_with fail
      refine (heldInt64S_any _ (stageWA z0 zb0 z1).1.length _ _ 1 _ (by omega) (by omega) (by omega) (by exact HGu17.out.row)).mono ?_
      rintro e vu17 ⟨rfl, rfl⟩
      have q0 := Hau17.out.c0
      have q1 := Hau17.out.c1
      go_wp2_with fail
      clear q0 q1
      refine (toTableau_any _ _ len0 _ lenb0 _ w.heap.size z0 zb0 _ HL0.out HLb0.out (by omega) (by omega) (by omega) (by exact bu17.size) (by exact row0.below bu17 (Nat.le_refl _)) (by exact rowb0.below bu17 (Nat.le_refl _))).mono ?_
      rintro e u18 ⟨AP0, cP0, vsP0, DP0, dP0, midP0, rfl, laP0, lbP0, oP0, qP0, beu18⟩
      have HP0 := Lib.hid (show OwnMat u18 u17.heap.size midP0 (.slice AP0 len0 cP0) len0 z0 vsP0 from oP0)
      have HP0b := Lib.hid (show OwnR u18 midP0 u18.heap.size 2 (.slice DP0 lenb0 dP0) lenb0 (ints zb0) from qP0)
      clear oP0 qP0
      have yu18 : Below u17.heap.size u17 u18 := ⟨beu18.os, beu18.tape, beu18.output, beu18.size, beu18.block⟩
      have zu18 : u17.heap.size ≤ u18.heap.size := yu18.size
      have bu18 : Below w.heap.size w u18 := bu17.trans (yu18.mono bu17.size)
      have HWu18 := Lib.hid (HWu17.out.below yu18 (by omega))
      clear HWu17
      have HGu18 := Lib.hid (HGu17.out.below yu18 (by omega))
      clear HGu17
      have Hau18 := Lib.hid (Hau17.out.next yu18)
      clear Hau17
      clear yu18 beu18
      clear bu17
      go_wp2_with fail
      refine (toInt64S_any _ len1 _ w.heap.size z1 _ HL1.out (by omega) (by exact bu18.size) (by exact row1.below bu18 (Nat.le_refl _))).mono ?_
      rintro e u19 ⟨AP1, cP1, rfl, oP1, beu19⟩
      have HP1 := Lib.hid (show OwnR u19 u18.heap.size u19.heap.size 2 (.slice AP1 len1 cP1) len1 (ints z1) from OwnR.of oP1)
      clear oP1
      have yu19 : Below u18.heap.size u18 u19 := ⟨beu19.os, beu19.tape, beu19.output, beu19.size, beu19.block⟩
      have zu19 : u18.heap.size ≤ u19.heap.size := yu19.size
      have bu19 : Below w.heap.size w u19 := bu18.trans (yu19.mono bu18.size)
      have HWu19 := Lib.hid (HWu18.out.below yu19 (by omega))
      clear HWu18
      have HGu19 := Lib.hid (HGu18.out.below yu19 (by omega))
      clear HGu18
      have HP0u19 := Lib.hid (HP0.out.below yu19 (by omega))
      clear HP0
      have HP0bu19 := Lib.hid (HP0b.out.below yu19 (by omega))
      clear HP0b
      have Hau19 := Lib.hid (Hau18.out.next yu19)
      clear Hau18
      clear yu19 beu19
      clear bu18
      go_wp2_with fail
      refine (pStageWeights_L (A := _) (D := _) (c := _) (d := _) (w := _) (A2 := _) (c2 := _) (n := len0) (n' := lenb0) (B := u19.heap.size) (B' := u19.heap.size) (m := z0) (b := zb0) (hl := HL0.out) (hl' := HLb0.out) (hn := by omega) (hn' := by omega) (hB := Nat.le_refl _) (hB' := Nat.le_refl _) (h := by exact (HP0u19.out.mat).more (by omega)) (r := by exact (HP0bu19.out.row).more (by omega)) (n2 := len1) (B2 := u19.heap.size) (t := z1) (hl2 := HL1.out) (hn2 := by omega) (hB2 := Nat.le_refl _) (h2 := by exact (HP1.out.row).more (by omega)) (hc2 := (own_cap (HP1.out).1).1)).mono ?_
      rintro e u20 ⟨sK, AK, cK, rfl, oK, beu20⟩
      have HK := Lib.hid (show OwnR u20 u19.heap.size u20.heap.size 2 (.slice AK (stageWA z0 zb0 z1).1.length cK) (stageWA z0 zb0 z1).1.length (ints (stageWA z0 zb0 z1).1) from OwnR.of oK)
      clear oK
      have yu20 : Below u19.heap.size u19 u20 := ⟨beu20.os, beu20.tape, beu20.output, beu20.size, beu20.block⟩
      have zu20 : u19.heap.size ≤ u20.heap.size := yu20.size
      have bu20 : Below w.heap.size w u20 := bu19.trans (yu20.mono bu19.size)
      have HWu20 := Lib.hid (HWu19.out.below yu20 (by omega))
      clear HWu19
      have HGu20 := Lib.hid (HGu19.out.below yu20 (by omega))
      clear HGu19
      have HP0u20 := Lib.hid (HP0u19.out.below yu20 (by omega))
      clear HP0u19
      have HP0bu20 := Lib.hid (HP0bu19.out.below yu20 (by omega))
      clear HP0bu19
      have HP1u20 := Lib.hid (HP1.out.below yu20 (by omega))
      clear HP1
      have Hau20 := Lib.hid (Hau19.out.next yu20)
      clear Hau19
      clear yu20 beu20
      clear bu19
      clear HP0u20
      clear HP0bu20
      clear HP1u20
      go_wp2_with fail
      refine (eqInt64S_any _ _ (stageWA z0 zb0 z1).1.length (stageWA z0 zb0 z1).1.length _ _ _ _ (stageWA z0 zb0 z1).1 (stageWA z0 zb0 z1).1 _ rfl rfl (by omega) (by omega) (by exact HK.out.row) (by exact HWu20.out.row)).mono ?_
      rintro e vj21 ⟨rfl, j21, rfl⟩
      rw [eqL_self]
      go_wp2_with fail
      refine (heldInt64S_any _ (stageWA z0 zb0 z1).1.length _ _ 1 _ (by omega) (by omega) (by omega) (by exact (HGu20.out.drewN _).row)).mono ?_
      rintro e vu20 ⟨rfl, rfl⟩
      go_wp2
      go_ret
      exact ⟨rfl, below_drewN bu20 _⟩
    · have S0 := Lib.hid (szR_neg (left := 1048576) (used := len0 + total z0 + lenb0) (by omega))
      go_enter Try.func7, Try.ntmps7
      go_wp2_with fail
      rw [← hW]
      refine (szTableau_any _ _ len0 _ w.heap.size lenb0 _ z0 _ W HL0.out (by omega) (by omega) (by omega) (row0.below b0 (Nat.le_refl _)) (by omega) (by omega)).mono ?_
      rintro e w' ⟨rfl, be⟩
      rw [S0.out]
      have BE := Lib.hid (b0.trans (be.mono b0.size))
      clear be hW
      go_wp2
      go_ret
      exact ⟨rfl, BE.out⟩
  · go_enter Try.func7, Try.ntmps7
    go_wp2
    go_ret
    exact ⟨rfl, by rw [← hW]; exact b0⟩
/-- the statement -/
theorem holds : Rows.FnExactStageWeightsSaid := of_walk walk
end Go.Proofs.Ytolkbbbbahhfaaa.fnExactStageWeights
