/-
  PROVED: for all arguments the law FnExactWeightOf returns true: WeightOf answers as its model, leaves its arguments alone.
  CONDITIONS: none; every argument that the types hold.
-/
import Derived.Test.YtolkbbbbahhfaaaTabM
import Derived.Test.YtolkbbbbahhfaaaFFnExactWeightOf
namespace Go.Proofs.Ytolkbbbbahhfaaa.fnExactWeightOf
open Go.ChangeShapes Go.WideShapes Go.ChangeAt Go.RowKit Fld
set_option linter.unusedVariables false

set_option maxRecDepth 100000 in
set_option maxHeartbeats 4000000 in
theorem walk (w : World) (a0 : Option Addr) (len0 cap0 : Nat) (z0 : List (List Int)) (w0 : IsMat w a0 len0 cap0 z0) (aa0 : Option Addr) (lenb0 capb0 : Nat) (zb0 : List Int) (wb0 : IsRow .i64 w aa0 lenb0 capb0 zb0) (a1 : Option Addr) (len1 cap1 : Nat) (z1 : List Int) (w1 : IsRow .i64 w a1 len1 cap1 z1) : Calls Try.prog 8 #[.agg #[.slice a0 len0 cap0, .slice aa0 lenb0 capb0], .slice a1 len1 cap1] w fun e w' => e = .returned (.bool true) ∧ Below w.heap.size w w' := by
  obtain ⟨hl0, hlc0, hcm0, row0, _⟩ := w0
  have HL0 := Lib.hid hl0
  clear hl0
  unfold maxLen at hcm0
  obtain ⟨hlb0, hlcb0, hcmb0, rowb0, _⟩ := wb0
  have HLb0 := Lib.hid hlb0
  clear hlb0
  unfold maxLen at hcmb0
  obtain ⟨hl1, hlc1, hcm1, row1, _⟩ := w1
  have HL1 := Lib.hid hl1
  clear hl1
  unfold maxLen at hcm1
  obtain ⟨W, hW⟩ : ∃ W, W = w.alloc (.cells #[.slice a0 len0 cap0, .slice aa0 lenb0 capb0] 25) := ⟨_, rfl⟩
  have b0 : Below w.heap.size w W := by rw [hW]; exact (Below.refl _ _).alloc (Nat.le_refl _) _
  have zW := b0.size
  have Ha := Lib.hid (show Bx W w.heap.size 25 (.slice a0 len0 cap0) (.slice aa0 lenb0 capb0) by rw [hW]; exact Bx.new _ _ _ _)
  have zA : w.heap.size < W.heap.size := Ha.out.lt
  by_cases hf1 : len1 ≤ 1048576
  · skip
    by_cases hf0 : len0 + total z0 + lenb0 ≤ 1048576
    · have S0 := Lib.hid (szR_pos (left := 1048576) (used := len0 + total z0 + lenb0) (by omega))
      go_enter Try.func8, Try.ntmps8
      go_wp2_with fail
      rw [← hW]
      refine (szTableau_any _ _ len0 _ w.heap.size lenb0 _ z0 _ W HL0.out (by omega) (by omega) (by omega) (row0.below b0 (Nat.le_refl _)) (by omega) (by omega)).mono ?_
      rintro e u1 ⟨rfl, beu1⟩
      rw [S0.out]
      clear hW
      have yu1 : Below W.heap.size W u1 := ⟨beu1.os, beu1.tape, beu1.output, beu1.size, beu1.block⟩
      have zu1 : W.heap.size ≤ u1.heap.size := yu1.size
      have bu1 : Below w.heap.size w u1 := b0.trans (yu1.mono b0.size)
      have Hau1 := Lib.hid (Ha.out.next yu1)
      clear Ha
      clear yu1 beu1
      have q0 := Hau1.out.c0
      have q1 := Hau1.out.c1
      go_wp2_with fail
      clear q0 q1
      refine (toTableau_any _ _ len0 _ lenb0 _ w.heap.size z0 zb0 _ HL0.out HLb0.out (by omega) (by omega) (by omega) (by exact bu1.size) (by exact row0.below bu1 (Nat.le_refl _)) (by exact rowb0.below bu1 (Nat.le_refl _))).mono ?_
      rintro e u2 ⟨AC0, cC0, vsC0, DC0, dC0, midC0, rfl, laC0, lbC0, oC0, qC0, beu2⟩
      have HC0 := Lib.hid (show OwnMat u2 u1.heap.size midC0 (.slice AC0 len0 cC0) len0 z0 vsC0 from oC0)
      have HC0b := Lib.hid (show OwnR u2 midC0 u2.heap.size 2 (.slice DC0 lenb0 dC0) lenb0 (ints zb0) from qC0)
      clear oC0 qC0
      have yu2 : Below u1.heap.size u1 u2 := ⟨beu2.os, beu2.tape, beu2.output, beu2.size, beu2.block⟩
      have zu2 : u1.heap.size ≤ u2.heap.size := yu2.size
      have bu2 : Below w.heap.size w u2 := bu1.trans (yu2.mono bu1.size)
      have Hau2 := Lib.hid (Hau1.out.next yu2)
      clear Hau1
      clear yu2 beu2
      clear bu1
      go_wp2_with fail
      refine (toInt64S_any _ len1 _ w.heap.size z1 _ HL1.out (by omega) (by exact bu2.size) (by exact row1.below bu2 (Nat.le_refl _))).mono ?_
      rintro e u3 ⟨AC1, cC1, rfl, oC1, beu3⟩
      have HC1 := Lib.hid (show OwnR u3 u2.heap.size u3.heap.size 2 (.slice AC1 len1 cC1) len1 (ints z1) from OwnR.of oC1)
      clear oC1
      have yu3 : Below u2.heap.size u2 u3 := ⟨beu3.os, beu3.tape, beu3.output, beu3.size, beu3.block⟩
      have zu3 : u2.heap.size ≤ u3.heap.size := yu3.size
      have bu3 : Below w.heap.size w u3 := bu2.trans (yu3.mono bu2.size)
      have HC0u3 := Lib.hid (HC0.out.below yu3 (by omega))
      clear HC0
      have HC0bu3 := Lib.hid (HC0b.out.below yu3 (by omega))
      clear HC0b
      have Hau3 := Lib.hid (Hau2.out.next yu3)
      clear Hau2
      clear yu3 beu3
      clear bu2
      go_wp2_with fail
      refine (sWeightOf_L (A := _) (D := _) (c := _) (d := _) (w := _) (A2 := _) (c2 := _) (n := len0) (n' := lenb0) (B := u3.heap.size) (B' := u3.heap.size) (m := z0) (b := zb0) (hl := HL0.out) (hl' := HLb0.out) (hn := by omega) (hn' := by omega) (hB := Nat.le_refl _) (hB' := Nat.le_refl _) (h := by exact (HC0u3.out.mat).more (by omega)) (r := by exact (HC0bu3.out.row).more (by omega)) (n2 := len1) (B2 := u3.heap.size) (t := z1) (hl2 := HL1.out) (hn2 := by omega) (hB2 := Nat.le_refl _) (h2 := by exact (HC1.out.row).more (by omega))).mono ?_
      rintro e u4 ⟨rfl, beu4⟩
      have yu4 : Below u3.heap.size u3 u4 := ⟨beu4.os, beu4.tape, beu4.output, beu4.size, beu4.block⟩
      have zu4 : u3.heap.size ≤ u4.heap.size := yu4.size
      have bu4 : Below w.heap.size w u4 := bu3.trans (yu4.mono bu3.size)
      have HC0u4 := Lib.hid (HC0u3.out.below yu4 (by omega))
      clear HC0u3
      have HC0bu4 := Lib.hid (HC0bu3.out.below yu4 (by omega))
      clear HC0bu3
      have HC1u4 := Lib.hid (HC1.out.below yu4 (by omega))
      clear HC1
      have Hau4 := Lib.hid (Hau3.out.next yu4)
      clear Hau3
      clear yu4 beu4
      clear bu3
      clear HC0u4
      clear HC0bu4
      clear HC1u4
      have q0 := Hau4.out.c0
      have q1 := Hau4.out.c1
      go_wp2_with fail
      clear q0 q1
      refine (toTableau_any _ _ len0 _ lenb0 _ w.heap.size z0 zb0 _ HL0.out HLb0.out (by omega) (by omega) (by omega) (by exact bu4.size) (by exact row0.below bu4 (Nat.le_refl _)) (by exact rowb0.below bu4 (Nat.le_refl _))).mono ?_
      rintro e u5 ⟨AX0, cX0, vsX0, DX0, dX0, midX0, rfl, laX0, lbX0, oX0, qX0, beu5⟩
      have HX0 := Lib.hid (show OwnMat u5 u4.heap.size midX0 (.slice AX0 len0 cX0) len0 z0 vsX0 from oX0)
      have HX0b := Lib.hid (show OwnR u5 midX0 u5.heap.size 2 (.slice DX0 lenb0 dX0) lenb0 (ints zb0) from qX0)
      clear oX0 qX0
      have yu5 : Below u4.heap.size u4 u5 := ⟨beu5.os, beu5.tape, beu5.output, beu5.size, beu5.block⟩
      have zu5 : u4.heap.size ≤ u5.heap.size := yu5.size
      have bu5 : Below w.heap.size w u5 := bu4.trans (yu5.mono bu4.size)
      have Hau5 := Lib.hid (Hau4.out.next yu5)
      clear Hau4
      clear yu5 beu5
      clear bu4
      obtain ⟨u6, hu6⟩ : ∃ V, V = u5.alloc (.cells #[.slice AX0 len0 cX0, .slice DX0 lenb0 dX0] 28) := ⟨_, rfl⟩
      have beu6 : Below u5.heap.size u5 u6 := by rw [hu6]; exact (Below.refl _ _).alloc (Nat.le_refl _) _
      have Hx0 := Lib.hid (show Bx u6 u5.heap.size 28 (.slice AX0 len0 cX0) (.slice DX0 lenb0 dX0) by rw [hu6]; exact Bx.new _ _ _ _)
      have zx : u5.heap.size < u6.heap.size := Hx0.out.lt
      have q0 := Hau5.out.c0
      have q1 := Hau5.out.c1
      go_wp2_with fail
      clear q0 q1
      rw [← hu6]
      clear hu6
      have yu6 : Below u5.heap.size u5 u6 := ⟨beu6.os, beu6.tape, beu6.output, beu6.size, beu6.block⟩
      have zu6 : u5.heap.size ≤ u6.heap.size := yu6.size
      have bu6 : Below w.heap.size w u6 := bu5.trans (yu6.mono bu5.size)
      have HX0u6 := Lib.hid (HX0.out.below yu6 (by omega))
      clear HX0
      have HX0bu6 := Lib.hid (HX0b.out.below yu6 (by omega))
      clear HX0b
      have Hau6 := Lib.hid (Hau5.out.next yu6)
      clear Hau5
      clear yu6 beu6
      clear bu5
      refine (toInt64S_any _ len1 _ w.heap.size z1 _ HL1.out (by omega) (by exact bu6.size) (by exact row1.below bu6 (Nat.le_refl _))).mono ?_
      rintro e u7 ⟨AX1, cX1, rfl, oX1, beu7⟩
      have HX1 := Lib.hid (show OwnR u7 u6.heap.size u7.heap.size 2 (.slice AX1 len1 cX1) len1 (ints z1) from OwnR.of oX1)
      clear oX1
      have yu7 : Below u6.heap.size u6 u7 := ⟨beu7.os, beu7.tape, beu7.output, beu7.size, beu7.block⟩
      have zu7 : u6.heap.size ≤ u7.heap.size := yu7.size
      have bu7 : Below w.heap.size w u7 := bu6.trans (yu7.mono bu6.size)
      have HX0u7 := Lib.hid (HX0u6.out.below yu7 (by omega))
      clear HX0u6
      have HX0bu7 := Lib.hid (HX0bu6.out.below yu7 (by omega))
      clear HX0bu6
      have Hau7 := Lib.hid (Hau6.out.next yu7)
      clear Hau6
      have Hxu7 := Lib.hid (Hx0.out.next yu7)
      clear Hx0
      clear yu7 beu7
      clear bu6
      have q0 := Hxu7.out.c0
      have q1 := Hxu7.out.c1
      go_wp2_with fail
      clear q0 q1
      refine (pWeightOf_L (A := _) (D := _) (c := _) (d := _) (w := _) (A2 := _) (c2 := _) (n := len0) (n' := lenb0) (B := u7.heap.size) (B' := u7.heap.size) (m := z0) (b := zb0) (hl := HL0.out) (hl' := HLb0.out) (hn := by omega) (hn' := by omega) (hB := Nat.le_refl _) (hB' := Nat.le_refl _) (h := by exact (HX0u7.out.mat).more (by omega)) (r := by exact (HX0bu7.out.row).more (by omega)) (n2 := len1) (B2 := u7.heap.size) (t := z1) (hl2 := HL1.out) (hn2 := by omega) (hB2 := Nat.le_refl _) (h2 := by exact (HX1.out.row).more (by omega)) (hc2 := (own_cap (HX1.out).1).1)).mono ?_
      rintro e u8 ⟨rfl, beu8⟩
      have yu8 : Below u7.heap.size u7 u8 := ⟨beu8.os, beu8.tape, beu8.output, beu8.size, beu8.block⟩
      have zu8 : u7.heap.size ≤ u8.heap.size := yu8.size
      have bu8 : Below w.heap.size w u8 := bu7.trans (yu8.mono bu7.size)
      have HX0u8 := Lib.hid (HX0u7.out.below yu8 (by omega))
      clear HX0u7
      have HX0bu8 := Lib.hid (HX0bu7.out.below yu8 (by omega))
      clear HX0bu7
      have HX1u8 := Lib.hid (HX1.out.below yu8 (by omega))
      clear HX1
      have Hau8 := Lib.hid (Hau7.out.next yu8)
      clear Hau7
      have Hxu8 := Lib.hid (Hxu7.out.next yu8)
      clear Hxu7
      clear yu8 beu8
      clear bu7
      have KK : Hid (∀ V, Below u8.heap.size u8 V → V.cell? ⟨w.heap.size, 0, none⟩ = some (.slice a0 len0 cap0) ∧ V.cell? ⟨w.heap.size, 1, none⟩ = some (.slice aa0 lenb0 capb0) ∧ V.cell? ⟨u5.heap.size, 0, none⟩ = some (.slice AX0 len0 cX0) ∧ V.cell? ⟨u5.heap.size, 1, none⟩ = some (.slice DX0 lenb0 dX0)) := fun V hV => ⟨(Hau8.out.next hV).c0, (Hau8.out.next hV).c1, (Hxu8.out.next hV).c0, (Hxu8.out.next hV).c1⟩
      have C1 := fun V (hV : Below u8.heap.size u8 V) => toTableau_any a0 aa0 len0 cap0 lenb0 capb0 w.heap.size z0 zb0 V HL0.out HLb0.out (by omega) (by omega) (by omega) (by have := bu8.size; have := hV.size; omega) (row0.below (bu8.trans (hV.mono bu8.size)) (Nat.le_refl _)) (rowb0.below (bu8.trans (hV.mono bu8.size)) (Nat.le_refl _))
      have C2 := fun V (hV : Below u8.heap.size u8 V) AY cY vsY DY dY lo mid hi (oY : OwnMat V lo mid (.slice AY len0 cY) len0 z0 vsY) (qY : OwnR V mid hi 2 (.slice DY lenb0 dY) lenb0 (ints zb0)) (hm : mid ≤ hi) (hh : hi ≤ V.heap.size) => eqTableau_same AX0 AY DX0 DY len0 cX0 cY lenb0 dX0 dY u8.heap.size V.heap.size u8.heap.size V.heap.size z0 zb0 V HL0.out HLb0.out (by omega) (by omega) hV.size (Nat.le_refl _) hV.size (Nat.le_refl _) ((HX0u8.out.mat.more (by omega)).below hV (Nat.le_refl _)) (oY.mat.more (by omega)) ((HX0bu8.out.row.more (by omega)).below hV (Nat.le_refl _)) (qY.row.more (by omega))
      go_wp2_with fail
      go_region_held3 (fun V => V.cell? ⟨w.heap.size, 0, none⟩ = some (.slice a0 len0 cap0) ∧ V.cell? ⟨w.heap.size, 1, none⟩ = some (.slice aa0 lenb0 capb0) ∧ V.cell? ⟨u5.heap.size, 0, none⟩ = some (.slice AX0 len0 cX0) ∧ V.cell? ⟨u5.heap.size, 1, none⟩ = some (.slice DX0 lenb0 dX0)) (first | exact KK.out _ (Below.refl _ _) | exact KK.out _ (Below.refl _ _).drew | exact KK.out _ (below_drewN (Below.refl _ _) _) | exact KK.out _ (below_drewN (Below.refl _ _) _).drew | exact KK.out _ (below_undrawn (w := u8) (a := _) beu9) | exact KK.out _ beu9 | exact KK.out _ ((below_undrawn (w := u8) (a := _) beu9).trans (beu10.mono (below_undrawn (w := u8) (a := _) beu9).size)))
        (first
          | (go_at_call 12; refine (C1 _ (by first | exact Below.refl _ _ | exact (Below.refl _ _).drew | exact below_drewN (Below.refl _ _) _ | exact (below_drewN (Below.refl _ _) _).drew)).mono ?_; clear C1; rintro e u9 ⟨AY, cY, vsY, DY, dY, midY, rfl, laY, lbY, oY, qY, beu9⟩)
          | (go_at_call 14; refine (C2 _ (below_undrawn (w := u8) (a := _) beu9) AY cY vsY DY dY _ midY _ oY qY (by exact lbY) (by exact Nat.le_refl _)).mono ?_; clear C2; rintro e u10 ⟨rfl, beu10⟩))
      have bfu10 := (below_undrawn (w := u8) (a := _) beu9).trans (beu10.mono (below_undrawn (w := u8) (a := _) beu9).size)
      clear oY qY laY lbY KK beu9 beu10
      have yu10 : Below u8.heap.size u8 u10 := ⟨bfu10.os, bfu10.tape, bfu10.output, bfu10.size, bfu10.block⟩
      have zu10 : u8.heap.size ≤ u10.heap.size := yu10.size
      have bu10 : Below w.heap.size w u10 := bu8.trans (yu10.mono bu8.size)
      have HX0u10 := Lib.hid (HX0u8.out.below yu10 (by omega))
      clear HX0u8
      have HX0bu10 := Lib.hid (HX0bu8.out.below yu10 (by omega))
      clear HX0bu8
      have HX1u10 := Lib.hid (HX1u8.out.below yu10 (by omega))
      clear HX1u8
      have Hau10 := Lib.hid (Hau8.out.next yu10)
      clear Hau8
      have Hxu10 := Lib.hid (Hxu8.out.next yu10)
      clear Hxu8
      clear yu10 bfu10
      clear bu8
      go_wp2_with fail
      refine (toInt64S_any _ len1 _ w.heap.size z1 _ HL1.out (by omega) (by exact bu10.size) (by exact row1.below bu10 (Nat.le_refl _))).mono ?_
      rintro e u11 ⟨AD1, cD1, rfl, oD1, beu11⟩
      have HD1 := Lib.hid (show OwnR u11 u10.heap.size u11.heap.size 2 (.slice AD1 len1 cD1) len1 (ints z1) from OwnR.of oD1)
      clear oD1
      have yu11 : Below u10.heap.size u10 u11 := ⟨beu11.os, beu11.tape, beu11.output, beu11.size, beu11.block⟩
      have zu11 : u10.heap.size ≤ u11.heap.size := yu11.size
      have bu11 : Below w.heap.size w u11 := bu10.trans (yu11.mono bu10.size)
      have HX0u11 := Lib.hid (HX0u10.out.below yu11 (by omega))
      clear HX0u10
      have HX0bu11 := Lib.hid (HX0bu10.out.below yu11 (by omega))
      clear HX0bu10
      have HX1u11 := Lib.hid (HX1u10.out.below yu11 (by omega))
      clear HX1u10
      have Hau11 := Lib.hid (Hau10.out.next yu11)
      clear Hau10
      have Hxu11 := Lib.hid (Hxu10.out.next yu11)
      clear Hxu10
      clear yu11 beu11
      clear bu10
      go_wp2_with fail
      refine (eqInt64S_any _ _ len1 len1 _ _ _ _ z1 z1 _ HL1.out HL1.out (by omega) (by omega) (by exact HX1u11.out.row) (by exact HD1.out.row)).mono ?_
      rintro e vj12 ⟨rfl, j12, rfl⟩
      rw [eqL_self]
      clear HD1
      go_wp2
      go_ret
      exact ⟨rfl, below_drewN bu11 _⟩
    · have S0 := Lib.hid (szR_neg (left := 1048576) (used := len0 + total z0 + lenb0) (by omega))
      go_enter Try.func8, Try.ntmps8
      go_wp2_with fail
      rw [← hW]
      refine (szTableau_any _ _ len0 _ w.heap.size lenb0 _ z0 _ W HL0.out (by omega) (by omega) (by omega) (row0.below b0 (Nat.le_refl _)) (by omega) (by omega)).mono ?_
      rintro e w' ⟨rfl, be⟩
      rw [S0.out]
      have BE := Lib.hid (b0.trans (be.mono b0.size))
      clear be hW
      go_wp2
      go_ret
      exact ⟨rfl, BE.out⟩
  · go_enter Try.func8, Try.ntmps8
    go_wp2
    go_ret
    exact ⟨rfl, by rw [← hW]; exact b0⟩
/-- the statement -/
theorem holds : Rows.FnExactWeightOfSaid := of_walk walk
end Go.Proofs.Ytolkbbbbahhfaaa.fnExactWeightOf
