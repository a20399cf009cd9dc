/-
  PROVED: for all arguments the law FnExactIsSymmetric returns true: IsSymmetric answers as its model, leaves its arguments alone.
  CONDITIONS: none; every argument that the types hold.
-/
import Derived.Test.YtnnihdkhblbdgaaSmM
import Derived.Test.YtnnihdkhblbdgaaSmX
import Derived.Test.YtnnihdkhblbdgaaFFnExactIsSymmetric
namespace Go.Proofs.Ytnnihdkhblbdgaa.fnExactIsSymmetric
open Go.ChangeShapes Go.WideShapes Go.ChangeAt Go.RowKit Fld
set_option linter.unusedVariables false

set_option maxRecDepth 100000 in
set_option maxHeartbeats 4000000 in
theorem walk (w : World) (a0 : Option Addr) (len0 cap0 : Nat) (z0 : List (List Int)) (w0 : IsMat w a0 len0 cap0 z0) (aa0 : Option Addr) (lenb0 capb0 : Nat) (zb0 : List Int) (wb0 : IsRow .i64 w aa0 lenb0 capb0 zb0) : Calls Try.prog 5 #[.agg #[.slice a0 len0 cap0, .slice aa0 lenb0 capb0]] w fun e w' => e = .returned (.bool true) ∧ Below w.heap.size w w' := by
  obtain ⟨hl0, hlc0, hcm0, row0, _⟩ := w0
  have HL0 := Lib.hid hl0
  clear hl0
  unfold maxLen at hcm0
  obtain ⟨hlb0, hlcb0, hcmb0, rowb0, _⟩ := wb0
  have HLb0 := Lib.hid hlb0
  clear hlb0
  unfold maxLen at hcmb0
  obtain ⟨W, hW⟩ : ∃ W, W = w.alloc (.cells #[.slice a0 len0 cap0, .slice aa0 lenb0 capb0] 25) := ⟨_, rfl⟩
  have b0 : Below w.heap.size w W := by rw [hW]; exact (Below.refl _ _).alloc (Nat.le_refl _) _
  have zW := b0.size
  have Ha := Lib.hid (show Bx W w.heap.size 25 (.slice a0 len0 cap0) (.slice aa0 lenb0 capb0) by rw [hW]; exact Bx.new _ _ _ _)
  have zA : w.heap.size < W.heap.size := Ha.out.lt
  by_cases hf0 : len0 + total z0 + lenb0 ≤ 1048576
  · have S0 := Lib.hid (szR_pos (left := 1048576) (used := len0 + total z0 + lenb0) (by omega))
    go_enter Try.func5, Try.ntmps5
    go_wp2_with fail
    rw [← hW]
    refine (szTableau_any _ _ len0 _ w.heap.size lenb0 _ z0 _ W HL0.out (by omega) (by omega) (by omega) (row0.below b0 (Nat.le_refl _)) (by omega) (by omega)).mono ?_
    rintro e u1 ⟨rfl, beu1⟩
    rw [S0.out]
    clear hW
    have yu1 : Below W.heap.size W u1 := ⟨beu1.os, beu1.tape, beu1.output, beu1.size, beu1.block⟩
    have zu1 : W.heap.size ≤ u1.heap.size := yu1.size
    have bu1 : Below w.heap.size w u1 := b0.trans (yu1.mono b0.size)
    have Hau1 := Lib.hid (Ha.out.next yu1)
    clear Ha
    clear yu1 beu1
    have q0 := Hau1.out.c0
    have q1 := Hau1.out.c1
    go_wp2_with fail
    clear q0 q1
    refine (toTableau_any _ _ len0 _ lenb0 _ w.heap.size z0 zb0 _ HL0.out HLb0.out (by omega) (by omega) (by omega) (by exact bu1.size) (by exact row0.below bu1 (Nat.le_refl _)) (by exact rowb0.below bu1 (Nat.le_refl _))).mono ?_
    rintro e u2 ⟨AC0, cC0, vsC0, DC0, dC0, midC0, rfl, laC0, lbC0, oC0, qC0, beu2⟩
    have HC0 := Lib.hid (show OwnMat u2 u1.heap.size midC0 (.slice AC0 len0 cC0) len0 z0 vsC0 from oC0)
    have HC0b := Lib.hid (show OwnR u2 midC0 u2.heap.size 2 (.slice DC0 lenb0 dC0) lenb0 (ints zb0) from qC0)
    clear oC0 qC0
    have yu2 : Below u1.heap.size u1 u2 := ⟨beu2.os, beu2.tape, beu2.output, beu2.size, beu2.block⟩
    have zu2 : u1.heap.size ≤ u2.heap.size := yu2.size
    have bu2 : Below w.heap.size w u2 := bu1.trans (yu2.mono bu1.size)
    have Hau2 := Lib.hid (Hau1.out.next yu2)
    clear Hau1
    clear yu2 beu2
    clear bu1
    go_wp2_with fail
    refine (sIsSymmetric_L (A := _) (D := _) (c := _) (d := _) (w := _) (n := len0) (n' := lenb0) (B := u2.heap.size) (B' := u2.heap.size) (m := z0) (b := zb0) (hl := HL0.out) (hl' := HLb0.out) (hn := by omega) (hn' := by omega) (hB := Nat.le_refl _) (hB' := Nat.le_refl _) (h := by exact (HC0.out.mat).more (by omega)) (r := by exact (HC0b.out.row).more (by omega))).mono ?_
    rintro e u3 ⟨rfl, beu3⟩
    have yu3 : Below u2.heap.size u2 u3 := ⟨beu3.os, beu3.tape, beu3.output, beu3.size, beu3.block⟩
    have zu3 : u2.heap.size ≤ u3.heap.size := yu3.size
    have bu3 : Below w.heap.size w u3 := bu2.trans (yu3.mono bu2.size)
    have HC0u3 := Lib.hid (HC0.out.below yu3 (by omega))
    clear HC0
    have HC0bu3 := Lib.hid (HC0b.out.below yu3 (by omega))
    clear HC0b
    have Hau3 := Lib.hid (Hau2.out.next yu3)
    clear Hau2
    clear yu3 beu3
    clear bu2
    clear HC0u3
    clear HC0bu3
    have q0 := Hau3.out.c0
    have q1 := Hau3.out.c1
    go_wp2_with fail
    clear q0 q1
    refine (toTableau_any _ _ len0 _ lenb0 _ w.heap.size z0 zb0 _ HL0.out HLb0.out (by omega) (by omega) (by omega) (by exact bu3.size) (by exact row0.below bu3 (Nat.le_refl _)) (by exact rowb0.below bu3 (Nat.le_refl _))).mono ?_
    rintro e u4 ⟨AX0, cX0, vsX0, DX0, dX0, midX0, rfl, laX0, lbX0, oX0, qX0, beu4⟩
    have HX0 := Lib.hid (show OwnMat u4 u3.heap.size midX0 (.slice AX0 len0 cX0) len0 z0 vsX0 from oX0)
    have HX0b := Lib.hid (show OwnR u4 midX0 u4.heap.size 2 (.slice DX0 lenb0 dX0) lenb0 (ints zb0) from qX0)
    clear oX0 qX0
    have yu4 : Below u3.heap.size u3 u4 := ⟨beu4.os, beu4.tape, beu4.output, beu4.size, beu4.block⟩
    have zu4 : u3.heap.size ≤ u4.heap.size := yu4.size
    have bu4 : Below w.heap.size w u4 := bu3.trans (yu4.mono bu3.size)
    have Hau4 := Lib.hid (Hau3.out.next yu4)
    clear Hau3
    clear yu4 beu4
    clear bu3
    obtain ⟨u5, hu5⟩ : ∃ V, V = u4.alloc (.cells #[.slice AX0 len0 cX0, .slice DX0 lenb0 dX0] 29) := ⟨_, rfl⟩
    have beu5 : Below u4.heap.size u4 u5 := by rw [hu5]; exact (Below.refl _ _).alloc (Nat.le_refl _) _
    have Hx0 := Lib.hid (show Bx u5 u4.heap.size 29 (.slice AX0 len0 cX0) (.slice DX0 lenb0 dX0) by rw [hu5]; exact Bx.new _ _ _ _)
    have zx : u4.heap.size < u5.heap.size := Hx0.out.lt
    have q0 := Hau4.out.c0
    have q1 := Hau4.out.c1
    go_wp2_with fail
    clear q0 q1
    rw [← hu5]
    clear hu5
    have yu5 : Below u4.heap.size u4 u5 := ⟨beu5.os, beu5.tape, beu5.output, beu5.size, beu5.block⟩
    have zu5 : u4.heap.size ≤ u5.heap.size := yu5.size
    have bu5 : Below w.heap.size w u5 := bu4.trans (yu5.mono bu4.size)
    have HX0u5 := Lib.hid (HX0.out.below yu5 (by omega))
    clear HX0
    have HX0bu5 := Lib.hid (HX0b.out.below yu5 (by omega))
    clear HX0b
    have Hau5 := Lib.hid (Hau4.out.next yu5)
    clear Hau4
    clear yu5 beu5
    clear bu4
    refine (pIsSymmetric_L (A := _) (D := _) (c := _) (d := _) (w := _) (n := len0) (n' := lenb0) (B := u5.heap.size) (B' := u5.heap.size) (m := z0) (b := zb0) (hl := HL0.out) (hl' := HLb0.out) (hn := by omega) (hn' := by omega) (hB := Nat.le_refl _) (hB' := Nat.le_refl _) (h := by exact (HX0u5.out.mat).more (by omega)) (r := by exact (HX0bu5.out.row).more (by omega))).mono ?_
    rintro e u6 ⟨rfl, beu6⟩
    have yu6 : Below u5.heap.size u5 u6 := ⟨beu6.os, beu6.tape, beu6.output, beu6.size, beu6.block⟩
    have zu6 : u5.heap.size ≤ u6.heap.size := yu6.size
    have bu6 : Below w.heap.size w u6 := bu5.trans (yu6.mono bu5.size)
    have HX0u6 := Lib.hid (HX0u5.out.below yu6 (by omega))
    clear HX0u5
    have HX0bu6 := Lib.hid (HX0bu5.out.below yu6 (by omega))
    clear HX0bu5
    have Hau6 := Lib.hid (Hau5.out.next yu6)
    clear Hau5
    have Hxu6 := Lib.hid (Hx0.out.next yu6)
    clear Hx0
    clear yu6 beu6
    clear bu5
    have KK : Hid (∀ V, Below u6.heap.size u6 V → V.cell? ⟨w.heap.size, 0, none⟩ = some (.slice a0 len0 cap0) ∧ V.cell? ⟨w.heap.size, 1, none⟩ = some (.slice aa0 lenb0 capb0) ∧ V.cell? ⟨u4.heap.size, 0, none⟩ = some (.slice AX0 len0 cX0) ∧ V.cell? ⟨u4.heap.size, 1, none⟩ = some (.slice DX0 lenb0 dX0)) := fun V hV => ⟨(Hau6.out.next hV).c0, (Hau6.out.next hV).c1, (Hxu6.out.next hV).c0, (Hxu6.out.next hV).c1⟩
    have C1 := fun V (hV : Below u6.heap.size u6 V) => toTableau_any a0 aa0 len0 cap0 lenb0 capb0 w.heap.size z0 zb0 V HL0.out HLb0.out (by omega) (by omega) (by omega) (by have := bu6.size; have := hV.size; omega) (row0.below (bu6.trans (hV.mono bu6.size)) (Nat.le_refl _)) (rowb0.below (bu6.trans (hV.mono bu6.size)) (Nat.le_refl _))
    have C2 := fun V (hV : Below u6.heap.size u6 V) AY cY vsY DY dY lo mid hi (oY : OwnMat V lo mid (.slice AY len0 cY) len0 z0 vsY) (qY : OwnR V mid hi 2 (.slice DY lenb0 dY) lenb0 (ints zb0)) (hm : mid ≤ hi) (hh : hi ≤ V.heap.size) => eqTableau_same AX0 AY DX0 DY len0 cX0 cY lenb0 dX0 dY u6.heap.size V.heap.size u6.heap.size V.heap.size z0 zb0 V HL0.out HLb0.out (by omega) (by omega) hV.size (Nat.le_refl _) hV.size (Nat.le_refl _) ((HX0u6.out.mat.more (by omega)).below hV (Nat.le_refl _)) (oY.mat.more (by omega)) ((HX0bu6.out.row.more (by omega)).below hV (Nat.le_refl _)) (qY.row.more (by omega))
    go_wp2_with fail
    go_region_held3 (fun V => V.cell? ⟨w.heap.size, 0, none⟩ = some (.slice a0 len0 cap0) ∧ V.cell? ⟨w.heap.size, 1, none⟩ = some (.slice aa0 lenb0 capb0) ∧ V.cell? ⟨u4.heap.size, 0, none⟩ = some (.slice AX0 len0 cX0) ∧ V.cell? ⟨u4.heap.size, 1, none⟩ = some (.slice DX0 lenb0 dX0)) (first | exact KK.out _ (Below.refl _ _) | exact KK.out _ (Below.refl _ _).drew | exact KK.out _ (below_drewN (Below.refl _ _) _) | exact KK.out _ (below_drewN (Below.refl _ _) _).drew | exact KK.out _ (below_undrawn (w := u6) (a := _) beu7) | exact KK.out _ beu7 | exact KK.out _ ((below_undrawn (w := u6) (a := _) beu7).trans (beu8.mono (below_undrawn (w := u6) (a := _) beu7).size)))
      (first
        | (go_at_call 12; refine (C1 _ (by first | exact Below.refl _ _ | exact (Below.refl _ _).drew | exact below_drewN (Below.refl _ _) _ | exact (below_drewN (Below.refl _ _) _).drew)).mono ?_; clear C1; rintro e u7 ⟨AY, cY, vsY, DY, dY, midY, rfl, laY, lbY, oY, qY, beu7⟩)
        | (go_at_call 14; refine (C2 _ (below_undrawn (w := u6) (a := _) beu7) AY cY vsY DY dY _ midY _ oY qY (by exact lbY) (by exact Nat.le_refl _)).mono ?_; clear C2; rintro e u8 ⟨rfl, beu8⟩))
    have bfu8 := (below_undrawn (w := u6) (a := _) beu7).trans (beu8.mono (below_undrawn (w := u6) (a := _) beu7).size)
    clear oY qY laY lbY KK beu7 beu8
    have yu8 : Below u6.heap.size u6 u8 := ⟨bfu8.os, bfu8.tape, bfu8.output, bfu8.size, bfu8.block⟩
    have zu8 : u6.heap.size ≤ u8.heap.size := yu8.size
    have bu8 : Below w.heap.size w u8 := bu6.trans (yu8.mono bu6.size)
    have HX0u8 := Lib.hid (HX0u6.out.below yu8 (by omega))
    clear HX0u6
    have HX0bu8 := Lib.hid (HX0bu6.out.below yu8 (by omega))
    clear HX0bu6
    have Hau8 := Lib.hid (Hau6.out.next yu8)
    clear Hau6
    have Hxu8 := Lib.hid (Hxu6.out.next yu8)
    clear Hxu6
    clear yu8 bfu8
    clear bu6
    go_wp2
    go_ret
    exact ⟨rfl, bu8⟩
  · have S0 := Lib.hid (szR_neg (left := 1048576) (used := len0 + total z0 + lenb0) (by omega))
    go_enter Try.func5, Try.ntmps5
    go_wp2_with fail
    rw [← hW]
    refine (szTableau_any _ _ len0 _ w.heap.size lenb0 _ z0 _ W HL0.out (by omega) (by omega) (by omega) (row0.below b0 (Nat.le_refl _)) (by omega) (by omega)).mono ?_
    rintro e w' ⟨rfl, be⟩
    rw [S0.out]
    have BE := Lib.hid (b0.trans (be.mono b0.size))
    clear be hW
    go_wp2
    go_ret
    exact ⟨rfl, BE.out⟩
/-- the statement -/
theorem holds : Rows.FnExactIsSymmetricSaid := of_walk walk
end Go.Proofs.Ytnnihdkhblbdgaa.fnExactIsSymmetric
