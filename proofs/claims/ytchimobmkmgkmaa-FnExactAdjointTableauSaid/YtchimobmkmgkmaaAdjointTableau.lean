/-
  PROVED: for all arguments the law FnExactAdjointTableau returns true: AdjointTableau answers as its model, leaves its arguments alone, and its result owns its memory.
  CONDITIONS: none; every argument that the types hold.
-/
import Derived.Test.YtchimobmkmgkmaaTqD
import Derived.Test.YtchimobmkmgkmaaFFnExactAdjointTableau
namespace Go.Proofs.Ytchimobmkmgkmaa.fnExactAdjointTableau
open Go.ChangeShapes Go.WideShapes Go.ChangeAt Go.RowKit Fld
set_option linter.unusedVariables false

set_option maxRecDepth 100000 in
set_option maxHeartbeats 4000000 in
theorem walk (w : World) (a0 : Option Addr) (len0 cap0 : Nat) (z0 : List (List Int)) (w0 : IsMat w a0 len0 cap0 z0) (aa0 : Option Addr) (lenb0 capb0 : Nat) (zb0 : List Int) (wb0 : IsRow .i64 w aa0 lenb0 capb0 zb0) : Calls Try.prog 7 #[.agg #[.slice a0 len0 cap0, .slice aa0 lenb0 capb0]] w fun e w' => e = .returned (.bool true) ∧ Below w.heap.size w w' := by
  obtain ⟨hl0, hlc0, hcm0, row0, _⟩ := w0
  have HL0 := Lib.hid hl0
  clear hl0
  unfold maxLen at hcm0
  obtain ⟨hlb0, hlcb0, hcmb0, rowb0, _⟩ := wb0
  have HLb0 := Lib.hid hlb0
  clear hlb0
  unfold maxLen at hcmb0
  obtain ⟨W, hW⟩ : ∃ W, W = w.alloc (.cells #[.slice a0 len0 cap0, .slice aa0 lenb0 capb0] 25) := ⟨_, rfl⟩
  have b0 : Below w.heap.size w W := by rw [hW]; exact (Below.refl _ _).alloc (Nat.le_refl _) _
  have zW := b0.size
  have Ha := Lib.hid (show Bx W w.heap.size 25 (.slice a0 len0 cap0) (.slice aa0 lenb0 capb0) by rw [hW]; exact Bx.new _ _ _ _)
  have zA : w.heap.size < W.heap.size := Ha.out.lt
  by_cases hf0 : len0 + total z0 + lenb0 ≤ 1048576
  · have S0 := Lib.hid (szR_pos (left := 1048576) (used := len0 + total z0 + lenb0) (by omega))
    go_enter Try.func7, Try.ntmps7
    go_wp2_with fail
    rw [← hW]
    refine (szTableau_any _ _ len0 _ w.heap.size lenb0 _ z0 _ W HL0.out (by omega) (by omega) (by omega) (row0.below b0 (Nat.le_refl _)) (by omega) (by omega)).mono ?_
    rintro e u1 ⟨rfl, beu1⟩
    rw [S0.out]
    clear hW
    have yu1 : Below W.heap.size W u1 := ⟨beu1.os, beu1.tape, beu1.output, beu1.size, beu1.block⟩
    have zu1 : W.heap.size ≤ u1.heap.size := yu1.size
    have bu1 : Below w.heap.size w u1 := b0.trans (yu1.mono b0.size)
    have Hau1 := Lib.hid (Ha.out.next yu1)
    clear Ha
    clear yu1 beu1
    have q0 := Hau1.out.c0
    have q1 := Hau1.out.c1
    go_wp2_with fail
    clear q0 q1
    refine (toTableau_any _ _ len0 _ lenb0 _ w.heap.size z0 zb0 _ HL0.out HLb0.out (by omega) (by omega) (by omega) (by exact bu1.size) (by exact row0.below bu1 (Nat.le_refl _)) (by exact rowb0.below bu1 (Nat.le_refl _))).mono ?_
    rintro e u2 ⟨AC0, cC0, vsC0, DC0, dC0, midC0, rfl, laC0, lbC0, oC0, qC0, beu2⟩
    have HC0 := Lib.hid (show OwnMat u2 u1.heap.size midC0 (.slice AC0 len0 cC0) len0 z0 vsC0 from oC0)
    have HC0b := Lib.hid (show OwnR u2 midC0 u2.heap.size 2 (.slice DC0 lenb0 dC0) lenb0 (ints zb0) from qC0)
    clear oC0 qC0
    have yu2 : Below u1.heap.size u1 u2 := ⟨beu2.os, beu2.tape, beu2.output, beu2.size, beu2.block⟩
    have zu2 : u1.heap.size ≤ u2.heap.size := yu2.size
    have bu2 : Below w.heap.size w u2 := bu1.trans (yu2.mono bu1.size)
    have Hau2 := Lib.hid (Hau1.out.next yu2)
    clear Hau1
    clear yu2 beu2
    clear bu1
    go_wp2_with fail
    refine (sAdjointTableau_L (A := _) (D := _) (c := _) (d := _) (w := _) (n := len0) (n' := lenb0) (B := u2.heap.size) (B' := u2.heap.size) (m := z0) (b := zb0) (hl := HL0.out) (hl' := HLb0.out) (hn := by omega) (hn' := by omega) (hB := Nat.le_refl _) (hB' := Nat.le_refl _) (h := by exact (HC0.out.mat).more (by omega)) (r := by exact (HC0b.out.row).more (by omega))).mono ?_
    rintro e u3 ⟨⟨saW, sbW, scW⟩, AW, cW, DW, dW, rfl, oW, qW, beu3⟩
    have HW := Lib.hid (show LowT u3 u3.heap.size AW (adjTA z0 zb0).1.1 DW (adjTA z0 zb0).1.2 from ⟨oW, qW⟩)
    clear oW qW
    have yu3 : Below u2.heap.size u2 u3 := ⟨beu3.os, beu3.tape, beu3.output, beu3.size, beu3.block⟩
    have zu3 : u2.heap.size ≤ u3.heap.size := yu3.size
    have bu3 : Below w.heap.size w u3 := bu2.trans (yu3.mono bu2.size)
    have HC0u3 := Lib.hid (HC0.out.below yu3 (by omega))
    clear HC0
    have HC0bu3 := Lib.hid (HC0b.out.below yu3 (by omega))
    clear HC0b
    have Hau3 := Lib.hid (Hau2.out.next yu3)
    clear Hau2
    clear yu3 beu3
    clear bu2
    obtain ⟨u4, hu4⟩ : ∃ V, V = u3.alloc (.cells #[.slice AW (adjTA z0 zb0).1.1.length cW, .slice DW (adjTA z0 zb0).1.2.length dW] 27) := ⟨_, rfl⟩
    have beu4 : Below u3.heap.size u3 u4 := by rw [hu4]; exact (Below.refl _ _).alloc (Nat.le_refl _) _
    have Hxwu4 := Lib.hid (show Bx u4 u3.heap.size 27 (.slice AW (adjTA z0 zb0).1.1.length cW) (.slice DW (adjTA z0 zb0).1.2.length dW) by rw [hu4]; exact Bx.new _ _ _ _)
    have zxw : u3.heap.size < u4.heap.size := Hxwu4.out.lt
    clear HC0u3
    clear HC0bu3
    have q0 : (u3.alloc (.cells #[.slice AW (adjTA z0 zb0).1.1.length cW, .slice DW (adjTA z0 zb0).1.2.length dW] 27)).cell? ⟨w.heap.size, 0, none⟩ = some (.slice a0 len0 cap0) := by rw [← hu4]; exact (Hau3.out.next beu4).c0
    have q1 : (u3.alloc (.cells #[.slice AW (adjTA z0 zb0).1.1.length cW, .slice DW (adjTA z0 zb0).1.2.length dW] 27)).cell? ⟨w.heap.size, 1, none⟩ = some (.slice aa0 lenb0 capb0) := by rw [← hu4]; exact (Hau3.out.next beu4).c1
    go_wp2_with fail
    clear q0 q1
    rw [← hu4]
    clear hu4
    have yu4 : Below u3.heap.size u3 u4 := ⟨beu4.os, beu4.tape, beu4.output, beu4.size, beu4.block⟩
    have zu4 : u3.heap.size ≤ u4.heap.size := yu4.size
    have bu4 : Below w.heap.size w u4 := bu3.trans (yu4.mono bu3.size)
    have HWu4 := Lib.hid (HW.out.below yu4 (by omega))
    clear HW
    have Hau4 := Lib.hid (Hau3.out.next yu4)
    clear Hau3
    clear yu4 beu4
    clear bu3
    refine (toTableau_any _ _ len0 _ lenb0 _ w.heap.size z0 zb0 _ HL0.out HLb0.out (by omega) (by omega) (by omega) (by exact bu4.size) (by exact row0.below bu4 (Nat.le_refl _)) (by exact rowb0.below bu4 (Nat.le_refl _))).mono ?_
    rintro e u5 ⟨AX0, cX0, vsX0, DX0, dX0, midX0, rfl, laX0, lbX0, oX0, qX0, beu5⟩
    have HX0 := Lib.hid (show OwnMat u5 u4.heap.size midX0 (.slice AX0 len0 cX0) len0 z0 vsX0 from oX0)
    have HX0b := Lib.hid (show OwnR u5 midX0 u5.heap.size 2 (.slice DX0 lenb0 dX0) lenb0 (ints zb0) from qX0)
    clear oX0 qX0
    have yu5 : Below u4.heap.size u4 u5 := ⟨beu5.os, beu5.tape, beu5.output, beu5.size, beu5.block⟩
    have zu5 : u4.heap.size ≤ u5.heap.size := yu5.size
    have bu5 : Below w.heap.size w u5 := bu4.trans (yu5.mono bu4.size)
    have HWu5 := Lib.hid (HWu4.out.below yu5 (by omega))
    clear HWu4
    have Hau5 := Lib.hid (Hau4.out.next yu5)
    clear Hau4
    have Hwu5 := Lib.hid (Hxwu4.out.next yu5)
    clear Hxwu4
    clear yu5 beu5
    clear bu4
    obtain ⟨u6, hu6⟩ : ∃ V, V = u5.alloc (.cells #[.slice AX0 len0 cX0, .slice DX0 lenb0 dX0] 27) := ⟨_, rfl⟩
    have beu6 : Below u5.heap.size u5 u6 := by rw [hu6]; exact (Below.refl _ _).alloc (Nat.le_refl _) _
    have Hxxu6 := Lib.hid (show Bx u6 u5.heap.size 27 (.slice AX0 len0 cX0) (.slice DX0 lenb0 dX0) by rw [hu6]; exact Bx.new _ _ _ _)
    have zxx : u5.heap.size < u6.heap.size := Hxxu6.out.lt
    go_wp2_with fail
    rw [← hu6]
    clear hu6
    have yu6 : Below u5.heap.size u5 u6 := ⟨beu6.os, beu6.tape, beu6.output, beu6.size, beu6.block⟩
    have zu6 : u5.heap.size ≤ u6.heap.size := yu6.size
    have bu6 : Below w.heap.size w u6 := bu5.trans (yu6.mono bu5.size)
    have HWu6 := Lib.hid (HWu5.out.below yu6 (by omega))
    clear HWu5
    have HX0u6 := Lib.hid (HX0.out.below yu6 (by omega))
    clear HX0
    have HX0bu6 := Lib.hid (HX0b.out.below yu6 (by omega))
    clear HX0b
    have Hau6 := Lib.hid (Hau5.out.next yu6)
    clear Hau5
    have Hwu6 := Lib.hid (Hwu5.out.next yu6)
    clear Hwu5
    clear yu6 beu6
    clear bu5
    refine (pAdjointTableau_L (A := _) (D := _) (c := _) (d := _) (w := _) (n := len0) (n' := lenb0) (B := u6.heap.size) (B' := u6.heap.size) (m := z0) (b := zb0) (hl := HL0.out) (hl' := HLb0.out) (hn := by omega) (hn' := by omega) (hB := Nat.le_refl _) (hB' := Nat.le_refl _) (h := by exact (HX0u6.out.mat).more (by omega)) (r := by exact (HX0bu6.out.row).more (by omega))).mono ?_
    rintro e u7 ⟨⟨saG, sbG, scG⟩, AG, cG, vsG, DG, dG, midG, rfl, laG, lbG, oG, qG, beu7⟩
    have HG := Lib.hid (show OwnMat u7 u6.heap.size midG (.slice AG (adjTA z0 zb0).1.1.length cG) (adjTA z0 zb0).1.1.length (adjTA z0 zb0).1.1 vsG from oG)
    have HGb := Lib.hid (show OwnR u7 midG u7.heap.size 2 (.slice DG (adjTA z0 zb0).1.2.length dG) (adjTA z0 zb0).1.2.length (ints (adjTA z0 zb0).1.2) from qG)
    clear oG qG
    have yu7 : Below u6.heap.size u6 u7 := ⟨beu7.os, beu7.tape, beu7.output, beu7.size, beu7.block⟩
    have zu7 : u6.heap.size ≤ u7.heap.size := yu7.size
    have bu7 : Below w.heap.size w u7 := bu6.trans (yu7.mono bu6.size)
    have HWu7 := Lib.hid (HWu6.out.below yu7 (by omega))
    clear HWu6
    have HX0u7 := Lib.hid (HX0u6.out.below yu7 (by omega))
    clear HX0u6
    have HX0bu7 := Lib.hid (HX0bu6.out.below yu7 (by omega))
    clear HX0bu6
    have Hau7 := Lib.hid (Hau6.out.next yu7)
    clear Hau6
    have Hwu7 := Lib.hid (Hwu6.out.next yu7)
    clear Hwu6
    have Hxu7 := Lib.hid (Hxxu6.out.next yu7)
    clear Hxxu6
    clear yu7 beu7
    clear bu6
    obtain ⟨u8, hu8⟩ : ∃ V, V = u7.alloc (.cells #[.slice AG (adjTA z0 zb0).1.1.length cG, .slice DG (adjTA z0 zb0).1.2.length dG] 27) := ⟨_, rfl⟩
    have beu8 : Below u7.heap.size u7 u8 := by rw [hu8]; exact (Below.refl _ _).alloc (Nat.le_refl _) _
    have Hxgu8 := Lib.hid (show Bx u8 u7.heap.size 27 (.slice AG (adjTA z0 zb0).1.1.length cG) (.slice DG (adjTA z0 zb0).1.2.length dG) by rw [hu8]; exact Bx.new _ _ _ _)
    have zxg : u7.heap.size < u8.heap.size := Hxgu8.out.lt
    have q2 : (u7.alloc (.cells #[.slice AG (adjTA z0 zb0).1.1.length cG, .slice DG (adjTA z0 zb0).1.2.length dG] 27)).cell? ⟨u3.heap.size, 0, none⟩ = some (.slice AW (adjTA z0 zb0).1.1.length cW) := by rw [← hu8]; exact (Hwu7.out.next beu8).c0
    have q3 : (u7.alloc (.cells #[.slice AG (adjTA z0 zb0).1.1.length cG, .slice DG (adjTA z0 zb0).1.2.length dG] 27)).cell? ⟨u3.heap.size, 1, none⟩ = some (.slice DW (adjTA z0 zb0).1.2.length dW) := by rw [← hu8]; exact (Hwu7.out.next beu8).c1
    go_wp2_with fail
    clear q2 q3
    rw [← hu8]
    clear hu8
    have yu8 : Below u7.heap.size u7 u8 := ⟨beu8.os, beu8.tape, beu8.output, beu8.size, beu8.block⟩
    have zu8 : u7.heap.size ≤ u8.heap.size := yu8.size
    have bu8 : Below w.heap.size w u8 := bu7.trans (yu8.mono bu7.size)
    have HWu8 := Lib.hid (HWu7.out.below yu8 (by omega))
    clear HWu7
    have HX0u8 := Lib.hid (HX0u7.out.below yu8 (by omega))
    clear HX0u7
    have HX0bu8 := Lib.hid (HX0bu7.out.below yu8 (by omega))
    clear HX0bu7
    have HGu8 := Lib.hid (HG.out.below yu8 (by omega))
    clear HG
    have HGbu8 := Lib.hid (HGb.out.below yu8 (by omega))
    clear HGb
    have Hau8 := Lib.hid (Hau7.out.next yu8)
    clear Hau7
    have Hwu8 := Lib.hid (Hwu7.out.next yu8)
    clear Hwu7
    have Hxu8 := Lib.hid (Hxu7.out.next yu8)
    clear Hxu7
    clear yu8 beu8
    clear bu7
    refine (eqTableau_same _ _ _ _ (adjTA z0 zb0).1.1.length _ _ (adjTA z0 zb0).1.2.length _ _ midG u3.heap.size u7.heap.size u3.heap.size (adjTA z0 zb0).1.1 (adjTA z0 zb0).1.2 _ rfl rfl (by omega) (by omega) (by omega) (by omega) (by omega) (by omega) (by exact HGu8.out.mat) (by exact HWu8.out.mat) (by exact HGbu8.out.row) (by exact HWu8.out.row)).mono ?_
    rintro e u9 ⟨rfl, beu9⟩
    have yu9 : Below u8.heap.size u8 u9 := ⟨beu9.os, beu9.tape, beu9.output, beu9.size, beu9.block⟩
    have zu9 : u8.heap.size ≤ u9.heap.size := yu9.size
    have bu9 : Below w.heap.size w u9 := bu8.trans (yu9.mono bu8.size)
    have HWu9 := Lib.hid (HWu8.out.below yu9 (by omega))
    clear HWu8
    have HX0u9 := Lib.hid (HX0u8.out.below yu9 (by omega))
    clear HX0u8
    have HX0bu9 := Lib.hid (HX0bu8.out.below yu9 (by omega))
    clear HX0bu8
    have HGu9 := Lib.hid (HGu8.out.below yu9 (by omega))
    clear HGu8
    have HGbu9 := Lib.hid (HGbu8.out.below yu9 (by omega))
    clear HGbu8
    have Hau9 := Lib.hid (Hau8.out.next yu9)
    clear Hau8
    have Hwu9 := Lib.hid (Hwu8.out.next yu9)
    clear Hwu8
    have Hxu9 := Lib.hid (Hxu8.out.next yu9)
    clear Hxu8
    have Hgu9 := Lib.hid (Hxgu8.out.next yu9)
    clear Hxgu8
    clear yu9 beu9
    clear bu8
    have KK : Hid (∀ V, Below u9.heap.size u9 V → V.cell? ⟨w.heap.size, 0, none⟩ = some (.slice a0 len0 cap0) ∧ V.cell? ⟨w.heap.size, 1, none⟩ = some (.slice aa0 lenb0 capb0) ∧ V.cell? ⟨u5.heap.size, 0, none⟩ = some (.slice AX0 len0 cX0) ∧ V.cell? ⟨u5.heap.size, 1, none⟩ = some (.slice DX0 lenb0 dX0)) := fun V hV => ⟨(Hau9.out.next hV).c0, (Hau9.out.next hV).c1, (Hxu9.out.next hV).c0, (Hxu9.out.next hV).c1⟩
    have C1 := fun V (hV : Below u9.heap.size u9 V) => toTableau_any a0 aa0 len0 cap0 lenb0 capb0 w.heap.size z0 zb0 V HL0.out HLb0.out (by omega) (by omega) (by omega) (by have := bu9.size; have := hV.size; omega) (row0.below (bu9.trans (hV.mono bu9.size)) (Nat.le_refl _)) (rowb0.below (bu9.trans (hV.mono bu9.size)) (Nat.le_refl _))
    have C2 := fun V (hV : Below u9.heap.size u9 V) AY cY vsY DY dY lo mid hi (oY : OwnMat V lo mid (.slice AY len0 cY) len0 z0 vsY) (qY : OwnR V mid hi 2 (.slice DY lenb0 dY) lenb0 (ints zb0)) (hm : mid ≤ hi) (hh : hi ≤ V.heap.size) => eqTableau_same AX0 AY DX0 DY len0 cX0 cY lenb0 dX0 dY u9.heap.size V.heap.size u9.heap.size V.heap.size z0 zb0 V HL0.out HLb0.out (by omega) (by omega) hV.size (Nat.le_refl _) hV.size (Nat.le_refl _) ((HX0u9.out.mat.more (by omega)).below hV (Nat.le_refl _)) (oY.mat.more (by omega)) ((HX0bu9.out.row.more (by omega)).below hV (Nat.le_refl _)) (qY.row.more (by omega))
    go_wp2_with fail
    go_region_held3 (fun V => V.cell? ⟨w.heap.size, 0, none⟩ = some (.slice a0 len0 cap0) ∧ V.cell? ⟨w.heap.size, 1, none⟩ = some (.slice aa0 lenb0 capb0) ∧ V.cell? ⟨u5.heap.size, 0, none⟩ = some (.slice AX0 len0 cX0) ∧ V.cell? ⟨u5.heap.size, 1, none⟩ = some (.slice DX0 lenb0 dX0)) (first | exact KK.out _ (Below.refl _ _) | exact KK.out _ (Below.refl _ _).drew | exact KK.out _ (below_drewN (Below.refl _ _) _) | exact KK.out _ (below_drewN (Below.refl _ _) _).drew | exact KK.out _ (below_undrawn (w := u9) (a := _) beu10) | exact KK.out _ beu10 | exact KK.out _ ((below_undrawn (w := u9) (a := _) beu10).trans (beu11.mono (below_undrawn (w := u9) (a := _) beu10).size)))
      (first
        | (go_at_call 18; refine (C1 _ (by first | exact Below.refl _ _ | exact (Below.refl _ _).drew | exact below_drewN (Below.refl _ _) _ | exact (below_drewN (Below.refl _ _) _).drew)).mono ?_; clear C1; rintro e u10 ⟨AY, cY, vsY, DY, dY, midY, rfl, laY, lbY, oY, qY, beu10⟩)
        | (go_at_call 20; refine (C2 _ (below_undrawn (w := u9) (a := _) beu10) AY cY vsY DY dY _ midY _ oY qY (by exact lbY) (by exact Nat.le_refl _)).mono ?_; clear C2; rintro e u11 ⟨rfl, beu11⟩))
    have bfu11 := (below_undrawn (w := u9) (a := _) beu10).trans (beu11.mono (below_undrawn (w := u9) (a := _) beu10).size)
    clear oY qY laY lbY KK beu10 beu11
    have yu11 : Below u9.heap.size u9 u11 := ⟨bfu11.os, bfu11.tape, bfu11.output, bfu11.size, bfu11.block⟩
    have zu11 : u9.heap.size ≤ u11.heap.size := yu11.size
    have bu11 : Below w.heap.size w u11 := bu9.trans (yu11.mono bu9.size)
    have HWu11 := Lib.hid (HWu9.out.below yu11 (by omega))
    clear HWu9
    have HX0u11 := Lib.hid (HX0u9.out.below yu11 (by omega))
    clear HX0u9
    have HX0bu11 := Lib.hid (HX0bu9.out.below yu11 (by omega))
    clear HX0bu9
    have HGu11 := Lib.hid (HGu9.out.below yu11 (by omega))
    clear HGu9
    have HGbu11 := Lib.hid (HGbu9.out.below yu11 (by omega))
    clear HGbu9
    have Hau11 := Lib.hid (Hau9.out.next yu11)
    clear Hau9
    have Hwu11 := Lib.hid (Hwu9.out.next yu11)
    clear Hwu9
    have Hxu11 := Lib.hid (Hxu9.out.next yu11)
    clear Hxu9
    have Hgu11 := Lib.hid (Hgu9.out.next yu11)
    clear Hgu9
    clear yu11 bfu11
    clear bu9
    have q0 := Hxu11.out.c0
    have q1 := Hxu11.out.c1
    go_wp2_with fail
    clear q0 q1
    refine (markTableau_any _ _ len0 _ lenb0 _ u4.heap.size midX0 u5.heap.size z0 vsX0 zb0 1 _ HLb0.out (by omega) (by omega) (by omega) (by omega) (by omega) (by omega) (by omega) (by show u5.heap.size ≤ u11.heap.size; omega) (by exact HX0u11.out) (by exact HX0bu11.out)).mono ?_
    rintro e u12 ⟨rfl, ou12, qu12, wiu12⟩
    clear ou12 qu12
    have yu12 : Within u4.heap.size u5.heap.size u11 u12 := ⟨wiu12.os, wiu12.tape, wiu12.output, wiu12.size, wiu12.block⟩
    have zu12 : u11.heap.size ≤ u12.heap.size := yu12.size
    have bu12 : Below w.heap.size w u12 := Below.then bu11 yu12 (by omega) (by omega)
    clear HX0u11
    clear HX0bu11
    have Hau12 := Lib.hid (Hau11.out.within yu12 (by omega))
    clear Hau11
    have Hwu12 := Lib.hid (Hwu11.out.within yu12 (by omega))
    clear Hwu11
    have Hgu12 := Lib.hid (Hgu11.out.within yu12 (by omega))
    clear Hgu11
    have HWu12 := Lib.hid (HWu11.out.within yu12 (by omega) (by omega))
    clear HWu11
    have HGu12 := Lib.hid (HGu11.out.within yu12 (by omega) (by omega))
    clear HGu11
    have HGbu12 := Lib.hid (HGbu11.out.within yu12 (by omega) (by omega))
    clear HGbu11
    clear yu12 wiu12 bu11
    have q0 := Hgu12.out.c0
    have q1 := Hgu12.out.c1
    have q2 := Hwu12.out.c0
    have q3 := Hwu12.out.c1
    go_wp2_with fail
    clear q0 q1 q2 q3
    refine (eqTableau_same _ _ _ _ (adjTA z0 zb0).1.1.length _ _ (adjTA z0 zb0).1.2.length _ _ midG u3.heap.size u7.heap.size u3.heap.size (adjTA z0 zb0).1.1 (adjTA z0 zb0).1.2 _ rfl rfl (by omega) (by omega) (by omega) (by omega) (by omega) (by omega) (by exact HGu12.out.mat) (by exact HWu12.out.mat) (by exact HGbu12.out.row) (by exact HWu12.out.row)).mono ?_
    rintro e u13 ⟨rfl, beu13⟩
    have yu13 : Below u12.heap.size u12 u13 := ⟨beu13.os, beu13.tape, beu13.output, beu13.size, beu13.block⟩
    have zu13 : u12.heap.size ≤ u13.heap.size := yu13.size
    have bu13 : Below w.heap.size w u13 := bu12.trans (yu13.mono bu12.size)
    have HWu13 := Lib.hid (HWu12.out.below yu13 (by omega))
    clear HWu12
    have HGu13 := Lib.hid (HGu12.out.below yu13 (by omega))
    clear HGu12
    have HGbu13 := Lib.hid (HGbu12.out.below yu13 (by omega))
    clear HGbu12
    have Hau13 := Lib.hid (Hau12.out.next yu13)
    clear Hau12
    have Hwu13 := Lib.hid (Hwu12.out.next yu13)
    clear Hwu12
    have Hgu13 := Lib.hid (Hgu12.out.next yu13)
    clear Hgu12
    clear yu13 beu13
    clear bu12
    have q0 := Hgu13.out.c0
    have q1 := Hgu13.out.c1
    go_wp2_with fail
    clear q0 q1
    refine (markTableau_any _ _ (adjTA z0 zb0).1.1.length _ (adjTA z0 zb0).1.2.length _ u6.heap.size midG u7.heap.size (adjTA z0 zb0).1.1 vsG (adjTA z0 zb0).1.2 1 _ rfl (by omega) (by omega) (by omega) (by omega) (by omega) (by omega) (by omega) (by show u7.heap.size ≤ u13.heap.size; omega) (by exact HGu13.out) (by exact HGbu13.out)).mono ?_
    rintro e u14 ⟨rfl, ou14, qu14, wiu14⟩
    have yu14 : Within u6.heap.size u7.heap.size u13 u14 := ⟨wiu14.os, wiu14.tape, wiu14.output, wiu14.size, wiu14.block⟩
    have zu14 : u13.heap.size ≤ u14.heap.size := yu14.size
    have bu14 : Below w.heap.size w u14 := Below.then bu13 yu14 (by omega) (by omega)
    have HGu14 := Lib.hid ou14
    have HGbu14 := Lib.hid qu14
    clear ou14 qu14 HGu13 HGbu13
    have Hau14 := Lib.hid (Hau13.out.within yu14 (by omega))
    clear Hau13
    have Hwu14 := Lib.hid (Hwu13.out.within yu14 (by omega))
    clear Hwu13
    have Hgu14 := Lib.hid (Hgu13.out.within yu14 (by omega))
    clear Hgu13
    have HWu14 := Lib.hid (HWu13.out.within yu14 (by omega) (by omega))
    clear HWu13
    clear yu14 wiu14 bu13
    have q0 := Hgu14.out.c0
    have q1 := Hgu14.out.c1
    go_wp2_with fail
    clear q0 q1
    refine (heldTableau_any _ _ (adjTA z0 zb0).1.1.length _ (adjTA z0 zb0).1.2.length _ midG u7.heap.size (adjTA z0 zb0).1.1 1 _ rfl (by omega) (by omega) (by omega) (by omega) (by omega) (by omega) (by omega) (by exact HGu14.out.mat) (by exact HGbu14.out.row)).mono ?_
    rintro e u15 ⟨rfl, beu15⟩
    have yu15 : Below u14.heap.size u14 u15 := ⟨beu15.os, beu15.tape, beu15.output, beu15.size, beu15.block⟩
    have zu15 : u14.heap.size ≤ u15.heap.size := yu15.size
    have bu15 : Below w.heap.size w u15 := bu14.trans (yu15.mono bu14.size)
    have HWu15 := Lib.hid (HWu14.out.below yu15 (by omega))
    clear HWu14
    have HGu15 := Lib.hid (HGu14.out.below yu15 (by omega))
    clear HGu14
    have HGbu15 := Lib.hid (HGbu14.out.below yu15 (by omega))
    clear HGbu14
    have Hau15 := Lib.hid (Hau14.out.next yu15)
    clear Hau14
    have Hwu15 := Lib.hid (Hwu14.out.next yu15)
    clear Hwu14
    have Hgu15 := Lib.hid (Hgu14.out.next yu15)
    clear Hgu14
    clear yu15 beu15
    clear bu14
    have q0 := Hau15.out.c0
    have q1 := Hau15.out.c1
    go_wp2_with fail
    clear q0 q1
    refine (toTableau_any _ _ len0 _ lenb0 _ w.heap.size z0 zb0 _ HL0.out HLb0.out (by omega) (by omega) (by omega) (by exact bu15.size) (by exact row0.below bu15 (Nat.le_refl _)) (by exact rowb0.below bu15 (Nat.le_refl _))).mono ?_
    rintro e u16 ⟨AP0, cP0, vsP0, DP0, dP0, midP0, rfl, laP0, lbP0, oP0, qP0, beu16⟩
    have HP0 := Lib.hid (show OwnMat u16 u15.heap.size midP0 (.slice AP0 len0 cP0) len0 z0 vsP0 from oP0)
    have HP0b := Lib.hid (show OwnR u16 midP0 u16.heap.size 2 (.slice DP0 lenb0 dP0) lenb0 (ints zb0) from qP0)
    clear oP0 qP0
    have yu16 : Below u15.heap.size u15 u16 := ⟨beu16.os, beu16.tape, beu16.output, beu16.size, beu16.block⟩
    have zu16 : u15.heap.size ≤ u16.heap.size := yu16.size
    have bu16 : Below w.heap.size w u16 := bu15.trans (yu16.mono bu15.size)
    have HWu16 := Lib.hid (HWu15.out.below yu16 (by omega))
    clear HWu15
    have HGu16 := Lib.hid (HGu15.out.below yu16 (by omega))
    clear HGu15
    have HGbu16 := Lib.hid (HGbu15.out.below yu16 (by omega))
    clear HGbu15
    have Hau16 := Lib.hid (Hau15.out.next yu16)
    clear Hau15
    have Hwu16 := Lib.hid (Hwu15.out.next yu16)
    clear Hwu15
    have Hgu16 := Lib.hid (Hgu15.out.next yu16)
    clear Hgu15
    clear yu16 beu16
    clear bu15
    go_wp2_with fail
    refine (pAdjointTableau_L (A := _) (D := _) (c := _) (d := _) (w := _) (n := len0) (n' := lenb0) (B := u16.heap.size) (B' := u16.heap.size) (m := z0) (b := zb0) (hl := HL0.out) (hl' := HLb0.out) (hn := by omega) (hn' := by omega) (hB := Nat.le_refl _) (hB' := Nat.le_refl _) (h := by exact (HP0.out.mat).more (by omega)) (r := by exact (HP0b.out.row).more (by omega))).mono ?_
    rintro e u17 ⟨⟨saK, sbK, scK⟩, AK, cK, vsK, DK, dK, midK, rfl, laK, lbK, oK, qK, beu17⟩
    have HK := Lib.hid (show OwnMat u17 u16.heap.size midK (.slice AK (adjTA z0 zb0).1.1.length cK) (adjTA z0 zb0).1.1.length (adjTA z0 zb0).1.1 vsK from oK)
    have HKb := Lib.hid (show OwnR u17 midK u17.heap.size 2 (.slice DK (adjTA z0 zb0).1.2.length dK) (adjTA z0 zb0).1.2.length (ints (adjTA z0 zb0).1.2) from qK)
    clear oK qK
    have yu17 : Below u16.heap.size u16 u17 := ⟨beu17.os, beu17.tape, beu17.output, beu17.size, beu17.block⟩
    have zu17 : u16.heap.size ≤ u17.heap.size := yu17.size
    have bu17 : Below w.heap.size w u17 := bu16.trans (yu17.mono bu16.size)
    have HWu17 := Lib.hid (HWu16.out.below yu17 (by omega))
    clear HWu16
    have HGu17 := Lib.hid (HGu16.out.below yu17 (by omega))
    clear HGu16
    have HGbu17 := Lib.hid (HGbu16.out.below yu17 (by omega))
    clear HGbu16
    have HP0u17 := Lib.hid (HP0.out.below yu17 (by omega))
    clear HP0
    have HP0bu17 := Lib.hid (HP0b.out.below yu17 (by omega))
    clear HP0b
    have Hau17 := Lib.hid (Hau16.out.next yu17)
    clear Hau16
    have Hwu17 := Lib.hid (Hwu16.out.next yu17)
    clear Hwu16
    have Hgu17 := Lib.hid (Hgu16.out.next yu17)
    clear Hgu16
    clear yu17 beu17
    clear bu16
    obtain ⟨u18, hu18⟩ : ∃ V, V = u17.alloc (.cells #[.slice AK (adjTA z0 zb0).1.1.length cK, .slice DK (adjTA z0 zb0).1.2.length dK] 27) := ⟨_, rfl⟩
    have beu18 : Below u17.heap.size u17 u18 := by rw [hu18]; exact (Below.refl _ _).alloc (Nat.le_refl _) _
    have Hxku18 := Lib.hid (show Bx u18 u17.heap.size 27 (.slice AK (adjTA z0 zb0).1.1.length cK) (.slice DK (adjTA z0 zb0).1.2.length dK) by rw [hu18]; exact Bx.new _ _ _ _)
    have zxk : u17.heap.size < u18.heap.size := Hxku18.out.lt
    clear HP0u17
    clear HP0bu17
    have q2 : (u17.alloc (.cells #[.slice AK (adjTA z0 zb0).1.1.length cK, .slice DK (adjTA z0 zb0).1.2.length dK] 27)).cell? ⟨u3.heap.size, 0, none⟩ = some (.slice AW (adjTA z0 zb0).1.1.length cW) := by rw [← hu18]; exact (Hwu17.out.next beu18).c0
    have q3 : (u17.alloc (.cells #[.slice AK (adjTA z0 zb0).1.1.length cK, .slice DK (adjTA z0 zb0).1.2.length dK] 27)).cell? ⟨u3.heap.size, 1, none⟩ = some (.slice DW (adjTA z0 zb0).1.2.length dW) := by rw [← hu18]; exact (Hwu17.out.next beu18).c1
    go_wp2_with fail
    clear q2 q3
    rw [← hu18]
    clear hu18
    have yu18 : Below u17.heap.size u17 u18 := ⟨beu18.os, beu18.tape, beu18.output, beu18.size, beu18.block⟩
    have zu18 : u17.heap.size ≤ u18.heap.size := yu18.size
    have bu18 : Below w.heap.size w u18 := bu17.trans (yu18.mono bu17.size)
    have HWu18 := Lib.hid (HWu17.out.below yu18 (by omega))
    clear HWu17
    have HGu18 := Lib.hid (HGu17.out.below yu18 (by omega))
    clear HGu17
    have HGbu18 := Lib.hid (HGbu17.out.below yu18 (by omega))
    clear HGbu17
    have HKu18 := Lib.hid (HK.out.below yu18 (by omega))
    clear HK
    have HKbu18 := Lib.hid (HKb.out.below yu18 (by omega))
    clear HKb
    have Hau18 := Lib.hid (Hau17.out.next yu18)
    clear Hau17
    have Hwu18 := Lib.hid (Hwu17.out.next yu18)
    clear Hwu17
    have Hgu18 := Lib.hid (Hgu17.out.next yu18)
    clear Hgu17
    clear yu18 beu18
    clear bu17
    refine (eqTableau_same _ _ _ _ (adjTA z0 zb0).1.1.length _ _ (adjTA z0 zb0).1.2.length _ _ midK u3.heap.size u17.heap.size u3.heap.size (adjTA z0 zb0).1.1 (adjTA z0 zb0).1.2 _ rfl rfl (by omega) (by omega) (by omega) (by omega) (by omega) (by omega) (by exact HKu18.out.mat) (by exact HWu18.out.mat) (by exact HKbu18.out.row) (by exact HWu18.out.row)).mono ?_
    rintro e u19 ⟨rfl, beu19⟩
    have yu19 : Below u18.heap.size u18 u19 := ⟨beu19.os, beu19.tape, beu19.output, beu19.size, beu19.block⟩
    have zu19 : u18.heap.size ≤ u19.heap.size := yu19.size
    have bu19 : Below w.heap.size w u19 := bu18.trans (yu19.mono bu18.size)
    have HWu19 := Lib.hid (HWu18.out.below yu19 (by omega))
    clear HWu18
    have HGu19 := Lib.hid (HGu18.out.below yu19 (by omega))
    clear HGu18
    have HGbu19 := Lib.hid (HGbu18.out.below yu19 (by omega))
    clear HGbu18
    have HKu19 := Lib.hid (HKu18.out.below yu19 (by omega))
    clear HKu18
    have HKbu19 := Lib.hid (HKbu18.out.below yu19 (by omega))
    clear HKbu18
    have Hau19 := Lib.hid (Hau18.out.next yu19)
    clear Hau18
    have Hwu19 := Lib.hid (Hwu18.out.next yu19)
    clear Hwu18
    have Hgu19 := Lib.hid (Hgu18.out.next yu19)
    clear Hgu18
    have Hku19 := Lib.hid (Hxku18.out.next yu19)
    clear Hxku18
    clear yu19 beu19
    clear bu18
    have q0 := Hgu19.out.c0
    have q1 := Hgu19.out.c1
    go_wp2_with fail
    clear q0 q1
    refine (heldTableau_any _ _ (adjTA z0 zb0).1.1.length _ (adjTA z0 zb0).1.2.length _ midG u7.heap.size (adjTA z0 zb0).1.1 1 _ rfl (by omega) (by omega) (by omega) (by omega) (by omega) (by omega) (by omega) (by exact HGu19.out.mat) (by exact HGbu19.out.row)).mono ?_
    rintro e u20 ⟨rfl, beu20⟩
    have yu20 : Below u19.heap.size u19 u20 := ⟨beu20.os, beu20.tape, beu20.output, beu20.size, beu20.block⟩
    have zu20 : u19.heap.size ≤ u20.heap.size := yu20.size
    have bu20 : Below w.heap.size w u20 := bu19.trans (yu20.mono bu19.size)
    have HWu20 := Lib.hid (HWu19.out.below yu20 (by omega))
    clear HWu19
    have HGu20 := Lib.hid (HGu19.out.below yu20 (by omega))
    clear HGu19
    have HGbu20 := Lib.hid (HGbu19.out.below yu20 (by omega))
    clear HGbu19
    have HKu20 := Lib.hid (HKu19.out.below yu20 (by omega))
    clear HKu19
    have HKbu20 := Lib.hid (HKbu19.out.below yu20 (by omega))
    clear HKbu19
    have Hau20 := Lib.hid (Hau19.out.next yu20)
    clear Hau19
    have Hwu20 := Lib.hid (Hwu19.out.next yu20)
    clear Hwu19
    have Hgu20 := Lib.hid (Hgu19.out.next yu20)
    clear Hgu19
    have Hku20 := Lib.hid (Hku19.out.next yu20)
    clear Hku19
    clear yu20 beu20
    clear bu19
    go_wp2
    go_ret
    exact ⟨rfl, bu20⟩
  · have S0 := Lib.hid (szR_neg (left := 1048576) (used := len0 + total z0 + lenb0) (by omega))
    go_enter Try.func7, Try.ntmps7
    go_wp2_with fail
    rw [← hW]
    refine (szTableau_any _ _ len0 _ w.heap.size lenb0 _ z0 _ W HL0.out (by omega) (by omega) (by omega) (row0.below b0 (Nat.le_refl _)) (by omega) (by omega)).mono ?_
    rintro e w' ⟨rfl, be⟩
    rw [S0.out]
    have BE := Lib.hid (b0.trans (be.mono b0.size))
    clear be hW
    go_wp2
    go_ret
    exact ⟨rfl, BE.out⟩
/-- the statement -/
theorem holds : Rows.FnExactAdjointTableauSaid := of_walk walk
end Go.Proofs.Ytchimobmkmgkmaa.fnExactAdjointTableau
