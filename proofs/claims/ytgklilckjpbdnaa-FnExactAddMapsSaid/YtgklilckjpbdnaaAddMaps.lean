/-
  PROVED: for all arguments the law FnExactAddMaps returns true: AddMaps answers as its model, leaves its lists alone, and its result owns its memory.
  CONDITIONS: none; every argument that the types hold.
-/
import Derived.Test.YtgklilckjpbdnaaMpAd
import Derived.Test.YtgklilckjpbdnaaFFnExactAddMaps
namespace Go.Proofs.Ytgklilckjpbdnaa.fnExactAddMaps
open Go.ChangeShapes Go.WideShapes Go.ChangeAt Go.RowKit Fld
set_option linter.unusedVariables false

set_option maxRecDepth 100000 in
set_option maxHeartbeats 4000000 in
theorem walk (w : World) (a0 : Option Addr) (len0 cap0 : Nat) (z0 : List Int) (w0 : IsRow .i64 w a0 len0 cap0 z0) (a1 : Option Addr) (len1 cap1 : Nat) (z1 : List Int) (w1 : IsRow .i64 w a1 len1 cap1 z1) : Calls Try.prog 4 #[.slice a0 len0 cap0, .slice a1 len1 cap1] w fun e w' => e = .returned (.bool true) ∧ Below w.heap.size w w' := by
  obtain ⟨hl0, hlc0, hcm0, row0, _⟩ := w0
  have HL0 := Lib.hid hl0
  clear hl0
  unfold maxLen at hcm0
  obtain ⟨hl1, hlc1, hcm1, row1, _⟩ := w1
  have HL1 := Lib.hid hl1
  clear hl1
  unfold maxLen at hcm1
  have b0 : Below w.heap.size w w := Below.refl _ _
  by_cases hf0 : len0 ≤ 1048576
  · skip
    by_cases hf1 : len1 ≤ 1048576
    · skip
      go_enter Try.func4, Try.ntmps4
      go_wp2_with fail
      refine (toInt64S_any _ len0 _ w.heap.size z0 _ HL0.out (by omega) (by exact b0.size) (by exact row0.below b0 (Nat.le_refl _))).mono ?_
      rintro e u1 ⟨AC0, cC0, rfl, oC0, beu1⟩
      have HC0 := Lib.hid (show OwnR u1 w.heap.size u1.heap.size 2 (.slice AC0 len0 cC0) len0 (ints z0) from OwnR.of oC0)
      clear oC0
      have yu1 : Below w.heap.size w u1 := ⟨beu1.os, beu1.tape, beu1.output, beu1.size, beu1.block⟩
      have zu1 : w.heap.size ≤ u1.heap.size := yu1.size
      have bu1 : Below w.heap.size w u1 := b0.trans (yu1.mono b0.size)
      clear yu1 beu1
      go_wp2_with fail
      refine (toInt64S_any _ len1 _ w.heap.size z1 _ HL1.out (by omega) (by exact bu1.size) (by exact row1.below bu1 (Nat.le_refl _))).mono ?_
      rintro e u2 ⟨AC1, cC1, rfl, oC1, beu2⟩
      have HC1 := Lib.hid (show OwnR u2 u1.heap.size u2.heap.size 2 (.slice AC1 len1 cC1) len1 (ints z1) from OwnR.of oC1)
      clear oC1
      have yu2 : Below u1.heap.size u1 u2 := ⟨beu2.os, beu2.tape, beu2.output, beu2.size, beu2.block⟩
      have zu2 : u1.heap.size ≤ u2.heap.size := yu2.size
      have bu2 : Below w.heap.size w u2 := bu1.trans (yu2.mono bu1.size)
      have HC0u2 := Lib.hid (HC0.out.below yu2 (by omega))
      clear HC0
      clear yu2 beu2
      clear bu1
      go_wp2_with fail
      refine (sAddMaps_L _ _ len0 len1 _ _ u2.heap.size u2.heap.size z0 z1  _ HL0.out HL1.out (by omega) (by omega) (Nat.le_refl _) (Nat.le_refl _) (by exact (HC0u2.out.row).more (by omega)) (by exact (HC1.out.row).more (by omega)) ).mono ?_
      rintro e u3 ⟨sW, AW, cW, rfl, oW, beu3⟩
      have HW := Lib.hid (show OwnR u3 u2.heap.size u3.heap.size 2 (.slice AW (addMA z0 z1).1.length cW) (addMA z0 z1).1.length (ints (addMA z0 z1).1) from OwnR.of oW)
      clear oW
      have yu3 : Below u2.heap.size u2 u3 := ⟨beu3.os, beu3.tape, beu3.output, beu3.size, beu3.block⟩
      have zu3 : u2.heap.size ≤ u3.heap.size := yu3.size
      have bu3 : Below w.heap.size w u3 := bu2.trans (yu3.mono bu2.size)
      have HC0u3 := Lib.hid (HC0u2.out.below yu3 (by omega))
      clear HC0u2
      have HC1u3 := Lib.hid (HC1.out.below yu3 (by omega))
      clear HC1
      clear yu3 beu3
      clear bu2
      clear HC0u3
      clear HC1u3
      go_wp2_with fail
      refine (toInt64S_any _ len0 _ w.heap.size z0 _ HL0.out (by omega) (by exact bu3.size) (by exact row0.below bu3 (Nat.le_refl _))).mono ?_
      rintro e u4 ⟨AX0, cX0, rfl, oX0, beu4⟩
      have HX0 := Lib.hid (show OwnR u4 u3.heap.size u4.heap.size 2 (.slice AX0 len0 cX0) len0 (ints z0) from OwnR.of oX0)
      clear oX0
      have yu4 : Below u3.heap.size u3 u4 := ⟨beu4.os, beu4.tape, beu4.output, beu4.size, beu4.block⟩
      have zu4 : u3.heap.size ≤ u4.heap.size := yu4.size
      have bu4 : Below w.heap.size w u4 := bu3.trans (yu4.mono bu3.size)
      have HWu4 := Lib.hid (HW.out.below yu4 (by omega))
      clear HW
      clear yu4 beu4
      clear bu3
      go_wp2_with fail
      refine (toInt64S_any _ len1 _ w.heap.size z1 _ HL1.out (by omega) (by exact bu4.size) (by exact row1.below bu4 (Nat.le_refl _))).mono ?_
      rintro e u5 ⟨AX1, cX1, rfl, oX1, beu5⟩
      have HX1 := Lib.hid (show OwnR u5 u4.heap.size u5.heap.size 2 (.slice AX1 len1 cX1) len1 (ints z1) from OwnR.of oX1)
      clear oX1
      have yu5 : Below u4.heap.size u4 u5 := ⟨beu5.os, beu5.tape, beu5.output, beu5.size, beu5.block⟩
      have zu5 : u4.heap.size ≤ u5.heap.size := yu5.size
      have bu5 : Below w.heap.size w u5 := bu4.trans (yu5.mono bu4.size)
      have HWu5 := Lib.hid (HWu4.out.below yu5 (by omega))
      clear HWu4
      have HX0u5 := Lib.hid (HX0.out.below yu5 (by omega))
      clear HX0
      clear yu5 beu5
      clear bu4
      go_wp2_with fail
      refine (pAddMaps_L _ _ len0 len1 _ _ u5.heap.size u5.heap.size z0 z1  _ HL0.out HL1.out (by omega) (by omega) (Nat.le_refl _) (Nat.le_refl _) (by exact (HX0u5.out.row).more (by omega)) (by exact (HX1.out.row).more (by omega)) ).mono ?_
      rintro e u6 ⟨sG, AG, cG, rfl, oG, beu6⟩
      have HG := Lib.hid (show OwnR u6 u5.heap.size u6.heap.size 2 (.slice AG (addMA z0 z1).1.length cG) (addMA z0 z1).1.length (ints (addMA z0 z1).1) from OwnR.of oG)
      clear oG
      have yu6 : Below u5.heap.size u5 u6 := ⟨beu6.os, beu6.tape, beu6.output, beu6.size, beu6.block⟩
      have zu6 : u5.heap.size ≤ u6.heap.size := yu6.size
      have bu6 : Below w.heap.size w u6 := bu5.trans (yu6.mono bu5.size)
      have HWu6 := Lib.hid (HWu5.out.below yu6 (by omega))
      clear HWu5
      have HX0u6 := Lib.hid (HX0u5.out.below yu6 (by omega))
      clear HX0u5
      have HX1u6 := Lib.hid (HX1.out.below yu6 (by omega))
      clear HX1
      clear yu6 beu6
      clear bu5
      go_wp2_with fail
      refine (eqInt64S_any _ _ (addMA z0 z1).1.length (addMA z0 z1).1.length _ _ _ _ (addMA z0 z1).1 (addMA z0 z1).1 _ rfl rfl (by omega) (by omega) (by exact HG.out.row) (by exact HWu6.out.row)).mono ?_
      rintro e vj7 ⟨rfl, j7, rfl⟩
      rw [eqL_self]
      go_wp2_with fail
      refine (toInt64S_any _ len0 _ w.heap.size z0 _ HL0.out (by omega) (by exact (below_drewN bu6 _).size) (by exact row0.below (below_drewN bu6 _) (Nat.le_refl _))).mono ?_
      rintro e u8 ⟨AD0, cD0, rfl, oD0, beu8⟩
      have HD0 := Lib.hid (show OwnR u8 u6.heap.size u8.heap.size 2 (.slice AD0 len0 cD0) len0 (ints z0) from OwnR.of oD0)
      clear oD0
      have yu8 : Below u6.heap.size u6 u8 := ⟨beu8.os, beu8.tape, beu8.output, beu8.size, beu8.block⟩
      have zu8 : u6.heap.size ≤ u8.heap.size := yu8.size
      have bu8 : Below w.heap.size w u8 := bu6.trans (yu8.mono bu6.size)
      have HWu8 := Lib.hid (HWu6.out.below yu8 (by omega))
      clear HWu6
      have HX0u8 := Lib.hid (HX0u6.out.below yu8 (by omega))
      clear HX0u6
      have HX1u8 := Lib.hid (HX1u6.out.below yu8 (by omega))
      clear HX1u6
      have HGu8 := Lib.hid (HG.out.below yu8 (by omega))
      clear HG
      clear yu8 beu8
      clear bu6
      go_wp2_with fail
      refine (eqInt64S_any _ _ len0 len0 _ _ _ _ z0 z0 _ HL0.out HL0.out (by omega) (by omega) (by exact HX0u8.out.row) (by exact HD0.out.row)).mono ?_
      rintro e vj9 ⟨rfl, j9, rfl⟩
      rw [eqL_self]
      clear HD0
      go_wp2_with fail
      refine (toInt64S_any _ len1 _ w.heap.size z1 _ HL1.out (by omega) (by exact (below_drewN bu8 _).size) (by exact row1.below (below_drewN bu8 _) (Nat.le_refl _))).mono ?_
      rintro e u10 ⟨AD1, cD1, rfl, oD1, beu10⟩
      have HD1 := Lib.hid (show OwnR u10 u8.heap.size u10.heap.size 2 (.slice AD1 len1 cD1) len1 (ints z1) from OwnR.of oD1)
      clear oD1
      have yu10 : Below u8.heap.size u8 u10 := ⟨beu10.os, beu10.tape, beu10.output, beu10.size, beu10.block⟩
      have zu10 : u8.heap.size ≤ u10.heap.size := yu10.size
      have bu10 : Below w.heap.size w u10 := bu8.trans (yu10.mono bu8.size)
      have HWu10 := Lib.hid (HWu8.out.below yu10 (by omega))
      clear HWu8
      have HX0u10 := Lib.hid (HX0u8.out.below yu10 (by omega))
      clear HX0u8
      have HX1u10 := Lib.hid (HX1u8.out.below yu10 (by omega))
      clear HX1u8
      have HGu10 := Lib.hid (HGu8.out.below yu10 (by omega))
      clear HGu8
      clear yu10 beu10
      clear bu8
      go_wp2_with fail
      refine (eqInt64S_any _ _ len1 len1 _ _ _ _ z1 z1 _ HL1.out HL1.out (by omega) (by omega) (by exact HX1u10.out.row) (by exact HD1.out.row)).mono ?_
      rintro e vj11 ⟨rfl, j11, rfl⟩
      rw [eqL_self]
      clear HD1
      go_wp2_with fail
      refine (markInt64S_any _ len0 _ u3.heap.size z0 1 _ HL0.out (by omega) (by omega) (by omega) (by exact ((HX0u10.out.drewN _)).1)).mono ?_
      rintro e u12 ⟨rfl, ou12, gu12⟩
      have wiu12 := Within.grown gu12 (fun g hg => ⟨((HX0u10.out).1.lt g hg).1, (HX0u10.out).2 g hg⟩)
      have yu12 : Within u3.heap.size u4.heap.size u10 u12 := ⟨wiu12.os, wiu12.tape, wiu12.output, wiu12.size, wiu12.block⟩
      have zu12 : u10.heap.size ≤ u12.heap.size := yu12.size
      have bu12 : Below w.heap.size w u12 := Below.then bu10 yu12 (by omega) (by omega)
      have HX0u12 := Lib.hid (show OwnR u12 u3.heap.size u4.heap.size 2 (.slice AX0 len0 cX0) len0 (ints (marks 1 len0)) from ⟨ou12, HX0u10.out.2⟩)
      clear ou12 gu12 HX0u10
      have HWu12 := Lib.hid (HWu10.out.within yu12 (by omega) (by omega))
      clear HWu10
      have HX1u12 := Lib.hid (HX1u10.out.within yu12 (by omega) (by omega))
      clear HX1u10
      have HGu12 := Lib.hid (HGu10.out.within yu12 (by omega) (by omega))
      clear HGu10
      clear yu12 wiu12 bu10
      clear HX0u12
      go_wp2_with fail
      refine (markInt64S_any _ len1 _ u4.heap.size z1 (1 + (len0 : Int)) _ HL1.out (by omega) (by omega) (by omega) (by exact (HX1u12.out).1)).mono ?_
      rintro e u13 ⟨rfl, ou13, gu13⟩
      have wiu13 := Within.grown gu13 (fun g hg => ⟨((HX1u12.out).1.lt g hg).1, (HX1u12.out).2 g hg⟩)
      have yu13 : Within u4.heap.size u5.heap.size u12 u13 := ⟨wiu13.os, wiu13.tape, wiu13.output, wiu13.size, wiu13.block⟩
      have zu13 : u12.heap.size ≤ u13.heap.size := yu13.size
      have bu13 : Below w.heap.size w u13 := Below.then bu12 yu13 (by omega) (by omega)
      have HX1u13 := Lib.hid (show OwnR u13 u4.heap.size u5.heap.size 2 (.slice AX1 len1 cX1) len1 (ints (marks (1 + (len0 : Int)) len1)) from ⟨ou13, HX1u12.out.2⟩)
      clear ou13 gu13 HX1u12
      have HWu13 := Lib.hid (HWu12.out.within yu13 (by omega) (by omega))
      clear HWu12
      have HGu13 := Lib.hid (HGu12.out.within yu13 (by omega) (by omega))
      clear HGu12
      clear yu13 wiu13 bu12
      clear HX1u13
      go_wp2_with fail
      refine (eqInt64S_any _ _ (addMA z0 z1).1.length (addMA z0 z1).1.length _ _ _ _ (addMA z0 z1).1 (addMA z0 z1).1 _ rfl rfl (by omega) (by omega) (by exact HGu13.out.row) (by exact HWu13.out.row)).mono ?_
      rintro e vj14 ⟨rfl, j14, rfl⟩
      rw [eqL_self]
      go_wp2_with fail
      refine (markInt64S_any _ (addMA z0 z1).1.length _ u5.heap.size (addMA z0 z1).1 1 _ rfl (by omega) (by omega) (by omega) (by exact ((HGu13.out.drewN _)).1)).mono ?_
      rintro e u15 ⟨rfl, ou15, gu15⟩
      have wiu15 := Within.grown gu15 (fun g hg => ⟨((HGu13.out).1.lt g hg).1, (HGu13.out).2 g hg⟩)
      have yu15 : Within u5.heap.size u6.heap.size u13 u15 := ⟨wiu15.os, wiu15.tape, wiu15.output, wiu15.size, wiu15.block⟩
      have zu15 : u13.heap.size ≤ u15.heap.size := yu15.size
      have bu15 : Below w.heap.size w u15 := Below.then bu13 yu15 (by omega) (by omega)
      have HGu15 := Lib.hid (show OwnR u15 u5.heap.size u6.heap.size 2 (.slice AG (addMA z0 z1).1.length cG) (addMA z0 z1).1.length (ints (marks 1 (addMA z0 z1).1.length)) from ⟨ou15, HGu13.out.2⟩)
      clear ou15 gu15 HGu13
      have HWu15 := Lib.hid (HWu13.out.within yu15 (by omega) (by omega))
      clear HWu13
      clear yu15 wiu15 bu13
      go_wp2_with fail
      refine (heldInt64S_any _ (addMA z0 z1).1.length _ _ 1 _ (by omega) (by omega) (by omega) (by exact HGu15.out.row)).mono ?_
      rintro e vu15 ⟨rfl, rfl⟩
      go_wp2_with fail
      refine (toInt64S_any _ len0 _ w.heap.size z0 _ HL0.out (by omega) (by exact bu15.size) (by exact row0.below bu15 (Nat.le_refl _))).mono ?_
      rintro e u16 ⟨AP0, cP0, rfl, oP0, beu16⟩
      have HP0 := Lib.hid (show OwnR u16 u15.heap.size u16.heap.size 2 (.slice AP0 len0 cP0) len0 (ints z0) from OwnR.of oP0)
      clear oP0
      have yu16 : Below u15.heap.size u15 u16 := ⟨beu16.os, beu16.tape, beu16.output, beu16.size, beu16.block⟩
      have zu16 : u15.heap.size ≤ u16.heap.size := yu16.size
      have bu16 : Below w.heap.size w u16 := bu15.trans (yu16.mono bu15.size)
      have HWu16 := Lib.hid (HWu15.out.below yu16 (by omega))
      clear HWu15
      have HGu16 := Lib.hid (HGu15.out.below yu16 (by omega))
      clear HGu15
      clear yu16 beu16
      clear bu15
      go_wp2_with fail
      refine (toInt64S_any _ len1 _ w.heap.size z1 _ HL1.out (by omega) (by exact bu16.size) (by exact row1.below bu16 (Nat.le_refl _))).mono ?_
      rintro e u17 ⟨AP1, cP1, rfl, oP1, beu17⟩
      have HP1 := Lib.hid (show OwnR u17 u16.heap.size u17.heap.size 2 (.slice AP1 len1 cP1) len1 (ints z1) from OwnR.of oP1)
      clear oP1
      have yu17 : Below u16.heap.size u16 u17 := ⟨beu17.os, beu17.tape, beu17.output, beu17.size, beu17.block⟩
      have zu17 : u16.heap.size ≤ u17.heap.size := yu17.size
      have bu17 : Below w.heap.size w u17 := bu16.trans (yu17.mono bu16.size)
      have HWu17 := Lib.hid (HWu16.out.below yu17 (by omega))
      clear HWu16
      have HGu17 := Lib.hid (HGu16.out.below yu17 (by omega))
      clear HGu16
      have HP0u17 := Lib.hid (HP0.out.below yu17 (by omega))
      clear HP0
      clear yu17 beu17
      clear bu16
      go_wp2_with fail
      refine (pAddMaps_L _ _ len0 len1 _ _ u17.heap.size u17.heap.size z0 z1  _ HL0.out HL1.out (by omega) (by omega) (Nat.le_refl _) (Nat.le_refl _) (by exact (HP0u17.out.row).more (by omega)) (by exact (HP1.out.row).more (by omega)) ).mono ?_
      rintro e u18 ⟨sK, AK, cK, rfl, oK, beu18⟩
      have HK := Lib.hid (show OwnR u18 u17.heap.size u18.heap.size 2 (.slice AK (addMA z0 z1).1.length cK) (addMA z0 z1).1.length (ints (addMA z0 z1).1) from OwnR.of oK)
      clear oK
      have yu18 : Below u17.heap.size u17 u18 := ⟨beu18.os, beu18.tape, beu18.output, beu18.size, beu18.block⟩
      have zu18 : u17.heap.size ≤ u18.heap.size := yu18.size
      have bu18 : Below w.heap.size w u18 := bu17.trans (yu18.mono bu17.size)
      have HWu18 := Lib.hid (HWu17.out.below yu18 (by omega))
      clear HWu17
      have HGu18 := Lib.hid (HGu17.out.below yu18 (by omega))
      clear HGu17
      have HP0u18 := Lib.hid (HP0u17.out.below yu18 (by omega))
      clear HP0u17
      have HP1u18 := Lib.hid (HP1.out.below yu18 (by omega))
      clear HP1
      clear yu18 beu18
      clear bu17
      clear HP0u18
      clear HP1u18
      go_wp2_with fail
      refine (eqInt64S_any _ _ (addMA z0 z1).1.length (addMA z0 z1).1.length _ _ _ _ (addMA z0 z1).1 (addMA z0 z1).1 _ rfl rfl (by omega) (by omega) (by exact HK.out.row) (by exact HWu18.out.row)).mono ?_
      rintro e vj19 ⟨rfl, j19, rfl⟩
      rw [eqL_self]
      go_wp2_with fail
      refine (heldInt64S_any _ (addMA z0 z1).1.length _ _ 1 _ (by omega) (by omega) (by omega) (by exact (HGu18.out.drewN _).row)).mono ?_
      rintro e vu18 ⟨rfl, rfl⟩
      go_wp2
      go_ret
      exact ⟨rfl, below_drewN bu18 _⟩
    · go_enter Try.func4, Try.ntmps4
      go_wp2
      go_ret
      exact ⟨rfl, Below.refl _ _⟩
  · go_enter Try.func4, Try.ntmps4
    go_wp2
    go_ret
    exact ⟨rfl, Below.refl _ _⟩
/-- the statement -/
theorem holds : Rows.FnExactAddMapsSaid := of_walk walk
end Go.Proofs.Ytgklilckjpbdnaa.fnExactAddMaps
