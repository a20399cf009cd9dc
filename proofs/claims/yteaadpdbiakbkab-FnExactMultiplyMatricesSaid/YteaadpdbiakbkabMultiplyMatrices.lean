/-
  PROVED: for every two lists of lists the law FnExactMultiplyMatrices returns true: MultiplyMatrices answers as its model, leaves its lists alone, and its result owns its memory.
  CONDITIONS: none; every argument that the types hold.
-/
import Derived.Test.YteaadpdbiakbkabMul
import Derived.Test.YteaadpdbiakbkabMarks
import Derived.Test.YteaadpdbiakbkabFFnExactMultiplyMatrices
namespace Go.Proofs.Yteaadpdbiakbkab.fnExactMultiplyMatrices
open Go.ChangeShapes Go.WideShapes Go.ChangeAt Go.RowKit Fld
set_option linter.unusedVariables false

theorem total_take_all (m : List (List Int)) : 0 ≤ total m := Nat.zero_le _
theorem total_le_mul (m : List (List Int)) (q : Nat) (h : ∀ r ∈ m, r.length ≤ q) : total m ≤ m.length * q := by
  induction m with
  | nil => simp [total]
  | cons x r ih =>
    have h1 := h x (by simp)
    have h2 := ih (fun y hy => h y (by simp [hy]))
    have e : total (x :: r) = x.length + total r := by simp [total]
    rw [e, List.length_cons, Nat.add_mul, Nat.one_mul]; omega
theorem mulA_length (a b : List (List Int)) : (mulA a b).1.length ≤ 8 := by
  unfold mulA
  split
  · rename_i h
    split
    · rw [prodM_length]; exact (isMatB_parts h.1).2.1
    · simp
  · simp
theorem mulA_total (a b : List (List Int)) : total (mulA a b).1 ≤ 64 := by
  unfold mulA
  split
  · rename_i h
    split
    · have h1 := (isMatB_parts h.1).2.1
      have h2 := (isMatB_parts h.2).2.2.2.1
      have h3 := total_le_mul (prodM a b) 8 (fun r hr => by
        unfold prodM at hr
        rw [List.mem_map] at hr
        obtain ⟨x, _, rfl⟩ := hr
        rw [prodRow_length]; exact h2)
      rw [prodM_length] at h3
      show total (prodM a b) ≤ 64
      omega
    · simp [total]
  · simp [total]

set_option maxRecDepth 100000 in
set_option maxHeartbeats 4000000 in
theorem walk (w : World) (a0 : Option Addr) (len0 cap0 : Nat) (z0 : List (List Int)) (w0 : IsMat w a0 len0 cap0 z0) (a1 : Option Addr) (len1 cap1 : Nat) (z1 : List (List Int)) (w1 : IsMat w a1 len1 cap1 z1) : Calls Try.prog 8 #[.slice a0 len0 cap0, .slice a1 len1 cap1] w fun e w' => e = .returned (.bool true) ∧ Below w.heap.size w w' := by
  obtain ⟨hl0, hlc0, hcm0, mat0, _⟩ := w0
  obtain ⟨hl1, hlc1, hcm1, mat1, _⟩ := w1
  have HL0 := Lib.hid hl0
  have HL1 := Lib.hid hl1
  clear hl0 hl1
  unfold maxLen at hcm0 hcm1
  have b0 : Below w.heap.size w w := Below.refl _ _
  by_cases hf0 : len0 + total z0 ≤ 1048576
  · have S0 := Lib.hid (szR_pos (left := 1048576) (used := len0 + total z0) (by omega))
    by_cases hf1 : len0 + total z0 + (len1 + total z1) ≤ 1048576
    · have S1 := Lib.hid (szR_pos (left := 1048576 - ((len0 : Int) + ((total z0 : Nat) : Int))) (used := len1 + total z1) (by omega))
      go_enter Try.func8, Try.ntmps8
      go_wp2_with fail
      refine (szInt64SS_any _ len0 _ _ z0 _ _ HL0.out (by omega) mat0 (by omega) (by omega)).mono ?_
      rintro e w' ⟨rfl, rfl⟩
      rw [S0.out]
      go_wp2_with fail
      refine (szInt64SS_any _ len1 _ _ z1 _ _ HL1.out (by omega) mat1 (by omega) (by omega)).mono ?_
      rintro e w' ⟨rfl, rfl⟩
      rw [S1.out]
      go_wp2_with fail
      refine (toInt64SS_any _ len0 _ w.heap.size z0 _ HL0.out (by omega) (by omega) (by exact b0.size) (by exact mat0.below b0 (Nat.le_refl _))).mono ?_
      rintro e u1 ⟨ACa, cCa, vsCa, rfl, oCa, beu1⟩
      have HCa := Lib.hid (show OwnMat u1 w.heap.size u1.heap.size (.slice ACa len0 cCa) len0 z0 vsCa from oCa)
      clear oCa
      have yu1 : Below w.heap.size w u1 := ⟨beu1.os, beu1.tape, beu1.output, beu1.size, beu1.block⟩
      have zu1 : w.heap.size ≤ u1.heap.size := yu1.size
      have bu1 : Below w.heap.size w u1 := b0.trans (yu1.mono b0.size)
      clear yu1 beu1
      go_wp2_with fail
      refine (toInt64SS_any _ len1 _ w.heap.size z1 _ HL1.out (by omega) (by omega) (by exact bu1.size) (by exact mat1.below bu1 (Nat.le_refl _))).mono ?_
      rintro e u2 ⟨ACb, cCb, vsCb, rfl, oCb, beu2⟩
      have HCb := Lib.hid (show OwnMat u2 u1.heap.size u2.heap.size (.slice ACb len1 cCb) len1 z1 vsCb from oCb)
      clear oCb
      have yu2 : Below u1.heap.size u1 u2 := ⟨beu2.os, beu2.tape, beu2.output, beu2.size, beu2.block⟩
      have zu2 : u1.heap.size ≤ u2.heap.size := yu2.size
      have bu2 : Below w.heap.size w u2 := bu1.trans (yu2.mono bu1.size)
      have HCau2 := Lib.hid (HCa.out.below yu2 (by omega))
      clear HCa
      clear yu2 beu2
      clear bu1
      go_wp2_with fail
      refine (sMultiplyMatrices_any _ _ len0 len1 _ _ u2.heap.size z0 z1 _ HL0.out HL1.out (by omega) (by omega) (Nat.le_refl _) (by exact (HCau2.out.mat).more (by omega)) (by exact (HCb.out.mat).more (by omega))).mono ?_
      rintro e u3 ⟨AW, nW, cW, vsW, rfl, oW, beu3⟩
      have HW := Lib.hid (show OwnMat u3 u2.heap.size u3.heap.size (.slice AW nW cW) nW (mulA z0 z1).1 vsW from oW)
      clear oW
      have sW : nW ≤ 64 := by have h1 := HW.out.size; have h2 := mulA_length z0 z1; omega
      have yu3 : Below u2.heap.size u2 u3 := ⟨beu3.os, beu3.tape, beu3.output, beu3.size, beu3.block⟩
      have zu3 : u2.heap.size ≤ u3.heap.size := yu3.size
      have bu3 : Below w.heap.size w u3 := bu2.trans (yu3.mono bu2.size)
      have HCau3 := Lib.hid (HCau2.out.below yu3 (by omega))
      clear HCau2
      have HCbu3 := Lib.hid (HCb.out.below yu3 (by omega))
      clear HCb
      clear yu3 beu3
      clear bu2
      clear HCau3
      clear HCbu3
      go_wp2_with fail
      refine (toInt64SS_any _ len0 _ w.heap.size z0 _ HL0.out (by omega) (by omega) (by exact bu3.size) (by exact mat0.below bu3 (Nat.le_refl _))).mono ?_
      rintro e u4 ⟨AX, cX, vsX, rfl, oX, beu4⟩
      have HX := Lib.hid (show OwnMat u4 u3.heap.size u4.heap.size (.slice AX len0 cX) len0 z0 vsX from oX)
      clear oX
      have yu4 : Below u3.heap.size u3 u4 := ⟨beu4.os, beu4.tape, beu4.output, beu4.size, beu4.block⟩
      have zu4 : u3.heap.size ≤ u4.heap.size := yu4.size
      have bu4 : Below w.heap.size w u4 := bu3.trans (yu4.mono bu3.size)
      have HWu4 := Lib.hid (HW.out.below yu4 (by omega))
      clear HW
      clear yu4 beu4
      clear bu3
      go_wp2_with fail
      refine (toInt64SS_any _ len1 _ w.heap.size z1 _ HL1.out (by omega) (by omega) (by exact bu4.size) (by exact mat1.below bu4 (Nat.le_refl _))).mono ?_
      rintro e u5 ⟨AY, cY, vsY, rfl, oY, beu5⟩
      have HY := Lib.hid (show OwnMat u5 u4.heap.size u5.heap.size (.slice AY len1 cY) len1 z1 vsY from oY)
      clear oY
      have yu5 : Below u4.heap.size u4 u5 := ⟨beu5.os, beu5.tape, beu5.output, beu5.size, beu5.block⟩
      have zu5 : u4.heap.size ≤ u5.heap.size := yu5.size
      have bu5 : Below w.heap.size w u5 := bu4.trans (yu5.mono bu4.size)
      have HWu5 := Lib.hid (HWu4.out.below yu5 (by omega))
      clear HWu4
      have HXu5 := Lib.hid (HX.out.below yu5 (by omega))
      clear HX
      clear yu5 beu5
      clear bu4
      go_wp2_with fail
      refine (multiplyMatrices_any _ _ len0 len1 _ _ u5.heap.size z0 z1 _ HL0.out HL1.out (by omega) (by omega) (Nat.le_refl _) (by exact (HXu5.out.mat).more (by omega)) (by exact (HY.out.mat).more (by omega))).mono ?_
      rintro e u6 ⟨AG, nG, cG, vsG, rfl, oG, beu6⟩
      have HG := Lib.hid (show OwnMat u6 u5.heap.size u6.heap.size (.slice AG nG cG) nG (mulA z0 z1).1 vsG from oG)
      clear oG
      have sG : nG ≤ 64 := by have h1 := HG.out.size; have h2 := mulA_length z0 z1; omega
      have yu6 : Below u5.heap.size u5 u6 := ⟨beu6.os, beu6.tape, beu6.output, beu6.size, beu6.block⟩
      have zu6 : u5.heap.size ≤ u6.heap.size := yu6.size
      have bu6 : Below w.heap.size w u6 := bu5.trans (yu6.mono bu5.size)
      have HWu6 := Lib.hid (HWu5.out.below yu6 (by omega))
      clear HWu5
      have HXu6 := Lib.hid (HXu5.out.below yu6 (by omega))
      clear HXu5
      have HYu6 := Lib.hid (HY.out.below yu6 (by omega))
      clear HY
      clear yu6 beu6
      clear bu5
      go_wp2_with fail
      refine (eqInt64SS_any _ _ nG nW _ _ _ _ (mulA z0 z1).1 (mulA z0 z1).1 _ HG.out.size HWu6.out.size (by omega) (by omega) (by exact HG.out.mat) (by exact HWu6.out.mat)).mono ?_
      rintro e vj7 ⟨rfl, j7, rfl⟩
      rw [eqM_self]
      go_wp2_with fail
      refine (toInt64SS_any _ len0 _ w.heap.size z0 _ HL0.out (by omega) (by omega) (by exact (below_drewN bu6 _).size) (by exact mat0.below (below_drewN bu6 _) (Nat.le_refl _))).mono ?_
      rintro e u8 ⟨AD, cD, vsD, rfl, oD, beu8⟩
      have HD := Lib.hid (show OwnMat u8 u6.heap.size u8.heap.size (.slice AD len0 cD) len0 z0 vsD from oD)
      clear oD
      have yu8 : Below u6.heap.size u6 u8 := ⟨beu8.os, beu8.tape, beu8.output, beu8.size, beu8.block⟩
      have zu8 : u6.heap.size ≤ u8.heap.size := yu8.size
      have bu8 : Below w.heap.size w u8 := bu6.trans (yu8.mono bu6.size)
      have HWu8 := Lib.hid (HWu6.out.below yu8 (by omega))
      clear HWu6
      have HXu8 := Lib.hid (HXu6.out.below yu8 (by omega))
      clear HXu6
      have HYu8 := Lib.hid (HYu6.out.below yu8 (by omega))
      clear HYu6
      have HGu8 := Lib.hid (HG.out.below yu8 (by omega))
      clear HG
      clear yu8 beu8
      clear bu6
      go_wp2_with fail
      refine (eqInt64SS_any _ _ len0 len0 _ _ _ _ z0 z0 _ HL0.out HL0.out (by omega) (by omega) (by exact HXu8.out.mat) (by exact HD.out.mat)).mono ?_
      rintro e vj9 ⟨rfl, j9, rfl⟩
      rw [eqM_self]
      clear HD
      go_wp2_with fail
      refine (toInt64SS_any _ len1 _ w.heap.size z1 _ HL1.out (by omega) (by omega) (by exact (below_drewN bu8 _).size) (by exact mat1.below (below_drewN bu8 _) (Nat.le_refl _))).mono ?_
      rintro e u10 ⟨AE, cE, vsE, rfl, oE, beu10⟩
      have HE := Lib.hid (show OwnMat u10 u8.heap.size u10.heap.size (.slice AE len1 cE) len1 z1 vsE from oE)
      clear oE
      have yu10 : Below u8.heap.size u8 u10 := ⟨beu10.os, beu10.tape, beu10.output, beu10.size, beu10.block⟩
      have zu10 : u8.heap.size ≤ u10.heap.size := yu10.size
      have bu10 : Below w.heap.size w u10 := bu8.trans (yu10.mono bu8.size)
      have HWu10 := Lib.hid (HWu8.out.below yu10 (by omega))
      clear HWu8
      have HXu10 := Lib.hid (HXu8.out.below yu10 (by omega))
      clear HXu8
      have HYu10 := Lib.hid (HYu8.out.below yu10 (by omega))
      clear HYu8
      have HGu10 := Lib.hid (HGu8.out.below yu10 (by omega))
      clear HGu8
      clear yu10 beu10
      clear bu8
      go_wp2_with fail
      refine (eqInt64SS_any _ _ len1 len1 _ _ _ _ z1 z1 _ HL1.out HL1.out (by omega) (by omega) (by exact HYu10.out.mat) (by exact HE.out.mat)).mono ?_
      rintro e vj11 ⟨rfl, j11, rfl⟩
      rw [eqM_self]
      clear HE
      have tz0 := total_take_all z0
      have tz1 := total_take_all z1
      have tR := mulA_total z0 z1
      go_wp2_with fail
      refine (markInt64SS_any _ len0 _ _ _ z0 vsX 1 _ (by omega) (by omega) (by omega) (by omega) (by exact (HXu10.out.drewN _))).mono ?_
      rintro e u12 ⟨rfl, ou12, wiu12⟩
      have yu12 : Within u3.heap.size u4.heap.size u10 u12 := ⟨wiu12.os, wiu12.tape, wiu12.output, wiu12.size, wiu12.block⟩
      have zu12 : u10.heap.size ≤ u12.heap.size := yu12.size
      have bu12 : Below w.heap.size w u12 := Below.then bu10 yu12 (by omega) (by omega)
      have HXu12 := Lib.hid ou12
      clear ou12 HXu10
      have HWu12 := Lib.hid (HWu10.out.within yu12 (by omega) (by omega))
      clear HWu10
      have HYu12 := Lib.hid (HYu10.out.within yu12 (by omega) (by omega))
      clear HYu10
      have HGu12 := Lib.hid (HGu10.out.within yu12 (by omega) (by omega))
      clear HGu10
      clear yu12 wiu12 bu10
      clear HXu12
      go_wp2_with fail
      refine (markInt64SS_any _ len1 _ _ _ z1 vsY (1 + (total z0 : Nat)) _ (by omega) (by omega) (by omega) (by omega) (by exact HYu12.out)).mono ?_
      rintro e u13 ⟨rfl, ou13, wiu13⟩
      have yu13 : Within u4.heap.size u5.heap.size u12 u13 := ⟨wiu13.os, wiu13.tape, wiu13.output, wiu13.size, wiu13.block⟩
      have zu13 : u12.heap.size ≤ u13.heap.size := yu13.size
      have bu13 : Below w.heap.size w u13 := Below.then bu12 yu13 (by omega) (by omega)
      have HYu13 := Lib.hid ou13
      clear ou13 HYu12
      have HWu13 := Lib.hid (HWu12.out.within yu13 (by omega) (by omega))
      clear HWu12
      have HGu13 := Lib.hid (HGu12.out.within yu13 (by omega) (by omega))
      clear HGu12
      clear yu13 wiu13 bu12
      clear HYu13
      go_wp2_with fail
      refine (eqInt64SS_any _ _ nG nW _ _ _ _ (mulA z0 z1).1 (mulA z0 z1).1 _ HGu13.out.size HWu13.out.size (by omega) (by omega) (by exact HGu13.out.mat) (by exact HWu13.out.mat)).mono ?_
      rintro e vj14 ⟨rfl, j14, rfl⟩
      rw [eqM_self]
      have HNG := Lib.hid (show (mulA z0 z1).1.length = nG from HGu13.out.size)
      go_wp2_with fail
      refine (markInt64SS_any _ nG _ _ _ (mulA z0 z1).1 vsG 1 _ (by omega) (by omega) (by omega) (by omega) (by exact (HGu13.out.drewN _))).mono ?_
      rintro e u15 ⟨rfl, ou15, wiu15⟩
      have yu15 : Within u5.heap.size u6.heap.size u13 u15 := ⟨wiu15.os, wiu15.tape, wiu15.output, wiu15.size, wiu15.block⟩
      have zu15 : u13.heap.size ≤ u15.heap.size := yu15.size
      have bu15 : Below w.heap.size w u15 := Below.then bu13 yu15 (by omega) (by omega)
      have HGu15 := Lib.hid ou15
      clear ou15 HGu13
      have HWu15 := Lib.hid (HWu13.out.within yu15 (by omega) (by omega))
      clear HWu13
      clear yu15 wiu15 bu13
      go_wp2_with fail
      refine (heldInt64SS_any _ nG _ _ (mulA z0 z1).1 1 _ HNG.out (by omega) (by omega) (by omega) (by omega) (by exact HGu15.out.mat)).mono ?_
      rintro e vu15 ⟨rfl, rfl⟩
      go_wp2_with fail
      refine (toInt64SS_any _ len0 _ w.heap.size z0 _ HL0.out (by omega) (by omega) (by exact bu15.size) (by exact mat0.below bu15 (Nat.le_refl _))).mono ?_
      rintro e u16 ⟨AP, cP, vsP, rfl, oP, beu16⟩
      have HP := Lib.hid (show OwnMat u16 u15.heap.size u16.heap.size (.slice AP len0 cP) len0 z0 vsP from oP)
      clear oP
      have yu16 : Below u15.heap.size u15 u16 := ⟨beu16.os, beu16.tape, beu16.output, beu16.size, beu16.block⟩
      have zu16 : u15.heap.size ≤ u16.heap.size := yu16.size
      have bu16 : Below w.heap.size w u16 := bu15.trans (yu16.mono bu15.size)
      have HWu16 := Lib.hid (HWu15.out.below yu16 (by omega))
      clear HWu15
      have HGu16 := Lib.hid (HGu15.out.below yu16 (by omega))
      clear HGu15
      clear yu16 beu16
      clear bu15
      go_wp2_with fail
      refine (toInt64SS_any _ len1 _ w.heap.size z1 _ HL1.out (by omega) (by omega) (by exact bu16.size) (by exact mat1.below bu16 (Nat.le_refl _))).mono ?_
      rintro e u17 ⟨AQ, cQ, vsQ, rfl, oQ, beu17⟩
      have HQ := Lib.hid (show OwnMat u17 u16.heap.size u17.heap.size (.slice AQ len1 cQ) len1 z1 vsQ from oQ)
      clear oQ
      have yu17 : Below u16.heap.size u16 u17 := ⟨beu17.os, beu17.tape, beu17.output, beu17.size, beu17.block⟩
      have zu17 : u16.heap.size ≤ u17.heap.size := yu17.size
      have bu17 : Below w.heap.size w u17 := bu16.trans (yu17.mono bu16.size)
      have HWu17 := Lib.hid (HWu16.out.below yu17 (by omega))
      clear HWu16
      have HGu17 := Lib.hid (HGu16.out.below yu17 (by omega))
      clear HGu16
      have HPu17 := Lib.hid (HP.out.below yu17 (by omega))
      clear HP
      clear yu17 beu17
      clear bu16
      go_wp2_with fail
      refine (multiplyMatrices_any _ _ len0 len1 _ _ u17.heap.size z0 z1 _ HL0.out HL1.out (by omega) (by omega) (Nat.le_refl _) (by exact (HPu17.out.mat).more (by omega)) (by exact (HQ.out.mat).more (by omega))).mono ?_
      rintro e u18 ⟨AK, nK, cK, vsK, rfl, oK, beu18⟩
      have HK := Lib.hid (show OwnMat u18 u17.heap.size u18.heap.size (.slice AK nK cK) nK (mulA z0 z1).1 vsK from oK)
      clear oK
      have sK : nK ≤ 64 := by have h1 := HK.out.size; have h2 := mulA_length z0 z1; omega
      have yu18 : Below u17.heap.size u17 u18 := ⟨beu18.os, beu18.tape, beu18.output, beu18.size, beu18.block⟩
      have zu18 : u17.heap.size ≤ u18.heap.size := yu18.size
      have bu18 : Below w.heap.size w u18 := bu17.trans (yu18.mono bu17.size)
      have HWu18 := Lib.hid (HWu17.out.below yu18 (by omega))
      clear HWu17
      have HGu18 := Lib.hid (HGu17.out.below yu18 (by omega))
      clear HGu17
      have HPu18 := Lib.hid (HPu17.out.below yu18 (by omega))
      clear HPu17
      have HQu18 := Lib.hid (HQ.out.below yu18 (by omega))
      clear HQ
      clear yu18 beu18
      clear bu17
      clear HPu18
      clear HQu18
      go_wp2_with fail
      refine (eqInt64SS_any _ _ nK nW _ _ _ _ (mulA z0 z1).1 (mulA z0 z1).1 _ HK.out.size HWu18.out.size (by omega) (by omega) (by exact HK.out.mat) (by exact HWu18.out.mat)).mono ?_
      rintro e vj19 ⟨rfl, j19, rfl⟩
      rw [eqM_self]
      go_wp2_with fail
      refine (heldInt64SS_any _ nG _ _ (mulA z0 z1).1 1 _ HNG.out (by omega) (by omega) (by omega) (by omega) (by exact (HGu18.out.drewN _).mat)).mono ?_
      rintro e vu18 ⟨rfl, rfl⟩
      go_wp2
      go_ret
      exact ⟨rfl, by exact (below_drewN bu18 _ : Below w.heap.size w _)⟩
    · have S1 := Lib.hid (szR_neg (left := 1048576 - ((len0 : Int) + ((total z0 : Nat) : Int))) (used := len1 + total z1) (by omega))
      go_enter Try.func8, Try.ntmps8
      go_wp2_with fail
      refine (szInt64SS_any _ len0 _ _ z0 _ _ HL0.out (by omega) mat0 (by omega) (by omega)).mono ?_
      rintro e w' ⟨rfl, rfl⟩
      rw [S0.out]
      go_wp2_with fail
      refine (szInt64SS_any _ len1 _ _ z1 _ _ HL1.out (by omega) mat1 (by omega) (by omega)).mono ?_
      rintro e w' ⟨rfl, rfl⟩
      rw [S1.out]
      go_wp2
      go_ret
      exact ⟨rfl, Below.refl _ _⟩
  · have S0 := Lib.hid (szR_neg (left := 1048576) (used := len0 + total z0) (by omega))
    go_enter Try.func8, Try.ntmps8
    go_wp2_with fail
    refine (szInt64SS_any _ len0 _ _ z0 _ _ HL0.out (by omega) mat0 (by omega) (by omega)).mono ?_
    rintro e w' ⟨rfl, rfl⟩
    rw [S0.out]
    go_wp2
    go_ret
    exact ⟨rfl, Below.refl _ _⟩
/-- the statement -/
theorem holds : Rows.FnExactMultiplyMatricesSaid := of_walk walk
end Go.Proofs.Yteaadpdbiakbkab.fnExactMultiplyMatrices
