/-
  PROVED: for every code the law FnTableauOrders returns true: a tableau has the order p exactly if it has no fault up to p and one with p + 1 nodes, and the residuals are 0 exactly at matched trees.
  CONDITIONS: none; every slice of bytes.
-/
import Derived.Test.YtpngohklicgbjaaGreatUT3
import Derived.Test.YtpngohklicgbjaaGreatFFnTableauOrders
namespace Go.Proofs.YtpngohklicgbjaaGreat.fnTableauOrders
open Go.ChangeShapes Go.WideShapes Go.ChangeAt Go.RowKit Fld
set_option linter.unusedVariables false
set_option linter.unusedSimpArgs false
set_option maxRecDepth 100000

theorem resL_out {q : List Int} {k : Int} {r : List Int × Int} {w w' : World} {e : Ending} {n : Nat} (h : ResL r w e w') (hr : r = (q, k)) (hq : q.length = n) : ∃ A c, e = .returned (.tuple #[.slice A n c, .int .i64 k]) ∧ w'.ownsRow w.heap.size 2 1 (.slice A n c) n (ints q) ∧ Below w.heap.size w w' := by
  subst hr hq
  obtain ⟨_, A, c, rfl, o, b⟩ := h
  exact ⟨A, c, rfl, o, b⟩
theorem resI_outW {a k : Int} {r : Int × Int} {w w' : World} {e : Ending} (h : ResI r w e w') (hr : r = (a, k)) : e = .returned (.tuple #[.int .i64 a, .int .i64 k]) ∧ Below w.heap.size w w' := by
  subst hr; exact h
theorem resM_out {M : List (List Int)} {k : Int} {r : List (List Int) × Int} {w w' : World} {e : Ending} {n : Nat} (h : ResM r w e w') (hr : r = (M, k)) (hq : M.length = n) : ∃ A c vs, e = .returned (.tuple #[.slice A n c, .int .i64 k]) ∧ OwnMat w' w.heap.size w'.heap.size (.slice A n c) n M vs ∧ Below w.heap.size w w' := by
  subst hr hq
  obtain ⟨_, A, c, vs, rfl, o, b⟩ := h
  exact ⟨A, c, vs, rfl, o, b⟩
def Zer (R : List Int) (l : Nat) : Prop := ∀ (j : Nat) x, j < l → R[j]? = some x → x = 0
theorem Zer.step {R : List Int} {l : Nat} (h : Zer R l) (h0 : R[l]? = some 0) : Zer R (l + 1) := fun j x hj hx => by
  rcases Nat.lt_or_ge j l with g | g
  · exact h j x g hx
  · obtain rfl : j = l := by omega
    rw [h0] at hx; injection hx with hx; exact hx.symm
theorem Zer.less {R : List Int} {l : Nat} (h : Zer R (l + 1)) : Zer R l := fun j x hj hx => h j x (by omega) hx

set_option maxHeartbeats 32000000 in
theorem walk (w : World) (a0 : Option Addr) (len0 cap0 : Nat) (z0 : List Int) (w0 : IsRow .u8 w a0 len0 cap0 z0) : Calls Tryz.prog 4 #[.slice a0 len0 cap0] w fun e w' => e = .returned (.bool true) ∧ Below w.heap.size w w' := by
  have hcode := isCode_of w0
  have hcm := w0.2.2.1
  have hlc := w0.2.1
  unfold maxLen at hcm
  have HC := Lib.hid hcode
  clear hcode w0
  by_cases hn : len0 ≤ 4096
  · have t0 : decide ((4096 : Int) < len0) = false := decide_eq_false (by omega)
    go_enter Tryz.func4, Tryz.ntmps4
    go_wp2_with fail
    refine (big_any _ _ _ _ (by omega)).mono ?_
    rintro e w' ⟨rfl, rfl⟩
    go_wp2_with fail
    refine (drawOrderOf_any _ _ _ _ _ hn HC.out).mono ?_
    rintro e u1 ⟨A, n, c, D, n', d, m, b, rfl, ⟨hml, hbl⟩, ⟨h8, h9⟩, ⟨hc, hd⟩, M1, R1, b1⟩
    obtain ⟨W1, hW1⟩ : ∃ W1, W1 = u1.alloc (.cells #[.slice A n c, .slice D n' d] 27) := ⟨_, rfl⟩
    have bW : Below u1.heap.size u1 W1 := by rw [hW1]; exact (Below.refl _ _).alloc (Nat.le_refl _) _
    obtain ⟨xb, hxb⟩ : ∃ xb, xb = u1.heap.size := ⟨_, rfl⟩
    have HX : Hid (Bx W1 xb 27 (.slice A n c) (.slice D n' d)) := by rw [hW1, hxb]; exact Bx.new _ _ _ _
    have HM := Lib.hid ((M1.below bW (Nat.le_refl _)).more bW.size)
    have HR := Lib.hid ((R1.below bW (Nat.le_refl _)).more bW.size)
    have HB := Lib.hid (b1.trans (bW.mono b1.size))
    have HL := Lib.hid hml
    have HL' := Lib.hid hbl
    have hbz := HB.out.size
    clear M1 R1 b1 bW hml hbl
    go_wp2_with fail
    rw [← hW1]
    rw [← hxb]
    clear hW1 hxb
    cases hv : isTabB m b
    · have HV : Hid (orderTA m b = (0, 1)) := by unfold orderTA; rw [Hid, hv]; rfl
      clear hv
      have q0 := HX.out.c0
      have q1 := HX.out.c1
      refine (pOrderOf_L A D n c n' d W1.heap.size W1.heap.size m b W1 HL.out HL'.out (by omega) (by omega) (Nat.le_refl _) (Nat.le_refl _) HM.out HR.out).mono ?_
      rintro e u2 hN
      obtain ⟨rfl, y⟩ := resI_outW hN HV.out
      have hz2 := y.size
      have HX2 := Lib.hid (HX.out.next y)
      have HM2 := Lib.hid (HM.out.below y (Nat.le_refl _))
      have HR2 := Lib.hid (HR.out.below y (Nat.le_refl _))
      have HB2 := Lib.hid (HB.out.trans (y.mono hbz))
      clear hN y q0 q1 HX HM HR HB
      have q0 := HX2.out.c0
      have q1 := HX2.out.c1
      go_wp2_with fail
      refine (sOrderOf_L A D n c n' d W1.heap.size W1.heap.size m b u2 HL.out HL'.out (by omega) (by omega) (by omega) (by omega) HM2.out HR2.out).mono ?_
      rintro e u3 hN
      obtain ⟨rfl, y⟩ := resI_outW hN HV.out
      have hb2z := HB2.out.size
      have BE := Lib.hid (HB2.out.trans (y.mono hb2z))
      clear hN y q0 q1 HX2 HM2 HR2 HB2
      go_wp2
      go_ret
      exact ⟨rfl, BE.out⟩
    · obtain ⟨t1, t2, t3, t4, t5, t6⟩ := isTabB_parts hv
      rw [HL'.out] at t1 t2 t3 t5
      have hnn : n' = n := by rw [← t3]; exact HL.out
      subst hnn
      have hp0 := ord_lo m b n'
      have hp6 := ord_hi m b n'
      obtain ⟨P, hP⟩ : ∃ P : Nat, agrA (charL m b n') exactL = (P : Int) := ⟨(agrA (charL m b n') exactL).toNat, by omega⟩
      have hP6 : P ≤ 6 := by omega
      have HV : Hid (orderTA m b = ((P : Int), 0)) := by unfold orderTA; rw [Hid, hv, HL'.out, hP]; rfl
      have HF : Hid (∀ k, 1 ≤ k → k ≤ 6 → (k ≤ P → faultA m b (k : Int) = (0, 4) ∧ ∀ t ∈ Tr.treesL k, resT m b n' t = 0) ∧ (P < k → ∃ F : Nat, faultA m b (k : Int) = ((F : Int), 0) ∧ F ≤ 199 ∧ (k = P + 1 → (∃ t ∈ Tr.treesL k, resT m b n' t ≠ 0) ∧ ∃ tt, Tr.allL[F]? = some tt ∧ tt.length = k))) := fun k h1 h6 => by
        obtain ⟨f1, f2⟩ := ord_facts hP h1 h6
        have e : faultA m b (k : Int) = if faultP m b n' k < 0 then (0, 4) else (faultP m b n' k, 0) := by
          unfold faultA; rw [hv, if_pos rfl, if_pos (by omega), HL'.out, Int.toNat_natCast]
        refine ⟨fun hk => ⟨by rw [e, if_pos (f1 hk).1], (f1 hk).2⟩, fun hk => ?_⟩
        obtain ⟨F, e1, e2, e3⟩ := f2 hk
        exact ⟨F, by rw [e, if_neg (by omega), e1], e2, e3⟩
      have HRS : Hid (∀ k : Nat, 1 ≤ k → k ≤ 6 → residualsA m b (k : Int) = (resL m b n' k, 0)) := fun k h1 h6 => by
        unfold residualsA; rw [hv, if_pos rfl, if_pos (by omega), HL'.out, Int.toNat_natCast]
      have HWA : Hid (∀ t, Tr.isLv t = true → weightA m b t = (wtT m b n' (Tr.txt t), 0)) := fun t ht => by unfold weightA; rw [if_pos ⟨hv, ht⟩, HL'.out]
      clear hv t3 t4 t5 t6 hp0 hp6 hP
      have q0 := HX.out.c0
      have q1 := HX.out.c1
      refine (pOrderOf_L A D n' c n' d W1.heap.size W1.heap.size m b W1 HL.out HL'.out (by omega) (by omega) (Nat.le_refl _) (Nat.le_refl _) HM.out HR.out).mono ?_
      rintro e u2 hN
      obtain ⟨rfl, y⟩ := resI_outW hN HV.out
      have hz2 := y.size
      have HX2 := Lib.hid (HX.out.next y)
      have HM2 := Lib.hid (HM.out.below y (Nat.le_refl _))
      have HR2 := Lib.hid (HR.out.below y (Nat.le_refl _))
      have HB2 := Lib.hid (HB.out.trans (y.mono hbz))
      clear hN y q0 q1 HX HM HR HB
      have q0 := HX2.out.c0
      have q1 := HX2.out.c1
      go_wp2_with fail
      refine (sOrderOf_L A D n' c n' d W1.heap.size W1.heap.size m b u2 HL.out HL'.out (by omega) (by omega) (by omega) (by omega) HM2.out HR2.out).mono ?_
      rintro e u3 hN
      obtain ⟨rfl, y⟩ := resI_outW hN HV.out
      have hz3 := y.size
      have hb2z := HB2.out.size
      have HX3 := Lib.hid (HX2.out.next y)
      have HM3 := Lib.hid (HM2.out.below y (by omega))
      have HR3 := Lib.hid (HR2.out.below y (by omega))
      have HB3 := Lib.hid (HB2.out.trans (y.mono hb2z))
      have zpp : ((P : Int) != (P : Int)) = false := bne_f rfl
      clear hN y q0 q1 HX2 HM2 HR2 HB2
      go_wp2_with fail
      clear zpp
      go_loopw [8] (fun i wr => ∃ k : Nat, 1 ≤ k ∧ k ≤ 7 ∧ i = .int .i64 k ∧ Below u3.heap.size u3 wr) (fun i _ => 8 - (intOf i).toNat)
      case atStart => exact ⟨1, by omega, by omega, rfl, Below.refl _ _⟩
      case round =>
        obtain ⟨k, hk1, hk7, rfl, HBR⟩ := hrel
        obtain ⟨wo, rfl⟩ : ∃ wo, wo = wr := ⟨_, rfl⟩
        have hzr := HBR.size
        have x9 := HX3.out.next HBR
        have HXr := Lib.hid x9
        have HMr := Lib.hid (HM3.out.below HBR (by omega))
        have HRr := Lib.hid (HR3.out.below HBR (by omega))
        have HBr := Lib.hid HBR
        clear HBR
        by_cases hk6 : k ≤ 6
        · have hkI : (k : Int) ≤ 6 := by omega
          have HRK := Lib.hid (HRS.out k hk1 hk6)
          have HTK := Lib.hid (treesOfA_yes hk1 (show k ≤ 8 by omega))
          obtain ⟨q, hq⟩ : ∃ q, (Tr.treesL k).length = q := ⟨_, rfl⟩
          have hq115 : q ≤ 115 := by rw [← hq]; exact (trees_all hk1 (by omega)).2
          have HQ := Lib.hid hq
          have HRQ : Hid ((resL m b n' k).length = q) := (resL_len m b n' k).trans hq
          have HTT : Hid (∀ j t, (Tr.treesL k)[j]? = some t → Tr.isLv t = true ∧ t.length = k ∧ (resL m b n' k)[j]? = some (resT m b n' t) ∧ (0 < Tr.denM t ∧ Tr.denM t < 10007) ∧ (wtT m b n' (Tr.txt t) - resT m b n' t) * Tr.denM t % 10007 = 1) := fun j t ht => by
            have hm := List.mem_of_getElem? ht
            obtain ⟨a1, a2⟩ := (trees_all hk1 (show k ≤ 8 by omega)).1 t hm
            obtain ⟨a3, a4⟩ := res_den (m := m) (b := b) (n := n') (treesL_six hk1 hk6 hm)
            exact ⟨a1, a2, resL_at ht, a3, a4⟩
          obtain ⟨f1, f2⟩ := HF.out k hk1 hk6
          obtain ⟨R, hR⟩ : ∃ R, R = resL m b n' k := ⟨_, rfl⟩
          obtain ⟨TL, hTL⟩ : ∃ TL, TL = Tr.treesL k := ⟨_, rfl⟩
          rw [← hR] at HRK HRQ HTT
          rw [← hTL] at HTK HQ HTT
          have q0 := HXr.out.c0
          have q1 := HXr.out.c1
          by_cases hA : k ≤ P
          · obtain ⟨fa, fz⟩ := f1 hA
            have HFA : Hid (faultA m b (k : Int) = (0, 4)) := fa
            have hcl : Hid (Zer R q) := fun j x hj hx => by
              obtain ⟨t, ht⟩ := at_lt (show j < TL.length by rw [HQ.out]; exact hj)
              have h3 := (HTT.out j t ht).2.2.1
              rw [hx] at h3
              injection h3 with h3
              rw [h3]; exact fz t (by rw [← hTL]; exact List.mem_of_getElem? ht)
            have e1 : (k : Int) ≤ (P : Int) := by omega
            have e2 : ¬ (k : Int) > (P : Int) := by omega
            have e3 : ¬ ((k : Int) = (P : Int) + 1) := by omega
            have ew : IntKind.i64.wrap ((P : Int) + 1) = (P : Int) + 1 := IntWalk.i64_in _ (by omega)
            have e4 : ((k : Int) == (P : Int) + 1) = false := beq_f e3
            have hFv : (0 : Int) ≤ 199 := by omega
            clear f1 f2 fa fz hR hTL hq
            go_wp2_with fail
            refine (pFirstFault_L A D n' c n' d W1.heap.size W1.heap.size m b (k : Int) wo HL.out HL'.out (by omega) (by omega) (by omega) (by omega) HMr.out HRr.out (by omega)).mono ?_
            rintro e v1 hN
            obtain ⟨rfl, y⟩ := resI_outW hN HFA.out
            have hzv1 := y.size
            have HB1 := Lib.hid y
            have HX1 := Lib.hid (HXr.out.next y)
            clear hN y q0 q1
            have q0 := HX1.out.c0
            have q1 := HX1.out.c1
            go_wp2_with fail
            refine (pResidualsOf_L A D n' c n' d W1.heap.size W1.heap.size m b (k : Int) v1 HL.out HL'.out (by omega) (by omega) (by omega) (by omega) (HMr.out.below HB1.out (by omega)) (HRr.out.below HB1.out (by omega)) (by omega)).mono ?_
            rintro e v2 hN
            obtain ⟨AR, cR, rfl, oR, y⟩ := resL_out hN HRK.out HRQ.out
            have hzv2 := y.size
            have HOR := Lib.hid (row_of_own oR)
            have HB2 := Lib.hid (HB1.out.trans (y.mono hzv1))
            clear hN y oR q0 q1 HX1
            go_wp2_with fail
            refine (pTreesOf_L (k : Int) v2 (by omega)).mono ?_
            rintro e v3 hN
            obtain ⟨AT, cT, vsT, rfl, oT, y⟩ := resM_out hN HTK.out HQ.out
            have hzv3 := y.size
            have HOT := Lib.hid oT
            have HR3_ := Lib.hid (HOR.out.below y (Nat.le_refl _))
            have HBV := Lib.hid (HB2.out.trans (y.mono (by omega)))
            have zqq : ((q : Int) != (q : Int)) = false := bne_f rfl
            clear hN y oT HOR HB1 HB2
            go_wp2_with fail
            clear zqq
            go_loopw [15, 16] (fun cl i wj => ∃ (l : Nat) (cb : Bool), l ≤ q ∧ cl = .bool cb ∧ i = .int .i64 l ∧ Hid (cb = true ↔ Zer R l) ∧ Below v3.heap.size v3 wj) (fun _ i _ => q - (intOf i).toNat)
            case atStart => exact ⟨0, true, Nat.zero_le _, rfl, rfl, ⟨fun _ j x hj => absurd hj (Nat.not_lt_zero _), fun _ => rfl⟩, Below.refl _ _⟩
            case round =>
              obtain ⟨l, cb, hl, rfl, rfl, HCB, HBJ⟩ := hrel
              have hzj := HBJ.size
              have hwz : Below wo.heap.size wo wr := HBV.out.trans (HBJ.mono (by omega))
              by_cases hlq : l < q
              · obtain ⟨t, ht⟩ := at_lt (show l < TL.length by rw [HQ.out]; exact hlq)
                obtain ⟨g1, g2, g3, ⟨g4, g5⟩, g6⟩ := HTT.out l t ht
                obtain ⟨b3, o3, Ak, ck, rfl, hb3, hcb, hbl, hbm2, hbrow⟩ := (HOT.out.below HBJ (Nat.le_refl _)).mat l t ht
                obtain ⟨b4, o4, rfl, hb4, hc4⟩ := HR3_.out.below HBJ (by omega) l _ (ints_at g3)
                unfold maxLen at hbm2
                have hxr := HXr.out.next hwz
                have KK : Hid (∀ V, Below wr.heap.size wr V → V.cell? ⟨xb, 0, none⟩ = some (.slice A n' c) ∧ V.cell? ⟨xb, 1, none⟩ = some (.slice D n' d) ∧ V.cell? ⟨b3, o3 + l, none⟩ = some (.slice Ak t.length ck)) := fun V hV => ⟨(hxr.next hV).c0, (hxr.next hV).c1, (hV.cell (p := ⟨b3, o3 + l, none⟩) (show b3 < _ by omega)).trans hcb⟩
                have K4 : Hid (∀ V, Below wr.heap.size wr V → V.cell? ⟨b4, o4 + l, none⟩ = some (.int .i64 (resT m b n' t))) := fun V hV => (hV.cell (p := ⟨b4, o4 + l, none⟩) (show b4 < _ by omega)).trans hc4
                have HRW := Lib.hid hbrow
                have C1 := fun Z (hZ : Below wr.heap.size wr Z) => pWeightOf_L A D n' c n' d W1.heap.size W1.heap.size m b Z HL.out HL'.out (by omega) (by omega) (by have := hZ.size; omega) (by have := hZ.size; omega) ((HMr.out.below hwz (by omega)).below hZ (by omega)) ((HRr.out.below hwz (by omega)).below hZ (by omega)) Ak t.length ck v3.heap.size t rfl (by omega) (by have := hZ.size; omega) (HRW.out.below hZ (by omega)) hbl
                have HWt := Lib.hid (HWA.out t g1)
                have HDt := Lib.hid (densityA_yes g1)
                obtain ⟨w0_, w1_⟩ := wtT_bd m b n' (Tr.txt t)
                have hx01 : 0 ≤ resT m b n' t ∧ resT m b n' t < 10007 := by unfold resT; omega
                have HG3 := Lib.hid g3
                obtain ⟨wv, hwv⟩ : ∃ z, z = wtT m b n' (Tr.txt t) := ⟨_, rfl⟩
                obtain ⟨x, hx⟩ : ∃ z, z = resT m b n' t := ⟨_, rfl⟩
                obtain ⟨dv, hdv⟩ : ∃ z, z = Tr.denM t := ⟨_, rfl⟩
                rw [← hwv] at HWt w0_ w1_ g6
                rw [← hx] at HG3 hx01 g6 K4
                rw [← hdv] at HDt g4 g5 g6
                obtain ⟨x0, x1⟩ := hx01
                have hd10 : dv % 10007 = dv := Int.emod_eq_of_lt (by omega) g5
                have hprod : -100140049 ≤ (wv - x) * dv ∧ (wv - x) * dv ≤ 100140049 := by
                  have hab : (wv - x).natAbs ≤ 10006 := by omega
                  have hdb : dv.natAbs ≤ 10006 := by omega
                  have hm : ((wv - x) * dv).natAbs ≤ 10006 * 10006 := by rw [Int.natAbs_mul]; exact Nat.mul_le_mul hab hdb
                  omega
                have h1w : IntKind.i64.wrap (wv - x) = wv - x := IntWalk.i64_in _ (by omega)
                have h2w : IntKind.i64.wrap ((wv - x) * dv) = (wv - x) * dv := IntWalk.i64_in _ (by omega)
                have hlI : (l : Int) < (q : Int) := by omega
                have hl0 : (0 : Int) ≤ (l : Int) := Int.natCast_nonneg _
                have g2a : t.length ≤ 8 := by omega
                clear hwv hx hdv ht g1 g2 g3 hcb hc4 hbrow hxr
                go_wp2_with fail
                go_region_held3 (fun V => V.cell? ⟨xb, 0, none⟩ = some (.slice A n' c) ∧ V.cell? ⟨xb, 1, none⟩ = some (.slice D n' d) ∧ V.cell? ⟨b3, o3 + l, none⟩ = some (.slice Ak t.length ck))
                  (first | exact KK.out _ (Below.refl _ _) | exact KK.out _ (Below.refl _ _).drew | exact KK.out _ (below_drewN (Below.refl _ _) _) | exact KK.out _ (below_undrawn (a := 1) be4))
                  ((go_at_call 13; refine (C1 _ (by first | exact (Below.refl _ _).drew | exact below_drewN (Below.refl _ _) _)).mono ?_; clear C1; rintro e w4 hN; obtain ⟨rfl, be4⟩ := resI_outW hN HWt.out))
                have hb4' : Below wr.heap.size wr w4 := below_undrawn (a := 1) be4
                have hz4 := hb4'.size
                have k2 := (KK.out w4 hb4').2.2
                have HB4 := Lib.hid hb4'
                clear be4 hN hb4'
                go_wp2_with fail
                refine (pDensityOf_L Ak t.length ck v3.heap.size t w4 rfl (by omega) (by omega) (HRW.out.below HB4.out (by omega)) hbl).mono ?_
                rintro e w5 hN
                obtain ⟨rfl, y⟩ := resI_outW hN HDt.out
                have hz5 := y.size
                have hb5 : Below wr.heap.size wr w5 := HB4.out.trans (y.mono hz4)
                have k4 := K4.out w5 hb5
                have HB5 := Lib.hid hb5
                clear hN y k2 HB4 KK K4 hb5
                go_wp2_with fail
                go_quiet ((go_at_call 12; first | exact quietL (mod5_any _ _) | exact quietL2 (mod5_any _ _)))
                have HBN : Hid (∀ j, Below v3.heap.size v3 (w5.drewN j)) := fun j => below_drewN (HBJ.trans (HB5.out.mono (by omega))) j
                have k5 : ∀ j, (w5.drewN j).cell? ⟨b4, o4 + l, none⟩ = some (.int .i64 x) := fun j => k4
                cases cb
                · have GF : Hid (false = true ↔ Zer R (l + 1)) := ⟨fun h => (by cases h), fun h => HCB.out.2 h.less⟩
                  clear HCB
                  go_wp2
                  go_roundw
                  case rel => exact ⟨l + 1, false, by omega, rfl, by go_num, GF, by first | exact HBN.out _ | exact HBN.out 0⟩
                  case measure => simp [intOf]; omega
                · by_cases hx0 : x = 0
                  · have GT : Hid (true = true ↔ Zer R (l + 1)) := ⟨fun _ => (HCB.out.1 rfl).step (by rw [← hx0]; exact HG3.out), fun _ => rfl⟩
                    have tx : (x == 0) = true := beq_t hx0
                    clear HCB hx0
                    go_wp2
                    go_roundw
                    case rel => exact ⟨l + 1, true, by omega, rfl, by go_num, GT, by first | exact HBN.out _ | exact HBN.out 0⟩
                    case measure => simp [intOf]; omega
                  · have GF : Hid (false = true ↔ Zer R (l + 1)) := ⟨fun h => (by cases h), fun h => absurd (h l x (by omega) HG3.out) hx0⟩
                    have tx : (x == 0) = false := beq_f hx0
                    clear HCB hx0
                    go_wp2
                    go_roundw
                    case rel => exact ⟨l + 1, false, by omega, rfl, by go_num, GF, by first | exact HBN.out _ | exact HBN.out 0⟩
                    case measure => simp [intOf]; omega
              · obtain rfl : l = q := by omega
                have GB : Hid (Below u3.heap.size u3 wr) := HBr.out.trans (hwz.mono (by omega))
                obtain rfl : cb = true := HCB.out.2 hcl.out
                clear HCB hwz HBJ
                go_wp2
                go_roundw
                case rel => exact ⟨k + 1, by omega, by omega, by go_num, GB.out⟩
                case measure => simp [intOf]; omega
          · obtain ⟨F, fa, fF, fB⟩ := f2 (by omega)
            have HFA : Hid (faultA m b (k : Int) = ((F : Int), 0)) := fa
            have e1 : ¬ (k : Int) ≤ (P : Int) := by omega
            have e2 : (k : Int) > (P : Int) := by omega
            have ew : IntKind.i64.wrap ((P : Int) + 1) = (P : Int) + 1 := IntWalk.i64_in _ (by omega)
            by_cases hB : k = P + 1
            · obtain ⟨⟨tz, htz, hz0⟩, tt, htt, httl⟩ := fB hB
              have hcl : Hid (¬ Zer R q) := fun h => by
                rw [← hTL] at htz
                obtain ⟨j, hj⟩ := List.mem_iff_getElem?.1 htz
                have hjq : j < q := by rw [← HQ.out]; exact (List.getElem?_eq_some_iff.1 hj).1
                exact hz0 (h j _ hjq (HTT.out j tz hj).2.2.1)
              have HTA : Hid (treeAtA (F : Int) = (tt, 0)) := treeAtA_yes htt fF
              have HTTL := Lib.hid httl
              have e3 : (k : Int) = (P : Int) + 1 := by omega
              have e4 : ((k : Int) == (P : Int) + 1) = true := beq_t e3
              have HK5 := Lib.hid hB
              clear f1 f2 fa fB hR hTL hq htz hz0 htt httl e3 hB
              go_wp2_with fail
              refine (pFirstFault_L A D n' c n' d W1.heap.size W1.heap.size m b (k : Int) wo HL.out HL'.out (by omega) (by omega) (by omega) (by omega) HMr.out HRr.out (by omega)).mono ?_
              rintro e v1 hN
              obtain ⟨rfl, y⟩ := resI_outW hN HFA.out
              have hzv1 := y.size
              have HB1 := Lib.hid y
              have HX1 := Lib.hid (HXr.out.next y)
              clear hN y q0 q1
              have q0 := HX1.out.c0
              have q1 := HX1.out.c1
              go_wp2_with fail
              refine (pResidualsOf_L A D n' c n' d W1.heap.size W1.heap.size m b (k : Int) v1 HL.out HL'.out (by omega) (by omega) (by omega) (by omega) (HMr.out.below HB1.out (by omega)) (HRr.out.below HB1.out (by omega)) (by omega)).mono ?_
              rintro e v2 hN
              obtain ⟨AR, cR, rfl, oR, y⟩ := resL_out hN HRK.out HRQ.out
              have hzv2 := y.size
              have HOR := Lib.hid (row_of_own oR)
              have HB2 := Lib.hid (HB1.out.trans (y.mono hzv1))
              clear hN y oR q0 q1 HX1
              go_wp2_with fail
              refine (pTreesOf_L (k : Int) v2 (by omega)).mono ?_
              rintro e v3 hN
              obtain ⟨AT, cT, vsT, rfl, oT, y⟩ := resM_out hN HTK.out HQ.out
              have hzv3 := y.size
              have HOT := Lib.hid oT
              have HR3_ := Lib.hid (HOR.out.below y (Nat.le_refl _))
              have HBV := Lib.hid (HB2.out.trans (y.mono (by omega)))
              have zqq : ((q : Int) != (q : Int)) = false := bne_f rfl
              clear hN y oT HOR HB1 HB2
              go_wp2_with fail
              clear zqq
              go_loopw [15, 16] (fun cl i wj => ∃ (l : Nat) (cb : Bool), l ≤ q ∧ cl = .bool cb ∧ i = .int .i64 l ∧ Hid (cb = true ↔ Zer R l) ∧ Below v3.heap.size v3 wj) (fun _ i _ => q - (intOf i).toNat)
              case atStart => exact ⟨0, true, Nat.zero_le _, rfl, rfl, ⟨fun _ j x hj => absurd hj (Nat.not_lt_zero _), fun _ => rfl⟩, Below.refl _ _⟩
              case round =>
                obtain ⟨l, cb, hl, rfl, rfl, HCB, HBJ⟩ := hrel
                have hzj := HBJ.size
                have hwz : Below wo.heap.size wo wr := HBV.out.trans (HBJ.mono (by omega))
                by_cases hlq : l < q
                · obtain ⟨t, ht⟩ := at_lt (show l < TL.length by rw [HQ.out]; exact hlq)
                  obtain ⟨g1, g2, g3, ⟨g4, g5⟩, g6⟩ := HTT.out l t ht
                  obtain ⟨b3, o3, Ak, ck, rfl, hb3, hcb, hbl, hbm2, hbrow⟩ := (HOT.out.below HBJ (Nat.le_refl _)).mat l t ht
                  obtain ⟨b4, o4, rfl, hb4, hc4⟩ := HR3_.out.below HBJ (by omega) l _ (ints_at g3)
                  unfold maxLen at hbm2
                  have hxr := HXr.out.next hwz
                  have KK : Hid (∀ V, Below wr.heap.size wr V → V.cell? ⟨xb, 0, none⟩ = some (.slice A n' c) ∧ V.cell? ⟨xb, 1, none⟩ = some (.slice D n' d) ∧ V.cell? ⟨b3, o3 + l, none⟩ = some (.slice Ak t.length ck)) := fun V hV => ⟨(hxr.next hV).c0, (hxr.next hV).c1, (hV.cell (p := ⟨b3, o3 + l, none⟩) (show b3 < _ by omega)).trans hcb⟩
                  have K4 : Hid (∀ V, Below wr.heap.size wr V → V.cell? ⟨b4, o4 + l, none⟩ = some (.int .i64 (resT m b n' t))) := fun V hV => (hV.cell (p := ⟨b4, o4 + l, none⟩) (show b4 < _ by omega)).trans hc4
                  have HRW := Lib.hid hbrow
                  have C1 := fun Z (hZ : Below wr.heap.size wr Z) => pWeightOf_L A D n' c n' d W1.heap.size W1.heap.size m b Z HL.out HL'.out (by omega) (by omega) (by have := hZ.size; omega) (by have := hZ.size; omega) ((HMr.out.below hwz (by omega)).below hZ (by omega)) ((HRr.out.below hwz (by omega)).below hZ (by omega)) Ak t.length ck v3.heap.size t rfl (by omega) (by have := hZ.size; omega) (HRW.out.below hZ (by omega)) hbl
                  have HWt := Lib.hid (HWA.out t g1)
                  have HDt := Lib.hid (densityA_yes g1)
                  obtain ⟨w0_, w1_⟩ := wtT_bd m b n' (Tr.txt t)
                  have hx01 : 0 ≤ resT m b n' t ∧ resT m b n' t < 10007 := by unfold resT; omega
                  have HG3 := Lib.hid g3
                  obtain ⟨wv, hwv⟩ : ∃ z, z = wtT m b n' (Tr.txt t) := ⟨_, rfl⟩
                  obtain ⟨x, hx⟩ : ∃ z, z = resT m b n' t := ⟨_, rfl⟩
                  obtain ⟨dv, hdv⟩ : ∃ z, z = Tr.denM t := ⟨_, rfl⟩
                  rw [← hwv] at HWt w0_ w1_ g6
                  rw [← hx] at HG3 hx01 g6 K4
                  rw [← hdv] at HDt g4 g5 g6
                  obtain ⟨x0, x1⟩ := hx01
                  have hd10 : dv % 10007 = dv := Int.emod_eq_of_lt (by omega) g5
                  have hprod : -100140049 ≤ (wv - x) * dv ∧ (wv - x) * dv ≤ 100140049 := by
                    have hab : (wv - x).natAbs ≤ 10006 := by omega
                    have hdb : dv.natAbs ≤ 10006 := by omega
                    have hm : ((wv - x) * dv).natAbs ≤ 10006 * 10006 := by rw [Int.natAbs_mul]; exact Nat.mul_le_mul hab hdb
                    omega
                  have h1w : IntKind.i64.wrap (wv - x) = wv - x := IntWalk.i64_in _ (by omega)
                  have h2w : IntKind.i64.wrap ((wv - x) * dv) = (wv - x) * dv := IntWalk.i64_in _ (by omega)
                  have hlI : (l : Int) < (q : Int) := by omega
                  have hl0 : (0 : Int) ≤ (l : Int) := Int.natCast_nonneg _
                  have g2a : t.length ≤ 8 := by omega
                  clear hwv hx hdv ht g1 g2 g3 hcb hc4 hbrow hxr
                  go_wp2_with fail
                  go_region_held3 (fun V => V.cell? ⟨xb, 0, none⟩ = some (.slice A n' c) ∧ V.cell? ⟨xb, 1, none⟩ = some (.slice D n' d) ∧ V.cell? ⟨b3, o3 + l, none⟩ = some (.slice Ak t.length ck))
                    (first | exact KK.out _ (Below.refl _ _) | exact KK.out _ (Below.refl _ _).drew | exact KK.out _ (below_drewN (Below.refl _ _) _) | exact KK.out _ (below_undrawn (a := 1) be4))
                    ((go_at_call 13; refine (C1 _ (by first | exact (Below.refl _ _).drew | exact below_drewN (Below.refl _ _) _)).mono ?_; clear C1; rintro e w4 hN; obtain ⟨rfl, be4⟩ := resI_outW hN HWt.out))
                  have hb4' : Below wr.heap.size wr w4 := below_undrawn (a := 1) be4
                  have hz4 := hb4'.size
                  have k2 := (KK.out w4 hb4').2.2
                  have HB4 := Lib.hid hb4'
                  clear be4 hN hb4'
                  go_wp2_with fail
                  refine (pDensityOf_L Ak t.length ck v3.heap.size t w4 rfl (by omega) (by omega) (HRW.out.below HB4.out (by omega)) hbl).mono ?_
                  rintro e w5 hN
                  obtain ⟨rfl, y⟩ := resI_outW hN HDt.out
                  have hz5 := y.size
                  have hb5 : Below wr.heap.size wr w5 := HB4.out.trans (y.mono hz4)
                  have k4 := K4.out w5 hb5
                  have HB5 := Lib.hid hb5
                  clear hN y k2 HB4 KK K4 hb5
                  go_wp2_with fail
                  go_quiet ((go_at_call 12; first | exact quietL (mod5_any _ _) | exact quietL2 (mod5_any _ _)))
                  have HBN : Hid (∀ j, Below v3.heap.size v3 (w5.drewN j)) := fun j => below_drewN (HBJ.trans (HB5.out.mono (by omega))) j
                  have k5 : ∀ j, (w5.drewN j).cell? ⟨b4, o4 + l, none⟩ = some (.int .i64 x) := fun j => k4
                  cases cb
                  · have GF : Hid (false = true ↔ Zer R (l + 1)) := ⟨fun h => (by cases h), fun h => HCB.out.2 h.less⟩
                    clear HCB
                    go_wp2
                    go_roundw
                    case rel => exact ⟨l + 1, false, by omega, rfl, by go_num, GF, by first | exact HBN.out _ | exact HBN.out 0⟩
                    case measure => simp [intOf]; omega
                  · by_cases hx0 : x = 0
                    · have GT : Hid (true = true ↔ Zer R (l + 1)) := ⟨fun _ => (HCB.out.1 rfl).step (by rw [← hx0]; exact HG3.out), fun _ => rfl⟩
                      have tx : (x == 0) = true := beq_t hx0
                      clear HCB hx0
                      go_wp2
                      go_roundw
                      case rel => exact ⟨l + 1, true, by omega, rfl, by go_num, GT, by first | exact HBN.out _ | exact HBN.out 0⟩
                      case measure => simp [intOf]; omega
                    · have GF : Hid (false = true ↔ Zer R (l + 1)) := ⟨fun h => (by cases h), fun h => absurd (h l x (by omega) HG3.out) hx0⟩
                      have tx : (x == 0) = false := beq_f hx0
                      clear HCB hx0
                      go_wp2
                      go_roundw
                      case rel => exact ⟨l + 1, false, by omega, rfl, by go_num, GF, by first | exact HBN.out _ | exact HBN.out 0⟩
                      case measure => simp [intOf]; omega
                · obtain rfl : l = q := by omega
                  have GB : Hid (Below u3.heap.size u3 wr) := HBr.out.trans (hwz.mono (by omega))
                  obtain rfl : cb = false := by cases cb; rfl; exact absurd (HCB.out.1 rfl) hcl.out
                  clear HCB hwz HBJ
                  have zkk : ((k : Int) != (k : Int)) = false := bne_f rfl
                  go_wp2_with fail
                  refine (pTreeAt_L (F : Int) wr (by omega)).mono ?_
                  rintro e w9 hN
                  obtain ⟨A9, c9, rfl, o9, y⟩ := resL_out hN HTA.out HTTL.out
                  have GB9 := Lib.hid (GB.out.trans (y.mono GB.out.size))
                  clear hN o9 y
                  go_wp2
                  go_roundw
                  case rel => exact ⟨k + 1, by omega, by omega, by go_num, GB9.out⟩
                  case measure => simp [intOf]; omega
            · have e3 : ¬ ((k : Int) = (P : Int) + 1) := by omega
              have e4 : ((k : Int) == (P : Int) + 1) = false := beq_f e3
              clear f1 f2 fa fB hR hTL hq
              go_wp2_with fail
              refine (pFirstFault_L A D n' c n' d W1.heap.size W1.heap.size m b (k : Int) wo HL.out HL'.out (by omega) (by omega) (by omega) (by omega) HMr.out HRr.out (by omega)).mono ?_
              rintro e v1 hN
              obtain ⟨rfl, y⟩ := resI_outW hN HFA.out
              have hzv1 := y.size
              have HB1 := Lib.hid y
              have HX1 := Lib.hid (HXr.out.next y)
              clear hN y q0 q1
              have q0 := HX1.out.c0
              have q1 := HX1.out.c1
              go_wp2_with fail
              refine (pResidualsOf_L A D n' c n' d W1.heap.size W1.heap.size m b (k : Int) v1 HL.out HL'.out (by omega) (by omega) (by omega) (by omega) (HMr.out.below HB1.out (by omega)) (HRr.out.below HB1.out (by omega)) (by omega)).mono ?_
              rintro e v2 hN
              obtain ⟨AR, cR, rfl, oR, y⟩ := resL_out hN HRK.out HRQ.out
              have hzv2 := y.size
              have HOR := Lib.hid (row_of_own oR)
              have HB2 := Lib.hid (HB1.out.trans (y.mono hzv1))
              clear hN y oR q0 q1 HX1
              go_wp2_with fail
              refine (pTreesOf_L (k : Int) v2 (by omega)).mono ?_
              rintro e v3 hN
              obtain ⟨AT, cT, vsT, rfl, oT, y⟩ := resM_out hN HTK.out HQ.out
              have hzv3 := y.size
              have HOT := Lib.hid oT
              have HR3_ := Lib.hid (HOR.out.below y (Nat.le_refl _))
              have HBV := Lib.hid (HB2.out.trans (y.mono (by omega)))
              have zqq : ((q : Int) != (q : Int)) = false := bne_f rfl
              clear hN y oT HOR HB1 HB2
              go_wp2_with fail
              clear zqq
              go_loopw [15, 16] (fun cl i wj => ∃ (l : Nat) (cb : Bool), l ≤ q ∧ cl = .bool cb ∧ i = .int .i64 l ∧ Hid (cb = true ↔ Zer R l) ∧ Below v3.heap.size v3 wj) (fun _ i _ => q - (intOf i).toNat)
              case atStart => exact ⟨0, true, Nat.zero_le _, rfl, rfl, ⟨fun _ j x hj => absurd hj (Nat.not_lt_zero _), fun _ => rfl⟩, Below.refl _ _⟩
              case round =>
                obtain ⟨l, cb, hl, rfl, rfl, HCB, HBJ⟩ := hrel
                have hzj := HBJ.size
                have hwz : Below wo.heap.size wo wr := HBV.out.trans (HBJ.mono (by omega))
                by_cases hlq : l < q
                · obtain ⟨t, ht⟩ := at_lt (show l < TL.length by rw [HQ.out]; exact hlq)
                  obtain ⟨g1, g2, g3, ⟨g4, g5⟩, g6⟩ := HTT.out l t ht
                  obtain ⟨b3, o3, Ak, ck, rfl, hb3, hcb, hbl, hbm2, hbrow⟩ := (HOT.out.below HBJ (Nat.le_refl _)).mat l t ht
                  obtain ⟨b4, o4, rfl, hb4, hc4⟩ := HR3_.out.below HBJ (by omega) l _ (ints_at g3)
                  unfold maxLen at hbm2
                  have hxr := HXr.out.next hwz
                  have KK : Hid (∀ V, Below wr.heap.size wr V → V.cell? ⟨xb, 0, none⟩ = some (.slice A n' c) ∧ V.cell? ⟨xb, 1, none⟩ = some (.slice D n' d) ∧ V.cell? ⟨b3, o3 + l, none⟩ = some (.slice Ak t.length ck)) := fun V hV => ⟨(hxr.next hV).c0, (hxr.next hV).c1, (hV.cell (p := ⟨b3, o3 + l, none⟩) (show b3 < _ by omega)).trans hcb⟩
                  have K4 : Hid (∀ V, Below wr.heap.size wr V → V.cell? ⟨b4, o4 + l, none⟩ = some (.int .i64 (resT m b n' t))) := fun V hV => (hV.cell (p := ⟨b4, o4 + l, none⟩) (show b4 < _ by omega)).trans hc4
                  have HRW := Lib.hid hbrow
                  have C1 := fun Z (hZ : Below wr.heap.size wr Z) => pWeightOf_L A D n' c n' d W1.heap.size W1.heap.size m b Z HL.out HL'.out (by omega) (by omega) (by have := hZ.size; omega) (by have := hZ.size; omega) ((HMr.out.below hwz (by omega)).below hZ (by omega)) ((HRr.out.below hwz (by omega)).below hZ (by omega)) Ak t.length ck v3.heap.size t rfl (by omega) (by have := hZ.size; omega) (HRW.out.below hZ (by omega)) hbl
                  have HWt := Lib.hid (HWA.out t g1)
                  have HDt := Lib.hid (densityA_yes g1)
                  obtain ⟨w0_, w1_⟩ := wtT_bd m b n' (Tr.txt t)
                  have hx01 : 0 ≤ resT m b n' t ∧ resT m b n' t < 10007 := by unfold resT; omega
                  have HG3 := Lib.hid g3
                  obtain ⟨wv, hwv⟩ : ∃ z, z = wtT m b n' (Tr.txt t) := ⟨_, rfl⟩
                  obtain ⟨x, hx⟩ : ∃ z, z = resT m b n' t := ⟨_, rfl⟩
                  obtain ⟨dv, hdv⟩ : ∃ z, z = Tr.denM t := ⟨_, rfl⟩
                  rw [← hwv] at HWt w0_ w1_ g6
                  rw [← hx] at HG3 hx01 g6 K4
                  rw [← hdv] at HDt g4 g5 g6
                  obtain ⟨x0, x1⟩ := hx01
                  have hd10 : dv % 10007 = dv := Int.emod_eq_of_lt (by omega) g5
                  have hprod : -100140049 ≤ (wv - x) * dv ∧ (wv - x) * dv ≤ 100140049 := by
                    have hab : (wv - x).natAbs ≤ 10006 := by omega
                    have hdb : dv.natAbs ≤ 10006 := by omega
                    have hm : ((wv - x) * dv).natAbs ≤ 10006 * 10006 := by rw [Int.natAbs_mul]; exact Nat.mul_le_mul hab hdb
                    omega
                  have h1w : IntKind.i64.wrap (wv - x) = wv - x := IntWalk.i64_in _ (by omega)
                  have h2w : IntKind.i64.wrap ((wv - x) * dv) = (wv - x) * dv := IntWalk.i64_in _ (by omega)
                  have hlI : (l : Int) < (q : Int) := by omega
                  have hl0 : (0 : Int) ≤ (l : Int) := Int.natCast_nonneg _
                  have g2a : t.length ≤ 8 := by omega
                  clear hwv hx hdv ht g1 g2 g3 hcb hc4 hbrow hxr
                  go_wp2_with fail
                  go_region_held3 (fun V => V.cell? ⟨xb, 0, none⟩ = some (.slice A n' c) ∧ V.cell? ⟨xb, 1, none⟩ = some (.slice D n' d) ∧ V.cell? ⟨b3, o3 + l, none⟩ = some (.slice Ak t.length ck))
                    (first | exact KK.out _ (Below.refl _ _) | exact KK.out _ (Below.refl _ _).drew | exact KK.out _ (below_drewN (Below.refl _ _) _) | exact KK.out _ (below_undrawn (a := 1) be4))
                    ((go_at_call 13; refine (C1 _ (by first | exact (Below.refl _ _).drew | exact below_drewN (Below.refl _ _) _)).mono ?_; clear C1; rintro e w4 hN; obtain ⟨rfl, be4⟩ := resI_outW hN HWt.out))
                  have hb4' : Below wr.heap.size wr w4 := below_undrawn (a := 1) be4
                  have hz4 := hb4'.size
                  have k2 := (KK.out w4 hb4').2.2
                  have HB4 := Lib.hid hb4'
                  clear be4 hN hb4'
                  go_wp2_with fail
                  refine (pDensityOf_L Ak t.length ck v3.heap.size t w4 rfl (by omega) (by omega) (HRW.out.below HB4.out (by omega)) hbl).mono ?_
                  rintro e w5 hN
                  obtain ⟨rfl, y⟩ := resI_outW hN HDt.out
                  have hz5 := y.size
                  have hb5 : Below wr.heap.size wr w5 := HB4.out.trans (y.mono hz4)
                  have k4 := K4.out w5 hb5
                  have HB5 := Lib.hid hb5
                  clear hN y k2 HB4 KK K4 hb5
                  go_wp2_with fail
                  go_quiet ((go_at_call 12; first | exact quietL (mod5_any _ _) | exact quietL2 (mod5_any _ _)))
                  have HBN : Hid (∀ j, Below v3.heap.size v3 (w5.drewN j)) := fun j => below_drewN (HBJ.trans (HB5.out.mono (by omega))) j
                  have k5 : ∀ j, (w5.drewN j).cell? ⟨b4, o4 + l, none⟩ = some (.int .i64 x) := fun j => k4
                  cases cb
                  · have GF : Hid (false = true ↔ Zer R (l + 1)) := ⟨fun h => (by cases h), fun h => HCB.out.2 h.less⟩
                    clear HCB
                    go_wp2
                    go_roundw
                    case rel => exact ⟨l + 1, false, by omega, rfl, by go_num, GF, by first | exact HBN.out _ | exact HBN.out 0⟩
                    case measure => simp [intOf]; omega
                  · by_cases hx0 : x = 0
                    · have GT : Hid (true = true ↔ Zer R (l + 1)) := ⟨fun _ => (HCB.out.1 rfl).step (by rw [← hx0]; exact HG3.out), fun _ => rfl⟩
                      have tx : (x == 0) = true := beq_t hx0
                      clear HCB hx0
                      go_wp2
                      go_roundw
                      case rel => exact ⟨l + 1, true, by omega, rfl, by go_num, GT, by first | exact HBN.out _ | exact HBN.out 0⟩
                      case measure => simp [intOf]; omega
                    · have GF : Hid (false = true ↔ Zer R (l + 1)) := ⟨fun h => (by cases h), fun h => absurd (h l x (by omega) HG3.out) hx0⟩
                      have tx : (x == 0) = false := beq_f hx0
                      clear HCB hx0
                      go_wp2
                      go_roundw
                      case rel => exact ⟨l + 1, false, by omega, rfl, by go_num, GF, by first | exact HBN.out _ | exact HBN.out 0⟩
                      case measure => simp [intOf]; omega
                · obtain rfl : l = q := by omega
                  have GB : Hid (Below u3.heap.size u3 wr) := HBr.out.trans (hwz.mono (by omega))
                  clear HCB hwz HBJ
                  go_wp2
                  go_roundw
                  case rel => exact ⟨k + 1, by omega, by omega, by go_num, GB.out⟩
                  case measure => simp [intOf]; omega
        · obtain rfl : k = 7 := by omega
          have BE := Lib.hid (HB3.out.trans (HBr.out.mono (by have := HB3.out.size; omega)))
          clear x9 HXr HMr HRr
          go_wp2
          go_ret
          exact ⟨rfl, BE.out⟩
  · have t0 : decide ((4096 : Int) < len0) = true := decide_eq_true (by omega)
    go_enter Tryz.func4, Tryz.ntmps4
    go_wp2_with fail
    refine (big_any _ _ _ _ (by omega)).mono ?_
    rintro e w' ⟨rfl, rfl⟩
    go_wp2
    go_ret
    exact ⟨rfl, Below.refl _ _⟩
/-- the statement -/
theorem holds : Rows.FnTableauOrdersSaid := of_walk walk
end Go.Proofs.YtpngohklicgbjaaGreat.fnTableauOrders
