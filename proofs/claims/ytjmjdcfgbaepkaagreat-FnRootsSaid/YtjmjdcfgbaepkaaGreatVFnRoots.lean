/-
  PROVED: for every code the law FnRoots returns true: a rerooted tree has the same trees, as many roots as nodes and one free form, and is superfluous exactly if a product of a tree with itself is among them.
  CONDITIONS: none; every slice of bytes.
-/
import Derived.Test.YtjmjdcfgbaepkaaGreatUX2
import Derived.Test.YtjmjdcfgbaepkaaGreatFFnRoots
namespace Go.Proofs.YtjmjdcfgbaepkaaGreat.fnRoots
open Go.ChangeShapes Go.WideShapes Go.ChangeAt Go.RowKit Fld
set_option linter.unusedVariables false
set_option linter.unusedSimpArgs false
set_option maxRecDepth 100000

/-- whether one of the first trees has its product with itself among the trees -/
def fnd (t : List Int) (H : List (List Int)) (r : Nat) : Bool := (H.take r).any fun h => (Tr.turnsL t).any fun u => decide (u = Tr.can (Tr.gl h 0 h))
theorem fnd_step {t h : List Int} {H : List (List Int)} {r : Nat} (q : H[r]? = some h) : fnd t H (r + 1) = (fnd t H r || (Tr.turnsL t).any fun u => decide (u = Tr.can (Tr.gl h 0 h))) := by
  unfold fnd
  rw [List.take_add_one, q, Option.toList_some, List.any_append]
  simp
theorem fnd_all {t : List Int} {H : List (List Int)} (h : H = Tr.treesL (t.length / 2)) : fnd t H H.length = Tr.halfP t := by
  subst h
  unfold fnd Tr.halfP
  rw [List.take_length]
theorem has_next {s : Sh} {cs : List Value} {x : s.Ty} {w w' : World} (h : Has s cs x w.heap.size w) (b : Below w.heap.size w w') : Has s cs x w'.heap.size w' := (h.below b (Nat.le_refl _)).more b.size
theorem has_drew {s : Sh} {cs : List Value} {x : s.Ty} {w : World} (h : Has s cs x w.heap.size w) (m : Nat) : Has s cs x (w.drewN m).heap.size (w.drewN m) := h.drewN m
theorem mat_next {w w' : World} {A : Option Addr} {m : List (List Int)} (h : Mat w w.heap.size A m) (b : Below w.heap.size w w') : Mat w' w'.heap.size A m := (h.below b (Nat.le_refl _)).more b.size
theorem resM_out {m : List (List Int)} {k : Int} {r : List (List Int) × Int} {w w' : World} {e : Ending} (h : ResM r w e w') (hr : r = (m, k)) : ∃ A c, e = .returned (.tuple #[.slice A m.length c, .int .i64 k]) ∧ Mat w' w'.heap.size A m ∧ Below w.heap.size w w' := by
  subst hr
  obtain ⟨_, A, c, vs, rfl, o1, hb⟩ := h
  exact ⟨A, c, rfl, o1.mat, hb⟩
theorem butcher_self {q : Nat} {h : List Int} (h1 : 1 ≤ q) (h4 : q + q ≤ 8) (hh : h ∈ Tr.treesL q) : butcherA h h = (Tr.can (Tr.gl h 0 h), 0) ∧ h.length = q ∧ (Tr.can (Tr.gl h 0 h)).length ≤ 8 := by
  obtain ⟨hl, hq⟩ := (trees_all h1 (by omega)).1 h hh
  have h8 : h.length + h.length ≤ 8 := by omega
  obtain ⟨p1, p2, p3⟩ := graft_parts hl hl (k := 0) (by omega) h8
  refine ⟨?_, hq, ?_⟩
  · show graftAtA h ((0 : Nat) : Int) h = _
    rw [graftA_yes hl hl (by omega) h8, ← butcher_eq hl hl h8]
  · rw [butcher_eq hl hl h8, (lv_can p2).2]; omega

set_option maxHeartbeats 8000000 in
theorem walk (w : World) (a0 : Option Addr) (len0 cap0 : Nat) (z0 : List Int) (w0 : IsRow .u8 w a0 len0 cap0 z0) : Calls Tryz.prog 3 #[.slice a0 len0 cap0] w fun e w' => e = .returned (.bool true) ∧ Below w.heap.size w w' := by
  have hcode := isCode_of w0
  have hcm := w0.2.2.1
  have hlc := w0.2.1
  unfold maxLen at hcm
  have HX := Lib.hid hcode
  clear hcode w0
  by_cases hn : len0 ≤ 4096
  · have t0 : decide ((4096 : Int) < len0) = false := decide_eq_false (by omega)
    go_enter Tryz.func3, Tryz.ntmps3
    go_wp2_with fail
    refine (big_any _ _ _ _ (by omega)).mono ?_
    rintro e w' ⟨rfl, rfl⟩
    go_wp2_with fail
    refine (drawRerootAt_any _ _ _ _ _ hn HX.out).mono ?_
    rintro e u1 ⟨At, ct, n, t, k, rfl, lt, hn16, hct, rt, hk, b1⟩
    have Rt := Lib.hid (show Lst u1 At t from rt)
    have B := Lib.hid b1
    have Et := Lib.hid lt
    clear rt b1 lt
    by_cases hv : Tr.isLv t = true ∧ 0 ≤ k ∧ k < (n : Int)
    · obtain ⟨v1, v2, v3⟩ := hv
      obtain ⟨kn, rfl⟩ : ∃ kn : Nat, k = (kn : Int) := ⟨k.toNat, by omega⟩
      obtain ⟨u, f, d, f1, f2, f3, f4, f5, f6, f7, f8, f9, f10, ⟨x, f11⟩, f12, f13, f14, f15⟩ := roots_facts v1 (k := kn) (by rw [Et.out]; omega)
      have fl : (rootsL t).length ≤ 8 := Nat.le_trans (Tr.sumTo_length _ _) f3
      have HF : Hid (∀ h' : List Int, decide (0 < tmsTo (rootsL t) (Tr.can (Tr.gl h' 0 h')) (rootsL t).length) = (Tr.turnsL t).any fun u => decide (u = Tr.can (Tr.gl h' 0 h'))) := fun h' => half_tms v1
      have HAll := Lib.hid (fun (H : List (List Int)) (e : H = Tr.treesL (t.length / 2)) => fnd_all (t := t) e)
      obtain ⟨hp, hhp⟩ : ∃ hp, hp = Tr.halfP t := ⟨_, rfl⟩
      rw [← hhp] at f15 HAll
      obtain ⟨S, hS⟩ : ∃ S, S = rootsL t := ⟨_, rfl⟩
      rw [← hS] at f4 f5 f11 f12 f13 f14 fl HF
      obtain ⟨sn, hsn⟩ : ∃ sn, sn = S.length := ⟨_, rfl⟩
      rw [← hsn] at f14 fl HF
      rw [Et.out] at f2 f3 f7 f12 f15 HAll
      have hs0 : 0 < sn := by rw [hsn]; exact (List.getElem?_eq_some_iff.1 f11).1
      have hun := f2.symm
      have hfn := f7.symm
      obtain ⟨z, hz⟩ : ∃ z, z = tmsTo S u sn := ⟨_, rfl⟩
      rw [← hz] at f14
      have HCB := fun r => Lib.hid (cnts_bd (S := S) (fun p hp => (f13 p hp).1) r)
      have HCA : Hid (cntsTo S sn = (n : Int)) := by rw [Hid, hsn, cnts_all, f12]
      have F1 := Lib.hid f1
      have F4 := Lib.hid f4
      have F5 := Lib.hid f5
      have F6 := Lib.hid f6
      have F8 := Lib.hid f8
      have F9 := Lib.hid f9
      have F10 := Lib.hid f10
      have F11 := Lib.hid f11
      have F13 := Lib.hid f13
      have F15 := Lib.hid f15
      have HUN := Lib.hid hun
      have HFN := Lib.hid hfn
      have HSN := Lib.hid hsn
      have HZ := Lib.hid hz
      clear f1 f2 f7 f4 f5 f6 f8 f9 f10 f11 f12 f13 f15 hun hfn hsn hz hS hhp v1
      go_wp2_with fail
      refine (pRerootAt_L _ n _ _ t _ _ Et.out (by omega) (Nat.le_refl _) Rt.out (by omega) hct).mono ?_
      rintro e u2 hN
      obtain ⟨AU, cU, rfl, rU, kU, y⟩ := resL_out hN F1.out
      rw [← HUN.out] at kU ⊢
      replace Rt := Lib.hid (Rt.out.next y)
      replace B := Lib.hid (below_step B.out B.out.size y)
      have RU := Lib.hid rU
      clear hN rU y
      go_wp2_with fail
      refine (sRerootAt_L _ n _ _ t _ _ Et.out (by omega) (Nat.le_refl _) Rt.out (by omega)).mono ?_
      rintro e u3 hN
      obtain ⟨A1, c1, rfl, rT, kT1, y⟩ := resL_out hN F1.out
      replace Rt := Lib.hid (Rt.out.next y)
      replace RU := Lib.hid (RU.out.next y)
      replace B := Lib.hid (below_step B.out B.out.size y)
      clear hN rT kT1 y
      go_wp2_with fail
      refine (pRootsOf_L _ n _ _ t _ Et.out (by omega) (Nat.le_refl _) Rt.out hct).mono ?_
      rintro e u4 hN
      obtain ⟨AS, cS, rfl, rS, y⟩ := resC_out hN F4.out
      rw [← HSN.out] at rS ⊢
      replace Rt := Lib.hid (Rt.out.next y)
      replace RU := Lib.hid (RU.out.next y)
      replace B := Lib.hid (below_step B.out B.out.size y)
      have RS := Lib.hid rS
      clear hN rS y
      go_wp2_with fail
      refine (pRootsOf_L _ n _ _ u _ HUN.out.symm (by omega) (Nat.le_refl _) RU.out kU).mono ?_
      rintro e u5 hN
      obtain ⟨AS2, cS2, rfl, rS, y⟩ := resC_out hN F5.out
      rw [← HSN.out] at rS ⊢
      replace Rt := Lib.hid (Rt.out.next y)
      replace RU := Lib.hid (RU.out.next y)
      replace RS := Lib.hid (has_next RS.out y)
      replace B := Lib.hid (below_step B.out B.out.size y)
      have RS2 := Lib.hid rS
      clear hN rS y
      go_wp2_with fail
      refine (pFreeForm_L _ n _ _ t _ Et.out (by omega) (Nat.le_refl _) Rt.out hct).mono ?_
      rintro e u6 hN
      obtain ⟨AF, cF, rfl, rF, kF, y⟩ := resL_out hN F6.out
      rw [← HFN.out] at kF ⊢
      replace Rt := Lib.hid (Rt.out.next y)
      replace RU := Lib.hid (RU.out.next y)
      replace RS := Lib.hid (has_next RS.out y)
      replace RS2 := Lib.hid (has_next RS2.out y)
      replace B := Lib.hid (below_step B.out B.out.size y)
      have RF := Lib.hid rF
      clear hN rF y
      go_wp2_with fail
      refine (pAreSameFree_L _ _ n n _ _ _ _ t u _ Et.out HUN.out.symm (by omega) (by omega) (Nat.le_refl _) (Nat.le_refl _) Rt.out RU.out hct kU).mono ?_
      rintro e u7 hN
      obtain ⟨rfl, y⟩ := resBI_out hN F8.out
      replace Rt := Lib.hid (Rt.out.next y)
      replace RU := Lib.hid (RU.out.next y)
      replace RS := Lib.hid (has_next RS.out y)
      replace RS2 := Lib.hid (has_next RS2.out y)
      replace RF := Lib.hid (RF.out.next y)
      replace B := Lib.hid (below_step B.out B.out.size y)
      clear hN y
      go_wp2_with fail
      refine (pIsSuperfluous_L _ n _ _ t _ Et.out (by omega) (Nat.le_refl _) Rt.out hct).mono ?_
      rintro e u8 hN
      obtain ⟨rfl, y⟩ := resBI_out hN F9.out
      replace Rt := Lib.hid (Rt.out.next y)
      replace RU := Lib.hid (RU.out.next y)
      replace RS := Lib.hid (has_next RS.out y)
      replace RS2 := Lib.hid (has_next RS2.out y)
      replace RF := Lib.hid (RF.out.next y)
      replace B := Lib.hid (below_step B.out B.out.size y)
      clear hN y
      go_wp2_with fail
      refine (pIsSuperfluous_L _ n _ _ u _ HUN.out.symm (by omega) (Nat.le_refl _) RU.out kU).mono ?_
      rintro e u9 hN
      obtain ⟨rfl, y⟩ := resBI_out hN F10.out
      replace Rt := Lib.hid (Rt.out.next y)
      replace RU := Lib.hid (RU.out.next y)
      replace RS := Lib.hid (has_next RS.out y)
      replace RS2 := Lib.hid (has_next RS2.out y)
      replace RF := Lib.hid (RF.out.next y)
      replace B := Lib.hid (below_step B.out B.out.size y)
      clear hN y
      have zd : (d != d) = false := by cases d <;> rfl
      have zs := bne_f (show (sn : Int) = (sn : Int) from rfl)
      have zs0 := beq_f (show ¬ (sn : Int) = 0 by omega)
      obtain ⟨b, o, Ak, ck, rfl, hb, hc0, hc1, _, _, hrow⟩ := cnt_read RS.out F11.out
      simp only [Nat.zero_mul, Nat.add_zero] at hc0
      rw [← HFN.out] at hc0
      have HR := Lib.hid hrow
      clear hrow hc1
      go_wp2_with fail
      refine (likeInts_yes _ _ n n _ _ f f _ rfl HFN.out.symm HFN.out.symm (by omega) HR.out RF.out).mono ?_
      rintro e w' ⟨rfl, m0, rfl⟩
      clear hc0 HR RF
      go_wp2_with fail
      go_loopw [21, 22] (fun s i wr => ∃ r m : Nat, r ≤ sn ∧ s = .int .i64 (cntsTo S r) ∧ i = .int .i64 r ∧ wr = u9.drewN m) (fun _ i _ => sn - (intOf i).toNat)
      case atStart => exact ⟨0, m0, Nat.zero_le _, rfl, rfl, rfl⟩
      case round =>
        obtain ⟨r, m, hr, rfl, rfl, rfl⟩ := hrel
        by_cases hlt : r < sn
        · obtain ⟨⟨v, q⟩, hx⟩ := at_lt (show r < S.length by rw [← HSN.out]; exact hlt)
          have HST := Lib.hid (cnts_step hx)
          obtain ⟨b1, o1, A1, c1, e1, _, hc0, hc1, _, _, hrow⟩ := cnt_read RS.out hx
          obtain ⟨b2, o2, A2, c2, rfl, _, hd0, hd1, _, _, hrow2⟩ := cnt_read RS2.out hx
          obtain ⟨rfl, rfl, _⟩ : b = b1 ∧ o = o1 ∧ True := by injection e1 with e1; injection e1 with e2 e3; exact ⟨e2, e3, trivial⟩
          obtain ⟨⟨x0, x1⟩, hul⟩ := F13.out _ (List.mem_of_getElem? hx)
          have hb0 := (HCB r).out
          have HR1 : Hid (Lst (u9.drewN m) A1 v) := Row.drewN hrow m
          have HR2 : Hid (Lst (u9.drewN m) A2 v) := Row.drewN hrow2 m
          have zq := bne_f (show q = q from rfl)
          obtain ⟨ss, hss⟩ : ∃ ss, ss = cntsTo S r := ⟨_, rfl⟩
          rw [← hss] at hb0 HST
          have HS := Lib.hid hss
          rw [← hss]
          clear hx hrow hrow2 hss e1
          go_wp2_with fail
          go_quiet ((go_at_call 12; first | exact Calls.quiet_of (likeInts_yes _ _ v.length v.length _ _ v v _ rfl rfl rfl hul HR1.out HR2.out) | exact quiet_any (likeInts_yes _ _ v.length v.length _ _ v v _ rfl rfl rfl hul HR1.out HR2.out)))
          clear HR1 HR2
          go_wp2
          go_roundw
          case rel => exact ⟨r + 1, _, by omega, by rw [HST.out], by go_num, rfl⟩
          case measure => simp [intOf]; omega
        · obtain rfl : sn = r := by omega
          have zt := bne_f HCA.out
          have RS' := Lib.hid (has_drew RS.out m)
          have RU' := Lib.hid (RU.out.drew m)
          replace B := Lib.hid (below_drewN B.out m)
          have z2 := beq_f (show ¬ z = 0 by omega)
          clear RS RS2 RU Rt HCB HCA
          go_wp2_with fail
          refine (times9_any _ _ sn n _ _ _ S u _ HSN.out.symm HUN.out.symm (by omega) (by omega) F13.out RS'.out RU'.out).mono ?_
          rintro e w' ⟨rfl, m1, rfl⟩
          rw [← HZ.out]
          have h7 := has_drew RS'.out m1
          rw [World.drewN_drewN] at h7
          have h8 := below_drewN B.out m1
          rw [World.drewN_drewN] at h8
          replace RS' := Lib.hid h7
          replace B := Lib.hid h8
          clear HZ RU' h7 h8
          by_cases h2 : n % 2 = 0
          · obtain ⟨q, hq⟩ : ∃ q : Nat, n = 2 * q := ⟨n / 2, by omega⟩
            have em1 : ((n : Int)).tmod 2 = 0 := by rw [Int.tmod_eq_emod_of_nonneg (by omega)]; omega
            have em2 : ((n : Int)) % 2 = 0 := by omega
            have ed1 : ((n : Int)).tdiv 2 = (q : Int) := by rw [Int.tdiv_eq_ediv_of_nonneg (by omega)]; omega
            have ed2 : ((n : Int)) / 2 = (q : Int) := by omega
            have q1 : 1 ≤ q := by omega
            have q4 : q + q ≤ 8 := by omega
            obtain ⟨H, hH⟩ : ∃ H, H = Tr.treesL q := ⟨_, rfl⟩
            have HM : Hid (∀ h ∈ H, butcherA h h = (Tr.can (Tr.gl h 0 h), 0) ∧ h.length = q ∧ (Tr.can (Tr.gl h 0 h)).length ≤ 8) := fun h hh => butcher_self q1 q4 (by rw [← hH]; exact hh)
            have hl115 : H.length ≤ 115 := by rw [hH]; exact (trees_all q1 (by omega)).2
            have TY : Hid (treesOfA (q : Int) = (H, 0)) := by rw [Hid, hH]; exact treesOfA_yes q1 (by omega)
            have HE := Lib.hid (HAll.out H (by rw [hH]; congr 1; omega))
            obtain ⟨hn9, hhn⟩ : ∃ hn9, hn9 = H.length := ⟨_, rfl⟩
            rw [← hhn] at hl115 HE
            have HHN := Lib.hid hhn
            have HQ := Lib.hid hq
            have hdp : d = hp := by rw [F15.out, decide_eq_true h2]; rfl
            subst hdp
            clear hH hhn HAll hq h2 F15
            go_wp2_with fail
            refine (pTreesOf_L (q : Int) _ (by omega)).mono ?_
            rintro e u10 hN
            obtain ⟨AH, cH, rfl, rH, y⟩ := resM_out hN TY.out
            rw [← HHN.out]
            replace RS' := Lib.hid (has_next RS'.out y)
            replace B := Lib.hid (below_step B.out B.out.size y)
            have RH := Lib.hid rH
            clear hN rH y
            go_wp2_with fail
            go_loopw [23, 27] (fun s i wr => ∃ r : Nat, r ≤ hn9 ∧ s = .bool (fnd t H r) ∧ i = .int .i64 r ∧ Hid (Has ShC [.slice (some ⟨b, o, none⟩) sn cS] S wr.heap.size wr) ∧ Hid (Mat wr wr.heap.size AH H) ∧ Hid (Below w.heap.size w wr)) (fun _ i _ => hn9 - (intOf i).toNat)
            case atStart => exact ⟨0, Nat.zero_le _, rfl, rfl, RS', RH, B⟩
            case round =>
              clear RS' RH B
              obtain ⟨r, hr, rfl, rfl, RS', RH, B⟩ := hrel
              by_cases hlt : r < hn9
              · obtain ⟨h, hx⟩ := at_lt (show r < H.length by rw [← HHN.out]; exact hlt)
                have HST := Lib.hid (fnd_step (t := t) hx)
                obtain ⟨m1, m2, m3⟩ := HM.out h (List.mem_of_getElem? hx)
                obtain ⟨bh, oh, Ah, ch, rfl, hbh, hch, hlh, _, hrowh⟩ := RH.out r h hx
                obtain ⟨p, hp⟩ : ∃ p, p = Tr.can (Tr.gl h 0 h) := ⟨_, rfl⟩
                have HFH := Lib.hid (HF.out h)
                rw [← hp] at m1 m3 HFH HST
                rw [m2] at hch hlh
                obtain ⟨pn, hpn⟩ : ∃ pn, pn = p.length := ⟨_, rfl⟩
                rw [← hpn] at m3
                obtain ⟨ff, hff⟩ : ∃ ff, ff = fnd t H r := ⟨_, rfl⟩
                rw [← hff] at HST
                obtain ⟨z, hz⟩ : ∃ z, z = tmsTo S p sn := ⟨_, rfl⟩
                have HM2 := Lib.hid m2
                have HM1 := Lib.hid m1
                have HPN := Lib.hid hpn
                rw [← hz] at HFH
                have HZ := Lib.hid hz
                have HFF := Lib.hid hff
                have HRW := Lib.hid hrowh
                rw [← hff]
                clear hx m1 m2 hp hpn hz hff hrowh
                go_wp2_with fail
                go_region_held3 (fun w' => w'.cell? ⟨bh, oh + r, none⟩ = some (.slice Ah q ch)) (first | go_keep | exact hch | exact ((show Below wr.heap.size wr w2 from ⟨y0.os, y0.tape, y0.output, y0.size, y0.block⟩).cell (p := ⟨bh, oh + r, none⟩) hbh).trans hch)
                  ((go_at_call 15; refine (pButcherProduct_L _ _ q q _ _ wr.heap.size wr.heap.size h h _ HM2.out HM2.out (by omega) (by omega) (by exact Nat.le_refl _) (by exact Nat.le_refl _) (by exact HRW.out) (by exact HRW.out) hlh hlh).mono ?_; rintro e w2 hN; obtain ⟨AP, cP, rfl, rP, kP, y0⟩ := resL_out hN HM1.out))
                have y : Below wr.heap.size wr w2 := ⟨y0.os, y0.tape, y0.output, y0.size, y0.block⟩
                rw [← HPN.out] at kP ⊢
                replace RS' := Lib.hid (has_next RS'.out y)
                replace RH := Lib.hid (mat_next RH.out y)
                replace B := Lib.hid (below_step B.out B.out.size y)
                have RP := Lib.hid rP
                clear hN rP y y0 hch HRW
                cases ff
                · go_wp2_with fail
                  refine (times9_any _ _ sn pn _ _ _ S p _ HSN.out.symm HPN.out.symm (by omega) (by omega) F13.out RS'.out RP.out).mono ?_
                  rintro e w' ⟨rfl, m1, rfl⟩
                  rw [← HZ.out]
                  replace RS' := Lib.hid (has_drew RS'.out m1)
                  replace RH := Lib.hid (Mat.drewN RH.out m1)
                  replace B := Lib.hid (below_drewN B.out m1)
                  clear RP
                  go_wp2
                  go_roundw
                  case rel => exact ⟨r + 1, by omega, by rw [HST.out, ← HFH.out]; rfl, by go_num, RS', RH, B⟩
                  case measure => simp [intOf]; omega
                · clear RP
                  go_wp2
                  go_roundw
                  case rel => exact ⟨r + 1, by omega, by rw [HST.out]; rfl, by go_num, RS', RH, B⟩
                  case measure => simp [intOf]; omega
              · obtain rfl : r = hn9 := by omega
                have e := HE.out
                rw [e]
                go_wp2
                go_ret
                exact ⟨by simp, B.out⟩
          · have em1 : ((n : Int)).tmod 2 = 1 := by rw [Int.tmod_eq_emod_of_nonneg (by omega)]; omega
            have em2 : ((n : Int)) % 2 = 1 := by omega
            have hd0 : d = false := by rw [F15.out, decide_eq_false h2]; rfl
            subst hd0
            clear F15 h2 HAll
            go_wp2
            go_ret
            exact ⟨rfl, B.out⟩
    · obtain ⟨c, hc, hc0⟩ : ∃ c : Int, rerootA t k = ([], c) ∧ c ≠ 0 := by
        cases h1 : Tr.isLv t
        · exact ⟨1, rerootA_no h1, by decide⟩
        · exact ⟨2, rerootA_out h1 (by rw [Et.out]; exact fun e => hv ⟨h1, e.1, e.2⟩), by decide⟩
      have F1 := Lib.hid hc
      have z1 := bne_t hc0
      clear hc hc0 hv
      go_wp2_with fail
      refine (pRerootAt_L _ n _ _ t _ _ Et.out (by omega) (Nat.le_refl _) Rt.out (by omega) hct).mono ?_
      rintro e u2 hN
      obtain ⟨AT, cT, rfl, rT, kT, y⟩ := resL_out hN F1.out
      replace Rt := Lib.hid (Rt.out.next y)
      replace B := Lib.hid (below_step B.out B.out.size y)
      clear hN rT y
      go_wp2_with fail
      refine (sRerootAt_L _ n _ _ t _ _ Et.out (by omega) (Nat.le_refl _) Rt.out (by omega)).mono ?_
      rintro e u3 hN
      obtain ⟨A1, c1, rfl, rT, kT1, y⟩ := resL_out hN F1.out
      replace B := Lib.hid (below_step B.out B.out.size y)
      have z3 : (c != c) = false := bne_f rfl
      clear hN y Rt rT
      go_wp2
      go_ret
      exact ⟨rfl, B.out⟩
  · have t0 : decide ((4096 : Int) < len0) = true := decide_eq_true (by omega)
    go_enter Tryz.func3, Tryz.ntmps3
    go_wp2_with fail
    refine (big_any _ _ _ _ (by omega)).mono ?_
    rintro e w' ⟨rfl, rfl⟩
    go_wp2
    go_ret
    exact ⟨rfl, Below.refl _ _⟩
/-- the statement -/
theorem holds : Rows.FnRootsSaid := of_walk walk
end Go.Proofs.YtjmjdcfgbaepkaaGreat.fnRoots
