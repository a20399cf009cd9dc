/-
  PROVED: for every code the law FnSeriesProducts returns true: dividing undoes multiplying, the product rule but for the last coefficient, integrals of derivatives but for the first one.
  CONDITIONS: none; every slice of bytes.
-/
import Derived.Test.YtjdanhjonjmccabLike
import Derived.Test.YtjdanhjonjmccabSerAdd
import Derived.Test.YtjdanhjonjmccabSerMul
import Derived.Test.YtjdanhjonjmccabSerDiv
import Derived.Test.YtjdanhjonjmccabSerDer
import Derived.Test.YtjdanhjonjmccabSerInt
import Derived.Test.YtjdanhjonjmccabFFnSeriesProducts
namespace Go.Proofs.Ytjdanhjonjmccab.fnSeriesProducts
open Go.ChangeShapes Go.WideShapes Go.ChangeAt Go.RowKit Fld Ser
set_option linter.unusedVariables false
set_option linter.unusedSimpArgs false
set_option maxRecDepth 100000

theorem div_ok {a b q : List Int} (h : divSerA a b = (q, 0)) : areSer a b = true ∧ co b 0 ≠ 0 := by
  unfold divSerA at h
  split at h
  · split at h
    · exact ⟨by assumption, by assumption⟩
    · simp at h
  · simp at h
theorem back_is {n : Nat} {a b x : List Int} (p1 : 1 ≤ n) (h0 : co b 0 ≠ 0) (ha : Sr n a (co a)) (hb : Sr n b (co b)) (hx : Sr n x (cv (cv (co a) (ivS n (co b))) (co b))) : x = a := by
  refine hx.eq ha ?_
  have h1 := co_num hb.2.1 0
  rw [cv_assoc]
  exact ((Cg.refl _ _).cv (ivS_ok (by omega) (by omega) h1.2)).trans (Cg.of_eq (cv_one _))
theorem rule_is {n : Nat} {a b pr l r : List Int} (p1 : 1 ≤ n) (hp : Sr n pr (cv (co a) (co b))) (hl : Sr n l (dv (co pr))) (hr : Sr n r (ad (cv (dv (co a)) (co b)) (cv (co a) (dv (co b))))) : l.take (n - 1) = r.take (n - 1) := by
  refine hl.take hr (by omega) ?_
  obtain ⟨N, rfl⟩ : ∃ N, n = N + 1 := ⟨n - 1, by omega⟩
  rw [Nat.add_sub_cancel, ← dv_cv]
  exact hp.2.2.dv
theorem again_is {n : Nat} {a p g : List Int} (p2 : n ≤ 16) (ha : Sr n a (co a)) (hp : Sr n p (dv (co a))) (hg : Sr n g (itg (co p))) : g.drop 1 = a.drop 1 := by
  refine hg.drop ha (fun k hk => ?_)
  have h1 := hp.2.2 k (by omega)
  have h3 := inv_mul ((k : Int) + 1) (by omega) (by omega)
  show Eqm (co p k * inv ((k : Int) + 1)) (co a (k + 1))
  refine (h1.mul (Eqm.refl _)).trans ?_
  show Eqm (((k : Int) + 1) * co a (k + 1) * inv ((k : Int) + 1)) _
  have e : ((k : Int) + 1) * co a (k + 1) * inv ((k : Int) + 1) = co a (k + 1) * (inv ((k : Int) + 1) * ((k : Int) + 1)) := by grind
  rw [e]
  exact ((Eqm.refl _).mul h3).trans (Eqm.of_eq (Int.mul_one _))
theorem again_0 {n : Nat} {p g : List Int} (p1 : 1 ≤ n) (hg : Sr n g (itg (co p))) : co g 0 = 0 := by
  rw [hg.at (by omega)]; rfl

set_option maxRecDepth 100000 in
set_option maxHeartbeats 4000000 in
theorem walk (w : World) (a0 : Option Addr) (len0 cap0 : Nat) (z0 : List Int) (w0 : IsRow .u8 w a0 len0 cap0 z0) : Calls Try.prog 3 #[.slice a0 len0 cap0] w fun e w' => e = .returned (.bool true) ∧ Below w.heap.size w w' := by
  have hcode := isCode_of w0
  have hcm := w0.2.2.1
  have hlc := w0.2.1
  unfold maxLen at hcm
  have HX := Lib.hid hcode
  clear hcode w0
  by_cases hn : len0 ≤ 4096
  · have t0 : decide ((4096 : Int) < len0) = false := decide_eq_false (by omega)
    go_enter Try.func3, Try.ntmps3
    go_wp2_with fail
    refine (big_any _ _ _ _ (by omega)).mono ?_
    rintro e w' ⟨rfl, rfl⟩
    go_wp2_with fail
    refine (drawDivideSeries_any _ _ _ _ _ hn HX.out).mono ?_
    rintro e u1 ⟨Aa, ca, m, La, Ab, cb, n, Lb, rfl, la, hm64, ra, lb, hn64, rb, b1, capa⟩
    have Ra := Lib.hid (show Lst u1 Aa La from ra)
    have Rb := Lib.hid (show Lst u1 Ab Lb from rb)
    have B := Lib.hid b1
    have Ea := Lib.hid la
    have Eb := Lib.hid lb
    clear ra rb b1 la lb
    go_wp2_with fail
    refine (pDivideSeries_L _ _ m n _ _ _ _ La Lb _ Ea.out Eb.out (by omega) (by omega) (Nat.le_refl _) (Nat.le_refl _) Ra.out Rb.out).mono ?_
    rintro e u2 hN
    obtain ⟨Lq, kk, l, Aq, cq, hr, rfl, lq, hl, rq, y⟩ := hN.any
    replace Ra := Lib.hid (Ra.out.next y)
    replace Rb := Lib.hid (Rb.out.next y)
    replace B := Lib.hid (below_step B.out B.out.size y)
    have HR := Lib.hid hr
    have Eq := Lib.hid lq
    have Rq := Lib.hid rq
    clear hr lq rq y
    go_wp2_with fail
    refine (sDivideSeries_L _ _ m n _ _ _ _ La Lb _ Ea.out Eb.out (by omega) (by omega) (Nat.le_refl _) (Nat.le_refl _) Ra.out Rb.out).mono ?_
    rintro e u3 hN
    obtain ⟨Av, cv', rfl, rv, y⟩ := hN.at HR.out Eq.out
    replace Ra := Lib.hid (Ra.out.next y)
    replace Rb := Lib.hid (Rb.out.next y)
    replace B := Lib.hid (below_step B.out B.out.size y)
    replace Rq := Lib.hid (Rq.out.next y)
    clear y
    have tk : (kk != kk) = false := bne_f rfl
    go_wp2_with fail
    refine (likeInts_yes _ _ l l _ _ Lq Lq _ rfl Eq.out Eq.out (by omega) Rq.out rv).mono ?_
    rintro e v ⟨rfl, j, rfl⟩
    clear rv
    replace Ra := Lib.hid (Ra.out.drew j)
    replace Rb := Lib.hid (Rb.out.drew j)
    replace Rq := Lib.hid (Rq.out.drew j)
    replace B := Lib.hid (below_drewN B.out j)
    by_cases hk : kk = 0
    · subst hk
      obtain ⟨hs, hq0⟩ := div_ok HR.out
      obtain ⟨p1, p2, hnm, p4, p5⟩ := areSer_parts hs Ea.out Eb.out
      subst hnm
      have hq : Lq = cl n (cv (co La) (ivS n (co Lb))) := by have := HR.out.symm.trans (divSerA_yes hs hq0 Ea.out); injection this
      have hln : n = l := by rw [← Eq.out, hq, cl_length]
      subst hln
      have HQ0 := Lib.hid hq0
      have Sa := Lib.hid (Sr.self Ea.out p4)
      have Sb := Lib.hid (Sr.self Eb.out p5)
      have Sq := Lib.hid (Sr.of hq)
      clear hq hs hq0 p4 p5 HR
      go_wp2_with fail
      refine (pMultiplySeries_L _ _ n n _ _ _ _ Lq Lb _ Sq.out.1 Sb.out.1 (by omega) (by omega) (Nat.le_refl _) (Nat.le_refl _) Rq.out Rb.out).mono ?_
      rintro e u2 hN
      obtain ⟨Lx, Ax, cx, rfl, capx, sx, rx, y⟩ := hN.sr (mul_sr p1 p2 Sq.out Sb.out)
      replace Ra := Lib.hid (Ra.out.next y)
      replace Rb := Lib.hid (Rb.out.next y)
      replace Rq := Lib.hid (Rq.out.next y)
      replace B := Lib.hid (below_step B.out B.out.size y)
      clear y
      have Sx := Lib.hid sx
      have Rx := Lib.hid rx
      clear sx rx
      go_wp2_with fail
      refine (pMultiplySeries_L _ _ n n _ _ _ _ La Lb _ Sa.out.1 Sb.out.1 (by omega) (by omega) (Nat.le_refl _) (Nat.le_refl _) Ra.out Rb.out).mono ?_
      rintro e u3 hN
      obtain ⟨Lpr, Apr, cpr, rfl, cappr, spr, rpr, y⟩ := hN.sr (mul_sr p1 p2 Sa.out Sb.out)
      replace Ra := Lib.hid (Ra.out.next y)
      replace Rb := Lib.hid (Rb.out.next y)
      replace Rq := Lib.hid (Rq.out.next y)
      replace Rx := Lib.hid (Rx.out.next y)
      replace B := Lib.hid (below_step B.out B.out.size y)
      clear y
      have Spr := Lib.hid spr
      have Rpr := Lib.hid rpr
      clear spr rpr
      go_wp2_with fail
      refine (pDeriveSeries_L _ n _ _ Lpr _ Spr.out.1 (by omega) (Nat.le_refl _) Rpr.out ).mono ?_
      rintro e u4 hN
      obtain ⟨Ll, Al, cl, rfl, capl, sl, rl, y⟩ := hN.sr (derSerA_yes (isSer_of p1 p2 Spr.out.1 Spr.out.2.1) Spr.out.1)
      replace Ra := Lib.hid (Ra.out.next y)
      replace Rb := Lib.hid (Rb.out.next y)
      replace Rq := Lib.hid (Rq.out.next y)
      replace Rx := Lib.hid (Rx.out.next y)
      replace Rpr := Lib.hid (Rpr.out.next y)
      replace B := Lib.hid (below_step B.out B.out.size y)
      clear y
      have Sl := Lib.hid sl
      have Rl := Lib.hid rl
      clear sl rl
      go_wp2_with fail
      refine (pDeriveSeries_L _ n _ _ La _ Sa.out.1 (by omega) (Nat.le_refl _) Ra.out ).mono ?_
      rintro e u5 hN
      obtain ⟨Lp, Ap, cp, rfl, capp, sp, rp, y⟩ := hN.sr (derSerA_yes (isSer_of p1 p2 Sa.out.1 Sa.out.2.1) Sa.out.1)
      replace Ra := Lib.hid (Ra.out.next y)
      replace Rb := Lib.hid (Rb.out.next y)
      replace Rq := Lib.hid (Rq.out.next y)
      replace Rx := Lib.hid (Rx.out.next y)
      replace Rpr := Lib.hid (Rpr.out.next y)
      replace Rl := Lib.hid (Rl.out.next y)
      replace B := Lib.hid (below_step B.out B.out.size y)
      clear y
      have Sp := Lib.hid sp
      have Rp := Lib.hid rp
      clear sp rp
      go_wp2_with fail
      refine (pDeriveSeries_L _ n _ _ Lb _ Sb.out.1 (by omega) (Nat.le_refl _) Rb.out ).mono ?_
      rintro e u6 hN
      obtain ⟨Lr, Ar, cr, rfl, capr, sr, rr, y⟩ := hN.sr (derSerA_yes (isSer_of p1 p2 Sb.out.1 Sb.out.2.1) Sb.out.1)
      replace Ra := Lib.hid (Ra.out.next y)
      replace Rb := Lib.hid (Rb.out.next y)
      replace Rq := Lib.hid (Rq.out.next y)
      replace Rx := Lib.hid (Rx.out.next y)
      replace Rpr := Lib.hid (Rpr.out.next y)
      replace Rl := Lib.hid (Rl.out.next y)
      replace Rp := Lib.hid (Rp.out.next y)
      replace B := Lib.hid (below_step B.out B.out.size y)
      clear y
      have Sr := Lib.hid sr
      have Rr := Lib.hid rr
      clear sr rr
      go_wp2_with fail
      refine (pMultiplySeries_L _ _ n n _ _ _ _ Lp Lb _ Sp.out.1 Sb.out.1 (by omega) (by omega) (Nat.le_refl _) (Nat.le_refl _) Rp.out Rb.out).mono ?_
      rintro e u7 hN
      obtain ⟨Lf, Af, cf, rfl, capf, sf, rf, y⟩ := hN.sr (mul_sr p1 p2 Sp.out Sb.out)
      replace Ra := Lib.hid (Ra.out.next y)
      replace Rb := Lib.hid (Rb.out.next y)
      replace Rq := Lib.hid (Rq.out.next y)
      replace Rx := Lib.hid (Rx.out.next y)
      replace Rpr := Lib.hid (Rpr.out.next y)
      replace Rl := Lib.hid (Rl.out.next y)
      replace Rp := Lib.hid (Rp.out.next y)
      replace Rr := Lib.hid (Rr.out.next y)
      replace B := Lib.hid (below_step B.out B.out.size y)
      clear y
      have Sf := Lib.hid sf
      have Rf := Lib.hid rf
      clear sf rf
      go_wp2_with fail
      refine (pMultiplySeries_L _ _ n n _ _ _ _ La Lr _ Sa.out.1 Sr.out.1 (by omega) (by omega) (Nat.le_refl _) (Nat.le_refl _) Ra.out Rr.out).mono ?_
      rintro e u8 hN
      obtain ⟨Ls, As, cs, rfl, caps, ss, rs, y⟩ := hN.sr (mul_sr p1 p2 Sa.out Sr.out)
      replace Ra := Lib.hid (Ra.out.next y)
      replace Rb := Lib.hid (Rb.out.next y)
      replace Rq := Lib.hid (Rq.out.next y)
      replace Rx := Lib.hid (Rx.out.next y)
      replace Rpr := Lib.hid (Rpr.out.next y)
      replace Rl := Lib.hid (Rl.out.next y)
      replace Rp := Lib.hid (Rp.out.next y)
      replace Rr := Lib.hid (Rr.out.next y)
      replace Rf := Lib.hid (Rf.out.next y)
      replace B := Lib.hid (below_step B.out B.out.size y)
      clear y
      have Ss := Lib.hid ss
      have Rs := Lib.hid rs
      clear ss rs
      go_wp2_with fail
      refine (pAddSeries_L _ _ n n _ _ _ _ Lf Ls _ Sf.out.1 Ss.out.1 (by omega) (by omega) (Nat.le_refl _) (Nat.le_refl _) Rf.out Rs.out).mono ?_
      rintro e u9 hN
      obtain ⟨Lt, At, ct, rfl, capt, st, rt, y⟩ := hN.sr (add_sr p1 p2 Sf.out Ss.out)
      replace Ra := Lib.hid (Ra.out.next y)
      replace Rb := Lib.hid (Rb.out.next y)
      replace Rq := Lib.hid (Rq.out.next y)
      replace Rx := Lib.hid (Rx.out.next y)
      replace Rpr := Lib.hid (Rpr.out.next y)
      replace Rl := Lib.hid (Rl.out.next y)
      replace Rp := Lib.hid (Rp.out.next y)
      replace Rr := Lib.hid (Rr.out.next y)
      replace Rf := Lib.hid (Rf.out.next y)
      replace Rs := Lib.hid (Rs.out.next y)
      replace B := Lib.hid (below_step B.out B.out.size y)
      clear y
      have St := Lib.hid st
      have Rt := Lib.hid rt
      clear st rt
      go_wp2_with fail
      refine (pIntegrateSeries_L _ n _ _ Lp _ Sp.out.1 (by omega) (Nat.le_refl _) Rp.out ).mono ?_
      rintro e u10 hN
      obtain ⟨Lg, Ag, cg, rfl, capg, sg, rg, y⟩ := hN.sr (intSerA_yes (isSer_of p1 p2 Sp.out.1 Sp.out.2.1) Sp.out.1)
      replace Ra := Lib.hid (Ra.out.next y)
      replace Rb := Lib.hid (Rb.out.next y)
      replace Rq := Lib.hid (Rq.out.next y)
      replace Rx := Lib.hid (Rx.out.next y)
      replace Rpr := Lib.hid (Rpr.out.next y)
      replace Rl := Lib.hid (Rl.out.next y)
      replace Rp := Lib.hid (Rp.out.next y)
      replace Rr := Lib.hid (Rr.out.next y)
      replace Rf := Lib.hid (Rf.out.next y)
      replace Rs := Lib.hid (Rs.out.next y)
      replace Rt := Lib.hid (Rt.out.next y)
      replace B := Lib.hid (below_step B.out B.out.size y)
      clear y
      have Sg := Lib.hid sg
      have Rg := Lib.hid rg
      clear sg rg
      clear Rq
      clear Rb
      clear Rpr
      clear Rr
      clear Rf
      clear Rs
      clear Rp
      have tn : ((n : Int) != (n : Int)) = false := bne_f rfl
      have n1 : (1 : Int) ≤ (n : Int) := by omega
      have n0 : (0 : Int) < (n : Int) := by omega
      obtain ⟨bg, og, rfl, hbg, hcg⟩ := Rg.out.addr (by rw [Sg.out.1]; omega)
      rw [again_0 p1 Sg.out] at hcg
      obtain ⟨ba, oa, rfl, hba, _⟩ := Ra.out.addr (by rw [Sa.out.1]; omega)
      have e0 : Lx = La := back_is p1 HQ0.out Sa.out Sb.out Sx.out
      go_wp2_with fail
      refine (likeInts_yes _ _ n n _ _ Lx La _ e0 Sx.out.1 Sa.out.1 (by omega) Rx.out Ra.out).mono ?_
      rintro e v ⟨rfl, j0, rfl⟩
      clear e0
      replace Ra := Lib.hid (Ra.out.drew j0)
      replace Rx := Lib.hid (Rx.out.drew j0)
      replace Rl := Lib.hid (Rl.out.drew j0)
      replace Rt := Lib.hid (Rt.out.drew j0)
      replace Rg := Lib.hid (Rg.out.drew j0)
      replace B := Lib.hid (below_drewN B.out j0)
      clear Rx
      go_wp2_with fail
      have hw : IntKind.i64.wrap ((n : Int) - 1) = ((n - 1 : Nat) : Int) := by rw [IntWalk.i64_in _ (by omega)]; omega
      have k0 : (0 : Int) ≤ ((n - 1 : Nat) : Int) := by omega
      have kl : ((n - 1 : Nat) : Int) ≤ (cl : Int) := by omega
      have kt : ((n - 1 : Nat) : Int) ≤ (ct : Int) := by omega
      have E1 := Lib.hid (rule_is p1 Spr.out Sl.out St.out)
      have E2 := Lib.hid (again_is p2 Sa.out Sp.out Sg.out)
      have T1 := Lib.hid (show (Ll.take (n - 1)).length = n - 1 by rw [List.length_take, Sl.out.1]; omega)
      have T2 := Lib.hid (show (Lt.take (n - 1)).length = n - 1 by rw [List.length_take, St.out.1]; omega)
      have T3 := Lib.hid (show (Lg.drop 1).length = n - 1 by rw [List.length_drop, Sg.out.1])
      have T4 := Lib.hid (show (La.drop 1).length = n - 1 by rw [List.length_drop, Sa.out.1])
      have capg' := capg
      have H3 := Lib.hid (Rg.out.drop1 cg (by intro h; rw [T3.out]; omega))
      have H4 := Lib.hid (Ra.out.drop1 ca (by intro h; rw [T4.out]; omega))
      by_cases hg1 : cg = 1 <;> by_cases ha1 : ca = 1 <;> simp only [hg1, ha1, if_true, if_false] at H3 H4
      all_goals go_quiet ((go_at_call 16; first | exact Calls.quiet_of (likeInts_yes _ _ (n - 1) (n - 1) _ _ (Ll.take (n - 1)) (Lt.take (n - 1)) _ E1.out T1.out T2.out (by omega) (by exact Rl.out.take _) (by exact Rt.out.take _)) | exact quiet_like (likeInts_yes _ _ (n - 1) (n - 1) _ _ (Ll.take (n - 1)) (Lt.take (n - 1)) _ E1.out T1.out T2.out (by omega) (by exact Rl.out.take _) (by exact Rt.out.take _)) | exact Calls.quiet_of (likeInts_yes _ _ (n - 1) (n - 1) _ _ (Lg.drop 1) (La.drop 1) _ E2.out T3.out T4.out (by omega) (by exact H3.out) (by exact H4.out)) | exact quiet_like (likeInts_yes _ _ (n - 1) (n - 1) _ _ (Lg.drop 1) (La.drop 1) _ E2.out T3.out T4.out (by omega) (by exact H3.out) (by exact H4.out))))
      all_goals (go_wp2; go_ret; exact ⟨rfl, below_drewN B.out _⟩)
    · have tz := bne_t hk
      clear hk
      go_wp2
      go_ret
      exact ⟨rfl, B.out⟩
  · have t0 : decide ((4096 : Int) < len0) = true := decide_eq_true (by omega)
    go_enter Try.func3, Try.ntmps3
    go_wp2_with fail
    refine (big_any _ _ _ _ (by omega)).mono ?_
    rintro e w' ⟨rfl, rfl⟩
    go_wp2
    go_ret
    exact ⟨rfl, Below.refl _ _⟩
/-- the statement -/
theorem holds : Rows.FnSeriesProductsSaid := of_walk walk
end Go.Proofs.Ytjdanhjonjmccab.fnSeriesProducts
