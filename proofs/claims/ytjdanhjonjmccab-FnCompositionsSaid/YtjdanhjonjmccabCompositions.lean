/-
  PROVED: for every code the law FnCompositions returns true: composition is associative, the chain rule but for the last coefficient, values of scaled series.
  CONDITIONS: none; every slice of bytes.
-/
import Derived.Test.YtjdanhjonjmccabLike
import Derived.Test.YtjdanhjonjmccabSerMul
import Derived.Test.YtjdanhjonjmccabSerCom
import Derived.Test.YtjdanhjonjmccabSerDer
import Derived.Test.YtjdanhjonjmccabSerScale
import Derived.Test.YtjdanhjonjmccabSerEval
import Derived.Test.YtjdanhjonjmccabFFnCompositions
namespace Go.Proofs.Ytjdanhjonjmccab.fnCompositions
open Go.ChangeShapes Go.WideShapes Go.ChangeAt Go.RowKit Fld Ser
set_option linter.unusedVariables false
set_option linter.unusedSimpArgs false
set_option maxRecDepth 100000

theorem com_ok {a b q : List Int} (h : comSerA a b = (q, 0)) : areSer a b = true ∧ co b 0 = 0 := by
  unfold comSerA at h
  split at h
  · split at h
    · exact ⟨by assumption, by assumption⟩
    · simp at h
  · simp at h
theorem com_sr {n : Nat} {a b : List Int} {f g : Nat → Int} (p1 : 1 ≤ n) (p2 : n ≤ 16) (h : Sr n a f) (h' : Sr n b g) (h0 : co b 0 = 0) : comSerA a b = (cl n (cmp f g), 0) := by
  rw [comSerA_yes (areSer_of p1 p2 h.1 h'.1 h.2.1 h'.2.1) h0 h.1, cl_cg (h.2.2.cmp h'.2.2)]
theorem inner_zero {n : Nat} {x : List Int} {f g : Nat → Int} (p1 : 1 ≤ n) (f0 : f 0 = 0) (hx : Sr n x (cmp f g)) : co x 0 = 0 := by
  rw [hx.at (by omega), cmp_at0, f0]; rfl
theorem both_are {n : Nat} {f g h : Nat → Int} {x y : List Int} (g0 : g 0 = 0) (h0 : h 0 = 0) (hx : Sr n x (cmp f (cmp g h))) (hy : Sr n y (cmp (cmp f g) h)) : x = y :=
  hx.eq hy (Cg.of_eq (cmp_assoc f g0 h0).symm)
theorem chain_is {n : Nat} {f g : Nat → Int} {c x y : List Int} (p1 : 1 ≤ n) (g0 : g 0 = 0) (hc : Sr n c (cmp f g)) (hx : Sr n x (cv (cmp (dv f) g) (dv g))) (hy : Sr n y (dv (co c))) : x.take (n - 1) = y.take (n - 1) := by
  refine hx.take hy (by omega) ?_
  obtain ⟨N, rfl⟩ : ∃ N, n = N + 1 := ⟨n - 1, by omega⟩
  rw [Nat.add_sub_cancel, ← dv_cmp f g0]
  exact hc.2.2.symm.dv
theorem scaled_is {n : Nat} {k z : Int} {a s : List Int} (hs : Sr n s (scl k (co a))) : evT z (co s) n = evT (k * z % 10007) (co a) n := by
  unfold evT
  refine sm_eqm (fun j hj => ?_)
  refine ((hs.2.2 j hj).mul (pw_eqm z j)).trans ?_
  show Eqm (co a j * pw k j * z ^ j) (co a j * pw (k * z % 10007) j)
  rw [Int.mul_assoc]
  refine (Eqm.refl _).mul ?_
  refine ((pw_eqm k j).mul (Eqm.refl _)).trans ?_
  rw [← Int.mul_pow]
  exact ((Eqm.mod (k * z)).pow j).symm.trans (pw_eqm _ j).symm
theorem evalI {r : Int × Int} {v : Int} {w w' : World} {e : Ending} (h : ResI r w e w') (hr : r = (v, 0)) : e = .returned (.tuple #[.int .i64 v, .int .i64 0]) ∧ Below w.heap.size w w' := by
  subst hr; exact h

set_option maxRecDepth 100000 in
set_option maxHeartbeats 4000000 in
theorem walk (w : World) (a0 : Option Addr) (len0 cap0 : Nat) (z0 : List Int) (w0 : IsRow .u8 w a0 len0 cap0 z0) : Calls Try.prog 6 #[.slice a0 len0 cap0] w fun e w' => e = .returned (.bool true) ∧ Below w.heap.size w w' := by
  have hcode := isCode_of w0
  have hcm := w0.2.2.1
  have hlc := w0.2.1
  unfold maxLen at hcm
  have HX := Lib.hid hcode
  clear hcode w0
  by_cases hn : len0 ≤ 4096
  · have t0 : decide ((4096 : Int) < len0) = false := decide_eq_false (by omega)
    go_enter Try.func6, Try.ntmps6
    go_wp2_with fail
    refine (big_any _ _ _ _ (by omega)).mono ?_
    rintro e w' ⟨rfl, rfl⟩
    go_wp2_with fail
    refine (drawComposeSeries_any _ _ _ _ _ hn HX.out).mono ?_
    rintro e u1 ⟨Aa, ca, m, La, Ab, cb, n, Lb, rfl, la, hm64, ra, lb, hn64, rb, b1, capa⟩
    have Ra := Lib.hid (show Lst u1 Aa La from ra)
    have Rb := Lib.hid (show Lst u1 Ab Lb from rb)
    have B := Lib.hid b1
    have Ea := Lib.hid la
    have Eb := Lib.hid lb
    clear ra rb b1 la lb
    go_wp2_with fail
    refine (pComposeSeries_L _ _ m n _ _ _ _ La Lb _ Ea.out Eb.out (by omega) (by omega) (Nat.le_refl _) (Nat.le_refl _) Ra.out Rb.out).mono ?_
    rintro e u2 hN
    obtain ⟨Lq, kk, l, Aq, cq, hr, rfl, lq, hl, rq, y⟩ := hN.any
    replace Ra := Lib.hid (Ra.out.next y)
    replace Rb := Lib.hid (Rb.out.next y)
    replace B := Lib.hid (below_step B.out B.out.size y)
    have HR := Lib.hid hr
    have Eq := Lib.hid lq
    have Rq := Lib.hid rq
    clear hr lq rq y
    go_wp2_with fail
    refine (sComposeSeries_L _ _ m n _ _ _ _ La Lb _ Ea.out Eb.out (by omega) (by omega) (Nat.le_refl _) (Nat.le_refl _) Ra.out Rb.out).mono ?_
    rintro e u3 hN
    obtain ⟨Av, cv', rfl, rv, y⟩ := hN.at HR.out Eq.out
    replace Ra := Lib.hid (Ra.out.next y)
    replace Rb := Lib.hid (Rb.out.next y)
    replace B := Lib.hid (below_step B.out B.out.size y)
    replace Rq := Lib.hid (Rq.out.next y)
    clear y
    have tk : (kk != kk) = false := bne_f rfl
    go_wp2_with fail
    refine (likeInts_yes _ _ l l _ _ Lq Lq _ rfl Eq.out Eq.out (by omega) Rq.out rv).mono ?_
    rintro e v ⟨rfl, j, rfl⟩
    clear rv
    replace Ra := Lib.hid (Ra.out.drew j)
    replace Rb := Lib.hid (Rb.out.drew j)
    replace Rq := Lib.hid (Rq.out.drew j)
    replace B := Lib.hid (below_drewN B.out j)
    by_cases hk : kk = 0
    · subst hk
      obtain ⟨hs, hq0⟩ := com_ok HR.out
      obtain ⟨p1, p2, hnm, p4, p5⟩ := areSer_parts hs Ea.out Eb.out
      subst hnm
      have hq : Lq = cl n (cmp (co La) (co Lb)) := by have := HR.out.symm.trans (comSerA_yes hs hq0 Ea.out); injection this
      have hln : n = l := by rw [← Eq.out, hq, cl_length]
      subst hln
      have Zb := Lib.hid hq0
      have Sa := Lib.hid (Sr.self Ea.out p4)
      have Sb := Lib.hid (Sr.self Eb.out p5)
      have Sq := Lib.hid (Sr.of hq)
      clear hq hs hq0 p4 p5 HR Ea Eb Eq
      have n0 : (0 : Int) < (n : Int) := by omega
      have Ka := Lib.hid (Low.of Ra.out)
      have Kb := Lib.hid (Low.of Rb.out)
      have Kq := Lib.hid (Low.of Rq.out)
      have X := Lib.hid (HX.out.below (show Below w.heap.size w _ from B.out))
      go_wp2_with fail
      refine (roll_any _ _ _ _ _ _ _ X.out.1 hn (Nat.le_refl _) X.out.2.1 X.out.2.2).mono ?_
      rintro e u2 ⟨G, rfl, hG, src, y⟩
      have SRC := Lib.hid src
      clear src X
      have hGw : w.heap.size ≤ G := Nat.le_trans B.out.size hG
      replace Ra := Lib.hid (Ra.out.next y)
      replace Rb := Lib.hid (Rb.out.next y)
      replace Rq := Lib.hid (Rq.out.next y)
      replace Ka := Lib.hid (Ka.out.next y)
      replace Kb := Lib.hid (Kb.out.next y)
      replace Kq := Lib.hid (Kq.out.next y)
      replace B := Lib.hid (below_step B.out B.out.size y)
      clear y
      go_wp2_with fail
      refine (list5_any G _ _ n _ hn64 SRC.out).mono ?_
      rintro e u3 ⟨g, cc, n5, ys, rfl, ly, ⟨ly2, ny⟩, own, src, o⟩
      obtain rfl : n = n5 := by omega
      replace Ka := Lib.hid (Ka.out.only o hG)
      replace Kb := Lib.hid (Kb.out.only o hG)
      replace Kq := Lib.hid (Kq.out.only o hG)
      have gw := (own.lt g rfl).1
      have hGl := SRC.out.lt
      replace B := Lib.hid (below_only B.out o B.out.size hGw)
      have hf := own.frozenAt 0
      have ho := own.cellAt 0 (by omega)
      obtain ⟨x0, hx0⟩ := at_lt (show 0 < ys.length by omega)
      rw [ints_at hx0] at ho
      have own2 := (own.stored 0 (.int .i64 0)).1
      have o2 := (own.stored 0 (.int .i64 0)).2
      rw [ints_put] at own2
      replace Ka := Lib.hid (Ka.out.only o2 (by omega))
      replace Kb := Lib.hid (Kb.out.only o2 (by omega))
      replace Kq := Lib.hid (Kq.out.only o2 (by omega))
      replace SRC := Lib.hid (src.put (g := g) (k := 0) (v := .int .i64 0) (by omega) (by omega))
      replace B := Lib.hid (below_set B.out (g := g) (k := 0) (by omega) (.int .i64 0))
      obtain ⟨Lc, hL⟩ : ∃ L, L = ys.set 0 0 := ⟨_, rfl⟩
      rw [← hL] at own2
      have Sc := Lib.hid (show Sr n Lc (co Lc) from hL ▸ Sr.self (by rw [List.length_set]; exact ly) (nums_put ny (by decide) (by decide)))
      have Zc : Hid (co Lc 0 = 0) := by unfold Hid; rw [hL, co_put 0 (by omega), if_pos rfl]
      have Rc := Lib.hid (show Lst _ _ Lc from row_of_own own2)
      have Ra := Lib.hid Ka.out.lst
      have Rb := Lib.hid Kb.out.lst
      have Rq := Lib.hid Kq.out.lst
      have HY := Lib.hid ly
      clear own own2 o o2 hx0 hL ly ly2 ny src
      go_wp2_with fail
      clear ho hf HY
      clear Kb Kq
      go_wp2_with fail
      refine (pComposeSeries_L _ _ n n _ _ _ _ Lb Lc _ Sb.out.1 Sc.out.1 (by omega) (by omega) (Nat.le_refl _) (Nat.le_refl _) Rb.out Rc.out).mono ?_
      rintro e u4 hN
      obtain ⟨Li, Ai, ci, rfl, capi, si, ri, y⟩ := hN.sr (com_sr p1 p2 Sb.out Sc.out Zc.out)
      replace Ra := Lib.hid (Ra.out.next y)
      replace Rb := Lib.hid (Rb.out.next y)
      replace Rq := Lib.hid (Rq.out.next y)
      replace Rc := Lib.hid (Rc.out.next y)
      replace Ka := Lib.hid (Ka.out.next y)
      replace SRC := Lib.hid (SRC.out.below y)
      replace B := Lib.hid (below_step B.out B.out.size y)
      clear y
      have Si := Lib.hid si
      have Ri := Lib.hid ri
      clear si ri
      go_wp2_with fail
      refine (pComposeSeries_L _ _ n n _ _ _ _ La Li _ Sa.out.1 Si.out.1 (by omega) (by omega) (Nat.le_refl _) (Nat.le_refl _) Ra.out Ri.out).mono ?_
      rintro e u5 hN
      obtain ⟨Ll, Al, cl, rfl, capl, sl, rl, y⟩ := hN.sr (com_sr p1 p2 Sa.out Si.out (inner_zero p1 Zb.out Si.out))
      replace Ra := Lib.hid (Ra.out.next y)
      replace Rb := Lib.hid (Rb.out.next y)
      replace Rq := Lib.hid (Rq.out.next y)
      replace Rc := Lib.hid (Rc.out.next y)
      replace Ri := Lib.hid (Ri.out.next y)
      replace Ka := Lib.hid (Ka.out.next y)
      replace SRC := Lib.hid (SRC.out.below y)
      replace B := Lib.hid (below_step B.out B.out.size y)
      clear y
      have Sl := Lib.hid sl
      have Rl := Lib.hid rl
      clear sl rl
      go_wp2_with fail
      refine (pComposeSeries_L _ _ n n _ _ _ _ Lq Lc _ Sq.out.1 Sc.out.1 (by omega) (by omega) (Nat.le_refl _) (Nat.le_refl _) Rq.out Rc.out).mono ?_
      rintro e u6 hN
      obtain ⟨Lr, Ar, cr, rfl, capr, sr, rr, y⟩ := hN.sr (com_sr p1 p2 Sq.out Sc.out Zc.out)
      replace Ra := Lib.hid (Ra.out.next y)
      replace Rb := Lib.hid (Rb.out.next y)
      replace Rq := Lib.hid (Rq.out.next y)
      replace Rc := Lib.hid (Rc.out.next y)
      replace Ri := Lib.hid (Ri.out.next y)
      replace Rl := Lib.hid (Rl.out.next y)
      replace Ka := Lib.hid (Ka.out.next y)
      replace SRC := Lib.hid (SRC.out.below y)
      replace B := Lib.hid (below_step B.out B.out.size y)
      clear y
      have Sr := Lib.hid sr
      have Rr := Lib.hid rr
      clear sr rr
      go_wp2_with fail
      refine (pDeriveSeries_L _ n _ _ La _ Sa.out.1 (by omega) (Nat.le_refl _) Ra.out ).mono ?_
      rintro e u7 hN
      obtain ⟨Lp, Ap, cp, rfl, capp, sp, rp, y⟩ := hN.sr (derSerA_yes (isSer_of p1 p2 Sa.out.1 Sa.out.2.1) Sa.out.1)
      replace Ra := Lib.hid (Ra.out.next y)
      replace Rb := Lib.hid (Rb.out.next y)
      replace Rq := Lib.hid (Rq.out.next y)
      replace Rc := Lib.hid (Rc.out.next y)
      replace Ri := Lib.hid (Ri.out.next y)
      replace Rl := Lib.hid (Rl.out.next y)
      replace Rr := Lib.hid (Rr.out.next y)
      replace Ka := Lib.hid (Ka.out.next y)
      replace SRC := Lib.hid (SRC.out.below y)
      replace B := Lib.hid (below_step B.out B.out.size y)
      clear y
      have Sp := Lib.hid sp
      have Rp := Lib.hid rp
      clear sp rp
      go_wp2_with fail
      refine (pDeriveSeries_L _ n _ _ Lb _ Sb.out.1 (by omega) (Nat.le_refl _) Rb.out ).mono ?_
      rintro e u8 hN
      obtain ⟨Ld, Ad, cd, rfl, capd, sd, rd, y⟩ := hN.sr (derSerA_yes (isSer_of p1 p2 Sb.out.1 Sb.out.2.1) Sb.out.1)
      replace Ra := Lib.hid (Ra.out.next y)
      replace Rb := Lib.hid (Rb.out.next y)
      replace Rq := Lib.hid (Rq.out.next y)
      replace Rc := Lib.hid (Rc.out.next y)
      replace Ri := Lib.hid (Ri.out.next y)
      replace Rl := Lib.hid (Rl.out.next y)
      replace Rr := Lib.hid (Rr.out.next y)
      replace Rp := Lib.hid (Rp.out.next y)
      replace Ka := Lib.hid (Ka.out.next y)
      replace SRC := Lib.hid (SRC.out.below y)
      replace B := Lib.hid (below_step B.out B.out.size y)
      clear y
      have Sd := Lib.hid sd
      have Rd := Lib.hid rd
      clear sd rd
      go_wp2_with fail
      refine (pComposeSeries_L _ _ n n _ _ _ _ Lp Lb _ Sp.out.1 Sb.out.1 (by omega) (by omega) (Nat.le_refl _) (Nat.le_refl _) Rp.out Rb.out).mono ?_
      rintro e u9 hN
      obtain ⟨Lo, Ao, co, rfl, capo, so, ro, y⟩ := hN.sr (com_sr p1 p2 Sp.out Sb.out Zb.out)
      replace Ra := Lib.hid (Ra.out.next y)
      replace Rb := Lib.hid (Rb.out.next y)
      replace Rq := Lib.hid (Rq.out.next y)
      replace Rc := Lib.hid (Rc.out.next y)
      replace Ri := Lib.hid (Ri.out.next y)
      replace Rl := Lib.hid (Rl.out.next y)
      replace Rr := Lib.hid (Rr.out.next y)
      replace Rp := Lib.hid (Rp.out.next y)
      replace Rd := Lib.hid (Rd.out.next y)
      replace Ka := Lib.hid (Ka.out.next y)
      replace SRC := Lib.hid (SRC.out.below y)
      replace B := Lib.hid (below_step B.out B.out.size y)
      clear y
      have So := Lib.hid so
      have Ro := Lib.hid ro
      clear so ro
      go_wp2_with fail
      refine (pMultiplySeries_L _ _ n n _ _ _ _ Lo Ld _ So.out.1 Sd.out.1 (by omega) (by omega) (Nat.le_refl _) (Nat.le_refl _) Ro.out Rd.out).mono ?_
      rintro e u10 hN
      obtain ⟨Lf, Af, cf, rfl, capf, sf, rf, y⟩ := hN.sr (mul_sr p1 p2 So.out Sd.out)
      replace Ra := Lib.hid (Ra.out.next y)
      replace Rb := Lib.hid (Rb.out.next y)
      replace Rq := Lib.hid (Rq.out.next y)
      replace Rc := Lib.hid (Rc.out.next y)
      replace Ri := Lib.hid (Ri.out.next y)
      replace Rl := Lib.hid (Rl.out.next y)
      replace Rr := Lib.hid (Rr.out.next y)
      replace Rp := Lib.hid (Rp.out.next y)
      replace Rd := Lib.hid (Rd.out.next y)
      replace Ro := Lib.hid (Ro.out.next y)
      replace Ka := Lib.hid (Ka.out.next y)
      replace SRC := Lib.hid (SRC.out.below y)
      replace B := Lib.hid (below_step B.out B.out.size y)
      clear y
      have Sf := Lib.hid sf
      have Rf := Lib.hid rf
      clear sf rf
      go_wp2_with fail
      refine (pDeriveSeries_L _ n _ _ Lq _ Sq.out.1 (by omega) (Nat.le_refl _) Rq.out ).mono ?_
      rintro e u11 hN
      obtain ⟨Ls, As, cs, rfl, caps, ss, rs, y⟩ := hN.sr (derSerA_yes (isSer_of p1 p2 Sq.out.1 Sq.out.2.1) Sq.out.1)
      replace Ra := Lib.hid (Ra.out.next y)
      replace Rb := Lib.hid (Rb.out.next y)
      replace Rq := Lib.hid (Rq.out.next y)
      replace Rc := Lib.hid (Rc.out.next y)
      replace Ri := Lib.hid (Ri.out.next y)
      replace Rl := Lib.hid (Rl.out.next y)
      replace Rr := Lib.hid (Rr.out.next y)
      replace Rp := Lib.hid (Rp.out.next y)
      replace Rd := Lib.hid (Rd.out.next y)
      replace Ro := Lib.hid (Ro.out.next y)
      replace Rf := Lib.hid (Rf.out.next y)
      replace Ka := Lib.hid (Ka.out.next y)
      replace SRC := Lib.hid (SRC.out.below y)
      replace B := Lib.hid (below_step B.out B.out.size y)
      clear y
      have Ss := Lib.hid ss
      have Rs := Lib.hid rs
      clear ss rs
      have tn : ((n : Int) != (n : Int)) = false := bne_f rfl
      have n1 : (1 : Int) ≤ (n : Int) := by omega
      have hw : IntKind.i64.wrap ((n : Int) - 1) = ((n - 1 : Nat) : Int) := by rw [IntWalk.i64_in _ (by omega)]; omega
      have k0 : (0 : Int) ≤ ((n - 1 : Nat) : Int) := by omega
      have kf : ((n - 1 : Nat) : Int) ≤ (cf : Int) := by omega
      have ks : ((n - 1 : Nat) : Int) ≤ (cs : Int) := by omega
      have E0 := Lib.hid (both_are Zb.out Zc.out Sl.out Sr.out)
      have E1 := Lib.hid (chain_is p1 Zb.out Sq.out Sf.out Ss.out)
      have T1 := Lib.hid (show (Lf.take (n - 1)).length = n - 1 by rw [List.length_take, Sf.out.1]; omega)
      have T2 := Lib.hid (show (Ls.take (n - 1)).length = n - 1 by rw [List.length_take, Ss.out.1]; omega)
      go_wp2_with fail
      refine wp_region_quiet_lit (by kernel_rfl) (by kernel_rfl) ?_
      iterate 19 (go_big_quiet_step ((go_at_call 16; first | exact Calls.quiet_of (likeInts_yes _ _ n n _ _ Ll Lr _ E0.out Sl.out.1 Sr.out.1 (by omega) (by exact Rl.out) (by exact Rr.out)) | exact quiet_like (likeInts_yes _ _ n n _ _ Ll Lr _ E0.out Sl.out.1 Sr.out.1 (by omega) (by exact Rl.out) (by exact Rr.out)))))
      repeat (go_big_quiet_step ((go_at_call 16; first | exact Calls.quiet_of (likeInts_yes _ _ (n - 1) (n - 1) _ _ (Lf.take (n - 1)) (Ls.take (n - 1)) _ E1.out T1.out T2.out (by omega) (by exact Rf.out.take _) (by exact Rs.out.take _)) | exact quiet_like (likeInts_yes _ _ (n - 1) (n - 1) _ _ (Lf.take (n - 1)) (Ls.take (n - 1)) _ E1.out T1.out T2.out (by omega) (by exact Rf.out.take _) (by exact Rs.out.take _)))))
      refine wpQuiet_nil ?_
      intro _ hw'
      obtain ⟨nq, hw''⟩ := hw'
      subst hw''
      clear Rb Rq Rc Ri Rl Rr Rp Rd Ro Rf Rs
      replace Ra := Lib.hid (Ra.out.drew nq)
      replace Ka := Lib.hid (Ka.out.drew nq)
      replace SRC := Lib.hid (SRC.out.drew nq)
      replace B := Lib.hid (below_drewN B.out nq)
      clear Ra
      go_wp2_with fail
      refine (number5_any G _ _ _ SRC.out).mono ?_
      rintro e u12 ⟨k, rfl, hk, src, o⟩
      obtain ⟨k0, k1⟩ := hk
      replace Ka := Lib.hid (Ka.out.only o hG)
      replace B := Lib.hid (below_only B.out o B.out.size hGw)
      replace SRC := Lib.hid src
      clear src o
      go_wp2_with fail
      refine (number5_any G _ _ _ SRC.out).mono ?_
      rintro e u13 ⟨z, rfl, hz, src, o⟩
      obtain ⟨z0, z1⟩ := hz
      replace Ka := Lib.hid (Ka.out.only o hG)
      replace B := Lib.hid (below_only B.out o B.out.size hGw)
      replace SRC := Lib.hid src
      clear src o
      have Ra := Lib.hid Ka.out.lst
      clear SRC
      go_wp2_with fail
      refine (pScaleSeries_L _ n _ _ La k _ Sa.out.1 (by omega) (Nat.le_refl _) Ra.out (by omega)).mono ?_
      rintro e u14 hN
      obtain ⟨Lx, Ax, cx, rfl, capx, sx, rx, y⟩ := hN.sr (scaleSerA_yes (isSer_of p1 p2 Sa.out.1 Sa.out.2.1) (isNum_iff.2 ⟨by omega, by omega⟩) Sa.out.1)
      replace Ra := Lib.hid (Ra.out.next y)
      replace B := Lib.hid (below_step B.out B.out.size y)
      clear y
      have Sx := Lib.hid sx
      have Rx := Lib.hid rx
      clear sx rx
      go_wp2_with fail
      refine (pEvaluateSeries_L _ n _ _ Lx z _ Sx.out.1 (by omega) (Nat.le_refl _) Rx.out (by omega)).mono ?_
      rintro e u15 hN
      obtain ⟨rfl, y⟩ := evalI hN (evalSerA_yes (isSer_of p1 p2 Sx.out.1 Sx.out.2.1) (isNum_iff.2 ⟨by omega, by omega⟩) Sx.out.1)
      replace Ra := Lib.hid (Ra.out.next y)
      replace Rx := Lib.hid (Rx.out.next y)
      replace B := Lib.hid (below_step B.out B.out.size y)
      clear y
      have m0 : 0 ≤ k * z := Int.mul_nonneg (by omega) (by omega)
      have m1 : k * z ≤ 10006 * 10006 := Int.mul_le_mul (by omega) (by omega) (by omega) (by omega)
      go_wp2_with fail
      refine (mod5_any _ _).mono ?_
      rintro e w' ⟨rfl, rfl⟩
      go_wp2_with fail
      refine (pEvaluateSeries_L _ n _ _ La (k * z % 10007) _ Sa.out.1 (by omega) (Nat.le_refl _) Ra.out (by omega)).mono ?_
      rintro e u16 hN
      obtain ⟨rfl, y⟩ := evalI hN (evalSerA_yes (isSer_of p1 p2 Sa.out.1 Sa.out.2.1) (isNum_iff.2 ⟨by omega, by omega⟩) Sa.out.1)
      replace Ra := Lib.hid (Ra.out.next y)
      replace Rx := Lib.hid (Rx.out.next y)
      replace B := Lib.hid (below_step B.out B.out.size y)
      clear y
      rw [scaled_is Sx.out]
      generalize evT (k * z % 10007) (Go.Proofs.Ytjdanhjonjmccab.co La) n = v
      have tv : (v == v) = true := beq_t rfl
      go_wp2
      go_ret
      exact ⟨rfl, B.out⟩
    · have tz := bne_t hk
      clear hk
      go_wp2
      go_ret
      exact ⟨rfl, B.out⟩
  · have t0 : decide ((4096 : Int) < len0) = true := decide_eq_true (by omega)
    go_enter Try.func6, Try.ntmps6
    go_wp2_with fail
    refine (big_any _ _ _ _ (by omega)).mono ?_
    rintro e w' ⟨rfl, rfl⟩
    go_wp2
    go_ret
    exact ⟨rfl, Below.refl _ _⟩
/-- the statement -/
theorem holds : Rows.FnCompositionsSaid := of_walk walk
end Go.Proofs.Ytjdanhjonjmccab.fnCompositions
