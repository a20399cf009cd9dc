/-
  PROVED: for every code the law FnExponentials returns true: logarithms undo exponentials, exponentials of sums are products, exponents of powers are added.
  CONDITIONS: none; every slice of bytes.
-/
import Derived.Test.YtjdanhjonjmccabLike
import Derived.Test.YtjdanhjonjmccabSerAdd
import Derived.Test.YtjdanhjonjmccabSerMul
import Derived.Test.YtjdanhjonjmccabSerExp
import Derived.Test.YtjdanhjonjmccabSerLog
import Derived.Test.YtjdanhjonjmccabSerPow
import Derived.Test.YtjdanhjonjmccabFFnExponentials
namespace Go.Proofs.Ytjdanhjonjmccab.fnExponentials
open Go.ChangeShapes Go.WideShapes Go.ChangeAt Go.RowKit Fld Ser
set_option linter.unusedVariables false
set_option linter.unusedSimpArgs false
set_option maxRecDepth 100000

theorem exp_ok {a q : List Int} (h : expSerA a = (q, 0)) : isSer a = true ∧ co a 0 = 0 := by
  unfold expSerA at h
  split at h
  · split at h
    · exact ⟨by assumption, by assumption⟩
    · simp at h
  · simp at h
theorem exp_sr {n : Nat} {a : List Int} {f : Nat → Int} (p1 : 1 ≤ n) (p2 : n ≤ 16) (h : Sr n a f) (h0 : co a 0 = 0) : expSerA a = (cl n (xp f), 0) := by
  rw [expSerA_yes (isSer_of p1 p2 h.1 h.2.1) h0 h.1]
  exact congrArg (fun l => (l, (0 : Int))) (cl_cg ((Cg.refl n ex).cmp h.2.2))
theorem exp_one {n : Nat} {q : List Int} {f : Nat → Int} (p1 : 1 ≤ n) (h : Sr n q (xp f)) : co q 0 = 1 := by
  rw [h.at (by omega), xp_at0]; rfl
theorem log_is {n : Nat} {a q x : List Int} (p1 : 1 ≤ n) (p2 : n ≤ 16) (ha : Sr n a (co a)) (a0 : co a 0 = 0) (hq : Sr n q (xp (co a))) (hx : Sr n x (lgS n (co q))) : x = a := by
  refine hx.eq ha ?_
  have h1 := exp_one p1 hq
  obtain ⟨N, rfl⟩ : ∃ N, n = N + 1 := ⟨n - 1, by omega⟩
  have e1 : IsLog N (lgS (N + 1) (co q)) (co q) := lgS_ok (by omega) (by omega) h1
  have e2 : IsLog N (co a) (co q) := (isLog_xp (N := N) (by omega) a0).cg (Cg.refl _ _) hq.2.2.symm
  exact IsLog.one (by omega) (by rw [h1]; exact Eqm.refl _) e1 e2
theorem both_zero {n : Nat} {a c b : List Int} (p1 : 1 ≤ n) (a0 : co a 0 = 0) (c0 : co c 0 = 0) (hb : Sr n b (ad (co a) (co c))) : co b 0 = 0 := by
  rw [hb.at (by omega)]; show (co a 0 + co c 0) % 10007 = 0
  rw [a0, c0]; rfl
theorem sum_is {n : Nat} {f g : Nat → Int} {x y : List Int} (p1 : 1 ≤ n) (p2 : n ≤ 16) (f0 : f 0 = 0) (g0 : g 0 = 0) (hx : Sr n x (xp (ad f g))) (hy : Sr n y (cv (xp f) (xp g))) : x = y := by
  refine hx.eq hy ?_
  obtain ⟨N, rfl⟩ : ∃ N, n = N + 1 := ⟨n - 1, by omega⟩
  exact xp_ad (by omega) f0 g0
theorem powers_are {n : Nat} {k m : Int} {f : Nat → Int} {x y : List Int} (p1 : 1 ≤ n) (p2 : n ≤ 16) (f0 : f 0 = 0) (hx : Sr n x (cv (xp (sc k f)) (xp (sc m f)))) (hy : Sr n y (xp (sc ((k + m) % 10007) f))) : x = y := by
  refine hx.eq hy ?_
  have e0 : ∀ c : Int, sc c f 0 = 0 := fun c => by show c * f 0 = 0; rw [f0, Int.mul_zero]
  have e1 : ad (sc k f) (sc m f) = sc (k + m) f := funext fun i => by show k * f i + m * f i = (k + m) * f i; rw [Int.add_mul]
  obtain ⟨N, rfl⟩ : ∃ N, n = N + 1 := ⟨n - 1, by omega⟩
  refine (xp_ad (N := N) (by omega) (e0 k) (e0 m)).symm.trans ?_
  rw [e1]
  exact (Cg.refl _ ex).cmp (Cg.sc (Eqm.mod (k + m)).symm (Cg.refl _ _))

set_option maxRecDepth 100000 in
set_option maxHeartbeats 4000000 in
theorem walk (w : World) (a0 : Option Addr) (len0 cap0 : Nat) (z0 : List Int) (w0 : IsRow .u8 w a0 len0 cap0 z0) : Calls Try.prog 4 #[.slice a0 len0 cap0] w fun e w' => e = .returned (.bool true) ∧ Below w.heap.size w w' := by
  have hcode := isCode_of w0
  have hcm := w0.2.2.1
  have hlc := w0.2.1
  unfold maxLen at hcm
  have HX := Lib.hid hcode
  clear hcode w0
  by_cases hn : len0 ≤ 4096
  · have t0 : decide ((4096 : Int) < len0) = false := decide_eq_false (by omega)
    go_enter Try.func4, Try.ntmps4
    go_wp2_with fail
    refine (big_any _ _ _ _ (by omega)).mono ?_
    rintro e w' ⟨rfl, rfl⟩
    go_wp2_with fail
    refine (drawExpSeries_any _ _ _ _ _ hn HX.out).mono ?_
    rintro e u1 ⟨Aa, ca, n, La, rfl, la, hn64, ra, b1⟩
    have Ra := Lib.hid (show Lst u1 Aa La from ra)
    have B := Lib.hid b1
    have Ea := Lib.hid la
    clear ra b1 la
    go_wp2_with fail
    refine (pExpSeries_L _ n _ _ La _ Ea.out (by omega) (Nat.le_refl _) Ra.out).mono ?_
    rintro e u2 hN
    obtain ⟨Lq, kk, l, Aq, cq, hr, rfl, lq, hl, rq, y⟩ := hN.any
    replace Ra := Lib.hid (Ra.out.next y)
    replace B := Lib.hid (below_step B.out B.out.size y)
    have HR := Lib.hid hr
    have Eq := Lib.hid lq
    have Rq := Lib.hid rq
    clear hr lq rq y
    go_wp2_with fail
    refine (sExpSeries_L _ n _ _ La _ Ea.out (by omega) (Nat.le_refl _) Ra.out).mono ?_
    rintro e u3 hN
    obtain ⟨Av, cv', rfl, rv, y⟩ := hN.at HR.out Eq.out
    replace Ra := Lib.hid (Ra.out.next y)
    replace B := Lib.hid (below_step B.out B.out.size y)
    replace Rq := Lib.hid (Rq.out.next y)
    clear y
    have tk : (kk != kk) = false := bne_f rfl
    go_wp2_with fail
    refine (likeInts_yes _ _ l l _ _ Lq Lq _ rfl Eq.out Eq.out (by omega) Rq.out rv).mono ?_
    rintro e v ⟨rfl, j, rfl⟩
    clear rv
    replace Ra := Lib.hid (Ra.out.drew j)
    replace Rq := Lib.hid (Rq.out.drew j)
    replace B := Lib.hid (below_drewN B.out j)
    by_cases hk : kk = 0
    · subst hk
      obtain ⟨hs, ha0⟩ := exp_ok HR.out
      obtain ⟨q1, q2, p4⟩ := isSer_iff.1 hs
      have p1 : 1 ≤ n := by have := Ea.out; omega
      have p2 : n ≤ 16 := by have := Ea.out; omega
      have hq : Lq = cl n (xp (co La)) := by have := HR.out.symm.trans (expSerA_yes hs ha0 Ea.out); injection this
      have hln : n = l := by rw [← Eq.out, hq, cl_length]
      subst hln
      have Sa := Lib.hid (Sr.self Ea.out p4)
      have Sq := Lib.hid (Sr.of hq)
      have Za := Lib.hid ha0
      have Oq := Lib.hid (exp_one p1 Sq.out)
      clear hq hs ha0 q1 q2 p4 HR Ea Eq
      have n0 : (0 : Int) < (n : Int) := by omega
      have Ka := Lib.hid (Low.of Ra.out)
      have Kq := Lib.hid (Low.of Rq.out)
      have X := Lib.hid (HX.out.below (show Below w.heap.size w _ from B.out))
      go_wp2_with fail
      refine (roll_any _ _ _ _ _ _ _ X.out.1 hn (Nat.le_refl _) X.out.2.1 X.out.2.2).mono ?_
      rintro e u2 ⟨G, rfl, hG, src, y⟩
      have SRC := Lib.hid src
      clear src X
      have hGw : w.heap.size ≤ G := Nat.le_trans B.out.size hG
      replace Ra := Lib.hid (Ra.out.next y)
      replace Rq := Lib.hid (Rq.out.next y)
      replace Ka := Lib.hid (Ka.out.next y)
      replace Kq := Lib.hid (Kq.out.next y)
      replace B := Lib.hid (below_step B.out B.out.size y)
      clear y
      go_wp2_with fail
      refine (list5_any G _ _ n _ hn64 SRC.out).mono ?_
      rintro e u3 ⟨g, cc, n5, ys, rfl, ly, ⟨ly2, ny⟩, own, src, o⟩
      obtain rfl : n = n5 := by omega
      replace Ka := Lib.hid (Ka.out.only o hG)
      replace Kq := Lib.hid (Kq.out.only o hG)
      have gw := (own.lt g rfl).1
      have hGl := SRC.out.lt
      replace B := Lib.hid (below_only B.out o B.out.size hGw)
      have hf := own.frozenAt 0
      have ho := own.cellAt 0 (by omega)
      obtain ⟨x0, hx0⟩ := at_lt (show 0 < ys.length by omega)
      rw [ints_at hx0] at ho
      have own2 := (own.stored 0 (.int .i64 0)).1
      have o2 := (own.stored 0 (.int .i64 0)).2
      rw [ints_put] at own2
      replace Ka := Lib.hid (Ka.out.only o2 (by omega))
      replace Kq := Lib.hid (Kq.out.only o2 (by omega))
      replace SRC := Lib.hid (src.put (g := g) (k := 0) (v := .int .i64 0) (by omega) (by omega))
      replace B := Lib.hid (below_set B.out (g := g) (k := 0) (by omega) (.int .i64 0))
      obtain ⟨Lc, hL⟩ : ∃ L, L = ys.set 0 0 := ⟨_, rfl⟩
      rw [← hL] at own2
      have Sc := Lib.hid (show Sr n Lc (co Lc) from hL ▸ Sr.self (by rw [List.length_set]; exact ly) (nums_put ny (by decide) (by decide)))
      have Zc : Hid (co Lc 0 = 0) := by unfold Hid; rw [hL, co_put 0 (by omega), if_pos rfl]
      have Rc := Lib.hid (show Lst _ _ Lc from row_of_own own2)
      have Ra := Lib.hid Ka.out.lst
      have Rq := Lib.hid Kq.out.lst
      have HY := Lib.hid ly
      clear own own2 o o2 hx0 hL ly ly2 ny src
      go_wp2_with fail
      clear ho hf HY
      clear Ka
      go_wp2_with fail
      refine (pLogSeries_L _ n _ _ Lq _ Sq.out.1 (by omega) (Nat.le_refl _) Rq.out ).mono ?_
      rintro e u4 hN
      obtain ⟨Lx, Ax, cx, rfl, capx, sx, rx, y⟩ := hN.sr (logSerA_yes (isSer_of p1 p2 Sq.out.1 Sq.out.2.1) Oq.out Sq.out.1)
      replace Ra := Lib.hid (Ra.out.next y)
      replace Rq := Lib.hid (Rq.out.next y)
      replace Rc := Lib.hid (Rc.out.next y)
      replace Kq := Lib.hid (Kq.out.next y)
      replace SRC := Lib.hid (SRC.out.below y)
      replace B := Lib.hid (below_step B.out B.out.size y)
      clear y
      have Sx := Lib.hid sx
      have Rx := Lib.hid rx
      clear sx rx
      go_wp2_with fail
      refine (pExpSeries_L _ n _ _ Lc _ Sc.out.1 (by omega) (Nat.le_refl _) Rc.out ).mono ?_
      rintro e u5 hN
      obtain ⟨Lf, Af, cf, rfl, capf, sf, rf, y⟩ := hN.sr (exp_sr p1 p2 Sc.out Zc.out)
      replace Ra := Lib.hid (Ra.out.next y)
      replace Rq := Lib.hid (Rq.out.next y)
      replace Rc := Lib.hid (Rc.out.next y)
      replace Rx := Lib.hid (Rx.out.next y)
      replace Kq := Lib.hid (Kq.out.next y)
      replace SRC := Lib.hid (SRC.out.below y)
      replace B := Lib.hid (below_step B.out B.out.size y)
      clear y
      have Sf := Lib.hid sf
      have Rf := Lib.hid rf
      clear sf rf
      go_wp2_with fail
      refine (pAddSeries_L _ _ n n _ _ _ _ La Lc _ Sa.out.1 Sc.out.1 (by omega) (by omega) (Nat.le_refl _) (Nat.le_refl _) Ra.out Rc.out).mono ?_
      rintro e u6 hN
      obtain ⟨Lt, At, ct, rfl, capt, st, rt, y⟩ := hN.sr (add_sr p1 p2 Sa.out Sc.out)
      replace Ra := Lib.hid (Ra.out.next y)
      replace Rq := Lib.hid (Rq.out.next y)
      replace Rc := Lib.hid (Rc.out.next y)
      replace Rx := Lib.hid (Rx.out.next y)
      replace Rf := Lib.hid (Rf.out.next y)
      replace Kq := Lib.hid (Kq.out.next y)
      replace SRC := Lib.hid (SRC.out.below y)
      replace B := Lib.hid (below_step B.out B.out.size y)
      clear y
      have St := Lib.hid st
      have Rt := Lib.hid rt
      clear st rt
      go_wp2_with fail
      refine (pExpSeries_L _ n _ _ Lt _ St.out.1 (by omega) (Nat.le_refl _) Rt.out ).mono ?_
      rintro e u7 hN
      obtain ⟨Lh, Ah, ch, rfl, caph, sh, rh, y⟩ := hN.sr (exp_sr p1 p2 St.out (both_zero p1 Za.out Zc.out St.out))
      replace Ra := Lib.hid (Ra.out.next y)
      replace Rq := Lib.hid (Rq.out.next y)
      replace Rc := Lib.hid (Rc.out.next y)
      replace Rx := Lib.hid (Rx.out.next y)
      replace Rf := Lib.hid (Rf.out.next y)
      replace Rt := Lib.hid (Rt.out.next y)
      replace Kq := Lib.hid (Kq.out.next y)
      replace SRC := Lib.hid (SRC.out.below y)
      replace B := Lib.hid (below_step B.out B.out.size y)
      clear y
      have Sh := Lib.hid sh
      have Rh := Lib.hid rh
      clear sh rh
      go_wp2_with fail
      refine (pMultiplySeries_L _ _ n n _ _ _ _ Lq Lf _ Sq.out.1 Sf.out.1 (by omega) (by omega) (Nat.le_refl _) (Nat.le_refl _) Rq.out Rf.out).mono ?_
      rintro e u8 hN
      obtain ⟨Ls, As, cs, rfl, caps, ss, rs, y⟩ := hN.sr (mul_sr p1 p2 Sq.out Sf.out)
      replace Ra := Lib.hid (Ra.out.next y)
      replace Rq := Lib.hid (Rq.out.next y)
      replace Rc := Lib.hid (Rc.out.next y)
      replace Rx := Lib.hid (Rx.out.next y)
      replace Rf := Lib.hid (Rf.out.next y)
      replace Rt := Lib.hid (Rt.out.next y)
      replace Rh := Lib.hid (Rh.out.next y)
      replace Kq := Lib.hid (Kq.out.next y)
      replace SRC := Lib.hid (SRC.out.below y)
      replace B := Lib.hid (below_step B.out B.out.size y)
      clear y
      have Ss := Lib.hid ss
      have Rs := Lib.hid rs
      clear ss rs
      have e0 : Lx = La := log_is p1 p2 Sa.out Za.out Sq.out Sx.out
      go_wp2_with fail
      refine (likeInts_yes _ _ n n _ _ Lx La _ e0 Sx.out.1 Sa.out.1 (by omega) Rx.out Ra.out).mono ?_
      rintro e v ⟨rfl, j0, rfl⟩
      clear e0
      replace Ra := Lib.hid (Ra.out.drew j0)
      replace Rq := Lib.hid (Rq.out.drew j0)
      replace Rc := Lib.hid (Rc.out.drew j0)
      replace Rx := Lib.hid (Rx.out.drew j0)
      replace Rf := Lib.hid (Rf.out.drew j0)
      replace Rt := Lib.hid (Rt.out.drew j0)
      replace Rh := Lib.hid (Rh.out.drew j0)
      replace Rs := Lib.hid (Rs.out.drew j0)
      replace Kq := Lib.hid (Kq.out.drew j0)
      replace SRC := Lib.hid (SRC.out.drew j0)
      replace B := Lib.hid (below_drewN B.out j0)
      have e0 : Lh = Ls := sum_is p1 p2 Za.out Zc.out Sh.out Ss.out
      go_wp2_with fail
      refine (likeInts_yes _ _ n n _ _ Lh Ls _ e0 Sh.out.1 Ss.out.1 (by omega) Rh.out Rs.out).mono ?_
      rintro e v ⟨rfl, j1, rfl⟩
      clear e0
      replace Ra := Lib.hid (Ra.out.redrew j1)
      replace Rq := Lib.hid (Rq.out.redrew j1)
      replace Rc := Lib.hid (Rc.out.redrew j1)
      replace Rx := Lib.hid (Rx.out.redrew j1)
      replace Rf := Lib.hid (Rf.out.redrew j1)
      replace Rt := Lib.hid (Rt.out.redrew j1)
      replace Rh := Lib.hid (Rh.out.redrew j1)
      replace Rs := Lib.hid (Rs.out.redrew j1)
      replace Kq := Lib.hid (Kq.out.redrew j1)
      replace SRC := Lib.hid (SRC.out.redrew j1)
      replace B := Lib.hid (below_redrewN B.out j1)
      clear Ra
      clear Rq
      clear Rc
      clear Rx
      clear Rf
      clear Rt
      clear Rh
      clear Rs
      go_wp2_with fail
      refine (number5_any G _ _ _ SRC.out).mono ?_
      rintro e u9 ⟨k, rfl, hk, src, o⟩
      obtain ⟨k0, k1⟩ := hk
      replace Kq := Lib.hid (Kq.out.only o hG)
      replace B := Lib.hid (below_only B.out o B.out.size hGw)
      replace SRC := Lib.hid src
      clear src o
      go_wp2_with fail
      refine (number5_any G _ _ _ SRC.out).mono ?_
      rintro e u10 ⟨m, rfl, hm, src, o⟩
      obtain ⟨m0, m1⟩ := hm
      replace Kq := Lib.hid (Kq.out.only o hG)
      replace B := Lib.hid (below_only B.out o B.out.size hGw)
      replace SRC := Lib.hid src
      clear src o
      have Rq := Lib.hid Kq.out.lst
      clear SRC
      have HZ := Lib.hid (lgS_zero (n := n) (by omega) Oq.out)
      go_wp2_with fail
      refine (pPowerOfSeries_L _ n _ _ Lq k _ Sq.out.1 (by omega) (Nat.le_refl _) Rq.out (by omega)).mono ?_
      rintro e u11 hN
      obtain ⟨Lp, Ap, cp, rfl, capp, sp, rp, y⟩ := hN.sr (powSerA_yes (isSer_of p1 p2 Sq.out.1 Sq.out.2.1) (isNum_iff.2 ⟨by omega, by omega⟩) Oq.out Sq.out.1)
      replace Rq := Lib.hid (Rq.out.next y)
      replace B := Lib.hid (below_step B.out B.out.size y)
      clear y
      have Sp := Lib.hid sp
      have Rp := Lib.hid rp
      clear sp rp
      go_wp2_with fail
      refine (pPowerOfSeries_L _ n _ _ Lq m _ Sq.out.1 (by omega) (Nat.le_refl _) Rq.out (by omega)).mono ?_
      rintro e u12 hN
      obtain ⟨Lv, Av, cv, rfl, capv, sv, rv, y⟩ := hN.sr (powSerA_yes (isSer_of p1 p2 Sq.out.1 Sq.out.2.1) (isNum_iff.2 ⟨by omega, by omega⟩) Oq.out Sq.out.1)
      replace Rq := Lib.hid (Rq.out.next y)
      replace Rp := Lib.hid (Rp.out.next y)
      replace B := Lib.hid (below_step B.out B.out.size y)
      clear y
      have Sv := Lib.hid sv
      have Rv := Lib.hid rv
      clear sv rv
      go_wp2_with fail
      refine (mod5_any _ _).mono ?_
      rintro e w' ⟨rfl, rfl⟩
      go_wp2_with fail
      refine (pPowerOfSeries_L _ n _ _ Lq ((k + m) % 10007) _ Sq.out.1 (by omega) (Nat.le_refl _) Rq.out (by omega)).mono ?_
      rintro e u13 hN
      obtain ⟨Lr, Ar, cr, rfl, capr, sr, rr, y⟩ := hN.sr (powSerA_yes (isSer_of p1 p2 Sq.out.1 Sq.out.2.1) (isNum_iff.2 ⟨by omega, by omega⟩) Oq.out Sq.out.1)
      replace Rq := Lib.hid (Rq.out.next y)
      replace Rp := Lib.hid (Rp.out.next y)
      replace Rv := Lib.hid (Rv.out.next y)
      replace B := Lib.hid (below_step B.out B.out.size y)
      clear y
      have Sr := Lib.hid sr
      have Rr := Lib.hid rr
      clear sr rr
      go_wp2_with fail
      refine (pMultiplySeries_L _ _ n n _ _ _ _ Lp Lv _ Sp.out.1 Sv.out.1 (by omega) (by omega) (Nat.le_refl _) (Nat.le_refl _) Rp.out Rv.out).mono ?_
      rintro e u14 hN
      obtain ⟨Lz, Az, cz, rfl, capz, sz, rz, y⟩ := hN.sr (mul_sr p1 p2 Sp.out Sv.out)
      replace Rq := Lib.hid (Rq.out.next y)
      replace Rp := Lib.hid (Rp.out.next y)
      replace Rv := Lib.hid (Rv.out.next y)
      replace Rr := Lib.hid (Rr.out.next y)
      replace B := Lib.hid (below_step B.out B.out.size y)
      clear y
      have Sz := Lib.hid sz
      have Rz := Lib.hid rz
      clear sz rz
      have e0 : Lz = Lr := powers_are p1 p2 HZ.out Sz.out Sr.out
      go_wp2_with fail
      refine (likeInts_yes _ _ n n _ _ Lz Lr _ e0 Sz.out.1 Sr.out.1 (by omega) Rz.out Rr.out).mono ?_
      rintro e v ⟨rfl, j2, rfl⟩
      clear e0
      replace Rq := Lib.hid (Rq.out.drew j2)
      replace Rp := Lib.hid (Rp.out.drew j2)
      replace Rv := Lib.hid (Rv.out.drew j2)
      replace Rr := Lib.hid (Rr.out.drew j2)
      replace Rz := Lib.hid (Rz.out.drew j2)
      replace B := Lib.hid (below_drewN B.out j2)
      go_wp2
      go_ret
      exact ⟨rfl, B.out⟩
    · have tz := bne_t hk
      clear hk
      go_wp2
      go_ret
      exact ⟨rfl, B.out⟩
  · have t0 : decide ((4096 : Int) < len0) = true := decide_eq_true (by omega)
    go_enter Try.func4, Try.ntmps4
    go_wp2_with fail
    refine (big_any _ _ _ _ (by omega)).mono ?_
    rintro e w' ⟨rfl, rfl⟩
    go_wp2
    go_ret
    exact ⟨rfl, Below.refl _ _⟩
/-- the statement -/
theorem holds : Rows.FnExponentialsSaid := of_walk walk
end Go.Proofs.Ytjdanhjonjmccab.fnExponentials
