/-
  PROVED: for every code the law FnReversions returns true: a series and its reverse compose to the variable in both orders, reversing twice leads back.
  CONDITIONS: none; every slice of bytes.
-/
import Derived.Test.YtjdanhjonjmccabLike
import Derived.Test.YtjdanhjonjmccabSerCom
import Derived.Test.YtjdanhjonjmccabSerRev
import Derived.Test.YtjdanhjonjmccabFFnReversions
namespace Go.Proofs.Ytjdanhjonjmccab.fnReversions
open Go.ChangeShapes Go.WideShapes Go.ChangeAt Go.RowKit Fld Ser
set_option linter.unusedVariables false
set_option linter.unusedSimpArgs false
set_option maxRecDepth 100000

theorem rev_ok {a q : List Int} (h : revSerA a = (q, 0)) : isSer a = true ∧ 2 ≤ a.length ∧ co a 0 = 0 ∧ co a 1 ≠ 0 := by
  unfold revSerA at h
  split at h
  · split at h
    · rename_i h1 h2
      unfold canRev at h2
      simp at h2
      exact ⟨h1, by omega, h2.2.1, h2.2.2⟩
    · simp at h
  · simp at h
theorem com_sr {n : Nat} {a b : List Int} {f g : Nat → Int} (p1 : 1 ≤ n) (p2 : n ≤ 16) (h : Sr n a f) (h' : Sr n b g) (h0 : co b 0 = 0) : comSerA a b = (cl n (cmp f g), 0) := by
  rw [comSerA_yes (areSer_of p1 p2 h.1 h'.1 h.2.1 h'.2.1) h0 h.1, cl_cg (h.2.2.cmp h'.2.2)]
theorem rvS_rev {n : Nat} {a : Nat → Int} (h2 : 2 ≤ n) (p2 : n ≤ 16) (a0 : a 0 = 0) (h0 : 0 < a 1) (h1 : a 1 < 10007) : Cg n (cmp a (rvS n a)) vr := by
  obtain ⟨N, rfl⟩ : ∃ N, n = N + 1 := ⟨n - 1, by omega⟩
  unfold rvS
  rw [Nat.add_sub_cancel]
  exact lgr_rev (by omega) (inv_mul (a 1) h0 h1) a0 (ivS_ok (b := fun k => a (k + 1)) (by omega) h0 h1)
/-- what the reverse b of a is -/
theorem rev_facts {n : Nat} {a b : List Int} (h2 : 2 ≤ n) (p2 : n ≤ 16) (ha : Sr n a (co a)) (a0 : co a 0 = 0) (a1 : co a 1 ≠ 0) (hb : Sr n b (rvS n (co a))) : co b 0 = 0 ∧ co b 1 ≠ 0 ∧ Cg n (cmp (co a) (co b)) vr := by
  have h1 := co_num ha.2.1 1
  have e0 : co b 0 = 0 := by rw [hb.at (by omega)]; rfl
  have e1 : Cg n (cmp (co a) (co b)) vr := ((Cg.refl n (co a)).cmp hb.2.2).trans (rvS_rev h2 p2 a0 (by omega) h1.2)
  refine ⟨e0, fun e => ?_, e1⟩
  have := rev_unit (by omega) e1
  rw [e, Int.mul_zero] at this
  exact absurd this (by unfold Eqm; decide)
theorem right_is {n : Nat} {a b : List Int} (ha : Sr n a (co a)) (a0 : co a 0 = 0) (a1 : co a 1 ≠ 0) (b0 : co b 0 = 0) (h : Cg n (cmp (co a) (co b)) vr) : Cg n (cmp (co b) (co a)) vr := by
  have h1 := co_num ha.2.1 1
  exact rev_left (inv_mul (co a 1) (by omega) h1.2) a0 b0 h
theorem again_is {n : Nat} {a b g : List Int} (h2 : 2 ≤ n) (p2 : n ≤ 16) (ha : Sr n a (co a)) (a0 : co a 0 = 0) (a1 : co a 1 ≠ 0) (hb : Sr n b (co b)) (b0 : co b 0 = 0) (b1 : co b 1 ≠ 0) (h : Cg n (cmp (co a) (co b)) vr) (hg : Sr n g (rvS n (co b))) : g = a := by
  have h1 := co_num hb.2.1 1
  refine hg.eq ha (rev_one (a := co b) (inv_mul (co b 1) (by omega) h1.2) rfl a0 ?_)
  exact (rvS_rev h2 p2 b0 (by omega) h1.2).trans (right_is ha a0 a1 b0 h).symm
theorem var_is {n : Nat} (h2 : 2 ≤ n) : Sr n ((cl n (fun _ => 0)).set 1 1) vr := by
  have hs := co_set' (L := cl n (fun _ => 0)) 1 (show 1 < _ by rw [cl_length]; omega)
  refine ⟨by rw [List.length_set, cl_length], allNum_set' (cl_num _ _) (by decide) (by decide), fun k hk => ?_⟩
  rw [hs]
  unfold vr
  by_cases e : k = 1
  · rw [if_pos e, if_pos e]; exact Eqm.refl _
  · rw [if_neg e, if_neg e, co_cl _ hk]; exact Eqm.refl _

set_option maxRecDepth 100000 in
set_option maxHeartbeats 4000000 in
theorem walk (w : World) (a0 : Option Addr) (len0 cap0 : Nat) (z0 : List Int) (w0 : IsRow .u8 w a0 len0 cap0 z0) : Calls Try.prog 5 #[.slice a0 len0 cap0] w fun e w' => e = .returned (.bool true) ∧ Below w.heap.size w w' := by
  have hcode := isCode_of w0
  have hcm := w0.2.2.1
  have hlc := w0.2.1
  unfold maxLen at hcm
  have HX := Lib.hid hcode
  clear hcode w0
  by_cases hn : len0 ≤ 4096
  · have t0 : decide ((4096 : Int) < len0) = false := decide_eq_false (by omega)
    go_enter Try.func5, Try.ntmps5
    go_wp2_with fail
    refine (big_any _ _ _ _ (by omega)).mono ?_
    rintro e w' ⟨rfl, rfl⟩
    go_wp2_with fail
    refine (drawReverseSeries_any _ _ _ _ _ hn HX.out).mono ?_
    rintro e u1 ⟨Aa, ca, n, La, rfl, la, hn64, ra, b1⟩
    have Ra := Lib.hid (show Lst u1 Aa La from ra)
    have B := Lib.hid b1
    have Ea := Lib.hid la
    clear ra b1 la
    go_wp2_with fail
    refine (pReverseSeries_L _ n _ _ La _ Ea.out (by omega) (Nat.le_refl _) Ra.out).mono ?_
    rintro e u2 hN
    obtain ⟨Lq, kk, l, Aq, cq, hr, rfl, lq, hl, rq, y⟩ := hN.any
    replace Ra := Lib.hid (Ra.out.next y)
    replace B := Lib.hid (below_step B.out B.out.size y)
    have HR := Lib.hid hr
    have Eq := Lib.hid lq
    have Rq := Lib.hid rq
    clear hr lq rq y
    go_wp2_with fail
    refine (sReverseSeries_L _ n _ _ La _ Ea.out (by omega) (Nat.le_refl _) Ra.out).mono ?_
    rintro e u3 hN
    obtain ⟨Av, cv', rfl, rv, y⟩ := hN.at HR.out Eq.out
    replace Ra := Lib.hid (Ra.out.next y)
    replace B := Lib.hid (below_step B.out B.out.size y)
    replace Rq := Lib.hid (Rq.out.next y)
    clear y
    have tk : (kk != kk) = false := bne_f rfl
    go_wp2_with fail
    refine (likeInts_yes _ _ l l _ _ Lq Lq _ rfl Eq.out Eq.out (by omega) Rq.out rv).mono ?_
    rintro e v ⟨rfl, j, rfl⟩
    clear rv
    replace Ra := Lib.hid (Ra.out.drew j)
    replace Rq := Lib.hid (Rq.out.drew j)
    replace B := Lib.hid (below_drewN B.out j)
    by_cases hk : kk = 0
    · subst hk
      obtain ⟨hs, h2l, ha0, ha1⟩ := rev_ok HR.out
      have h2 : 2 ≤ n := by have := Ea.out; omega
      have p1 : 1 ≤ n := by omega
      obtain ⟨_, q2, p4⟩ := isSer_iff.1 hs
      have p2 : n ≤ 16 := by have := Ea.out; omega
      have hq : Lq = cl n (rvS n (co La)) := by have := HR.out.symm.trans (revSerA_yes hs Ea.out h2 ha0 ha1); injection this
      have hln : n = l := by rw [← Eq.out, hq, cl_length]
      subst hln
      have Sa := Lib.hid (Sr.self Ea.out p4)
      have Sq0 := Lib.hid (Sr.of hq)
      obtain ⟨hb0, hb1, hcm1⟩ := rev_facts h2 p2 Sa.out ha0 ha1 Sq0.out
      have HA0 := Lib.hid ha0
      have HA1 := Lib.hid ha1
      have HB0 := Lib.hid hb0
      have HB1 := Lib.hid hb1
      have HCM := Lib.hid hcm1
      have Sq := Lib.hid (Sr.self Sq0.out.1 Sq0.out.2.1)
      clear hq hs ha0 ha1 hb0 hb1 hcm1 h2l q2 p4 HR
      obtain ⟨i0, hi, hz0, hz1, hz2⟩ := info_parts info_i64
      have n1 : (1 : Int) < (n : Int) := by omega
      go_wp2_with (at_make; refine wpList_make_full _ rfl (.tmp 41) (.tmp 41) 24 rfl u3.heap.size 2 i0 _ 1 Try.underlying24 hi hz0 hz1 .i64 .i64 _ _ n rfl rfl rfl rfl (by rw [hz2]; omega) (by simp only [maxLen]; omega) (Nat.le_refl _) ?_; intro w1 hown hg; have h1 := made_own (w := u3) hown; have hf := h1.frozenAt 1; have ho := h1.cellAt 1 (by omega); rw [cl_zero_get (show 1 < n by omega)] at ho; have h2 := Lib.hid (h1.stored 1 (.int .i64 1)).1; have hb := Lib.hid ((Below.refl (u3.drewN j).heap.size (u3.drewN j)).grown hg (Nat.le_refl _) (fun k hk => by cases hk)); clear h1 hown hg)
      have y := below_set (g := u3.heap.size) (k := 1) hb.out (Nat.le_refl _) (.int .i64 1)
      have h3 := h2.out
      rw [cl_zero_ints_set] at h3
      obtain ⟨Lv, hv⟩ : ∃ Lv, Lv = (cl n (fun _ => 0)).set 1 1 := ⟨_, rfl⟩
      rw [← hv] at h3
      have Sv := Lib.hid (show Sr n Lv vr from hv ▸ var_is (by omega))
      have Rv := Lib.hid (show Lst _ _ Lv from row_of_own h3)
      clear h3 h2 hb hf ho hv
      replace Ra := Lib.hid (Ra.out.next y)
      replace Rq := Lib.hid (Rq.out.next y)
      replace B := Lib.hid (below_step B.out B.out.size y)
      clear y
      go_wp2_with fail
      refine (pComposeSeries_L _ _ n n _ _ _ _ La Lq _ Sa.out.1 Sq.out.1 (by omega) (by omega) (Nat.le_refl _) (Nat.le_refl _) Ra.out Rq.out).mono ?_
      rintro e u2 hN
      obtain ⟨Ll, Al, cl, rfl, capl, sl, rl, y⟩ := hN.sr (com_sr p1 p2 Sa.out Sq.out HB0.out)
      replace Ra := Lib.hid (Ra.out.next y)
      replace Rq := Lib.hid (Rq.out.next y)
      replace Rv := Lib.hid (Rv.out.next y)
      replace B := Lib.hid (below_step B.out B.out.size y)
      clear y
      have Sl := Lib.hid sl
      have Rl := Lib.hid rl
      clear sl rl
      go_wp2_with fail
      refine (pComposeSeries_L _ _ n n _ _ _ _ Lq La _ Sq.out.1 Sa.out.1 (by omega) (by omega) (Nat.le_refl _) (Nat.le_refl _) Rq.out Ra.out).mono ?_
      rintro e u3 hN
      obtain ⟨Lr, Ar, cr, rfl, capr, sr, rr, y⟩ := hN.sr (com_sr p1 p2 Sq.out Sa.out HA0.out)
      replace Ra := Lib.hid (Ra.out.next y)
      replace Rq := Lib.hid (Rq.out.next y)
      replace Rv := Lib.hid (Rv.out.next y)
      replace Rl := Lib.hid (Rl.out.next y)
      replace B := Lib.hid (below_step B.out B.out.size y)
      clear y
      have Sr := Lib.hid sr
      have Rr := Lib.hid rr
      clear sr rr
      go_wp2_with fail
      refine (pReverseSeries_L _ n _ _ Lq _ Sq.out.1 (by omega) (Nat.le_refl _) Rq.out ).mono ?_
      rintro e u4 hN
      obtain ⟨Lg, Ag, cg, rfl, capg, sg, rg, y⟩ := hN.sr (revSerA_yes (isSer_of p1 p2 Sq.out.1 Sq.out.2.1) Sq.out.1 (by omega) HB0.out HB1.out)
      replace Ra := Lib.hid (Ra.out.next y)
      replace Rq := Lib.hid (Rq.out.next y)
      replace Rv := Lib.hid (Rv.out.next y)
      replace Rl := Lib.hid (Rl.out.next y)
      replace Rr := Lib.hid (Rr.out.next y)
      replace B := Lib.hid (below_step B.out B.out.size y)
      clear y
      have Sg := Lib.hid sg
      have Rg := Lib.hid rg
      clear sg rg
      have e0 : Ll = Lv := Sl.out.eq Sv.out HCM.out
      go_wp2_with fail
      refine (likeInts_yes _ _ n n _ _ Ll Lv _ e0 Sl.out.1 Sv.out.1 (by omega) Rl.out Rv.out).mono ?_
      rintro e v ⟨rfl, j0, rfl⟩
      clear e0
      replace Ra := Lib.hid (Ra.out.drew j0)
      replace Rq := Lib.hid (Rq.out.drew j0)
      replace Rv := Lib.hid (Rv.out.drew j0)
      replace Rl := Lib.hid (Rl.out.drew j0)
      replace Rr := Lib.hid (Rr.out.drew j0)
      replace Rg := Lib.hid (Rg.out.drew j0)
      replace B := Lib.hid (below_drewN B.out j0)
      have e0 : Lr = Lv := Sr.out.eq Sv.out (right_is Sa.out HA0.out HA1.out HB0.out HCM.out)
      go_wp2_with fail
      refine (likeInts_yes _ _ n n _ _ Lr Lv _ e0 Sr.out.1 Sv.out.1 (by omega) Rr.out Rv.out).mono ?_
      rintro e v ⟨rfl, j1, rfl⟩
      clear e0
      replace Ra := Lib.hid (Ra.out.redrew j1)
      replace Rq := Lib.hid (Rq.out.redrew j1)
      replace Rv := Lib.hid (Rv.out.redrew j1)
      replace Rl := Lib.hid (Rl.out.redrew j1)
      replace Rr := Lib.hid (Rr.out.redrew j1)
      replace Rg := Lib.hid (Rg.out.redrew j1)
      replace B := Lib.hid (below_redrewN B.out j1)
      have e0 : Lg = La := again_is (by omega) p2 Sa.out HA0.out HA1.out Sq.out HB0.out HB1.out HCM.out Sg.out
      go_wp2_with fail
      refine (likeInts_yes _ _ n n _ _ Lg La _ e0 Sg.out.1 Sa.out.1 (by omega) Rg.out Ra.out).mono ?_
      rintro e v ⟨rfl, j2, rfl⟩
      clear e0
      replace Ra := Lib.hid (Ra.out.redrew j2)
      replace Rq := Lib.hid (Rq.out.redrew j2)
      replace Rv := Lib.hid (Rv.out.redrew j2)
      replace Rl := Lib.hid (Rl.out.redrew j2)
      replace Rr := Lib.hid (Rr.out.redrew j2)
      replace Rg := Lib.hid (Rg.out.redrew j2)
      replace B := Lib.hid (below_redrewN B.out j2)
      go_wp2
      go_ret
      exact ⟨rfl, B.out⟩
    · have tz := bne_t hk
      clear hk
      go_wp2
      go_ret
      exact ⟨rfl, B.out⟩
  · have t0 : decide ((4096 : Int) < len0) = true := decide_eq_true (by omega)
    go_enter Try.func5, Try.ntmps5
    go_wp2_with fail
    refine (big_any _ _ _ _ (by omega)).mono ?_
    rintro e w' ⟨rfl, rfl⟩
    go_wp2
    go_ret
    exact ⟨rfl, Below.refl _ _⟩
/-- the statement -/
theorem holds : Rows.FnReversionsSaid := of_walk walk
end Go.Proofs.Ytjdanhjonjmccab.fnReversions
