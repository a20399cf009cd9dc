/-
  The model's search for a tree that is twice a branch.
-/
import Derived.Test.YtgicbmfcojfjcabSupP
import Derived.Test.YtgicbmfcojfjcabRerL
import Derived.Test.YtgicbmfcojfjcabCutL
import Derived.Test.YtgicbmfcojfjcabSame
namespace Go.Proofs.Ytgicbmfcojfjcab
open Go.RowKit Fld
set_option linter.unusedVariables false
set_option linter.unusedSimpArgs false
set_option maxRecDepth 100000

theorem double_hit {t : List Int} {n k : Nat} (hk : k < n) (h : Tr.halfL t (k + 1) = true) : Tr.doubleL t n = true := by
  unfold Tr.doubleL
  rw [List.any_eq_true]
  exact ⟨k, List.mem_range.2 hk, h⟩
set_option maxHeartbeats 4000000 in
theorem l04Double_any (A : Option Addr) (n c B : Nat) (t : List Int) (w : World) (hl : t.length = n) (ht : Tr.isLv t = true) (hc : n ≤ c) (hB : B ≤ w.heap.size) (h : Row w B A (ints t)) :
    Calls Try.prog 83 #[.slice A n c] w (ResB (Tr.doubleL t (n - 1)) w) := by
  obtain ⟨i0, hi, hz0, hz1, hz2⟩ := info_parts info_i64
  obtain ⟨h1, h8⟩ := lv_bd ht
  rw [hl] at h1 h8
  obtain ⟨y0, hy0⟩ := at_lt (show 0 < t.length by omega)
  obtain ⟨b, o, rfl, hbB, _⟩ := h 0 _ (ints_at hy0)
  have HT := Lib.hid ht
  have HL := Lib.hid hl
  have HH := Lib.hid h
  clear hy0 hl ht h
  go_enter Try.func83, Try.ntmps83
  go_wp2_with fail
  go_loopw [3] (fun i wr => ∃ q : Nat, q + 1 ≤ n ∧ i = .int .i64 ((q + 1 : Nat) : Int) ∧ Hid (Tr.doubleL t q = false) ∧ Below w.heap.size w wr) (fun i _ => n - (intOf i).toNat)
  case atStart => exact ⟨0, h1, rfl, rfl, Below.refl _ _⟩
  case round =>
    obtain ⟨q, hq, rfl, HD, HBW⟩ := hrel
    have hsz := HBW.size
    by_cases hlt : q + 1 < n
    · have h := Row.below HH.out HBW hB
      have hBr : B ≤ wr.heap.size := by omega
      obtain ⟨p1, p2, p3, p4, p5⟩ := Tr.par_parts HT.out (k := q) (by rw [HL.out]; exact hlt)
      have l1 := trunk_length (t := t) (k := q + 1) (by rw [HL.out]; exact hlt)
      have l2 := branch_length (t := t) (k := q + 1) (by rw [HL.out]; exact hlt)
      have hE := Tr.endL_le (t := t) (k := q + 1) (by rw [HL.out]; exact hlt)
      rw [HL.out] at hE l1
      have C1 := l04Cut_any (some ⟨b, o, none⟩) n c B (q + 1) t wr HL.out h8 (by omega) hlt hc HT.out p4 p5 hBr h
      have r1 := (lv_can p4).2
      have r2 := (lv_can p5).2
      obtain ⟨y, hy⟩ := at_lt (show q + 1 < t.length by rw [HL.out]; exact hlt)
      have hyb := lv_el HT.out hy
      have hyd : t.getD (q + 1) 0 = y := by rw [List.getD_eq_getElem?_getD, hy]; rfl
      have HTD : Hid (Tr.trunkL t (q + 1) = t.take (q + 1) ++ t.drop (Tr.endL t (q + 1))) := rfl
      rw [hyd] at p1 p2 p3
      obtain ⟨i1, i2⟩ := turn_lv 9 _ _ p4 p3 (by omega)
      have HST := Lib.hid (Tr.doubleL_step t q)
      have HHF : Hid (Tr.halfL t (q + 1) = (decide ((Tr.can (Tr.trunkL t (q + 1))).length = (Tr.can (Tr.branchL t (q + 1))).length) && decide (Tr.turnF 9 (Tr.trunkL t (q + 1)) (Tr.parL t (y - 1) (q + 1)) = Tr.can (Tr.branchL t (q + 1))))) := by
        rw [Hid, r1, r2, ← hyd]; rfl
      obtain ⟨en, hen⟩ : ∃ en, en = Tr.endL t (q + 1) := ⟨_, rfl⟩
      obtain ⟨pr, hpr⟩ : ∃ pr, pr = Tr.parL t (y - 1) (q + 1) := ⟨_, rfl⟩
      have C0 := fun W (hb : Below w.heap.size w W) => l04End_any (some ⟨b, o, none⟩) n c B (q + 1) t W HL.out (by omega) hlt (Row.below HH.out hb hB)
      rw [← hen] at hE l1 l2 HTD
      simp only [← hen] at C0
      rw [← hpr] at p1 p2 p3 i1 i2 HHF
      obtain ⟨T, hT⟩ : ∃ T, T = Tr.can (Tr.trunkL t (q + 1)) := ⟨_, rfl⟩
      obtain ⟨R, hR⟩ : ∃ R, R = Tr.can (Tr.branchL t (q + 1)) := ⟨_, rfl⟩
      rw [← hT, ← hR] at C1 HHF
      rw [← hT] at r1
      rw [← hR] at r2
      have hT8 : T.length ≤ 8 := by omega
      have hR8 : R.length ≤ 8 := by omega
      have HPR := Lib.hid hpr
      have HP1 := Lib.hid p1
      have HTT := Lib.hid p4
      have HI2 : Hid ((Tr.turnF 9 (Tr.trunkL t (q + 1)) pr).length = n - (en - (q + 1))) := by rw [Hid, i2, l1]
      have HTL := Lib.hid l1
      have hp3 : pr < n - (en - (q + 1)) := by rw [← l1]; exact p3
      have hen8 : en ≤ 8 := by omega
      obtain ⟨kk, hkk⟩ : ∃ kk, kk = q + 1 := ⟨_, rfl⟩
      have HKK := Lib.hid hkk
      have hkm : ((q + 1 : Nat) : Int) - 1 = (q : Int) := by omega
      have hkw : IntKind.i64.wrap ((kk : Int) - 1) = (q : Int) := by rw [hkk, hkm]; exact IntWalk.i64_in _ (by omega)
      rw [← hkk] at C1 hE hlt hpr HPR HTD HTL HTT HI2 hp3 HHF hy hq hkm ⊢
      simp only [← hkk] at C0
      have hk1 : 1 ≤ kk := by omega
      have hk2 : q < kk := by omega
      have HST' : Hid (Tr.doubleL t kk = (Tr.doubleL t q || Tr.halfL t kk)) := by rw [Hid, hkk]; exact HST.out
      have hltI : (kk : Int) < (n : Int) := by omega
      have HBW' := Lib.hid HBW
      clear hkk HST hT hR hen hpr p1 p3 p4 p5 i1 i2 l1 l2 r1 r2 hyd HBW h
      go_wp2_with fail
      refine C1.mono ?_
      rintro e w5 ⟨A3, c3, A4, c4, rfl, r3, r4, bel5⟩
      have B5 := Lib.hid (HBW'.out.trans (bel5.mono hsz))
      have hs5 := B5.out.size
      have R3 := Lib.hid r3
      have R4 := Lib.hid r4
      have h := Row.below HH.out B5.out hB
      obtain ⟨_, _, e1, _, hcy⟩ := h kk _ (ints_at hy)
      cases e1
      clear bel5 r3 r4 C1 hy
      go_wp2_with fail
      go_loopw [6] (fun pv wr => ∃ (p m : Nat), p ≤ q ∧ pv = .int .i64 p ∧ wr = w5.drewN m ∧ Hid (Tr.parL t (y - 1) (p + 1) = pr)) (fun pv _ => (intOf pv).toNat)
      case atStart => exact ⟨q, 0, Nat.le_refl _, by first | rfl | go_num, rfl, by rw [Hid, HPR.out, HKK.out]⟩
      case round =>
        obtain ⟨p, m, hp, rfl, rfl, HPP⟩ := hrel
        obtain ⟨x, hx⟩ := at_lt (show p < t.length by rw [HL.out]; omega)
        obtain ⟨x0, x8⟩ := lv_el HT.out hx
        obtain ⟨_, _, e1, _, hcx⟩ := h p _ (ints_at hx)
        cases e1
        have HSP := Lib.hid (parL_step (x := y - 1) hx)
        have s0 : (0 : Int) ≤ (p : Int) := Int.natCast_nonneg _
        have s1 : (p : Int) < (n : Int) := by omega
        have s2 : (0 : Int) ≤ (kk : Int) := Int.natCast_nonneg _
        have s3 : (kk : Int) < (n : Int) := by omega
        have hyb0 := hyb.1
        have hyb8 := hyb.2
        have hw1 : IntKind.i64.wrap (y - 1) = y - 1 := IntWalk.i64_in _ (by omega)
        by_cases hxe : x = y - 1
        · have HPE : Hid (pr = p) := by rw [Hid, ← HPP.out, HSP.out, if_pos hxe]
          have tx := beq_t hxe
          clear hx HSP HPP
          go_wp2_with fail
          go_quiet (fail)
          go_wp2_with fail
          refine (C0 _ (below_drewN B5.out _)).mono ?_
          rintro e wx ⟨rfl, m1, hwx⟩
          have hWz : Hid (Below w5.heap.size w5 wx) := by rw [hwx]; exact below_drewN (below_drewN (Below.refl _ _) _) _
          clear hwx
          have hsx := hWz.out.size
          have hpe := HPE.out
          subst hpe
          have hkc : (kk : Int) ≤ (c : Int) := by omega
          have henc : (en : Int) ≤ (c : Int) := by omega
          have HROW := Lib.hid (Row.below HH.out (B5.out.trans (hWz.out.mono hs5)) hB)
          have HTK : Hid ((t.take kk).length = kk) := by rw [Hid, List.length_take, HL.out]; omega
          have HDL : Hid ((ints (t.drop en)).length = (n - en) * 1) := by rw [Hid, ints_length, List.length_drop, HL.out]; omega
          have HON := Lib.hid (ints_cells (t.drop en))
          have HSUM : Hid (kk + (n - en) = n - (en - kk)) := by rw [Hid]; omega
          have CO : ∀ W, Below wx.heap.size wx W → Calls Try.prog 103 #[.slice (some ⟨b, o, none⟩) kk c] W (fun e W' => ∃ A' c', e = .returned (.slice A' kk c') ∧ W'.ownsRow W.heap.size 2 1 (.slice A' kk c') kk (ints (t.take kk)) ∧ Below W.heap.size W W') := fun W hb =>
            l01Own_any ⟨b, o, none⟩ kk c B (t.take kk) W HTK.out (by omega) (by have := hb.size; omega) (by
              have := Row.takeA (Row.below HROW.out hb (by omega)) kk
              unfold ints intsK at *
              rwa [← List.map_take] at this)
          have BW : Below wx.heap.size wx wx.drew := below_drew' (Below.refl _ _)
          have HNW : Hid (∀ (AE : Addr), (if c = en then (some ⟨b, o, none⟩ : Option Addr) else some ⟨b, o + en, none⟩) = some AE → ∀ W, Below wx.heap.size wx W → ∀ q z, (ints (t.drop en))[q]? = some z → W.cell? (AE.add q) = some z) := fun AE hAE W hb q z hz => by
            by_cases hc2 : c = en
            · have h0 : (ints (t.drop en)).length = 0 := by rw [HDL.out]; omega
              rw [List.length_eq_zero_iff.1 h0] at hz; simp at hz
            · rw [if_neg hc2] at hAE
              injection hAE with hAE
              subst hAE
              have h9 := row_news (Row.dropA (k := en) (Row.below HROW.out hb (by omega)))
              unfold ints intsK at *
              rw [← List.map_drop] at h9
              exact h9 q z hz
          obtain ⟨AE, hAE⟩ : ∃ AE, (if c = en then (some ⟨b, o, none⟩ : Option Addr) else some ⟨b, o + en, none⟩) = some AE := by
            by_cases hc2 : c = en
            · exact ⟨_, if_pos hc2⟩
            · exact ⟨_, if_neg hc2⟩
          have HNX := Lib.hid (HNW.out AE hAE)
          clear HNW C0 hcx hcy tx h
          have hn' : n - en ≤ 8 := by omega
          go_wp2_with fail
          refine wp_region_noPanic ?_
          refine wp_region_held_drew (S := (fun w' => True)) (by kernel_rfl) ?_ (fun hHeld => ?_)
          · trivial
          refine wpAnyH_take (i := 0) (oi := _) (v := ?_) rfl (by kernel_rfl) (by kernel_rfl) (by kernel_rfl) (fun _ _ _ h => h) (Or.inl ⟨by kernel_rfl, ?_⟩) (by assumption) ?_
          rotate_left
          · (intro w hSw; (try dsimp only at hSw); go_simp; try (with_reducible rfl))
          try simp only [Act.put, List.setIfInBounds_toArray, List.set_cons_zero, List.set_cons_succ, List.getElem_toArray, List.getElem_cons_zero, List.getElem_cons_succ]
          refine wpAnyH_take (i := 1) (oi := _) (v := ?_) rfl (by kernel_rfl) (by kernel_rfl) (by kernel_rfl) (fun _ _ _ h => h) (Or.inl ⟨by kernel_rfl, ?_⟩) (by assumption) ?_
          rotate_left
          · (intro w hSw; (try dsimp only at hSw); go_simp; try (with_reducible rfl))
          try simp only [Act.put, List.setIfInBounds_toArray, List.set_cons_zero, List.set_cons_succ, List.getElem_toArray, List.getElem_cons_zero, List.getElem_cons_succ]
          refine wpAnyH_take (i := 2) (oi := _) (v := ?_) rfl (by kernel_rfl) (by kernel_rfl) (by kernel_rfl) (fun _ _ _ h => h) (Or.inl ⟨by kernel_rfl, ?_⟩) (by assumption) ?_
          rotate_left
          · (intro w hSw; (try dsimp only at hSw); go_simp; try (with_reducible rfl))
          try simp only [Act.put, List.setIfInBounds_toArray, List.set_cons_zero, List.set_cons_succ, List.getElem_toArray, List.getElem_cons_zero, List.getElem_cons_succ]
          refine wpAnyH_take (i := 4) (oi := _) (v := ?_) rfl (by kernel_rfl) (by kernel_rfl) (by kernel_rfl) (fun _ _ _ h => h) (Or.inl ⟨by kernel_rfl, ?_⟩) (by assumption) ?_
          rotate_left
          · (intro w hSw; (try dsimp only at hSw); go_simp; try (with_reducible rfl))
          try simp only [Act.put, List.setIfInBounds_toArray, List.set_cons_zero, List.set_cons_succ, List.getElem_toArray, List.getElem_cons_zero, List.getElem_cons_succ]
          refine wpAnyH_take (i := 5) (oi := _) (v := ?_) rfl (by kernel_rfl) (by kernel_rfl) (by kernel_rfl) (fun _ _ _ h => h) (Or.inl ⟨by kernel_rfl, ?_⟩) (by assumption) ?_
          rotate_left
          · (intro w hSw; (try dsimp only at hSw); go_simp; try (with_reducible rfl))
          try simp only [Act.put, List.setIfInBounds_toArray, List.set_cons_zero, List.set_cons_succ, List.getElem_toArray, List.getElem_cons_zero, List.getElem_cons_succ]
          refine wpAnyH_take (i := 6) (oi := _) (v := ?_) rfl (by kernel_rfl) (by kernel_rfl) (by kernel_rfl) (fun _ _ _ h => h) (Or.inl ⟨by kernel_rfl, ?_⟩) (by assumption) ?_
          rotate_left
          · (intro w hSw; (try dsimp only at hSw); go_simp; try (with_reducible rfl))
          try simp only [Act.put, List.setIfInBounds_toArray, List.set_cons_zero, List.set_cons_succ, List.getElem_toArray, List.getElem_cons_zero, List.getElem_cons_succ]
          refine wpAnyH_ready (rs := [3]) (by kernel_rfl) (by simp) (AllReadyH.cons (o := _) rfl (fun K hK => ?_) AllReadyH.nil)
          go_simp
          (go_at_call 103; refine (CO _ BW).mono ?_; rintro e w2 ⟨A2, c2, rfl, own2', bel⟩)
          have own2 := OwnR.of own2'
          have lz2 := BW.size
          have zz2 := bel.size
          replace BW := BW.trans (bel.mono BW.size)
          clear own2' bel
          go_wp2_with fail
          refine hK.out _ _ ?_ (fun hHeld => ?_)
          · trivial
          clear hK K
          try simp only [Act.put, List.setIfInBounds_toArray, List.set_cons_zero, List.set_cons_succ, List.getElem_toArray, List.getElem_cons_zero, List.getElem_cons_succ]
          refine wpAnyH_ready (rs := [7]) (by kernel_rfl) (by simp) (AllReadyH.cons (o := _) rfl (fun K hK => ?_) AllReadyH.nil)
          refine step_append_own' (by rfl) _ _ 22 (by rfl) _ 2 i0 _ 1 8 Try.underlying22 hi hz0 hz1 hz2 rfl (by omega) (.slice A2 kk c2) kk (ints (t.take kk)) (by rfl) own2.1 AE (n - en) (c - en) (ints (t.drop en)) (by rfl) HDL.out (HNX.out _ BW) HON.out (by simp only [maxLen]; omega) (by omega) (by omega) ?_
          intro v3 w3 own3' hgrow3 _
          rw [HSUM.out] at own3'
          obtain ⟨A9, c9, rfl⟩ := own_shape' own3'
          rw [← ints_app, ← HTD.out] at own3'
          have own3 := Lib.hid (OwnR.of own3')
          have zz3 := hgrow3.size
          replace BW := BW.grown hgrow3 BW.size (fun z hz => by have := (own2.1.lt z hz).1; omega)
          clear own3' hgrow3 own2
          refine hK.out _ _ ?_ (fun hHeld => ?_)
          · trivial
          clear hK K
          try simp only [Act.put, List.setIfInBounds_toArray, List.set_cons_zero, List.set_cons_succ, List.getElem_toArray, List.getElem_cons_zero, List.getElem_cons_succ]
          refine wpAnyH_take (i := 8) (oi := _) (v := ?_) rfl (by kernel_rfl) (by kernel_rfl) (by kernel_rfl) (fun _ _ _ h => h) (Or.inl ⟨by kernel_rfl, ?_⟩) (by assumption) ?_
          rotate_left
          · (intro w hSw; (try dsimp only at hSw); go_simp; try (with_reducible rfl))
          try simp only [Act.put, List.setIfInBounds_toArray, List.set_cons_zero, List.set_cons_succ, List.getElem_toArray, List.getElem_cons_zero, List.getElem_cons_succ]
          refine wpAnyH_done (by kernel_rfl) ?_ _
          refine NoPanic.normal ?_
          have hs9 := BW.size
          have B9 := Lib.hid (B5.out.trans ((hWz.out.trans (BW.mono hsx)).mono hs5))
          have hs9' := B9.out.size
          have hc9 := (own_cap own3.out.1).1
          have R49 := Lib.hid (Row.below (Row.below R4.out hWz.out (Nat.le_refl _)) BW (by omega))
          have R39 := Lib.hid (row_of_own own3.out.1)
          clear BW CO
          by_cases hTR : T.length = R.length
          · have tq := beq_t (show ((T.length : Nat) : Int) = ((R.length : Nat) : Int) by omega)
            rw [decide_eq_true hTR, Bool.true_and] at HHF
            clear hTR
            go_wp2_with fail
            refine (turnAt_all 9 A9 (n - (en - kk)) c9 w3.heap.size pr (Tr.trunkL t kk) w3 HTL.out HTT.out hp3 (by omega) hc9 (Nat.le_refl _) R39.out).mono ?_
            rintro e w6 ⟨A6, c6, rfl, own6, bel6⟩
            have B6 := Lib.hid (B9.out.trans (bel6.mono hs9'))
            have R6 := Lib.hid (row_of_own own6)
            have R46 := Lib.hid (Row.below R49.out bel6 (by omega))
            clear own6 bel6
            have D1 := l01Same_any A6 A4 (n - (en - kk)) R.length c6 c4 _ _ (Tr.turnF 9 (Tr.trunkL t kk) pr) R w6 HI2.out rfl (by omega) (by omega) R6.out R46.out
            rw [show eqL (Tr.turnF 9 (Tr.trunkL t kk) pr) R = Tr.halfL t kk from by rw [HHF.out]; rfl] at D1
            cases hh : Tr.halfL t kk
            · rw [hh] at D1
              have G : Hid (Tr.doubleL t kk = false) := by rw [Hid, HST'.out, HD.out, hh]; rfl
              clear hh HHF
              go_wp2_with fail
              refine D1.mono ?_
              rintro e w7 ⟨rfl, d7, rfl⟩
              have B7 : Hid (Below w.heap.size w (w6.drewN d7)) := below_drewN B6.out _
              generalize w6.drewN d7 = w7 at *
              go_wp2
              go_roundw
              case rel => exact ⟨kk, by omega, by go_num, G, B7.out⟩
              case measure => simp [intOf]; omega
            · rw [hh] at D1
              have G : Hid (Tr.doubleL t (n - 1) = true) := double_hit (k := q) (by have := HKK.out; omega) (by rw [← HKK.out]; exact hh)
              clear hh HHF
              go_wp2_with fail
              refine D1.mono ?_
              rintro e w7 ⟨rfl, d7, rfl⟩
              have B7 : Hid (Below w.heap.size w (w6.drewN d7)) := below_drewN B6.out _
              generalize w6.drewN d7 = w7 at *
              go_wp2
              go_ret
              exact ⟨ret_bool G.out.symm, B7.out⟩
          · have tq := beq_f (show ¬ ((T.length : Nat) : Int) = ((R.length : Nat) : Int) by omega)
            have G : Hid (Tr.doubleL t kk = false) := by rw [Hid, HST'.out, HD.out, HHF.out, decide_eq_false hTR]; rfl
            clear hTR HHF
            go_wp2
            go_roundw
            case rel => exact ⟨kk, by omega, by go_num, G, B9.out⟩
            case measure => simp [intOf]; omega
        · have HPE : Hid (Tr.parL t (y - 1) p = pr) := by rw [Hid, ← HPP.out, HSP.out, if_neg hxe]
          have hp1 : 1 ≤ p := by
            rcases Nat.eq_zero_or_pos p with z | z
            · exfalso
              subst z
              have e := HPE.out
              rw [Tr.parL] at e
              have := HP1.out
              rw [← e, List.getD_eq_getElem?_getD, hx] at this
              exact hxe this
            · exact z
          have tx := beq_f hxe
          clear hx HSP HPP C0
          go_wp2_with fail
          go_quiet (fail)
          go_wp2
          go_roundw
          case rel => exact ⟨p - 1, _, by omega, by go_num, rfl, by rw [Hid, show p - 1 + 1 = p from by omega]; exact HPE.out⟩
          case measure => simp [intOf]; omega
    · obtain rfl : n = q + 1 := by omega
      have G : Hid (Tr.doubleL t (q + 1 - 1) = false) := by rw [Hid, show q + 1 - 1 = q from rfl]; exact HD.out
      have GB := Lib.hid HBW
      clear HD HBW
      go_wp2
      go_ret
      exact ⟨ret_bool G.out.symm, GB.out⟩
end Go.Proofs.Ytgicbmfcojfjcab
