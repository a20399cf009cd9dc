/-
  The model's rerooting of lists.
-/
import Derived.Test.YtfehjjaebdgjlaaTurnP
import Derived.Test.YtfehjjaebdgjlaaCan
import Derived.Deep.RegionHeld3
import Derived.BigQuiet
namespace Go.Proofs.Ytfehjjaebdgjlaa
open Go.RowKit Fld
set_option linter.unusedVariables false
set_option linter.unusedSimpArgs false
set_option maxRecDepth 100000

theorem parL_step {t : List Int} {x z : Int} {p : Nat} (h : t[p]? = some z) : Tr.parL t x (p + 1) = if z = x then p else Tr.parL t x p := by
  rw [Tr.parL, List.getD_eq_getElem?_getD, h]; rfl
def TurnAt (d : Nat) : Prop := ∀ (A : Option Addr) (n c B k : Nat) (t : List Int) (w : World), t.length = n → Tr.isLv t = true → k < n → k < d → n ≤ c → B ≤ w.heap.size → Row w B A (ints t) →
    Calls Try.prog 92 #[.slice A n c, .int .i64 k] w (NewRow 2 n (ints (Tr.turnF d t k)) w)
theorem turnAt_zero : TurnAt 0 := fun A n c B k t w _ _ _ hd _ _ _ => by omega
set_option maxHeartbeats 4000000 in
theorem turnAt_succ (d : Nat) (IH : TurnAt d) : TurnAt (d + 1) := by
  intro A n c B k t w hl ht hk hd hc hB h
  obtain ⟨i0, hi, hz0, hz1, hz2⟩ := info_parts info_i64
  have h8 := (lv_bd ht).2
  rw [hl] at h8
  cases k with
  | zero =>
    have C0 := l03Canon_any A n c B t w hl ht hB h
    have HZ : Hid (Tr.turnF (d + 1) t 0 = Tr.can t) := rfl
    rw [HZ.out]
    clear HZ hl ht
    go_enter Try.func92, Try.ntmps92
    go_wp2_with fail
    refine C0.mono ?_
    rintro e w1 ⟨A1, c1, rfl, own1, bel1⟩
    have G : Hid (NewRow 2 n (ints (Tr.can t)) w (.returned (.slice A1 n c1)) w1) := ⟨_, _, rfl, own1, bel1⟩
    clear own1 bel1 C0
    go_wp2
    go_ret
    exact G.out
  | succ k =>
    obtain ⟨p1, p2, p3, p4, p5⟩ := Tr.par_parts ht (k := k) (by omega)
    obtain ⟨i1, i2⟩ := turn_lv d _ _ p4 p3 (by omega)
    have l1 := trunk_length (t := t) (k := k + 1) (by omega)
    have l2 := branch_length (t := t) (k := k + 1) (by omega)
    have hE := Tr.endL_le (t := t) (k := k + 1) (by omega)
    rw [hl] at hE
    have C0 := fun W (hb : Below w.heap.size w W) => l04End_any A n c B (k + 1) t W hl (by omega) hk (Row.below h hb hB)
    obtain ⟨g1, g2⟩ := Tr.graft_root p5 i1 (by rw [i2, l1, l2, hl]; omega)
    have HTF : Hid (Tr.turnF (d + 1) t (k + 1) = Tr.can (Tr.gl (Tr.branchL t (k + 1)) 0 (Tr.turnF d (Tr.trunkL t (k + 1)) (Tr.parL t (t.getD (k + 1) 0 - 1) (k + 1))))) := rfl
    rw [HTF.out]
    obtain ⟨y, hy⟩ := at_lt (show k + 1 < t.length by omega)
    have hyb := lv_el ht hy
    have hyd : t.getD (k + 1) 0 = y := by rw [List.getD_eq_getElem?_getD, hy]; rfl
    have HRD : Hid (Tr.branchL t (k + 1) = ((t.drop (k + 1)).take (Tr.endL t (k + 1) - (k + 1))).map (· - y)) := by rw [Hid, ← hyd]; rfl
    have HTD : Hid (Tr.trunkL t (k + 1) = t.take (k + 1) ++ t.drop (Tr.endL t (k + 1))) := rfl
    rw [hyd] at p1 p2 p3 g2 i1 i2 ⊢
    obtain ⟨b, o, rfl, hbB, hcy⟩ := h (k + 1) _ (ints_at hy)
    obtain ⟨en, hen⟩ : ∃ en, en = Tr.endL t (k + 1) := ⟨_, rfl⟩
    obtain ⟨pr, hpr⟩ : ∃ pr, pr = Tr.parL t (y - 1) (k + 1) := ⟨_, rfl⟩
    simp only [← hen] at C0
    rw [← hen] at hE l1 l2 HRD HTD
    rw [hl] at l1
    rw [← hpr] at p1 p2 p3 g2 i1 i2 ⊢
    have HPR := Lib.hid hpr
    have HP1 := Lib.hid p1
    have HTT := Lib.hid p4
    have HRR := Lib.hid p5
    have HI1 := Lib.hid i1
    have HI2 : Hid ((Tr.turnF d (Tr.trunkL t (k + 1)) pr).length = n - (en - (k + 1))) := by rw [Hid, i2, l1]
    have HTL := Lib.hid l1
    have HRL := Lib.hid l2
    have HG2 := Lib.hid g2
    have HT := Lib.hid ht
    have HL := Lib.hid hl
    have hp3 : pr < n - (en - (k + 1)) := by rw [← l1]; exact p3
    have hen8 : en ≤ 8 := by omega
    have tk := beq_f (show ¬ ((k + 1 : Nat) : Int) = 0 by omega)
    obtain ⟨kk, hkk⟩ : ∃ kk, kk = k + 1 := ⟨_, rfl⟩
    have hkm : ((k + 1 : Nat) : Int) - 1 = (k : Int) := by omega
    simp only [← hkk] at C0
    rw [← hkk] at tk hkm hcy hE hk hpr HPR HRD HTD HTL HRL HTT HRR HI1 HI2 HG2 hp3 ⊢
    have hk1 : 1 ≤ kk := by omega
    have hk2 : k < kk := by omega
    have hk3 : kk ≤ k + 1 := by omega
    have HKK := Lib.hid hkk
    clear hkk
    clear hl ht hy hen hpr p1 p3 p4 p5 g1 g2 i1 i2 l1 l2 hyd HTF
    go_enter Try.func92, Try.ntmps92
    go_wp2_with fail
    go_loopw [5] (fun pv wr => ∃ (p m : Nat), p ≤ k ∧ pv = .int .i64 p ∧ wr = w.drewN m ∧ Hid (Tr.parL t (y - 1) (p + 1) = pr)) (fun pv _ => (intOf pv).toNat)
    case atStart => exact ⟨k, 0, Nat.le_refl _, by go_num, rfl, by rw [Hid, HPR.out, HKK.out]⟩
    case round =>
      obtain ⟨p, m, hp, rfl, rfl, HPP⟩ := hrel
      obtain ⟨x, hx⟩ := at_lt (show p < t.length by rw [HL.out]; omega)
      obtain ⟨x0, x8⟩ := lv_el HT.out hx
      obtain ⟨_, _, e1, _, hcx⟩ := h p _ (ints_at hx)
      cases e1
      have HST := Lib.hid (parL_step (x := y - 1) hx)
      have s0 : (0 : Int) ≤ (p : Int) := Int.natCast_nonneg _
      have s1 : (p : Int) < (n : Int) := by omega
      have s2 : (0 : Int) ≤ (kk : Int) := Int.natCast_nonneg _
      have s3 : (kk : Int) < (n : Int) := by omega
      have hy0 := hyb.1
      have hy8 := hyb.2
      have hw1 : IntKind.i64.wrap (y - 1) = y - 1 := IntWalk.i64_in _ (by omega)
      by_cases hxe : x = y - 1
      · have HPE : Hid (pr = p) := by rw [Hid, ← HPP.out, HST.out, if_pos hxe]
        have tx := beq_t hxe
        clear hx HST HPP
        go_wp2_with fail
        go_quiet (fail)
        go_wp2_with fail
        refine (C0 _ (below_drewN (Below.refl _ _) _)).mono ?_
        rintro e w1 ⟨rfl, m1, rfl⟩
        have hWz : Hid (Below w.heap.size w (w.drewN (m + nq + m1))) := below_drewN (Below.refl _ _) _
        go_wp2_with fail
        go_loopw [7, 8] (fun s i W => ∃ (j g cap : Nat), j ≤ en - kk ∧ s = .slice (some ⟨g, 0, none⟩) j cap ∧ i = .int .i64 ((kk + j : Nat) : Int) ∧ Growing w 2 g j cap (ints (((t.drop kk).take j).map (· - y))) W) (fun _ i _ => en - (intOf i).toNat)
        case atStart => exact ⟨0, _, 0, Nat.zero_le _, rfl, by go_num, ⟨(Growing.start (w.drewN (m + nq + m1)) 2).1, hWz.out.alloc (Nat.le_refl _) _⟩⟩
        case round =>
          obtain ⟨j, g, cap, hj, rfl, rfl, HGr⟩ := hrel
          have hsz := HGr.2.size
          by_cases hlt : kk + j < en
          · obtain ⟨x, hx⟩ := at_lt (show kk + j < t.length by rw [HL.out]; omega)
            obtain ⟨x0, x8⟩ := lv_el HT.out hx
            obtain ⟨_, _, e1, _, hcx⟩ := (Row.below h HGr.2 hB) (kk + j) _ (ints_at hx)
            cases e1
            have hcy2 : wr.cell? ⟨b, o + kk, none⟩ = some (.int .i64 y) := (HGr.2.cell (p := ⟨b, o + kk, none⟩) (by show b < w.heap.size; omega)).trans hcy
            have HXS := Lib.hid (branch_take (y := y) hx)
            have HG' := Lib.hid HGr
            have hown : wr.drew.ownsRow w.heap.size 2 1 (.slice (some ⟨g, 0, none⟩) j cap) j (ints (((t.drop kk).take j).map (· - y))) := ((OwnR.of HGr.1).keep (w' := wr.drew) fun _ _ _ => rfl).1
            have hcx' : wr.drew.cell? ⟨b, o + (kk + j), none⟩ = some (.int .i64 x) := hcx
            have hcy' : wr.drew.cell? ⟨b, o + kk, none⟩ = some (.int .i64 y) := hcy2
            have hwd : w.heap.size ≤ wr.drew.heap.size := hsz
            have hw2 : IntKind.i64.wrap (x - y) = x - y := IntWalk.i64_in _ (by omega)
            obtain ⟨q, hq⟩ : ∃ q, q = kk + j := ⟨_, rfl⟩
            have HQ := Lib.hid hq
            rw [← hq] at hcx' hlt ⊢
            have s5 : (0 : Int) ≤ (q : Int) := Int.natCast_nonneg _
            have s6 : (q : Int) < (n : Int) := by omega
            have s4 : (q : Int) < (en : Int) := by omega
            have HG : Hid (∀ (ob : Obj) (W2 : World) (g5 cap5 : Nat), W2.ownsRow w.heap.size 2 1 (.slice (some ⟨g5, 0, none⟩) (j + 1) cap5) (j + 1) (ints (((t.drop kk).take j).map (· - y)) ++ [.int .i64 (x - y)]) → (wr.drew.alloc ob).grownBy W2 (Value.ownBlock (.slice (some ⟨g, 0, none⟩) j cap)) → Growing w 2 g5 (j + 1) cap5 (ints (((t.drop kk).take (j + 1)).map (· - y))) W2) := fun ob W2 g5 cap5 hown5 hgrow5 => by
              rw [ints_snoc', ← HXS.out] at hown5
              exact HG'.out.step (show Below wr.heap.size wr (wr.drew.alloc ob) from (below_drew' (Below.refl _ _)).alloc (Nat.le_refl _) _) hown5 hgrow5
            clear hx HGr hq hcx hcy2
            go_wp2_with fail
            go_region_law (first | (go_loud (refine step_append_lies _ (by rfl) _ _ 24 (by rfl) w.heap.size 2 i0 _ 1 8 Try.underlying24 hi hz0 hz1 hz2 rfl (by omega) (.slice (some ⟨g, 0, none⟩) j cap) j (ints (((t.drop kk).take j).map (· - y))) rfl (hown.alloc _) ⟨wr.drew.heap.size, 0, none⟩ 1 1 [.int .i64 (x - y)] rfl rfl (World.news_of_block (cs := #[.int .i64 (x - y)]) (heap_alloc_new _ _)) (by simp [Value.oneCell']) (by omega) (by simp only [maxLen]; omega) (by omega) (by simp; omega) (wr.drew.heap.size + 1) (by simp) ?_); intro g4 cap4 w4 hown4 hgrow4 hat4 hlt4))
            all_goals
              have G := Lib.hid (HG.out _ _ _ _ hown4 hgrow4)
              clear hown4 hgrow4 hat4 hown
              go_wp2
              go_roundw
              case rel => exact ⟨j + 1, g4, cap4, by have := HQ.out; omega, rfl, by have := HQ.out; go_num, G.out⟩
              case measure => simp [intOf]; omega
          · have hje : j = en - kk := by omega
            have hke : kk + j = en := by omega
            rw [hje, ← HRD.out, ← hje] at HGr
            have HB1 := Lib.hid HGr.2
            have HO1 := Lib.hid HGr.1
            have hs1 := HGr.2.size
            have HROW := Lib.hid (Row.below h HGr.2 hB)
            have hkc : (kk : Int) ≤ (c : Int) := by omega
            have henc : (en : Int) ≤ (c : Int) := by omega
            have HTK : Hid ((t.take kk).length = kk) := by rw [Hid, List.length_take, HL.out]; omega
            have HDL : Hid ((ints (t.drop en)).length = (n - en) * 1) := by rw [Hid, ints_length, List.length_drop, HL.out]; omega
            have HON := Lib.hid (ints_cells (t.drop en))
            have HSUM : Hid (kk + (n - en) = n - (en - kk)) := by rw [Hid]; omega
            clear HGr C0
            rw [hke]
            clear hje hke
            have HLR : Hid ((Tr.branchL t kk).length = j) := by rw [Hid, ← ints_length, own_len HO1.out]
            have CO : ∀ W, Below wr.heap.size wr W → Calls Try.prog 83 #[.slice (some ⟨b, o, none⟩) kk c] W (fun e W' => ∃ A' c', e = .returned (.slice A' kk c') ∧ W'.ownsRow W.heap.size 2 1 (.slice A' kk c') kk (ints (t.take kk)) ∧ Below W.heap.size W W') := fun W hb =>
              l01Own_any ⟨b, o, none⟩ kk c B (t.take kk) W HTK.out (by omega) (by have := hb.size; omega) (by
                have := Row.takeA (Row.below HROW.out hb (by omega)) kk
                unfold ints intsK at *
                rwa [← List.map_take] at this)
            have BW : Below wr.heap.size wr wr.drew := below_drew' (Below.refl _ _)
            have HNW : Hid (∀ (AE : Addr), (if c = en then (some ⟨b, o, none⟩ : Option Addr) else some ⟨b, o + en, none⟩) = some AE → ∀ W, Below wr.heap.size wr W → ∀ q z, (ints (t.drop en))[q]? = some z → W.cell? (AE.add q) = some z) := fun AE hAE W hb q z hz => by
              by_cases hc2 : c = en
              · have h0 : (ints (t.drop en)).length = 0 := by rw [HDL.out]; omega
                rw [List.length_eq_zero_iff.1 h0] at hz; simp at hz
              · rw [if_neg hc2] at hAE
                injection hAE with hAE
                subst hAE
                have h9 := row_news (Row.dropA (k := en) (Row.below HROW.out hb (by omega)))
                unfold ints intsK at *
                rw [← List.map_drop] at h9
                exact h9 q z hz
            obtain ⟨AE, hAE⟩ : ∃ AE, (if c = en then (some ⟨b, o, none⟩ : Option Addr) else some ⟨b, o + en, none⟩) = some AE := by
              by_cases hc2 : c = en
              · exact ⟨_, if_pos hc2⟩
              · exact ⟨_, if_neg hc2⟩
            have HNX := Lib.hid (HNW.out AE hAE)
            clear HNW
            have hn' : n - en ≤ 8 := by omega
            have hpe := HPE.out
            subst hpe
            go_wp2_with fail
            refine wp_region_noPanic ?_
            refine wp_region_held_drew (S := (fun w' => True)) (by kernel_rfl) ?_ (fun hHeld => ?_)
            · trivial
            refine wpAnyH_take (i := 0) (oi := _) (v := ?_) rfl (by kernel_rfl) (by kernel_rfl) (by kernel_rfl) (fun _ _ _ h => h) (Or.inl ⟨by kernel_rfl, ?_⟩) (by assumption) ?_
            rotate_left
            · (intro w hSw; (try dsimp only at hSw); go_simp; try (with_reducible rfl))
            try simp only [Act.put, List.setIfInBounds_toArray, List.set_cons_zero, List.set_cons_succ, List.getElem_toArray, List.getElem_cons_zero, List.getElem_cons_succ]
            refine wpAnyH_take (i := 1) (oi := _) (v := ?_) rfl (by kernel_rfl) (by kernel_rfl) (by kernel_rfl) (fun _ _ _ h => h) (Or.inl ⟨by kernel_rfl, ?_⟩) (by assumption) ?_
            rotate_left
            · (intro w hSw; (try dsimp only at hSw); go_simp; try (with_reducible rfl))
            try simp only [Act.put, List.setIfInBounds_toArray, List.set_cons_zero, List.set_cons_succ, List.getElem_toArray, List.getElem_cons_zero, List.getElem_cons_succ]
            refine wpAnyH_take (i := 2) (oi := _) (v := ?_) rfl (by kernel_rfl) (by kernel_rfl) (by kernel_rfl) (fun _ _ _ h => h) (Or.inl ⟨by kernel_rfl, ?_⟩) (by assumption) ?_
            rotate_left
            · (intro w hSw; (try dsimp only at hSw); go_simp; try (with_reducible rfl))
            try simp only [Act.put, List.setIfInBounds_toArray, List.set_cons_zero, List.set_cons_succ, List.getElem_toArray, List.getElem_cons_zero, List.getElem_cons_succ]
            refine wpAnyH_take (i := 4) (oi := _) (v := ?_) rfl (by kernel_rfl) (by kernel_rfl) (by kernel_rfl) (fun _ _ _ h => h) (Or.inl ⟨by kernel_rfl, ?_⟩) (by assumption) ?_
            rotate_left
            · (intro w hSw; (try dsimp only at hSw); go_simp; try (with_reducible rfl))
            try simp only [Act.put, List.setIfInBounds_toArray, List.set_cons_zero, List.set_cons_succ, List.getElem_toArray, List.getElem_cons_zero, List.getElem_cons_succ]
            refine wpAnyH_take (i := 5) (oi := _) (v := ?_) rfl (by kernel_rfl) (by kernel_rfl) (by kernel_rfl) (fun _ _ _ h => h) (Or.inl ⟨by kernel_rfl, ?_⟩) (by assumption) ?_
            rotate_left
            · (intro w hSw; (try dsimp only at hSw); go_simp; try (with_reducible rfl))
            try simp only [Act.put, List.setIfInBounds_toArray, List.set_cons_zero, List.set_cons_succ, List.getElem_toArray, List.getElem_cons_zero, List.getElem_cons_succ]
            refine wpAnyH_take (i := 6) (oi := _) (v := ?_) rfl (by kernel_rfl) (by kernel_rfl) (by kernel_rfl) (fun _ _ _ h => h) (Or.inl ⟨by kernel_rfl, ?_⟩) (by assumption) ?_
            rotate_left
            · (intro w hSw; (try dsimp only at hSw); go_simp; try (with_reducible rfl))
            try simp only [Act.put, List.setIfInBounds_toArray, List.set_cons_zero, List.set_cons_succ, List.getElem_toArray, List.getElem_cons_zero, List.getElem_cons_succ]
            refine wpAnyH_ready (rs := [3]) (by kernel_rfl) (by simp) (AllReadyH.cons (o := _) rfl (fun K hK => ?_) AllReadyH.nil)
            go_simp
            (go_at_call 83; refine (CO _ BW).mono ?_; rintro e w2 ⟨A2, c2, rfl, own2', bel⟩)
            have own2 := OwnR.of own2'
            have lz2 := BW.size
            have zz2 := bel.size
            replace BW := BW.trans (bel.mono BW.size)
            clear own2' bel
            go_wp2_with fail
            refine hK.out _ _ ?_ (fun hHeld => ?_)
            · trivial
            clear hK K
            try simp only [Act.put, List.setIfInBounds_toArray, List.set_cons_zero, List.set_cons_succ, List.getElem_toArray, List.getElem_cons_zero, List.getElem_cons_succ]
            refine wpAnyH_ready (rs := [7]) (by kernel_rfl) (by simp) (AllReadyH.cons (o := _) rfl (fun K hK => ?_) AllReadyH.nil)
            refine step_append_own' (by rfl) _ _ 24 (by rfl) _ 2 i0 _ 1 8 Try.underlying24 hi hz0 hz1 hz2 rfl (by omega) (.slice A2 kk c2) kk (ints (t.take kk)) (by rfl) own2.1 AE (n - en) (c - en) (ints (t.drop en)) (by rfl) HDL.out (HNX.out _ BW) HON.out (by simp only [maxLen]; omega) (by omega) (by omega) ?_
            intro v3 w3 own3' hgrow3 _
            rw [HSUM.out] at own3'
            obtain ⟨A3, c3, rfl⟩ := own_shape' own3'
            rw [← ints_app, ← HTD.out] at own3'
            have own3 := Lib.hid (OwnR.of own3')
            have zz3 := hgrow3.size
            replace BW := BW.grown hgrow3 BW.size (fun z hz => by have := (own2.1.lt z hz).1; omega)
            clear own3' hgrow3 own2
            refine hK.out _ _ ?_ (fun hHeld => ?_)
            · trivial
            clear hK K
            try simp only [Act.put, List.setIfInBounds_toArray, List.set_cons_zero, List.set_cons_succ, List.getElem_toArray, List.getElem_cons_zero, List.getElem_cons_succ]
            refine wpAnyH_take (i := 8) (oi := _) (v := ?_) rfl (by kernel_rfl) (by kernel_rfl) (by kernel_rfl) (fun _ _ _ h => h) (Or.inl ⟨by kernel_rfl, ?_⟩) (by assumption) ?_
            rotate_left
            · (intro w hSw; (try dsimp only at hSw); go_simp; try (with_reducible rfl))
            try simp only [Act.put, List.setIfInBounds_toArray, List.set_cons_zero, List.set_cons_succ, List.getElem_toArray, List.getElem_cons_zero, List.getElem_cons_succ]
            refine wpAnyH_done (by kernel_rfl) ?_ _
            refine NoPanic.normal ?_
            have HB3 := Lib.hid (HB1.out.trans (BW.mono hs1))
            have HBW := Lib.hid BW
            have hs3 := HB3.out.size
            have hc3 := (own_cap own3.out.1).1
            clear BW CO
            have hj8 : j ≤ 8 := by omega
            go_wp2_with fail
            refine (IH A3 (n - (en - kk)) c3 w3.heap.size pr (Tr.trunkL t kk) w3 HTL.out HTT.out hp3 (by omega) hc3 (Nat.le_refl _) (row_of_own own3.out.1)).mono ?_
            rintro e w5 ⟨A5, c5, rfl, own5, bel5⟩
            have HB5 := Lib.hid (HB3.out.trans (bel5.mono hs3))
            have R5 := Lib.hid (row_of_own own5)
            have HRB : Hid (Row w5 w5.heap.size (some ⟨g, 0, none⟩) (ints (Tr.branchL t kk))) := (Row.below (Row.below (row_of_own HO1.out) HBW.out (Nat.le_refl _)) bel5 (by have := HBW.out.size; omega)).more (by have := HBW.out.size; have := bel5.size; omega)
            have hc1 := (own_cap HO1.out).1
            clear own5 bel5
            go_wp2_with fail
            refine (l04Graft_any (some ⟨g, 0, none⟩) A5 j (n - (en - kk)) cap c5 w5.heap.size w5.heap.size 0 (Tr.branchL t kk) (Tr.turnF d (Tr.trunkL t kk) pr) w5 HLR.out HI2.out hj8 (by omega) (by omega) hc1 HRR.out HI1.out HG2.out (Nat.le_refl _) (Nat.le_refl _) HRB.out R5.out).mono ?_
            rintro e w6 ⟨A6, c6, rfl, own6, bel6⟩
            have HS6 : Hid (j + (n - (en - kk)) = n) := by rw [Hid]; omega
            have hs5 := HB5.out.size
            rw [HS6.out] at own6 ⊢
            have G : Hid (NewRow 2 n (ints (Tr.can (Tr.gl (Tr.branchL t kk) 0 (Tr.turnF d (Tr.trunkL t kk) pr)))) w (.returned (.slice A6 n c6)) w6) := ⟨_, _, rfl, ((OwnR.of own6).more hs5 (Nat.le_refl _)).1, HB5.out.trans (bel6.mono hs5)⟩
            clear own6 bel6
            go_wp2
            go_ret
            exact G.out
      · have HPE : Hid (Tr.parL t (y - 1) p = pr) := by rw [Hid, ← HPP.out, HST.out, if_neg hxe]
        have hp1 : 1 ≤ p := by
          rcases Nat.eq_zero_or_pos p with z | z
          · exfalso
            subst z
            have e := HPE.out
            rw [Tr.parL] at e
            have := HP1.out
            rw [← e, List.getD_eq_getElem?_getD, hx] at this
            exact hxe this
          · exact z
        have tx := beq_f hxe
        clear hx HST HPP
        go_wp2_with fail
        go_quiet (fail)
        go_wp2
        go_roundw
        case rel => exact ⟨p - 1, _, by omega, by go_num, rfl, by rw [Hid, show p - 1 + 1 = p from by omega]; exact HPE.out⟩
        case measure => simp [intOf]; omega
theorem turnAt_all : ∀ d, TurnAt d
  | 0 => turnAt_zero
  | d+1 => turnAt_succ d (turnAt_all d)
end Go.Proofs.Ytfehjjaebdgjlaa
