/-
  Texts of this seat, joined: what several laws lean on.
-/
import Derived.Test.YtnnihdkhblbdgaaUF1
import Derived.Deep.RegionHeld3
/-
  What FreeConditions answers, the program's and the model's.
-/
namespace Go.Proofs.Ytnnihdkhblbdgaa
open Go.RowKit Fld
set_option linter.unusedVariables false
set_option linter.unusedSimpArgs false
set_option maxRecDepth 100000

theorem chk_trees : ((List.range 8).all fun n => (Tr.treesL (n + 1)).all (fun t => decide (Tr.can t = t)) && decide (1 ≤ (Tr.treesL (n + 1)).length)) = true := by decide +kernel
theorem trees_can {n : Nat} (h1 : 1 ≤ n) (h8 : n ≤ 8) : (∀ t ∈ Tr.treesL n, Tr.can t = t) ∧ 1 ≤ (Tr.treesL n).length := by
  obtain ⟨k, rfl⟩ : ∃ k, n = k + 1 := ⟨n - 1, by omega⟩
  have h := List.all_eq_true.1 chk_trees k (by rw [List.mem_range]; omega)
  simp only [Bool.and_eq_true, List.all_eq_true, decide_eq_true_eq] at h
  exact ⟨h.1, by omega⟩
theorem txt_eqC {s t : List Int} (hs : Tr.isLv s = true) (ht : Tr.isLv t = true) (cs : Tr.can s = s) (ct : Tr.can t = t) : decide (Tr.txt s = Tr.txt t) = eqL s t := by
  have this : s = t ↔ Tr.txt s = Tr.txt t := ⟨fun e => by rw [e], fun e => by rw [← cs, ← ct, ← (lv_txt hs).1, ← (lv_txt ht).1, e]⟩
  unfold eqL
  by_cases e : s = t
  · rw [decide_eq_true e, decide_eq_true (this.1 e)]
  · rw [decide_eq_false e, decide_eq_false (fun q => e (this.2 q))]
theorem keepC_eq {t : List Int} (h : Tr.isLv t = true) (hc : Tr.can t = t) : (eqL (freeL t) t && !Tr.doubleL t (t.length - 1)) = keepC t := by
  obtain ⟨_, q1, q2, q3, q4⟩ := free_parts h
  rw [← txt_eqC q2 h q3 hc, q1, Tr.sup_eq h hc]
  have e : decide (minT (rootsT (Tr.txt t)) = Tr.txt t) = decide (Tr.txt t = minT (rootsT (Tr.txt t))) := by
    by_cases z : minT (rootsT (Tr.txt t)) = Tr.txt t
    · rw [decide_eq_true z, decide_eq_true z.symm]
    · rw [decide_eq_false z, decide_eq_false (fun q => z q.symm)]
  rw [e]; rfl
def condsA (a : Int) : List (List Int) × Int := if 1 ≤ a ∧ a ≤ 8 then ((Tr.treesL a.toNat).filter keepC, 0) else ([], 2)
theorem condsA_yes {n : Nat} (h1 : 1 ≤ n) (h8 : n ≤ 8) : condsA (n : Int) = ((Tr.treesL n).filter keepC, 0) := by
  unfold condsA; rw [if_pos (by omega)]; rfl
theorem condsA_no {a : Int} (h : ¬ (1 ≤ a ∧ a ≤ 8)) : condsA a = ([], 2) := if_neg h
theorem total_filter (p : List Int → Bool) : ∀ m : List (List Int), total (m.filter p) ≤ total m
  | [] => Nat.le_refl _
  | t :: m => by
    have ih := total_filter p m
    unfold total at *
    rw [List.filter_cons]
    split
    · simp only [List.map_cons, List.sum_cons]; omega
    · simp only [List.map_cons, List.sum_cons]; omega
theorem free_total {n : Nat} (h1 : 1 ≤ n) (h8 : n ≤ 8) : ((Tr.treesL n).filter keepC).length + total ((Tr.treesL n).filter keepC) ≤ 1048576 := by
  have h2 := trees_total h1 h8
  have h3 := List.length_filter_le keepC (Tr.treesL n)
  have h4 := total_filter keepC (Tr.treesL n)
  omega
theorem Mat.select {w w' : World} {lo B n c q c' g : Nat} {A : Option Addr} {m : List (List Int)} {vs : List Value} {idx : List Nat} (h : OwnMat w lo w.heap.size (.slice A n c) n m vs) (hb : Below w.heap.size w w') (hi : ∀ k ∈ idx, k < m.length)
    (ho : w'.ownsRow B 23 1 (.slice (some ⟨g, 0, none⟩) q c') q (idx.map fun k => vs.getD k nilV)) : Mat w' w'.heap.size (some ⟨g, 0, none⟩) (idx.map fun k => m.getD k []) := by
  intro k r hr
  rw [List.getElem?_map, Option.map_eq_some_iff] at hr
  obtain ⟨l, hl, rfl⟩ := hr
  have hlm := hi l (List.mem_of_getElem? hl)
  have e : m[l]? = some (m.getD l []) := by rw [List.getD_eq_getElem?_getD, List.getElem?_eq_getElem hlm]; rfl
  obtain ⟨A', c'', e1, o1⟩ := h.inner l _ e
  have e2 : (idx.map fun k => vs.getD k nilV)[k]? = some (.slice A' (m.getD l []).length c'') := by
    rw [List.getElem?_map, hl, Option.map_some, List.getD_eq_getElem?_getD (l := vs), e1]; rfl
  obtain ⟨b, o, e3, hbl, hcl⟩ := row_of_own ho k _ e2
  obtain ⟨c1, c2⟩ := own_cap o1.1
  exact ⟨b, o, A', c'', e3, hbl, hcl, c1, c2, ((o1.below hb (Nat.le_refl _)).row).more hb.size⟩
theorem deleteF_none (A : Option Addr) (c : Nat) (w : World) : Calls Try.prog 61 #[.slice A 0 c, (.func (.func 58) #[] #[])] w fun e w' => e = .returned (.slice A 0 c) ∧ Below w.heap.size w w' := by
  have C0 := indexF_any A 0 c w.heap.size [] w rfl (by omega) (fun t ht => by cases ht) (Nat.le_refl _) (fun k r hr => by simp at hr)
  go_enter Try.func61, Try.ntmps61
  go_wp2_with fail
  refine C0.mono ?_
  rintro e w1 ⟨⟨i, rfl, hi⟩, bel1⟩
  rcases hi with ⟨rfl, _⟩ | ⟨k, _, hk, _⟩
  · have HB := Lib.hid bel1
    clear C0 bel1
    go_wp2
    go_ret
    exact ⟨rfl, HB.out⟩
  · omega
set_option maxHeartbeats 1000000 in
theorem pFreeConditions_L (a : Int) (w : World) (ha : -9223372036854775808 ≤ a ∧ a ≤ 9223372036854775807) : Calls Try.prog 29 #[.int .i64 a] w (ResM (condsA a) w) := by
  by_cases h : 1 ≤ a ∧ a ≤ 8
  · obtain ⟨n, rfl⟩ : ∃ n : Nat, a = (n : Int) := ⟨a.toNat, by omega⟩
    have h1 : 1 ≤ n := by omega
    have h8 : n ≤ 8 := by omega
    have G := Lib.hid (condsA_yes h1 h8)
    have E := treesOfA_yes h1 h8
    obtain ⟨t1, t2⟩ := trees_all h1 h8
    obtain ⟨_, t3⟩ := trees_can h1 h8
    have HT := Lib.hid (free_total h1 h8)
    have C0 := fun w => pTreesOf_L (n : Int) w (by omega)
    rw [E] at C0
    obtain ⟨m, hm⟩ : ∃ m, m = Tr.treesL n := ⟨_, rfl⟩
    rw [← hm] at C0 G t1 t2 t3 HT
    clear h ha E hm
    go_enter Try.func29, Try.ntmps29
    go_wp2_with fail
    refine (C0 _).mono ?_
    rintro e w1 ⟨_, A1, c1, vs1, rfl, own1, bel1⟩
    obtain ⟨g, cap, hv⟩ := own_form own1.outer.1 (by show 0 < m.length; omega)
    have hv2 : A1 = some ⟨g, 0, none⟩ := by injection hv
    subst hv2
    clear hv
    simp only at own1 ⊢
    have C1 := deleteF_any w.heap.size g m.length c1 m vs1 w1 (fun t ht => (t1 t ht).1) t3 (by omega) bel1.size own1
    have HB := Lib.hid bel1
    clear own1 bel1 t1 C0
    go_wp2_with fail
    refine C1.mono ?_
    rintro e w2 ⟨q, vs2, rfl, hq, own3, bel3⟩
    have HB3 : Hid (Below w.heap.size w w2) := HB.out.trans bel3
    have HQ := Lib.hid hq
    have HO := Lib.hid own3
    clear hq own3 bel3 C1
    go_wp2
    go_ret2
    exact ResM.of G.out HT.out HO.out HB3.out
  · have G := Lib.hid (condsA_no h)
    have E := treesOfA_no h
    have C0 := fun w => pTreesOf_L a w ha
    rw [E] at C0
    clear h E
    go_enter Try.func29, Try.ntmps29
    go_wp2_with fail
    refine (C0 _).mono ?_
    rintro e w1 ⟨_, A1, c1, vs1, rfl, own1, bel1⟩
    simp only [List.length_nil] at own1 ⊢
    have C1 := deleteF_none A1 c1 w1
    have HO := Lib.hid own1
    have HB := Lib.hid bel1
    clear own1 bel1 C0
    go_wp2_with fail
    refine C1.mono ?_
    rintro e w2 ⟨rfl, bel2⟩
    have HB2 : Hid (Below w.heap.size w w2) := HB.out.trans (bel2.mono HB.out.size)
    have HO2 := Lib.hid ((HO.out.below bel2 (Nat.le_refl _)).more (Nat.le_refl _) bel2.size)
    clear bel2 C1
    go_wp2
    go_ret2
    exact ResM.of G.out (by decide) HO2.out HB2.out
def freeM (n : Nat) : List (List Int) := (Tr.treesL n).filter keepC
/-- free conditions in memory of the call's own *)-/
def FreeRes (m : List (List Int)) (w : World) (e : Ending) (w' : World) : Prop :=
  ∃ (g c : Nat) (C : List Value), e = .returned (.slice (some ⟨g, 0, none⟩) m.length c) ∧ w'.ownsRow w.heap.size 23 1 (.slice (some ⟨g, 0, none⟩) m.length c) m.length C ∧ Mat w' w'.heap.size (some ⟨g, 0, none⟩) m ∧ Below w.heap.size w w'
set_option maxHeartbeats 4000000 in
theorem l12Free_any (n : Nat) (w : World) (h1 : 1 ≤ n) (h8 : n ≤ 8) : Calls Try.prog 56 #[.int .i64 n] w (FreeRes (freeM n) w) := by
  obtain ⟨j0, hj, hy0, hy1, hy2⟩ := info_parts info_row
  obtain ⟨t1, t2⟩ := trees_all h1 h8
  obtain ⟨t4, t3⟩ := trees_can h1 h8
  have C0 := fun w => l03Trees_any n w h1 h8
  have EM : Hid (freeM n = (Tr.treesL n).filter keepC) := rfl
  obtain ⟨m, hm⟩ : ∃ m, m = Tr.treesL n := ⟨_, rfl⟩
  simp only [← hm] at C0
  rw [← hm] at t1 t2 t3 t4 EM
  obtain ⟨nm, hnm⟩ : ∃ nm, nm = m.length := ⟨_, rfl⟩
  rw [← hnm] at t2 t3
  simp only [← hnm] at C0
  have HN := Lib.hid hnm
  have H1 := Lib.hid t1
  have H4 := Lib.hid t4
  clear hm hnm t1 t4
  go_enter Try.func56, Try.ntmps56
  go_wp2_with fail
  refine (C0 _).mono ?_
  rintro e w1 ⟨A1, c1, vs1, rfl, own1, bel1⟩
  have HO := Lib.hid own1
  have HB := Lib.hid bel1
  have HRV : Hid (Row w1 w1.heap.size A1 vs1) := row_of_own own1.outer.1
  have hcap := own_cap own1.outer.1
  clear own1 bel1 C0
  go_wp2_with fail
  go_loopw [4, 5] (fun v i wr => ∃ (j q g cap : Nat) (C : List Value), v = .slice (some ⟨g, 0, none⟩) q cap ∧ i = .int .i64 j ∧ j ≤ nm ∧ Hid (q = (idxTo keepC m j).length) ∧ Hid (wr.ownsRow w1.heap.size 23 1 (.slice (some ⟨g, 0, none⟩) q cap) q C) ∧ Hid (C = selV keepC m vs1 j) ∧ Hid (Below w1.heap.size w1 wr)) (fun _ i _ => nm - (intOf i).toNat)
  case atStart => exact ⟨0, 0, _, 0, [], rfl, rfl, Nat.zero_le _, rfl, (Growing.start w1 23).1, rfl, (Growing.start w1 23).2⟩
  case round =>
    obtain ⟨j, q, g, cap, C, rfl, rfl, hjn, HQ, HOW, HC, HBW⟩ := hrel
    have hqj : q ≤ j := by rw [HQ.out]; exact idxTo_le _ _ _
    have hszw := HBW.out.size
    by_cases hlt : j < nm
    · obtain ⟨t, ht⟩ := at_lt (show j < m.length by rw [← HN.out]; exact hlt)
      have hmem := List.mem_of_getElem? ht
      have hlv := (H1.out t hmem).1
      obtain ⟨a1, a8⟩ := lv_bd hlv
      obtain ⟨Ak, ck, e5, o5⟩ := HO.out.inner j t ht
      obtain ⟨b, o, e1, hb, hck⟩ := (Row.below HRV.out HBW.out (Nat.le_refl _)) j _ e5
      obtain ⟨hlc, hcm⟩ := own_cap o5.1
      have hrow := (o5.below HBW.out (Nat.le_refl _)).row
      obtain ⟨tn, htn⟩ : ∃ tn, tn = t.length := ⟨_, rfl⟩
      rw [← htn] at hck hlc a1 a8 e5
      subst e1
      have hbz : b < wr.heap.size := by omega
      have HCL : Hid (∀ w', Below wr.heap.size wr w' → w'.cell? ⟨b, o + j, none⟩ = some (.slice Ak tn ck)) := fun w' hw' => (hw'.cell (p := ⟨b, o + j, none⟩) hbz).trans hck
      have BW1 : Hid (Below wr.heap.size wr wr) := Below.refl _ _
      have C1 := fun w' (bw : Below wr.heap.size wr w') => l04Roots_any Ak tn ck w1.heap.size t w' htn.symm hlv hlc (Nat.le_trans hszw bw.size) (Row.below hrow bw hszw)
      have HRT : Hid (Row wr wr.heap.size Ak (ints t)) := hrow.more hszw
      obtain ⟨⟨x, p0⟩, _, _, _, p4⟩ := free_parts hlv
      rw [← htn] at p4
      have HPK := Lib.hid p0
      have HFL := Lib.hid p4
      have HTL := Lib.hid htn.symm
      have HKE := Lib.hid (keepC_eq hlv (H4.out t hmem))
      rw [← htn] at HKE
      have CD := fun w' (bw : Below wr.heap.size wr w') => l04Double_any Ak tn ck w1.heap.size t w' htn.symm hlv hlc (Nat.le_trans hszw bw.size) (Row.below hrow bw hszw)
      have HST := Lib.hid (idxTo_step (p := keepC) ht)
      have HEV : Hid (vs1[j]? = some (.slice Ak tn ck)) := e5
      obtain ⟨R, hR⟩ : ∃ R, R = rootsL t := ⟨_, rfl⟩
      rw [← hR] at HPK
      simp only [← hR] at C1
      have hR1 : 0 < R.length := by
        rcases Nat.lt_or_ge 0 R.length with q | q
        · exact q
        · have := HPK.out; rw [List.getElem?_eq_none q] at this; cases this
      obtain ⟨nr, hnr⟩ : ∃ nr, nr = R.length := ⟨_, rfl⟩
      simp only [← hnr] at C1
      rw [← hnr] at hR1
      obtain ⟨sm, hsm⟩ : ∃ sm, sm = eqL (freeL t) t := ⟨_, rfl⟩
      obtain ⟨db, hdb⟩ : ∃ db, db = Tr.doubleL t (tn - 1) := ⟨_, rfl⟩
      rw [← hsm, ← hdb] at HKE
      simp only [← hdb] at CD
      have HSM := Lib.hid hsm
      clear hdb hsm hR hnr htn ht hmem hlv hck hlc hcm hrow p0 p4 hb e5 o5
      cases sm
      · have hs : keepC t = false := by rw [← HKE.out]; rfl
        clear HKE CD
        go_wp2_with fail
        refine wp_region_noPanic ?_
        refine wp_region_held_drew (S := (fun w' => w'.cell? ⟨b, o + j, none⟩ = some (.slice Ak tn ck))) (by kernel_rfl) ?_ (fun hHeld => ?_)
        · exact HCL.out _ (below_drew' BW1.out)
        refine wpAnyH_take (i := 0) (oi := _) (v := ?_) rfl (by kernel_rfl) (by kernel_rfl) (by kernel_rfl) (fun _ _ _ h => h) (Or.inl ⟨by kernel_rfl, ?_⟩) (by assumption) ?_
        rotate_left
        · (intro w hSw; (try dsimp only at hSw); go_simp; try (with_reducible rfl))
        try simp only [Act.put, List.setIfInBounds_toArray, List.set_cons_zero, List.set_cons_succ, List.getElem_toArray, List.getElem_cons_zero, List.getElem_cons_succ]
        refine wpAnyH_take (i := 1) (oi := _) (v := ?_) rfl (by kernel_rfl) (by kernel_rfl) (by kernel_rfl) (fun _ _ _ h => h) (Or.inl ⟨by kernel_rfl, ?_⟩) (by assumption) ?_
        rotate_left
        · (intro w hSw; (try dsimp only at hSw); go_simp; try (with_reducible rfl))
        try simp only [Act.put, List.setIfInBounds_toArray, List.set_cons_zero, List.set_cons_succ, List.getElem_toArray, List.getElem_cons_zero, List.getElem_cons_succ]
        refine wpAnyH_take (i := 2) (oi := _) (v := ?_) rfl (by kernel_rfl) (by kernel_rfl) (by kernel_rfl) (fun _ _ _ h => h) (Or.inl ⟨by kernel_rfl, ?_⟩) (by assumption) ?_
        rotate_left
        · (intro w hSw; (try dsimp only at hSw); go_simp; try (with_reducible rfl))
        try simp only [Act.put, List.setIfInBounds_toArray, List.set_cons_zero, List.set_cons_succ, List.getElem_toArray, List.getElem_cons_zero, List.getElem_cons_succ]
        refine wpAnyH_take (i := 3) (oi := _) (v := ?_) rfl (by kernel_rfl) (by kernel_rfl) (by kernel_rfl) (fun _ _ _ h => h) (Or.inl ⟨by kernel_rfl, ?_⟩) (by assumption) ?_
        rotate_left
        · (intro w hSw; (try dsimp only at hSw); go_simp; try (with_reducible rfl))
        try simp only [Act.put, List.setIfInBounds_toArray, List.set_cons_zero, List.set_cons_succ, List.getElem_toArray, List.getElem_cons_zero, List.getElem_cons_succ]
        refine wpAnyH_take (i := 8) (oi := _) (v := ?_) rfl (by kernel_rfl) (by kernel_rfl) (by kernel_rfl) (fun _ _ _ h => h) (Or.inl ⟨by kernel_rfl, ?_⟩) (by assumption) ?_
        rotate_left
        · (intro w hSw; (try dsimp only at hSw); go_simp; try (with_reducible rfl))
        try simp only [Act.put, List.setIfInBounds_toArray, List.set_cons_zero, List.set_cons_succ, List.getElem_toArray, List.getElem_cons_zero, List.getElem_cons_succ]
        refine wpAnyH_take (i := 9) (oi := _) (v := ?_) rfl (by kernel_rfl) (by kernel_rfl) (by kernel_rfl) (fun _ _ _ h => h) (Or.inl ⟨by kernel_rfl, ?_⟩) (by assumption) ?_
        rotate_left
        · (intro w hSw; (try dsimp only at hSw); go_simp; try (with_reducible rfl))
        try simp only [Act.put, List.setIfInBounds_toArray, List.set_cons_zero, List.set_cons_succ, List.getElem_toArray, List.getElem_cons_zero, List.getElem_cons_succ]
        refine wpAnyH_take (i := 10) (oi := _) (v := ?_) rfl (by kernel_rfl) (by kernel_rfl) (by kernel_rfl) (fun _ _ _ h => h) (Or.inl ⟨by kernel_rfl, ?_⟩) (by assumption) ?_
        rotate_left
        · (intro w hSw; (try dsimp only at hSw); go_simp; try (with_reducible rfl))
        try simp only [Act.put, List.setIfInBounds_toArray, List.set_cons_zero, List.set_cons_succ, List.getElem_toArray, List.getElem_cons_zero, List.getElem_cons_succ]
        refine wpAnyH_take (i := 11) (oi := _) (v := ?_) rfl (by kernel_rfl) (by kernel_rfl) (by kernel_rfl) (fun _ _ _ h => h) (Or.inl ⟨by kernel_rfl, ?_⟩) (by assumption) ?_
        rotate_left
        · (intro w hSw; (try dsimp only at hSw); go_simp; try (with_reducible rfl))
        try simp only [Act.put, List.setIfInBounds_toArray, List.set_cons_zero, List.set_cons_succ, List.getElem_toArray, List.getElem_cons_zero, List.getElem_cons_succ]
        have BW2 := below_drew' BW1.out
        refine wpAnyH_ready (rs := [4]) (by kernel_rfl) (by simp) (AllReadyH.cons (o := _) rfl (fun K hK => ?_) AllReadyH.nil)
        go_simp
        (go_at_call 89; refine (C1 _ BW2).mono ?_; rintro e w3 ⟨As, cs, rfl, hcs, hcsm, HS, bel3⟩)
        obtain ⟨bs, os, Ks, ks, es, hbs, hcs0, _, _, hks, hrows⟩ := HS.at HPK.out
        cases es
        rw [Nat.zero_mul, Nat.add_zero] at hcs0
        simp only at hcs0 hrows
        rw [HFL.out] at hcs0
        have HRs := Lib.hid hrows.row
        have BW3 := BW2.trans (bel3.mono BW2.size)
        clear HS hrows hks bel3 C1
        go_wp2_with fail
        refine hK.out _ _ ?_ (fun hHeld => ?_)
        · exact HCL.out _ BW3
        clear hK K
        try simp only [Act.put, List.setIfInBounds_toArray, List.set_cons_zero, List.set_cons_succ, List.getElem_toArray, List.getElem_cons_zero, List.getElem_cons_succ]
        refine wpAnyH_take (i := 5) (oi := _) (v := ?_) rfl (by kernel_rfl) (by kernel_rfl) (by kernel_rfl) (fun _ _ _ h => h) (Or.inl ⟨by kernel_rfl, ?_⟩) (by assumption) ?_
        rotate_left
        · (intro w hSw; (try dsimp only at hSw); go_simp; try (with_reducible rfl))
        try simp only [Act.put, List.setIfInBounds_toArray, List.set_cons_zero, List.set_cons_succ, List.getElem_toArray, List.getElem_cons_zero, List.getElem_cons_succ]
        refine wpAnyH_take (i := 6) (oi := _) (v := ?_) rfl (by kernel_rfl) (by kernel_rfl) (by kernel_rfl) (fun _ _ _ h => h) (Or.inl ⟨by kernel_rfl, ?_⟩) (by assumption) ?_
        rotate_left
        · (intro w hSw; (try dsimp only at hSw); go_simp; try (with_reducible rfl))
        try simp only [Act.put, List.setIfInBounds_toArray, List.set_cons_zero, List.set_cons_succ, List.getElem_toArray, List.getElem_cons_zero, List.getElem_cons_succ]
        refine wpAnyH_ready (rs := [7]) (by kernel_rfl) (by simp) (AllReadyH.cons (o := _) rfl (fun K hK => ?_) AllReadyH.nil)
        go_simp
        refine hK.out _ _ ?_ (fun hHeld => ?_)
        · exact HCL.out _ BW3
        clear hK K
        try simp only [Act.put, List.setIfInBounds_toArray, List.set_cons_zero, List.set_cons_succ, List.getElem_toArray, List.getElem_cons_zero, List.getElem_cons_succ]
        refine wpAnyH_ready (rs := [12]) (by kernel_rfl) (by simp) (AllReadyH.cons (o := _) rfl (fun K hK => ?_) AllReadyH.nil)
        go_simp
        (go_at_call 88; refine (l01Same_any Ks Ak tn tn ks ck _ _ (freeL t) t w3 HFL.out HTL.out (by omega) (by omega) HRs.out (HRT.out.below BW3 (Nat.le_refl _))).mono ?_; rintro e w4 ⟨rfl, m4, rfl⟩)
        rw [← HSM.out]
        have BW4 : Hid (Below wr.heap.size wr (w3.drewN m4)) := below_drewN BW3 _
        go_wp2_with fail
        refine hK.out _ _ ?_ (fun hHeld => ?_)
        · exact HCL.out _ BW4.out
        clear hK K
        try simp only [Act.put, List.setIfInBounds_toArray, List.set_cons_zero, List.set_cons_succ, List.getElem_toArray, List.getElem_cons_zero, List.getElem_cons_succ]
        refine wpAnyH_take (i := 13) (oi := _) (v := ?_) rfl (by kernel_rfl) (by kernel_rfl) (by kernel_rfl) (fun _ _ _ h => h) (Or.inl ⟨by kernel_rfl, ?_⟩) (by assumption) ?_
        rotate_left
        · (intro w hSw; (try dsimp only at hSw); go_simp; try (with_reducible rfl))
        try simp only [Act.put, List.setIfInBounds_toArray, List.set_cons_zero, List.set_cons_succ, List.getElem_toArray, List.getElem_cons_zero, List.getElem_cons_succ]
        refine wpAnyH_skipN (by assumption) [(14, 29), (15, 30), (16, 31), (17, 32), (18, 33), (19, 34)] 1 _ _ (by kernel_rfl) ?_
        simp only [List.foldl, Act.put, List.setIfInBounds_toArray, List.set_cons_zero, List.set_cons_succ]
        refine wpAnyH_take (i := 20) (oi := _) (v := ?_) rfl (by kernel_rfl) (by kernel_rfl) (by kernel_rfl) (fun _ _ _ h => h) (Or.inl ⟨by kernel_rfl, ?_⟩) (by assumption) ?_
        rotate_left
        · (intro w hSw; (try dsimp only at hSw); go_simp; try (with_reducible rfl))
        try simp only [Act.put, List.setIfInBounds_toArray, List.set_cons_zero, List.set_cons_succ, List.getElem_toArray, List.getElem_cons_zero, List.getElem_cons_succ]
        refine wpAnyH_done (by kernel_rfl) ?_ _
        refine NoPanic.normal ?_
        have BW5 := BW4
        generalize w3.drewN m4 = W4 at BW5 ⊢
        have GB : Hid (Below w1.heap.size w1 W4) := HBW.out.trans (BW5.out.mono hszw)
        have HOW2 : Hid (W4.ownsRow w1.heap.size 23 1 (.slice (some ⟨g, 0, none⟩) q cap) q C) := ((OwnR.of HOW.out).below BW5.out (Nat.le_refl _)).1
        have hcell := HCL.out _ BW5.out
        have hszz := GB.out.size
        have hgl := (HOW2.out.lt g rfl).1
        clear HRs HRT HCL BW1 BW2 BW3 BW4 BW5 HBW HOW hHeld hcs0 hbs
        have HIX : Hid (idxTo keepC m (j + 1) = idxTo keepC m j) := by rw [Hid, HST.out, hs]; simp
        have HQ2 : Hid (q = (idxTo keepC m (j + 1)).length) := by rw [Hid, HIX.out]; exact HQ.out
        have HC2 : Hid (C = selV keepC m vs1 (j + 1)) := by unfold selV; rw [Hid, HIX.out]; exact HC.out
        clear hs hcell
        go_wp2
        go_roundw
        case rel => exact ⟨j + 1, q, g, cap, C, rfl, by go_num, by omega, HQ2, HOW2, HC2, GB⟩
        case measure => simp [intOf]; omega
      · cases db
        · have hs : keepC t = true := by rw [← HKE.out]; rfl
          clear HKE
          go_wp2_with fail
          refine wp_region_noPanic ?_
          refine wp_region_held_drew (S := (fun w' => w'.cell? ⟨b, o + j, none⟩ = some (.slice Ak tn ck))) (by kernel_rfl) ?_ (fun hHeld => ?_)
          · exact HCL.out _ (below_drew' BW1.out)
          refine wpAnyH_take (i := 0) (oi := _) (v := ?_) rfl (by kernel_rfl) (by kernel_rfl) (by kernel_rfl) (fun _ _ _ h => h) (Or.inl ⟨by kernel_rfl, ?_⟩) (by assumption) ?_
          rotate_left
          · (intro w hSw; (try dsimp only at hSw); go_simp; try (with_reducible rfl))
          try simp only [Act.put, List.setIfInBounds_toArray, List.set_cons_zero, List.set_cons_succ, List.getElem_toArray, List.getElem_cons_zero, List.getElem_cons_succ]
          refine wpAnyH_take (i := 1) (oi := _) (v := ?_) rfl (by kernel_rfl) (by kernel_rfl) (by kernel_rfl) (fun _ _ _ h => h) (Or.inl ⟨by kernel_rfl, ?_⟩) (by assumption) ?_
          rotate_left
          · (intro w hSw; (try dsimp only at hSw); go_simp; try (with_reducible rfl))
          try simp only [Act.put, List.setIfInBounds_toArray, List.set_cons_zero, List.set_cons_succ, List.getElem_toArray, List.getElem_cons_zero, List.getElem_cons_succ]
          refine wpAnyH_take (i := 2) (oi := _) (v := ?_) rfl (by kernel_rfl) (by kernel_rfl) (by kernel_rfl) (fun _ _ _ h => h) (Or.inl ⟨by kernel_rfl, ?_⟩) (by assumption) ?_
          rotate_left
          · (intro w hSw; (try dsimp only at hSw); go_simp; try (with_reducible rfl))
          try simp only [Act.put, List.setIfInBounds_toArray, List.set_cons_zero, List.set_cons_succ, List.getElem_toArray, List.getElem_cons_zero, List.getElem_cons_succ]
          refine wpAnyH_take (i := 3) (oi := _) (v := ?_) rfl (by kernel_rfl) (by kernel_rfl) (by kernel_rfl) (fun _ _ _ h => h) (Or.inl ⟨by kernel_rfl, ?_⟩) (by assumption) ?_
          rotate_left
          · (intro w hSw; (try dsimp only at hSw); go_simp; try (with_reducible rfl))
          try simp only [Act.put, List.setIfInBounds_toArray, List.set_cons_zero, List.set_cons_succ, List.getElem_toArray, List.getElem_cons_zero, List.getElem_cons_succ]
          refine wpAnyH_take (i := 8) (oi := _) (v := ?_) rfl (by kernel_rfl) (by kernel_rfl) (by kernel_rfl) (fun _ _ _ h => h) (Or.inl ⟨by kernel_rfl, ?_⟩) (by assumption) ?_
          rotate_left
          · (intro w hSw; (try dsimp only at hSw); go_simp; try (with_reducible rfl))
          try simp only [Act.put, List.setIfInBounds_toArray, List.set_cons_zero, List.set_cons_succ, List.getElem_toArray, List.getElem_cons_zero, List.getElem_cons_succ]
          refine wpAnyH_take (i := 9) (oi := _) (v := ?_) rfl (by kernel_rfl) (by kernel_rfl) (by kernel_rfl) (fun _ _ _ h => h) (Or.inl ⟨by kernel_rfl, ?_⟩) (by assumption) ?_
          rotate_left
          · (intro w hSw; (try dsimp only at hSw); go_simp; try (with_reducible rfl))
          try simp only [Act.put, List.setIfInBounds_toArray, List.set_cons_zero, List.set_cons_succ, List.getElem_toArray, List.getElem_cons_zero, List.getElem_cons_succ]
          refine wpAnyH_take (i := 10) (oi := _) (v := ?_) rfl (by kernel_rfl) (by kernel_rfl) (by kernel_rfl) (fun _ _ _ h => h) (Or.inl ⟨by kernel_rfl, ?_⟩) (by assumption) ?_
          rotate_left
          · (intro w hSw; (try dsimp only at hSw); go_simp; try (with_reducible rfl))
          try simp only [Act.put, List.setIfInBounds_toArray, List.set_cons_zero, List.set_cons_succ, List.getElem_toArray, List.getElem_cons_zero, List.getElem_cons_succ]
          refine wpAnyH_take (i := 11) (oi := _) (v := ?_) rfl (by kernel_rfl) (by kernel_rfl) (by kernel_rfl) (fun _ _ _ h => h) (Or.inl ⟨by kernel_rfl, ?_⟩) (by assumption) ?_
          rotate_left
          · (intro w hSw; (try dsimp only at hSw); go_simp; try (with_reducible rfl))
          try simp only [Act.put, List.setIfInBounds_toArray, List.set_cons_zero, List.set_cons_succ, List.getElem_toArray, List.getElem_cons_zero, List.getElem_cons_succ]
          have BW2 := below_drew' BW1.out
          refine wpAnyH_ready (rs := [4]) (by kernel_rfl) (by simp) (AllReadyH.cons (o := _) rfl (fun K hK => ?_) AllReadyH.nil)
          go_simp
          (go_at_call 89; refine (C1 _ BW2).mono ?_; rintro e w3 ⟨As, cs, rfl, hcs, hcsm, HS, bel3⟩)
          obtain ⟨bs, os, Ks, ks, es, hbs, hcs0, _, _, hks, hrows⟩ := HS.at HPK.out
          cases es
          rw [Nat.zero_mul, Nat.add_zero] at hcs0
          simp only at hcs0 hrows
          rw [HFL.out] at hcs0
          have HRs := Lib.hid hrows.row
          have BW3 := BW2.trans (bel3.mono BW2.size)
          clear HS hrows hks bel3 C1
          go_wp2_with fail
          refine hK.out _ _ ?_ (fun hHeld => ?_)
          · exact HCL.out _ BW3
          clear hK K
          try simp only [Act.put, List.setIfInBounds_toArray, List.set_cons_zero, List.set_cons_succ, List.getElem_toArray, List.getElem_cons_zero, List.getElem_cons_succ]
          refine wpAnyH_take (i := 5) (oi := _) (v := ?_) rfl (by kernel_rfl) (by kernel_rfl) (by kernel_rfl) (fun _ _ _ h => h) (Or.inl ⟨by kernel_rfl, ?_⟩) (by assumption) ?_
          rotate_left
          · (intro w hSw; (try dsimp only at hSw); go_simp; try (with_reducible rfl))
          try simp only [Act.put, List.setIfInBounds_toArray, List.set_cons_zero, List.set_cons_succ, List.getElem_toArray, List.getElem_cons_zero, List.getElem_cons_succ]
          refine wpAnyH_take (i := 6) (oi := _) (v := ?_) rfl (by kernel_rfl) (by kernel_rfl) (by kernel_rfl) (fun _ _ _ h => h) (Or.inl ⟨by kernel_rfl, ?_⟩) (by assumption) ?_
          rotate_left
          · (intro w hSw; (try dsimp only at hSw); go_simp; try (with_reducible rfl))
          try simp only [Act.put, List.setIfInBounds_toArray, List.set_cons_zero, List.set_cons_succ, List.getElem_toArray, List.getElem_cons_zero, List.getElem_cons_succ]
          refine wpAnyH_ready (rs := [7]) (by kernel_rfl) (by simp) (AllReadyH.cons (o := _) rfl (fun K hK => ?_) AllReadyH.nil)
          go_simp
          refine hK.out _ _ ?_ (fun hHeld => ?_)
          · exact HCL.out _ BW3
          clear hK K
          try simp only [Act.put, List.setIfInBounds_toArray, List.set_cons_zero, List.set_cons_succ, List.getElem_toArray, List.getElem_cons_zero, List.getElem_cons_succ]
          refine wpAnyH_ready (rs := [12]) (by kernel_rfl) (by simp) (AllReadyH.cons (o := _) rfl (fun K hK => ?_) AllReadyH.nil)
          go_simp
          (go_at_call 88; refine (l01Same_any Ks Ak tn tn ks ck _ _ (freeL t) t w3 HFL.out HTL.out (by omega) (by omega) HRs.out (HRT.out.below BW3 (Nat.le_refl _))).mono ?_; rintro e w4 ⟨rfl, m4, rfl⟩)
          rw [← HSM.out]
          have BW4 : Hid (Below wr.heap.size wr (w3.drewN m4)) := below_drewN BW3 _
          go_wp2_with fail
          refine hK.out _ _ ?_ (fun hHeld => ?_)
          · exact HCL.out _ BW4.out
          clear hK K
          try simp only [Act.put, List.setIfInBounds_toArray, List.set_cons_zero, List.set_cons_succ, List.getElem_toArray, List.getElem_cons_zero, List.getElem_cons_succ]
          refine wpAnyH_take (i := 13) (oi := _) (v := ?_) rfl (by kernel_rfl) (by kernel_rfl) (by kernel_rfl) (fun _ _ _ h => h) (Or.inl ⟨by kernel_rfl, ?_⟩) (by assumption) ?_
          rotate_left
          · (intro w hSw; (try dsimp only at hSw); go_simp; try (with_reducible rfl))
          try simp only [Act.put, List.setIfInBounds_toArray, List.set_cons_zero, List.set_cons_succ, List.getElem_toArray, List.getElem_cons_zero, List.getElem_cons_succ]
          refine wpAnyH_take (i := 14) (oi := _) (v := ?_) rfl (by kernel_rfl) (by kernel_rfl) (by kernel_rfl) (fun _ _ _ h => h) (Or.inl ⟨by kernel_rfl, ?_⟩) (by assumption) ?_
          rotate_left
          · (intro w hSw; (try dsimp only at hSw); go_simp; try (with_reducible rfl))
          try simp only [Act.put, List.setIfInBounds_toArray, List.set_cons_zero, List.set_cons_succ, List.getElem_toArray, List.getElem_cons_zero, List.getElem_cons_succ]
          refine wpAnyH_take (i := 15) (oi := _) (v := ?_) rfl (by kernel_rfl) (by kernel_rfl) (by kernel_rfl) (fun _ _ _ h => h) (Or.inl ⟨by kernel_rfl, ?_⟩) (by assumption) ?_
          rotate_left
          · (intro w hSw; (try dsimp only at hSw); go_simp; try (with_reducible rfl))
          try simp only [Act.put, List.setIfInBounds_toArray, List.set_cons_zero, List.set_cons_succ, List.getElem_toArray, List.getElem_cons_zero, List.getElem_cons_succ]
          refine wpAnyH_take (i := 16) (oi := _) (v := ?_) rfl (by kernel_rfl) (by kernel_rfl) (by kernel_rfl) (fun _ _ _ h => h) (Or.inl ⟨by kernel_rfl, ?_⟩) (by assumption) ?_
          rotate_left
          · (intro w hSw; (try dsimp only at hSw); go_simp; try (with_reducible rfl))
          try simp only [Act.put, List.setIfInBounds_toArray, List.set_cons_zero, List.set_cons_succ, List.getElem_toArray, List.getElem_cons_zero, List.getElem_cons_succ]
          refine wpAnyH_take (i := 17) (oi := _) (v := ?_) rfl (by kernel_rfl) (by kernel_rfl) (by kernel_rfl) (fun _ _ _ h => h) (Or.inl ⟨by kernel_rfl, ?_⟩) (by assumption) ?_
          rotate_left
          · (intro w hSw; (try dsimp only at hSw); go_simp; try (with_reducible rfl))
          try simp only [Act.put, List.setIfInBounds_toArray, List.set_cons_zero, List.set_cons_succ, List.getElem_toArray, List.getElem_cons_zero, List.getElem_cons_succ]
          refine wpAnyH_ready (rs := [18]) (by kernel_rfl) (by simp) (AllReadyH.cons (o := _) rfl (fun K hK => ?_) AllReadyH.nil)
          go_simp
          (go_at_call 90; refine (CD _ BW4.out).mono ?_; rintro e W4 ⟨rfl, bel5⟩)
          have BW5 : Hid (Below wr.heap.size wr W4) := BW4.out.trans (bel5.mono BW4.out.size)
          clear bel5
          go_wp2_with fail
          refine hK.out _ _ ?_ (fun hHeld => ?_)
          · exact HCL.out _ BW5.out
          clear hK K
          try simp only [Act.put, List.setIfInBounds_toArray, List.set_cons_zero, List.set_cons_succ, List.getElem_toArray, List.getElem_cons_zero, List.getElem_cons_succ]
          refine wpAnyH_take (i := 19) (oi := _) (v := ?_) rfl (by kernel_rfl) (by kernel_rfl) (by kernel_rfl) (fun _ _ _ h => h) (Or.inl ⟨by kernel_rfl, ?_⟩) (by assumption) ?_
          rotate_left
          · (intro w hSw; (try dsimp only at hSw); go_simp; try (with_reducible rfl))
          try simp only [Act.put, List.setIfInBounds_toArray, List.set_cons_zero, List.set_cons_succ, List.getElem_toArray, List.getElem_cons_zero, List.getElem_cons_succ]
          refine wpAnyH_take (i := 20) (oi := _) (v := ?_) rfl (by kernel_rfl) (by kernel_rfl) (by kernel_rfl) (fun _ _ _ h => h) (Or.inl ⟨by kernel_rfl, ?_⟩) (by assumption) ?_
          rotate_left
          · (intro w hSw; (try dsimp only at hSw); go_simp; try (with_reducible rfl))
          try simp only [Act.put, List.setIfInBounds_toArray, List.set_cons_zero, List.set_cons_succ, List.getElem_toArray, List.getElem_cons_zero, List.getElem_cons_succ]
          refine wpAnyH_done (by kernel_rfl) ?_ _
          refine NoPanic.normal ?_
          have GB : Hid (Below w1.heap.size w1 W4) := HBW.out.trans (BW5.out.mono hszw)
          have HOW2 : Hid (W4.ownsRow w1.heap.size 23 1 (.slice (some ⟨g, 0, none⟩) q cap) q C) := ((OwnR.of HOW.out).below BW5.out (Nat.le_refl _)).1
          have hcell := HCL.out _ BW5.out
          have hszz := GB.out.size
          have hgl := (HOW2.out.lt g rfl).1
          clear HRs HRT HCL BW1 BW2 BW3 BW4 BW5 HBW HOW hHeld hcs0 hbs
          have HIX : Hid (idxTo keepC m (j + 1) = idxTo keepC m j ++ [j]) := by rw [Hid, HST.out, hs]; simp
          have HQ2 : Hid (q + 1 = (idxTo keepC m (j + 1)).length) := by rw [Hid, HIX.out, List.length_append, ← HQ.out]; rfl
          have HC2 : Hid (C ++ [.slice Ak tn ck] = selV keepC m vs1 (j + 1)) := by
            unfold selV
            rw [Hid, HIX.out, List.map_append, HC.out, List.map_singleton, List.getD_eq_getElem?_getD, HEV.out]; rfl
          clear hs
          go_wp2_with (at_builtin; refine wpList_append_lies _ rfl (.tmp 36) (.tmp 41) 22 rfl w1.heap.size 23 j0 _ 1 24 Try.underlying22 hj hy0 hy1 hy2 rfl (by omega) (.slice (some ⟨g, 0, none⟩) q cap) q C rfl (HOW2.out.alloc _) ⟨W4.heap.size, 0, none⟩ 1 1 [.slice Ak tn ck] rfl rfl (World.news_of_block (cs := #[.slice Ak tn ck]) (heap_alloc_new _ _)) (by simp [Value.oneCell']) (by omega) (by simp only [maxLen]; omega) (by omega) (by simp; omega) (W4.heap.size + 1) (by simp) ?_; intro g5 cap5 w5 hown5 hgrow5 hat5 hlt5)
          have GB5 : Hid (Below w1.heap.size w1 w5) := (GB.out.alloc hszz _).grown hgrow5 (by simp; omega) (fun k hk => by cases hk; exact hgl)
          have HOW5 := Lib.hid hown5
          clear hown5 hgrow5 hat5
          go_wp2
          go_roundw
          case rel => exact ⟨j + 1, q + 1, g5, cap5, _, rfl, by go_num, by omega, HQ2, HOW5, HC2, GB5⟩
          case measure => simp [intOf]; omega
        · have hs : keepC t = false := by rw [← HKE.out]; rfl
          clear HKE
          go_wp2_with fail
          refine wp_region_noPanic ?_
          refine wp_region_held_drew (S := (fun w' => w'.cell? ⟨b, o + j, none⟩ = some (.slice Ak tn ck))) (by kernel_rfl) ?_ (fun hHeld => ?_)
          · exact HCL.out _ (below_drew' BW1.out)
          refine wpAnyH_take (i := 0) (oi := _) (v := ?_) rfl (by kernel_rfl) (by kernel_rfl) (by kernel_rfl) (fun _ _ _ h => h) (Or.inl ⟨by kernel_rfl, ?_⟩) (by assumption) ?_
          rotate_left
          · (intro w hSw; (try dsimp only at hSw); go_simp; try (with_reducible rfl))
          try simp only [Act.put, List.setIfInBounds_toArray, List.set_cons_zero, List.set_cons_succ, List.getElem_toArray, List.getElem_cons_zero, List.getElem_cons_succ]
          refine wpAnyH_take (i := 1) (oi := _) (v := ?_) rfl (by kernel_rfl) (by kernel_rfl) (by kernel_rfl) (fun _ _ _ h => h) (Or.inl ⟨by kernel_rfl, ?_⟩) (by assumption) ?_
          rotate_left
          · (intro w hSw; (try dsimp only at hSw); go_simp; try (with_reducible rfl))
          try simp only [Act.put, List.setIfInBounds_toArray, List.set_cons_zero, List.set_cons_succ, List.getElem_toArray, List.getElem_cons_zero, List.getElem_cons_succ]
          refine wpAnyH_take (i := 2) (oi := _) (v := ?_) rfl (by kernel_rfl) (by kernel_rfl) (by kernel_rfl) (fun _ _ _ h => h) (Or.inl ⟨by kernel_rfl, ?_⟩) (by assumption) ?_
          rotate_left
          · (intro w hSw; (try dsimp only at hSw); go_simp; try (with_reducible rfl))
          try simp only [Act.put, List.setIfInBounds_toArray, List.set_cons_zero, List.set_cons_succ, List.getElem_toArray, List.getElem_cons_zero, List.getElem_cons_succ]
          refine wpAnyH_take (i := 3) (oi := _) (v := ?_) rfl (by kernel_rfl) (by kernel_rfl) (by kernel_rfl) (fun _ _ _ h => h) (Or.inl ⟨by kernel_rfl, ?_⟩) (by assumption) ?_
          rotate_left
          · (intro w hSw; (try dsimp only at hSw); go_simp; try (with_reducible rfl))
          try simp only [Act.put, List.setIfInBounds_toArray, List.set_cons_zero, List.set_cons_succ, List.getElem_toArray, List.getElem_cons_zero, List.getElem_cons_succ]
          refine wpAnyH_take (i := 8) (oi := _) (v := ?_) rfl (by kernel_rfl) (by kernel_rfl) (by kernel_rfl) (fun _ _ _ h => h) (Or.inl ⟨by kernel_rfl, ?_⟩) (by assumption) ?_
          rotate_left
          · (intro w hSw; (try dsimp only at hSw); go_simp; try (with_reducible rfl))
          try simp only [Act.put, List.setIfInBounds_toArray, List.set_cons_zero, List.set_cons_succ, List.getElem_toArray, List.getElem_cons_zero, List.getElem_cons_succ]
          refine wpAnyH_take (i := 9) (oi := _) (v := ?_) rfl (by kernel_rfl) (by kernel_rfl) (by kernel_rfl) (fun _ _ _ h => h) (Or.inl ⟨by kernel_rfl, ?_⟩) (by assumption) ?_
          rotate_left
          · (intro w hSw; (try dsimp only at hSw); go_simp; try (with_reducible rfl))
          try simp only [Act.put, List.setIfInBounds_toArray, List.set_cons_zero, List.set_cons_succ, List.getElem_toArray, List.getElem_cons_zero, List.getElem_cons_succ]
          refine wpAnyH_take (i := 10) (oi := _) (v := ?_) rfl (by kernel_rfl) (by kernel_rfl) (by kernel_rfl) (fun _ _ _ h => h) (Or.inl ⟨by kernel_rfl, ?_⟩) (by assumption) ?_
          rotate_left
          · (intro w hSw; (try dsimp only at hSw); go_simp; try (with_reducible rfl))
          try simp only [Act.put, List.setIfInBounds_toArray, List.set_cons_zero, List.set_cons_succ, List.getElem_toArray, List.getElem_cons_zero, List.getElem_cons_succ]
          refine wpAnyH_take (i := 11) (oi := _) (v := ?_) rfl (by kernel_rfl) (by kernel_rfl) (by kernel_rfl) (fun _ _ _ h => h) (Or.inl ⟨by kernel_rfl, ?_⟩) (by assumption) ?_
          rotate_left
          · (intro w hSw; (try dsimp only at hSw); go_simp; try (with_reducible rfl))
          try simp only [Act.put, List.setIfInBounds_toArray, List.set_cons_zero, List.set_cons_succ, List.getElem_toArray, List.getElem_cons_zero, List.getElem_cons_succ]
          have BW2 := below_drew' BW1.out
          refine wpAnyH_ready (rs := [4]) (by kernel_rfl) (by simp) (AllReadyH.cons (o := _) rfl (fun K hK => ?_) AllReadyH.nil)
          go_simp
          (go_at_call 89; refine (C1 _ BW2).mono ?_; rintro e w3 ⟨As, cs, rfl, hcs, hcsm, HS, bel3⟩)
          obtain ⟨bs, os, Ks, ks, es, hbs, hcs0, _, _, hks, hrows⟩ := HS.at HPK.out
          cases es
          rw [Nat.zero_mul, Nat.add_zero] at hcs0
          simp only at hcs0 hrows
          rw [HFL.out] at hcs0
          have HRs := Lib.hid hrows.row
          have BW3 := BW2.trans (bel3.mono BW2.size)
          clear HS hrows hks bel3 C1
          go_wp2_with fail
          refine hK.out _ _ ?_ (fun hHeld => ?_)
          · exact HCL.out _ BW3
          clear hK K
          try simp only [Act.put, List.setIfInBounds_toArray, List.set_cons_zero, List.set_cons_succ, List.getElem_toArray, List.getElem_cons_zero, List.getElem_cons_succ]
          refine wpAnyH_take (i := 5) (oi := _) (v := ?_) rfl (by kernel_rfl) (by kernel_rfl) (by kernel_rfl) (fun _ _ _ h => h) (Or.inl ⟨by kernel_rfl, ?_⟩) (by assumption) ?_
          rotate_left
          · (intro w hSw; (try dsimp only at hSw); go_simp; try (with_reducible rfl))
          try simp only [Act.put, List.setIfInBounds_toArray, List.set_cons_zero, List.set_cons_succ, List.getElem_toArray, List.getElem_cons_zero, List.getElem_cons_succ]
          refine wpAnyH_take (i := 6) (oi := _) (v := ?_) rfl (by kernel_rfl) (by kernel_rfl) (by kernel_rfl) (fun _ _ _ h => h) (Or.inl ⟨by kernel_rfl, ?_⟩) (by assumption) ?_
          rotate_left
          · (intro w hSw; (try dsimp only at hSw); go_simp; try (with_reducible rfl))
          try simp only [Act.put, List.setIfInBounds_toArray, List.set_cons_zero, List.set_cons_succ, List.getElem_toArray, List.getElem_cons_zero, List.getElem_cons_succ]
          refine wpAnyH_ready (rs := [7]) (by kernel_rfl) (by simp) (AllReadyH.cons (o := _) rfl (fun K hK => ?_) AllReadyH.nil)
          go_simp
          refine hK.out _ _ ?_ (fun hHeld => ?_)
          · exact HCL.out _ BW3
          clear hK K
          try simp only [Act.put, List.setIfInBounds_toArray, List.set_cons_zero, List.set_cons_succ, List.getElem_toArray, List.getElem_cons_zero, List.getElem_cons_succ]
          refine wpAnyH_ready (rs := [12]) (by kernel_rfl) (by simp) (AllReadyH.cons (o := _) rfl (fun K hK => ?_) AllReadyH.nil)
          go_simp
          (go_at_call 88; refine (l01Same_any Ks Ak tn tn ks ck _ _ (freeL t) t w3 HFL.out HTL.out (by omega) (by omega) HRs.out (HRT.out.below BW3 (Nat.le_refl _))).mono ?_; rintro e w4 ⟨rfl, m4, rfl⟩)
          rw [← HSM.out]
          have BW4 : Hid (Below wr.heap.size wr (w3.drewN m4)) := below_drewN BW3 _
          go_wp2_with fail
          refine hK.out _ _ ?_ (fun hHeld => ?_)
          · exact HCL.out _ BW4.out
          clear hK K
          try simp only [Act.put, List.setIfInBounds_toArray, List.set_cons_zero, List.set_cons_succ, List.getElem_toArray, List.getElem_cons_zero, List.getElem_cons_succ]
          refine wpAnyH_take (i := 13) (oi := _) (v := ?_) rfl (by kernel_rfl) (by kernel_rfl) (by kernel_rfl) (fun _ _ _ h => h) (Or.inl ⟨by kernel_rfl, ?_⟩) (by assumption) ?_
          rotate_left
          · (intro w hSw; (try dsimp only at hSw); go_simp; try (with_reducible rfl))
          try simp only [Act.put, List.setIfInBounds_toArray, List.set_cons_zero, List.set_cons_succ, List.getElem_toArray, List.getElem_cons_zero, List.getElem_cons_succ]
          refine wpAnyH_take (i := 14) (oi := _) (v := ?_) rfl (by kernel_rfl) (by kernel_rfl) (by kernel_rfl) (fun _ _ _ h => h) (Or.inl ⟨by kernel_rfl, ?_⟩) (by assumption) ?_
          rotate_left
          · (intro w hSw; (try dsimp only at hSw); go_simp; try (with_reducible rfl))
          try simp only [Act.put, List.setIfInBounds_toArray, List.set_cons_zero, List.set_cons_succ, List.getElem_toArray, List.getElem_cons_zero, List.getElem_cons_succ]
          refine wpAnyH_take (i := 15) (oi := _) (v := ?_) rfl (by kernel_rfl) (by kernel_rfl) (by kernel_rfl) (fun _ _ _ h => h) (Or.inl ⟨by kernel_rfl, ?_⟩) (by assumption) ?_
          rotate_left
          · (intro w hSw; (try dsimp only at hSw); go_simp; try (with_reducible rfl))
          try simp only [Act.put, List.setIfInBounds_toArray, List.set_cons_zero, List.set_cons_succ, List.getElem_toArray, List.getElem_cons_zero, List.getElem_cons_succ]
          refine wpAnyH_take (i := 16) (oi := _) (v := ?_) rfl (by kernel_rfl) (by kernel_rfl) (by kernel_rfl) (fun _ _ _ h => h) (Or.inl ⟨by kernel_rfl, ?_⟩) (by assumption) ?_
          rotate_left
          · (intro w hSw; (try dsimp only at hSw); go_simp; try (with_reducible rfl))
          try simp only [Act.put, List.setIfInBounds_toArray, List.set_cons_zero, List.set_cons_succ, List.getElem_toArray, List.getElem_cons_zero, List.getElem_cons_succ]
          refine wpAnyH_take (i := 17) (oi := _) (v := ?_) rfl (by kernel_rfl) (by kernel_rfl) (by kernel_rfl) (fun _ _ _ h => h) (Or.inl ⟨by kernel_rfl, ?_⟩) (by assumption) ?_
          rotate_left
          · (intro w hSw; (try dsimp only at hSw); go_simp; try (with_reducible rfl))
          try simp only [Act.put, List.setIfInBounds_toArray, List.set_cons_zero, List.set_cons_succ, List.getElem_toArray, List.getElem_cons_zero, List.getElem_cons_succ]
          refine wpAnyH_ready (rs := [18]) (by kernel_rfl) (by simp) (AllReadyH.cons (o := _) rfl (fun K hK => ?_) AllReadyH.nil)
          go_simp
          (go_at_call 90; refine (CD _ BW4.out).mono ?_; rintro e W4 ⟨rfl, bel5⟩)
          have BW5 : Hid (Below wr.heap.size wr W4) := BW4.out.trans (bel5.mono BW4.out.size)
          clear bel5
          go_wp2_with fail
          refine hK.out _ _ ?_ (fun hHeld => ?_)
          · exact HCL.out _ BW5.out
          clear hK K
          try simp only [Act.put, List.setIfInBounds_toArray, List.set_cons_zero, List.set_cons_succ, List.getElem_toArray, List.getElem_cons_zero, List.getElem_cons_succ]
          refine wpAnyH_take (i := 19) (oi := _) (v := ?_) rfl (by kernel_rfl) (by kernel_rfl) (by kernel_rfl) (fun _ _ _ h => h) (Or.inl ⟨by kernel_rfl, ?_⟩) (by assumption) ?_
          rotate_left
          · (intro w hSw; (try dsimp only at hSw); go_simp; try (with_reducible rfl))
          try simp only [Act.put, List.setIfInBounds_toArray, List.set_cons_zero, List.set_cons_succ, List.getElem_toArray, List.getElem_cons_zero, List.getElem_cons_succ]
          refine wpAnyH_take (i := 20) (oi := _) (v := ?_) rfl (by kernel_rfl) (by kernel_rfl) (by kernel_rfl) (fun _ _ _ h => h) (Or.inl ⟨by kernel_rfl, ?_⟩) (by assumption) ?_
          rotate_left
          · (intro w hSw; (try dsimp only at hSw); go_simp; try (with_reducible rfl))
          try simp only [Act.put, List.setIfInBounds_toArray, List.set_cons_zero, List.set_cons_succ, List.getElem_toArray, List.getElem_cons_zero, List.getElem_cons_succ]
          refine wpAnyH_done (by kernel_rfl) ?_ _
          refine NoPanic.normal ?_
          have GB : Hid (Below w1.heap.size w1 W4) := HBW.out.trans (BW5.out.mono hszw)
          have HOW2 : Hid (W4.ownsRow w1.heap.size 23 1 (.slice (some ⟨g, 0, none⟩) q cap) q C) := ((OwnR.of HOW.out).below BW5.out (Nat.le_refl _)).1
          have hcell := HCL.out _ BW5.out
          have hszz := GB.out.size
          have hgl := (HOW2.out.lt g rfl).1
          clear HRs HRT HCL BW1 BW2 BW3 BW4 BW5 HBW HOW hHeld hcs0 hbs
          have HIX : Hid (idxTo keepC m (j + 1) = idxTo keepC m j) := by rw [Hid, HST.out, hs]; simp
          have HQ2 : Hid (q = (idxTo keepC m (j + 1)).length) := by rw [Hid, HIX.out]; exact HQ.out
          have HC2 : Hid (C = selV keepC m vs1 (j + 1)) := by unfold selV; rw [Hid, HIX.out]; exact HC.out
          clear hs hcell
          go_wp2
          go_roundw
          case rel => exact ⟨j + 1, q, g, cap, C, rfl, by go_num, by omega, HQ2, HOW2, HC2, GB⟩
          case measure => simp [intOf]; omega
    · have hj9 : j = m.length := by rw [← HN.out]; omega
      have e8 : (idxTo keepC m j).map (fun k => m.getD k []) = m.filter keepC := by rw [hj9]; exact idxTo_all m
      have hq9 : (m.filter keepC).length = q := by rw [← e8, List.length_map, HQ.out]
      have hrow9 := HOW.out
      rw [HC.out] at hrow9
      have hM : Mat wr wr.heap.size (some ⟨g, 0, none⟩) (m.filter keepC) := by
        have h9 := Mat.select HO.out HBW.out (fun k hk => Nat.lt_of_lt_of_le (idxTo_lt hk) (by rw [hj9]; exact Nat.le_refl _)) hrow9
        rw [e8] at h9
        exact h9
      have GB : Hid (Below w.heap.size w wr) := HB.out.trans (HBW.out.mono HB.out.size)
      have HOF : Hid (wr.ownsRow w.heap.size 23 1 (.slice (some ⟨g, 0, none⟩) q cap) q (selV keepC m vs1 j)) := ((OwnR.of hrow9).more HB.out.size (Nat.le_refl _)).1
      have hMM := Lib.hid hM
      have hQQ := Lib.hid hq9
      clear hj9 e8 hrow9 HBW HOW HC hM hq9
      go_wp2
      go_ret
      rw [EM.out]
      exact ⟨g, cap, _, by rw [hQQ.out]; rfl, by rw [hQQ.out]; exact HOF.out, hMM.out, GB.out⟩
set_option maxHeartbeats 1000000 in
theorem sFreeConditions_L (a : Int) (w : World) (ha : -9223372036854775808 ≤ a ∧ a ≤ 9223372036854775807) : Calls Try.prog 28 #[.int .i64 a] w (ResMl (condsA a) w) := by
  by_cases h : 1 ≤ a ∧ a ≤ 8
  · obtain ⟨n, rfl⟩ : ∃ n : Nat, a = (n : Int) := ⟨a.toNat, by omega⟩
    have h1 : 1 ≤ n := by omega
    have h8 : n ≤ 8 := by omega
    have G := Lib.hid (condsA_yes h1 h8)
    have T := isIn_yes (n := (n : Int)) (l := 1) (h := 8) (by omega) (by omega)
    have HT := Lib.hid (free_total h1 h8)
    clear h ha
    go_enter Try.func28, Try.ntmps28
    go_wp2_with fail
    refine (l01In_any _ _ _ _).mono ?_
    rintro e w' ⟨rfl, rfl⟩
    rw [T]
    go_wp2_with fail
    refine (l12Free_any n _ h1 h8).mono ?_
    rintro e w1 ⟨g, cap, C, rfl, own1, hM, bel1⟩
    have GM := Lib.hid hM
    have GB := Lib.hid bel1
    clear own1 hM bel1
    go_wp2
    go_ret2
    exact ResMl.of G.out rfl HT.out GM.out GB.out
  · have G := Lib.hid (condsA_no h)
    have T := isIn_no (n := a) (l := 1) (h := 8) (by omega)
    clear h
    go_enter Try.func28, Try.ntmps28
    go_wp2_with fail
    refine (l01In_any _ _ _ _).mono ?_
    rintro e w' ⟨rfl, rfl⟩
    rw [T]
    go_wp2
    go_ret2
    exact ResMl.nil G.out (Below.refl _ _)
end Go.Proofs.Ytnnihdkhblbdgaa
