/-
  Texts of this seat, joined: what several laws lean on.
-/
import Derived.Test.YtnnihdkhblbdgaaUH1
import Derived.Deep.RegionHeld3
import Derived.Test.YtnnihdkhblbdgaaTests
import Derived.Test.YtnnihdkhblbdgaaCan
import Derived.Test.YtnnihdkhblbdgaaCmpX
import Derived.Test.YtnnihdkhblbdgaaTreeC8
import Derived.Test.YtnnihdkhblbdgaaNum
import Derived.WideKeyEntry
import Derived.Maps.OwnSet
import Derived.Test.YtnnihdkhblbdgaaBase
import Derived.Test.YtnnihdkhblbdgaaSlices
import Derived.Test.YtnnihdkhblbdgaaRes1
import Derived.Test.YtnnihdkhblbdgaaTreeOf
import Derived.Test.YtnnihdkhblbdgaaSrt
import Derived.Laws.AppendOwnNone
import Derived.Test.YtnnihdkhblbdgaaGrow
import Derived.Test.YtnnihdkhblbdgaaNest
import Derived.Laws.Rows
import Derived.Laws.Tables
import Derived.Laws.CopyOwn
import Derived.Deep.RegionLaw
import Derived.StillTailTactics
import Derived.IntWalk
import Derived.BigQuiet
import Derived.Test.YtnnihdkhblbdgaaSame
import Derived.Test.YtnnihdkhblbdgaaSCan
import Derived.Test.YtnnihdkhblbdgaaNestc
/-
  Free conditions, the model's; what keeps a tree.
-/
namespace Go.Proofs.Ytnnihdkhblbdgaa
open Go.RowKit Fld
set_option linter.unusedVariables false
set_option linter.unusedSimpArgs false
set_option maxRecDepth 100000

theorem chk_treesC : ((List.range 8).all fun n => (Tr.treesL (n + 1)).all (fun t => decide (Tr.can t = t)) && decide (1 ≤ (Tr.treesL (n + 1)).length)) = true := by decide +kernel
theorem trees_canC {n : Nat} (h1 : 1 ≤ n) (h8 : n ≤ 8) : (∀ t ∈ Tr.treesL n, Tr.can t = t) ∧ 1 ≤ (Tr.treesL n).length := by
  obtain ⟨k, rfl⟩ : ∃ k, n = k + 1 := ⟨n - 1, by omega⟩
  have h := List.all_eq_true.1 chk_treesC k (by rw [List.mem_range]; omega)
  simp only [Bool.and_eq_true, List.all_eq_true, decide_eq_true_eq] at h
  exact ⟨h.1, by omega⟩
theorem txt_eqC {s t : List Int} (hs : Tr.isLv s = true) (ht : Tr.isLv t = true) (cs : Tr.can s = s) (ct : Tr.can t = t) : decide (Tr.txt s = Tr.txt t) = eqL s t := by
  have this : s = t ↔ Tr.txt s = Tr.txt t := ⟨fun e => by rw [e], fun e => by rw [← cs, ← ct, ← (lv_txt hs).1, ← (lv_txt ht).1, e]⟩
  unfold eqL
  by_cases e : s = t
  · rw [decide_eq_true e, decide_eq_true (this.1 e)]
  · rw [decide_eq_false e, decide_eq_false (fun q => e (this.2 q))]
theorem keepC_eq {t : List Int} (h : Tr.isLv t = true) (hc : Tr.can t = t) : (eqL (freeL t) t && !Tr.doubleL t (t.length - 1)) = keepC t := by
  obtain ⟨_, q1, q2, q3, q4⟩ := free_parts h
  rw [← txt_eqC q2 h q3 hc, q1, Tr.sup_eq h hc]
  have e : decide (minT (rootsT (Tr.txt t)) = Tr.txt t) = decide (Tr.txt t = minT (rootsT (Tr.txt t))) := by
    by_cases z : minT (rootsT (Tr.txt t)) = Tr.txt t
    · rw [decide_eq_true z, decide_eq_true z.symm]
    · rw [decide_eq_false z, decide_eq_false (fun q => z q.symm)]
  rw [e]; rfl
theorem Mat.selectC {w w' : World} {lo B n c q c' g : Nat} {A : Option Addr} {m : List (List Int)} {vs : List Value} {idx : List Nat} (h : OwnMat w lo w.heap.size (.slice A n c) n m vs) (hb : Below w.heap.size w w') (hi : ∀ k ∈ idx, k < m.length)
    (ho : w'.ownsRow B 23 1 (.slice (some ⟨g, 0, none⟩) q c') q (idx.map fun k => vs.getD k nilVC)) : Mat w' w'.heap.size (some ⟨g, 0, none⟩) (idx.map fun k => m.getD k []) := by
  intro k r hr
  rw [List.getElem?_map, Option.map_eq_some_iff] at hr
  obtain ⟨l, hl, rfl⟩ := hr
  have hlm := hi l (List.mem_of_getElem? hl)
  have e : m[l]? = some (m.getD l []) := by rw [List.getD_eq_getElem?_getD, List.getElem?_eq_getElem hlm]; rfl
  obtain ⟨A', c'', e1, o1⟩ := h.inner l _ e
  have e2 : (idx.map fun k => vs.getD k nilVC)[k]? = some (.slice A' (m.getD l []).length c'') := by
    rw [List.getElem?_map, hl, Option.map_some, List.getD_eq_getElem?_getD (l := vs), e1]; rfl
  obtain ⟨b, o, e3, hbl, hcl⟩ := row_of_own ho k _ e2
  obtain ⟨c1, c2⟩ := own_cap o1.1
  exact ⟨b, o, A', c'', e3, hbl, hcl, c1, c2, ((o1.below hb (Nat.le_refl _)).row).more hb.size⟩
def freeM (n : Nat) : List (List Int) := (Tr.treesL n).filter keepC
/-- the values C are lists m that lie from lo on and not in the block g -/
def InF (lo : Nat) (w : World) (g : Nat) (C : List Value) (m : List (List Int)) : Prop :=
  C.length = m.length ∧ ∀ (j : Nat) (r : List Int), m[j]? = some r → ∃ b o c, C[j]? = some (Value.slice (some ⟨b, o, none⟩) (List.length r) c) ∧ lo ≤ b ∧ b < w.heap.size ∧ b ≠ g ∧ r.length ≤ c ∧ c ≤ maxLen ∧ ∀ k x, r[k]? = some x → w.cell? ⟨b, o + k, none⟩ = some (.int .i64 x)
theorem InF.of {w w' : World} {lo n c g : Nat} {A : Option Addr} {m : List (List Int)} {vs : List Value} {idx : List Nat} (h : OwnMat w lo w.heap.size (.slice A n c) n m vs) (hb : Below w.heap.size w w') (hi : ∀ k ∈ idx, k < m.length) (hg : w.heap.size ≤ g) (hne : ∀ r ∈ m, 0 < r.length) :
    InF lo w' g (idx.map fun k => vs.getD k nilVC) (idx.map fun k => m.getD k []) := by
  refine ⟨by simp, fun j r hr => ?_⟩
  rw [List.getElem?_map, Option.map_eq_some_iff] at hr
  obtain ⟨l, hl, rfl⟩ := hr
  have hlm := hi l (List.mem_of_getElem? hl)
  have e : m[l]? = some (m.getD l []) := by rw [List.getD_eq_getElem?_getD, List.getElem?_eq_getElem hlm]; rfl
  obtain ⟨A', c'', e1, o1⟩ := h.inner l _ e
  have hpos := hne _ (List.mem_of_getElem? e)
  obtain ⟨q1, q2⟩ := own_cap o1.1
  obtain ⟨x0, hx0⟩ := at_lt hpos
  obtain ⟨b, o, rfl, hbl, _⟩ := o1.row 0 _ (ints_at hx0)
  have hlo := (o1.1.lt b rfl).1
  refine ⟨b, o, c'', ?_, hlo, Nat.lt_of_lt_of_le hbl hb.size, by omega, q1, q2, fun k x hx => ?_⟩
  · rw [List.getElem?_map, hl, Option.map_some, List.getD_eq_getElem?_getD (l := vs), e1]
    try rfl
  · obtain ⟨b', o', e', _, hc⟩ := o1.row k _ (ints_at hx)
    injection e' with e'
    injection e' with e2 e3
    subst e2 e3
    exact (hb.cell (p := ⟨b, o + k, none⟩) hbl).trans hc
/-- free conditions in memory of the call's own -/
def FreeRes (m : List (List Int)) (w : World) (e : Ending) (w' : World) : Prop :=
  ∃ (g c : Nat) (C : List Value), e = .returned (.slice (some ⟨g, 0, none⟩) m.length c) ∧ w'.ownsRow w.heap.size 23 1 (.slice (some ⟨g, 0, none⟩) m.length c) m.length C ∧ Mat w' w'.heap.size (some ⟨g, 0, none⟩) m ∧ InF w.heap.size w' g C m ∧ Below w.heap.size w w'
set_option maxHeartbeats 4000000 in
theorem l12Free_any (n : Nat) (w : World) (h1 : 1 ≤ n) (h8 : n ≤ 8) : Calls Try.prog 56 #[.int .i64 n] w (FreeRes (freeM n) w) := by
  obtain ⟨j0, hj, hy0, hy1, hy2⟩ := info_parts info_row
  obtain ⟨t1, t2⟩ := trees_all h1 h8
  obtain ⟨t4, t3⟩ := trees_canC h1 h8
  have C0 := fun w => l03Trees_any n w h1 h8
  have EM : Hid (freeM n = (Tr.treesL n).filter keepC) := rfl
  obtain ⟨m, hm⟩ : ∃ m, m = Tr.treesL n := ⟨_, rfl⟩
  simp only [← hm] at C0
  rw [← hm] at t1 t2 t3 t4 EM
  obtain ⟨nm, hnm⟩ : ∃ nm, nm = m.length := ⟨_, rfl⟩
  rw [← hnm] at t2 t3
  simp only [← hnm] at C0
  have HN := Lib.hid hnm
  have H1 := Lib.hid t1
  have H4 := Lib.hid t4
  clear hm hnm t1 t4
  go_enter Try.func56, Try.ntmps56
  go_wp2_with fail
  refine (C0 _).mono ?_
  rintro e w1 ⟨A1, c1, vs1, rfl, own1, bel1⟩
  have HO := Lib.hid own1
  have HB := Lib.hid bel1
  have HRV : Hid (Row w1 w1.heap.size A1 vs1) := row_of_own own1.outer.1
  have hcap := own_cap own1.outer.1
  clear own1 bel1 C0
  go_wp2_with fail
  go_loopw [4, 5] (fun v i wr => ∃ (j q g cap : Nat) (C : List Value), v = .slice (some ⟨g, 0, none⟩) q cap ∧ i = .int .i64 j ∧ j ≤ nm ∧ Hid (q = (idxToC keepC m j).length) ∧ Hid (wr.ownsRow w1.heap.size 23 1 (.slice (some ⟨g, 0, none⟩) q cap) q C) ∧ Hid (C = selVC keepC m vs1 j) ∧ Hid (Below w1.heap.size w1 wr)) (fun _ i _ => nm - (intOf i).toNat)
  case atStart => exact ⟨0, 0, _, 0, [], rfl, rfl, Nat.zero_le _, rfl, (Growing.start w1 23).1, rfl, (Growing.start w1 23).2⟩
  case round =>
    obtain ⟨j, q, g, cap, C, rfl, rfl, hjn, HQ, HOW, HC, HBW⟩ := hrel
    have hqj : q ≤ j := by rw [HQ.out]; exact idxTo_leC _ _ _
    have hszw := HBW.out.size
    by_cases hlt : j < nm
    · obtain ⟨t, ht⟩ := at_lt (show j < m.length by rw [← HN.out]; exact hlt)
      have hmem := List.mem_of_getElem? ht
      have hlv := (H1.out t hmem).1
      obtain ⟨a1, a8⟩ := lv_bd hlv
      obtain ⟨Ak, ck, e5, o5⟩ := HO.out.inner j t ht
      obtain ⟨b, o, e1, hb, hck⟩ := (Row.below HRV.out HBW.out (Nat.le_refl _)) j _ e5
      obtain ⟨hlc, hcm⟩ := own_cap o5.1
      have hrow := (o5.below HBW.out (Nat.le_refl _)).row
      obtain ⟨tn, htn⟩ : ∃ tn, tn = t.length := ⟨_, rfl⟩
      rw [← htn] at hck hlc a1 a8 e5
      subst e1
      have hbz : b < wr.heap.size := by omega
      have HCL : Hid (∀ w', Below wr.heap.size wr w' → w'.cell? ⟨b, o + j, none⟩ = some (.slice Ak tn ck)) := fun w' hw' => (hw'.cell (p := ⟨b, o + j, none⟩) hbz).trans hck
      have BW1 : Hid (Below wr.heap.size wr wr) := Below.refl _ _
      have C1 := fun w' (bw : Below wr.heap.size wr w') => l04Roots_any Ak tn ck w1.heap.size t w' htn.symm hlv hlc (Nat.le_trans hszw bw.size) (Row.below hrow bw hszw)
      have HRT : Hid (Row wr wr.heap.size Ak (ints t)) := hrow.more hszw
      obtain ⟨⟨x, p0⟩, _, _, _, p4⟩ := free_parts hlv
      rw [← htn] at p4
      have HPK := Lib.hid p0
      have HFL := Lib.hid p4
      have HTL := Lib.hid htn.symm
      have HKE := Lib.hid (keepC_eq hlv (H4.out t hmem))
      rw [← htn] at HKE
      have CD := fun w' (bw : Below wr.heap.size wr w') => l04Double_any Ak tn ck w1.heap.size t w' htn.symm hlv hlc (Nat.le_trans hszw bw.size) (Row.below hrow bw hszw)
      have HST := Lib.hid (idxTo_stepC (p := keepC) ht)
      have HEV : Hid (vs1[j]? = some (.slice Ak tn ck)) := e5
      obtain ⟨R, hR⟩ : ∃ R, R = rootsL t := ⟨_, rfl⟩
      rw [← hR] at HPK
      simp only [← hR] at C1
      have hR1 : 0 < R.length := by
        rcases Nat.lt_or_ge 0 R.length with q | q
        · exact q
        · have := HPK.out; rw [List.getElem?_eq_none q] at this; cases this
      obtain ⟨nr, hnr⟩ : ∃ nr, nr = R.length := ⟨_, rfl⟩
      simp only [← hnr] at C1
      rw [← hnr] at hR1
      obtain ⟨sm, hsm⟩ : ∃ sm, sm = eqL (freeL t) t := ⟨_, rfl⟩
      obtain ⟨db, hdb⟩ : ∃ db, db = Tr.doubleL t (tn - 1) := ⟨_, rfl⟩
      rw [← hsm, ← hdb] at HKE
      simp only [← hdb] at CD
      have HSM := Lib.hid hsm
      clear hdb hsm hR hnr htn ht hmem hlv hck hlc hcm hrow p0 p4 hb e5 o5
      cases sm
      · have hs : keepC t = false := by rw [← HKE.out]; rfl
        clear HKE CD
        go_wp2_with fail
        refine wp_region_noPanic ?_
        refine wp_region_held_drew (S := (fun w' => w'.cell? ⟨b, o + j, none⟩ = some (.slice Ak tn ck))) (by kernel_rfl) ?_ (fun hHeld => ?_)
        · exact HCL.out _ (below_drew' BW1.out)
        refine wpAnyH_take (i := 0) (oi := _) (v := ?_) rfl (by kernel_rfl) (by kernel_rfl) (by kernel_rfl) (fun _ _ _ h => h) (Or.inl ⟨by kernel_rfl, ?_⟩) (by assumption) ?_
        rotate_left
        · (intro w hSw; (try dsimp only at hSw); go_simp; try (with_reducible rfl))
        try simp only [Act.put, List.setIfInBounds_toArray, List.set_cons_zero, List.set_cons_succ, List.getElem_toArray, List.getElem_cons_zero, List.getElem_cons_succ]
        refine wpAnyH_take (i := 1) (oi := _) (v := ?_) rfl (by kernel_rfl) (by kernel_rfl) (by kernel_rfl) (fun _ _ _ h => h) (Or.inl ⟨by kernel_rfl, ?_⟩) (by assumption) ?_
        rotate_left
        · (intro w hSw; (try dsimp only at hSw); go_simp; try (with_reducible rfl))
        try simp only [Act.put, List.setIfInBounds_toArray, List.set_cons_zero, List.set_cons_succ, List.getElem_toArray, List.getElem_cons_zero, List.getElem_cons_succ]
        refine wpAnyH_take (i := 2) (oi := _) (v := ?_) rfl (by kernel_rfl) (by kernel_rfl) (by kernel_rfl) (fun _ _ _ h => h) (Or.inl ⟨by kernel_rfl, ?_⟩) (by assumption) ?_
        rotate_left
        · (intro w hSw; (try dsimp only at hSw); go_simp; try (with_reducible rfl))
        try simp only [Act.put, List.setIfInBounds_toArray, List.set_cons_zero, List.set_cons_succ, List.getElem_toArray, List.getElem_cons_zero, List.getElem_cons_succ]
        refine wpAnyH_take (i := 3) (oi := _) (v := ?_) rfl (by kernel_rfl) (by kernel_rfl) (by kernel_rfl) (fun _ _ _ h => h) (Or.inl ⟨by kernel_rfl, ?_⟩) (by assumption) ?_
        rotate_left
        · (intro w hSw; (try dsimp only at hSw); go_simp; try (with_reducible rfl))
        try simp only [Act.put, List.setIfInBounds_toArray, List.set_cons_zero, List.set_cons_succ, List.getElem_toArray, List.getElem_cons_zero, List.getElem_cons_succ]
        refine wpAnyH_take (i := 8) (oi := _) (v := ?_) rfl (by kernel_rfl) (by kernel_rfl) (by kernel_rfl) (fun _ _ _ h => h) (Or.inl ⟨by kernel_rfl, ?_⟩) (by assumption) ?_
        rotate_left
        · (intro w hSw; (try dsimp only at hSw); go_simp; try (with_reducible rfl))
        try simp only [Act.put, List.setIfInBounds_toArray, List.set_cons_zero, List.set_cons_succ, List.getElem_toArray, List.getElem_cons_zero, List.getElem_cons_succ]
        refine wpAnyH_take (i := 9) (oi := _) (v := ?_) rfl (by kernel_rfl) (by kernel_rfl) (by kernel_rfl) (fun _ _ _ h => h) (Or.inl ⟨by kernel_rfl, ?_⟩) (by assumption) ?_
        rotate_left
        · (intro w hSw; (try dsimp only at hSw); go_simp; try (with_reducible rfl))
        try simp only [Act.put, List.setIfInBounds_toArray, List.set_cons_zero, List.set_cons_succ, List.getElem_toArray, List.getElem_cons_zero, List.getElem_cons_succ]
        refine wpAnyH_take (i := 10) (oi := _) (v := ?_) rfl (by kernel_rfl) (by kernel_rfl) (by kernel_rfl) (fun _ _ _ h => h) (Or.inl ⟨by kernel_rfl, ?_⟩) (by assumption) ?_
        rotate_left
        · (intro w hSw; (try dsimp only at hSw); go_simp; try (with_reducible rfl))
        try simp only [Act.put, List.setIfInBounds_toArray, List.set_cons_zero, List.set_cons_succ, List.getElem_toArray, List.getElem_cons_zero, List.getElem_cons_succ]
        refine wpAnyH_take (i := 11) (oi := _) (v := ?_) rfl (by kernel_rfl) (by kernel_rfl) (by kernel_rfl) (fun _ _ _ h => h) (Or.inl ⟨by kernel_rfl, ?_⟩) (by assumption) ?_
        rotate_left
        · (intro w hSw; (try dsimp only at hSw); go_simp; try (with_reducible rfl))
        try simp only [Act.put, List.setIfInBounds_toArray, List.set_cons_zero, List.set_cons_succ, List.getElem_toArray, List.getElem_cons_zero, List.getElem_cons_succ]
        have BW2 := below_drew' BW1.out
        refine wpAnyH_ready (rs := [4]) (by kernel_rfl) (by simp) (AllReadyH.cons (o := _) rfl (fun K hK => ?_) AllReadyH.nil)
        go_simp
        (go_at_call 89; refine (C1 _ BW2).mono ?_; rintro e w3 ⟨As, cs, rfl, hcs, hcsm, HS, bel3⟩)
        obtain ⟨bs, os, Ks, ks, es, hbs, hcs0, _, _, hks, hrows⟩ := HS.at HPK.out
        cases es
        rw [Nat.zero_mul, Nat.add_zero] at hcs0
        simp only at hcs0 hrows
        rw [HFL.out] at hcs0
        have HRs := Lib.hid hrows.row
        have BW3 := BW2.trans (bel3.mono BW2.size)
        clear HS hrows hks bel3 C1
        go_wp2_with fail
        refine hK.out _ _ ?_ (fun hHeld => ?_)
        · exact HCL.out _ BW3
        clear hK K
        try simp only [Act.put, List.setIfInBounds_toArray, List.set_cons_zero, List.set_cons_succ, List.getElem_toArray, List.getElem_cons_zero, List.getElem_cons_succ]
        refine wpAnyH_take (i := 5) (oi := _) (v := ?_) rfl (by kernel_rfl) (by kernel_rfl) (by kernel_rfl) (fun _ _ _ h => h) (Or.inl ⟨by kernel_rfl, ?_⟩) (by assumption) ?_
        rotate_left
        · (intro w hSw; (try dsimp only at hSw); go_simp; try (with_reducible rfl))
        try simp only [Act.put, List.setIfInBounds_toArray, List.set_cons_zero, List.set_cons_succ, List.getElem_toArray, List.getElem_cons_zero, List.getElem_cons_succ]
        refine wpAnyH_take (i := 6) (oi := _) (v := ?_) rfl (by kernel_rfl) (by kernel_rfl) (by kernel_rfl) (fun _ _ _ h => h) (Or.inl ⟨by kernel_rfl, ?_⟩) (by assumption) ?_
        rotate_left
        · (intro w hSw; (try dsimp only at hSw); go_simp; try (with_reducible rfl))
        try simp only [Act.put, List.setIfInBounds_toArray, List.set_cons_zero, List.set_cons_succ, List.getElem_toArray, List.getElem_cons_zero, List.getElem_cons_succ]
        refine wpAnyH_ready (rs := [7]) (by kernel_rfl) (by simp) (AllReadyH.cons (o := _) rfl (fun K hK => ?_) AllReadyH.nil)
        go_simp
        refine hK.out _ _ ?_ (fun hHeld => ?_)
        · exact HCL.out _ BW3
        clear hK K
        try simp only [Act.put, List.setIfInBounds_toArray, List.set_cons_zero, List.set_cons_succ, List.getElem_toArray, List.getElem_cons_zero, List.getElem_cons_succ]
        refine wpAnyH_ready (rs := [12]) (by kernel_rfl) (by simp) (AllReadyH.cons (o := _) rfl (fun K hK => ?_) AllReadyH.nil)
        go_simp
        (go_at_call 88; refine (l01Same_any Ks Ak tn tn ks ck _ _ (freeL t) t w3 HFL.out HTL.out (by omega) (by omega) HRs.out (HRT.out.below BW3 (Nat.le_refl _))).mono ?_; rintro e w4 ⟨rfl, m4, rfl⟩)
        rw [← HSM.out]
        have BW4 : Hid (Below wr.heap.size wr (w3.drewN m4)) := below_drewN BW3 _
        go_wp2_with fail
        refine hK.out _ _ ?_ (fun hHeld => ?_)
        · exact HCL.out _ BW4.out
        clear hK K
        try simp only [Act.put, List.setIfInBounds_toArray, List.set_cons_zero, List.set_cons_succ, List.getElem_toArray, List.getElem_cons_zero, List.getElem_cons_succ]
        refine wpAnyH_take (i := 13) (oi := _) (v := ?_) rfl (by kernel_rfl) (by kernel_rfl) (by kernel_rfl) (fun _ _ _ h => h) (Or.inl ⟨by kernel_rfl, ?_⟩) (by assumption) ?_
        rotate_left
        · (intro w hSw; (try dsimp only at hSw); go_simp; try (with_reducible rfl))
        try simp only [Act.put, List.setIfInBounds_toArray, List.set_cons_zero, List.set_cons_succ, List.getElem_toArray, List.getElem_cons_zero, List.getElem_cons_succ]
        refine wpAnyH_skipN (by assumption) [(14, 29), (15, 30), (16, 31), (17, 32), (18, 33), (19, 34)] 1 _ _ (by kernel_rfl) ?_
        simp only [List.foldl, Act.put, List.setIfInBounds_toArray, List.set_cons_zero, List.set_cons_succ]
        refine wpAnyH_take (i := 20) (oi := _) (v := ?_) rfl (by kernel_rfl) (by kernel_rfl) (by kernel_rfl) (fun _ _ _ h => h) (Or.inl ⟨by kernel_rfl, ?_⟩) (by assumption) ?_
        rotate_left
        · (intro w hSw; (try dsimp only at hSw); go_simp; try (with_reducible rfl))
        try simp only [Act.put, List.setIfInBounds_toArray, List.set_cons_zero, List.set_cons_succ, List.getElem_toArray, List.getElem_cons_zero, List.getElem_cons_succ]
        refine wpAnyH_done (by kernel_rfl) ?_ _
        refine NoPanic.normal ?_
        have BW5 := BW4
        generalize w3.drewN m4 = W4 at BW5 ⊢
        have GB : Hid (Below w1.heap.size w1 W4) := HBW.out.trans (BW5.out.mono hszw)
        have HOW2 : Hid (W4.ownsRow w1.heap.size 23 1 (.slice (some ⟨g, 0, none⟩) q cap) q C) := ((OwnR.of HOW.out).below BW5.out (Nat.le_refl _)).1
        have hcell := HCL.out _ BW5.out
        have hszz := GB.out.size
        have hgl := (HOW2.out.lt g rfl).1
        clear HRs HRT HCL BW1 BW2 BW3 BW4 BW5 HBW HOW hHeld hcs0 hbs
        have HIX : Hid (idxToC keepC m (j + 1) = idxToC keepC m j) := by rw [Hid, HST.out, hs]; simp
        have HQ2 : Hid (q = (idxToC keepC m (j + 1)).length) := by rw [Hid, HIX.out]; exact HQ.out
        have HC2 : Hid (C = selVC keepC m vs1 (j + 1)) := by unfold selVC; rw [Hid, HIX.out]; exact HC.out
        clear hs hcell
        go_wp2
        go_roundw
        case rel => exact ⟨j + 1, q, g, cap, C, rfl, by go_num, by omega, HQ2, HOW2, HC2, GB⟩
        case measure => simp [intOf]; omega
      · cases db
        · have hs : keepC t = true := by rw [← HKE.out]; rfl
          clear HKE
          go_wp2_with fail
          refine wp_region_noPanic ?_
          refine wp_region_held_drew (S := (fun w' => w'.cell? ⟨b, o + j, none⟩ = some (.slice Ak tn ck))) (by kernel_rfl) ?_ (fun hHeld => ?_)
          · exact HCL.out _ (below_drew' BW1.out)
          refine wpAnyH_take (i := 0) (oi := _) (v := ?_) rfl (by kernel_rfl) (by kernel_rfl) (by kernel_rfl) (fun _ _ _ h => h) (Or.inl ⟨by kernel_rfl, ?_⟩) (by assumption) ?_
          rotate_left
          · (intro w hSw; (try dsimp only at hSw); go_simp; try (with_reducible rfl))
          try simp only [Act.put, List.setIfInBounds_toArray, List.set_cons_zero, List.set_cons_succ, List.getElem_toArray, List.getElem_cons_zero, List.getElem_cons_succ]
          refine wpAnyH_take (i := 1) (oi := _) (v := ?_) rfl (by kernel_rfl) (by kernel_rfl) (by kernel_rfl) (fun _ _ _ h => h) (Or.inl ⟨by kernel_rfl, ?_⟩) (by assumption) ?_
          rotate_left
          · (intro w hSw; (try dsimp only at hSw); go_simp; try (with_reducible rfl))
          try simp only [Act.put, List.setIfInBounds_toArray, List.set_cons_zero, List.set_cons_succ, List.getElem_toArray, List.getElem_cons_zero, List.getElem_cons_succ]
          refine wpAnyH_take (i := 2) (oi := _) (v := ?_) rfl (by kernel_rfl) (by kernel_rfl) (by kernel_rfl) (fun _ _ _ h => h) (Or.inl ⟨by kernel_rfl, ?_⟩) (by assumption) ?_
          rotate_left
          · (intro w hSw; (try dsimp only at hSw); go_simp; try (with_reducible rfl))
          try simp only [Act.put, List.setIfInBounds_toArray, List.set_cons_zero, List.set_cons_succ, List.getElem_toArray, List.getElem_cons_zero, List.getElem_cons_succ]
          refine wpAnyH_take (i := 3) (oi := _) (v := ?_) rfl (by kernel_rfl) (by kernel_rfl) (by kernel_rfl) (fun _ _ _ h => h) (Or.inl ⟨by kernel_rfl, ?_⟩) (by assumption) ?_
          rotate_left
          · (intro w hSw; (try dsimp only at hSw); go_simp; try (with_reducible rfl))
          try simp only [Act.put, List.setIfInBounds_toArray, List.set_cons_zero, List.set_cons_succ, List.getElem_toArray, List.getElem_cons_zero, List.getElem_cons_succ]
          refine wpAnyH_take (i := 8) (oi := _) (v := ?_) rfl (by kernel_rfl) (by kernel_rfl) (by kernel_rfl) (fun _ _ _ h => h) (Or.inl ⟨by kernel_rfl, ?_⟩) (by assumption) ?_
          rotate_left
          · (intro w hSw; (try dsimp only at hSw); go_simp; try (with_reducible rfl))
          try simp only [Act.put, List.setIfInBounds_toArray, List.set_cons_zero, List.set_cons_succ, List.getElem_toArray, List.getElem_cons_zero, List.getElem_cons_succ]
          refine wpAnyH_take (i := 9) (oi := _) (v := ?_) rfl (by kernel_rfl) (by kernel_rfl) (by kernel_rfl) (fun _ _ _ h => h) (Or.inl ⟨by kernel_rfl, ?_⟩) (by assumption) ?_
          rotate_left
          · (intro w hSw; (try dsimp only at hSw); go_simp; try (with_reducible rfl))
          try simp only [Act.put, List.setIfInBounds_toArray, List.set_cons_zero, List.set_cons_succ, List.getElem_toArray, List.getElem_cons_zero, List.getElem_cons_succ]
          refine wpAnyH_take (i := 10) (oi := _) (v := ?_) rfl (by kernel_rfl) (by kernel_rfl) (by kernel_rfl) (fun _ _ _ h => h) (Or.inl ⟨by kernel_rfl, ?_⟩) (by assumption) ?_
          rotate_left
          · (intro w hSw; (try dsimp only at hSw); go_simp; try (with_reducible rfl))
          try simp only [Act.put, List.setIfInBounds_toArray, List.set_cons_zero, List.set_cons_succ, List.getElem_toArray, List.getElem_cons_zero, List.getElem_cons_succ]
          refine wpAnyH_take (i := 11) (oi := _) (v := ?_) rfl (by kernel_rfl) (by kernel_rfl) (by kernel_rfl) (fun _ _ _ h => h) (Or.inl ⟨by kernel_rfl, ?_⟩) (by assumption) ?_
          rotate_left
          · (intro w hSw; (try dsimp only at hSw); go_simp; try (with_reducible rfl))
          try simp only [Act.put, List.setIfInBounds_toArray, List.set_cons_zero, List.set_cons_succ, List.getElem_toArray, List.getElem_cons_zero, List.getElem_cons_succ]
          have BW2 := below_drew' BW1.out
          refine wpAnyH_ready (rs := [4]) (by kernel_rfl) (by simp) (AllReadyH.cons (o := _) rfl (fun K hK => ?_) AllReadyH.nil)
          go_simp
          (go_at_call 89; refine (C1 _ BW2).mono ?_; rintro e w3 ⟨As, cs, rfl, hcs, hcsm, HS, bel3⟩)
          obtain ⟨bs, os, Ks, ks, es, hbs, hcs0, _, _, hks, hrows⟩ := HS.at HPK.out
          cases es
          rw [Nat.zero_mul, Nat.add_zero] at hcs0
          simp only at hcs0 hrows
          rw [HFL.out] at hcs0
          have HRs := Lib.hid hrows.row
          have BW3 := BW2.trans (bel3.mono BW2.size)
          clear HS hrows hks bel3 C1
          go_wp2_with fail
          refine hK.out _ _ ?_ (fun hHeld => ?_)
          · exact HCL.out _ BW3
          clear hK K
          try simp only [Act.put, List.setIfInBounds_toArray, List.set_cons_zero, List.set_cons_succ, List.getElem_toArray, List.getElem_cons_zero, List.getElem_cons_succ]
          refine wpAnyH_take (i := 5) (oi := _) (v := ?_) rfl (by kernel_rfl) (by kernel_rfl) (by kernel_rfl) (fun _ _ _ h => h) (Or.inl ⟨by kernel_rfl, ?_⟩) (by assumption) ?_
          rotate_left
          · (intro w hSw; (try dsimp only at hSw); go_simp; try (with_reducible rfl))
          try simp only [Act.put, List.setIfInBounds_toArray, List.set_cons_zero, List.set_cons_succ, List.getElem_toArray, List.getElem_cons_zero, List.getElem_cons_succ]
          refine wpAnyH_take (i := 6) (oi := _) (v := ?_) rfl (by kernel_rfl) (by kernel_rfl) (by kernel_rfl) (fun _ _ _ h => h) (Or.inl ⟨by kernel_rfl, ?_⟩) (by assumption) ?_
          rotate_left
          · (intro w hSw; (try dsimp only at hSw); go_simp; try (with_reducible rfl))
          try simp only [Act.put, List.setIfInBounds_toArray, List.set_cons_zero, List.set_cons_succ, List.getElem_toArray, List.getElem_cons_zero, List.getElem_cons_succ]
          refine wpAnyH_ready (rs := [7]) (by kernel_rfl) (by simp) (AllReadyH.cons (o := _) rfl (fun K hK => ?_) AllReadyH.nil)
          go_simp
          refine hK.out _ _ ?_ (fun hHeld => ?_)
          · exact HCL.out _ BW3
          clear hK K
          try simp only [Act.put, List.setIfInBounds_toArray, List.set_cons_zero, List.set_cons_succ, List.getElem_toArray, List.getElem_cons_zero, List.getElem_cons_succ]
          refine wpAnyH_ready (rs := [12]) (by kernel_rfl) (by simp) (AllReadyH.cons (o := _) rfl (fun K hK => ?_) AllReadyH.nil)
          go_simp
          (go_at_call 88; refine (l01Same_any Ks Ak tn tn ks ck _ _ (freeL t) t w3 HFL.out HTL.out (by omega) (by omega) HRs.out (HRT.out.below BW3 (Nat.le_refl _))).mono ?_; rintro e w4 ⟨rfl, m4, rfl⟩)
          rw [← HSM.out]
          have BW4 : Hid (Below wr.heap.size wr (w3.drewN m4)) := below_drewN BW3 _
          go_wp2_with fail
          refine hK.out _ _ ?_ (fun hHeld => ?_)
          · exact HCL.out _ BW4.out
          clear hK K
          try simp only [Act.put, List.setIfInBounds_toArray, List.set_cons_zero, List.set_cons_succ, List.getElem_toArray, List.getElem_cons_zero, List.getElem_cons_succ]
          refine wpAnyH_take (i := 13) (oi := _) (v := ?_) rfl (by kernel_rfl) (by kernel_rfl) (by kernel_rfl) (fun _ _ _ h => h) (Or.inl ⟨by kernel_rfl, ?_⟩) (by assumption) ?_
          rotate_left
          · (intro w hSw; (try dsimp only at hSw); go_simp; try (with_reducible rfl))
          try simp only [Act.put, List.setIfInBounds_toArray, List.set_cons_zero, List.set_cons_succ, List.getElem_toArray, List.getElem_cons_zero, List.getElem_cons_succ]
          refine wpAnyH_take (i := 14) (oi := _) (v := ?_) rfl (by kernel_rfl) (by kernel_rfl) (by kernel_rfl) (fun _ _ _ h => h) (Or.inl ⟨by kernel_rfl, ?_⟩) (by assumption) ?_
          rotate_left
          · (intro w hSw; (try dsimp only at hSw); go_simp; try (with_reducible rfl))
          try simp only [Act.put, List.setIfInBounds_toArray, List.set_cons_zero, List.set_cons_succ, List.getElem_toArray, List.getElem_cons_zero, List.getElem_cons_succ]
          refine wpAnyH_take (i := 15) (oi := _) (v := ?_) rfl (by kernel_rfl) (by kernel_rfl) (by kernel_rfl) (fun _ _ _ h => h) (Or.inl ⟨by kernel_rfl, ?_⟩) (by assumption) ?_
          rotate_left
          · (intro w hSw; (try dsimp only at hSw); go_simp; try (with_reducible rfl))
          try simp only [Act.put, List.setIfInBounds_toArray, List.set_cons_zero, List.set_cons_succ, List.getElem_toArray, List.getElem_cons_zero, List.getElem_cons_succ]
          refine wpAnyH_take (i := 16) (oi := _) (v := ?_) rfl (by kernel_rfl) (by kernel_rfl) (by kernel_rfl) (fun _ _ _ h => h) (Or.inl ⟨by kernel_rfl, ?_⟩) (by assumption) ?_
          rotate_left
          · (intro w hSw; (try dsimp only at hSw); go_simp; try (with_reducible rfl))
          try simp only [Act.put, List.setIfInBounds_toArray, List.set_cons_zero, List.set_cons_succ, List.getElem_toArray, List.getElem_cons_zero, List.getElem_cons_succ]
          refine wpAnyH_take (i := 17) (oi := _) (v := ?_) rfl (by kernel_rfl) (by kernel_rfl) (by kernel_rfl) (fun _ _ _ h => h) (Or.inl ⟨by kernel_rfl, ?_⟩) (by assumption) ?_
          rotate_left
          · (intro w hSw; (try dsimp only at hSw); go_simp; try (with_reducible rfl))
          try simp only [Act.put, List.setIfInBounds_toArray, List.set_cons_zero, List.set_cons_succ, List.getElem_toArray, List.getElem_cons_zero, List.getElem_cons_succ]
          refine wpAnyH_ready (rs := [18]) (by kernel_rfl) (by simp) (AllReadyH.cons (o := _) rfl (fun K hK => ?_) AllReadyH.nil)
          go_simp
          (go_at_call 90; refine (CD _ BW4.out).mono ?_; rintro e W4 ⟨rfl, bel5⟩)
          have BW5 : Hid (Below wr.heap.size wr W4) := BW4.out.trans (bel5.mono BW4.out.size)
          clear bel5
          go_wp2_with fail
          refine hK.out _ _ ?_ (fun hHeld => ?_)
          · exact HCL.out _ BW5.out
          clear hK K
          try simp only [Act.put, List.setIfInBounds_toArray, List.set_cons_zero, List.set_cons_succ, List.getElem_toArray, List.getElem_cons_zero, List.getElem_cons_succ]
          refine wpAnyH_take (i := 19) (oi := _) (v := ?_) rfl (by kernel_rfl) (by kernel_rfl) (by kernel_rfl) (fun _ _ _ h => h) (Or.inl ⟨by kernel_rfl, ?_⟩) (by assumption) ?_
          rotate_left
          · (intro w hSw; (try dsimp only at hSw); go_simp; try (with_reducible rfl))
          try simp only [Act.put, List.setIfInBounds_toArray, List.set_cons_zero, List.set_cons_succ, List.getElem_toArray, List.getElem_cons_zero, List.getElem_cons_succ]
          refine wpAnyH_take (i := 20) (oi := _) (v := ?_) rfl (by kernel_rfl) (by kernel_rfl) (by kernel_rfl) (fun _ _ _ h => h) (Or.inl ⟨by kernel_rfl, ?_⟩) (by assumption) ?_
          rotate_left
          · (intro w hSw; (try dsimp only at hSw); go_simp; try (with_reducible rfl))
          try simp only [Act.put, List.setIfInBounds_toArray, List.set_cons_zero, List.set_cons_succ, List.getElem_toArray, List.getElem_cons_zero, List.getElem_cons_succ]
          refine wpAnyH_done (by kernel_rfl) ?_ _
          refine NoPanic.normal ?_
          have GB : Hid (Below w1.heap.size w1 W4) := HBW.out.trans (BW5.out.mono hszw)
          have HOW2 : Hid (W4.ownsRow w1.heap.size 23 1 (.slice (some ⟨g, 0, none⟩) q cap) q C) := ((OwnR.of HOW.out).below BW5.out (Nat.le_refl _)).1
          have hcell := HCL.out _ BW5.out
          have hszz := GB.out.size
          have hgl := (HOW2.out.lt g rfl).1
          clear HRs HRT HCL BW1 BW2 BW3 BW4 BW5 HBW HOW hHeld hcs0 hbs
          have HIX : Hid (idxToC keepC m (j + 1) = idxToC keepC m j ++ [j]) := by rw [Hid, HST.out, hs]; simp
          have HQ2 : Hid (q + 1 = (idxToC keepC m (j + 1)).length) := by rw [Hid, HIX.out, List.length_append, ← HQ.out]; rfl
          have HC2 : Hid (C ++ [.slice Ak tn ck] = selVC keepC m vs1 (j + 1)) := by
            unfold selVC
            rw [Hid, HIX.out, List.map_append, HC.out, List.map_singleton, List.getD_eq_getElem?_getD, HEV.out]; rfl
          clear hs
          go_wp2_with (at_builtin; refine wpList_append_lies _ rfl (.tmp 36) (.tmp 41) 22 rfl w1.heap.size 23 j0 _ 1 24 Try.underlying22 hj hy0 hy1 hy2 rfl (by omega) (.slice (some ⟨g, 0, none⟩) q cap) q C rfl (HOW2.out.alloc _) ⟨W4.heap.size, 0, none⟩ 1 1 [.slice Ak tn ck] rfl rfl (World.news_of_block (cs := #[.slice Ak tn ck]) (heap_alloc_new _ _)) (by simp [Value.oneCell']) (by omega) (by simp only [maxLen]; omega) (by omega) (by simp; omega) (W4.heap.size + 1) (by simp) ?_; intro g5 cap5 w5 hown5 hgrow5 hat5 hlt5)
          have GB5 : Hid (Below w1.heap.size w1 w5) := (GB.out.alloc hszz _).grown hgrow5 (by simp; omega) (fun k hk => by cases hk; exact hgl)
          have HOW5 := Lib.hid hown5
          clear hown5 hgrow5 hat5
          go_wp2
          go_roundw
          case rel => exact ⟨j + 1, q + 1, g5, cap5, _, rfl, by go_num, by omega, HQ2, HOW5, HC2, GB5⟩
          case measure => simp [intOf]; omega
        · have hs : keepC t = false := by rw [← HKE.out]; rfl
          clear HKE
          go_wp2_with fail
          refine wp_region_noPanic ?_
          refine wp_region_held_drew (S := (fun w' => w'.cell? ⟨b, o + j, none⟩ = some (.slice Ak tn ck))) (by kernel_rfl) ?_ (fun hHeld => ?_)
          · exact HCL.out _ (below_drew' BW1.out)
          refine wpAnyH_take (i := 0) (oi := _) (v := ?_) rfl (by kernel_rfl) (by kernel_rfl) (by kernel_rfl) (fun _ _ _ h => h) (Or.inl ⟨by kernel_rfl, ?_⟩) (by assumption) ?_
          rotate_left
          · (intro w hSw; (try dsimp only at hSw); go_simp; try (with_reducible rfl))
          try simp only [Act.put, List.setIfInBounds_toArray, List.set_cons_zero, List.set_cons_succ, List.getElem_toArray, List.getElem_cons_zero, List.getElem_cons_succ]
          refine wpAnyH_take (i := 1) (oi := _) (v := ?_) rfl (by kernel_rfl) (by kernel_rfl) (by kernel_rfl) (fun _ _ _ h => h) (Or.inl ⟨by kernel_rfl, ?_⟩) (by assumption) ?_
          rotate_left
          · (intro w hSw; (try dsimp only at hSw); go_simp; try (with_reducible rfl))
          try simp only [Act.put, List.setIfInBounds_toArray, List.set_cons_zero, List.set_cons_succ, List.getElem_toArray, List.getElem_cons_zero, List.getElem_cons_succ]
          refine wpAnyH_take (i := 2) (oi := _) (v := ?_) rfl (by kernel_rfl) (by kernel_rfl) (by kernel_rfl) (fun _ _ _ h => h) (Or.inl ⟨by kernel_rfl, ?_⟩) (by assumption) ?_
          rotate_left
          · (intro w hSw; (try dsimp only at hSw); go_simp; try (with_reducible rfl))
          try simp only [Act.put, List.setIfInBounds_toArray, List.set_cons_zero, List.set_cons_succ, List.getElem_toArray, List.getElem_cons_zero, List.getElem_cons_succ]
          refine wpAnyH_take (i := 3) (oi := _) (v := ?_) rfl (by kernel_rfl) (by kernel_rfl) (by kernel_rfl) (fun _ _ _ h => h) (Or.inl ⟨by kernel_rfl, ?_⟩) (by assumption) ?_
          rotate_left
          · (intro w hSw; (try dsimp only at hSw); go_simp; try (with_reducible rfl))
          try simp only [Act.put, List.setIfInBounds_toArray, List.set_cons_zero, List.set_cons_succ, List.getElem_toArray, List.getElem_cons_zero, List.getElem_cons_succ]
          refine wpAnyH_take (i := 8) (oi := _) (v := ?_) rfl (by kernel_rfl) (by kernel_rfl) (by kernel_rfl) (fun _ _ _ h => h) (Or.inl ⟨by kernel_rfl, ?_⟩) (by assumption) ?_
          rotate_left
          · (intro w hSw; (try dsimp only at hSw); go_simp; try (with_reducible rfl))
          try simp only [Act.put, List.setIfInBounds_toArray, List.set_cons_zero, List.set_cons_succ, List.getElem_toArray, List.getElem_cons_zero, List.getElem_cons_succ]
          refine wpAnyH_take (i := 9) (oi := _) (v := ?_) rfl (by kernel_rfl) (by kernel_rfl) (by kernel_rfl) (fun _ _ _ h => h) (Or.inl ⟨by kernel_rfl, ?_⟩) (by assumption) ?_
          rotate_left
          · (intro w hSw; (try dsimp only at hSw); go_simp; try (with_reducible rfl))
          try simp only [Act.put, List.setIfInBounds_toArray, List.set_cons_zero, List.set_cons_succ, List.getElem_toArray, List.getElem_cons_zero, List.getElem_cons_succ]
          refine wpAnyH_take (i := 10) (oi := _) (v := ?_) rfl (by kernel_rfl) (by kernel_rfl) (by kernel_rfl) (fun _ _ _ h => h) (Or.inl ⟨by kernel_rfl, ?_⟩) (by assumption) ?_
          rotate_left
          · (intro w hSw; (try dsimp only at hSw); go_simp; try (with_reducible rfl))
          try simp only [Act.put, List.setIfInBounds_toArray, List.set_cons_zero, List.set_cons_succ, List.getElem_toArray, List.getElem_cons_zero, List.getElem_cons_succ]
          refine wpAnyH_take (i := 11) (oi := _) (v := ?_) rfl (by kernel_rfl) (by kernel_rfl) (by kernel_rfl) (fun _ _ _ h => h) (Or.inl ⟨by kernel_rfl, ?_⟩) (by assumption) ?_
          rotate_left
          · (intro w hSw; (try dsimp only at hSw); go_simp; try (with_reducible rfl))
          try simp only [Act.put, List.setIfInBounds_toArray, List.set_cons_zero, List.set_cons_succ, List.getElem_toArray, List.getElem_cons_zero, List.getElem_cons_succ]
          have BW2 := below_drew' BW1.out
          refine wpAnyH_ready (rs := [4]) (by kernel_rfl) (by simp) (AllReadyH.cons (o := _) rfl (fun K hK => ?_) AllReadyH.nil)
          go_simp
          (go_at_call 89; refine (C1 _ BW2).mono ?_; rintro e w3 ⟨As, cs, rfl, hcs, hcsm, HS, bel3⟩)
          obtain ⟨bs, os, Ks, ks, es, hbs, hcs0, _, _, hks, hrows⟩ := HS.at HPK.out
          cases es
          rw [Nat.zero_mul, Nat.add_zero] at hcs0
          simp only at hcs0 hrows
          rw [HFL.out] at hcs0
          have HRs := Lib.hid hrows.row
          have BW3 := BW2.trans (bel3.mono BW2.size)
          clear HS hrows hks bel3 C1
          go_wp2_with fail
          refine hK.out _ _ ?_ (fun hHeld => ?_)
          · exact HCL.out _ BW3
          clear hK K
          try simp only [Act.put, List.setIfInBounds_toArray, List.set_cons_zero, List.set_cons_succ, List.getElem_toArray, List.getElem_cons_zero, List.getElem_cons_succ]
          refine wpAnyH_take (i := 5) (oi := _) (v := ?_) rfl (by kernel_rfl) (by kernel_rfl) (by kernel_rfl) (fun _ _ _ h => h) (Or.inl ⟨by kernel_rfl, ?_⟩) (by assumption) ?_
          rotate_left
          · (intro w hSw; (try dsimp only at hSw); go_simp; try (with_reducible rfl))
          try simp only [Act.put, List.setIfInBounds_toArray, List.set_cons_zero, List.set_cons_succ, List.getElem_toArray, List.getElem_cons_zero, List.getElem_cons_succ]
          refine wpAnyH_take (i := 6) (oi := _) (v := ?_) rfl (by kernel_rfl) (by kernel_rfl) (by kernel_rfl) (fun _ _ _ h => h) (Or.inl ⟨by kernel_rfl, ?_⟩) (by assumption) ?_
          rotate_left
          · (intro w hSw; (try dsimp only at hSw); go_simp; try (with_reducible rfl))
          try simp only [Act.put, List.setIfInBounds_toArray, List.set_cons_zero, List.set_cons_succ, List.getElem_toArray, List.getElem_cons_zero, List.getElem_cons_succ]
          refine wpAnyH_ready (rs := [7]) (by kernel_rfl) (by simp) (AllReadyH.cons (o := _) rfl (fun K hK => ?_) AllReadyH.nil)
          go_simp
          refine hK.out _ _ ?_ (fun hHeld => ?_)
          · exact HCL.out _ BW3
          clear hK K
          try simp only [Act.put, List.setIfInBounds_toArray, List.set_cons_zero, List.set_cons_succ, List.getElem_toArray, List.getElem_cons_zero, List.getElem_cons_succ]
          refine wpAnyH_ready (rs := [12]) (by kernel_rfl) (by simp) (AllReadyH.cons (o := _) rfl (fun K hK => ?_) AllReadyH.nil)
          go_simp
          (go_at_call 88; refine (l01Same_any Ks Ak tn tn ks ck _ _ (freeL t) t w3 HFL.out HTL.out (by omega) (by omega) HRs.out (HRT.out.below BW3 (Nat.le_refl _))).mono ?_; rintro e w4 ⟨rfl, m4, rfl⟩)
          rw [← HSM.out]
          have BW4 : Hid (Below wr.heap.size wr (w3.drewN m4)) := below_drewN BW3 _
          go_wp2_with fail
          refine hK.out _ _ ?_ (fun hHeld => ?_)
          · exact HCL.out _ BW4.out
          clear hK K
          try simp only [Act.put, List.setIfInBounds_toArray, List.set_cons_zero, List.set_cons_succ, List.getElem_toArray, List.getElem_cons_zero, List.getElem_cons_succ]
          refine wpAnyH_take (i := 13) (oi := _) (v := ?_) rfl (by kernel_rfl) (by kernel_rfl) (by kernel_rfl) (fun _ _ _ h => h) (Or.inl ⟨by kernel_rfl, ?_⟩) (by assumption) ?_
          rotate_left
          · (intro w hSw; (try dsimp only at hSw); go_simp; try (with_reducible rfl))
          try simp only [Act.put, List.setIfInBounds_toArray, List.set_cons_zero, List.set_cons_succ, List.getElem_toArray, List.getElem_cons_zero, List.getElem_cons_succ]
          refine wpAnyH_take (i := 14) (oi := _) (v := ?_) rfl (by kernel_rfl) (by kernel_rfl) (by kernel_rfl) (fun _ _ _ h => h) (Or.inl ⟨by kernel_rfl, ?_⟩) (by assumption) ?_
          rotate_left
          · (intro w hSw; (try dsimp only at hSw); go_simp; try (with_reducible rfl))
          try simp only [Act.put, List.setIfInBounds_toArray, List.set_cons_zero, List.set_cons_succ, List.getElem_toArray, List.getElem_cons_zero, List.getElem_cons_succ]
          refine wpAnyH_take (i := 15) (oi := _) (v := ?_) rfl (by kernel_rfl) (by kernel_rfl) (by kernel_rfl) (fun _ _ _ h => h) (Or.inl ⟨by kernel_rfl, ?_⟩) (by assumption) ?_
          rotate_left
          · (intro w hSw; (try dsimp only at hSw); go_simp; try (with_reducible rfl))
          try simp only [Act.put, List.setIfInBounds_toArray, List.set_cons_zero, List.set_cons_succ, List.getElem_toArray, List.getElem_cons_zero, List.getElem_cons_succ]
          refine wpAnyH_take (i := 16) (oi := _) (v := ?_) rfl (by kernel_rfl) (by kernel_rfl) (by kernel_rfl) (fun _ _ _ h => h) (Or.inl ⟨by kernel_rfl, ?_⟩) (by assumption) ?_
          rotate_left
          · (intro w hSw; (try dsimp only at hSw); go_simp; try (with_reducible rfl))
          try simp only [Act.put, List.setIfInBounds_toArray, List.set_cons_zero, List.set_cons_succ, List.getElem_toArray, List.getElem_cons_zero, List.getElem_cons_succ]
          refine wpAnyH_take (i := 17) (oi := _) (v := ?_) rfl (by kernel_rfl) (by kernel_rfl) (by kernel_rfl) (fun _ _ _ h => h) (Or.inl ⟨by kernel_rfl, ?_⟩) (by assumption) ?_
          rotate_left
          · (intro w hSw; (try dsimp only at hSw); go_simp; try (with_reducible rfl))
          try simp only [Act.put, List.setIfInBounds_toArray, List.set_cons_zero, List.set_cons_succ, List.getElem_toArray, List.getElem_cons_zero, List.getElem_cons_succ]
          refine wpAnyH_ready (rs := [18]) (by kernel_rfl) (by simp) (AllReadyH.cons (o := _) rfl (fun K hK => ?_) AllReadyH.nil)
          go_simp
          (go_at_call 90; refine (CD _ BW4.out).mono ?_; rintro e W4 ⟨rfl, bel5⟩)
          have BW5 : Hid (Below wr.heap.size wr W4) := BW4.out.trans (bel5.mono BW4.out.size)
          clear bel5
          go_wp2_with fail
          refine hK.out _ _ ?_ (fun hHeld => ?_)
          · exact HCL.out _ BW5.out
          clear hK K
          try simp only [Act.put, List.setIfInBounds_toArray, List.set_cons_zero, List.set_cons_succ, List.getElem_toArray, List.getElem_cons_zero, List.getElem_cons_succ]
          refine wpAnyH_take (i := 19) (oi := _) (v := ?_) rfl (by kernel_rfl) (by kernel_rfl) (by kernel_rfl) (fun _ _ _ h => h) (Or.inl ⟨by kernel_rfl, ?_⟩) (by assumption) ?_
          rotate_left
          · (intro w hSw; (try dsimp only at hSw); go_simp; try (with_reducible rfl))
          try simp only [Act.put, List.setIfInBounds_toArray, List.set_cons_zero, List.set_cons_succ, List.getElem_toArray, List.getElem_cons_zero, List.getElem_cons_succ]
          refine wpAnyH_take (i := 20) (oi := _) (v := ?_) rfl (by kernel_rfl) (by kernel_rfl) (by kernel_rfl) (fun _ _ _ h => h) (Or.inl ⟨by kernel_rfl, ?_⟩) (by assumption) ?_
          rotate_left
          · (intro w hSw; (try dsimp only at hSw); go_simp; try (with_reducible rfl))
          try simp only [Act.put, List.setIfInBounds_toArray, List.set_cons_zero, List.set_cons_succ, List.getElem_toArray, List.getElem_cons_zero, List.getElem_cons_succ]
          refine wpAnyH_done (by kernel_rfl) ?_ _
          refine NoPanic.normal ?_
          have GB : Hid (Below w1.heap.size w1 W4) := HBW.out.trans (BW5.out.mono hszw)
          have HOW2 : Hid (W4.ownsRow w1.heap.size 23 1 (.slice (some ⟨g, 0, none⟩) q cap) q C) := ((OwnR.of HOW.out).below BW5.out (Nat.le_refl _)).1
          have hcell := HCL.out _ BW5.out
          have hszz := GB.out.size
          have hgl := (HOW2.out.lt g rfl).1
          clear HRs HRT HCL BW1 BW2 BW3 BW4 BW5 HBW HOW hHeld hcs0 hbs
          have HIX : Hid (idxToC keepC m (j + 1) = idxToC keepC m j) := by rw [Hid, HST.out, hs]; simp
          have HQ2 : Hid (q = (idxToC keepC m (j + 1)).length) := by rw [Hid, HIX.out]; exact HQ.out
          have HC2 : Hid (C = selVC keepC m vs1 (j + 1)) := by unfold selVC; rw [Hid, HIX.out]; exact HC.out
          clear hs hcell
          go_wp2
          go_roundw
          case rel => exact ⟨j + 1, q, g, cap, C, rfl, by go_num, by omega, HQ2, HOW2, HC2, GB⟩
          case measure => simp [intOf]; omega
    · have hj9 : j = m.length := by rw [← HN.out]; omega
      have e8 : (idxToC keepC m j).map (fun k => m.getD k []) = m.filter keepC := by rw [hj9]; exact idxTo_allC m
      have hq9 : (m.filter keepC).length = q := by rw [← e8, List.length_map, HQ.out]
      have hrow9 := HOW.out
      rw [HC.out] at hrow9
      have hM : Mat wr wr.heap.size (some ⟨g, 0, none⟩) (m.filter keepC) := by
        have h9 := Mat.selectC HO.out HBW.out (fun k hk => Nat.lt_of_lt_of_le (idxTo_ltC hk) (by rw [hj9]; exact Nat.le_refl _)) hrow9
        rw [e8] at h9
        exact h9
      have hgb := (HOW.out.lt g rfl).1
      have hF : Hid (InF w.heap.size wr g (selVC keepC m vs1 j) (m.filter keepC)) := by
        have h9 := InF.of (g := g) HO.out HBW.out (fun k hk => Nat.lt_of_lt_of_le (idxTo_ltC hk) (by rw [hj9]; exact Nat.le_refl _)) hgb (fun r hr => (lv_bd (H1.out r hr).1).1) (idx := idxToC keepC m j)
        rw [e8] at h9
        exact h9
      have GB : Hid (Below w.heap.size w wr) := HB.out.trans (HBW.out.mono HB.out.size)
      have HOF : Hid (wr.ownsRow w.heap.size 23 1 (.slice (some ⟨g, 0, none⟩) q cap) q (selVC keepC m vs1 j)) := ((OwnR.of hrow9).more HB.out.size (Nat.le_refl _)).1
      have hMM := Lib.hid hM
      have hQQ := Lib.hid hq9
      clear hj9 e8 hrow9 HBW HOW HC hM hq9
      go_wp2
      go_ret
      rw [EM.out]
      exact ⟨g, cap, _, by rw [hQQ.out]; rfl, by rw [hQQ.out]; exact HOF.out, hMM.out, hF.out, GB.out⟩
end Go.Proofs.Ytnnihdkhblbdgaa
/-
  Which lists are maps, plainly.
-/
namespace Go.Proofs.Ytnnihdkhblbdgaa
open Go.RowKit Fld
set_option linter.unusedVariables false
set_option linter.unusedSimpArgs false
set_option maxRecDepth 100000

def isMp (a : List Int) : Bool := decide (a.length = 38) && allNum a
def isChr (a : List Int) : Bool := isMp a && decide (a.getD 0 0 = 1)
def isInf (a : List Int) : Bool := isMp a && decide (a.getD 0 0 = 0)
theorem isMp_num {a : List Int} (h : a.length = 38) : isMp a = allNum a := by unfold isMp; rw [decide_eq_true h, Bool.true_and]
theorem isMp_len {a : List Int} (h : a.length ≠ 38) : isMp a = false := by unfold isMp; rw [decide_eq_false h, Bool.false_and]
theorem isMp_iff {a : List Int} : isMp a = true ↔ a.length = 38 ∧ allNum a = true := by unfold isMp; simp
theorem isMp_parts {a : List Int} {n : Nat} (h : isMp a = true) (hl : a.length = n) : n = 38 ∧ allNum a = true := by
  obtain ⟨h1, h2⟩ := isMp_iff.1 h
  exact ⟨by omega, h2⟩
theorem isChr_no {a : List Int} (h : isMp a = false) : isChr a = false := by unfold isChr; rw [h, Bool.false_and]
theorem isInf_no {a : List Int} (h : isMp a = false) : isInf a = false := by unfold isInf; rw [h, Bool.false_and]
theorem isChr_at {a : List Int} {x : Int} (h : isMp a = true) (hx : a[0]? = some x) : isChr a = decide (x = 1) := by
  unfold isChr; rw [h, Bool.true_and, List.getD_eq_getElem?_getD, hx]; rfl
theorem isInf_at {a : List Int} {x : Int} (h : isMp a = true) (hx : a[0]? = some x) : isInf a = decide (x = 0) := by
  unfold isInf; rw [h, Bool.true_and, List.getD_eq_getElem?_getD, hx]; rfl
def unitL : List Int := 1 :: List.replicate 37 0
def zero38 : List Int := List.replicate 38 0
theorem zero38_at {k : Nat} (h : k < 38) : zero38[k]? = some 0 := by unfold zero38; rw [List.getElem?_replicate, if_pos h]
theorem unitL_length : unitL.length = 38 := rfl
end Go.Proofs.Ytnnihdkhblbdgaa
/-
  Maps of trees, plainly: which lists are maps, the numbers of nodes at their places, and what is made of them.
-/
namespace Go.Proofs.Ytnnihdkhblbdgaa
open Go.RowKit Fld
set_option linter.unusedVariables false
set_option linter.unusedSimpArgs false
set_option maxRecDepth 100000

/-- the numbers of nodes of the trees at the places of a map -/
def lens : List Nat := [0, 1, 2, 3, 3, 4, 4, 4, 4, 5, 5, 5, 5, 5, 5, 5, 5, 5, 6, 6, 6, 6, 6, 6, 6, 6, 6, 6, 6, 6, 6, 6, 6, 6, 6, 6, 6, 6]
theorem lens_len : lens.length = 38 := rfl
theorem lens_bd : ∀ l ∈ lens, l ≤ 6 := by decide
theorem lens_to : lens = 0 :: (treesTo 6).map List.length := by decide +kernel
theorem to_len : (treesTo 6).length = 37 := by
  have := congrArg List.length lens_to
  rw [List.length_cons, List.length_map, lens_len] at this; omega
theorem lens_at {k : Nat} (h : k < 38) : ∃ l, lens[k]? = some l ∧ l ≤ 6 := by
  have h2 : k < lens.length := by rw [lens_len]; exact h
  exact ⟨lens[k], List.getElem?_eq_getElem h2, lens_bd _ (List.getElem_mem h2)⟩
theorem to_at {k : Nat} {t : List Int} (h : (treesTo 6)[k]? = some t) : lens[k + 1]? = some t.length := by
  rw [lens_to, List.getElem?_cons_succ, List.getElem?_map, h]; rfl
/-- the texts of the trees at the places of a map -/
def mapTx : List (List UInt8) := [] :: (treesTo 6).map Tr.txt
theorem mapTx_len : mapTx.length = 38 := by unfold mapTx; rw [List.length_cons, List.length_map, to_len]
theorem mapTx_lens : mapTx.map List.length = lens.map (2 * ·) := by decide +kernel
theorem mapTx_at {k l : Nat} (h : lens[k]? = some l) : ∃ x, mapTx[k]? = some x ∧ x.length = 2 * l := by
  have e : (mapTx.map List.length)[k]? = some (2 * l) := by rw [mapTx_lens, List.getElem?_map, h]; rfl
  rw [List.getElem?_map] at e
  cases hx : mapTx[k]? with
  | none => rw [hx] at e; cases e
  | some x => rw [hx] at e; exact ⟨x, rfl, by simpa using e⟩
/-- up to which number of nodes two maps agree -/
def agrL : List Int → List Int → List Nat → Int
  | x :: xs, y :: ys, l :: ls => if x = y then agrL xs ys ls else (l : Int) - 1
  | _, _, _ => 6
def agrA (a b : List Int) : Int := agrL a b lens
theorem drop_at {α : Type} {L : List α} {k : Nat} {x : α} (h : L[k]? = some x) : L.drop k = x :: L.drop (k + 1) := by
  have hlt : k < L.length := by
    rcases Nat.lt_or_ge k L.length with g | g
    · exact g
    · rw [List.getElem?_eq_none g] at h; cases h
  rw [List.getElem?_eq_getElem hlt] at h
  injection h with h
  rw [List.drop_eq_getElem_cons hlt, h]
theorem agr_next {a b : List Int} {k : Nat} {x y : Int} {l : Nat} (hx : a[k]? = some x) (hy : b[k]? = some y) (hl : lens[k]? = some l) (e : x = y) : agrL (a.drop k) (b.drop k) (lens.drop k) = agrL (a.drop (k + 1)) (b.drop (k + 1)) (lens.drop (k + 1)) := by
  rw [drop_at hx, drop_at hy, drop_at hl, agrL, if_pos e]
theorem agr_stop {a b : List Int} {k : Nat} {x y : Int} {l : Nat} (hx : a[k]? = some x) (hy : b[k]? = some y) (hl : lens[k]? = some l) (e : x ≠ y) : agrL (a.drop k) (b.drop k) (lens.drop k) = (l : Int) - 1 := by
  rw [drop_at hx, drop_at hy, drop_at hl, agrL, if_neg e]
theorem agr_end {a b : List Int} : agrL (a.drop 38) (b.drop 38) (lens.drop 38) = 6 := by
  have e : lens.drop 38 = [] := rfl
  rw [e]
  cases a.drop 38 <;> cases b.drop 38 <;> rfl
theorem agr_start (a b : List Int) : agrA a b = agrL (a.drop 0) (b.drop 0) (lens.drop 0) := rfl
/-- a map with 0 at all trees with more than n nodes -/
def truncL (a : List Int) (n : Int) : List Int := List.zipWith (fun x (l : Nat) => if n < (l : Int) then 0 else x) a lens
theorem truncL_length {a : List Int} (h : a.length = 38) (n : Int) : (truncL a n).length = 38 := by unfold truncL; rw [List.length_zipWith, h, lens_len, Nat.min_self]
theorem truncL_at {a : List Int} {n : Int} {k l : Nat} {x : Int} (hx : a[k]? = some x) (hl : lens[k]? = some l) : (truncL a n)[k]? = some (if n < (l : Int) then 0 else x) := by
  unfold truncL; rw [List.getElem?_zipWith, hx, hl]
def scaleL (a : List Int) (y : Int) : List Int := List.zipWith (fun x l => x * pw y l % 10007) a lens
theorem scaleL_length {a : List Int} (h : a.length = 38) (y : Int) : (scaleL a y).length = 38 := by unfold scaleL; rw [List.length_zipWith, h, lens_len, Nat.min_self]
theorem scaleL_at {a : List Int} {y : Int} {k l : Nat} {x : Int} (hx : a[k]? = some x) (hl : lens[k]? = some l) : (scaleL a y)[k]? = some (x * pw y l % 10007) := by
  unfold scaleL; rw [List.getElem?_zipWith, hx, hl]
/-- the answers -/
def agreeA (a b : List Int) : Int × Int := if isMp a = true ∧ isMp b = true then (agrA a b, 0) else (0, 1)
theorem agreeA_no1 {a b : List Int} (h : isMp a = false) : agreeA a b = (0, 1) := if_neg (by rw [h]; simp)
theorem agreeA_no2 {a b : List Int} (h : isMp b = false) : agreeA a b = (0, 1) := if_neg (by rw [h]; simp)
theorem agreeA_yes {a b : List Int} (h : isMp a = true) (k : isMp b = true) : agreeA a b = (agrA a b, 0) := if_pos ⟨h, k⟩
def truncA (a : List Int) (y : Int) : List Int × Int := if isMp a = true then (if 0 ≤ y ∧ y ≤ 6 then (truncL a y, 0) else ([], 2)) else ([], 1)
theorem truncA_no {a : List Int} {y : Int} (h : isMp a = false) : truncA a y = ([], 1) := if_neg (by rw [h]; simp)
theorem truncA_out {a : List Int} {y : Int} (h : isMp a = true) (hy : ¬ (0 ≤ y ∧ y ≤ 6)) : truncA a y = ([], 2) := by unfold truncA; rw [if_pos h, if_neg hy]
theorem truncA_yes {a : List Int} {y : Int} (h : isMp a = true) (hy : 0 ≤ y ∧ y ≤ 6) : truncA a y = (truncL a y, 0) := by unfold truncA; rw [if_pos h, if_pos hy]
def scaleMA (a : List Int) (y : Int) : List Int × Int := if isMp a = true then (if 0 ≤ y ∧ y < 10007 then (scaleL a y, 0) else ([], 2)) else ([], 1)
theorem scaleMA_no {a : List Int} {y : Int} (h : isMp a = false) : scaleMA a y = ([], 1) := if_neg (by rw [h]; simp)
theorem scaleMA_out {a : List Int} {y : Int} (h : isMp a = true) (hy : ¬ (0 ≤ y ∧ y < 10007)) : scaleMA a y = ([], 2) := by unfold scaleMA; rw [if_pos h, if_neg hy]
theorem scaleMA_yes {a : List Int} {y : Int} (h : isMp a = true) (hy : 0 ≤ y ∧ y < 10007) : scaleMA a y = (scaleL a y, 0) := by unfold scaleMA; rw [if_pos h, if_pos hy]
end Go.Proofs.Ytnnihdkhblbdgaa
/-
  Forests: the test, the program's and the model's.
-/
namespace Go.Proofs.Ytnnihdkhblbdgaa
open Go.RowKit Fld
set_option linter.unusedVariables false
set_option linter.unusedSimpArgs false
set_option maxRecDepth 100000

/-- tree k stands where it may -/
def okAt (f : List (List Int)) (k : Nat) : Bool := isTr (f.getD k []) && (decide (k = 0) || !Tr.beforeL (f.getD k []) (f.getD (k - 1) []))
def okTo (f : List (List Int)) (k : Nat) : Bool := (List.range k).all (okAt f)
theorem okTo_step (f : List (List Int)) (k : Nat) : okTo f (k + 1) = (okTo f k && okAt f k) := by
  unfold okTo; rw [List.range_succ, List.all_append]; simp
theorem okTo_no {f : List (List Int)} {k : Nat} (h : okAt f k = false) (hk : k < f.length) : okTo f f.length = false := by
  unfold okTo
  rw [List.all_eq_false]
  exact ⟨k, by rw [List.mem_range]; exact hk, by rw [h]; simp⟩
theorem okTo_at {f : List (List Int)} {k j : Nat} (h : okTo f k = true) (hj : j < k) : okAt f j = true := by
  unfold okTo at h
  exact List.all_eq_true.1 h j (by rw [List.mem_range]; exact hj)
theorem okAt_tr {f : List (List Int)} {k : Nat} {r : List Int} (h : okAt f k = true) (hr : f[k]? = some r) : isTr r = true := by
  unfold okAt at h
  rw [Bool.and_eq_true, List.getD_eq_getElem?_getD, hr] at h
  exact h.1
theorem okAt_false {f : List (List Int)} {k : Nat} {r : List Int} (hr : f[k]? = some r) (h : isTr r = false) : okAt f k = false := by
  unfold okAt
  rw [List.getD_eq_getElem?_getD, hr]
  simp [h]
theorem okAt_zero {f : List (List Int)} {r : List Int} (hr : f[0]? = some r) (h : isTr r = true) : okAt f 0 = true := by
  unfold okAt
  rw [List.getD_eq_getElem?_getD, hr]
  simp [h]
theorem okAt_succ {f : List (List Int)} {k : Nat} {p r : List Int} (hr : f[k + 1]? = some r) (hp : f[k]? = some p) (h : isTr r = true) : okAt f (k + 1) = !Tr.beforeL r p := by
  unfold okAt
  rw [List.getD_eq_getElem?_getD, List.getD_eq_getElem?_getD, hr, Nat.add_sub_cancel, hp]
  simp [h]
def isFor (f : List (List Int)) : Bool := okTo f f.length && decide (total f ≤ 8)
theorem isFor_big {f : List (List Int)} (h : 8 < total f) : isFor f = false := by
  unfold isFor; rw [decide_eq_false (by omega), Bool.and_false]
theorem isFor_no {f : List (List Int)} (h : okTo f f.length = false) : isFor f = false := by
  unfold isFor; rw [h]; rfl
theorem row_total {f : List (List Int)} {k : Nat} {r : List Int} (h : f[k]? = some r) : r.length ≤ total f := by
  have h1 := total_take h
  have h2 := total_le f (k + 1)
  omega
end Go.Proofs.Ytnnihdkhblbdgaa
/-
  Values of maps at trees, plainly.
-/
namespace Go.Proofs.Ytnnihdkhblbdgaa
open Go.RowKit Fld
set_option linter.unusedVariables false
set_option linter.unusedSimpArgs false
set_option maxRecDepth 100000

theorem idx_some {u : List Int} : ∀ {m : List (List Int)} (c : Int), u ∈ m → ∃ i : Nat, Tr.idxL u m c = c + i ∧ m[i]? = some u
  | [], c, h => by cases h
  | x :: r, c, h => by
    by_cases e : x = u
    · exact ⟨0, by unfold Tr.idxL; rw [if_pos e]; omega, by rw [e]; rfl⟩
    · rw [List.mem_cons] at h
      obtain ⟨i, h1, h2⟩ := idx_some (m := r) (c + 1) (h.resolve_left (fun q => e q.symm))
      exact ⟨i + 1, by unfold Tr.idxL; rw [if_neg e, h1]; omega, by rw [List.getElem?_cons_succ]; exact h2⟩
theorem idx_none {u : List Int} : ∀ {m : List (List Int)} (c : Int), u ∉ m → Tr.idxL u m c = -1
  | [], c, h => rfl
  | x :: r, c, h => by
    rw [List.mem_cons, not_or] at h
    unfold Tr.idxL
    rw [if_neg (fun q => h.1 q.symm)]
    exact idx_none (c + 1) h.2
theorem to_mem {r : List Int} : r ∈ treesTo 6 ↔ ∃ n, n < 6 ∧ r ∈ Tr.treesL (n + 1) := by
  unfold treesTo; rw [List.mem_flatMap]
  constructor
  · rintro ⟨n, hn, h⟩; exact ⟨n, List.mem_range.1 hn, h⟩
  · rintro ⟨n, hn, h⟩; exact ⟨n, List.mem_range.2 hn, h⟩
theorem can_mem9 {t : List Int} (h : Tr.isLv t = true) : Tr.can t ∈ Tr.treesL t.length := by
  obtain ⟨h1, h2⟩ := lv_can h
  have h3 := Tr.isLv_iff.1 h1
  have h4 := Tr.isLv_iff.1 h
  have p1 := h4.1
  rw [← grow_trees h4.1 h4.2.1]
  refine Tr.grow_all (t.length - 1) [0] [] (Tr.can t) (by simp) h3 (by show (Tr.can t).length = 1 + (t.length - 1); omega) ?_ (Tr.can_can h).1
  obtain ⟨x, hx⟩ := at_lt (show 0 < (Tr.can t).length by omega)
  have e := h3.2.2.1
  rw [lv_at hx] at e
  subst e
  show (Tr.can t).take 1 = [0]
  rw [List.take_add_one, hx]; rfl
theorem small_idx {r : List Int} (h : isTr r = true) (h6 : r.length ≤ 6) : ∃ i : Nat, i < 37 ∧ Tr.idxL r (treesTo 6) 0 = i ∧ (treesTo 6)[i]? = some r := by
  obtain ⟨hlv, hc⟩ := tr_lv h
  have h1 := (lv_bd hlv).1
  have hm : r ∈ treesTo 6 := to_mem.2 ⟨r.length - 1, by omega, by
    have := can_mem9 hlv
    rw [hc] at this
    rw [show r.length - 1 + 1 = r.length by omega]; exact this⟩
  obtain ⟨i, e1, e2⟩ := idx_some 0 hm
  refine ⟨i, ?_, by omega, e2⟩
  rcases Nat.lt_or_ge i 37 with g | g
  · exact g
  · rw [List.getElem?_eq_none (by rw [to_len]; exact g)] at e2; cases e2
theorem large_idx {r : List Int} (h6 : 6 < r.length) : Tr.idxL r (treesTo 6) 0 = -1 := by
  refine idx_none 0 fun hm => ?_
  obtain ⟨n, hn, h⟩ := to_mem.1 hm
  have := ((trees_all (n := n + 1) (by omega) (by omega)).1 r h).2
  omega
theorem mapTx_nodup : mapTx.Nodup := by decide +kernel
theorem mapTx_inj {i j : Nat} {t u : List Int} (hi : (treesTo 6)[i]? = some t) (hj : (treesTo 6)[j]? = some u) (e : Tr.txt t = Tr.txt u) : i = j := by
  have h1 : mapTx[i + 1]? = some (Tr.txt t) := by unfold mapTx; rw [List.getElem?_cons_succ, List.getElem?_map, hi]; rfl
  have h2 : mapTx[j + 1]? = some (Tr.txt t) := by rw [e]; unfold mapTx; rw [List.getElem?_cons_succ, List.getElem?_map, hj]; rfl
  have hl : i + 1 < mapTx.length := by
    rcases Nat.lt_or_ge (i + 1) mapTx.length with g | g
    · exact g
    · rw [List.getElem?_eq_none g] at h1; cases h1
  have := (List.getElem?_inj hl mapTx_nodup).1 (h1.trans h2.symm)
  omega
theorem all_to {k : Nat} (h : k < 37) : Tr.allL[k]? = (treesTo 6)[k]? := by
  obtain ⟨rest, e⟩ := all_split 6 (by omega)
  rw [e, List.getElem?_append_left (by rw [to_len]; exact h)]
/-- the numbers that stand at texts of trees, the first k of them -/
def valN (xs : List Int) : Nat → List UInt8 → Int
  | 0 => fun _ => 0
  | k+1 => fun y => if y = Tr.txt (Tr.allL.getD k []) then xs.getD k 0 else valN xs k y
theorem valN_at {xs : List Int} {i : Nat} {r : List Int} (hr : (treesTo 6)[i]? = some r) : ∀ k, k ≤ 37 → valN xs k (Tr.txt r) = if i < k then xs.getD i 0 else 0
  | 0, _ => by rw [if_neg (by omega)]; rfl
  | k+1, hk => by
    obtain ⟨t, ht⟩ := at_lt (show k < (treesTo 6).length by rw [to_len]; omega)
    have e : Tr.allL.getD k [] = t := by rw [List.getD_eq_getElem?_getD, all_to (by omega), ht]; rfl
    unfold valN
    rw [e]
    by_cases hik : i = k
    · subst hik
      rw [hr] at ht
      injection ht with ht
      rw [if_pos (by rw [ht]), if_pos (by omega)]
    · rw [if_neg (fun q => hik (mapTx_inj hr ht q)), valN_at hr k (by omega)]
      by_cases hlt : i < k
      · rw [if_pos hlt, if_pos (by omega)]
      · rw [if_neg hlt, if_neg (by omega)]
theorem valN_put {xs : List Int} {k : Nat} {t : List Int} {x : Int} (ht : Tr.allL[k]? = some t) (hx : xs[k]? = some x) : valN xs (k + 1) = fun y => if y = Tr.txt t then x else valN xs k y := by
  have e : Tr.allL.getD k [] = t := by rw [List.getD_eq_getElem?_getD, ht]; rfl
  have e2 : xs.getD k 0 = x := by rw [List.getD_eq_getElem?_getD, hx]; rfl
  funext y
  show (if y = Tr.txt (Tr.allL.getD k []) then xs.getD k 0 else valN xs k y) = _
  rw [e, e2]
/-- the value of a map at a tree, and at the trees of a forest -/
def valT (a : List Int) (r : List Int) : Int := a.getD (Tr.idxL r (treesTo 6) 0 + 1).toNat 0
theorem valT_drop {a r : List Int} (h : isTr r = true) (h6 : r.length ≤ 6) : valN (a.drop 1) 37 (Tr.txt r) = valT a r := by
  obtain ⟨i, i37, e1, e2⟩ := small_idx h h6
  rw [valN_at e2 37 (by omega), if_pos i37]
  unfold valT
  rw [e1, show ((i : Int) + 1).toNat = i + 1 by omega, List.getD_eq_getElem?_getD, List.getD_eq_getElem?_getD, List.getElem?_drop, Nat.add_comm]
theorem valT_num {a r : List Int} (ha : allNum a = true) : 0 ≤ valT a r ∧ valT a r < 10007 := by
  unfold valT
  rw [List.getD_eq_getElem?_getD]
  cases h : a[(Tr.idxL r (treesTo 6) 0 + 1).toNat]? with
  | none => simp
  | some x => exact allNum_iff.1 ha x (List.mem_of_getElem? h)
end Go.Proofs.Ytnnihdkhblbdgaa
/-
  Free conditions with at most MaxOrder nodes, and the maps that numbers make: plain.
-/
namespace Go.Proofs.Ytnnihdkhblbdgaa
open Go.RowKit Fld
set_option linter.unusedVariables false
set_option linter.unusedSimpArgs false
set_option maxRecDepth 100000

/-- the free conditions among the trees with at most k nodes -/
def condTo (k : Nat) : List (List Int) := (treesTo k).filter keepC
theorem condTo_step (k : Nat) : condTo (k + 1) = condTo k ++ freeM (k + 1) := by
  unfold condTo freeM treesTo
  rw [List.range_succ, List.flatMap_append, List.filter_append]
  simp
def conds : List (List Int) := condTo 6
theorem chk_conds : conds.length = 10 := by decide +kernel
theorem conds_len : conds.length = 10 := chk_conds
/-- the sign of a tree, the model's -/
def sgnM (t : List Int) : Int := if (List.range t.length).any (fun k => decide (Tr.turnF 9 t k = freeL t) && decide (t.getD k 0 % 2 = 0)) then 1 else -1
def idxC (t : List Int) : Int := Tr.idxL (freeL t) conds 0
def hamAt (ns : List Int) (t : List Int) : Int := if idxC t < 0 then 0 else (sgnM t * ns.getD (idxC t).toNat 0) % 10007
def hamL (ns : List Int) : List Int := 0 :: (treesTo 6).map (hamAt ns)
theorem hamL_length (ns : List Int) : (hamL ns).length = 38 := by unfold hamL; rw [List.length_cons, List.length_map, to_len]
theorem hamL_at {ns : List Int} {k : Nat} {t : List Int} (h : (treesTo 6)[k]? = some t) : (hamL ns)[k + 1]? = some (hamAt ns t) := by
  unfold hamL; rw [List.getElem?_cons_succ, List.getElem?_map, h]; rfl
theorem hamAt_num (ns t : List Int) : 0 ≤ hamAt ns t ∧ hamAt ns t < 10007 := by
  unfold hamAt
  split
  · omega
  · exact ⟨Int.emod_nonneg _ (by omega), Int.emod_lt_of_pos _ (by omega)⟩
/-! the program's: what its map knows after k trees -/
def cntC (k : Nat) : Nat := ((treesTo 6).take k).countP keepC
def knI : Nat → List UInt8 → Option Nat
  | 0 => fun _ => none
  | k+1 => fun y => if keepC ((treesTo 6).getD k []) = true ∧ y = Tr.txt ((treesTo 6).getD k []) then some (cntC k) else knI k y
def knN (ns : List Int) (k : Nat) (y : List UInt8) : Int := match knI k y with | none => 0 | some j => ns.getD j 0
theorem cntC_step {k : Nat} {t : List Int} (h : (treesTo 6)[k]? = some t) : cntC (k + 1) = cntC k + if keepC t = true then 1 else 0 := by
  unfold cntC
  rw [List.take_add_one, h, Option.toList_some, List.countP_append, List.countP_singleton]
theorem cntC_bd : (List.range 38).all (fun k => decide (cntC k ≤ 10)) = true := by decide +kernel
theorem cntC_less {k : Nat} {t : List Int} (h : (treesTo 6)[k]? = some t) (hk : keepC t = true) : cntC k < 10 := by
  have h37 : k < 37 := by
    rcases Nat.lt_or_ge k 37 with q | q
    · exact q
    · rw [List.getElem?_eq_none (by rw [to_len]; exact q)] at h; cases h
  have := List.all_eq_true.1 cntC_bd (k + 1) (by rw [List.mem_range]; omega)
  have e := cntC_step h
  rw [if_pos hk] at e
  have := of_decide_eq_true this
  omega
theorem knN_yes {ns : List Int} {k : Nat} {t : List Int} (h : (treesTo 6)[k]? = some t) (hk : keepC t = true) : knN ns (k + 1) = fun y => if y = Tr.txt t then ns.getD (cntC k) 0 else knN ns k y := by
  have e : (treesTo 6).getD k [] = t := by rw [List.getD_eq_getElem?_getD, h]; rfl
  funext y
  unfold knN knI
  rw [e]
  by_cases q : y = Tr.txt t
  · rw [if_pos ⟨hk, q⟩, if_pos q]
  · rw [if_neg (fun z => q z.2), if_neg q]
    cases k <;> rfl
theorem knN_no {ns : List Int} {k : Nat} {t : List Int} (h : (treesTo 6)[k]? = some t) (hk : keepC t = false) : knN ns (k + 1) = knN ns k := by
  have e : (treesTo 6).getD k [] = t := by rw [List.getD_eq_getElem?_getD, h]; rfl
  funext y
  have h9 : knI (k + 1) y = knI k y := by
    show (if keepC ((treesTo 6).getD k []) = true ∧ y = Tr.txt ((treesTo 6).getD k []) then some (cntC k) else knI k y) = knI k y
    rw [e, if_neg (fun z => by rw [hk] at z; exact Bool.noConfusion z.1)]
  unfold knN
  rw [h9]
/-- where the free form stands among the tree's roots -/
def nodeT (x : List UInt8) : Nat := (rootsT x).findIdx (fun y => decide (y = minT (rootsT x)))
def lvlAt (x : List UInt8) : Int := (Tr.lvl x).getD (nodeT x) 0
def sgnP (x : List UInt8) : Int := if lvlAt x % 2 = 0 then 1 else 10006
def chkHm (k : Nat) : Bool :=
  let t := (treesTo 6).getD k []
  let x := Tr.txt t
  decide (knI (k + 1) (minT (rootsT x)) = if idxC t < 0 then none else some (idxC t).toNat) && (decide (idxC t < 0) || (decide (sgnP x = 1) == decide (sgnM t = 1))) && decide (nodeT x < t.length) && decide (0 ≤ lvlAt x) && decide (lvlAt x ≤ 8) && decide ((Tr.lvl x).length = t.length) && decide (idxC t < 10)
theorem chkHm_all : (List.range 37).all chkHm = true := by decide +kernel
theorem sgnM_two (t : List Int) : sgnM t = 1 ∨ sgnM t = -1 := by unfold sgnM; split <;> simp
theorem ham_parts {ns : List Int} {k : Nat} {t : List Int} (h : (treesTo 6)[k]? = some t) (hn : allNum ns = true) :
    (sgnP (Tr.txt t) * knN ns (k + 1) (minT (rootsT (Tr.txt t)))) % 10007 = hamAt ns t ∧ nodeT (Tr.txt t) < t.length ∧ 0 ≤ lvlAt (Tr.txt t) ∧ lvlAt (Tr.txt t) ≤ 8 ∧ (Tr.lvl (Tr.txt t)).length = t.length ∧ idxC t < 10 ∧ 0 ≤ knN ns (k + 1) (minT (rootsT (Tr.txt t))) ∧ knN ns (k + 1) (minT (rootsT (Tr.txt t))) < 10007 := by
  have h37 : k < 37 := by
    rcases Nat.lt_or_ge k 37 with q | q
    · exact q
    · rw [List.getElem?_eq_none (by rw [to_len]; exact q)] at h; cases h
  have c := List.all_eq_true.1 chkHm_all k (List.mem_range.2 h37)
  have e : (treesTo 6).getD k [] = t := by rw [List.getD_eq_getElem?_getD, h]; rfl
  unfold chkHm at c
  simp only [e, Bool.and_eq_true, decide_eq_true_eq] at c
  obtain ⟨⟨⟨⟨⟨⟨c1, c2⟩, c3⟩, c4⟩, c5⟩, c6⟩, c7⟩ := c
  have hnum : ∀ j, 0 ≤ ns.getD j 0 ∧ ns.getD j 0 < 10007 := fun j => by
    rw [List.getD_eq_getElem?_getD]
    cases hj : ns[j]? with
    | none => simp
    | some x => exact allNum_iff.1 hn x (List.mem_of_getElem? hj)
  unfold knN
  rw [c1]
  unfold hamAt
  by_cases hi : idxC t < 0
  · simp only [if_pos hi]
    exact ⟨by simp, c3, c4, c5, c6, c7, by omega, by omega⟩
  · simp only [if_neg hi]
    have hb := hnum (idxC t).toNat
    refine ⟨?_, c3, c4, c5, c6, c7, hb.1, hb.2⟩
    rw [decide_eq_false hi, Bool.false_or, beq_iff_eq] at c2
    rcases sgnM_two t with s | s
    · rw [s] at c2 ⊢
      have : sgnP (Tr.txt t) = 1 := by simpa using c2
      rw [this]
    · have : ¬ sgnP (Tr.txt t) = 1 := by rw [s] at c2; simpa using c2
      have p : sgnP (Tr.txt t) = 10006 := by
        unfold sgnP at this ⊢
        split at this
        · exact absurd rfl this
        · rename_i q; rw [if_neg q]
      rw [s, p]; omega
noncomputable def hamA (ns : List Int) : List Int × Int := if ns.length = 10 ∧ allNum ns = true then (hamL ns, 0) else ([], 2)
end Go.Proofs.Ytnnihdkhblbdgaa
/-
  The sign of a tree, the program's.
-/
namespace Go.Proofs.Ytnnihdkhblbdgaa
open Go.RowKit Fld
set_option linter.unusedVariables false
set_option linter.unusedSimpArgs false
set_option maxRecDepth 100000

theorem findIdx_at {l : List (List UInt8)} {x : List UInt8} {k : Nat} {s : List UInt8} (h : l[k]? = some s) (he : s = x) (hn : ∀ j s, j < k → l[j]? = some s → s ≠ x) : l.findIdx (fun y => decide (y = x)) = k := by
  have hk := (List.getElem?_eq_some_iff.1 h).1
  rw [List.findIdx_eq hk]
  refine ⟨?_, fun j hj => ?_⟩
  · rw [List.getElem?_eq_getElem hk] at h
    rw [Option.some.inj h, decide_eq_true he]
  · exact decide_eq_false (hn j _ hj (List.getElem?_eq_getElem (by omega)))
set_option maxHeartbeats 1000000 in
theorem indexT_any (A : Option Addr) (n c B : Nat) (ss : List (List UInt8)) (x : List UInt8) (w : World) (hl : ss.length = n) (hn : n ≤ 1048576) (hm : x ∈ ss) (h : Row w B A (strs ss)) :
    Calls Try.prog 123 #[.slice A n c, .string ⟨x.toArray⟩] w fun e w' => e = .returned (.int .i64 ((ss.findIdx (fun y => decide (y = x)) : Nat) : Int)) ∧ w = w' := by
  have HL := Lib.hid hl
  have HM := Lib.hid hm
  have EQ : Hid (∀ s : List UInt8, ((⟨x.toArray⟩ : ByteArray).toList == (⟨s.toArray⟩ : ByteArray).toList) = decide (x = s)) := fun s => str_eqbfC x s
  obtain ⟨X, hX⟩ : ∃ X : ByteArray, X = ⟨x.toArray⟩ := ⟨_, rfl⟩
  simp only [← hX] at EQ ⊢
  clear hl hm hX
  go_enter Try.func123, Try.ntmps123
  go_wp2_with fail
  go_loop [8] (fun i => ∃ k : Nat, k ≤ n ∧ i = .int .i64 k ∧ Hid (∀ j s, j < k → ss[j]? = some s → s ≠ x)) (fun i => n - (intOf i).toNat)
  case atStart => exact ⟨0, Nat.zero_le _, rfl, fun j s hj => by omega⟩
  case round =>
    obtain ⟨k, hk, rfl, HI⟩ := hrel
    by_cases hlt : k < n
    · have hlti : (k : Int) < (n : Int) := by omega
      obtain ⟨s, hs⟩ := at_lt (show k < ss.length by rw [HL.out]; exact hlt)
      obtain ⟨b, o, rfl, _, hc⟩ := h k _ (strs_at hs)
      have e1 := EQ.out s
      obtain ⟨Y, hY⟩ : ∃ Y : ByteArray, Y = ⟨s.toArray⟩ := ⟨_, rfl⟩
      rw [← hY] at hc e1
      by_cases he : s = x
      · have G := Lib.hid (findIdx_at hs he HI.out)
        rw [decide_eq_true he.symm] at e1
        clear hs he hY HI
        go_wp2
        go_ret
        exact ⟨ret_i64 (by rw [G.out]), rfl⟩
      · have G : Hid (∀ j s, j < k + 1 → ss[j]? = some s → s ≠ x) := fun j s' hj hs' => by
          by_cases q : j = k
          · subst q; rw [hs] at hs'; rw [← Option.some.inj hs']; exact he
          · exact HI.out j s' (by omega) hs'
        rw [decide_eq_false (fun q => he q.symm)] at e1
        clear hs he hY HI
        go_wp2
        go_round
        case rel => exact ⟨k + 1, by omega, by go_num, G⟩
        case measure => simp [intOf]; omega
    · obtain ⟨j, hj⟩ := List.mem_iff_getElem?.1 HM.out
      have hjn : j < n := by rw [← HL.out]; exact (List.getElem?_eq_some_iff.1 hj).1
      exact absurd rfl (HI.out j x (by omega) hj)
theorem pw_sign : ∀ l : Nat, l < 9 → pw 10006 l = if l % 2 = 0 then 1 else 10006 := by
  have h : ((List.range 9).all fun l => decide (pw 10006 l = if l % 2 = 0 then 1 else 10006)) = true := by decide +kernel
  intro l hl
  exact of_decide_eq_true (List.all_eq_true.1 h l (List.mem_range.2 hl))
theorem minT_in {ss : List (List UInt8)} (h : 0 < ss.length) : minT ss ∈ ss := by
  obtain ⟨⟨j, _, ej⟩, _⟩ := minTo_least ss ss.length (by omega) (Nat.le_refl _)
  exact List.mem_of_getElem? ej
set_option maxHeartbeats 1000000 in
theorem freeSign_any (t : List Int) (w : World) (ht : Tr.isLv t = true) (hk : nodeT (Tr.txt t) < t.length) (h0 : 0 ≤ lvlAt (Tr.txt t)) (h8 : lvlAt (Tr.txt t) ≤ 8) :
    Calls Try.prog 102 #[.string ⟨(Tr.txt t).toArray⟩] w fun e w' => e = .returned (.int .i64 (sgnP (Tr.txt t))) ∧ Below w.heap.size w w' := by
  have hx := Tr.tx_txt ht
  have hlen := (lv_txt ht).2.2.2
  obtain ⟨t1, t8⟩ := lv_bd ht
  have hlc := lv_can ht
  have CR := fun V => roots_any (Tr.txt t) V hx
  have CF := fun V => freeForm_any (Tr.txt t) V hx
  have CL := fun V => levelsOf_any t V ht
  have HRL : Hid ((rootsT (Tr.txt t)).length = (Tr.txt t).length / 2) := rootsT_len _
  have hpos : 0 < (rootsT (Tr.txt t)).length := by rw [HRL.out]; omega
  have HIN := Lib.hid (minT_in hpos)
  obtain ⟨l, hl⟩ := at_lt (show nodeT (Tr.txt t) < (Tr.can t).length by rw [hlc.2]; exact hk)
  have HLV : Hid (lvlAt (Tr.txt t) = l) := by unfold lvlAt; rw [Hid, (lv_txt ht).1, List.getD_eq_getElem?_getD, hl]; rfl
  rw [HLV.out] at h0 h8
  have G : Hid (pw 10006 l.toNat = sgnP (Tr.txt t)) := by
    rw [Hid, pw_sign l.toNat (by omega)]
    unfold sgnP
    rw [HLV.out]
    by_cases q : l % 2 = 0
    · rw [if_pos q, if_pos (by omega)]
    · rw [if_neg q, if_neg (by omega)]
  have ND : Hid ((rootsT (Tr.txt t)).findIdx (fun y => decide (y = minT (rootsT (Tr.txt t)))) = nodeT (Tr.txt t)) := rfl
  have HXX : Hid (∀ (V : World) (A : Option Addr) (c : Nat), Row V V.heap.size A (strs (rootsT (Tr.txt t))) → Calls Try.prog 123 #[.slice A ((Tr.txt t).length / 2) c, .string ⟨(minT (rootsT (Tr.txt t))).toArray⟩] V fun e w' => e = .returned (.int .i64 ((nodeT (Tr.txt t) : Nat) : Int)) ∧ V = w') := fun V A c hr => indexT_any A _ c V.heap.size (rootsT (Tr.txt t)) (minT (rootsT (Tr.txt t))) V HRL.out (by omega) HIN.out hr
  obtain ⟨n2, hn2⟩ : ∃ n2, n2 = (Tr.txt t).length / 2 := ⟨_, rfl⟩
  obtain ⟨nd, hnd⟩ : ∃ nd, nd = nodeT (Tr.txt t) := ⟨_, rfl⟩
  obtain ⟨X, hX⟩ : ∃ X : ByteArray, X = ⟨(Tr.txt t).toArray⟩ := ⟨_, rfl⟩
  obtain ⟨Z, hZ⟩ : ∃ Z : ByteArray, Z = ⟨(minT (rootsT (Tr.txt t))).toArray⟩ := ⟨_, rfl⟩
  simp only [← hn2, ← hX] at CR
  simp only [← hX, ← hZ] at CF
  simp only [← hX] at CL ⊢
  simp only [← hn2, ← hZ, ← hnd] at HXX
  rw [← hnd] at hk hl
  obtain ⟨tn, htn⟩ : ∃ tn, tn = t.length := ⟨_, rfl⟩
  simp only [← htn] at CL hk t1 t8
  have nd0 : (0 : Int) ≤ (nd : Int) := Int.natCast_nonneg _
  have ndk : (nd : Int) < (tn : Int) := by omega
  clear hn2 hnd hX hZ hx hlen hpos ht hlc htn ND
  go_enter Try.func102, Try.ntmps102
  go_wp2_with fail
  refine (CR _).mono ?_
  rintro e w1 ⟨rfl, own1, b1⟩
  have B1 := Lib.hid b1
  have HR1 : Hid (Row w1 w1.heap.size (some ⟨w.heap.size, 0, none⟩) (strs (rootsT (Tr.txt t)))) := row_of_own own1
  have hs1 := b1.size
  clear b1 own1
  go_wp2_with fail
  refine (CF _).mono ?_
  rintro e w2 ⟨rfl, b2⟩
  have HR2 : Hid (Row w2 w2.heap.size (some ⟨w.heap.size, 0, none⟩) (strs (rootsT (Tr.txt t)))) := (HR1.out.below b2 (Nat.le_refl _)).more b2.size
  have B2 := Lib.hid (B1.out.trans (b2.mono hs1))
  clear b2
  go_wp2_with fail
  refine (HXX.out _ _ _ HR2.out).mono ?_
  rintro e w' ⟨rfl, rfl⟩
  go_wp2_with fail
  refine (reduced_any (-1) _).mono ?_
  rintro e w' ⟨rfl, rfl⟩
  go_wp2_with fail
  refine (CL _).mono ?_
  rintro e w3 ⟨A3, c3, rfl, own3, b3⟩
  obtain ⟨b, o, rfl, _, hc⟩ := (row_of_own own3) nd _ (ints_at hl)
  have B3 := Lib.hid (B2.out.trans (b3.mono B2.out.size))
  clear own3 b3
  go_wp2_with fail
  refine (power_any _ l _ (by omega) (by omega) h0 (by omega)).mono ?_
  rintro e w' ⟨rfl, rfl⟩
  go_wp2
  go_ret
  exact ⟨ret_i64 G.out, B3.out⟩
end Go.Proofs.Ytnnihdkhblbdgaa
/-
  'm[k], x = v, y': the entry is made first and its value is stored afterwards.
-/
namespace Go.Proofs.Ytnnihdkhblbdgaa
open Go.Maps Go.ChangeMaps
set_option linter.unusedVariables false
set_option linter.unusedSimpArgs false
section
variable {H : Type} {P : Program} {k : TypeId} {R : Value → Option (DataW H × List MemPlace)} {w : World} {b n : Nat} {D : DataW H}
/-- Between the entry and its store nothing turns: what the two leave is what 'm[k] = v' leaves. -/
theorem ownsMap_entry {t e : TypeId} (h : w.ownsMap P k R b n D) (K : WideMaps.KeyLaw P k) (K' : Keyed P k) (ht : P.underlying t = some (.map k e)) (hn : n < maxLen) {z : Value} (hz : ∀ u : World, (zeroValue e).run P u = .ok z u)
    {key : Value} {kl : Lit} (hkey : keyOf P k key = some kl) : ∃ (v0 : Value) (st : Nat) (w1 : World), (Instr.mapEntry t (.map (some b)) key).run P w = .ok (.tuple #[v0, goInt st]) w1 ∧ w.mapTurned w1 b ∧
      ∀ (val : Value) d ps, R val = some (d, ps) → ∃ w', (Instr.entryStore t (.map (some b)) (goInt st) val).run P w1 = .ok () w' ∧ w'.ownsMap P k R b (n + 1) (D.put kl d) ∧ w.mapTurned w' b := by
  have h0 := h
  obtain ⟨es, clock, hb, F, hs, rfl⟩ := h
  obtain ⟨v0, st, es1, clock1, hrun, _, hstore⟩ := Go.WideElems.entry_then_store K ht hz hb F hkey
  refine ⟨v0, st, _, hrun, ⟨es, clock, es1, clock1, hb, rfl⟩, fun val d ps hv => ?_⟩
  obtain ⟨es', clock', hrun2, hup⟩ := hstore _ val (heap_setBlock_same hb (.map es1 clock1))
  obtain ⟨w', hst, ho, hm⟩ := h0.store K' ht hn hkey hv
  rw [hup] at hst
  have e1 : setBlock (setBlock w b (.map es1 clock1)) b (.map es' clock') = w' := by
    have : setBlock w b (.map es' clock') = w' := by injection hst
    rw [← this]
    simp [setBlock, Array.setIfInBounds_setIfInBounds]
  exact ⟨w', by rw [hrun2, e1], ho, hm⟩
end
section
variable {H : Type} {P : Program} (w : World) {ops : Array Oper} {rest : List Oper} {o : Oper} {a : Act} {Q : Exit → Act → World → Prop}
theorem wpList_mapEntry_own (hg : o.guard = none) (m x : Operand) (t : TypeId) (hop : o.op = Op.mapEntry t m x) (k e : TypeId) (K : WideMaps.KeyLaw P k) (K' : Keyed P k) (ht : P.underlying t = some (.map k e))
    (R : Value → Option (DataW H × List MemPlace)) {z : Value} (hz : ∀ u : World, (zeroValue e).run P u = .ok z u) (b n : Nat) (D : DataW H) (hm : a.eval m = .map (some b)) (hown : w.ownsMap P k R b n D) (hn : n < maxLen)
    (key : Value) (kl : Lit) (hx : a.eval x = key) (hkey : keyOf P k key = some kl)
    (hK : ∀ (v0 : Value) (st : Nat) (w1 : World), w.mapTurned w1 b → (∀ (val : Value) d ps, R val = some (d, ps) → ∃ w', (Instr.entryStore t (.map (some b)) (goInt st) val).run P w1 = .ok () w' ∧ w'.ownsMap P k R b (n + 1) (D.put kl d) ∧ w.mapTurned w' b) →
      wpList P ops Q rest (a.put o.dst (.tuple #[v0, goInt st])) w1) : wpList P ops Q (o :: rest) a w := by
  refine wpList_plain hg fun K'' hK'' => ?_
  obtain ⟨v0, st, w1, hrun, hm1, hrest⟩ := ownsMap_entry hown K K' ht hn hz hkey
  unfold Oper.wp
  simp [execOp, hop, hm, hx, hrun, Result.andThen]
  exact hK'' _ _ (hK v0 st w1 hm1 hrest)
theorem wpList_entryStore_own (hg : o.guard = none) (m s v : Operand) (t : TypeId) (hop : o.op = Op.entryStore t m s v) (b st : Nat) (val : Value) (hm : a.eval m = .map (some b)) (hs : a.eval s = goInt st) (hv : a.eval v = val) (w' : World)
    (hrun : (Instr.entryStore t (.map (some b)) (goInt st) val).run P w = .ok () w') (hK : wpList P ops Q rest (a.put o.dst undef) w') : wpList P ops Q (o :: rest) a w := by
  refine wpList_plain hg fun K'' hK'' => ?_
  unfold Oper.wp
  simp [execOp, hop, hm, hs, hv, hrun, Result.andThen]
  exact hK'' _ _ hK
end
end Go.Proofs.Ytnnihdkhblbdgaa
/-
  What the tests on maps answer, the program's and the model's alike.
-/
namespace Go.Proofs.Ytnnihdkhblbdgaa
open Go.RowKit Fld
set_option linter.unusedVariables false
set_option linter.unusedSimpArgs false
set_option maxRecDepth 100000

theorem isMap_any (A : Option Addr) (n c B : Nat) (xs : List Int) (w : World) (hl : xs.length = n) (hn : n ≤ 9223372036854775807) (h : Row w B A (ints xs)) :
    Calls Try.prog 48 #[.slice A n c] w fun e w' => e = .returned (.bool (isMp xs)) ∧ w = w' := by
  have HL := Lib.hid hl
  by_cases h0 : n = 38
  · have H := Lib.hid (isMp_num (a := xs) (by omega))
    have t : ((n : Int) == 38) = true := beq_t (by omega)
    clear hl h0
    go_enter Try.func48, Try.ntmps48
    go_wp2_with (go_at_call 64; refine (areNumbers_any _ _ _ B xs _ HL.out hn h).mono ?_; rintro e w' ⟨rfl, rfl⟩)
    go_ret
    exact ⟨ret_bool H.out.symm, rfl⟩
  · have H := Lib.hid (isMp_len (a := xs) (by omega))
    have t : ((n : Int) == 38) = false := beq_f (by omega)
    clear hl h0
    go_enter Try.func48, Try.ntmps48
    go_wp2
    go_ret
    exact ⟨ret_bool H.out.symm, rfl⟩
theorem l07Is_any (A : Option Addr) (n c B : Nat) (xs : List Int) (w : World) (hl : xs.length = n) (hn : n ≤ 9223372036854775807) (h : Row w B A (ints xs)) :
    Calls Try.prog 77 #[.slice A n c] w fun e w' => e = .returned (.bool (isMp xs)) ∧ w = w' := by
  have HL := Lib.hid hl
  by_cases h0 : n = 38
  · have H := Lib.hid (isMp_num (a := xs) (by omega))
    have t : ((n : Int) == 38) = true := beq_t (by omega)
    clear hl h0
    go_enter Try.func77, Try.ntmps77
    go_wp2_with (go_at_call 62; refine (l01Numbers_any _ _ _ B xs _ HL.out hn h).mono ?_; rintro e w' ⟨rfl, rfl⟩)
    go_ret
    exact ⟨ret_bool H.out.symm, rfl⟩
  · have H := Lib.hid (isMp_len (a := xs) (by omega))
    have t : ((n : Int) == 38) = false := beq_f (by omega)
    clear hl h0
    go_enter Try.func77, Try.ntmps77
    go_wp2
    go_ret
    exact ⟨ret_bool H.out.symm, rfl⟩
theorem map_first {A : Option Addr} {n B : Nat} {a : List Int} {w : World} (hm : isMp a = true) (hl : a.length = n) (h : Row w B A (ints a)) : ∃ x b o, a[0]? = some x ∧ A = some ⟨b, o, none⟩ ∧ w.cell? ⟨b, o, none⟩ = some (.int .i64 x) ∧ 1 ≤ n ∧ 0 ≤ x ∧ x < 10007 := by
  obtain ⟨h1, h2⟩ := isMp_parts hm hl
  obtain ⟨x, hx⟩ := at_lt (show 0 < a.length by omega)
  obtain ⟨b, o, e, _, hc⟩ := h 0 _ (ints_at hx)
  rw [Nat.add_zero] at hc
  obtain ⟨x0, x1⟩ := num_at h2 hx
  exact ⟨x, b, o, hx, e, hc, by omega, x0, x1⟩
theorem isCharacter_any (A : Option Addr) (n c B : Nat) (xs : List Int) (w : World) (hl : xs.length = n) (hn : n ≤ 9223372036854775807) (h : Row w B A (ints xs)) :
    Calls Try.prog 49 #[.slice A n c] w fun e w' => e = .returned (.bool (isChr xs)) ∧ w = w' := by
  have C0 := isMap_any A n c B xs w hl hn h
  cases hm : isMp xs
  · have H := Lib.hid (isChr_no hm)
    rw [hm] at C0
    clear hl
    go_enter Try.func49, Try.ntmps49
    go_wp2_with fail
    refine C0.mono ?_
    rintro e w' ⟨rfl, rfl⟩
    go_wp2
    go_ret
    exact ⟨ret_bool H.out.symm, rfl⟩
  · obtain ⟨x, b, o, hx, rfl, hc, p1, x0, x1⟩ := map_first hm hl h
    have H := Lib.hid (isChr_at hm hx)
    rw [hm] at C0
    clear hl hx
    by_cases hx1 : x = 1
    · have t : (x == 1) = true := beq_t hx1
      have D : Hid (decide (x = 1) = true) := decide_eq_true hx1
      clear hx1
      go_enter Try.func49, Try.ntmps49
      go_wp2_with fail
      refine C0.mono ?_
      rintro e w' ⟨rfl, rfl⟩
      go_wp2
      go_ret
      exact ⟨ret_bool (H.out.trans D.out).symm, rfl⟩
    · have t : (x == 1) = false := beq_f hx1
      have D : Hid (decide (x = 1) = false) := decide_eq_false hx1
      clear hx1
      go_enter Try.func49, Try.ntmps49
      go_wp2_with fail
      refine C0.mono ?_
      rintro e w' ⟨rfl, rfl⟩
      go_wp2
      go_ret
      exact ⟨ret_bool (H.out.trans D.out).symm, rfl⟩
theorem isInfinitesimal_any (A : Option Addr) (n c B : Nat) (xs : List Int) (w : World) (hl : xs.length = n) (hn : n ≤ 9223372036854775807) (h : Row w B A (ints xs)) :
    Calls Try.prog 53 #[.slice A n c] w fun e w' => e = .returned (.bool (isInf xs)) ∧ w = w' := by
  have C0 := isMap_any A n c B xs w hl hn h
  cases hm : isMp xs
  · have H := Lib.hid (isInf_no hm)
    rw [hm] at C0
    clear hl
    go_enter Try.func53, Try.ntmps53
    go_wp2_with fail
    refine C0.mono ?_
    rintro e w' ⟨rfl, rfl⟩
    go_wp2
    go_ret
    exact ⟨ret_bool H.out.symm, rfl⟩
  · obtain ⟨x, b, o, hx, rfl, hc, p1, x0, x1⟩ := map_first hm hl h
    have H := Lib.hid (isInf_at hm hx)
    rw [hm] at C0
    clear hl hx
    by_cases hx1 : x = 0
    · have t : (x == 0) = true := beq_t hx1
      have D : Hid (decide (x = 0) = true) := decide_eq_true hx1
      clear hx1
      go_enter Try.func53, Try.ntmps53
      go_wp2_with fail
      refine C0.mono ?_
      rintro e w' ⟨rfl, rfl⟩
      go_wp2
      go_ret
      exact ⟨ret_bool (H.out.trans D.out).symm, rfl⟩
    · have t : (x == 0) = false := beq_f hx1
      have D : Hid (decide (x = 0) = false) := decide_eq_false hx1
      clear hx1
      go_enter Try.func53, Try.ntmps53
      go_wp2_with fail
      refine C0.mono ?_
      rintro e w' ⟨rfl, rfl⟩
      go_wp2
      go_ret
      exact ⟨ret_bool (H.out.trans D.out).symm, rfl⟩
end Go.Proofs.Ytnnihdkhblbdgaa
/-
  A map of trees by their texts: valuesOf.
-/
namespace Go.Proofs.Ytnnihdkhblbdgaa
open Go.RowKit Fld Go.Maps
set_option linter.unusedVariables false
set_option linter.unusedSimpArgs false
set_option maxRecDepth 100000

theorem keyedV : Keyed Try.prog 73 := Maps.string_keyed Try.underlying73
theorem zeroNum (w : World) : (zeroValue 51).run Try.prog w = .ok (.int .i64 0) w := by kernel_rfl
theorem keyTxV {x : List UInt8} (h : x.length ≤ 1048576) : keyOf Try.prog 73 (.string ⟨x.toArray⟩) = some (.string x) := by
  have h1 := Go.WideMaps.keyOf_string_mk (P := Try.prog) (k := 73) Try.underlying73 (s := ⟨x.toArray⟩) (by simp [ByteArray.size, maxLen]; omega)
  simpa using h1
theorem keyLitV {x : List UInt8} : WideAt.IsKeyLit (.string x) := by simp [WideAt.IsKeyLit]
/-- block b is a map that holds the numbers f -/
def HoldsV (D : DataW Unit) (f : List UInt8 → Int) : Prop := ∀ x, D.atKey (.string x) (.lit (.int .i64 0)) = .lit (.int .i64 (f x))
def MapV (w : World) (b n : Nat) (f : List UInt8 → Int) : Prop :=
  ∃ D : DataW Unit, w.ownsMap Try.prog 73 (plainElem Try.prog 51) b n D ∧ HoldsV D f
theorem MapV.made (w : World) : MapV (w.alloc (.map #[] 0)) w.heap.size 0 (fun _ => 0) :=
  ⟨.map [], World.ownsMap_made _ _ _ _, fun x => by simp [DataW.atKey]⟩
theorem MapV.lt {w : World} {b n : Nat} {f : List UInt8 → Int} (h : MapV w b n f) : b < w.heap.size := by
  obtain ⟨D, h1, _⟩ := h
  exact h1.lt
theorem MapV.below {w w' : World} {b n B : Nat} {f : List UInt8 → Int} (h : MapV w b n f) (hb : Below B w w') (hB : b < B) : MapV w' b n f := by
  obtain ⟨D, ⟨es, clock, h1, r⟩, h2⟩ := h
  exact ⟨D, ⟨es, clock, (hb.block b hB).trans h1, r⟩, h2⟩
theorem ownsMap_below {w w' : World} {b n B : Nat} {D : DataW Unit} (h : w.ownsMap Try.prog 73 (plainElem Try.prog 51) b n D) (hb : Below B w w') (hB : b < B) : w'.ownsMap Try.prog 73 (plainElem Try.prog 51) b n D := by
  obtain ⟨es, clock, h1, r⟩ := h
  exact ⟨es, clock, (hb.block b hB).trans h1, r⟩
theorem MapV.next {w w' : World} {b n : Nat} {f : List UInt8 → Int} (h : MapV w b n f) (hb : Below w.heap.size w w') : MapV w' b n f := h.below hb h.lt
theorem HoldsV.put {D : DataW Unit} {f : List UInt8 → Int} {x : List UInt8} {c : Int} (h : HoldsV D f) (hm : IsMap D) : HoldsV (D.put (.string x) (.lit (.int .i64 c))) (fun y => if y = x then c else f y) := fun y => by
  show _ = DataW.lit (.int .i64 (if y = x then c else f y))
  by_cases e : y = x
  · subst e
    rw [if_pos rfl, Maps.atKey_put_same hm keyLitV]
  · rw [if_neg e, Maps.atKey_put_other (fun q => e (by injection q))]; exact h y
def ResV (n : Nat) (f : List UInt8 → Int) (w : World) (e : Ending) (w' : World) : Prop := ∃ b, e = .returned (.map (some b)) ∧ MapV w' b n f ∧ Below w.heap.size w w'
set_option maxHeartbeats 4000000 in
theorem valuesOf_any (A : Option Addr) (n c B : Nat) (xs : List Int) (w : World) (hl : xs.length = n) (hn : n ≤ 37) (ha : allNum xs = true) (hB : B ≤ w.heap.size) (h : Row w B A (ints xs)) :
    Calls Try.prog 82 #[.slice A n c] w (ResV n (valN xs n) w) := by
  have HL := Lib.hid hl
  have NA := Lib.hid ha
  have hB1 : B ≤ (w.alloc (.map #[] 0)).heap.size := by simp; omega
  have M0 := MapV.made w
  have B0 : Below w.heap.size w (w.alloc (.map #[] 0)) := (Below.refl _ _).alloc (Nat.le_refl _) _
  have hmm := @run_makeMap Try.prog
  clear hl ha
  go_enter Try.func82, Try.ntmps82
  go_wp2_with fail
  refine (allTrees_any _).mono ?_
  rintro e w1 ⟨A1, c1, vs1, rfl, own1, bel1⟩
  have M1 := Lib.hid (M0.next bel1)
  have B1 := Lib.hid (B0.trans (bel1.mono (by simp)))
  have O1 := Lib.hid own1
  have hcap := (own_cap own1.outer.1).1
  have hlo : (w.alloc (.map #[] 0)).heap.size = w.heap.size + 1 := by simp
  have hlo2 := Lib.hid hlo
  clear M0 B0 own1 bel1 hlo
  have hb0 := M1.out.lt
  have OWN : Hid (∃ lo, w.heap.size < lo ∧ OwnMat w1 lo w1.heap.size (.slice A1 200 c1) 200 Tr.allL vs1) := ⟨_, by rw [hlo2.out]; omega, O1.out⟩
  clear O1 hlo2
  go_wp2_with fail
  go_loopw [12] (fun i wr => ∃ k : Nat, k ≤ n ∧ i = .int .i64 k ∧ Hid (MapV wr w.heap.size k (valN xs k)) ∧ Hid (∃ lo, w.heap.size < lo ∧ OwnMat wr lo wr.heap.size (.slice A1 200 c1) 200 Tr.allL vs1) ∧ Hid (Below w.heap.size w wr)) (fun i _ => n - (intOf i).toNat)
  case atStart => exact ⟨0, Nat.zero_le _, rfl, M1, OWN, B1⟩
  case round =>
    clear M1 OWN B1
    obtain ⟨k, hk, rfl, HM, HO, HB⟩ := hrel
    have HR := Lib.hid (h.below HB.out hB)
    by_cases hlt : k < n
    · obtain ⟨x, hx⟩ := at_lt (show k < xs.length by rw [HL.out]; exact hlt)
      obtain ⟨t, ht⟩ := at_lt (show k < Tr.allL.length by rw [Tr.allL_len]; omega)
      obtain ⟨lo, hlo, hO⟩ := HO.out
      have hlv : Tr.isLv t = true := by
        obtain ⟨j, hj⟩ : ∃ j, (treesTo 6)[k]? = some j := ⟨t, by rw [← all_to (by omega)]; exact ht⟩
        have e : j = t := by rw [all_to (by omega), hj] at ht; injection ht
        subst e
        have hm := List.mem_of_getElem? hj
        obtain ⟨q, hq, h9⟩ := to_mem.1 hm
        exact ((trees_all (n := q + 1) (by omega) (by omega)).1 _ h9).1
      obtain ⟨r1, r8⟩ := lv_bd hlv
      obtain ⟨b1, o1, Ak, ck, eA, _, hct, hrc, hcm, hrow⟩ := hO.mat k t ht
      subst eA
      obtain ⟨bx, ox, rfl, hbx, hcx⟩ := HR.out k _ (ints_at hx)
      obtain ⟨x0, x1⟩ := num_at NA.out hx
      have hwf : (Lit.int .i64 x).wf = true := by simp [Lit.wf, IntKind.min, IntKind.max, IntKind.signed, IntKind.bits]; omega
      have hsz := HB.out.size
      obtain ⟨D, hown, hD⟩ := HM.out
      have hbw := hown.lt
      have hmap := hown.isMap
      have HDP := Lib.hid (HoldsV.put (x := Tr.txt t) (c := x) hD hmap)
      have HDW : Hid (∀ W' : World, Below wr.heap.size wr W' → W'.ownsMap Try.prog 73 (plainElem Try.prog 51) w.heap.size k D) := fun W' hb => ownsMap_below hown hb hbw
      have C1 := fun d => treeOf_any Ak t.length ck wr.heap.size t (wr.drewN d) rfl r1 r8 hrc (Nat.le_refl _) (hrow.drewN d)
      have htl := (lv_txt hlv).2.2.2
      have hkey := keyTxV (x := Tr.txt t) (by omega)
      have HPUT := Lib.hid (valN_put ht hx)
      obtain ⟨T, hT⟩ : ∃ T, T = Tr.txt t := ⟨_, rfl⟩
      rw [← hT] at C1 hkey HPUT HDP
      obtain ⟨X, hX⟩ : ∃ X : ByteArray, X = ⟨T.toArray⟩ := ⟨_, rfl⟩
      rw [← hX] at C1 hkey
      have HK : Hid (∀ W' : World, Below wr.heap.size wr W' → W'.cell? ⟨bx, ox + k, none⟩ = some (.int .i64 x)) := fun W' hb => (hb.cell (p := ⟨bx, ox + k, none⟩) (World.block_lt_of_cell? wr _ hcx)).trans hcx
      have HOO := Lib.hid hO
      have k0 : (0 : Int) ≤ (k : Int) := Int.natCast_nonneg _
      have k1 : (k : Int) < (n : Int) := by omega
      have HNE : Hid (some bx ≠ some w.heap.size) := fun e => by have := Option.some.inj e; omega
      clear hx ht hlv hT hX hrow htl hO HO hown hD hmap HM
      go_wp2_with fail
      go_region_held3 (fun w' => w'.cell? ⟨bx, ox + k, none⟩ = some (.int .i64 x)) (first | go_keep | exact HK.out _ (below_undrew' bel2) | exact World.grownBy.cell hgrow3 (HK.out _ (below_undrew' bel2)) HNE.out)
        (first
          | (go_at_call 59; refine (C1 1).mono ?_; rintro e w2 ⟨rfl, bel2⟩)
          | (obtain ⟨w3, hrun, hown3, hgrow3⟩ := World.ownsMap.update (HDW.out w2 (below_undrew' bel2)) keyedV Try.underlying89 (by unfold maxLen; omega) hkey (plainElem_int Try.underlying51 hwf); rw [hrun]; go_simp))
      have bel2' := below_undrew' bel2
      have hs2 := bel2'.size
      have hs3 := hgrow3.size
      have GM : Hid (MapV w3 w.heap.size (k + 1) (valN xs (k + 1))) := ⟨_, hown3, by rw [HPUT.out]; exact HDP.out⟩
      have hWI : Within w.heap.size (w.heap.size + 1) w2 w3 := Within.grown hgrow3 (fun g' e => by injection e with e; omega)
      have GO : Hid (∃ lo, w.heap.size < lo ∧ OwnMat w3 lo w3.heap.size (.slice (some ⟨b1, o1, none⟩) 200 c1) 200 Tr.allL vs1) := ⟨lo, hlo, ((HOO.out.below bel2' (Nat.le_refl _)).within hWI (by omega) (.inr (by omega))).more (Nat.le_refl _) (by omega)⟩
      have GB : Hid (Below w.heap.size w w3) := (HB.out.trans (bel2'.mono hsz)).grown hgrow3 (by omega) (fun z hz => by injection hz with hz; omega)
      clear hown3 hgrow3 hrun bel2 bel2' hWI HB HR HOO HDW HDP
      go_wp2
      go_roundw
      case rel => exact ⟨k + 1, by omega, by go_num, GM, GO, GB⟩
      case measure => simp [intOf]; omega
    · obtain rfl : k = n := by omega
      have HD : Hid (ResV k (valN xs k) w (.returned (.map (some w.heap.size))) wr) := ⟨_, rfl, HM.out, HB.out⟩
      clear HM HO HB HR
      go_wp2
      go_ret
      exact HD.out
end Go.Proofs.Ytnnihdkhblbdgaa
/-
  The texts of the trees of a list of level lists: the walk.
-/
namespace Go.Proofs.Ytnnihdkhblbdgaa
open Go.RowKit Fld
set_option linter.unusedVariables false
set_option linter.unusedSimpArgs false
set_option maxRecDepth 100000

set_option maxHeartbeats 1000000 in
theorem treesOf_any (A : Option Addr) (n c B : Nat) (f : List (List Int)) (w : World) (hl : f.length = n) (hn : n ≤ 1048576) (hr : ∀ r ∈ f, Tr.isLv r = true) (hB : B ≤ w.heap.size) (h : Mat w B A f) :
    Calls Try.prog 109 #[.slice A n c] w fun e w' => e = .returned (.slice (some ⟨w.heap.size, 0, none⟩) n n) ∧ w'.ownsRow w.heap.size 73 1 (.slice (some ⟨w.heap.size, 0, none⟩) n n) n (strs (f.map Tr.txt)) ∧ Below w.heap.size w w' := by
  obtain ⟨i0, hi, hz0, hz1, hz2⟩ := info_parts info_tree
  have HL := Lib.hid hl
  have HR := Lib.hid hr
  have HSL : Hid ((f.map Tr.txt).length = n) := by rw [Hid, List.length_map]; exact hl
  clear hl hr
  go_enter Try.func109, Try.ntmps109
  go_wp2_with (at_make; refine wpList_make_full _ rfl (.tmp 7) (.tmp 7) 91 rfl w.heap.size 73 i0 _ 1 Try.underlying91 hi hz0 hz1 .i64 .i64 _ _ n rfl rfl rfl rfl (by rw [hz2]; omega) (by simp only [maxLen]; omega) (Nat.le_refl _) ?_; intro w1 hown hg)
  have F0 := FillT.start (ss := f.map Tr.txt) hown hg
  clear hown hg hz0 hz1 hz2 hi
  go_wp2_with fail
  go_loopw [11] (fun i wr => ∃ k : Nat, k ≤ n ∧ i = .int .i64 k ∧ FillT w n (f.map Tr.txt) k wr) (fun i _ => n - (intOf i).toNat)
  case atStart => exact ⟨0, Nat.zero_le _, rfl, F0⟩
  case round =>
    obtain ⟨k, hk, rfl, HF⟩ := hrel
    by_cases hlt : k < n
    · obtain ⟨r, hr⟩ := at_lt (show k < f.length by rw [HL.out]; exact hlt)
      obtain ⟨b, o, Ak, ck, rfl, hb, hc, hrc, hcm, hrow⟩ := (h.below HF.2 hB) k r hr
      obtain ⟨r1, r8⟩ := lv_bd (HR.out r (List.mem_of_getElem? hr))
      have hsz := HF.2.size
      have hst : (f.map Tr.txt)[k]? = some (Tr.txt r) := by rw [List.getElem?_map, hr]; rfl
      have HST := Lib.hid hst
      have HFF := Lib.hid HF
      clear hr hst F0 HF
      go_wp2_with fail
      refine (treeOf_any Ak r.length ck B r wr rfl r1 r8 hrc (by omega) hrow).mono ?_
      rintro e w2 ⟨rfl, bel2⟩
      have HF2 := HFF.out.below bel2
      have hf := HF2.1.frozenAt k
      have ho := HF2.1.cellAt k (by omega)
      rw [fill_at (by rw [strs_length]; exact HSL.out) hlt] at ho
      have G := Lib.hid (HF2.step HSL.out HST.out)
      obtain ⟨X, hX⟩ : ∃ X : ByteArray, X = ⟨(Tr.txt r).toArray⟩ := ⟨_, rfl⟩
      rw [← hX] at G ⊢
      clear bel2 HF2 hc hrow hX
      go_wp2
      go_roundw
      case rel => exact ⟨k + 1, by omega, by go_num, G.out⟩
      case measure => simp [intOf]; omega
    · obtain rfl : k = n := by omega
      have G : Hid (wr.ownsRow w.heap.size 73 1 (.slice (some ⟨w.heap.size, 0, none⟩) k k) k (strs (f.map Tr.txt)) ∧ Below w.heap.size w wr) := by
        obtain ⟨h1, h2⟩ := HF
        rw [fill_end _ (by rw [strs_length]; exact HSL.out)] at h1
        exact ⟨h1, h2⟩
      clear HF F0
      go_wp2
      go_ret
      exact ⟨rfl, G.out⟩
end Go.Proofs.Ytnnihdkhblbdgaa
/-
  The trees at the places of maps: the program's texts and the model's lists.
-/
namespace Go.Proofs.Ytnnihdkhblbdgaa
open Go.RowKit Fld
set_option linter.unusedVariables false
set_option linter.unusedSimpArgs false
set_option maxRecDepth 100000

def mapTo (k : Nat) : List (List UInt8) := [] :: (treesTo k).map Tr.txt
theorem mapTo_step (k : Nat) : mapTo (k + 1) = mapTo k ++ (Tr.treesL (k + 1)).map Tr.txt := by
  unfold mapTo; rw [treesTo_step, List.map_append, List.cons_append]
theorem mapTo_len (k : Nat) : (mapTo k).length = 1 + (treesTo k).length := by unfold mapTo; rw [List.length_cons, List.length_map]; omega
theorem strs_app9 (a b : List (List UInt8)) : strs a ++ strs b = strs (a ++ b) := by simp [strs]
theorem strs_one9 (l : List (List UInt8)) : ∀ u ∈ strs l, u.oneCell' = true := fun u hu => by
  unfold strs at hu
  rw [List.mem_map] at hu
  obtain ⟨x, _, rfl⟩ := hu
  rfl
set_option maxHeartbeats 2000000 in
theorem mapTrees_any (w : World) : Calls Try.prog 83 #[] w (NewRow 73 38 (strs mapTx) w) := by
  obtain ⟨i0, hi, hz0, hz1, hz2⟩ := info_parts info_tree
  go_enter Try.func83, Try.ntmps83
  go_wp2_with fail
  go_loopw [1, 2] (fun v i wr => ∃ (k q g cap : Nat), k ≤ 6 ∧ v = .slice (some ⟨g, 0, none⟩) q cap ∧ i = .int .i64 ((k : Int) + 1) ∧ Hid (q = (mapTo k).length) ∧ Hid (wr.ownsRow w.heap.size 73 1 (.slice (some ⟨g, 0, none⟩) q cap) q (strs (mapTo k))) ∧ Below w.heap.size w wr ∧ w.heap.size ≤ wr.heap.size) (fun _ i _ => 7 - (intOf i).toNat)
  case atStart => exact ⟨0, 1, w.heap.size, 1, Nat.zero_le _, rfl, rfl, rfl, World.ownsRow_lit (base := w.heap.size) (size := 1) (e := 73) w #[.string ⟨#[]⟩] 1 (Nat.le_refl _) (by simp [maxLen]) rfl, (Below.refl _ _).alloc (Nat.le_refl _) _, by simp⟩
  case round =>
    obtain ⟨k, q, g, cap, hk, rfl, rfl, HQ, HO, HB, hsz⟩ := hrel
    by_cases hlt : k < 6
    · have hq : q ≤ 921 := by
        have h1 := HQ.out
        have h2 := treesTo_len k (by omega)
        rw [mapTo_len] at h1
        omega
      have HBB := Lib.hid HB
      have C1 := treesWith_any (k + 1) wr (by omega) (by omega)
      obtain ⟨ha, h115⟩ := trees_all (n := k + 1) (by omega) (by omega)
      obtain ⟨T, hT⟩ : ∃ T, T = Tr.treesL (k + 1) := ⟨_, rfl⟩
      have HS : Hid (mapTo (k + 1) = mapTo k ++ T.map Tr.txt) := by rw [Hid, hT]; exact mapTo_step k
      rw [← hT] at C1 h115 ha
      have HLV : Hid (∀ r ∈ T, Tr.isLv r = true) := fun r hr => (ha r hr).1
      obtain ⟨N, hN⟩ : ∃ N, N = T.length := ⟨_, rfl⟩
      rw [← hN] at C1 h115
      have HN : Hid (T.length = N) := hN.symm
      have HSL : Hid ((strs (T.map Tr.txt)).length = N * 1) := by rw [Hid, strs_length, List.length_map, Nat.mul_one]; exact hN.symm
      have HQ2 : Hid (q + N = (mapTo (k + 1)).length) := by rw [Hid, HS.out, List.length_append, List.length_map, ← HQ.out, hN]
      clear HB hT hN ha HQ
      go_wp2_with fail
      refine C1.mono ?_
      rintro e w2 ⟨A2, c2, vs2, rfl, own2, bel2⟩
      have hs2 := bel2.size
      have HO2 : Hid (w2.ownsRow w.heap.size 73 1 (.slice (some ⟨g, 0, none⟩) q cap) q (strs (mapTo k))) := ((OwnR.of HO.out).below bel2 (Nat.le_refl _)).1
      have HM2 : Hid (Mat w2 w2.heap.size A2 T) := own2.mat
      have HB2 := Lib.hid (HBB.out.trans (bel2.mono hsz))
      clear own2 bel2 C1 HO
      go_wp2_with fail
      refine (treesOf_any A2 N c2 w2.heap.size T _ HN.out (by omega) HLV.out (Nat.le_refl _) HM2.out).mono ?_
      rintro e w3 ⟨rfl, own3, bel3⟩
      have hs3 := bel3.size
      have hown : w3.ownsRow w.heap.size 73 1 (.slice (some ⟨g, 0, none⟩) q cap) q (strs (mapTo k)) := ((OwnR.of HO2.out).below bel3 (Nat.le_refl _)).1
      have HB3 := Lib.hid (HB2.out.trans (bel3.mono (by omega)))
      have HNEW : Hid (∀ j u, (strs (T.map Tr.txt))[j]? = some u → w3.cell? ((⟨w2.heap.size, 0, none⟩ : Addr).add j) = some u) := row_news (row_of_own own3)
      have HONE := Lib.hid (strs_one9 (T.map Tr.txt))
      obtain ⟨vs, hvs⟩ : ∃ vs, vs = strs (T.map Tr.txt) := ⟨_, rfl⟩
      have HVS := Lib.hid hvs
      rw [← hvs] at HNEW HONE HSL
      clear own3 bel3 HO2 HM2 HB2 hvs
      go_wp2_with (at_builtin; refine wpList_append_own _ rfl (.tmp 8) (.tmp 11) 91 rfl w.heap.size 73 i0 _ 1 16 Try.underlying91 hi hz0 hz1 hz2 rfl (by omega) (.slice (some ⟨g, 0, none⟩) q cap) q (strs (mapTo k)) rfl hown ⟨w2.heap.size, 0, none⟩ N N vs rfl HSL.out HNEW.out HONE.out (by simp only [maxLen]; omega) (by omega) (by omega) ?_; intro v5 w5 own5 hgrow5 _; obtain ⟨g5, c5, rfl⟩ := own_form own5 (by have := HQ2.out; have := mapTo_len (k + 1); omega))
      have e1 : strs (mapTo k) ++ vs = strs (mapTo (k + 1)) := by rw [HVS.out, strs_app9, HS.out]
      rw [e1] at own5
      have GO := Lib.hid own5
      have GB : Hid (Below w.heap.size w w5) := HB3.out.grown hgrow5 (by omega) (fun z hz => (hown.lt z hz).1)
      have hs5 : w.heap.size ≤ w5.heap.size := by have := hgrow5.size; omega
      clear own5 hgrow5 hown e1
      go_wp2
      go_roundw
      case rel => exact ⟨k + 1, q + N, g5, c5, by omega, rfl, by go_num, HQ2, GO, GB.out, hs5⟩
      case measure => simp [intOf]; omega
    · obtain rfl : k = 6 := by omega
      have e : q = 38 := by have := HQ.out; rw [mapTo_len, to_len] at this; exact this
      subst e
      have G : Hid (NewRow 73 38 (strs mapTx) w (.returned (.slice (some ⟨g, 0, none⟩) 38 cap)) wr) := ⟨_, _, rfl, HO.out, HB⟩
      clear HB HQ
      go_wp2
      go_ret
      exact G.out
theorem strs_cell {w : World} {B b : Nat} {l : List (List UInt8)} (h : Row w B (some ⟨b, 0, none⟩) (strs l)) : ∀ k t, l[k]? = some t → w.cell? ⟨b, k, none⟩ = some (.string ⟨t.toArray⟩) := fun k t ht => by
  obtain ⟨b', o', e, _, hc⟩ := h k _ (strs_at ht)
  injection e with e
  injection e with e1 e2 _
  subst e1 e2
  rw [Nat.zero_add] at hc
  exact hc
end Go.Proofs.Ytnnihdkhblbdgaa
/-
  Maps as arrays of the program: blocks of 38 cells.
-/
namespace Go.Proofs.Ytnnihdkhblbdgaa
open Go.RowKit Fld
set_option linter.unusedVariables false
set_option linter.unusedSimpArgs false
set_option maxRecDepth 100000

theorem info_arrM : (Try.prog.info? 78).map (·.size) = some 38 := by kernel_rfl
/-- the cells of a map -/
def arrM (xs : List Int) : Array Value := (ints xs).toArray
theorem arrM_size {xs : List Int} (h : xs.length = 38) : (arrM xs).size = 38 := by simp [arrM, ints_length, h]
theorem arrM_cells (xs : List Int) : (arrM xs).all (·.oneCell') = true := by simp [arrM, ints, intsK, Array.all_eq_true, Value.oneCell']
/-- block g is a map -/
def ArrM (w : World) (g : Nat) (xs : List Int) : Prop := w.heap[g]? = some (.cells (arrM xs) 78 (0, 0))
theorem ArrM.cell {w : World} {g k : Nat} {xs : List Int} {x : Int} (h : ArrM w g xs) (hx : xs[k]? = some x) : w.cell? ⟨g, k, none⟩ = some (.int .i64 x) := by
  rw [cell_of_row w g k _ _ _ h]
  simp [arrM, ints_at hx]
theorem ArrM.free {w : World} {g : Nat} {xs : List Int} (h : ArrM w g xs) (k : Nat) : w.frozen? ⟨g, k, none⟩ = false := frozen_of_row w g k _ _ h
theorem ArrM.lt {w : World} {g : Nat} {xs : List Int} (h : ArrM w g xs) : g < w.heap.size := by
  rcases Nat.lt_or_ge g w.heap.size with h' | h'
  · exact h'
  · unfold ArrM at h; simp [Array.getElem?_eq_none h'] at h
theorem ArrM.store {w : World} {g k : Nat} {xs : List Int} (h : ArrM w g xs) (x : Int) : ArrM (w.setCell ⟨g, k, none⟩ (.int .i64 x)) g (xs.set k x) := by
  have := heap_setCell_same w g k _ _ (.int .i64 x) h
  unfold ArrM
  rw [this]
  simp [arrM, ints, intsK]
theorem ArrM.other {w : World} {g g' k : Nat} {xs : List Int} (h : ArrM w g xs) (hne : g ≠ g') (v : Value) : ArrM (w.setCell ⟨g', k, none⟩ v) g xs := by
  unfold ArrM
  rw [heap_setCell_other w ⟨g', k, none⟩ g v hne]; exact h
theorem ArrM.alloc {w : World} {g : Nat} {xs : List Int} (h : ArrM w g xs) (o : Obj) : ArrM (w.alloc o) g xs := by
  unfold ArrM
  rw [heap_alloc_old w o (ArrM.lt h)]; exact h
theorem ArrM.below {w w' : World} {g B : Nat} {xs : List Int} (h : ArrM w g xs) (hb : Below B w w') (hg : g < B) : ArrM w' g xs := by
  unfold ArrM
  rw [hb.block g hg]; exact h
theorem ArrM.drewN {w : World} {g : Nat} {xs : List Int} (h : ArrM w g xs) (m : Nat) : ArrM (w.drewN m) g xs := h
theorem ArrM.new (w : World) (xs : List Int) : ArrM (w.alloc (.cells (arrM xs) 78)) w.heap.size xs := heap_alloc_new w _
theorem ArrM.next {w : World} {g : Nat} (xs : List Int) (hg : w.heap.size = g) : ArrM (w.alloc (.cells (arrM xs) 78)) g xs := hg ▸ ArrM.new w xs
/-- a mixed list: the first k from us, the others from xs -/
theorem mixP_step {us xs : List Int} {k : Nat} {u : Int} (hk : k < xs.length) (hl : us.length = xs.length) (hu : us[k]? = some u) : (us.take k ++ xs.drop k).set k u = us.take (k + 1) ++ xs.drop (k + 1) := by
  have e1 : (us.take k).length = k := by simp; omega
  rw [List.set_append, if_neg (by omega), e1, Nat.sub_self, List.drop_eq_getElem_cons hk, List.set_cons_zero, List.take_add_one, hu]
  simp
theorem mixP_at {us xs : List Int} {k : Nat} {x : Int} (hl : us.length = xs.length) (hx : xs[k]? = some x) : (us.take k ++ xs.drop k)[k]? = some x := by
  have hk : k < xs.length := by
    rcases Nat.lt_or_ge k xs.length with g | g
    · exact g
    · rw [List.getElem?_eq_none g] at hx; cases hx
  have e1 : (us.take k).length = k := by simp; omega
  rw [List.getElem?_append_right (by omega), e1, Nat.sub_self, List.getElem?_drop, Nat.add_zero]; exact hx
theorem mixP_end {us xs : List Int} {n : Nat} (hl : us.length = n) (hx : xs.length = n) : us.take n ++ xs.drop n = us := by
  rw [List.take_of_length_le (by omega), List.drop_eq_nil_of_le (by omega), List.append_nil]

theorem arrM_two (w : World) (xs ys : List Int) : ArrM ((w.alloc (.cells (arrM xs) 78)).alloc (.cells (arrM ys) 78)) w.heap.size xs ∧ ArrM ((w.alloc (.cells (arrM xs) 78)).alloc (.cells (arrM ys) 78)) (w.heap.size + 1) ys ∧ Below w.heap.size w ((w.alloc (.cells (arrM xs) 78)).alloc (.cells (arrM ys) 78)) :=
  ⟨(ArrM.new w xs).alloc _, ArrM.next ys (by simp), ((Below.refl _ _).alloc (Nat.le_refl _) _).alloc (by simp) _⟩
theorem ArrM.row {w : World} {g : Nat} {xs : List Int} (h : ArrM w g xs) : Row w (g + 1) (some ⟨g, 0, none⟩) (ints xs) := fun k v hv => by
  refine ⟨g, 0, rfl, by omega, ?_⟩
  rw [Nat.zero_add, cell_of_row w g k _ _ _ h]
  simpa [arrM] using hv
theorem spliceM_of {xs : List Int} (hl : xs.length = 38) : splice (ints zero38) 0 (ints xs) = ints xs := by
  have e1 : splice (ints zero38) 0 (ints xs) = ints (xs ++ zero38.drop xs.length) := by
    unfold splice ints intsK; simp [List.map_drop]
  rw [e1, hl]
  show ints (xs ++ []) = _
  rw [List.append_nil]
theorem mixP_keep {us xs : List Int} {k : Nat} {x : Int} (hx : xs[k]? = some x) (hu : us[k]? = some x) : us.take k ++ xs.drop k = us.take (k + 1) ++ xs.drop (k + 1) := by
  have hlt : k < xs.length := by
    rcases Nat.lt_or_ge k xs.length with g | g
    · exact g
    · rw [List.getElem?_eq_none g] at hx; cases hx
  rw [List.getElem?_eq_getElem hlt] at hx
  injection hx with hx
  rw [List.take_add_one, hu, List.drop_eq_getElem_cons hlt, hx]; simp
theorem stillCM {P : Program} {f : FuncId} {args : Array Value} {w : World} {v : Value} (h : Calls P f args w fun e w' => e = .returned v ∧ w = w') : Calls P f args w fun e w' => e = .returned v ∧ w' = w :=
  h.mono fun _ _ ⟨he, hm⟩ => ⟨he, hm.symm⟩
/-- a cell of another block, past a store -/
theorem cell_other {w : World} {b g k : Nat} {o : Nat} {v x : Value} (h : w.cell? ⟨b, o, none⟩ = some x) (hne : b ≠ g) : (w.setCell ⟨g, k, none⟩ v).cell? ⟨b, o, none⟩ = some x :=
  (World.cell?_of_block (heap_setCell_other w ⟨g, k, none⟩ b v hne)).trans h
theorem zero_row {w : World} {lo : Nat} {T : TypeId} {v : Value} (h : w.ownsRow lo T 1 v 38 (madeCells (Value.int .i64 0).cells (38 * 1)).toList) : w.ownsRow lo T 1 v 38 (ints zero38) := by
  have e : (madeCells #[(.int .i64 0 : Value)] 38).toList = ints zero38 := by rw [toList_madeCells_one]; rfl
  exact e ▸ h
theorem info_numM : (Try.prog.info? 51).map (·.size) = some 1 := by kernel_rfl
theorem listM_any (xs : List Int) (w : World) (hl : xs.length = 38) : Calls Try.prog 67 #[.agg (arrM xs)] w (NewRow 2 38 (ints xs) w) := by
  have H0 : Hid (Row (w.alloc (.cells (arrM xs) 78)) (w.heap.size + 1) (some ⟨w.heap.size, 0, none⟩) (ints xs)) := (ArrM.new w xs).row
  have HS := Lib.hid (arrM_size hl)
  have HL := Lib.hid hl
  clear hl
  go_enter Try.func67, Try.ntmps67
  go_wp2_with (go_at_call 103; refine (integersOf_any _ 38 _ (w.heap.size + 1) xs _ HL.out (by omega) (by simp) (by exact H0.out)).mono ?_; rintro e w1 ⟨A1, c1, rfl, own1, bel1⟩)
  go_ret
  exact NewRow.after ((Below.refl _ _).alloc (Nat.le_refl _) _) ⟨A1, c1, rfl, own1, bel1⟩
end Go.Proofs.Ytnnihdkhblbdgaa
/-
  The map that numbers make, the program's.
-/
namespace Go.Proofs.Ytnnihdkhblbdgaa
open Go.RowKit Fld Go.Maps
set_option linter.unusedVariables false
set_option linter.unusedSimpArgs false
set_option maxRecDepth 100000

theorem lawV : WideMaps.KeyLaw Try.prog 73 := WideMaps.string_law Try.underlying73
theorem knN_zero (ns : List Int) : knN ns 0 = fun _ => 0 := by funext y; rfl
theorem ham_start (ns : List Int) : (hamL ns).take 1 ++ zero38.drop 1 = zero38 := by unfold hamL; rfl
theorem Row.restD {w : World} {B b o d : Nat} {m j : Nat} {vs : List Int} (h : Row w B (some ⟨b, o, none⟩) (ints (vs.drop j))) (hm : m + 1 + j = vs.length) (hd : m ≤ d) : Row w B (if d = 0 then some ⟨b, o, none⟩ else some ⟨b, o + 1, none⟩) (ints (vs.drop (j + 1))) := by
  by_cases q : d = 0
  · have e : vs.drop (j + 1) = [] := List.drop_eq_nil_of_le (by omega)
    rw [e]
    intro k v hv
    simp [ints, intsK] at hv
  · rw [if_neg q]
    intro k v hv
    have e : ints (vs.drop (j + 1)) = (ints (vs.drop j)).drop 1 := by simp [ints, intsK, List.map_drop]
    rw [e, List.getElem?_drop] at hv
    obtain ⟨b', o', e9, hb, hc⟩ := h (1 + k) v hv
    injection e9 with e9; injection e9 with e1 e2
    subst e1 e2
    exact ⟨b, o + 1, rfl, hb, by rw [show o + 1 + k = o + (1 + k) by omega]; exact hc⟩
theorem turned_arr {w w' : World} {b g : Nat} {xs : List Int} (h : w.mapTurned w' b) (ha : ArrM w g xs) (hne : g ≠ b) : ArrM w' g xs := by
  obtain ⟨es, clock, es', clock', hb, rfl⟩ := h
  exact (ChangeMaps.heap_setBlock_other hb _ hne).trans ha
theorem sgnP_num (x : List UInt8) : 0 ≤ sgnP x ∧ sgnP x < 10007 := by unfold sgnP; split <;> omega
theorem to_lvX {t : List Int} (h : t ∈ treesTo 6) : Tr.isLv t = true := by
  obtain ⟨q, hq, h9⟩ := to_mem.1 h
  exact ((trees_all (n := q + 1) (by omega) (by omega)).1 _ h9).1
set_option maxHeartbeats 8000000 in
theorem hamiltonian_any (A : Option Addr) (c B : Nat) (ns : List Int) (w : World) (hl : ns.length = 10) (hn : allNum ns = true) (hcp : 10 ≤ c) (hB : B ≤ w.heap.size) (h : Row w B A (ints ns)) :
    Calls Try.prog 65 #[.slice A 10 c] w fun e w' => e = .returned (.agg (arrM (hamL ns))) ∧ Below w.heap.size w w' := by
  have HL := Lib.hid hl
  have HN := Lib.hid hn
  have hmm := @run_makeMap Try.prog
  obtain ⟨V2, hV2⟩ : ∃ V2 : World, V2 = (w.alloc (.cells (arrM zero38) 78)).alloc (.cells (arrM zero38) 78) := ⟨_, rfl⟩
  have s2 : V2.heap.size = w.heap.size + 2 := by rw [hV2]; simp
  have F2 := arrM_two w zero38 zero38
  rw [← hV2] at F2
  have MV := MapV.made V2
  rw [s2] at MV
  obtain ⟨W0, hW0⟩ : ∃ W0 : World, W0 = V2.alloc (.map #[] 0) := ⟨_, rfl⟩
  have S0 : Hid (W0.heap.size = w.heap.size + 3) := by rw [Hid, hW0]; simp; omega
  have A0 : Hid (ArrM W0 w.heap.size zero38) := by rw [hW0]; exact F2.1.alloc _
  have A1 : Hid (ArrM W0 (w.heap.size + 1) zero38) := by rw [hW0]; exact F2.2.1.alloc _
  have FB : Hid (Below w.heap.size w W0) := by rw [hW0]; exact F2.2.2.alloc (by omega) _
  have M0 : Hid (MapV W0 (w.heap.size + 2) 0 (knN ns 0)) := by rw [hW0, knN_zero]; exact MV
  have HR := Lib.hid h
  have R0 : Hid (∀ V, Below w.heap.size w V → Row V B A (ints ns)) := fun V hV => HR.out.below hV hB
  rw [hV2] at hW0
  clear hl hn F2 MV s2 hV2 h HR
  go_enter Try.func65, Try.ntmps65
  go_wp2_with fail
  refine (mapTrees_any _).mono ?_
  rintro e w2 ⟨A2, c2, rfl, own2, bel2⟩
  have B1 : Hid (Below W0.heap.size W0 w2) := by rw [Hid, hW0]; exact bel2
  have hs1 := B1.out.size
  have hs0 := S0.out
  have own3 : w2.ownsRow W0.heap.size 73 1 (.slice A2 38 c2) 38 (strs mapTx) := by rw [hW0]; exact own2
  obtain ⟨g2, rfl⟩ := own_addr own3 (by omega)
  have hcap := (own_cap own3).1
  have hc9 : ¬ c2 = 1 := by omega
  have hg2 : g2 < w2.heap.size := (own3.lt g2 rfl).2
  have hg3 : w.heap.size + 3 ≤ g2 := by have := (own3.lt g2 rfl).1; omega
  have FT : Hid (∀ k t, (treesTo 6)[k]? = some t → w2.cell? ⟨g2, 1 + k, none⟩ = some (.string ⟨(Tr.txt t).toArray⟩)) := fun k t ht => strs_cell (row_of_own own3) (1 + k) (Tr.txt t) (by rw [Nat.add_comm]; unfold mapTx; rw [List.getElem?_cons_succ, List.getElem?_map, ht]; rfl)
  have FX : Hid (ArrM w2 w.heap.size zero38) := A0.out.below B1.out (by omega)
  have FY : Hid (ArrM w2 (w.heap.size + 1) ((hamL ns).take 1 ++ zero38.drop 1)) := by rw [Hid, ham_start]; exact A1.out.below B1.out (by omega)
  have FM : Hid (MapV w2 (w.heap.size + 2) 0 (knN ns 0)) := M0.out.below B1.out (by omega)
  have B3 : Hid (Below w.heap.size w w2) := FB.out.trans (B1.out.mono FB.out.size)
  have RA : Hid (∀ V, Below w.heap.size w V → Row V B A (ints (ns.drop 0))) := R0.out
  clear own2 own3 bel2 A0 A1 B1 hW0 M0 FB R0
  go_wp2_with fail
  go_loopw [0, 11] (fun v i wr => ∃ (k j m d n9 : Nat) (A9 : Option Addr), k ≤ 37 ∧ i = .int .i64 k ∧ v = .slice A9 m d ∧ m + j = 10 ∧ m ≤ d ∧ n9 ≤ k ∧ Hid (j = cntC k) ∧ Hid (∀ V, Below w.heap.size w V → Row V B A9 (ints (ns.drop j))) ∧ Hid (ArrM wr w.heap.size zero38) ∧ Hid (ArrM wr (w.heap.size + 1) ((hamL ns).take (k + 1) ++ zero38.drop (k + 1))) ∧ Hid (MapV wr (w.heap.size + 2) n9 (knN ns k)) ∧ Hid (∀ k t, (treesTo 6)[k]? = some t → wr.cell? ⟨g2, 1 + k, none⟩ = some (.string ⟨(Tr.txt t).toArray⟩)) ∧ g2 < wr.heap.size ∧ Hid (Below w.heap.size w wr)) (fun _ i _ => 37 - (intOf i).toNat)
  case atStart => exact ⟨0, 0, 10, c, 0, A, Nat.zero_le _, rfl, rfl, rfl, hcp, Nat.le_refl _, rfl, RA, FX, FY, FM, FT, hg2, B3⟩
  case round =>
    clear FX FY FM FT B3 RA hg2
    obtain ⟨k, j, m, d, n9, A9, hk, rfl, rfl, hm, hmd, hn9, HJ, HR, HX, HY, HM, HT, hg, HB⟩ := hrel
    by_cases hlt : k < 37
    · have hlti : (k : Int) < 37 := by omega
      have k0 : (0 : Int) ≤ (k : Int) := Int.natCast_nonneg _
      have k1 : (0 : Int) ≤ (k : Int) + 1 := by omega
      have k2 : (k : Int) + 1 < 38 := by omega
      have ew : IntKind.i64.wrap ((k : Int) + 1) = (k : Int) + 1 := IntWalk.i64_in _ (by omega)
      have en : ((k : Int) + 1).toNat = k + 1 := by omega
      obtain ⟨t, ht⟩ := at_lt (show k < (treesTo 6).length by rw [to_len]; exact hlt)
      have hct := HT.out k t ht
      have hlv : Tr.isLv t = true := to_lvX (List.mem_of_getElem? ht)
      have HTT := Lib.hid ht
      have HLV := Lib.hid hlv
      have CF := fun V => isFree_any (Tr.txt t) V (Tr.tx_txt hlv)
      have EK : Hid (condT (Tr.txt t) = keepC t) := rfl
      obtain ⟨X, hX⟩ : ∃ X : ByteArray, X = ⟨(Tr.txt t).toArray⟩ := ⟨_, rfl⟩
      have HXX := Lib.hid hX
      simp only [← hX, EK.out] at CF hct
      clear ht hlv hX
      cases hkp : keepC t
      · rw [hkp] at CF
        clear EK
        go_wp2_with fail
        refine (CF _).mono ?_
        rintro e w3 ⟨rfl, b3⟩
        have HN2 := Lib.hid (knN_no (ns := ns) HTT.out hkp)
        have HJ2 : Hid (j = cntC (k + 1)) := by have := cntC_step HTT.out; rw [hkp] at this; rw [Hid, this, HJ.out]; rfl
        have HX3 := Lib.hid (HX.out.below b3 HX.out.lt)
        have HY3 := Lib.hid (HY.out.below b3 HY.out.lt)
        have HM3 : Hid (MapV w3 (w.heap.size + 2) n9 (knN ns (k + 1))) := by rw [HN2.out]; exact HM.out.next b3
        have HT3 : Hid (∀ k t, (treesTo 6)[k]? = some t → w3.cell? ⟨g2, 1 + k, none⟩ = some (.string ⟨(Tr.txt t).toArray⟩)) := fun k t ht => (b3.cell (p := ⟨g2, 1 + k, none⟩) hg).trans (HT.out k t ht)
        have hg4 : g2 < w3.heap.size := Nat.lt_of_lt_of_le hg b3.size
        have HB3 := Lib.hid (HB.out.trans (b3.mono HB.out.size))
        have HR0 : True := trivial
        clear b3 CF HN2 HJ
        have HS3 := Lib.hid (HB3.out.size)
        clear HX HY HM HT HB hg HR0 hct
        obtain ⟨e1, p2, p3, p4, _, _, p7, p8⟩ := ham_parts HTT.out HN.out
        have HE1 := Lib.hid e1
        obtain ⟨s0, s1⟩ := sgnP_num (Tr.txt t)
        have CS := fun V => freeSign_any t V HLV.out p2 p3 p4
        have CFF := fun V => freeForm_any (Tr.txt t) V (Tr.tx_txt HLV.out)
        have hlen := (lv_txt HLV.out).2.2.2
        obtain ⟨t1, t8⟩ := lv_bd HLV.out
        have hrl : (rootsT (Tr.txt t)).length = (Tr.txt t).length / 2 := rootsT_len _
        have hmin := (Tr.br_parts (roots_tx (Tr.tx_txt HLV.out) _ (minT_in (ss := rootsT (Tr.txt t)) (by rw [hrl]; omega)))).1.2
        have HKEY := Lib.hid (keyTxV (x := minT (rootsT (Tr.txt t))) (by omega))
        simp only [← HXX.out] at CS CFF
        obtain ⟨Z, hZ⟩ : ∃ Z : ByteArray, Z = ⟨(minT (rootsT (Tr.txt t))).toArray⟩ := ⟨_, rfl⟩
        simp only [← hZ] at CFF HKEY
        obtain ⟨sg, hsg⟩ : ∃ sg, sg = sgnP (Tr.txt t) := ⟨_, rfl⟩
        obtain ⟨kn, hkn⟩ : ∃ kn, kn = knN ns (k + 1) (minT (rootsT (Tr.txt t))) := ⟨_, rfl⟩
        have HKN := Lib.hid hkn
        simp only [← hsg] at CS s0 s1 HE1
        simp only [← hkn] at HE1 p7 p8
        clear e1 hlen t1 t8 hrl hmin p2 p3 p4 hZ hsg hkn
        go_wp2_with fail
        refine (CS _).mono ?_
        rintro e w4 ⟨rfl, b4⟩
        go_wp2_with fail
        refine (CFF _).mono ?_
        rintro e w5 ⟨rfl, b5⟩
        have b45 : Below w3.heap.size w3 w5 := b4.trans (b5.mono b4.size)
        have HX5 := Lib.hid (HX3.out.below b45 (by have := HS3.out; have := HX3.out.lt; omega))
        have HY5 := Lib.hid (HY3.out.below b45 (by have := HY3.out.lt; omega))
        have HM5 := Lib.hid (HM3.out.next b45)
        have HT5 : Hid (∀ k t, (treesTo 6)[k]? = some t → w5.cell? ⟨g2, 1 + k, none⟩ = some (.string ⟨(Tr.txt t).toArray⟩)) := fun k t ht => (b45.cell (p := ⟨g2, 1 + k, none⟩) hg4).trans (HT3.out k t ht)
        have HB5 := Lib.hid (HB3.out.trans (b45.mono HS3.out))
        have hg5 : g2 < w5.heap.size := Nat.lt_of_lt_of_le hg4 b45.size
        obtain ⟨D, hown, hD⟩ := HM5.out
        obtain ⟨c0, hrun, hat, _⟩ := hown.lookup_int (t := 89) (e := 51) (q := .i64) keyedV Try.underlying89 Try.underlying51 (zeroNum _) HKEY.out
        obtain rfl : c0 = kn := by have h9 := hat.symm.trans (hD (minT (rootsT (Tr.txt t)))); rw [← HKN.out] at h9; simpa using h9
        have hf := HY5.out.free (k + 1)
        obtain ⟨y, hy⟩ := at_lt (show k + 1 < zero38.length by show k + 1 < 38; omega)
        have hc5 := HY5.out.cell (mixP_at (us := hamL ns) (by rw [hamL_length]; rfl) hy)
        have GY : Hid (ArrM (w5.setCell ⟨w.heap.size + 1, k + 1, none⟩ (.int .i64 (hamAt ns t))) (w.heap.size + 1) ((hamL ns).take (k + 1 + 1) ++ zero38.drop (k + 1 + 1))) := by
          have := HY5.out.store (k := k + 1) (hamAt ns t)
          rw [mixP_step (show k + 1 < 38 by omega) (by rw [hamL_length]; rfl) (hamL_at HTT.out)] at this
          exact this
        have GX : Hid (ArrM (w5.setCell ⟨w.heap.size + 1, k + 1, none⟩ (.int .i64 (hamAt ns t))) w.heap.size zero38) := HX5.out.other (by omega) _
        have GM : Hid (MapV (w5.setCell ⟨w.heap.size + 1, k + 1, none⟩ (.int .i64 (hamAt ns t))) (w.heap.size + 2) n9 (knN ns (k + 1))) := ⟨D, hown.setCell (by show w.heap.size + 2 ≠ w.heap.size + 1; omega) _, hD⟩
        have GT : Hid (∀ j t', (treesTo 6)[j]? = some t' → (w5.setCell ⟨w.heap.size + 1, k + 1, none⟩ (.int .i64 (hamAt ns t))).cell? ⟨g2, 1 + j, none⟩ = some (.string ⟨(Tr.txt t').toArray⟩)) := fun j t' ht' => cell_other (HT5.out j t' ht') (by omega)
        have GB : Hid (Below w.heap.size w (w5.setCell ⟨w.heap.size + 1, k + 1, none⟩ (.int .i64 (hamAt ns t)))) := below_set HB5.out (by omega) _
        have GG : g2 < (w5.setCell ⟨w.heap.size + 1, k + 1, none⟩ (.int .i64 (hamAt ns t))).heap.size := by simpa using hg5
        clear hown hat hD HX5 HY5 HM5 HT5 HB5 HX3 HY3 HM3 HT3 HB3 b45 b4 b5 CS CFF HKEY HKN hg4 hg5 HS3 hy
        go_wp2_with fail
        refine (times_any sg _ _ s0 s1 p7 p8).mono ?_
        rintro e w' ⟨rfl, rfl⟩
        rw [HE1.out]
        clear HE1 s0 s1 p7 p8
        go_wp2
        go_roundw
        case rel => exact ⟨k + 1, j, m, d, n9, A9, by omega, by go_num, rfl, hm, hmd, by omega, HJ2, HR, GX, GY, GM, GT, GG, GB⟩
        case measure => simp [intOf]; omega
      · rw [hkp] at CF
        clear EK
        go_wp2_with fail
        refine (CF _).mono ?_
        rintro e w3 ⟨rfl, b3⟩
        have hj10 : j < 10 := by rw [HJ.out]; exact cntC_less HTT.out hkp
        have HJ2 : Hid (j + 1 = cntC (k + 1)) := by have := cntC_step HTT.out; rw [hkp] at this; rw [Hid, this, HJ.out]; rfl
        have HY2 := Lib.hid (knN_yes (ns := ns) HTT.out hkp)
        have hbw := HB.out.trans (b3.mono HB.out.size)
        obtain ⟨m, rfl⟩ : ∃ m', m = m' + 1 := ⟨m - 1, by omega⟩
        obtain ⟨d, rfl⟩ : ∃ d', d = d' + 1 := ⟨d - 1, by omega⟩
        obtain ⟨x, hx⟩ := at_lt (show j < ns.length by rw [HL.out]; exact hj10)
        obtain ⟨x0, x1⟩ := num_at HN.out hx
        have hwf : (Lit.int .i64 x).wf = true := by simp [Lit.wf, IntKind.min, IntKind.max, IntKind.signed, IntKind.bits]; omega
        obtain ⟨bn, on, rfl, hbn, hcn⟩ := HR.out w3 hbw 0 _ (ints_at (show (ns.drop j)[0]? = some x by rw [List.getElem?_drop]; exact hx))
        have HX2 : Hid (ns.getD (cntC k) 0 = x) := by rw [Hid, ← HJ.out, List.getD_eq_getElem?_getD, hx]; rfl
        obtain ⟨A10, hA10⟩ : ∃ A10, (if d = 0 then some (⟨bn, on, none⟩ : Addr) else some ⟨bn, on + 1, none⟩) = A10 := ⟨_, rfl⟩
        have HR2 : Hid (∀ V, Below w.heap.size w V → Row V B A10 (ints (ns.drop (j + 1)))) := fun V hV => hA10 ▸ (HR.out V hV).restD (m := m) (by rw [HL.out]; omega) (by omega)
        obtain ⟨D, hown, hD⟩ := HM.out.next b3
        have hmap := hown.isMap
        have hkey := keyTxV (x := Tr.txt t) (by have := (Tr.br_parts (Tr.tx_txt HLV.out)).1.2; omega)
        rw [← HXX.out] at hkey
        have HDP := Lib.hid (HoldsV.put (x := Tr.txt t) (c := x) hD hmap)
        have HME : Hid (∃ (v0 : Value) (st : Nat) (w1 : World), (Instr.mapEntry 89 (.map (some (w.heap.size + 1 + 1))) (.string X)).run Try.prog w3.drew = .ok (.tuple #[v0, goInt st]) w1 ∧ w3.drew.mapTurned w1 (w.heap.size + 2) ∧
            ∃ w', (Instr.entryStore 89 (.map (some (w.heap.size + 1 + 1))) (.int .i64 (st : Int)) (.int .i64 x)).run Try.prog w1 = .ok () w' ∧ w'.ownsMap Try.prog 73 (plainElem Try.prog 51) (w.heap.size + 2) (n9 + 1) (D.put (.string (Tr.txt t)) (.lit (.int .i64 x))) ∧ w3.drew.mapTurned w' (w.heap.size + 2)) := by
          obtain ⟨v0, st, w1, q1, q2, q3⟩ := ownsMap_entry (ownsMap_below hown (Below.refl _ _).drew hown.lt) lawV keyedV Try.underlying89 (by unfold maxLen; omega) zeroNum hkey
          exact ⟨v0, st, w1, q1, q2, q3 _ _ _ (plainElem_int Try.underlying51 hwf)⟩
        have HK : Hid (∀ W', Below w3.heap.size w3 W' → W'.cell? ⟨bn, on, none⟩ = some (.int .i64 x)) := fun W' hb => (hb.cell (p := ⟨bn, on, none⟩) (World.block_lt_of_cell? w3 _ hcn)).trans hcn
        have HNE : Hid (some bn ≠ some (w.heap.size + 2)) := fun e => by have := Option.some.inj e; omega
        have HBW := Lib.hid hbw
        have HB39 := Lib.hid b3
        have m1 : (1 : Int) ≤ (m : Int) + 1 := by omega
        clear hown hD hmap hkey hwf hx HR HM HJ hbw b3 hj10 CF hct
        go_wp2_with fail
        have hk0 : w3.drew.cell? ⟨bn, on, none⟩ = some (.int .i64 x) := HK.out _ (Below.refl _ _).drew
        go_region_held3 (fun V => V.cell? ⟨bn, on, none⟩ = some (.int .i64 x)) (first | exact hk0 | go_keep | exact World.grownBy.cell hm4.grown hk0 HNE.out | exact World.grownBy.cell hm6.grown hk0 HNE.out)
          (first
            | (obtain ⟨v0, st, w4, hent, hm4, w6, hsto, hown6, hm6⟩ := HME.out; rw [hent]; go_simp)
            | (rw [hsto]; go_simp))
        have HX3 : Hid (ArrM w6 w.heap.size zero38) := turned_arr hm6 (HX.out.below HB39.out.drew HX.out.lt) (by omega)
        have HY3 : Hid (ArrM w6 (w.heap.size + 1) ((hamL ns).take (k + 1) ++ zero38.drop (k + 1))) := turned_arr hm6 (HY.out.below HB39.out.drew HY.out.lt) (by omega)
        have HM3 : Hid (MapV w6 (w.heap.size + 2) (n9 + 1) (knN ns (k + 1))) := ⟨_, hown6, by rw [HY2.out, HX2.out]; exact HDP.out⟩
        have HT3 : Hid (∀ k t, (treesTo 6)[k]? = some t → w6.cell? ⟨g2, 1 + k, none⟩ = some (.string ⟨(Tr.txt t).toArray⟩)) := fun k t ht => World.grownBy.cell hm6.grown ((HB39.out.drew.cell (p := ⟨g2, 1 + k, none⟩) hg).trans (HT.out k t ht)) (fun e => by have : g2 = w.heap.size + 2 := Option.some.inj e; omega)
        have hg4 : g2 < w6.heap.size := Nat.lt_of_lt_of_le hg (Nat.le_trans HB39.out.drew.size hm6.grown.size)
        have HB3 : Hid (Below w.heap.size w w6) := HBW.out.drew.grown hm6.grown (by have := HBW.out.size; show w.heap.size ≤ w3.heap.size; omega) (fun z hz => by have := Option.some.inj hz; omega)
        clear hown6 hm6 hm4 hent hsto hk0 HBW HB39 HK HNE HDP HX2 HY2 HME hcn hA10 hbn
        have HS3 := Lib.hid (HB3.out.size)
        clear HX HY HT HB hg
        obtain ⟨e1, p2, p3, p4, _, _, p7, p8⟩ := ham_parts HTT.out HN.out
        have HE1 := Lib.hid e1
        obtain ⟨s0, s1⟩ := sgnP_num (Tr.txt t)
        have CS := fun V => freeSign_any t V HLV.out p2 p3 p4
        have CFF := fun V => freeForm_any (Tr.txt t) V (Tr.tx_txt HLV.out)
        have hlen := (lv_txt HLV.out).2.2.2
        obtain ⟨t1, t8⟩ := lv_bd HLV.out
        have hrl : (rootsT (Tr.txt t)).length = (Tr.txt t).length / 2 := rootsT_len _
        have hmin := (Tr.br_parts (roots_tx (Tr.tx_txt HLV.out) _ (minT_in (ss := rootsT (Tr.txt t)) (by rw [hrl]; omega)))).1.2
        have HKEY := Lib.hid (keyTxV (x := minT (rootsT (Tr.txt t))) (by omega))
        simp only [← HXX.out] at CS CFF
        obtain ⟨Z, hZ⟩ : ∃ Z : ByteArray, Z = ⟨(minT (rootsT (Tr.txt t))).toArray⟩ := ⟨_, rfl⟩
        simp only [← hZ] at CFF HKEY
        obtain ⟨sg, hsg⟩ : ∃ sg, sg = sgnP (Tr.txt t) := ⟨_, rfl⟩
        obtain ⟨kn, hkn⟩ : ∃ kn, kn = knN ns (k + 1) (minT (rootsT (Tr.txt t))) := ⟨_, rfl⟩
        have HKN := Lib.hid hkn
        simp only [← hsg] at CS s0 s1 HE1
        simp only [← hkn] at HE1 p7 p8
        clear e1 hlen t1 t8 hrl hmin p2 p3 p4 hZ hsg hkn
        go_wp2_with fail
        refine (CS _).mono ?_
        rintro e w4 ⟨rfl, b4⟩
        go_wp2_with fail
        refine (CFF _).mono ?_
        rintro e w5 ⟨rfl, b5⟩
        have b45 : Below w6.heap.size w6 w5 := b4.trans (b5.mono b4.size)
        have HX5 := Lib.hid (HX3.out.below b45 (by have := HS3.out; have := HX3.out.lt; omega))
        have HY5 := Lib.hid (HY3.out.below b45 (by have := HY3.out.lt; omega))
        have HM5 := Lib.hid (HM3.out.next b45)
        have HT5 : Hid (∀ k t, (treesTo 6)[k]? = some t → w5.cell? ⟨g2, 1 + k, none⟩ = some (.string ⟨(Tr.txt t).toArray⟩)) := fun k t ht => (b45.cell (p := ⟨g2, 1 + k, none⟩) hg4).trans (HT3.out k t ht)
        have HB5 := Lib.hid (HB3.out.trans (b45.mono HS3.out))
        have hg5 : g2 < w5.heap.size := Nat.lt_of_lt_of_le hg4 b45.size
        obtain ⟨D, hown, hD⟩ := HM5.out
        obtain ⟨c0, hrun, hat, _⟩ := hown.lookup_int (t := 89) (e := 51) (q := .i64) keyedV Try.underlying89 Try.underlying51 (zeroNum _) HKEY.out
        obtain rfl : c0 = kn := by have h9 := hat.symm.trans (hD (minT (rootsT (Tr.txt t)))); rw [← HKN.out] at h9; simpa using h9
        have hf := HY5.out.free (k + 1)
        obtain ⟨y, hy⟩ := at_lt (show k + 1 < zero38.length by show k + 1 < 38; omega)
        have hc5 := HY5.out.cell (mixP_at (us := hamL ns) (by rw [hamL_length]; rfl) hy)
        have GY : Hid (ArrM (w5.setCell ⟨w.heap.size + 1, k + 1, none⟩ (.int .i64 (hamAt ns t))) (w.heap.size + 1) ((hamL ns).take (k + 1 + 1) ++ zero38.drop (k + 1 + 1))) := by
          have := HY5.out.store (k := k + 1) (hamAt ns t)
          rw [mixP_step (show k + 1 < 38 by omega) (by rw [hamL_length]; rfl) (hamL_at HTT.out)] at this
          exact this
        have GX : Hid (ArrM (w5.setCell ⟨w.heap.size + 1, k + 1, none⟩ (.int .i64 (hamAt ns t))) w.heap.size zero38) := HX5.out.other (by omega) _
        have GM : Hid (MapV (w5.setCell ⟨w.heap.size + 1, k + 1, none⟩ (.int .i64 (hamAt ns t))) (w.heap.size + 2) (n9 + 1) (knN ns (k + 1))) := ⟨D, hown.setCell (by show w.heap.size + 2 ≠ w.heap.size + 1; omega) _, hD⟩
        have GT : Hid (∀ j t', (treesTo 6)[j]? = some t' → (w5.setCell ⟨w.heap.size + 1, k + 1, none⟩ (.int .i64 (hamAt ns t))).cell? ⟨g2, 1 + j, none⟩ = some (.string ⟨(Tr.txt t').toArray⟩)) := fun j t' ht' => cell_other (HT5.out j t' ht') (by omega)
        have GB : Hid (Below w.heap.size w (w5.setCell ⟨w.heap.size + 1, k + 1, none⟩ (.int .i64 (hamAt ns t)))) := below_set HB5.out (by omega) _
        have GG : g2 < (w5.setCell ⟨w.heap.size + 1, k + 1, none⟩ (.int .i64 (hamAt ns t))).heap.size := by simpa using hg5
        clear hown hat hD HX5 HY5 HM5 HT5 HB5 HX3 HY3 HM3 HT3 HB3 b45 b4 b5 CS CFF HKEY HKN hg4 hg5 HS3 hy
        go_wp2_with fail
        refine (times_any sg _ _ s0 s1 p7 p8).mono ?_
        rintro e w' ⟨rfl, rfl⟩
        rw [HE1.out]
        clear HE1 s0 s1 p7 p8
        go_wp2
        go_roundw
        case rel => exact ⟨k + 1, j + 1, m, d, n9 + 1, A10, by omega, by go_num, rfl, by omega, by omega, by omega, HJ2, HR2, GX, GY, GM, GT, GG, GB⟩
        case measure => simp [intOf]; omega
    · obtain rfl : k = 37 := by omega
      have HS := Lib.hid (hamL_length ns)
      have GX : Hid (ArrM wr (w.heap.size + 1) (hamL ns)) := by
        have h9 := HY.out
        rw [show (hamL ns).take (37 + 1) ++ zero38.drop (37 + 1) = hamL ns from mixP_end (n := 38) (hamL_length ns) rfl] at h9
        exact h9
      clear HY HM HT HR HJ
      go_wp2_with (first
        | (refine wpList_load_row rfl 78 (.tmp 3) rfl (w.heap.size + 1) rfl 78 (arrM (hamL ns)) (0, 0) _ GX.out Try.underlying78 rfl (by rw [arrM_size HS.out]; exact info_arrM) ?_)
        | (refine wpList_store_row rfl 78 (.tmp 2) (.tmp 38) rfl w.heap.size (arrM (hamL ns)) rfl rfl 78 (arrM zero38) HX.out (by rw [arrM_size HS.out]; exact info_arrM) (by rw [arrM_size HS.out]; rfl) (arrM_cells _) ?_))
      refine bodyPost_ret (v := .agg (arrM (hamL ns))) ?_ rfl ⟨rfl, below_setRow HB.out (Nat.le_refl _) _⟩
      exact results_cell_row rfl _ _ w.heap.size 78 _ (0, 0) _ rfl (setRow_heap _ _ _ _ _ _ HX.out) Try.underlying78 rfl (by rw [arrM_size HS.out]; exact info_arrM)
end Go.Proofs.Ytnnihdkhblbdgaa
/-
  All free conditions with at most MaxOrder nodes, the model's.
-/
namespace Go.Proofs.Ytnnihdkhblbdgaa
open Go.RowKit Fld
set_option linter.unusedVariables false
set_option linter.unusedSimpArgs false
set_option maxRecDepth 100000

theorem InF.app {lo g g2 g5 : Nat} {wr w2 w5 : World} {C C2 : List Value} {m m2 : List (List Int)} (h : InF lo wr g C m) (hb : Below wr.heap.size wr w2) (k : InF wr.heap.size w2 g2 C2 m2) (hg : w2.grownBy w5 (some g)) (h5 : g5 = g ∨ g5 = w2.heap.size) (hl : g < wr.heap.size) (hlo : lo ≤ wr.heap.size) :
    InF lo w5 g5 (C ++ C2) (m ++ m2) := by
  have hs := hb.size
  have hs2 := hg.size
  refine ⟨by rw [List.length_append, List.length_append, h.1, k.1], fun j r hr => ?_⟩
  by_cases hj : j < m.length
  · rw [List.getElem?_append_left hj] at hr
    obtain ⟨b, o, c, e, q1, q2, q3, q4, q5, q6⟩ := h.2 j r hr
    refine ⟨b, o, c, by rw [List.getElem?_append_left (by rw [h.1]; exact hj)]; exact e, q1, by omega, by rcases h5 with z | z <;> omega, q4, q5, fun i x hx => ?_⟩
    exact hg.cell (a := ⟨b, o + i, none⟩) ((hb.cell (p := ⟨b, o + i, none⟩) q2).trans (q6 i x hx)) (fun z => q3 (by injection z))
  · rw [List.getElem?_append_right (by omega)] at hr
    obtain ⟨b, o, c, e, q1, q2, q3, q4, q5, q6⟩ := k.2 _ r hr
    refine ⟨b, o, c, by rw [List.getElem?_append_right (by rw [h.1]; omega), h.1]; exact e, by omega, by omega, by rcases h5 with z | z <;> omega, q4, q5, fun i x hx => ?_⟩
    exact hg.cell (a := ⟨b, o + i, none⟩) (q6 i x hx) (fun z => by have : b = g := by injection z
                                                                   omega)
theorem InF.next {lo g : Nat} {w w' : World} {C : List Value} {m : List (List Int)} (h : InF lo w g C m) (hb : Below w.heap.size w w') : InF lo w' g C m :=
  ⟨h.1, fun j r hr => by
    obtain ⟨b, o, c, e, q1, q2, q3, q4, q5, q6⟩ := h.2 j r hr
    exact ⟨b, o, c, e, q1, Nat.lt_of_lt_of_le q2 hb.size, q3, q4, q5, fun i x hx => (hb.cell (p := ⟨b, o + i, none⟩) q2).trans (q6 i x hx)⟩⟩
theorem InF.mat {lo g base q c : Nat} {w : World} {C : List Value} {m : List (List Int)} (h : InF lo w g C m) (ho : w.ownsRow base 23 1 (.slice (some ⟨g, 0, none⟩) q c) q C) : Mat w w.heap.size (some ⟨g, 0, none⟩) m := by
  intro j r hr
  obtain ⟨b, o, c', e, q1, q2, q3, q4, q5, q6⟩ := h.2 j r hr
  obtain ⟨b2, o2, e2, hb2, hc2⟩ := row_of_own ho j _ e
  refine ⟨b2, o2, _, c', e2, hb2, hc2, q4, q5, fun k v hv => ?_⟩
  obtain ⟨x, hx, rfl⟩ : ∃ x, r[k]? = some x ∧ v = .int .i64 x := by
    unfold ints intsK at hv
    rw [List.getElem?_map, Option.map_eq_some_iff] at hv
    obtain ⟨x, hx, rfl⟩ := hv
    exact ⟨x, hx, rfl⟩
  exact ⟨b, o, rfl, q2, q6 k x hx⟩
/-- an append of an empty slice -/
theorem wpList_append_empty {P : Program} {w : World} {ops : Array Oper} {rest : List Oper} {o : Oper} {a : Act} {Q : Exit → Act → World → Prop}
    (hg : o.guard = none) (s x : Operand) (t : TypeId) (hop : o.op = Op.call { callee := Callee.builtin Builtin.append, args := #[s, x], argTypes := #[t, t] })
    (e : TypeId) (i : TypeInfo) (ht : P.underlying t = some (.slice e)) (hi : P.info? e = some i)
    (b n c : Nat) (hc : n ≤ c) (hs : a.eval s = .slice (some ⟨b, 0, none⟩) n c) (ad : Addr) (c2 : Nat) (hx : a.eval x = .slice (some ad) 0 c2)
    (hK : wpList P ops Q rest (a.put o.dst (.slice (some ⟨b, 0, none⟩) n c)) w) : wpList P ops Q (o :: rest) a w := by
  refine wpList_plain hg fun K hK' => ?_
  have hrun := run_append_room_cells (P := P) w t o.type e i ht hi b 0 n c ad 0 c2 [] (by simp) (fun j u hu => by simp at hu) (fun u hu => by simp at hu) (by omega) (fun j hj => by simp at hj) (fun j hj => by simp at hj)
  unfold Oper.wp
  simp [execOp, hop, resolve, invoke, builtin, hs, hx, hrun, Result.andThen]
  exact hK' _ _ hK
theorem freeM_two : freeM 2 = [] := by decide +kernel
theorem freeM_some : ∀ n, n < 6 → n ≠ 1 → 0 < (freeM (n + 1)).length := by
  have h : ((List.range 6).all fun n => decide (n = 1) || decide (0 < (freeM (n + 1)).length)) = true := by decide +kernel
  intro n hn h1
  have := List.all_eq_true.1 h n (List.mem_range.2 hn)
  rw [decide_eq_false h1, Bool.false_or] at this
  exact of_decide_eq_true this
theorem condTo_bd (k : Nat) (h : k ≤ 6) : (condTo k).length ≤ 10 := by
  have h2 : ((List.range 7).all fun n => decide ((condTo n).length ≤ 10)) = true := by decide +kernel
  exact of_decide_eq_true (List.all_eq_true.1 h2 k (List.mem_range.2 (by omega)))
set_option maxHeartbeats 4000000 in
theorem l12All_any (w : World) : Calls Try.prog 99 #[] w fun e w' => ∃ g c, e = .returned (.slice (some ⟨g, 0, none⟩) 10 c) ∧ Mat w' w'.heap.size (some ⟨g, 0, none⟩) conds ∧ Below w.heap.size w w' := by
  obtain ⟨j0, hj, hy0, hy1, hy2⟩ := info_parts info_row
  have S0 := Lib.hid (Growing.start w 23)
  go_enter Try.func99, Try.ntmps99
  go_wp2_with fail
  go_loopw [1, 2] (fun v i wr => ∃ (n q g cap : Nat) (C : List Value), v = .slice (some ⟨g, 0, none⟩) q cap ∧ i = .int .i64 ((n + 1 : Nat) : Int) ∧ n ≤ 6 ∧ Hid (q = (condTo n).length) ∧ Hid (wr.ownsRow w.heap.size 23 1 (.slice (some ⟨g, 0, none⟩) q cap) q C) ∧ Hid (InF w.heap.size wr g C (condTo n)) ∧ Hid (Below w.heap.size w wr)) (fun _ i _ => 7 - (intOf i).toNat)
  case atStart => exact ⟨0, 0, _, 0, [], rfl, rfl, by omega, rfl, S0.out.1, ⟨rfl, fun j r hr => by simp [condTo, treesTo] at hr⟩, S0.out.2⟩
  case round =>
    obtain ⟨n, q, g, cap, C, rfl, rfl, hn, HQ, HO, HF, HB⟩ := hrel
    by_cases hlt : n < 6
    · have hle : ((n + 1 : Nat) : Int) ≤ 6 := by omega
      have hsz := HB.out.size
      have hgl := (HO.out.lt g rfl).2
      have HST := Lib.hid (condTo_step n)
      have hq10 : q ≤ 10 := by rw [HQ.out]; exact condTo_bd n hn
      go_wp2_with fail
      refine (l12Free_any (n + 1) _ (by omega) (by omega)).mono ?_
      rintro e w2 ⟨g2, c2, C2, rfl, own2, _, hF2, bel2⟩
      have hs2 := bel2.size
      by_cases h1 : n = 1
      · subst h1
        have e0 : freeM (1 + 1) = [] := freeM_two
        have HO2 : Hid (w2.ownsRow w.heap.size 23 1 (.slice (some ⟨g, 0, none⟩) q cap) q C) := ((OwnR.of HO.out).below bel2 (Nat.le_refl _)).1
        have GF : Hid (InF w.heap.size w2 g C (condTo (1 + 1))) := by rw [HST.out, e0, List.append_nil]; exact HF.out.next bel2
        have GQ : Hid (q = (condTo (1 + 1)).length) := by rw [Hid, HST.out, e0, List.append_nil]; exact HQ.out
        have GB := Lib.hid (HB.out.trans (bel2.mono hsz))
        have hcq := (own_cap HO.out).1
        rw [e0]
        clear own2 hF2 bel2 HO HF HB HQ e0
        go_wp2_with (at_builtin; refine wpList_append_empty rfl (.tmp 8) (.tmp 10) 22 rfl 23 j0 Try.underlying22 hj g q cap hcq rfl ⟨g2, 0, none⟩ c2 rfl ?_)
        go_roundw
        case rel => exact ⟨1 + 1, q, g, cap, C, rfl, by go_num, by omega, GQ, HO2, GF, GB⟩
        case measure => simp [intOf]
      · have hpos := freeM_some n hlt h1
        obtain ⟨N, hN⟩ : ∃ N, N = (freeM (n + 1)).length := ⟨_, rfl⟩
        have hN10 : N + q ≤ 10 := by rw [hN, HQ.out]; have := condTo_bd (n + 1) (by omega); rw [HST.out, List.length_append] at this; omega
        have HNL : Hid (C2.length = N * 1) := by rw [Hid, hF2.1, hN, Nat.mul_one]
        have HNEW : Hid (∀ j u, C2[j]? = some u → w2.cell? ((⟨g2, 0, none⟩ : Addr).add j) = some u) := fun j u hu => own2.cells rfl j u hu
        have HONE : Hid (∀ u ∈ C2, u.oneCell' = true) := fun u hu => by
          obtain ⟨j, hj⟩ := List.mem_iff_getElem?.1 hu
          have hjl : j < (freeM (n + 1)).length := by rw [← hF2.1]; exact (List.getElem?_eq_some_iff.1 hj).1
          obtain ⟨r, hr⟩ := at_lt hjl
          obtain ⟨b, o, c, e, _⟩ := hF2.2 j r hr
          rw [hj] at e
          rw [Option.some.inj e]
          try rfl
        have HO2 : Hid (w2.ownsRow w.heap.size 23 1 (.slice (some ⟨g, 0, none⟩) q cap) q C) := ((OwnR.of HO.out).below bel2 (Nat.le_refl _)).1
        have HF2 := Lib.hid hF2
        have HB2 := Lib.hid (HB.out.trans (bel2.mono hsz))
        have HBW := Lib.hid bel2
        have HQ2 : Hid (q + N = (condTo (n + 1)).length) := by rw [Hid, HST.out, List.length_append, ← HQ.out, hN]
        rw [← hN] at hpos
        have HN := Lib.hid hN
        clear own2 hF2 bel2
        rw [← hN]
        clear hN
        go_wp2_with (at_builtin; refine wpList_append_lies _ rfl (.tmp 8) (.tmp 10) 22 rfl w.heap.size 23 j0 _ 1 24 Try.underlying22 hj hy0 hy1 hy2 rfl (by omega) (.slice (some ⟨g, 0, none⟩) q cap) q C rfl HO2.out ⟨g2, 0, none⟩ N c2 C2 rfl HNL.out HNEW.out HONE.out (by omega) (by simp only [maxLen]; omega) (by omega) (by omega) w2.heap.size rfl ?_; intro g5 cap5 w5 hown5 hgrow5 hat5 hlt5)
        have hg5 : g5 = g ∨ g5 = w2.heap.size := by
          rcases hat5 with z | z
          · exact .inl (by injection z with z; exact z.symm)
          · exact .inr z
        have GF : Hid (InF w.heap.size w5 g5 (C ++ C2) (condTo (n + 1))) := by rw [HST.out]; exact HF.out.app HBW.out HF2.out hgrow5 hg5 hgl hsz
        have GB : Hid (Below w.heap.size w w5) := HB2.out.grown hgrow5 (by omega) (fun z hz => by injection hz with hz; subst hz; exact (HO.out.lt g rfl).1)
        have GO := Lib.hid hown5
        clear hown5 hgrow5 hat5 hg5
        go_wp2
        go_roundw
        case rel => exact ⟨n + 1, q + N, g5, cap5, _, rfl, by go_num, by omega, HQ2, GO, GF, GB⟩
        case measure => simp [intOf]; omega
    · obtain rfl : n = 6 := by omega
      have e10 : q = 10 := by rw [HQ.out]; exact conds_len
      subst e10
      have GM : Hid (Mat wr wr.heap.size (some ⟨g, 0, none⟩) conds) := HF.out.mat HO.out
      have GB := HB
      clear HO HF HB
      go_wp2
      go_ret
      exact ⟨g, cap, rfl, GM.out, GB.out⟩
end Go.Proofs.Ytnnihdkhblbdgaa
/-
  The sign of a tree, the model's.
-/
namespace Go.Proofs.Ytnnihdkhblbdgaa
open Go.RowKit Fld
set_option linter.unusedVariables false
set_option linter.unusedSimpArgs false
set_option maxRecDepth 100000

def sgAt (t : List Int) (k : Nat) : Bool := decide (Tr.turnF 9 t k = freeL t) && decide (t.getD k 0 % 2 = 0)
theorem sg_step {t : List Int} {k : Nat} (h : (List.range k).any (sgAt t) = false) (g : sgAt t k = false) : (List.range (k + 1)).any (sgAt t) = false := by
  rw [List.range_succ, List.any_append, h]; simp [g]
theorem sg_hit {t : List Int} {k : Nat} (hk : k < t.length) (g : sgAt t k = true) : sgnM t = 1 := by
  unfold sgnM
  rw [if_pos]
  exact List.any_eq_true.2 ⟨k, List.mem_range.2 hk, g⟩
theorem sg_none {t : List Int} {n : Nat} (hl : t.length = n) (h : (List.range n).any (sgAt t) = false) : sgnM t = -1 := by
  unfold sgnM
  rw [hl, if_neg]
  intro q
  have e : (List.range n).any (fun k => decide (Tr.turnF 9 t k = freeL t) && decide (t.getD k 0 % 2 = 0)) = false := h
  rw [e] at q; cases q
set_option maxHeartbeats 4000000 in
theorem l12Sign_any (A : Option Addr) (n c B : Nat) (t : List Int) (w : World) (hl : t.length = n) (ht : Tr.isLv t = true) (hc : n ≤ c) (hB : B ≤ w.heap.size) (h : Row w B A (ints t)) :
    Calls Try.prog 100 #[.slice A n c] w fun e w' => e = .returned (.int .i64 (sgnM t)) ∧ Below w.heap.size w w' := by
  obtain ⟨n1, n8⟩ := lv_bd ht
  rw [hl] at n1 n8
  have HL := Lib.hid hl
  have HT := Lib.hid ht
  obtain ⟨⟨x, p0⟩, _, _, _, p4⟩ := free_parts ht
  rw [hl] at p4
  have HPK := Lib.hid p0
  have HFL := Lib.hid p4
  have C1 := l04Roots_any A n c B t w hl ht hc hB h
  obtain ⟨R, hR⟩ : ∃ R, R = rootsL t := ⟨_, rfl⟩
  rw [← hR] at HPK
  simp only [← hR] at C1
  have hR1 : 0 < R.length := by
    rcases Nat.lt_or_ge 0 R.length with q | q
    · exact q
    · have := HPK.out; rw [List.getElem?_eq_none q] at this; cases this
  obtain ⟨nr, hnr⟩ : ∃ nr, nr = R.length := ⟨_, rfl⟩
  simp only [← hnr] at C1
  rw [← hnr] at hR1
  clear hR hnr p0 p4 hl ht
  go_enter Try.func100, Try.ntmps100
  go_wp2_with fail
  refine C1.mono ?_
  rintro e w3 ⟨As, cs, rfl, hcs, hcsm, HS, bel3⟩
  obtain ⟨bs, os, Ks, ks, es, hbs, hcs0, _, _, hks, hrows⟩ := HS.at HPK.out
  cases es
  rw [Nat.zero_mul, Nat.add_zero] at hcs0
  simp only at hcs0 hrows
  rw [HFL.out] at hcs0
  have HRs : Hid (Row w3 w3.heap.size Ks (ints (freeL t))) := hrows.row
  have B3 := Lib.hid bel3
  have hz3 := bel3.size
  have HR3 := Lib.hid (h.below bel3 hB)
  clear HS hrows hks bel3 C1 h
  go_wp2_with fail
  go_loopw [4] (fun i wr => ∃ k : Nat, k ≤ n ∧ i = .int .i64 k ∧ Hid ((List.range k).any (sgAt t) = false) ∧ Hid (Below w3.heap.size w3 wr)) (fun i _ => n - (intOf i).toNat)
  case atStart => exact ⟨0, Nat.zero_le _, rfl, rfl, Below.refl _ _⟩
  case round =>
    obtain ⟨k, hk, rfl, HI, HW⟩ := hrel
    have hwz := HW.out.size
    by_cases hlt : k < n
    · obtain ⟨y, hy⟩ := at_lt (show k < t.length by rw [HL.out]; exact hlt)
      have hyb := lv_el HT.out hy
      have HRW := HR3.out.below HW.out (by omega)
      obtain ⟨ba, oa, rfl, _, hcy⟩ := HRW k _ (ints_at hy)
      have HY : Hid (t.getD k 0 = y) := by rw [Hid, List.getD_eq_getElem?_getD, hy]; rfl
      have CT := turnAt_all 9 (some ⟨ba, oa, none⟩) n c B k t wr HL.out HT.out hlt (by omega) hc (by omega) HRW
      have TL : Hid ((Tr.turnF 9 t k).length = n) := by rw [Hid, (turn_lv 9 t k HT.out (by rw [HL.out]; exact hlt) (by omega)).2, HL.out]
      have k0 : (0 : Int) ≤ (k : Int) := Int.natCast_nonneg _
      have kn : (k : Int) < (n : Int) := by omega
      have GS : Hid (sgAt t k = (eqL (Tr.turnF 9 t k) (freeL t) && decide (y % 2 = 0))) := by unfold sgAt eqL; rw [Hid, HY.out]
      obtain ⟨U, hU⟩ : ∃ U, U = Tr.turnF 9 t k := ⟨_, rfl⟩
      simp only [← hU] at CT
      rw [← hU] at TL GS
      clear hy hU HRW
      go_wp2_with fail
      refine CT.mono ?_
      rintro e w4 ⟨A4, c4, rfl, own4, bel4⟩
      have hz4 := bel4.size
      have HU : Hid (Row w4 w4.heap.size A4 (ints U)) := row_of_own own4
      have HF4 := Lib.hid ((HRs.out.below HW.out (Nat.le_refl _)).below bel4 hwz)
      have hcy4 := (bel4.cell (World.block_lt_of_cell? wr _ hcy)).trans hcy
      have HW4 := Lib.hid (HW.out.trans (bel4.mono hwz))
      clear own4 bel4 CT hcy
      have CS := l01Same_any A4 Ks n n c4 ks w4.heap.size w3.heap.size U (freeL t) w4 TL.out HFL.out (by omega) (by omega) HU.out HF4.out
      obtain ⟨sm, hsm⟩ : ∃ sm, sm = eqL U (freeL t) := ⟨_, rfl⟩
      rw [← hsm] at CS GS
      clear hsm
      cases sm
      · have G := Lib.hid (sg_step HI.out (by rw [GS.out]; rfl))
        clear HI GS
        go_wp2_with fail
        refine CS.mono ?_
        rintro e w5 ⟨rfl, d5, rfl⟩
        have GB := Lib.hid (below_drewN HW4.out d5)
        clear HW4 HW
        go_wp2
        go_roundw
        case rel => exact ⟨k + 1, by omega, by go_num, G, GB⟩
        case measure => simp [intOf]; omega
      · have hr : y.tmod 2 = y % 2 := Int.tmod_eq_emod_of_nonneg (by omega)
        by_cases he : y % 2 = 0
        · have G := Lib.hid (sg_hit (by rw [HL.out]; exact hlt) (show sgAt t k = true by rw [GS.out, decide_eq_true he]; rfl))
          have tb : (y % 2 == 0) = true := beq_t he
          clear HI GS
          go_wp2_with fail
          refine CS.mono ?_
          rintro e w5 ⟨rfl, d5, rfl⟩
          have GB := Lib.hid (B3.out.trans ((below_drewN HW4.out d5).mono hz3))
          clear HW4 HW
          go_wp2
          go_ret
          exact ⟨ret_i64 G.out.symm, GB.out⟩
        · have G := Lib.hid (sg_step HI.out (show sgAt t k = false by rw [GS.out, decide_eq_false he]; rfl))
          have tb : (y % 2 == 0) = false := beq_f he
          clear HI GS
          go_wp2_with fail
          refine CS.mono ?_
          rintro e w5 ⟨rfl, d5, rfl⟩
          have GB := Lib.hid (below_drewN HW4.out d5)
          clear HW4 HW
          go_wp2
          go_roundw
          case rel => exact ⟨k + 1, by omega, by go_num, G, GB⟩
          case measure => simp [intOf]; omega
    · obtain rfl : k = n := by omega
      have G := Lib.hid (sg_none HL.out HI.out)
      have GB := Lib.hid (B3.out.trans (HW.out.mono hz3))
      clear HI
      go_wp2
      go_ret
      exact ⟨ret_i64 G.out.symm, GB.out⟩
end Go.Proofs.Ytnnihdkhblbdgaa
/-
  The place of a list in a list of lists, the model's.
-/
namespace Go.Proofs.Ytnnihdkhblbdgaa
open Go.RowKit Fld
set_option linter.unusedVariables false
set_option linter.unusedSimpArgs false
set_option maxRecDepth 100000

set_option maxHeartbeats 1000000 in
theorem l03Find_any (A Au : Option Addr) (n c nu cu B Bu : Nat) (m : List (List Int)) (u : List Int) (w : World) (hl : m.length = n) (hn : n ≤ 1048576) (hr : ∀ r ∈ m, r.length ≤ 1048576) (hu : u.length = nu) (hnu : nu ≤ 1048576) (h : Mat w B A m) (h' : Row w Bu Au (ints u)) :
    Calls Try.prog 79 #[.slice A n c, .slice Au nu cu] w fun e w' => e = .returned (.int .i64 (Tr.idxL u m 0)) ∧ ∃ k, w' = w.drewN k := by
  have HL := Lib.hid hl
  have HR := Lib.hid hr
  clear hl hr
  go_enter Try.func79, Try.ntmps79
  go_wp2_with fail
  go_loopw [5] (fun i wr => ∃ k d : Nat, k ≤ n ∧ i = .int .i64 k ∧ wr = w.drewN d ∧ Hid (Tr.idxL u m 0 = Tr.idxL u (m.drop k) k)) (fun i _ => n - (intOf i).toNat)
  case atStart => exact ⟨0, 0, Nat.zero_le _, rfl, rfl, rfl⟩
  case round =>
    obtain ⟨k, d, hk, rfl, rfl, HI⟩ := hrel
    by_cases hlt : k < n
    · obtain ⟨r, hr⟩ := at_lt (show k < m.length by rw [HL.out]; exact hlt)
      obtain ⟨b, o, Ak, ck, rfl, _, hca, _, _, hrow⟩ := (Mat.drewN h d) k r hr
      have HRL : Hid (r.length ≤ 1048576) := HR.out r (List.mem_of_getElem? hr)
      obtain ⟨N1, N2⟩ := Tr.idx_next HI.out hr
      have C1 := l01Same_any Ak Au r.length nu ck cu B Bu r u (w.drewN d) rfl hu (by have := HRL.out; omega) (by omega) hrow (h'.drewN d)
      clear hr HI hrow
      by_cases hru : r = u
      · have G := Lib.hid (N1 hru)
        rw [hru, eqL_self, ← hru] at C1
        clear N1 N2 hru
        go_wp2_with (go_at_call 88; refine C1.mono ?_; rintro e w' ⟨rfl, d2, rfl⟩)
        go_ret
        exact ⟨by rw [G.out]; rfl, _, rfl⟩
      · have G := Lib.hid (N2 hru)
        have e : eqL r u = false := by unfold eqL; exact decide_eq_false hru
        rw [e] at C1
        clear N1 N2 hru e
        go_wp2_with (go_at_call 88; refine C1.mono ?_; rintro e w' ⟨rfl, d2, rfl⟩)
        go_roundw
        case rel => exact ⟨k + 1, _, by omega, by go_num, rfl, G⟩
        case measure => simp [intOf]; omega
    · have G := Lib.hid (Tr.idx_end HI.out (by rw [HL.out]; omega))
      clear HI
      go_wp2
      go_ret
      exact ⟨by rw [G.out]; rfl, _, rfl⟩
end Go.Proofs.Ytnnihdkhblbdgaa
/-
  The map that numbers make, the model's.
-/
namespace Go.Proofs.Ytnnihdkhblbdgaa
open Go.RowKit Fld
set_option linter.unusedVariables false
set_option linter.unusedSimpArgs false
set_option maxRecDepth 100000

theorem addr_eqK {b o b' o' : Nat} (h : (some (⟨b, o, none⟩ : Addr)) = some ⟨b', o', none⟩) : b = b' ∧ o = o' := by
  injection h with e; injection e with e1 e2; exact ⟨e1, e2⟩
theorem to_lvK {t : List Int} (h : t ∈ treesTo 6) : Tr.isLv t = true := by
  obtain ⟨q, hq, h9⟩ := to_mem.1 h
  exact ((trees_all (n := q + 1) (by omega) (by omega)).1 _ h9).1
theorem ham_take {ns : List Int} {k : Nat} {t : List Int} (h : (treesTo 6)[k]? = some t) : ints ((hamL ns).take (k + 1)) ++ [.int .i64 (hamAt ns t)] = ints ((hamL ns).take (k + 1 + 1)) := by
  rw [List.take_add_one (l := hamL ns) (i := k + 1), hamL_at h]
  simp [ints, intsK]
theorem conds_small : ∀ r ∈ conds, r.length ≤ 1048576 := fun r hr => by
  unfold conds condTo at hr
  have := (List.mem_filter.1 hr).1
  obtain ⟨q, hq, h9⟩ := to_mem.1 this
  have := ((trees_all (n := q + 1) (by omega) (by omega)).1 _ h9).2
  omega
set_option maxHeartbeats 8000000 in
theorem l12Make_any (A : Option Addr) (c B : Nat) (ns : List Int) (w : World) (hl : ns.length = 10) (hn : allNum ns = true) (hB : B ≤ w.heap.size) (h : Row w B A (ints ns)) :
    Calls Try.prog 63 #[.slice A 10 c] w (NewRow 2 38 (ints (hamL ns)) w) := by
  obtain ⟨i0, hi, hz0, hz1, hz2⟩ := info_parts info_i64
  have HL := Lib.hid hl
  have HN := Lib.hid hn
  have C0 := fun w' => l03All_any 6 w' (by omega) (by omega)
  rw [to_len] at C0
  obtain ⟨x0, hx0⟩ := at_lt (show 0 < ns.length by omega)
  obtain ⟨bn, on, rfl, _, _⟩ := h 0 _ (ints_at hx0)
  clear hl hn hx0
  go_enter Try.func63, Try.ntmps63
  go_wp2_with fail
  refine (C0 _).mono ?_
  rintro e w1 ⟨A1, c1, vs1, rfl, own1, bel1⟩
  have B1 := Lib.hid bel1
  have FM0 : Hid (Mat w1 w1.heap.size A1 (treesTo 6)) := own1.mat
  have hs1 := bel1.size
  obtain ⟨t0, ht0⟩ := at_lt (show 0 < (treesTo 6).length by rw [to_len]; omega)
  obtain ⟨b1, o1, _, _, rfl, hb1, _, _, _, _⟩ := FM0.out 0 t0 ht0
  clear own1 bel1 C0 ht0
  go_wp2_with fail
  refine (l12All_any _).mono ?_
  rintro e w2 ⟨gf, cf, rfl, hM2, bel2⟩
  have hs2 := bel2.size
  have FM : Hid (Mat w2 w1.heap.size (some ⟨b1, o1, none⟩) (treesTo 6)) := FM0.out.below bel2 (Nat.le_refl _)
  have FF := Lib.hid hM2
  have FN : Hid (Row w2 B (some ⟨bn, on, none⟩) (ints ns)) := (h.below B1.out hB).below bel2 (by omega)
  have B2 : Hid (Below w.heap.size w w2) := B1.out.trans (bel2.mono hs1)
  have hs02 := B2.out.size
  have O0 : Hid ((w2.alloc (.cells #[.int .i64 0] 2)).ownsRow w2.heap.size 2 1 (.slice (some ⟨w2.heap.size, 0, none⟩) 1 1) 1 (ints ((hamL ns).take (0 + 1)))) := World.ownsRow_lit w2 #[.int .i64 0] 1 (Nat.le_refl _) (by decide) rfl
  have B0 : Hid (Below w2.heap.size w2 (w2.alloc (.cells #[.int .i64 0] 2))) := (Below.refl _ _).alloc (Nat.le_refl _) _
  clear hM2 bel2 h FM0
  go_wp2_with fail
  go_loopw [5, 6] (fun v i wr => ∃ (k g cap : Nat), v = .slice (some ⟨g, 0, none⟩) (k + 1) cap ∧ i = .int .i64 k ∧ k ≤ 37 ∧ Hid (wr.ownsRow w2.heap.size 2 1 (.slice (some ⟨g, 0, none⟩) (k + 1) cap) (k + 1) (ints ((hamL ns).take (k + 1)))) ∧ Hid (Below w2.heap.size w2 wr)) (fun _ i _ => 37 - (intOf i).toNat)
  case atStart => exact ⟨0, _, 1, rfl, rfl, by omega, O0, B0⟩
  case round =>
    clear O0 B0
    obtain ⟨k, g, cap, rfl, rfl, hk, HO, HW⟩ := hrel
    by_cases hlt : k < 37
    · obtain ⟨t, ht⟩ := at_lt (show k < (treesTo 6).length by rw [to_len]; exact hlt)
      have hlv := to_lvK (List.mem_of_getElem? ht)
      obtain ⟨t1, t8⟩ := lv_bd hlv
      obtain ⟨HE, e2, e3, e4, e5, e6, _, _⟩ := ham_parts (ns := ns) ht HN.out
      have HTK := Lib.hid (ham_take (ns := ns) ht)
      have hwz := HW.out.size
      obtain ⟨bi, oi, Ai, ci, eA, hbi, hci, hlc, hcm, rowi⟩ := (FM.out.below HW.out (by omega)) k t ht
      obtain ⟨rfl, rfl⟩ := addr_eqK eA
      have hgl := (HO.out.lt g rfl)
      have hcap := (own_cap HO.out).2
      have k0 : (0 : Int) ≤ (k : Int) := Int.natCast_nonneg _
      have k37 : (k : Int) < 37 := by omega
      obtain ⟨tn, htn⟩ : ∃ tn, tn = t.length := ⟨_, rfl⟩
      have HTN := Lib.hid htn.symm
      obtain ⟨⟨x, p0⟩, _, _, _, p4⟩ := free_parts hlv
      rw [← htn] at hci hlc t1 t8 p4
      have HPK := Lib.hid p0
      have HFL := Lib.hid p4
      have C1 := l04Roots_any Ai tn ci w1.heap.size t wr htn.symm hlv hlc (by omega) rowi
      have CSG := fun V (hV : Below wr.heap.size wr V) => l12Sign_any Ai tn ci w1.heap.size t V HTN.out hlv hlc (by have := hV.size; omega) (rowi.below hV (by omega))
      have KC : Hid (∀ V, Below wr.heap.size wr V → V.cell? ⟨b1, o1 + k, none⟩ = some (.slice Ai tn ci)) := fun V hV => (hV.cell (p := ⟨b1, o1 + k, none⟩) (by show b1 < wr.heap.size; omega)).trans hci
      obtain ⟨R, hR⟩ : ∃ R, R = rootsL t := ⟨_, rfl⟩
      rw [← hR] at HPK
      simp only [← hR] at C1
      have hR1 : 0 < R.length := by
        rcases Nat.lt_or_ge 0 R.length with q | q
        · exact q
        · have := HPK.out; rw [List.getElem?_eq_none q] at this; cases this
      obtain ⟨nr, hnr⟩ : ∃ nr, nr = R.length := ⟨_, rfl⟩
      simp only [← hnr] at C1
      rw [← hnr] at hR1
      have hsg := sgnM_two t
      have HHA : Hid (hamAt ns t = if idxC t < 0 then 0 else (sgnM t * ns.getD (idxC t).toNat 0) % 10007) := rfl
      clear hR hnr p0 p4 hlv ht htn rowi eA HE e2 e3 e4 e5
      go_wp2_with fail
      refine C1.mono ?_
      rintro e w3 ⟨As, cs, rfl, hcs, hcsm, HS, bel3⟩
      obtain ⟨bs, os, Ks, ks, es, hbs, hcs0, _, _, hks, hrows⟩ := HS.at HPK.out
      cases es
      rw [Nat.zero_mul, Nat.add_zero] at hcs0
      simp only at hcs0 hrows
      rw [HFL.out] at hcs0
      have HRs : Hid (Row w3 w3.heap.size Ks (ints (freeL t))) := hrows.row
      have hz3 := bel3.size
      have BW3 := Lib.hid bel3
      have CF := l03Find_any (some ⟨gf, 0, none⟩) Ks 10 cf tn ks w2.heap.size w3.heap.size conds (freeL t) w3 conds_len (by omega) conds_small HFL.out (by omega) ((FF.out.below HW.out (Nat.le_refl _)).below bel3 hwz) HRs.out
      have EI : Hid (Tr.idxL (freeL t) conds 0 = idxC t) := rfl
      rw [EI.out] at CF
      obtain ⟨ix, hix⟩ : ∃ ix, ix = idxC t := ⟨_, rfl⟩
      rw [← hix] at CF HHA e6
      clear HS hrows hks bel3 C1 hix EI
      go_wp2_with fail
      refine CF.mono ?_
      rintro e w4 ⟨rfl, d4, rfl⟩
      have BW4 : Hid (Below wr.heap.size wr (w3.drewN d4)) := below_drewN BW3.out d4
      have HO4 : Hid ((w3.drewN d4).ownsRow w2.heap.size 2 1 (.slice (some ⟨g, 0, none⟩) (k + 1) cap) (k + 1) (ints ((hamL ns).take (k + 1)))) := ((OwnR.of HO.out).below BW4.out (Nat.le_refl _)).1
      generalize w3.drewN d4 = W4 at BW4 HO4 ⊢
      have hz4 := BW4.out.size
      have hgl4 := (HO4.out.lt g rfl).2
      have BG : Hid (Below w2.heap.size w2 W4) := HW.out.trans (BW4.out.mono hwz)
      clear HRs BW3 hcs0 hbs CF
      by_cases hneg : ix < 0
      · have hv : Hid (hamAt ns t = 0) := by rw [Hid, HHA.out, if_pos hneg]
        rw [hv.out] at HTK
        clear CSG
        go_wp2_with (at_builtin; refine wpList_append_lies _ rfl (.tmp 29) (.tmp 30) 23 rfl w2.heap.size 2 i0 _ 1 8 Try.underlying23 hi hz0 hz1 hz2 rfl (by omega) (.slice (some ⟨g, 0, none⟩) (k + 1) cap) (k + 1) (ints ((hamL ns).take (k + 1))) rfl (HO4.out.alloc _) ⟨W4.heap.size, 0, none⟩ 1 1 [.int .i64 0] rfl rfl (World.news_of_block (cs := #[.int .i64 0]) (heap_alloc_new _ _)) (by simp [Value.oneCell']) (by omega) (by simp only [maxLen]; omega) (by omega) (by simp; omega) (W4.heap.size + 1) (by simp) ?_; intro g5 cap5 w5 hown5 hgrow5 hat5 hlt5)
        rw [HTK.out] at hown5
        have GB : Hid (Below w2.heap.size w2 w5) := (BG.out.alloc (by omega) _).grown hgrow5 (by simp; omega) (fun z hz => by injection hz with hz; subst hz; exact hgl.1)
        have GO := Lib.hid hown5
        clear hown5 hgrow5 hat5
        go_wp2
        go_roundw
        case rel => exact ⟨k + 1, g5, cap5, rfl, by go_num, by omega, GO, GB⟩
        case measure => simp [intOf]; omega
      · obtain ⟨p, rfl⟩ : ∃ p : Nat, ix = (p : Int) := ⟨ix.toNat, by omega⟩
        obtain ⟨y, hy⟩ := at_lt (show p < ns.length by rw [HL.out]; omega)
        obtain ⟨y0, y1⟩ := num_at HN.out hy
        obtain ⟨by_, oy, eY, hby, hcy⟩ := (FN.out.below BG.out (by omega)) p _ (ints_at hy)
        obtain ⟨rfl, rfl⟩ := addr_eqK eY
        obtain ⟨sg, hsge⟩ : ∃ sg, sg = sgnM t := ⟨_, rfl⟩
        rw [← hsge] at hsg HHA
        simp only [← hsge] at CSG
        have hv : Hid (hamAt ns t = (sg * y) % 10007) := by
          rw [Hid, HHA.out, if_neg hneg, show ((p : Int)).toNat = p by omega, List.getD_eq_getElem?_getD, hy]; rfl
        have hmul : IntKind.i64.wrap (sg * y) = sg * y := IntWalk.i64_in _ (by rcases hsg with q | q <;> rw [q] <;> omega)
        have CMD := fun V => l01Mod_any (sg * y) V
        obtain ⟨z, hz⟩ : ∃ z, z = (sg * y) % 10007 := ⟨_, rfl⟩
        simp only [← hz] at CMD
        rw [← hz] at hv
        rw [hv.out] at HTK
        have p0 : (0 : Int) ≤ (p : Int) := Int.natCast_nonneg _
        have p10 : (p : Int) < 10 := by omega
        have KK : Hid (∀ V, Below W4.heap.size W4 V → V.cell? ⟨b1, o1 + k, none⟩ = some (.slice Ai tn ci) ∧ V.cell? ⟨bn, on + p, none⟩ = some (.int .i64 y)) := fun V hV => ⟨KC.out V (BW4.out.trans (hV.mono hz4)), (hV.cell (p := ⟨bn, on + p, none⟩) (World.block_lt_of_cell? W4 _ hcy)).trans hcy⟩
        have HOV : Hid (∀ V, Below W4.heap.size W4 V → V.ownsRow w2.heap.size 2 1 (.slice (some ⟨g, 0, none⟩) (k + 1) cap) (k + 1) (ints ((hamL ns).take (k + 1)))) := fun V hV => ((OwnR.of HO4.out).below hV (Nat.le_refl _)).1
        have CS2 := fun V (hV : Below W4.heap.size W4 V) => CSG V (BW4.out.trans (hV.mono hz4))
        have hne1 : b1 ≠ g := by omega
        have hne2 : bn ≠ g := by omega
        clear hy hsge hz CSG hcy hci
        go_wp2_with fail
        go_region_held3 (fun V => V.cell? ⟨b1, o1 + k, none⟩ = some (.slice Ai tn ci) ∧ V.cell? ⟨bn, on + p, none⟩ = some (.int .i64 y))
          (first | exact KK.out _ (Below.refl _ _).drew | exact KK.out _ (below_drewN (Below.refl _ _) _) | exact KK.out _ b6 | exact KK.out _ (b6.alloc b6.size _) | exact ⟨hgrow5.cell (KK.out _ (b6.alloc b6.size _)).1 (fun q => hne1 (by injection q)), hgrow5.cell (KK.out _ (b6.alloc b6.size _)).2 (fun q => hne2 (by injection q))⟩)
          (first
            | (go_at_call 100; refine (CS2 _ (by first | exact (Below.refl _ _).drew | exact below_drewN (Below.refl _ _) _)).mono ?_; rintro e w6 ⟨rfl, be6⟩; have b6 : Below W4.heap.size W4 w6 := ⟨be6.os, be6.tape, be6.output, be6.size, be6.block⟩)
            | (go_at_call 74; refine (CMD _).mono ?_; rintro e w7 ⟨rfl, rfl⟩)
            | (have tok := b6; refine step_append_lies _ (by rfl) _ _ _ (by rfl) w2.heap.size 2 i0 _ 1 8 Try.underlying23 hi hz0 hz1 hz2 rfl (by omega) (.slice (some ⟨g, 0, none⟩) (k + 1) cap) (k + 1) (ints ((hamL ns).take (k + 1))) (by rfl) (HOV.out _ (b6.alloc b6.size _)) ⟨w6.heap.size, 0, none⟩ 1 1 [.int .i64 z] (by rfl) (by rfl) (World.news_of_block (cs := #[.int .i64 z]) (heap_alloc_new _ _)) (by simp [Value.oneCell']) (by omega) (by simp only [maxLen]; omega) (by omega) (by have := b6.size; simp; omega) (w6.heap.size + 1) (by simp) ?_; intro g5 cap5 w5 hown5 hgrow5 hat5 hlt5))
        rw [HTK.out] at hown5
        have hz6 := b6.size
        have GB : Hid (Below w2.heap.size w2 w5) := (((BG.out.trans (b6.mono (by omega))).alloc (by omega) _)).grown hgrow5 (by simp; omega) (fun z hz => by injection hz with hz; subst hz; exact hgl.1)
        have GO := Lib.hid hown5
        clear hown5 hgrow5 hat5 be6 b6
        go_wp2
        go_roundw
        case rel => exact ⟨k + 1, g5, cap5, rfl, by go_num, by omega, GO, GB⟩
        case measure => simp [intOf]; omega
    · obtain rfl : k = 37 := by omega
      have e9 : (hamL ns).take (37 + 1) = hamL ns := List.take_of_length_le (by rw [hamL_length]; exact Nat.le_refl _)
      have GO := HO.out
      rw [e9] at GO
      have HG : Hid (wr.ownsRow w.heap.size 2 1 (.slice (some ⟨g, 0, none⟩) 38 cap) 38 (ints (hamL ns))) := ((OwnR.of GO).more hs02 (Nat.le_refl _)).1
      have GB : Hid (Below w.heap.size w wr) := B2.out.trans (HW.out.mono hs02)
      clear HO GO
      go_wp2
      go_ret
      exact ⟨_, _, rfl, HG.out, GB.out⟩
end Go.Proofs.Ytnnihdkhblbdgaa
/-
  HamiltonianOf: program and model.
-/
namespace Go.Proofs.Ytnnihdkhblbdgaa
open Go.RowKit Fld
set_option linter.unusedVariables false
set_option linter.unusedSimpArgs false
set_option maxRecDepth 100000

theorem hamA_len {a : List Int} (h : a.length ≠ 10) : hamA a = ([], 2) := by unfold hamA; rw [if_neg (fun q => h q.1)]
theorem hamA_num {a : List Int} (h : allNum a = false) : hamA a = ([], 2) := by unfold hamA; rw [if_neg (fun q => by rw [h] at q; exact Bool.noConfusion q.2)]
theorem hamA_yes {a : List Int} (h : a.length = 10) (hn : allNum a = true) : hamA a = (hamL a, 0) := by unfold hamA; rw [if_pos ⟨h, hn⟩]
set_option maxHeartbeats 2000000 in
theorem sHamiltonianOf_L (A : Option Addr) (n c B : Nat) (a : List Int) (w : World) (hl : a.length = n) (hn : n ≤ 1048576) (hB : B ≤ w.heap.size) (h : Row w B A (ints a)) :
    Calls Try.prog 33 #[.slice A n c] w (ResL (hamA a) w) := by
  by_cases h10 : n = 10
  · subst h10
    have CN := fun V hV => l01Numbers_any A 10 c B a V hl (by omega) hV
    cases ha : allNum a
    · have G := Lib.hid (hamA_num ha)
      have CN0 := CN w h
      rw [ha] at CN0
      clear hl CN
      go_enter Try.func33, Try.ntmps33
      go_wp2_with fail
      refine CN0.mono ?_
      rintro e w' ⟨rfl, rfl⟩
      clear CN0
      go_wp2
      go_ret2
      exact ResL.nil G.out (Below.refl _ _)
    · have G := Lib.hid (hamA_yes hl ha)
      have CN0 := CN w h
      have CM := l12Make_any A c B a w hl ha hB h
      rw [ha] at CN0
      clear hl CN
      go_enter Try.func33, Try.ntmps33
      go_wp2_with fail
      refine CN0.mono ?_
      rintro e w' ⟨rfl, rfl⟩
      clear CN0
      go_wp2_with fail
      refine CM.mono ?_
      rintro e w1 ⟨A1, c1, rfl, own1, b1⟩
      have O1 := Lib.hid own1
      have B1 := Lib.hid b1
      clear own1 b1 CM
      go_wp2
      go_ret2
      exact ResL.of G.out (hamL_length a) (by omega) O1.out B1.out
  · have G := Lib.hid (hamA_len (a := a) (by rw [hl]; exact h10))
    have h10i : ¬ (n : Int) = 10 := by omega
    clear hl
    go_enter Try.func33, Try.ntmps33
    go_wp2
    go_ret2
    exact ResL.nil G.out (Below.refl _ _)
set_option maxHeartbeats 2000000 in
theorem pHamiltonianOf_L (A : Option Addr) (n c B : Nat) (a : List Int) (w : World) (hl : a.length = n) (hn : n ≤ 1048576) (hB : B ≤ w.heap.size) (h : Row w B A (ints a)) (hcp : n ≤ c) :
    Calls Try.prog 34 #[.slice A n c] w (ResL (hamA a) w) := by
  by_cases h10 : n = 10
  · subst h10
    have CN := fun V hV => areNumbers_any A 10 c B a V hl (by omega) hV
    cases ha : allNum a
    · have G := Lib.hid (hamA_num ha)
      have CN0 := CN w h
      rw [ha] at CN0
      clear hl CN
      go_enter Try.func34, Try.ntmps34
      go_wp2_with fail
      refine CN0.mono ?_
      rintro e w' ⟨rfl, rfl⟩
      clear CN0
      go_wp2
      go_ret2
      exact ResL.nil G.out (Below.refl _ _)
    · have G := Lib.hid (hamA_yes hl ha)
      have CN0 := CN w h
      have HL := Lib.hid hl
      have HA := Lib.hid ha
      have CM := numbersOf_any A 10 c B a w hl (by omega) hB h
      rw [ha] at CN0
      clear hl CN ha
      go_enter Try.func34, Try.ntmps34
      go_wp2_with fail
      refine CN0.mono ?_
      rintro e w' ⟨rfl, rfl⟩
      clear CN0
      go_wp2_with fail
      refine CM.mono ?_
      rintro e w1 ⟨A1, c1, rfl, own1, b1⟩
      have R1 := row_of_own own1
      have hc1 := (own_cap own1).1
      have B1 := Lib.hid b1
      have CH := hamiltonian_any A1 c1 w1.heap.size a w1 HL.out HA.out hc1 (Nat.le_refl _) R1
      clear own1 b1 CM R1
      go_wp2_with fail
      refine CH.mono ?_
      rintro e w2 ⟨rfl, b2⟩
      have B2 := Lib.hid (B1.out.trans (b2.mono B1.out.size))
      clear b2 CH
      go_wp2_with fail
      refine (listM_any (hamL a) _ (hamL_length a)).mono ?_
      rintro e w3 ⟨A3, c3, rfl, own3, b3⟩
      have O3 := Lib.hid ((OwnR.of own3).more B2.out.size (Nat.le_refl _)).1
      have B3 := Lib.hid (B2.out.trans (b3.mono B2.out.size))
      clear own3 b3
      go_wp2
      go_ret2
      exact ResL.of G.out (hamL_length a) (by omega) O3.out B3.out
  · have G := Lib.hid (hamA_len (a := a) (by rw [hl]; exact h10))
    have h10i : ¬ (n : Int) = 10 := by omega
    clear hl
    go_enter Try.func34, Try.ntmps34
    go_wp2
    go_ret2
    exact ResL.nil G.out (Below.refl _ _)
end Go.Proofs.Ytnnihdkhblbdgaa
