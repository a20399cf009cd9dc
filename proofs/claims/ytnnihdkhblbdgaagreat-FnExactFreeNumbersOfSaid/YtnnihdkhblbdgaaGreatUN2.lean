/-
  Texts of this seat, joined: what several laws lean on.
-/
import Derived.Test.YtnnihdkhblbdgaaGreatUN1
import Derived.Deep.RegionHeld3
import Derived.Test.YtnnihdkhblbdgaaGreatTests
import Derived.Test.YtnnihdkhblbdgaaGreatCan
import Derived.Test.YtnnihdkhblbdgaaGreatCmpX
import Derived.Test.YtnnihdkhblbdgaaGreatTreeC8
import Derived.Test.YtnnihdkhblbdgaaGreatGrfQ
import Derived.Test.YtnnihdkhblbdgaaGreatSCan
import Derived.Test.YtnnihdkhblbdgaaGreatNestc
import Derived.Test.YtnnihdkhblbdgaaGreatNum
import Derived.BigQuiet
import Derived.Test.YtnnihdkhblbdgaaGreatSlices
import Derived.Test.YtnnihdkhblbdgaaGreatRes1
import Derived.Maps.OwnSet
import Derived.Test.YtnnihdkhblbdgaaGreatTreeOf
import Derived.Test.YtnnihdkhblbdgaaGreatSrt
import Derived.Laws.AppendOwnNone
import Derived.Test.YtnnihdkhblbdgaaGreatLvl
import Derived.Test.YtnnihdkhblbdgaaGreatGrow
import Derived.Test.YtnnihdkhblbdgaaGreatNest
import Derived.Laws.Rows
import Derived.Laws.Tables
import Derived.Laws.CopyOwn
import Derived.Deep.RegionLaw
import Derived.StillTailTactics
import Derived.IntWalk
/-
  Free conditions, the model's; what keeps a tree.
-/
namespace Go.Proofs.YtnnihdkhblbdgaaGreat
open Go.RowKit Fld
set_option linter.unusedVariables false
set_option linter.unusedSimpArgs false
set_option maxRecDepth 100000

theorem chk_treesC : ((List.range 8).all fun n => (Tr.treesL (n + 1)).all (fun t => decide (Tr.can t = t)) && decide (1 ≤ (Tr.treesL (n + 1)).length)) = true := by decide +kernel
theorem trees_canC {n : Nat} (h1 : 1 ≤ n) (h8 : n ≤ 8) : (∀ t ∈ Tr.treesL n, Tr.can t = t) ∧ 1 ≤ (Tr.treesL n).length := by
  obtain ⟨k, rfl⟩ : ∃ k, n = k + 1 := ⟨n - 1, by omega⟩
  have h := List.all_eq_true.1 chk_treesC k (by rw [List.mem_range]; omega)
  simp only [Bool.and_eq_true, List.all_eq_true, decide_eq_true_eq] at h
  exact ⟨h.1, by omega⟩
theorem txt_eqC {s t : List Int} (hs : Tr.isLv s = true) (ht : Tr.isLv t = true) (cs : Tr.can s = s) (ct : Tr.can t = t) : decide (Tr.txt s = Tr.txt t) = eqL s t := by
  have this : s = t ↔ Tr.txt s = Tr.txt t := ⟨fun e => by rw [e], fun e => by rw [← cs, ← ct, ← (lv_txt hs).1, ← (lv_txt ht).1, e]⟩
  unfold eqL
  by_cases e : s = t
  · rw [decide_eq_true e, decide_eq_true (this.1 e)]
  · rw [decide_eq_false e, decide_eq_false (fun q => e (this.2 q))]
theorem keepC_eq {t : List Int} (h : Tr.isLv t = true) (hc : Tr.can t = t) : (eqL (freeL t) t && !Tr.doubleL t (t.length - 1)) = keepC t := by
  obtain ⟨_, q1, q2, q3, q4⟩ := free_parts h
  rw [← txt_eqC q2 h q3 hc, q1, Tr.sup_eq h hc]
  have e : decide (minT (rootsT (Tr.txt t)) = Tr.txt t) = decide (Tr.txt t = minT (rootsT (Tr.txt t))) := by
    by_cases z : minT (rootsT (Tr.txt t)) = Tr.txt t
    · rw [decide_eq_true z, decide_eq_true z.symm]
    · rw [decide_eq_false z, decide_eq_false (fun q => z q.symm)]
  rw [e]; rfl
theorem Mat.selectC {w w' : World} {lo B n c q c' g : Nat} {A : Option Addr} {m : List (List Int)} {vs : List Value} {idx : List Nat} (h : OwnMat w lo w.heap.size (.slice A n c) n m vs) (hb : Below w.heap.size w w') (hi : ∀ k ∈ idx, k < m.length)
    (ho : w'.ownsRow B 22 1 (.slice (some ⟨g, 0, none⟩) q c') q (idx.map fun k => vs.getD k nilVC)) : Mat w' w'.heap.size (some ⟨g, 0, none⟩) (idx.map fun k => m.getD k []) := by
  intro k r hr
  rw [List.getElem?_map, Option.map_eq_some_iff] at hr
  obtain ⟨l, hl, rfl⟩ := hr
  have hlm := hi l (List.mem_of_getElem? hl)
  have e : m[l]? = some (m.getD l []) := by rw [List.getD_eq_getElem?_getD, List.getElem?_eq_getElem hlm]; rfl
  obtain ⟨A', c'', e1, o1⟩ := h.inner l _ e
  have e2 : (idx.map fun k => vs.getD k nilVC)[k]? = some (.slice A' (m.getD l []).length c'') := by
    rw [List.getElem?_map, hl, Option.map_some, List.getD_eq_getElem?_getD (l := vs), e1]; rfl
  obtain ⟨b, o, e3, hbl, hcl⟩ := row_of_own ho k _ e2
  obtain ⟨c1, c2⟩ := own_cap o1.1
  exact ⟨b, o, A', c'', e3, hbl, hcl, c1, c2, ((o1.below hb (Nat.le_refl _)).row).more hb.size⟩
def freeM (n : Nat) : List (List Int) := (Tr.treesL n).filter keepC
/-- the values C are lists m that lie from lo on and not in the block g -/
def InF (lo : Nat) (w : World) (g : Nat) (C : List Value) (m : List (List Int)) : Prop :=
  C.length = m.length ∧ ∀ (j : Nat) (r : List Int), m[j]? = some r → ∃ b o c, C[j]? = some (Value.slice (some ⟨b, o, none⟩) (List.length r) c) ∧ lo ≤ b ∧ b < w.heap.size ∧ b ≠ g ∧ r.length ≤ c ∧ c ≤ maxLen ∧ ∀ k x, r[k]? = some x → w.cell? ⟨b, o + k, none⟩ = some (.int .i64 x)
theorem InF.of {w w' : World} {lo n c g : Nat} {A : Option Addr} {m : List (List Int)} {vs : List Value} {idx : List Nat} (h : OwnMat w lo w.heap.size (.slice A n c) n m vs) (hb : Below w.heap.size w w') (hi : ∀ k ∈ idx, k < m.length) (hg : w.heap.size ≤ g) (hne : ∀ r ∈ m, 0 < r.length) :
    InF lo w' g (idx.map fun k => vs.getD k nilVC) (idx.map fun k => m.getD k []) := by
  refine ⟨by simp, fun j r hr => ?_⟩
  rw [List.getElem?_map, Option.map_eq_some_iff] at hr
  obtain ⟨l, hl, rfl⟩ := hr
  have hlm := hi l (List.mem_of_getElem? hl)
  have e : m[l]? = some (m.getD l []) := by rw [List.getD_eq_getElem?_getD, List.getElem?_eq_getElem hlm]; rfl
  obtain ⟨A', c'', e1, o1⟩ := h.inner l _ e
  have hpos := hne _ (List.mem_of_getElem? e)
  obtain ⟨q1, q2⟩ := own_cap o1.1
  obtain ⟨x0, hx0⟩ := at_lt hpos
  obtain ⟨b, o, rfl, hbl, _⟩ := o1.row 0 _ (ints_at hx0)
  have hlo := (o1.1.lt b rfl).1
  refine ⟨b, o, c'', ?_, hlo, Nat.lt_of_lt_of_le hbl hb.size, by omega, q1, q2, fun k x hx => ?_⟩
  · rw [List.getElem?_map, hl, Option.map_some, List.getD_eq_getElem?_getD (l := vs), e1]
    try rfl
  · obtain ⟨b', o', e', _, hc⟩ := o1.row k _ (ints_at hx)
    injection e' with e'
    injection e' with e2 e3
    subst e2 e3
    exact (hb.cell (p := ⟨b, o + k, none⟩) hbl).trans hc
/-- free conditions in memory of the call's own -/
def FreeRes (m : List (List Int)) (w : World) (e : Ending) (w' : World) : Prop :=
  ∃ (g c : Nat) (C : List Value), e = .returned (.slice (some ⟨g, 0, none⟩) m.length c) ∧ w'.ownsRow w.heap.size 22 1 (.slice (some ⟨g, 0, none⟩) m.length c) m.length C ∧ Mat w' w'.heap.size (some ⟨g, 0, none⟩) m ∧ InF w.heap.size w' g C m ∧ Below w.heap.size w w'
set_option maxHeartbeats 4000000 in
theorem l12Free_any (n : Nat) (w : World) (h1 : 1 ≤ n) (h8 : n ≤ 8) : Calls Tryz.prog 31 #[.int .i64 n] w (FreeRes (freeM n) w) := by
  obtain ⟨j0, hj, hy0, hy1, hy2⟩ := info_parts info_row
  obtain ⟨t1, t2⟩ := trees_all h1 h8
  obtain ⟨t4, t3⟩ := trees_canC h1 h8
  have C0 := fun w => l03Trees_any n w h1 h8
  have EM : Hid (freeM n = (Tr.treesL n).filter keepC) := rfl
  obtain ⟨m, hm⟩ : ∃ m, m = Tr.treesL n := ⟨_, rfl⟩
  simp only [← hm] at C0
  rw [← hm] at t1 t2 t3 t4 EM
  obtain ⟨nm, hnm⟩ : ∃ nm, nm = m.length := ⟨_, rfl⟩
  rw [← hnm] at t2 t3
  simp only [← hnm] at C0
  have HN := Lib.hid hnm
  have H1 := Lib.hid t1
  have H4 := Lib.hid t4
  clear hm hnm t1 t4
  go_enter Tryz.func31, Tryz.ntmps31
  go_wp2_with fail
  refine (C0 _).mono ?_
  rintro e w1 ⟨A1, c1, vs1, rfl, own1, bel1⟩
  have HO := Lib.hid own1
  have HB := Lib.hid bel1
  have HRV : Hid (Row w1 w1.heap.size A1 vs1) := row_of_own own1.outer.1
  have hcap := own_cap own1.outer.1
  clear own1 bel1 C0
  go_wp2_with fail
  go_loopw [4, 5] (fun v i wr => ∃ (j q g cap : Nat) (C : List Value), v = .slice (some ⟨g, 0, none⟩) q cap ∧ i = .int .i64 j ∧ j ≤ nm ∧ Hid (q = (idxToC keepC m j).length) ∧ Hid (wr.ownsRow w1.heap.size 22 1 (.slice (some ⟨g, 0, none⟩) q cap) q C) ∧ Hid (C = selVC keepC m vs1 j) ∧ Hid (Below w1.heap.size w1 wr)) (fun _ i _ => nm - (intOf i).toNat)
  case atStart => exact ⟨0, 0, _, 0, [], rfl, rfl, Nat.zero_le _, rfl, (Growing.start w1 22).1, rfl, (Growing.start w1 22).2⟩
  case round =>
    obtain ⟨j, q, g, cap, C, rfl, rfl, hjn, HQ, HOW, HC, HBW⟩ := hrel
    have hqj : q ≤ j := by rw [HQ.out]; exact idxTo_leC _ _ _
    have hszw := HBW.out.size
    by_cases hlt : j < nm
    · obtain ⟨t, ht⟩ := at_lt (show j < m.length by rw [← HN.out]; exact hlt)
      have hmem := List.mem_of_getElem? ht
      have hlv := (H1.out t hmem).1
      obtain ⟨a1, a8⟩ := lv_bd hlv
      obtain ⟨Ak, ck, e5, o5⟩ := HO.out.inner j t ht
      obtain ⟨b, o, e1, hb, hck⟩ := (Row.below HRV.out HBW.out (Nat.le_refl _)) j _ e5
      obtain ⟨hlc, hcm⟩ := own_cap o5.1
      have hrow := (o5.below HBW.out (Nat.le_refl _)).row
      obtain ⟨tn, htn⟩ : ∃ tn, tn = t.length := ⟨_, rfl⟩
      rw [← htn] at hck hlc a1 a8 e5
      subst e1
      have hbz : b < wr.heap.size := by omega
      have HCL : Hid (∀ w', Below wr.heap.size wr w' → w'.cell? ⟨b, o + j, none⟩ = some (.slice Ak tn ck)) := fun w' hw' => (hw'.cell (p := ⟨b, o + j, none⟩) hbz).trans hck
      have BW1 : Hid (Below wr.heap.size wr wr) := Below.refl _ _
      have C1 := fun w' (bw : Below wr.heap.size wr w') => l04Roots_any Ak tn ck w1.heap.size t w' htn.symm hlv hlc (Nat.le_trans hszw bw.size) (Row.below hrow bw hszw)
      have HRT : Hid (Row wr wr.heap.size Ak (ints t)) := hrow.more hszw
      obtain ⟨⟨x, p0⟩, _, _, _, p4⟩ := free_parts hlv
      rw [← htn] at p4
      have HPK := Lib.hid p0
      have HFL := Lib.hid p4
      have HTL := Lib.hid htn.symm
      have HKE := Lib.hid (keepC_eq hlv (H4.out t hmem))
      rw [← htn] at HKE
      have CD := fun w' (bw : Below wr.heap.size wr w') => l04Double_any Ak tn ck w1.heap.size t w' htn.symm hlv hlc (Nat.le_trans hszw bw.size) (Row.below hrow bw hszw)
      have HST := Lib.hid (idxTo_stepC (p := keepC) ht)
      have HEV : Hid (vs1[j]? = some (.slice Ak tn ck)) := e5
      obtain ⟨R, hR⟩ : ∃ R, R = rootsL t := ⟨_, rfl⟩
      rw [← hR] at HPK
      simp only [← hR] at C1
      have hR1 : 0 < R.length := by
        rcases Nat.lt_or_ge 0 R.length with q | q
        · exact q
        · have := HPK.out; rw [List.getElem?_eq_none q] at this; cases this
      obtain ⟨nr, hnr⟩ : ∃ nr, nr = R.length := ⟨_, rfl⟩
      simp only [← hnr] at C1
      rw [← hnr] at hR1
      obtain ⟨sm, hsm⟩ : ∃ sm, sm = eqL (freeL t) t := ⟨_, rfl⟩
      obtain ⟨db, hdb⟩ : ∃ db, db = Tr.doubleL t (tn - 1) := ⟨_, rfl⟩
      rw [← hsm, ← hdb] at HKE
      simp only [← hdb] at CD
      have HSM := Lib.hid hsm
      clear hdb hsm hR hnr htn ht hmem hlv hck hlc hcm hrow p0 p4 hb e5 o5
      cases sm
      · have hs : keepC t = false := by rw [← HKE.out]; rfl
        clear HKE CD
        go_wp2_with fail
        refine wp_region_noPanic ?_
        refine wp_region_held_drew (S := (fun w' => w'.cell? ⟨b, o + j, none⟩ = some (.slice Ak tn ck))) (by kernel_rfl) ?_ (fun hHeld => ?_)
        · exact HCL.out _ (below_drew' BW1.out)
        refine wpAnyH_take (i := 0) (oi := _) (v := ?_) rfl (by kernel_rfl) (by kernel_rfl) (by kernel_rfl) (fun _ _ _ h => h) (Or.inl ⟨by kernel_rfl, ?_⟩) (by assumption) ?_
        rotate_left
        · (intro w hSw; (try dsimp only at hSw); go_simp; try (with_reducible rfl))
        try simp only [Act.put, List.setIfInBounds_toArray, List.set_cons_zero, List.set_cons_succ, List.getElem_toArray, List.getElem_cons_zero, List.getElem_cons_succ]
        refine wpAnyH_take (i := 1) (oi := _) (v := ?_) rfl (by kernel_rfl) (by kernel_rfl) (by kernel_rfl) (fun _ _ _ h => h) (Or.inl ⟨by kernel_rfl, ?_⟩) (by assumption) ?_
        rotate_left
        · (intro w hSw; (try dsimp only at hSw); go_simp; try (with_reducible rfl))
        try simp only [Act.put, List.setIfInBounds_toArray, List.set_cons_zero, List.set_cons_succ, List.getElem_toArray, List.getElem_cons_zero, List.getElem_cons_succ]
        refine wpAnyH_take (i := 2) (oi := _) (v := ?_) rfl (by kernel_rfl) (by kernel_rfl) (by kernel_rfl) (fun _ _ _ h => h) (Or.inl ⟨by kernel_rfl, ?_⟩) (by assumption) ?_
        rotate_left
        · (intro w hSw; (try dsimp only at hSw); go_simp; try (with_reducible rfl))
        try simp only [Act.put, List.setIfInBounds_toArray, List.set_cons_zero, List.set_cons_succ, List.getElem_toArray, List.getElem_cons_zero, List.getElem_cons_succ]
        refine wpAnyH_take (i := 3) (oi := _) (v := ?_) rfl (by kernel_rfl) (by kernel_rfl) (by kernel_rfl) (fun _ _ _ h => h) (Or.inl ⟨by kernel_rfl, ?_⟩) (by assumption) ?_
        rotate_left
        · (intro w hSw; (try dsimp only at hSw); go_simp; try (with_reducible rfl))
        try simp only [Act.put, List.setIfInBounds_toArray, List.set_cons_zero, List.set_cons_succ, List.getElem_toArray, List.getElem_cons_zero, List.getElem_cons_succ]
        refine wpAnyH_take (i := 8) (oi := _) (v := ?_) rfl (by kernel_rfl) (by kernel_rfl) (by kernel_rfl) (fun _ _ _ h => h) (Or.inl ⟨by kernel_rfl, ?_⟩) (by assumption) ?_
        rotate_left
        · (intro w hSw; (try dsimp only at hSw); go_simp; try (with_reducible rfl))
        try simp only [Act.put, List.setIfInBounds_toArray, List.set_cons_zero, List.set_cons_succ, List.getElem_toArray, List.getElem_cons_zero, List.getElem_cons_succ]
        refine wpAnyH_take (i := 9) (oi := _) (v := ?_) rfl (by kernel_rfl) (by kernel_rfl) (by kernel_rfl) (fun _ _ _ h => h) (Or.inl ⟨by kernel_rfl, ?_⟩) (by assumption) ?_
        rotate_left
        · (intro w hSw; (try dsimp only at hSw); go_simp; try (with_reducible rfl))
        try simp only [Act.put, List.setIfInBounds_toArray, List.set_cons_zero, List.set_cons_succ, List.getElem_toArray, List.getElem_cons_zero, List.getElem_cons_succ]
        refine wpAnyH_take (i := 10) (oi := _) (v := ?_) rfl (by kernel_rfl) (by kernel_rfl) (by kernel_rfl) (fun _ _ _ h => h) (Or.inl ⟨by kernel_rfl, ?_⟩) (by assumption) ?_
        rotate_left
        · (intro w hSw; (try dsimp only at hSw); go_simp; try (with_reducible rfl))
        try simp only [Act.put, List.setIfInBounds_toArray, List.set_cons_zero, List.set_cons_succ, List.getElem_toArray, List.getElem_cons_zero, List.getElem_cons_succ]
        refine wpAnyH_take (i := 11) (oi := _) (v := ?_) rfl (by kernel_rfl) (by kernel_rfl) (by kernel_rfl) (fun _ _ _ h => h) (Or.inl ⟨by kernel_rfl, ?_⟩) (by assumption) ?_
        rotate_left
        · (intro w hSw; (try dsimp only at hSw); go_simp; try (with_reducible rfl))
        try simp only [Act.put, List.setIfInBounds_toArray, List.set_cons_zero, List.set_cons_succ, List.getElem_toArray, List.getElem_cons_zero, List.getElem_cons_succ]
        have BW2 := below_drew' BW1.out
        refine wpAnyH_ready (rs := [4]) (by kernel_rfl) (by simp) (AllReadyH.cons (o := _) rfl (fun K hK => ?_) AllReadyH.nil)
        go_simp
        (go_at_call 50; refine (C1 _ BW2).mono ?_; rintro e w3 ⟨As, cs, rfl, hcs, hcsm, HS, bel3⟩)
        obtain ⟨bs, os, Ks, ks, es, hbs, hcs0, _, _, hks, hrows⟩ := HS.at HPK.out
        cases es
        rw [Nat.zero_mul, Nat.add_zero] at hcs0
        simp only at hcs0 hrows
        rw [HFL.out] at hcs0
        have HRs := Lib.hid hrows.row
        have BW3 := BW2.trans (bel3.mono BW2.size)
        clear HS hrows hks bel3 C1
        go_wp2_with fail
        refine hK.out _ _ ?_ (fun hHeld => ?_)
        · exact HCL.out _ BW3
        clear hK K
        try simp only [Act.put, List.setIfInBounds_toArray, List.set_cons_zero, List.set_cons_succ, List.getElem_toArray, List.getElem_cons_zero, List.getElem_cons_succ]
        refine wpAnyH_take (i := 5) (oi := _) (v := ?_) rfl (by kernel_rfl) (by kernel_rfl) (by kernel_rfl) (fun _ _ _ h => h) (Or.inl ⟨by kernel_rfl, ?_⟩) (by assumption) ?_
        rotate_left
        · (intro w hSw; (try dsimp only at hSw); go_simp; try (with_reducible rfl))
        try simp only [Act.put, List.setIfInBounds_toArray, List.set_cons_zero, List.set_cons_succ, List.getElem_toArray, List.getElem_cons_zero, List.getElem_cons_succ]
        refine wpAnyH_take (i := 6) (oi := _) (v := ?_) rfl (by kernel_rfl) (by kernel_rfl) (by kernel_rfl) (fun _ _ _ h => h) (Or.inl ⟨by kernel_rfl, ?_⟩) (by assumption) ?_
        rotate_left
        · (intro w hSw; (try dsimp only at hSw); go_simp; try (with_reducible rfl))
        try simp only [Act.put, List.setIfInBounds_toArray, List.set_cons_zero, List.set_cons_succ, List.getElem_toArray, List.getElem_cons_zero, List.getElem_cons_succ]
        refine wpAnyH_ready (rs := [7]) (by kernel_rfl) (by simp) (AllReadyH.cons (o := _) rfl (fun K hK => ?_) AllReadyH.nil)
        go_simp
        refine hK.out _ _ ?_ (fun hHeld => ?_)
        · exact HCL.out _ BW3
        clear hK K
        try simp only [Act.put, List.setIfInBounds_toArray, List.set_cons_zero, List.set_cons_succ, List.getElem_toArray, List.getElem_cons_zero, List.getElem_cons_succ]
        refine wpAnyH_ready (rs := [12]) (by kernel_rfl) (by simp) (AllReadyH.cons (o := _) rfl (fun K hK => ?_) AllReadyH.nil)
        go_simp
        (go_at_call 32; refine (l01Same_any Ks Ak tn tn ks ck _ _ (freeL t) t w3 HFL.out HTL.out (by omega) (by omega) HRs.out (HRT.out.below BW3 (Nat.le_refl _))).mono ?_; rintro e w4 ⟨rfl, m4, rfl⟩)
        rw [← HSM.out]
        have BW4 : Hid (Below wr.heap.size wr (w3.drewN m4)) := below_drewN BW3 _
        go_wp2_with fail
        refine hK.out _ _ ?_ (fun hHeld => ?_)
        · exact HCL.out _ BW4.out
        clear hK K
        try simp only [Act.put, List.setIfInBounds_toArray, List.set_cons_zero, List.set_cons_succ, List.getElem_toArray, List.getElem_cons_zero, List.getElem_cons_succ]
        refine wpAnyH_take (i := 13) (oi := _) (v := ?_) rfl (by kernel_rfl) (by kernel_rfl) (by kernel_rfl) (fun _ _ _ h => h) (Or.inl ⟨by kernel_rfl, ?_⟩) (by assumption) ?_
        rotate_left
        · (intro w hSw; (try dsimp only at hSw); go_simp; try (with_reducible rfl))
        try simp only [Act.put, List.setIfInBounds_toArray, List.set_cons_zero, List.set_cons_succ, List.getElem_toArray, List.getElem_cons_zero, List.getElem_cons_succ]
        refine wpAnyH_skipN (by assumption) [(14, 29), (15, 30), (16, 31), (17, 32), (18, 33), (19, 34)] 1 _ _ (by kernel_rfl) ?_
        simp only [List.foldl, Act.put, List.setIfInBounds_toArray, List.set_cons_zero, List.set_cons_succ]
        refine wpAnyH_take (i := 20) (oi := _) (v := ?_) rfl (by kernel_rfl) (by kernel_rfl) (by kernel_rfl) (fun _ _ _ h => h) (Or.inl ⟨by kernel_rfl, ?_⟩) (by assumption) ?_
        rotate_left
        · (intro w hSw; (try dsimp only at hSw); go_simp; try (with_reducible rfl))
        try simp only [Act.put, List.setIfInBounds_toArray, List.set_cons_zero, List.set_cons_succ, List.getElem_toArray, List.getElem_cons_zero, List.getElem_cons_succ]
        refine wpAnyH_done (by kernel_rfl) ?_ _
        refine NoPanic.normal ?_
        have BW5 := BW4
        generalize w3.drewN m4 = W4 at BW5 ⊢
        have GB : Hid (Below w1.heap.size w1 W4) := HBW.out.trans (BW5.out.mono hszw)
        have HOW2 : Hid (W4.ownsRow w1.heap.size 22 1 (.slice (some ⟨g, 0, none⟩) q cap) q C) := ((OwnR.of HOW.out).below BW5.out (Nat.le_refl _)).1
        have hcell := HCL.out _ BW5.out
        have hszz := GB.out.size
        have hgl := (HOW2.out.lt g rfl).1
        clear HRs HRT HCL BW1 BW2 BW3 BW4 BW5 HBW HOW hHeld hcs0 hbs
        have HIX : Hid (idxToC keepC m (j + 1) = idxToC keepC m j) := by rw [Hid, HST.out, hs]; simp
        have HQ2 : Hid (q = (idxToC keepC m (j + 1)).length) := by rw [Hid, HIX.out]; exact HQ.out
        have HC2 : Hid (C = selVC keepC m vs1 (j + 1)) := by unfold selVC; rw [Hid, HIX.out]; exact HC.out
        clear hs hcell
        go_wp2
        go_roundw
        case rel => exact ⟨j + 1, q, g, cap, C, rfl, by go_num, by omega, HQ2, HOW2, HC2, GB⟩
        case measure => simp [intOf]; omega
      · cases db
        · have hs : keepC t = true := by rw [← HKE.out]; rfl
          clear HKE
          go_wp2_with fail
          refine wp_region_noPanic ?_
          refine wp_region_held_drew (S := (fun w' => w'.cell? ⟨b, o + j, none⟩ = some (.slice Ak tn ck))) (by kernel_rfl) ?_ (fun hHeld => ?_)
          · exact HCL.out _ (below_drew' BW1.out)
          refine wpAnyH_take (i := 0) (oi := _) (v := ?_) rfl (by kernel_rfl) (by kernel_rfl) (by kernel_rfl) (fun _ _ _ h => h) (Or.inl ⟨by kernel_rfl, ?_⟩) (by assumption) ?_
          rotate_left
          · (intro w hSw; (try dsimp only at hSw); go_simp; try (with_reducible rfl))
          try simp only [Act.put, List.setIfInBounds_toArray, List.set_cons_zero, List.set_cons_succ, List.getElem_toArray, List.getElem_cons_zero, List.getElem_cons_succ]
          refine wpAnyH_take (i := 1) (oi := _) (v := ?_) rfl (by kernel_rfl) (by kernel_rfl) (by kernel_rfl) (fun _ _ _ h => h) (Or.inl ⟨by kernel_rfl, ?_⟩) (by assumption) ?_
          rotate_left
          · (intro w hSw; (try dsimp only at hSw); go_simp; try (with_reducible rfl))
          try simp only [Act.put, List.setIfInBounds_toArray, List.set_cons_zero, List.set_cons_succ, List.getElem_toArray, List.getElem_cons_zero, List.getElem_cons_succ]
          refine wpAnyH_take (i := 2) (oi := _) (v := ?_) rfl (by kernel_rfl) (by kernel_rfl) (by kernel_rfl) (fun _ _ _ h => h) (Or.inl ⟨by kernel_rfl, ?_⟩) (by assumption) ?_
          rotate_left
          · (intro w hSw; (try dsimp only at hSw); go_simp; try (with_reducible rfl))
          try simp only [Act.put, List.setIfInBounds_toArray, List.set_cons_zero, List.set_cons_succ, List.getElem_toArray, List.getElem_cons_zero, List.getElem_cons_succ]
          refine wpAnyH_take (i := 3) (oi := _) (v := ?_) rfl (by kernel_rfl) (by kernel_rfl) (by kernel_rfl) (fun _ _ _ h => h) (Or.inl ⟨by kernel_rfl, ?_⟩) (by assumption) ?_
          rotate_left
          · (intro w hSw; (try dsimp only at hSw); go_simp; try (with_reducible rfl))
          try simp only [Act.put, List.setIfInBounds_toArray, List.set_cons_zero, List.set_cons_succ, List.getElem_toArray, List.getElem_cons_zero, List.getElem_cons_succ]
          refine wpAnyH_take (i := 8) (oi := _) (v := ?_) rfl (by kernel_rfl) (by kernel_rfl) (by kernel_rfl) (fun _ _ _ h => h) (Or.inl ⟨by kernel_rfl, ?_⟩) (by assumption) ?_
          rotate_left
          · (intro w hSw; (try dsimp only at hSw); go_simp; try (with_reducible rfl))
          try simp only [Act.put, List.setIfInBounds_toArray, List.set_cons_zero, List.set_cons_succ, List.getElem_toArray, List.getElem_cons_zero, List.getElem_cons_succ]
          refine wpAnyH_take (i := 9) (oi := _) (v := ?_) rfl (by kernel_rfl) (by kernel_rfl) (by kernel_rfl) (fun _ _ _ h => h) (Or.inl ⟨by kernel_rfl, ?_⟩) (by assumption) ?_
          rotate_left
          · (intro w hSw; (try dsimp only at hSw); go_simp; try (with_reducible rfl))
          try simp only [Act.put, List.setIfInBounds_toArray, List.set_cons_zero, List.set_cons_succ, List.getElem_toArray, List.getElem_cons_zero, List.getElem_cons_succ]
          refine wpAnyH_take (i := 10) (oi := _) (v := ?_) rfl (by kernel_rfl) (by kernel_rfl) (by kernel_rfl) (fun _ _ _ h => h) (Or.inl ⟨by kernel_rfl, ?_⟩) (by assumption) ?_
          rotate_left
          · (intro w hSw; (try dsimp only at hSw); go_simp; try (with_reducible rfl))
          try simp only [Act.put, List.setIfInBounds_toArray, List.set_cons_zero, List.set_cons_succ, List.getElem_toArray, List.getElem_cons_zero, List.getElem_cons_succ]
          refine wpAnyH_take (i := 11) (oi := _) (v := ?_) rfl (by kernel_rfl) (by kernel_rfl) (by kernel_rfl) (fun _ _ _ h => h) (Or.inl ⟨by kernel_rfl, ?_⟩) (by assumption) ?_
          rotate_left
          · (intro w hSw; (try dsimp only at hSw); go_simp; try (with_reducible rfl))
          try simp only [Act.put, List.setIfInBounds_toArray, List.set_cons_zero, List.set_cons_succ, List.getElem_toArray, List.getElem_cons_zero, List.getElem_cons_succ]
          have BW2 := below_drew' BW1.out
          refine wpAnyH_ready (rs := [4]) (by kernel_rfl) (by simp) (AllReadyH.cons (o := _) rfl (fun K hK => ?_) AllReadyH.nil)
          go_simp
          (go_at_call 50; refine (C1 _ BW2).mono ?_; rintro e w3 ⟨As, cs, rfl, hcs, hcsm, HS, bel3⟩)
          obtain ⟨bs, os, Ks, ks, es, hbs, hcs0, _, _, hks, hrows⟩ := HS.at HPK.out
          cases es
          rw [Nat.zero_mul, Nat.add_zero] at hcs0
          simp only at hcs0 hrows
          rw [HFL.out] at hcs0
          have HRs := Lib.hid hrows.row
          have BW3 := BW2.trans (bel3.mono BW2.size)
          clear HS hrows hks bel3 C1
          go_wp2_with fail
          refine hK.out _ _ ?_ (fun hHeld => ?_)
          · exact HCL.out _ BW3
          clear hK K
          try simp only [Act.put, List.setIfInBounds_toArray, List.set_cons_zero, List.set_cons_succ, List.getElem_toArray, List.getElem_cons_zero, List.getElem_cons_succ]
          refine wpAnyH_take (i := 5) (oi := _) (v := ?_) rfl (by kernel_rfl) (by kernel_rfl) (by kernel_rfl) (fun _ _ _ h => h) (Or.inl ⟨by kernel_rfl, ?_⟩) (by assumption) ?_
          rotate_left
          · (intro w hSw; (try dsimp only at hSw); go_simp; try (with_reducible rfl))
          try simp only [Act.put, List.setIfInBounds_toArray, List.set_cons_zero, List.set_cons_succ, List.getElem_toArray, List.getElem_cons_zero, List.getElem_cons_succ]
          refine wpAnyH_take (i := 6) (oi := _) (v := ?_) rfl (by kernel_rfl) (by kernel_rfl) (by kernel_rfl) (fun _ _ _ h => h) (Or.inl ⟨by kernel_rfl, ?_⟩) (by assumption) ?_
          rotate_left
          · (intro w hSw; (try dsimp only at hSw); go_simp; try (with_reducible rfl))
          try simp only [Act.put, List.setIfInBounds_toArray, List.set_cons_zero, List.set_cons_succ, List.getElem_toArray, List.getElem_cons_zero, List.getElem_cons_succ]
          refine wpAnyH_ready (rs := [7]) (by kernel_rfl) (by simp) (AllReadyH.cons (o := _) rfl (fun K hK => ?_) AllReadyH.nil)
          go_simp
          refine hK.out _ _ ?_ (fun hHeld => ?_)
          · exact HCL.out _ BW3
          clear hK K
          try simp only [Act.put, List.setIfInBounds_toArray, List.set_cons_zero, List.set_cons_succ, List.getElem_toArray, List.getElem_cons_zero, List.getElem_cons_succ]
          refine wpAnyH_ready (rs := [12]) (by kernel_rfl) (by simp) (AllReadyH.cons (o := _) rfl (fun K hK => ?_) AllReadyH.nil)
          go_simp
          (go_at_call 32; refine (l01Same_any Ks Ak tn tn ks ck _ _ (freeL t) t w3 HFL.out HTL.out (by omega) (by omega) HRs.out (HRT.out.below BW3 (Nat.le_refl _))).mono ?_; rintro e w4 ⟨rfl, m4, rfl⟩)
          rw [← HSM.out]
          have BW4 : Hid (Below wr.heap.size wr (w3.drewN m4)) := below_drewN BW3 _
          go_wp2_with fail
          refine hK.out _ _ ?_ (fun hHeld => ?_)
          · exact HCL.out _ BW4.out
          clear hK K
          try simp only [Act.put, List.setIfInBounds_toArray, List.set_cons_zero, List.set_cons_succ, List.getElem_toArray, List.getElem_cons_zero, List.getElem_cons_succ]
          refine wpAnyH_take (i := 13) (oi := _) (v := ?_) rfl (by kernel_rfl) (by kernel_rfl) (by kernel_rfl) (fun _ _ _ h => h) (Or.inl ⟨by kernel_rfl, ?_⟩) (by assumption) ?_
          rotate_left
          · (intro w hSw; (try dsimp only at hSw); go_simp; try (with_reducible rfl))
          try simp only [Act.put, List.setIfInBounds_toArray, List.set_cons_zero, List.set_cons_succ, List.getElem_toArray, List.getElem_cons_zero, List.getElem_cons_succ]
          refine wpAnyH_take (i := 14) (oi := _) (v := ?_) rfl (by kernel_rfl) (by kernel_rfl) (by kernel_rfl) (fun _ _ _ h => h) (Or.inl ⟨by kernel_rfl, ?_⟩) (by assumption) ?_
          rotate_left
          · (intro w hSw; (try dsimp only at hSw); go_simp; try (with_reducible rfl))
          try simp only [Act.put, List.setIfInBounds_toArray, List.set_cons_zero, List.set_cons_succ, List.getElem_toArray, List.getElem_cons_zero, List.getElem_cons_succ]
          refine wpAnyH_take (i := 15) (oi := _) (v := ?_) rfl (by kernel_rfl) (by kernel_rfl) (by kernel_rfl) (fun _ _ _ h => h) (Or.inl ⟨by kernel_rfl, ?_⟩) (by assumption) ?_
          rotate_left
          · (intro w hSw; (try dsimp only at hSw); go_simp; try (with_reducible rfl))
          try simp only [Act.put, List.setIfInBounds_toArray, List.set_cons_zero, List.set_cons_succ, List.getElem_toArray, List.getElem_cons_zero, List.getElem_cons_succ]
          refine wpAnyH_take (i := 16) (oi := _) (v := ?_) rfl (by kernel_rfl) (by kernel_rfl) (by kernel_rfl) (fun _ _ _ h => h) (Or.inl ⟨by kernel_rfl, ?_⟩) (by assumption) ?_
          rotate_left
          · (intro w hSw; (try dsimp only at hSw); go_simp; try (with_reducible rfl))
          try simp only [Act.put, List.setIfInBounds_toArray, List.set_cons_zero, List.set_cons_succ, List.getElem_toArray, List.getElem_cons_zero, List.getElem_cons_succ]
          refine wpAnyH_take (i := 17) (oi := _) (v := ?_) rfl (by kernel_rfl) (by kernel_rfl) (by kernel_rfl) (fun _ _ _ h => h) (Or.inl ⟨by kernel_rfl, ?_⟩) (by assumption) ?_
          rotate_left
          · (intro w hSw; (try dsimp only at hSw); go_simp; try (with_reducible rfl))
          try simp only [Act.put, List.setIfInBounds_toArray, List.set_cons_zero, List.set_cons_succ, List.getElem_toArray, List.getElem_cons_zero, List.getElem_cons_succ]
          refine wpAnyH_ready (rs := [18]) (by kernel_rfl) (by simp) (AllReadyH.cons (o := _) rfl (fun K hK => ?_) AllReadyH.nil)
          go_simp
          (go_at_call 51; refine (CD _ BW4.out).mono ?_; rintro e W4 ⟨rfl, bel5⟩)
          have BW5 : Hid (Below wr.heap.size wr W4) := BW4.out.trans (bel5.mono BW4.out.size)
          clear bel5
          go_wp2_with fail
          refine hK.out _ _ ?_ (fun hHeld => ?_)
          · exact HCL.out _ BW5.out
          clear hK K
          try simp only [Act.put, List.setIfInBounds_toArray, List.set_cons_zero, List.set_cons_succ, List.getElem_toArray, List.getElem_cons_zero, List.getElem_cons_succ]
          refine wpAnyH_take (i := 19) (oi := _) (v := ?_) rfl (by kernel_rfl) (by kernel_rfl) (by kernel_rfl) (fun _ _ _ h => h) (Or.inl ⟨by kernel_rfl, ?_⟩) (by assumption) ?_
          rotate_left
          · (intro w hSw; (try dsimp only at hSw); go_simp; try (with_reducible rfl))
          try simp only [Act.put, List.setIfInBounds_toArray, List.set_cons_zero, List.set_cons_succ, List.getElem_toArray, List.getElem_cons_zero, List.getElem_cons_succ]
          refine wpAnyH_take (i := 20) (oi := _) (v := ?_) rfl (by kernel_rfl) (by kernel_rfl) (by kernel_rfl) (fun _ _ _ h => h) (Or.inl ⟨by kernel_rfl, ?_⟩) (by assumption) ?_
          rotate_left
          · (intro w hSw; (try dsimp only at hSw); go_simp; try (with_reducible rfl))
          try simp only [Act.put, List.setIfInBounds_toArray, List.set_cons_zero, List.set_cons_succ, List.getElem_toArray, List.getElem_cons_zero, List.getElem_cons_succ]
          refine wpAnyH_done (by kernel_rfl) ?_ _
          refine NoPanic.normal ?_
          have GB : Hid (Below w1.heap.size w1 W4) := HBW.out.trans (BW5.out.mono hszw)
          have HOW2 : Hid (W4.ownsRow w1.heap.size 22 1 (.slice (some ⟨g, 0, none⟩) q cap) q C) := ((OwnR.of HOW.out).below BW5.out (Nat.le_refl _)).1
          have hcell := HCL.out _ BW5.out
          have hszz := GB.out.size
          have hgl := (HOW2.out.lt g rfl).1
          clear HRs HRT HCL BW1 BW2 BW3 BW4 BW5 HBW HOW hHeld hcs0 hbs
          have HIX : Hid (idxToC keepC m (j + 1) = idxToC keepC m j ++ [j]) := by rw [Hid, HST.out, hs]; simp
          have HQ2 : Hid (q + 1 = (idxToC keepC m (j + 1)).length) := by rw [Hid, HIX.out, List.length_append, ← HQ.out]; rfl
          have HC2 : Hid (C ++ [.slice Ak tn ck] = selVC keepC m vs1 (j + 1)) := by
            unfold selVC
            rw [Hid, HIX.out, List.map_append, HC.out, List.map_singleton, List.getD_eq_getElem?_getD, HEV.out]; rfl
          clear hs
          go_wp2_with (at_builtin; refine wpList_append_lies _ rfl (.tmp 36) (.tmp 41) 32 rfl w1.heap.size 22 j0 _ 1 24 Tryz.underlying32 hj hy0 hy1 hy2 rfl (by omega) (.slice (some ⟨g, 0, none⟩) q cap) q C rfl (HOW2.out.alloc _) ⟨W4.heap.size, 0, none⟩ 1 1 [.slice Ak tn ck] rfl rfl (World.news_of_block (cs := #[.slice Ak tn ck]) (heap_alloc_new _ _)) (by simp [Value.oneCell']) (by omega) (by simp only [maxLen]; omega) (by omega) (by simp; omega) (W4.heap.size + 1) (by simp) ?_; intro g5 cap5 w5 hown5 hgrow5 hat5 hlt5)
          have GB5 : Hid (Below w1.heap.size w1 w5) := (GB.out.alloc hszz _).grown hgrow5 (by simp; omega) (fun k hk => by cases hk; exact hgl)
          have HOW5 := Lib.hid hown5
          clear hown5 hgrow5 hat5
          go_wp2
          go_roundw
          case rel => exact ⟨j + 1, q + 1, g5, cap5, _, rfl, by go_num, by omega, HQ2, HOW5, HC2, GB5⟩
          case measure => simp [intOf]; omega
        · have hs : keepC t = false := by rw [← HKE.out]; rfl
          clear HKE
          go_wp2_with fail
          refine wp_region_noPanic ?_
          refine wp_region_held_drew (S := (fun w' => w'.cell? ⟨b, o + j, none⟩ = some (.slice Ak tn ck))) (by kernel_rfl) ?_ (fun hHeld => ?_)
          · exact HCL.out _ (below_drew' BW1.out)
          refine wpAnyH_take (i := 0) (oi := _) (v := ?_) rfl (by kernel_rfl) (by kernel_rfl) (by kernel_rfl) (fun _ _ _ h => h) (Or.inl ⟨by kernel_rfl, ?_⟩) (by assumption) ?_
          rotate_left
          · (intro w hSw; (try dsimp only at hSw); go_simp; try (with_reducible rfl))
          try simp only [Act.put, List.setIfInBounds_toArray, List.set_cons_zero, List.set_cons_succ, List.getElem_toArray, List.getElem_cons_zero, List.getElem_cons_succ]
          refine wpAnyH_take (i := 1) (oi := _) (v := ?_) rfl (by kernel_rfl) (by kernel_rfl) (by kernel_rfl) (fun _ _ _ h => h) (Or.inl ⟨by kernel_rfl, ?_⟩) (by assumption) ?_
          rotate_left
          · (intro w hSw; (try dsimp only at hSw); go_simp; try (with_reducible rfl))
          try simp only [Act.put, List.setIfInBounds_toArray, List.set_cons_zero, List.set_cons_succ, List.getElem_toArray, List.getElem_cons_zero, List.getElem_cons_succ]
          refine wpAnyH_take (i := 2) (oi := _) (v := ?_) rfl (by kernel_rfl) (by kernel_rfl) (by kernel_rfl) (fun _ _ _ h => h) (Or.inl ⟨by kernel_rfl, ?_⟩) (by assumption) ?_
          rotate_left
          · (intro w hSw; (try dsimp only at hSw); go_simp; try (with_reducible rfl))
          try simp only [Act.put, List.setIfInBounds_toArray, List.set_cons_zero, List.set_cons_succ, List.getElem_toArray, List.getElem_cons_zero, List.getElem_cons_succ]
          refine wpAnyH_take (i := 3) (oi := _) (v := ?_) rfl (by kernel_rfl) (by kernel_rfl) (by kernel_rfl) (fun _ _ _ h => h) (Or.inl ⟨by kernel_rfl, ?_⟩) (by assumption) ?_
          rotate_left
          · (intro w hSw; (try dsimp only at hSw); go_simp; try (with_reducible rfl))
          try simp only [Act.put, List.setIfInBounds_toArray, List.set_cons_zero, List.set_cons_succ, List.getElem_toArray, List.getElem_cons_zero, List.getElem_cons_succ]
          refine wpAnyH_take (i := 8) (oi := _) (v := ?_) rfl (by kernel_rfl) (by kernel_rfl) (by kernel_rfl) (fun _ _ _ h => h) (Or.inl ⟨by kernel_rfl, ?_⟩) (by assumption) ?_
          rotate_left
          · (intro w hSw; (try dsimp only at hSw); go_simp; try (with_reducible rfl))
          try simp only [Act.put, List.setIfInBounds_toArray, List.set_cons_zero, List.set_cons_succ, List.getElem_toArray, List.getElem_cons_zero, List.getElem_cons_succ]
          refine wpAnyH_take (i := 9) (oi := _) (v := ?_) rfl (by kernel_rfl) (by kernel_rfl) (by kernel_rfl) (fun _ _ _ h => h) (Or.inl ⟨by kernel_rfl, ?_⟩) (by assumption) ?_
          rotate_left
          · (intro w hSw; (try dsimp only at hSw); go_simp; try (with_reducible rfl))
          try simp only [Act.put, List.setIfInBounds_toArray, List.set_cons_zero, List.set_cons_succ, List.getElem_toArray, List.getElem_cons_zero, List.getElem_cons_succ]
          refine wpAnyH_take (i := 10) (oi := _) (v := ?_) rfl (by kernel_rfl) (by kernel_rfl) (by kernel_rfl) (fun _ _ _ h => h) (Or.inl ⟨by kernel_rfl, ?_⟩) (by assumption) ?_
          rotate_left
          · (intro w hSw; (try dsimp only at hSw); go_simp; try (with_reducible rfl))
          try simp only [Act.put, List.setIfInBounds_toArray, List.set_cons_zero, List.set_cons_succ, List.getElem_toArray, List.getElem_cons_zero, List.getElem_cons_succ]
          refine wpAnyH_take (i := 11) (oi := _) (v := ?_) rfl (by kernel_rfl) (by kernel_rfl) (by kernel_rfl) (fun _ _ _ h => h) (Or.inl ⟨by kernel_rfl, ?_⟩) (by assumption) ?_
          rotate_left
          · (intro w hSw; (try dsimp only at hSw); go_simp; try (with_reducible rfl))
          try simp only [Act.put, List.setIfInBounds_toArray, List.set_cons_zero, List.set_cons_succ, List.getElem_toArray, List.getElem_cons_zero, List.getElem_cons_succ]
          have BW2 := below_drew' BW1.out
          refine wpAnyH_ready (rs := [4]) (by kernel_rfl) (by simp) (AllReadyH.cons (o := _) rfl (fun K hK => ?_) AllReadyH.nil)
          go_simp
          (go_at_call 50; refine (C1 _ BW2).mono ?_; rintro e w3 ⟨As, cs, rfl, hcs, hcsm, HS, bel3⟩)
          obtain ⟨bs, os, Ks, ks, es, hbs, hcs0, _, _, hks, hrows⟩ := HS.at HPK.out
          cases es
          rw [Nat.zero_mul, Nat.add_zero] at hcs0
          simp only at hcs0 hrows
          rw [HFL.out] at hcs0
          have HRs := Lib.hid hrows.row
          have BW3 := BW2.trans (bel3.mono BW2.size)
          clear HS hrows hks bel3 C1
          go_wp2_with fail
          refine hK.out _ _ ?_ (fun hHeld => ?_)
          · exact HCL.out _ BW3
          clear hK K
          try simp only [Act.put, List.setIfInBounds_toArray, List.set_cons_zero, List.set_cons_succ, List.getElem_toArray, List.getElem_cons_zero, List.getElem_cons_succ]
          refine wpAnyH_take (i := 5) (oi := _) (v := ?_) rfl (by kernel_rfl) (by kernel_rfl) (by kernel_rfl) (fun _ _ _ h => h) (Or.inl ⟨by kernel_rfl, ?_⟩) (by assumption) ?_
          rotate_left
          · (intro w hSw; (try dsimp only at hSw); go_simp; try (with_reducible rfl))
          try simp only [Act.put, List.setIfInBounds_toArray, List.set_cons_zero, List.set_cons_succ, List.getElem_toArray, List.getElem_cons_zero, List.getElem_cons_succ]
          refine wpAnyH_take (i := 6) (oi := _) (v := ?_) rfl (by kernel_rfl) (by kernel_rfl) (by kernel_rfl) (fun _ _ _ h => h) (Or.inl ⟨by kernel_rfl, ?_⟩) (by assumption) ?_
          rotate_left
          · (intro w hSw; (try dsimp only at hSw); go_simp; try (with_reducible rfl))
          try simp only [Act.put, List.setIfInBounds_toArray, List.set_cons_zero, List.set_cons_succ, List.getElem_toArray, List.getElem_cons_zero, List.getElem_cons_succ]
          refine wpAnyH_ready (rs := [7]) (by kernel_rfl) (by simp) (AllReadyH.cons (o := _) rfl (fun K hK => ?_) AllReadyH.nil)
          go_simp
          refine hK.out _ _ ?_ (fun hHeld => ?_)
          · exact HCL.out _ BW3
          clear hK K
          try simp only [Act.put, List.setIfInBounds_toArray, List.set_cons_zero, List.set_cons_succ, List.getElem_toArray, List.getElem_cons_zero, List.getElem_cons_succ]
          refine wpAnyH_ready (rs := [12]) (by kernel_rfl) (by simp) (AllReadyH.cons (o := _) rfl (fun K hK => ?_) AllReadyH.nil)
          go_simp
          (go_at_call 32; refine (l01Same_any Ks Ak tn tn ks ck _ _ (freeL t) t w3 HFL.out HTL.out (by omega) (by omega) HRs.out (HRT.out.below BW3 (Nat.le_refl _))).mono ?_; rintro e w4 ⟨rfl, m4, rfl⟩)
          rw [← HSM.out]
          have BW4 : Hid (Below wr.heap.size wr (w3.drewN m4)) := below_drewN BW3 _
          go_wp2_with fail
          refine hK.out _ _ ?_ (fun hHeld => ?_)
          · exact HCL.out _ BW4.out
          clear hK K
          try simp only [Act.put, List.setIfInBounds_toArray, List.set_cons_zero, List.set_cons_succ, List.getElem_toArray, List.getElem_cons_zero, List.getElem_cons_succ]
          refine wpAnyH_take (i := 13) (oi := _) (v := ?_) rfl (by kernel_rfl) (by kernel_rfl) (by kernel_rfl) (fun _ _ _ h => h) (Or.inl ⟨by kernel_rfl, ?_⟩) (by assumption) ?_
          rotate_left
          · (intro w hSw; (try dsimp only at hSw); go_simp; try (with_reducible rfl))
          try simp only [Act.put, List.setIfInBounds_toArray, List.set_cons_zero, List.set_cons_succ, List.getElem_toArray, List.getElem_cons_zero, List.getElem_cons_succ]
          refine wpAnyH_take (i := 14) (oi := _) (v := ?_) rfl (by kernel_rfl) (by kernel_rfl) (by kernel_rfl) (fun _ _ _ h => h) (Or.inl ⟨by kernel_rfl, ?_⟩) (by assumption) ?_
          rotate_left
          · (intro w hSw; (try dsimp only at hSw); go_simp; try (with_reducible rfl))
          try simp only [Act.put, List.setIfInBounds_toArray, List.set_cons_zero, List.set_cons_succ, List.getElem_toArray, List.getElem_cons_zero, List.getElem_cons_succ]
          refine wpAnyH_take (i := 15) (oi := _) (v := ?_) rfl (by kernel_rfl) (by kernel_rfl) (by kernel_rfl) (fun _ _ _ h => h) (Or.inl ⟨by kernel_rfl, ?_⟩) (by assumption) ?_
          rotate_left
          · (intro w hSw; (try dsimp only at hSw); go_simp; try (with_reducible rfl))
          try simp only [Act.put, List.setIfInBounds_toArray, List.set_cons_zero, List.set_cons_succ, List.getElem_toArray, List.getElem_cons_zero, List.getElem_cons_succ]
          refine wpAnyH_take (i := 16) (oi := _) (v := ?_) rfl (by kernel_rfl) (by kernel_rfl) (by kernel_rfl) (fun _ _ _ h => h) (Or.inl ⟨by kernel_rfl, ?_⟩) (by assumption) ?_
          rotate_left
          · (intro w hSw; (try dsimp only at hSw); go_simp; try (with_reducible rfl))
          try simp only [Act.put, List.setIfInBounds_toArray, List.set_cons_zero, List.set_cons_succ, List.getElem_toArray, List.getElem_cons_zero, List.getElem_cons_succ]
          refine wpAnyH_take (i := 17) (oi := _) (v := ?_) rfl (by kernel_rfl) (by kernel_rfl) (by kernel_rfl) (fun _ _ _ h => h) (Or.inl ⟨by kernel_rfl, ?_⟩) (by assumption) ?_
          rotate_left
          · (intro w hSw; (try dsimp only at hSw); go_simp; try (with_reducible rfl))
          try simp only [Act.put, List.setIfInBounds_toArray, List.set_cons_zero, List.set_cons_succ, List.getElem_toArray, List.getElem_cons_zero, List.getElem_cons_succ]
          refine wpAnyH_ready (rs := [18]) (by kernel_rfl) (by simp) (AllReadyH.cons (o := _) rfl (fun K hK => ?_) AllReadyH.nil)
          go_simp
          (go_at_call 51; refine (CD _ BW4.out).mono ?_; rintro e W4 ⟨rfl, bel5⟩)
          have BW5 : Hid (Below wr.heap.size wr W4) := BW4.out.trans (bel5.mono BW4.out.size)
          clear bel5
          go_wp2_with fail
          refine hK.out _ _ ?_ (fun hHeld => ?_)
          · exact HCL.out _ BW5.out
          clear hK K
          try simp only [Act.put, List.setIfInBounds_toArray, List.set_cons_zero, List.set_cons_succ, List.getElem_toArray, List.getElem_cons_zero, List.getElem_cons_succ]
          refine wpAnyH_take (i := 19) (oi := _) (v := ?_) rfl (by kernel_rfl) (by kernel_rfl) (by kernel_rfl) (fun _ _ _ h => h) (Or.inl ⟨by kernel_rfl, ?_⟩) (by assumption) ?_
          rotate_left
          · (intro w hSw; (try dsimp only at hSw); go_simp; try (with_reducible rfl))
          try simp only [Act.put, List.setIfInBounds_toArray, List.set_cons_zero, List.set_cons_succ, List.getElem_toArray, List.getElem_cons_zero, List.getElem_cons_succ]
          refine wpAnyH_take (i := 20) (oi := _) (v := ?_) rfl (by kernel_rfl) (by kernel_rfl) (by kernel_rfl) (fun _ _ _ h => h) (Or.inl ⟨by kernel_rfl, ?_⟩) (by assumption) ?_
          rotate_left
          · (intro w hSw; (try dsimp only at hSw); go_simp; try (with_reducible rfl))
          try simp only [Act.put, List.setIfInBounds_toArray, List.set_cons_zero, List.set_cons_succ, List.getElem_toArray, List.getElem_cons_zero, List.getElem_cons_succ]
          refine wpAnyH_done (by kernel_rfl) ?_ _
          refine NoPanic.normal ?_
          have GB : Hid (Below w1.heap.size w1 W4) := HBW.out.trans (BW5.out.mono hszw)
          have HOW2 : Hid (W4.ownsRow w1.heap.size 22 1 (.slice (some ⟨g, 0, none⟩) q cap) q C) := ((OwnR.of HOW.out).below BW5.out (Nat.le_refl _)).1
          have hcell := HCL.out _ BW5.out
          have hszz := GB.out.size
          have hgl := (HOW2.out.lt g rfl).1
          clear HRs HRT HCL BW1 BW2 BW3 BW4 BW5 HBW HOW hHeld hcs0 hbs
          have HIX : Hid (idxToC keepC m (j + 1) = idxToC keepC m j) := by rw [Hid, HST.out, hs]; simp
          have HQ2 : Hid (q = (idxToC keepC m (j + 1)).length) := by rw [Hid, HIX.out]; exact HQ.out
          have HC2 : Hid (C = selVC keepC m vs1 (j + 1)) := by unfold selVC; rw [Hid, HIX.out]; exact HC.out
          clear hs hcell
          go_wp2
          go_roundw
          case rel => exact ⟨j + 1, q, g, cap, C, rfl, by go_num, by omega, HQ2, HOW2, HC2, GB⟩
          case measure => simp [intOf]; omega
    · have hj9 : j = m.length := by rw [← HN.out]; omega
      have e8 : (idxToC keepC m j).map (fun k => m.getD k []) = m.filter keepC := by rw [hj9]; exact idxTo_allC m
      have hq9 : (m.filter keepC).length = q := by rw [← e8, List.length_map, HQ.out]
      have hrow9 := HOW.out
      rw [HC.out] at hrow9
      have hM : Mat wr wr.heap.size (some ⟨g, 0, none⟩) (m.filter keepC) := by
        have h9 := Mat.selectC HO.out HBW.out (fun k hk => Nat.lt_of_lt_of_le (idxTo_ltC hk) (by rw [hj9]; exact Nat.le_refl _)) hrow9
        rw [e8] at h9
        exact h9
      have hgb := (HOW.out.lt g rfl).1
      have hF : Hid (InF w.heap.size wr g (selVC keepC m vs1 j) (m.filter keepC)) := by
        have h9 := InF.of (g := g) HO.out HBW.out (fun k hk => Nat.lt_of_lt_of_le (idxTo_ltC hk) (by rw [hj9]; exact Nat.le_refl _)) hgb (fun r hr => (lv_bd (H1.out r hr).1).1) (idx := idxToC keepC m j)
        rw [e8] at h9
        exact h9
      have GB : Hid (Below w.heap.size w wr) := HB.out.trans (HBW.out.mono HB.out.size)
      have HOF : Hid (wr.ownsRow w.heap.size 22 1 (.slice (some ⟨g, 0, none⟩) q cap) q (selVC keepC m vs1 j)) := ((OwnR.of hrow9).more HB.out.size (Nat.le_refl _)).1
      have hMM := Lib.hid hM
      have hQQ := Lib.hid hq9
      clear hj9 e8 hrow9 HBW HOW HC hM hq9
      go_wp2
      go_ret
      rw [EM.out]
      exact ⟨g, cap, _, by rw [hQQ.out]; rfl, by rw [hQQ.out]; exact HOF.out, hMM.out, hF.out, GB.out⟩
end Go.Proofs.YtnnihdkhblbdgaaGreat
/-
  Which lists are maps, plainly.
-/
namespace Go.Proofs.YtnnihdkhblbdgaaGreat
open Go.RowKit Fld
set_option linter.unusedVariables false
set_option linter.unusedSimpArgs false
set_option maxRecDepth 100000

def isMp (a : List Int) : Bool := decide (a.length = 38) && allNum a
def isChr (a : List Int) : Bool := isMp a && decide (a.getD 0 0 = 1)
def isInf (a : List Int) : Bool := isMp a && decide (a.getD 0 0 = 0)
theorem isMp_num {a : List Int} (h : a.length = 38) : isMp a = allNum a := by unfold isMp; rw [decide_eq_true h, Bool.true_and]
theorem isMp_len {a : List Int} (h : a.length ≠ 38) : isMp a = false := by unfold isMp; rw [decide_eq_false h, Bool.false_and]
theorem isMp_iff {a : List Int} : isMp a = true ↔ a.length = 38 ∧ allNum a = true := by unfold isMp; simp
theorem isMp_parts {a : List Int} {n : Nat} (h : isMp a = true) (hl : a.length = n) : n = 38 ∧ allNum a = true := by
  obtain ⟨h1, h2⟩ := isMp_iff.1 h
  exact ⟨by omega, h2⟩
theorem isChr_no {a : List Int} (h : isMp a = false) : isChr a = false := by unfold isChr; rw [h, Bool.false_and]
theorem isInf_no {a : List Int} (h : isMp a = false) : isInf a = false := by unfold isInf; rw [h, Bool.false_and]
theorem isChr_at {a : List Int} {x : Int} (h : isMp a = true) (hx : a[0]? = some x) : isChr a = decide (x = 1) := by
  unfold isChr; rw [h, Bool.true_and, List.getD_eq_getElem?_getD, hx]; rfl
theorem isInf_at {a : List Int} {x : Int} (h : isMp a = true) (hx : a[0]? = some x) : isInf a = decide (x = 0) := by
  unfold isInf; rw [h, Bool.true_and, List.getD_eq_getElem?_getD, hx]; rfl
def unitL : List Int := 1 :: List.replicate 37 0
def zero38 : List Int := List.replicate 38 0
theorem zero38_at {k : Nat} (h : k < 38) : zero38[k]? = some 0 := by unfold zero38; rw [List.getElem?_replicate, if_pos h]
theorem unitL_length : unitL.length = 38 := rfl
end Go.Proofs.YtnnihdkhblbdgaaGreat
/-
  Maps of trees, plainly: which lists are maps, the numbers of nodes at their places, and what is made of them.
-/
namespace Go.Proofs.YtnnihdkhblbdgaaGreat
open Go.RowKit Fld
set_option linter.unusedVariables false
set_option linter.unusedSimpArgs false
set_option maxRecDepth 100000

/-- the numbers of nodes of the trees at the places of a map -/
def lens : List Nat := [0, 1, 2, 3, 3, 4, 4, 4, 4, 5, 5, 5, 5, 5, 5, 5, 5, 5, 6, 6, 6, 6, 6, 6, 6, 6, 6, 6, 6, 6, 6, 6, 6, 6, 6, 6, 6, 6]
theorem lens_len : lens.length = 38 := rfl
theorem lens_bd : ∀ l ∈ lens, l ≤ 6 := by decide
theorem lens_to : lens = 0 :: (treesTo 6).map List.length := by decide +kernel
theorem to_len : (treesTo 6).length = 37 := by
  have := congrArg List.length lens_to
  rw [List.length_cons, List.length_map, lens_len] at this; omega
theorem lens_at {k : Nat} (h : k < 38) : ∃ l, lens[k]? = some l ∧ l ≤ 6 := by
  have h2 : k < lens.length := by rw [lens_len]; exact h
  exact ⟨lens[k], List.getElem?_eq_getElem h2, lens_bd _ (List.getElem_mem h2)⟩
theorem to_at {k : Nat} {t : List Int} (h : (treesTo 6)[k]? = some t) : lens[k + 1]? = some t.length := by
  rw [lens_to, List.getElem?_cons_succ, List.getElem?_map, h]; rfl
/-- the texts of the trees at the places of a map -/
def mapTx : List (List UInt8) := [] :: (treesTo 6).map Tr.txt
theorem mapTx_len : mapTx.length = 38 := by unfold mapTx; rw [List.length_cons, List.length_map, to_len]
theorem mapTx_lens : mapTx.map List.length = lens.map (2 * ·) := by decide +kernel
theorem mapTx_at {k l : Nat} (h : lens[k]? = some l) : ∃ x, mapTx[k]? = some x ∧ x.length = 2 * l := by
  have e : (mapTx.map List.length)[k]? = some (2 * l) := by rw [mapTx_lens, List.getElem?_map, h]; rfl
  rw [List.getElem?_map] at e
  cases hx : mapTx[k]? with
  | none => rw [hx] at e; cases e
  | some x => rw [hx] at e; exact ⟨x, rfl, by simpa using e⟩
/-- up to which number of nodes two maps agree -/
def agrL : List Int → List Int → List Nat → Int
  | x :: xs, y :: ys, l :: ls => if x = y then agrL xs ys ls else (l : Int) - 1
  | _, _, _ => 6
def agrA (a b : List Int) : Int := agrL a b lens
theorem drop_at {α : Type} {L : List α} {k : Nat} {x : α} (h : L[k]? = some x) : L.drop k = x :: L.drop (k + 1) := by
  have hlt : k < L.length := by
    rcases Nat.lt_or_ge k L.length with g | g
    · exact g
    · rw [List.getElem?_eq_none g] at h; cases h
  rw [List.getElem?_eq_getElem hlt] at h
  injection h with h
  rw [List.drop_eq_getElem_cons hlt, h]
theorem agr_next {a b : List Int} {k : Nat} {x y : Int} {l : Nat} (hx : a[k]? = some x) (hy : b[k]? = some y) (hl : lens[k]? = some l) (e : x = y) : agrL (a.drop k) (b.drop k) (lens.drop k) = agrL (a.drop (k + 1)) (b.drop (k + 1)) (lens.drop (k + 1)) := by
  rw [drop_at hx, drop_at hy, drop_at hl, agrL, if_pos e]
theorem agr_stop {a b : List Int} {k : Nat} {x y : Int} {l : Nat} (hx : a[k]? = some x) (hy : b[k]? = some y) (hl : lens[k]? = some l) (e : x ≠ y) : agrL (a.drop k) (b.drop k) (lens.drop k) = (l : Int) - 1 := by
  rw [drop_at hx, drop_at hy, drop_at hl, agrL, if_neg e]
theorem agr_end {a b : List Int} : agrL (a.drop 38) (b.drop 38) (lens.drop 38) = 6 := by
  have e : lens.drop 38 = [] := rfl
  rw [e]
  cases a.drop 38 <;> cases b.drop 38 <;> rfl
theorem agr_start (a b : List Int) : agrA a b = agrL (a.drop 0) (b.drop 0) (lens.drop 0) := rfl
/-- a map with 0 at all trees with more than n nodes -/
def truncL (a : List Int) (n : Int) : List Int := List.zipWith (fun x (l : Nat) => if n < (l : Int) then 0 else x) a lens
theorem truncL_length {a : List Int} (h : a.length = 38) (n : Int) : (truncL a n).length = 38 := by unfold truncL; rw [List.length_zipWith, h, lens_len, Nat.min_self]
theorem truncL_at {a : List Int} {n : Int} {k l : Nat} {x : Int} (hx : a[k]? = some x) (hl : lens[k]? = some l) : (truncL a n)[k]? = some (if n < (l : Int) then 0 else x) := by
  unfold truncL; rw [List.getElem?_zipWith, hx, hl]
def scaleL (a : List Int) (y : Int) : List Int := List.zipWith (fun x l => x * pw y l % 10007) a lens
theorem scaleL_length {a : List Int} (h : a.length = 38) (y : Int) : (scaleL a y).length = 38 := by unfold scaleL; rw [List.length_zipWith, h, lens_len, Nat.min_self]
theorem scaleL_at {a : List Int} {y : Int} {k l : Nat} {x : Int} (hx : a[k]? = some x) (hl : lens[k]? = some l) : (scaleL a y)[k]? = some (x * pw y l % 10007) := by
  unfold scaleL; rw [List.getElem?_zipWith, hx, hl]
/-- the answers -/
def agreeA (a b : List Int) : Int × Int := if isMp a = true ∧ isMp b = true then (agrA a b, 0) else (0, 1)
theorem agreeA_no1 {a b : List Int} (h : isMp a = false) : agreeA a b = (0, 1) := if_neg (by rw [h]; simp)
theorem agreeA_no2 {a b : List Int} (h : isMp b = false) : agreeA a b = (0, 1) := if_neg (by rw [h]; simp)
theorem agreeA_yes {a b : List Int} (h : isMp a = true) (k : isMp b = true) : agreeA a b = (agrA a b, 0) := if_pos ⟨h, k⟩
def truncA (a : List Int) (y : Int) : List Int × Int := if isMp a = true then (if 0 ≤ y ∧ y ≤ 6 then (truncL a y, 0) else ([], 2)) else ([], 1)
theorem truncA_no {a : List Int} {y : Int} (h : isMp a = false) : truncA a y = ([], 1) := if_neg (by rw [h]; simp)
theorem truncA_out {a : List Int} {y : Int} (h : isMp a = true) (hy : ¬ (0 ≤ y ∧ y ≤ 6)) : truncA a y = ([], 2) := by unfold truncA; rw [if_pos h, if_neg hy]
theorem truncA_yes {a : List Int} {y : Int} (h : isMp a = true) (hy : 0 ≤ y ∧ y ≤ 6) : truncA a y = (truncL a y, 0) := by unfold truncA; rw [if_pos h, if_pos hy]
def scaleMA (a : List Int) (y : Int) : List Int × Int := if isMp a = true then (if 0 ≤ y ∧ y < 10007 then (scaleL a y, 0) else ([], 2)) else ([], 1)
theorem scaleMA_no {a : List Int} {y : Int} (h : isMp a = false) : scaleMA a y = ([], 1) := if_neg (by rw [h]; simp)
theorem scaleMA_out {a : List Int} {y : Int} (h : isMp a = true) (hy : ¬ (0 ≤ y ∧ y < 10007)) : scaleMA a y = ([], 2) := by unfold scaleMA; rw [if_pos h, if_neg hy]
theorem scaleMA_yes {a : List Int} {y : Int} (h : isMp a = true) (hy : 0 ≤ y ∧ y < 10007) : scaleMA a y = (scaleL a y, 0) := by unfold scaleMA; rw [if_pos h, if_pos hy]
end Go.Proofs.YtnnihdkhblbdgaaGreat
/-
  Forests: the test, the program's and the model's.
-/
namespace Go.Proofs.YtnnihdkhblbdgaaGreat
open Go.RowKit Fld
set_option linter.unusedVariables false
set_option linter.unusedSimpArgs false
set_option maxRecDepth 100000

/-- tree k stands where it may -/
def okAt (f : List (List Int)) (k : Nat) : Bool := isTr (f.getD k []) && (decide (k = 0) || !Tr.beforeL (f.getD k []) (f.getD (k - 1) []))
def okTo (f : List (List Int)) (k : Nat) : Bool := (List.range k).all (okAt f)
theorem okTo_step (f : List (List Int)) (k : Nat) : okTo f (k + 1) = (okTo f k && okAt f k) := by
  unfold okTo; rw [List.range_succ, List.all_append]; simp
theorem okTo_no {f : List (List Int)} {k : Nat} (h : okAt f k = false) (hk : k < f.length) : okTo f f.length = false := by
  unfold okTo
  rw [List.all_eq_false]
  exact ⟨k, by rw [List.mem_range]; exact hk, by rw [h]; simp⟩
theorem okTo_at {f : List (List Int)} {k j : Nat} (h : okTo f k = true) (hj : j < k) : okAt f j = true := by
  unfold okTo at h
  exact List.all_eq_true.1 h j (by rw [List.mem_range]; exact hj)
theorem okAt_tr {f : List (List Int)} {k : Nat} {r : List Int} (h : okAt f k = true) (hr : f[k]? = some r) : isTr r = true := by
  unfold okAt at h
  rw [Bool.and_eq_true, List.getD_eq_getElem?_getD, hr] at h
  exact h.1
theorem okAt_false {f : List (List Int)} {k : Nat} {r : List Int} (hr : f[k]? = some r) (h : isTr r = false) : okAt f k = false := by
  unfold okAt
  rw [List.getD_eq_getElem?_getD, hr]
  simp [h]
theorem okAt_zero {f : List (List Int)} {r : List Int} (hr : f[0]? = some r) (h : isTr r = true) : okAt f 0 = true := by
  unfold okAt
  rw [List.getD_eq_getElem?_getD, hr]
  simp [h]
theorem okAt_succ {f : List (List Int)} {k : Nat} {p r : List Int} (hr : f[k + 1]? = some r) (hp : f[k]? = some p) (h : isTr r = true) : okAt f (k + 1) = !Tr.beforeL r p := by
  unfold okAt
  rw [List.getD_eq_getElem?_getD, List.getD_eq_getElem?_getD, hr, Nat.add_sub_cancel, hp]
  simp [h]
def isFor (f : List (List Int)) : Bool := okTo f f.length && decide (total f ≤ 8)
theorem isFor_big {f : List (List Int)} (h : 8 < total f) : isFor f = false := by
  unfold isFor; rw [decide_eq_false (by omega), Bool.and_false]
theorem isFor_no {f : List (List Int)} (h : okTo f f.length = false) : isFor f = false := by
  unfold isFor; rw [h]; rfl
theorem row_total {f : List (List Int)} {k : Nat} {r : List Int} (h : f[k]? = some r) : r.length ≤ total f := by
  have h1 := total_take h
  have h2 := total_le f (k + 1)
  omega
end Go.Proofs.YtnnihdkhblbdgaaGreat
/-
  Values of maps at trees, plainly.
-/
namespace Go.Proofs.YtnnihdkhblbdgaaGreat
open Go.RowKit Fld
set_option linter.unusedVariables false
set_option linter.unusedSimpArgs false
set_option maxRecDepth 100000

theorem idx_some {u : List Int} : ∀ {m : List (List Int)} (c : Int), u ∈ m → ∃ i : Nat, Tr.idxL u m c = c + i ∧ m[i]? = some u
  | [], c, h => by cases h
  | x :: r, c, h => by
    by_cases e : x = u
    · exact ⟨0, by unfold Tr.idxL; rw [if_pos e]; omega, by rw [e]; rfl⟩
    · rw [List.mem_cons] at h
      obtain ⟨i, h1, h2⟩ := idx_some (m := r) (c + 1) (h.resolve_left (fun q => e q.symm))
      exact ⟨i + 1, by unfold Tr.idxL; rw [if_neg e, h1]; omega, by rw [List.getElem?_cons_succ]; exact h2⟩
theorem idx_none {u : List Int} : ∀ {m : List (List Int)} (c : Int), u ∉ m → Tr.idxL u m c = -1
  | [], c, h => rfl
  | x :: r, c, h => by
    rw [List.mem_cons, not_or] at h
    unfold Tr.idxL
    rw [if_neg (fun q => h.1 q.symm)]
    exact idx_none (c + 1) h.2
theorem to_mem {r : List Int} : r ∈ treesTo 6 ↔ ∃ n, n < 6 ∧ r ∈ Tr.treesL (n + 1) := by
  unfold treesTo; rw [List.mem_flatMap]
  constructor
  · rintro ⟨n, hn, h⟩; exact ⟨n, List.mem_range.1 hn, h⟩
  · rintro ⟨n, hn, h⟩; exact ⟨n, List.mem_range.2 hn, h⟩
theorem can_mem9 {t : List Int} (h : Tr.isLv t = true) : Tr.can t ∈ Tr.treesL t.length := by
  obtain ⟨h1, h2⟩ := lv_can h
  have h3 := Tr.isLv_iff.1 h1
  have h4 := Tr.isLv_iff.1 h
  have p1 := h4.1
  rw [← grow_trees h4.1 h4.2.1]
  refine Tr.grow_all (t.length - 1) [0] [] (Tr.can t) (by simp) h3 (by show (Tr.can t).length = 1 + (t.length - 1); omega) ?_ (Tr.can_can h).1
  obtain ⟨x, hx⟩ := at_lt (show 0 < (Tr.can t).length by omega)
  have e := h3.2.2.1
  rw [lv_at hx] at e
  subst e
  show (Tr.can t).take 1 = [0]
  rw [List.take_add_one, hx]; rfl
theorem small_idx {r : List Int} (h : isTr r = true) (h6 : r.length ≤ 6) : ∃ i : Nat, i < 37 ∧ Tr.idxL r (treesTo 6) 0 = i ∧ (treesTo 6)[i]? = some r := by
  obtain ⟨hlv, hc⟩ := tr_lv h
  have h1 := (lv_bd hlv).1
  have hm : r ∈ treesTo 6 := to_mem.2 ⟨r.length - 1, by omega, by
    have := can_mem9 hlv
    rw [hc] at this
    rw [show r.length - 1 + 1 = r.length by omega]; exact this⟩
  obtain ⟨i, e1, e2⟩ := idx_some 0 hm
  refine ⟨i, ?_, by omega, e2⟩
  rcases Nat.lt_or_ge i 37 with g | g
  · exact g
  · rw [List.getElem?_eq_none (by rw [to_len]; exact g)] at e2; cases e2
theorem large_idx {r : List Int} (h6 : 6 < r.length) : Tr.idxL r (treesTo 6) 0 = -1 := by
  refine idx_none 0 fun hm => ?_
  obtain ⟨n, hn, h⟩ := to_mem.1 hm
  have := ((trees_all (n := n + 1) (by omega) (by omega)).1 r h).2
  omega
theorem mapTx_nodup : mapTx.Nodup := by decide +kernel
theorem mapTx_inj {i j : Nat} {t u : List Int} (hi : (treesTo 6)[i]? = some t) (hj : (treesTo 6)[j]? = some u) (e : Tr.txt t = Tr.txt u) : i = j := by
  have h1 : mapTx[i + 1]? = some (Tr.txt t) := by unfold mapTx; rw [List.getElem?_cons_succ, List.getElem?_map, hi]; rfl
  have h2 : mapTx[j + 1]? = some (Tr.txt t) := by rw [e]; unfold mapTx; rw [List.getElem?_cons_succ, List.getElem?_map, hj]; rfl
  have hl : i + 1 < mapTx.length := by
    rcases Nat.lt_or_ge (i + 1) mapTx.length with g | g
    · exact g
    · rw [List.getElem?_eq_none g] at h1; cases h1
  have := (List.getElem?_inj hl mapTx_nodup).1 (h1.trans h2.symm)
  omega
theorem all_to {k : Nat} (h : k < 37) : Tr.allL[k]? = (treesTo 6)[k]? := by
  obtain ⟨rest, e⟩ := all_split 6 (by omega)
  rw [e, List.getElem?_append_left (by rw [to_len]; exact h)]
/-- the numbers that stand at texts of trees, the first k of them -/
def valN (xs : List Int) : Nat → List UInt8 → Int
  | 0 => fun _ => 0
  | k+1 => fun y => if y = Tr.txt (Tr.allL.getD k []) then xs.getD k 0 else valN xs k y
theorem valN_at {xs : List Int} {i : Nat} {r : List Int} (hr : (treesTo 6)[i]? = some r) : ∀ k, k ≤ 37 → valN xs k (Tr.txt r) = if i < k then xs.getD i 0 else 0
  | 0, _ => by rw [if_neg (by omega)]; rfl
  | k+1, hk => by
    obtain ⟨t, ht⟩ := at_lt (show k < (treesTo 6).length by rw [to_len]; omega)
    have e : Tr.allL.getD k [] = t := by rw [List.getD_eq_getElem?_getD, all_to (by omega), ht]; rfl
    unfold valN
    rw [e]
    by_cases hik : i = k
    · subst hik
      rw [hr] at ht
      injection ht with ht
      rw [if_pos (by rw [ht]), if_pos (by omega)]
    · rw [if_neg (fun q => hik (mapTx_inj hr ht q)), valN_at hr k (by omega)]
      by_cases hlt : i < k
      · rw [if_pos hlt, if_pos (by omega)]
      · rw [if_neg hlt, if_neg (by omega)]
theorem valN_put {xs : List Int} {k : Nat} {t : List Int} {x : Int} (ht : Tr.allL[k]? = some t) (hx : xs[k]? = some x) : valN xs (k + 1) = fun y => if y = Tr.txt t then x else valN xs k y := by
  have e : Tr.allL.getD k [] = t := by rw [List.getD_eq_getElem?_getD, ht]; rfl
  have e2 : xs.getD k 0 = x := by rw [List.getD_eq_getElem?_getD, hx]; rfl
  funext y
  show (if y = Tr.txt (Tr.allL.getD k []) then xs.getD k 0 else valN xs k y) = _
  rw [e, e2]
/-- the value of a map at a tree, and at the trees of a forest -/
def valT (a : List Int) (r : List Int) : Int := a.getD (Tr.idxL r (treesTo 6) 0 + 1).toNat 0
theorem valT_drop {a r : List Int} (h : isTr r = true) (h6 : r.length ≤ 6) : valN (a.drop 1) 37 (Tr.txt r) = valT a r := by
  obtain ⟨i, i37, e1, e2⟩ := small_idx h h6
  rw [valN_at e2 37 (by omega), if_pos i37]
  unfold valT
  rw [e1, show ((i : Int) + 1).toNat = i + 1 by omega, List.getD_eq_getElem?_getD, List.getD_eq_getElem?_getD, List.getElem?_drop, Nat.add_comm]
theorem valT_num {a r : List Int} (ha : allNum a = true) : 0 ≤ valT a r ∧ valT a r < 10007 := by
  unfold valT
  rw [List.getD_eq_getElem?_getD]
  cases h : a[(Tr.idxL r (treesTo 6) 0 + 1).toNat]? with
  | none => simp
  | some x => exact allNum_iff.1 ha x (List.mem_of_getElem? h)
end Go.Proofs.YtnnihdkhblbdgaaGreat
/-
  Free conditions with at most MaxOrder nodes, and the maps that numbers make: plain.
-/
namespace Go.Proofs.YtnnihdkhblbdgaaGreat
open Go.RowKit Fld
set_option linter.unusedVariables false
set_option linter.unusedSimpArgs false
set_option maxRecDepth 100000

/-- the free conditions among the trees with at most k nodes -/
def condTo (k : Nat) : List (List Int) := (treesTo k).filter keepC
theorem condTo_step (k : Nat) : condTo (k + 1) = condTo k ++ freeM (k + 1) := by
  unfold condTo freeM treesTo
  rw [List.range_succ, List.flatMap_append, List.filter_append]
  simp
def conds : List (List Int) := condTo 6
theorem chk_conds : conds.length = 10 := by decide +kernel
theorem conds_len : conds.length = 10 := chk_conds
/-- the sign of a tree, the model's -/
def sgnM (t : List Int) : Int := if (List.range t.length).any (fun k => decide (Tr.turnF 9 t k = freeL t) && decide (t.getD k 0 % 2 = 0)) then 1 else -1
def idxC (t : List Int) : Int := Tr.idxL (freeL t) conds 0
def hamAt (ns : List Int) (t : List Int) : Int := if idxC t < 0 then 0 else (sgnM t * ns.getD (idxC t).toNat 0) % 10007
def hamL (ns : List Int) : List Int := 0 :: (treesTo 6).map (hamAt ns)
theorem hamL_length (ns : List Int) : (hamL ns).length = 38 := by unfold hamL; rw [List.length_cons, List.length_map, to_len]
theorem hamL_at {ns : List Int} {k : Nat} {t : List Int} (h : (treesTo 6)[k]? = some t) : (hamL ns)[k + 1]? = some (hamAt ns t) := by
  unfold hamL; rw [List.getElem?_cons_succ, List.getElem?_map, h]; rfl
theorem hamAt_num (ns t : List Int) : 0 ≤ hamAt ns t ∧ hamAt ns t < 10007 := by
  unfold hamAt
  split
  · omega
  · exact ⟨Int.emod_nonneg _ (by omega), Int.emod_lt_of_pos _ (by omega)⟩
/-! the program's: what its map knows after k trees -/
def cntC (k : Nat) : Nat := ((treesTo 6).take k).countP keepC
def knI : Nat → List UInt8 → Option Nat
  | 0 => fun _ => none
  | k+1 => fun y => if keepC ((treesTo 6).getD k []) = true ∧ y = Tr.txt ((treesTo 6).getD k []) then some (cntC k) else knI k y
def knN (ns : List Int) (k : Nat) (y : List UInt8) : Int := match knI k y with | none => 0 | some j => ns.getD j 0
theorem cntC_step {k : Nat} {t : List Int} (h : (treesTo 6)[k]? = some t) : cntC (k + 1) = cntC k + if keepC t = true then 1 else 0 := by
  unfold cntC
  rw [List.take_add_one, h, Option.toList_some, List.countP_append, List.countP_singleton]
theorem cntC_bd : (List.range 38).all (fun k => decide (cntC k ≤ 10)) = true := by decide +kernel
theorem cntC_less {k : Nat} {t : List Int} (h : (treesTo 6)[k]? = some t) (hk : keepC t = true) : cntC k < 10 := by
  have h37 : k < 37 := by
    rcases Nat.lt_or_ge k 37 with q | q
    · exact q
    · rw [List.getElem?_eq_none (by rw [to_len]; exact q)] at h; cases h
  have := List.all_eq_true.1 cntC_bd (k + 1) (by rw [List.mem_range]; omega)
  have e := cntC_step h
  rw [if_pos hk] at e
  have := of_decide_eq_true this
  omega
theorem knN_yes {ns : List Int} {k : Nat} {t : List Int} (h : (treesTo 6)[k]? = some t) (hk : keepC t = true) : knN ns (k + 1) = fun y => if y = Tr.txt t then ns.getD (cntC k) 0 else knN ns k y := by
  have e : (treesTo 6).getD k [] = t := by rw [List.getD_eq_getElem?_getD, h]; rfl
  funext y
  unfold knN knI
  rw [e]
  by_cases q : y = Tr.txt t
  · rw [if_pos ⟨hk, q⟩, if_pos q]
  · rw [if_neg (fun z => q z.2), if_neg q]
    cases k <;> rfl
theorem knN_no {ns : List Int} {k : Nat} {t : List Int} (h : (treesTo 6)[k]? = some t) (hk : keepC t = false) : knN ns (k + 1) = knN ns k := by
  have e : (treesTo 6).getD k [] = t := by rw [List.getD_eq_getElem?_getD, h]; rfl
  funext y
  have h9 : knI (k + 1) y = knI k y := by
    show (if keepC ((treesTo 6).getD k []) = true ∧ y = Tr.txt ((treesTo 6).getD k []) then some (cntC k) else knI k y) = knI k y
    rw [e, if_neg (fun z => by rw [hk] at z; exact Bool.noConfusion z.1)]
  unfold knN
  rw [h9]
/-- where the free form stands among the tree's roots -/
def nodeT (x : List UInt8) : Nat := (rootsT x).findIdx (fun y => decide (y = minT (rootsT x)))
def lvlAt (x : List UInt8) : Int := (Tr.lvl x).getD (nodeT x) 0
def sgnP (x : List UInt8) : Int := if lvlAt x % 2 = 0 then 1 else 10006
def chkHm (k : Nat) : Bool :=
  let t := (treesTo 6).getD k []
  let x := Tr.txt t
  decide (knI (k + 1) (minT (rootsT x)) = if idxC t < 0 then none else some (idxC t).toNat) && (decide (idxC t < 0) || (decide (sgnP x = 1) == decide (sgnM t = 1))) && decide (nodeT x < t.length) && decide (0 ≤ lvlAt x) && decide (lvlAt x ≤ 8) && decide ((Tr.lvl x).length = t.length) && decide (idxC t < 10)
theorem chkHm_all : (List.range 37).all chkHm = true := by decide +kernel
theorem sgnM_two (t : List Int) : sgnM t = 1 ∨ sgnM t = -1 := by unfold sgnM; split <;> simp
theorem ham_parts {ns : List Int} {k : Nat} {t : List Int} (h : (treesTo 6)[k]? = some t) (hn : allNum ns = true) :
    (sgnP (Tr.txt t) * knN ns (k + 1) (minT (rootsT (Tr.txt t)))) % 10007 = hamAt ns t ∧ nodeT (Tr.txt t) < t.length ∧ 0 ≤ lvlAt (Tr.txt t) ∧ lvlAt (Tr.txt t) ≤ 8 ∧ (Tr.lvl (Tr.txt t)).length = t.length ∧ idxC t < 10 ∧ 0 ≤ knN ns (k + 1) (minT (rootsT (Tr.txt t))) ∧ knN ns (k + 1) (minT (rootsT (Tr.txt t))) < 10007 := by
  have h37 : k < 37 := by
    rcases Nat.lt_or_ge k 37 with q | q
    · exact q
    · rw [List.getElem?_eq_none (by rw [to_len]; exact q)] at h; cases h
  have c := List.all_eq_true.1 chkHm_all k (List.mem_range.2 h37)
  have e : (treesTo 6).getD k [] = t := by rw [List.getD_eq_getElem?_getD, h]; rfl
  unfold chkHm at c
  simp only [e, Bool.and_eq_true, decide_eq_true_eq] at c
  obtain ⟨⟨⟨⟨⟨⟨c1, c2⟩, c3⟩, c4⟩, c5⟩, c6⟩, c7⟩ := c
  have hnum : ∀ j, 0 ≤ ns.getD j 0 ∧ ns.getD j 0 < 10007 := fun j => by
    rw [List.getD_eq_getElem?_getD]
    cases hj : ns[j]? with
    | none => simp
    | some x => exact allNum_iff.1 hn x (List.mem_of_getElem? hj)
  unfold knN
  rw [c1]
  unfold hamAt
  by_cases hi : idxC t < 0
  · simp only [if_pos hi]
    exact ⟨by simp, c3, c4, c5, c6, c7, by omega, by omega⟩
  · simp only [if_neg hi]
    have hb := hnum (idxC t).toNat
    refine ⟨?_, c3, c4, c5, c6, c7, hb.1, hb.2⟩
    rw [decide_eq_false hi, Bool.false_or, beq_iff_eq] at c2
    rcases sgnM_two t with s | s
    · rw [s] at c2 ⊢
      have : sgnP (Tr.txt t) = 1 := by simpa using c2
      rw [this]
    · have : ¬ sgnP (Tr.txt t) = 1 := by rw [s] at c2; simpa using c2
      have p : sgnP (Tr.txt t) = 10006 := by
        unfold sgnP at this ⊢
        split at this
        · exact absurd rfl this
        · rename_i q; rw [if_neg q]
      rw [s, p]; omega
noncomputable def hamA (ns : List Int) : List Int × Int := if ns.length = 10 ∧ allNum ns = true then (hamL ns, 0) else ([], 2)
end Go.Proofs.YtnnihdkhblbdgaaGreat
/-
  All free conditions with at most MaxOrder nodes, the model's.
-/
namespace Go.Proofs.YtnnihdkhblbdgaaGreat
open Go.RowKit Fld
set_option linter.unusedVariables false
set_option linter.unusedSimpArgs false
set_option maxRecDepth 100000

theorem InF.app {lo g g2 g5 : Nat} {wr w2 w5 : World} {C C2 : List Value} {m m2 : List (List Int)} (h : InF lo wr g C m) (hb : Below wr.heap.size wr w2) (k : InF wr.heap.size w2 g2 C2 m2) (hg : w2.grownBy w5 (some g)) (h5 : g5 = g ∨ g5 = w2.heap.size) (hl : g < wr.heap.size) (hlo : lo ≤ wr.heap.size) :
    InF lo w5 g5 (C ++ C2) (m ++ m2) := by
  have hs := hb.size
  have hs2 := hg.size
  refine ⟨by rw [List.length_append, List.length_append, h.1, k.1], fun j r hr => ?_⟩
  by_cases hj : j < m.length
  · rw [List.getElem?_append_left hj] at hr
    obtain ⟨b, o, c, e, q1, q2, q3, q4, q5, q6⟩ := h.2 j r hr
    refine ⟨b, o, c, by rw [List.getElem?_append_left (by rw [h.1]; exact hj)]; exact e, q1, by omega, by rcases h5 with z | z <;> omega, q4, q5, fun i x hx => ?_⟩
    exact hg.cell (a := ⟨b, o + i, none⟩) ((hb.cell (p := ⟨b, o + i, none⟩) q2).trans (q6 i x hx)) (fun z => q3 (by injection z))
  · rw [List.getElem?_append_right (by omega)] at hr
    obtain ⟨b, o, c, e, q1, q2, q3, q4, q5, q6⟩ := k.2 _ r hr
    refine ⟨b, o, c, by rw [List.getElem?_append_right (by rw [h.1]; omega), h.1]; exact e, by omega, by omega, by rcases h5 with z | z <;> omega, q4, q5, fun i x hx => ?_⟩
    exact hg.cell (a := ⟨b, o + i, none⟩) (q6 i x hx) (fun z => by have : b = g := by injection z
                                                                   omega)
theorem InF.next {lo g : Nat} {w w' : World} {C : List Value} {m : List (List Int)} (h : InF lo w g C m) (hb : Below w.heap.size w w') : InF lo w' g C m :=
  ⟨h.1, fun j r hr => by
    obtain ⟨b, o, c, e, q1, q2, q3, q4, q5, q6⟩ := h.2 j r hr
    exact ⟨b, o, c, e, q1, Nat.lt_of_lt_of_le q2 hb.size, q3, q4, q5, fun i x hx => (hb.cell (p := ⟨b, o + i, none⟩) q2).trans (q6 i x hx)⟩⟩
theorem InF.mat {lo g base q c : Nat} {w : World} {C : List Value} {m : List (List Int)} (h : InF lo w g C m) (ho : w.ownsRow base 22 1 (.slice (some ⟨g, 0, none⟩) q c) q C) : Mat w w.heap.size (some ⟨g, 0, none⟩) m := by
  intro j r hr
  obtain ⟨b, o, c', e, q1, q2, q3, q4, q5, q6⟩ := h.2 j r hr
  obtain ⟨b2, o2, e2, hb2, hc2⟩ := row_of_own ho j _ e
  refine ⟨b2, o2, _, c', e2, hb2, hc2, q4, q5, fun k v hv => ?_⟩
  obtain ⟨x, hx, rfl⟩ : ∃ x, r[k]? = some x ∧ v = .int .i64 x := by
    unfold ints intsK at hv
    rw [List.getElem?_map, Option.map_eq_some_iff] at hv
    obtain ⟨x, hx, rfl⟩ := hv
    exact ⟨x, hx, rfl⟩
  exact ⟨b, o, rfl, q2, q6 k x hx⟩
/-- an append of an empty slice -/
theorem wpList_append_empty {P : Program} {w : World} {ops : Array Oper} {rest : List Oper} {o : Oper} {a : Act} {Q : Exit → Act → World → Prop}
    (hg : o.guard = none) (s x : Operand) (t : TypeId) (hop : o.op = Op.call { callee := Callee.builtin Builtin.append, args := #[s, x], argTypes := #[t, t] })
    (e : TypeId) (i : TypeInfo) (ht : P.underlying t = some (.slice e)) (hi : P.info? e = some i)
    (b n c : Nat) (hc : n ≤ c) (hs : a.eval s = .slice (some ⟨b, 0, none⟩) n c) (ad : Addr) (c2 : Nat) (hx : a.eval x = .slice (some ad) 0 c2)
    (hK : wpList P ops Q rest (a.put o.dst (.slice (some ⟨b, 0, none⟩) n c)) w) : wpList P ops Q (o :: rest) a w := by
  refine wpList_plain hg fun K hK' => ?_
  have hrun := run_append_room_cells (P := P) w t o.type e i ht hi b 0 n c ad 0 c2 [] (by simp) (fun j u hu => by simp at hu) (fun u hu => by simp at hu) (by omega) (fun j hj => by simp at hj) (fun j hj => by simp at hj)
  unfold Oper.wp
  simp [execOp, hop, resolve, invoke, builtin, hs, hx, hrun, Result.andThen]
  exact hK' _ _ hK
theorem freeM_two : freeM 2 = [] := by decide +kernel
theorem freeM_some : ∀ n, n < 6 → n ≠ 1 → 0 < (freeM (n + 1)).length := by
  have h : ((List.range 6).all fun n => decide (n = 1) || decide (0 < (freeM (n + 1)).length)) = true := by decide +kernel
  intro n hn h1
  have := List.all_eq_true.1 h n (List.mem_range.2 hn)
  rw [decide_eq_false h1, Bool.false_or] at this
  exact of_decide_eq_true this
theorem condTo_bd (k : Nat) (h : k ≤ 6) : (condTo k).length ≤ 10 := by
  have h2 : ((List.range 7).all fun n => decide ((condTo n).length ≤ 10)) = true := by decide +kernel
  exact of_decide_eq_true (List.all_eq_true.1 h2 k (List.mem_range.2 (by omega)))
set_option maxHeartbeats 4000000 in
theorem l12All_any (w : World) : Calls Tryz.prog 16 #[] w fun e w' => ∃ g c, e = .returned (.slice (some ⟨g, 0, none⟩) 10 c) ∧ Mat w' w'.heap.size (some ⟨g, 0, none⟩) conds ∧ Below w.heap.size w w' := by
  obtain ⟨j0, hj, hy0, hy1, hy2⟩ := info_parts info_row
  have S0 := Lib.hid (Growing.start w 22)
  go_enter Tryz.func16, Tryz.ntmps16
  go_wp2_with fail
  go_loopw [1, 2] (fun v i wr => ∃ (n q g cap : Nat) (C : List Value), v = .slice (some ⟨g, 0, none⟩) q cap ∧ i = .int .i64 ((n + 1 : Nat) : Int) ∧ n ≤ 6 ∧ Hid (q = (condTo n).length) ∧ Hid (wr.ownsRow w.heap.size 22 1 (.slice (some ⟨g, 0, none⟩) q cap) q C) ∧ Hid (InF w.heap.size wr g C (condTo n)) ∧ Hid (Below w.heap.size w wr)) (fun _ i _ => 7 - (intOf i).toNat)
  case atStart => exact ⟨0, 0, _, 0, [], rfl, rfl, by omega, rfl, S0.out.1, ⟨rfl, fun j r hr => by simp [condTo, treesTo] at hr⟩, S0.out.2⟩
  case round =>
    obtain ⟨n, q, g, cap, C, rfl, rfl, hn, HQ, HO, HF, HB⟩ := hrel
    by_cases hlt : n < 6
    · have hle : ((n + 1 : Nat) : Int) ≤ 6 := by omega
      have hsz := HB.out.size
      have hgl := (HO.out.lt g rfl).2
      have HST := Lib.hid (condTo_step n)
      have hq10 : q ≤ 10 := by rw [HQ.out]; exact condTo_bd n hn
      go_wp2_with fail
      refine (l12Free_any (n + 1) _ (by omega) (by omega)).mono ?_
      rintro e w2 ⟨g2, c2, C2, rfl, own2, _, hF2, bel2⟩
      have hs2 := bel2.size
      by_cases h1 : n = 1
      · subst h1
        have e0 : freeM (1 + 1) = [] := freeM_two
        have HO2 : Hid (w2.ownsRow w.heap.size 22 1 (.slice (some ⟨g, 0, none⟩) q cap) q C) := ((OwnR.of HO.out).below bel2 (Nat.le_refl _)).1
        have GF : Hid (InF w.heap.size w2 g C (condTo (1 + 1))) := by rw [HST.out, e0, List.append_nil]; exact HF.out.next bel2
        have GQ : Hid (q = (condTo (1 + 1)).length) := by rw [Hid, HST.out, e0, List.append_nil]; exact HQ.out
        have GB := Lib.hid (HB.out.trans (bel2.mono hsz))
        have hcq := (own_cap HO.out).1
        rw [e0]
        clear own2 hF2 bel2 HO HF HB HQ e0
        go_wp2_with (at_builtin; refine wpList_append_empty rfl (.tmp 8) (.tmp 10) 32 rfl 22 j0 Tryz.underlying32 hj g q cap hcq rfl ⟨g2, 0, none⟩ c2 rfl ?_)
        go_roundw
        case rel => exact ⟨1 + 1, q, g, cap, C, rfl, by go_num, by omega, GQ, HO2, GF, GB⟩
        case measure => simp [intOf]
      · have hpos := freeM_some n hlt h1
        obtain ⟨N, hN⟩ : ∃ N, N = (freeM (n + 1)).length := ⟨_, rfl⟩
        have hN10 : N + q ≤ 10 := by rw [hN, HQ.out]; have := condTo_bd (n + 1) (by omega); rw [HST.out, List.length_append] at this; omega
        have HNL : Hid (C2.length = N * 1) := by rw [Hid, hF2.1, hN, Nat.mul_one]
        have HNEW : Hid (∀ j u, C2[j]? = some u → w2.cell? ((⟨g2, 0, none⟩ : Addr).add j) = some u) := fun j u hu => own2.cells rfl j u hu
        have HONE : Hid (∀ u ∈ C2, u.oneCell' = true) := fun u hu => by
          obtain ⟨j, hj⟩ := List.mem_iff_getElem?.1 hu
          have hjl : j < (freeM (n + 1)).length := by rw [← hF2.1]; exact (List.getElem?_eq_some_iff.1 hj).1
          obtain ⟨r, hr⟩ := at_lt hjl
          obtain ⟨b, o, c, e, _⟩ := hF2.2 j r hr
          rw [hj] at e
          rw [Option.some.inj e]
          try rfl
        have HO2 : Hid (w2.ownsRow w.heap.size 22 1 (.slice (some ⟨g, 0, none⟩) q cap) q C) := ((OwnR.of HO.out).below bel2 (Nat.le_refl _)).1
        have HF2 := Lib.hid hF2
        have HB2 := Lib.hid (HB.out.trans (bel2.mono hsz))
        have HBW := Lib.hid bel2
        have HQ2 : Hid (q + N = (condTo (n + 1)).length) := by rw [Hid, HST.out, List.length_append, ← HQ.out, hN]
        rw [← hN] at hpos
        have HN := Lib.hid hN
        clear own2 hF2 bel2
        rw [← hN]
        clear hN
        go_wp2_with (at_builtin; refine wpList_append_lies _ rfl (.tmp 8) (.tmp 10) 32 rfl w.heap.size 22 j0 _ 1 24 Tryz.underlying32 hj hy0 hy1 hy2 rfl (by omega) (.slice (some ⟨g, 0, none⟩) q cap) q C rfl HO2.out ⟨g2, 0, none⟩ N c2 C2 rfl HNL.out HNEW.out HONE.out (by omega) (by simp only [maxLen]; omega) (by omega) (by omega) w2.heap.size rfl ?_; intro g5 cap5 w5 hown5 hgrow5 hat5 hlt5)
        have hg5 : g5 = g ∨ g5 = w2.heap.size := by
          rcases hat5 with z | z
          · exact .inl (by injection z with z; exact z.symm)
          · exact .inr z
        have GF : Hid (InF w.heap.size w5 g5 (C ++ C2) (condTo (n + 1))) := by rw [HST.out]; exact HF.out.app HBW.out HF2.out hgrow5 hg5 hgl hsz
        have GB : Hid (Below w.heap.size w w5) := HB2.out.grown hgrow5 (by omega) (fun z hz => by injection hz with hz; subst hz; exact (HO.out.lt g rfl).1)
        have GO := Lib.hid hown5
        clear hown5 hgrow5 hat5 hg5
        go_wp2
        go_roundw
        case rel => exact ⟨n + 1, q + N, g5, cap5, _, rfl, by go_num, by omega, HQ2, GO, GF, GB⟩
        case measure => simp [intOf]; omega
    · obtain rfl : n = 6 := by omega
      have e10 : q = 10 := by rw [HQ.out]; exact conds_len
      subst e10
      have GM : Hid (Mat wr wr.heap.size (some ⟨g, 0, none⟩) conds) := HF.out.mat HO.out
      have GB := HB
      clear HO HF HB
      go_wp2
      go_ret
      exact ⟨g, cap, rfl, GM.out, GB.out⟩
end Go.Proofs.YtnnihdkhblbdgaaGreat
/-
  Conditions of symplectic characters and of Hamiltonian maps: plain.
-/
namespace Go.Proofs.YtnnihdkhblbdgaaGreat
open Go.RowKit Fld
set_option linter.unusedVariables false
set_option linter.unusedSimpArgs false
set_option maxRecDepth 100000

/-- the Butcher product -/
def exP (t u : List Int) : List Int := Tr.can (Tr.gl t 0 u)
theorem to_lvT {t : List Int} (h : t ∈ treesTo 6) : Tr.isLv t = true := by
  obtain ⟨q, hq, h9⟩ := to_mem.1 h
  exact ((trees_all (n := q + 1) (by omega) (by omega)).1 _ h9).1
theorem exP_parts {t u : List Int} (ht : Tr.isLv t = true) (hu : Tr.isLv u = true) (h : t.length + u.length ≤ 6) : isTr (exP t u) = true ∧ (exP t u).length = t.length + u.length ∧ Tr.txt (exP t u) = Tr.rootT (Tr.brT (Tr.txt t) ++ [Tr.txt u]) ∧ Tr.isLv (Tr.gl t 0 u) = true := by
  obtain ⟨h1, h2⟩ := Tr.graft_root ht hu (by omega)
  have h3 := lv_can h2
  have h4 := (lv_bd ht).1
  refine ⟨?_, ?_, ?_, h2⟩
  · unfold isTr eqL exP
    rw [h3.1, (Tr.can_can h2).1]; simp
  · unfold exP
    rw [h3.2, Tr.gl_length (Tr.endL_le (by omega)).2]
  · unfold exP
    rw [(Tr.can_can h2).2, h1, Tr.grfF]
theorem val_at {a t : List Int} {i : Nat} (ht : (treesTo 6)[i]? = some t) : valT a t = a.getD (i + 1) 0 := by
  obtain ⟨j, e1, e2⟩ := idx_some 0 (List.mem_of_getElem? ht)
  obtain rfl := mapTx_inj e2 ht rfl
  unfold valT
  rw [e1, show ((0 : Int) + (j : Int) + 1).toNat = j + 1 by omega]
theorem exP_at {a t u : List Int} (ht : Tr.isLv t = true) (hu : Tr.isLv u = true) (h : t.length + u.length ≤ 6) : ∃ p : Nat, p < 37 ∧ Tr.idxL (exP t u) (treesTo 6) 0 = p ∧ valT a (exP t u) = a.getD (p + 1) 0 := by
  obtain ⟨h1, h2, _, _⟩ := exP_parts ht hu h
  obtain ⟨p, p37, e1, e2⟩ := small_idx h1 (by omega)
  exact ⟨p, p37, e1, val_at e2⟩
/-- the condition for two trees -/
def exOk (a t u : List Int) : Prop := (valT a (exP t u) + valT a (exP u t)) % 10007 = a.getD 0 0 * (valT a t * valT a u % 10007) % 10007
/-- two trees by their places, with so many nodes -/
def exAt (a : List Int) (i k n : Nat) : Prop := ∀ t u, (treesTo 6)[i]? = some t → (treesTo 6)[k]? = some u → t.length + u.length = n → exOk a t u
/-- the greatest number up to which the conditions hold -/
def IsLim (a : List Int) (L : Int) : Prop :=
  1 ≤ L ∧ L ≤ 6 ∧ (∀ i k (n : Nat), (n : Int) ≤ L → exAt a i k n) ∧ (L = 6 ∨ ∃ i k, ∃ n : Nat, (n : Int) = L + 1 ∧ ¬ exAt a i k n)
theorem IsLim.eq {a : List Int} {L L' : Int} (h : IsLim a L) (h' : IsLim a L') : L = L' := by
  obtain ⟨h1, h2, h3, h4⟩ := h
  obtain ⟨g1, g2, g3, g4⟩ := h'
  have x : ¬ L < L' := fun q => by
    rcases h4 with h4 | ⟨i, k, n, e, h5⟩
    · omega
    · exact h5 (g3 i k n (by omega))
  have y : ¬ L' < L := fun q => by
    rcases g4 with g4 | ⟨i, k, n, e, g5⟩
    · omega
    · exact g5 (h3 i k n (by omega))
  omega
noncomputable def limOf (a : List Int) : Int := @dite _ (∃ L, IsLim a L) (Classical.propDecidable _) (fun h => Classical.choose h) (fun _ => 0)
theorem IsLim.of {a : List Int} {L : Int} (h : IsLim a L) : limOf a = L := by
  unfold limOf
  rw [dif_pos ⟨L, h⟩]
  exact (Classical.choose_spec (⟨L, h⟩ : ∃ L, IsLim a L)).eq h
/-! the program's search: pairs before (i, k), which either hold or have more nodes than the limit -/
def PLim (a : List Int) (i k : Nat) (L : Int) : Prop :=
  1 ≤ L ∧ L ≤ 6 ∧ (∀ j l (n : Nat), (j < i ∨ (j = i ∧ l < k)) → (n : Int) ≤ L → exAt a j l n) ∧ (L = 6 ∨ ∃ i k, ∃ n : Nat, (n : Int) = L + 1 ∧ ¬ exAt a i k n)
theorem PLim.start (a : List Int) : PLim a 0 0 6 := ⟨by omega, by omega, fun j l n h => by omega, .inl rfl⟩
theorem PLim.over {a : List Int} {i k : Nat} {L : Int} {t u : List Int} (h : PLim a i k L) (ht : (treesTo 6)[i]? = some t) (hu : (treesTo 6)[k]? = some u) (hn : L < (t.length : Int) + (u.length : Int)) : PLim a i (k + 1) L := by
  obtain ⟨h1, h2, h3, h4⟩ := h
  refine ⟨h1, h2, fun j l n hj hnL => ?_, h4⟩
  by_cases e : j = i ∧ l = k
  · obtain ⟨rfl, rfl⟩ := e
    intro t' u' ht' hu' he
    rw [ht] at ht'; rw [hu] at hu'
    obtain rfl := Option.some.inj ht'
    obtain rfl := Option.some.inj hu'
    omega
  · exact h3 j l n (by omega) hnL
theorem PLim.good {a : List Int} {i k : Nat} {L : Int} {t u : List Int} (h : PLim a i k L) (ht : (treesTo 6)[i]? = some t) (hu : (treesTo 6)[k]? = some u) (hg : exOk a t u) : PLim a i (k + 1) L := by
  obtain ⟨h1, h2, h3, h4⟩ := h
  refine ⟨h1, h2, fun j l n hj hnL => ?_, h4⟩
  by_cases e : j = i ∧ l = k
  · obtain ⟨rfl, rfl⟩ := e
    intro t' u' ht' hu' he
    rw [ht] at ht'; rw [hu] at hu'
    obtain rfl := Option.some.inj ht'
    obtain rfl := Option.some.inj hu'
    exact hg
  · exact h3 j l n (by omega) hnL
theorem PLim.bad {a : List Int} {i k : Nat} {L : Int} {t u : List Int} (h : PLim a i k L) (ht : (treesTo 6)[i]? = some t) (hu : (treesTo 6)[k]? = some u) (hn : (t.length : Int) + (u.length : Int) ≤ L) (hb : ¬ exOk a t u) : PLim a i (k + 1) ((t.length : Int) + (u.length : Int) - 1) := by
  obtain ⟨h1, h2, h3, h4⟩ := h
  have b1 := (lv_bd (to_lvT (List.mem_of_getElem? ht))).1
  have b2 := (lv_bd (to_lvT (List.mem_of_getElem? hu))).1
  refine ⟨by omega, by omega, fun j l n hj hnL => ?_, .inr ⟨i, k, t.length + u.length, by omega, fun g => hb (g t u ht hu rfl)⟩⟩
  by_cases e : j = i ∧ l = k
  · obtain ⟨rfl, rfl⟩ := e
    intro t' u' ht' hu' he
    rw [ht] at ht'; rw [hu] at hu'
    obtain rfl := Option.some.inj ht'
    obtain rfl := Option.some.inj hu'
    omega
  · exact h3 j l n (by omega) (by omega)
theorem PLim.leave {a : List Int} {i : Nat} {L : Int} (h : PLim a i 37 L) : PLim a (i + 1) 0 L := by
  obtain ⟨h1, h2, h3, h4⟩ := h
  refine ⟨h1, h2, fun j l n hj hnL => ?_, h4⟩
  by_cases e : j < i ∨ l < 37
  · exact h3 j l n (by omega) hnL
  · intro t' u' ht' hu' he
    rw [List.getElem?_eq_none (by rw [to_len]; omega)] at hu'; cases hu'
theorem PLim.done {a : List Int} {L : Int} (h : PLim a 37 0 L) : IsLim a L := by
  obtain ⟨h1, h2, h3, h4⟩ := h
  refine ⟨h1, h2, fun i k n hnL => ?_, h4⟩
  by_cases e : i < 37
  · exact h3 i k n (by omega) hnL
  · intro t' u' ht' hu' he
    rw [List.getElem?_eq_none (by rw [to_len]; omega)] at ht'; cases ht'
/-! the model's: all pairs with fewer nodes, and those with n nodes before (i, k) -/
def MLim (a : List Int) (n i k : Nat) : Prop := 2 ≤ n ∧ n ≤ 7 ∧ (∀ j l q, q < n → exAt a j l q) ∧ ∀ j l, (j < i ∨ (j = i ∧ l < k)) → exAt a j l n
theorem MLim.start (a : List Int) : MLim a 2 0 0 := ⟨by omega, by omega, fun j l q hq t u ht hu he => by
  have b1 := (lv_bd (to_lvT (List.mem_of_getElem? ht))).1
  have b2 := (lv_bd (to_lvT (List.mem_of_getElem? hu))).1
  omega, fun j l h => by omega⟩
theorem MLim.step {a : List Int} {n i k : Nat} (h : MLim a n i k) (g : exAt a i k n) : MLim a n i (k + 1) := by
  obtain ⟨h1, h2, h3, h4⟩ := h
  refine ⟨h1, h2, h3, fun j l hj => ?_⟩
  by_cases e : j = i ∧ l = k
  · obtain ⟨rfl, rfl⟩ := e; exact g
  · exact h4 j l (by omega)
theorem exAt_other {a : List Int} {i k n : Nat} {t u : List Int} (ht : (treesTo 6)[i]? = some t) (hu : (treesTo 6)[k]? = some u) (hn : t.length + u.length ≠ n) : exAt a i k n := fun t' u' ht' hu' he => by
  rw [ht] at ht'; rw [hu] at hu'
  obtain rfl := Option.some.inj ht'
  obtain rfl := Option.some.inj hu'
  omega
theorem exAt_good {a : List Int} {i k n : Nat} {t u : List Int} (ht : (treesTo 6)[i]? = some t) (hu : (treesTo 6)[k]? = some u) (hg : exOk a t u) : exAt a i k n := fun t' u' ht' hu' he => by
  rw [ht] at ht'; rw [hu] at hu'
  obtain rfl := Option.some.inj ht'
  obtain rfl := Option.some.inj hu'
  exact hg
theorem MLim.leave {a : List Int} {n i : Nat} (h : MLim a n i 37) : MLim a n (i + 1) 0 := by
  obtain ⟨h1, h2, h3, h4⟩ := h
  refine ⟨h1, h2, h3, fun j l hj => ?_⟩
  by_cases e : j < i ∨ l < 37
  · exact h4 j l (by omega)
  · intro t' u' ht' hu' he
    rw [List.getElem?_eq_none (by rw [to_len]; omega)] at hu'; cases hu'
theorem MLim.next {a : List Int} {n : Nat} (h : MLim a n 37 0) (h6 : n ≤ 6) : MLim a (n + 1) 0 0 := by
  obtain ⟨h1, h2, h3, h4⟩ := h
  refine ⟨by omega, by omega, fun j l q hq => ?_, fun j l hj => by omega⟩
  by_cases e : q < n
  · exact h3 j l q e
  · obtain rfl : q = n := by omega
    by_cases e : j < 37
    · exact h4 j l (by omega)
    · intro t' u' ht' hu' he
      rw [List.getElem?_eq_none (by rw [to_len]; omega)] at ht'; cases ht'
theorem MLim.done {a : List Int} (h : MLim a 7 0 0) : IsLim a 6 := ⟨by omega, by omega, fun i k n hn => h.2.2.1 i k n (by omega), .inl rfl⟩
theorem MLim.bad {a : List Int} {n i k : Nat} {t u : List Int} (h : MLim a n i k) (ht : (treesTo 6)[i]? = some t) (hu : (treesTo 6)[k]? = some u) (hn : t.length + u.length = n) (h6 : n ≤ 6) (hb : ¬ exOk a t u) : IsLim a ((n : Int) - 1) := by
  have := h.1
  exact ⟨by omega, by omega, fun j l q hq => h.2.2.1 j l q (by omega), .inr ⟨i, k, n, by omega, fun g => hb (g t u ht hu hn)⟩⟩
noncomputable def symToA (a : List Int) : Int × Int := if isMp a = true then (if a.getD 0 0 = 1 then (limOf a, 0) else (0, 5)) else (0, 1)
noncomputable def hamToA (a : List Int) : Int × Int := if isMp a = true then (if a.getD 0 0 = 0 then (limOf a, 0) else (0, 5)) else (0, 1)
end Go.Proofs.YtnnihdkhblbdgaaGreat
/-
  The place of a list in a list of lists, the model's.
-/
namespace Go.Proofs.YtnnihdkhblbdgaaGreat
open Go.RowKit Fld
set_option linter.unusedVariables false
set_option linter.unusedSimpArgs false
set_option maxRecDepth 100000

set_option maxHeartbeats 1000000 in
theorem l03Find_any (A Au : Option Addr) (n c nu cu B Bu : Nat) (m : List (List Int)) (u : List Int) (w : World) (hl : m.length = n) (hn : n ≤ 1048576) (hr : ∀ r ∈ m, r.length ≤ 1048576) (hu : u.length = nu) (hnu : nu ≤ 1048576) (h : Mat w B A m) (h' : Row w Bu Au (ints u)) :
    Calls Tryz.prog 17 #[.slice A n c, .slice Au nu cu] w fun e w' => e = .returned (.int .i64 (Tr.idxL u m 0)) ∧ ∃ k, w' = w.drewN k := by
  have HL := Lib.hid hl
  have HR := Lib.hid hr
  clear hl hr
  go_enter Tryz.func17, Tryz.ntmps17
  go_wp2_with fail
  go_loopw [5] (fun i wr => ∃ k d : Nat, k ≤ n ∧ i = .int .i64 k ∧ wr = w.drewN d ∧ Hid (Tr.idxL u m 0 = Tr.idxL u (m.drop k) k)) (fun i _ => n - (intOf i).toNat)
  case atStart => exact ⟨0, 0, Nat.zero_le _, rfl, rfl, rfl⟩
  case round =>
    obtain ⟨k, d, hk, rfl, rfl, HI⟩ := hrel
    by_cases hlt : k < n
    · obtain ⟨r, hr⟩ := at_lt (show k < m.length by rw [HL.out]; exact hlt)
      obtain ⟨b, o, Ak, ck, rfl, _, hca, _, _, hrow⟩ := (Mat.drewN h d) k r hr
      have HRL : Hid (r.length ≤ 1048576) := HR.out r (List.mem_of_getElem? hr)
      obtain ⟨N1, N2⟩ := Tr.idx_next HI.out hr
      have C1 := l01Same_any Ak Au r.length nu ck cu B Bu r u (w.drewN d) rfl hu (by have := HRL.out; omega) (by omega) hrow (h'.drewN d)
      clear hr HI hrow
      by_cases hru : r = u
      · have G := Lib.hid (N1 hru)
        rw [hru, eqL_self, ← hru] at C1
        clear N1 N2 hru
        go_wp2_with (go_at_call 32; refine C1.mono ?_; rintro e w' ⟨rfl, d2, rfl⟩)
        go_ret
        exact ⟨by rw [G.out]; rfl, _, rfl⟩
      · have G := Lib.hid (N2 hru)
        have e : eqL r u = false := by unfold eqL; exact decide_eq_false hru
        rw [e] at C1
        clear N1 N2 hru e
        go_wp2_with (go_at_call 32; refine C1.mono ?_; rintro e w' ⟨rfl, d2, rfl⟩)
        go_roundw
        case rel => exact ⟨k + 1, _, by omega, by go_num, rfl, G⟩
        case measure => simp [intOf]; omega
    · have G := Lib.hid (Tr.idx_end HI.out (by rw [HL.out]; omega))
      clear HI
      go_wp2
      go_ret
      exact ⟨by rw [G.out]; rfl, _, rfl⟩
end Go.Proofs.YtnnihdkhblbdgaaGreat
/-
  The limit of conditions of maps, the model's.
-/
namespace Go.Proofs.YtnnihdkhblbdgaaGreat
open Go.RowKit Fld
set_option linter.unusedVariables false
set_option linter.unusedSimpArgs false
set_option maxRecDepth 100000

theorem addr_eqE {b o b' o' : Nat} (h : (some (⟨b, o, none⟩ : Addr)) = some ⟨b', o', none⟩) : b = b' ∧ o = o' := by
  injection h with e; injection e with e1 e2; exact ⟨e1, e2⟩
set_option maxHeartbeats 4000000 in
theorem l12To_any (A : Option Addr) (c B : Nat) (xs : List Int) (w : World) (hl : xs.length = 38) (hx : allNum xs = true) (hB : B ≤ w.heap.size) (h : Row w B A (ints xs)) :
    Calls Tryz.prog 23 #[.slice A 38 c] w fun e w' => e = .returned (.int .i64 (limOf xs)) ∧ Below w.heap.size w w' := by
  have HL := Lib.hid hl
  have HN := Lib.hid hx
  have C0 := fun w' => l03All_any 6 w' (by omega) (by omega)
  rw [to_len] at C0
  clear hl hx
  go_enter Tryz.func23, Tryz.ntmps23
  go_wp2_with fail
  refine (C0 _).mono ?_
  rintro e w1 ⟨A1, c1, vs1, rfl, own1, bel1⟩
  have B1 := Lib.hid bel1
  have FM : Hid (Mat w1 w1.heap.size A1 (treesTo 6)) := own1.mat
  have FX : Hid (Row w1 B A (ints xs)) := h.below B1.out hB
  have hs1 := B1.out.size
  obtain ⟨t0, ht0⟩ := at_lt (show 0 < (treesTo 6).length by rw [to_len]; omega)
  obtain ⟨b1, o1, _, _, rfl, hb1, _, _, _, _⟩ := FM.out 0 t0 ht0
  obtain ⟨x0, hx0⟩ := at_lt (show 0 < xs.length by rw [HL.out]; omega)
  obtain ⟨ba, oa, rfl, hba, _⟩ := FX.out 0 _ (ints_at hx0)
  clear own1 bel1 C0 ht0 hx0 h
  go_wp2_with fail
  go_loopw [4] (fun v wr => ∃ n : Nat, v = .int .i64 n ∧ Hid (MLim xs n 0 0) ∧ Hid (Below w1.heap.size w1 wr)) (fun v _ => 7 - (intOf v).toNat)
  case atStart => exact ⟨2, rfl, MLim.start xs, Below.refl _ _⟩
  case round =>
    obtain ⟨n, rfl, HT, HW⟩ := hrel
    have n2 := HT.out.1
    have n7 := HT.out.2.1
    by_cases hn6 : n ≤ 6
    · have hn6i : (n : Int) ≤ 6 := by omega
      go_wp2_with fail
      go_loopw [5] (fun v wr => ∃ i : Nat, i ≤ 37 ∧ v = .int .i64 i ∧ Hid (MLim xs n i 0) ∧ Hid (Below w1.heap.size w1 wr)) (fun v _ => 37 - (intOf v).toNat)
      case atStart => exact ⟨0, Nat.zero_le _, rfl, HT, HW⟩
      case round =>
        clear HT HW
        obtain ⟨i, hi, rfl, HT, HW⟩ := hrel
        by_cases hi37 : i < 37
        · have hi37i : (i : Int) < 37 := by omega
          go_wp2_with fail
          go_loopw [6] (fun v wr => ∃ k : Nat, k ≤ 37 ∧ v = .int .i64 k ∧ Hid (MLim xs n i k) ∧ Hid (Below w1.heap.size w1 wr)) (fun v _ => 37 - (intOf v).toNat)
          case atStart => exact ⟨0, Nat.zero_le _, rfl, HT, HW⟩
          case round =>
            clear HT HW
            obtain ⟨k, hk, rfl, HT, HW⟩ := hrel
            by_cases hk37 : k < 37
            · obtain ⟨t, ht⟩ := at_lt (show i < (treesTo 6).length by rw [to_len]; exact hi37)
              obtain ⟨u, hu⟩ := at_lt (show k < (treesTo 6).length by rw [to_len]; exact hk37)
              have lt_ := to_lvT (List.mem_of_getElem? ht)
              have lu_ := to_lvT (List.mem_of_getElem? hu)
              obtain ⟨t1, t8⟩ := lv_bd lt_
              obtain ⟨u1, u8⟩ := lv_bd lu_
              have HM := (FM.out.below HW.out (Nat.le_refl _))
              obtain ⟨bi, oi, Ai, ci, eA, hbi, hci, hlci, hcmi, rowi⟩ := HM i t ht
              obtain ⟨rfl, rfl⟩ := addr_eqE eA
              obtain ⟨bk, ok, Ak, ck, eA2, hbk, hck, hlck, hcmk, rowk⟩ := HM k u hu
              obtain ⟨rfl, rfl⟩ := addr_eqE eA2
              have i0 : (0 : Int) ≤ (i : Int) := Int.natCast_nonneg _
              have i1 : (i : Int) < 37 := by omega
              have k0 : (0 : Int) ≤ (k : Int) := Int.natCast_nonneg _
              have k1 : (k : Int) < 37 := by omega
              have HTT := Lib.hid ht
              have HUU := Lib.hid hu
              have HLT := Lib.hid lt_
              have HLU := Lib.hid lu_
              have hwz := HW.out.size
              have RI := Lib.hid rowi
              have RK := Lib.hid rowk
              obtain ⟨nt, hnt⟩ : ∃ nt, nt = t.length := ⟨_, rfl⟩
              obtain ⟨nu, hnu⟩ : ∃ nu, nu = u.length := ⟨_, rfl⟩
              have HNT := Lib.hid hnt.symm
              have HNU := Lib.hid hnu.symm
              rw [← hnt] at hci hlci t1 t8
              rw [← hnu] at hck hlck u1 u8
              have hwr : IntKind.i64.wrap ((nt : Int) + (nu : Int)) = ((nt + nu : Nat) : Int) := by rw [IntWalk.i64_in _ (by omega)]; omega
              clear ht hu lt_ lu_ eA eA2 rowi rowk hnt hnu HM
              by_cases hsum : nt + nu = n
              · have tt : (((nt + nu : Nat) : Int) != (n : Int)) = false := bne_f (by omega)
                have HSUM := Lib.hid hsum
                have hn6' : nt + nu ≤ 6 := by omega
                clear hsum
                obtain ⟨_, pl, _, pg⟩ := exP_parts HLT.out HLU.out (show t.length + u.length ≤ 6 by rw [HNT.out, HNU.out]; omega)
                obtain ⟨_, ql, _, qg⟩ := exP_parts HLU.out HLT.out (show u.length + t.length ≤ 6 by rw [HNT.out, HNU.out]; omega)
                obtain ⟨p, p37, ep, vp⟩ := exP_at (a := xs) HLT.out HLU.out (show t.length + u.length ≤ 6 by rw [HNT.out, HNU.out]; omega)
                obtain ⟨q, q37, eq_, vq⟩ := exP_at (a := xs) HLU.out HLT.out (show u.length + t.length ≤ 6 by rw [HNT.out, HNU.out]; omega)
                have vt := val_at (a := xs) HTT.out
                have vu := val_at (a := xs) HUU.out
                rw [HNT.out, HNU.out] at pl ql
                have HRL : Hid (∀ r ∈ treesTo 6, r.length ≤ 1048576) := fun r hr => by have := (lv_bd (to_lvT hr)).2; omega
                have KK : Hid (∀ V, Below wr.heap.size wr V → V.cell? ⟨b1, o1 + i, none⟩ = some (.slice Ai nt ci) ∧ V.cell? ⟨b1, o1 + k, none⟩ = some (.slice Ak nu ck)) := fun V hV => ⟨(hV.cell (p := ⟨b1, o1 + i, none⟩) (by show b1 < wr.heap.size; omega)).trans hci, (hV.cell (p := ⟨b1, o1 + k, none⟩) (by show b1 < wr.heap.size; omega)).trans hck⟩
                have CG1 : ∀ V, Below wr.heap.size wr V → Calls Tryz.prog 39 #[.slice Ai nt ci, .int .i64 0, .slice Ak nu ck] V (NewRow 2 (nt + nu) (ints (exP t u)) V) := fun V hV => l04Graft_any Ai Ak nt nu ci ck w1.heap.size w1.heap.size 0 t u V HNT.out HNU.out (by omega) (by omega) (by omega) hlci HLT.out HLU.out pg (by have := hV.size; omega) (by have := hV.size; omega) (RI.out.below hV hwz) (RK.out.below hV hwz)
                have CG2 : ∀ V, Below wr.heap.size wr V → Calls Tryz.prog 39 #[.slice Ak nu ck, .int .i64 0, .slice Ai nt ci] V (NewRow 2 (nu + nt) (ints (exP u t)) V) := fun V hV => l04Graft_any Ak Ai nu nt ck ci w1.heap.size w1.heap.size 0 u t V HNU.out HNT.out (by omega) (by omega) (by omega) hlck HLU.out HLT.out qg (by have := hV.size; omega) (by have := hV.size; omega) (RK.out.below hV hwz) (RI.out.below hV hwz)
                have CF1 := fun V A9 c9 (hV : Below wr.heap.size wr V) (r : Row V V.heap.size A9 (ints (exP t u))) => l03Find_any (some ⟨b1, o1, none⟩) A9 37 c1 (nt + nu) c9 w1.heap.size V.heap.size (treesTo 6) (exP t u) V to_len (by omega) HRL.out pl (by omega) (FM.out.below (HW.out.trans (hV.mono hwz)) (Nat.le_refl _)) r
                have CF2 := fun V A9 c9 (hV : Below wr.heap.size wr V) (r : Row V V.heap.size A9 (ints (exP u t))) => l03Find_any (some ⟨b1, o1, none⟩) A9 37 c1 (nu + nt) c9 w1.heap.size V.heap.size (treesTo 6) (exP u t) V to_len (by omega) HRL.out ql (by omega) (FM.out.below (HW.out.trans (hV.mono hwz)) (Nat.le_refl _)) r
                simp only [ep] at CF1
                simp only [eq_] at CF2
                obtain ⟨a0, ha0⟩ := at_lt (show 0 < xs.length by rw [HL.out]; omega)
                obtain ⟨at_, hat⟩ := at_lt (show i + 1 < xs.length by rw [HL.out]; omega)
                obtain ⟨au, hau⟩ := at_lt (show k + 1 < xs.length by rw [HL.out]; omega)
                obtain ⟨ap, hap⟩ := at_lt (show p + 1 < xs.length by rw [HL.out]; omega)
                obtain ⟨aq, haq⟩ := at_lt (show q + 1 < xs.length by rw [HL.out]; omega)
                have gd : ∀ {j : Nat} {x : Int}, xs[j]? = some x → xs.getD j 0 = x := fun h => by rw [List.getD_eq_getElem?_getD, h]; rfl
                rw [gd hat] at vt
                rw [gd hau] at vu
                rw [gd hap] at vp
                rw [gd haq] at vq
                obtain ⟨a00, a01⟩ := num_at HN.out ha0
                obtain ⟨t00, t01⟩ := num_at HN.out hat
                obtain ⟨u00, u01⟩ := num_at HN.out hau
                obtain ⟨p00, p01⟩ := num_at HN.out hap
                obtain ⟨q00, q01⟩ := num_at HN.out haq
                have XC : Hid (∀ V, Below w1.heap.size w1 V → V.cell? ⟨ba, oa, none⟩ = some (.int .i64 a0) ∧ V.cell? ⟨ba, oa + (i + 1), none⟩ = some (.int .i64 at_) ∧ V.cell? ⟨ba, oa + (k + 1), none⟩ = some (.int .i64 au) ∧ V.cell? ⟨ba, oa + (p + 1), none⟩ = some (.int .i64 ap) ∧ V.cell? ⟨ba, oa + (q + 1), none⟩ = some (.int .i64 aq)) := fun V hV => by
                  have HXV := FX.out.below hV (by omega)
                  obtain ⟨_, _, e0, _, c0⟩ := HXV 0 _ (ints_at ha0)
                  obtain ⟨rfl, rfl⟩ := addr_eqE e0
                  obtain ⟨_, _, e0, _, c1⟩ := HXV (i + 1) _ (ints_at hat)
                  obtain ⟨rfl, rfl⟩ := addr_eqE e0
                  obtain ⟨_, _, e0, _, c2⟩ := HXV (k + 1) _ (ints_at hau)
                  obtain ⟨rfl, rfl⟩ := addr_eqE e0
                  obtain ⟨_, _, e0, _, c3⟩ := HXV (p + 1) _ (ints_at hap)
                  obtain ⟨rfl, rfl⟩ := addr_eqE e0
                  obtain ⟨_, _, e0, _, c4⟩ := HXV (q + 1) _ (ints_at haq)
                  obtain ⟨rfl, rfl⟩ := addr_eqE e0
                  exact ⟨by rw [Nat.add_zero] at c0; exact c0, c1, c2, c3, c4⟩
                have CM1 := fun V => l01Mul_any at_ au V t00 t01 u00 u01
                obtain ⟨m1, hm1⟩ : ∃ m1, m1 = at_ * au % 10007 := ⟨_, rfl⟩
                have CM2 := fun V => l01Mul_any a0 m1 V a00 a01 (by omega) (by omega)
                obtain ⟨m2, hm2⟩ : ∃ m2, m2 = a0 * m1 % 10007 := ⟨_, rfl⟩
                have CA := fun V => l01Add_any ap aq V p00 p01 q00 q01
                obtain ⟨m3, hm3⟩ : ∃ m3, m3 = (ap + aq) % 10007 := ⟨_, rfl⟩
                have GOK : Hid (exOk xs t u ↔ m3 = m2) := by unfold exOk; rw [Hid, vp, vq, vt, vu, gd ha0, hm3, hm2, hm1]
                simp only [← hm1] at CM1
                simp only [← hm2] at CM2
                simp only [← hm3] at CA
                have wi : IntKind.i64.wrap ((i : Int) + 1) = ((i + 1 : Nat) : Int) := by rw [IntWalk.i64_in _ (by omega)]; omega
                have wk : IntKind.i64.wrap ((k : Int) + 1) = ((k + 1 : Nat) : Int) := by rw [IntWalk.i64_in _ (by omega)]; omega
                have wp : IntKind.i64.wrap ((p : Int) + 1) = ((p + 1 : Nat) : Int) := by rw [IntWalk.i64_in _ (by omega)]; omega
                have wq : IntKind.i64.wrap ((q : Int) + 1) = ((q + 1 : Nat) : Int) := by rw [IntWalk.i64_in _ (by omega)]; omega
                have q0 := (KK.out wr (Below.refl _ _)).1
                have q1 := (KK.out wr (Below.refl _ _)).2
                clear hm1 hm2 hm3 vp vq vt vu gd ha0 hat hau hap haq a00 a01 t00 t01 u00 u01 p00 p01 q00 q01 pg qg pl ql ep eq_ hci hck
                go_wp2_with fail
                go_quiet (fail)
                go_wp2_with fail
                generalize hW4 : wr.drewN _ = W4
                have BQ : Hid (Below wr.heap.size wr W4) := by rw [← hW4]; exact below_drewN (Below.refl _ _) _
                clear hW4 q0 q1
                go_region_held3 (fun V => V.cell? ⟨b1, o1 + i, none⟩ = some (.slice Ai nt ci) ∧ V.cell? ⟨b1, o1 + k, none⟩ = some (.slice Ak nu ck))
                  (first | exact KK.out _ BQ.out | exact KK.out _ BQ.out.drew | exact KK.out _ (below_drewN BQ.out _) | exact KK.out _ (below_drewN BQ.out _).drew | exact KK.out _ b92 | exact KK.out _ (below_drewN b92 _))
                  (first
                    | (go_at_call 39; refine (CG1 _ (by first | exact BQ.out | exact BQ.out.drew | exact below_drewN BQ.out _)).mono ?_; rintro e w2 ⟨A9, c9, rfl, own9, be9⟩; have b92 : Below wr.heap.size wr w2 := (show Below wr.heap.size wr W4 from BQ.out).trans (Below.mono ⟨be9.os, be9.tape, be9.output, be9.size, be9.block⟩ BQ.out.size))
                    | (go_at_call 17; refine (CF1 _ A9 c9 b92 (row_of_own own9)).mono ?_; rintro e w3 ⟨rfl, d3, rfl⟩))
                have BR := Lib.hid (below_drewN b92 d3)
                clear own9 be9
                go_wp2_with fail
                generalize hW5 : w2.drewN d3 = W5 at BR ⊢
                have GBR : Hid (∀ V, Below W5.heap.size W5 V → Below wr.heap.size wr V) := fun V hV => BR.out.trans (hV.mono BR.out.size)
                have hz5 := BR.out.size
                clear hW5 b92
                go_region_held3 (fun V => V.cell? ⟨b1, o1 + i, none⟩ = some (.slice Ai nt ci) ∧ V.cell? ⟨b1, o1 + k, none⟩ = some (.slice Ak nu ck))
                  (first | exact KK.out _ BR.out | exact KK.out _ BR.out.drew | exact KK.out _ (below_drewN BR.out _) | exact KK.out _ (below_drewN BR.out _).drew | exact KK.out _ b82 | exact KK.out _ (below_drewN b82 _))
                  (first
                    | (go_at_call 39; refine (CG2 _ (by first | exact BR.out | exact BR.out.drew | exact below_drewN BR.out _)).mono ?_; rintro e w6 ⟨A8, c8, rfl, own8, be8⟩; have b82 : Below wr.heap.size wr w6 := GBR.out w6 ⟨be8.os, be8.tape, be8.output, be8.size, be8.block⟩)
                    | (go_at_call 17; refine (CF2 _ A8 c8 b82 (row_of_own own8)).mono ?_; rintro e w7 ⟨rfl, d7, rfl⟩))
                have BS := Lib.hid (below_drewN b82 d7)
                clear own8 be8 CG1 CG2 CF1 CF2 BR GBR hz5
                go_wp2_with fail
                generalize hW6 : w6.drewN d7 = W6 at BS ⊢
                clear hW6 b82
                obtain ⟨x0, x1, x2, x3, x4⟩ := XC.out W6 (HW.out.trans (BS.out.mono hwz))
                have GB : Hid (∀ d, Below w1.heap.size w1 (W6.drewN d)) := fun d => below_drewN (HW.out.trans (BS.out.mono hwz)) d
                go_quiet ((go_at_call 40; first | exact quietL (CM1 _) | exact quietL (CM2 _) | exact quietL2 (CM1 _) | exact quietL2 (CM2 _)))
                go_wp2_with fail
                by_cases hok : m3 = m2
                · have tb : (m3 != m2) = false := bne_f hok
                  have G := Lib.hid (HT.out.step (exAt_good HTT.out HUU.out (GOK.out.2 hok)))
                  clear hok HT GOK
                  go_quiet ((go_at_call 41; first | exact quietL (CA _) | exact quietL2 (CA _)))
                  go_wp2
                  go_roundw
                  case rel => exact ⟨k + 1, by omega, by go_num, G, by first | exact GB.out _ | exact below_drewN (GB.out _) _⟩
                  case measure => simp [intOf]; omega
                · have tb : (m3 != m2) = true := bne_t hok
                  have G : Hid (limOf xs = (n : Int) - 1) := IsLim.of (HT.out.bad HTT.out HUU.out (by rw [HNT.out, HNU.out]; exact HSUM.out) hn6 (fun g => hok (GOK.out.1 g)))
                  have wn : IntKind.i64.wrap ((n : Int) - 1) = (n : Int) - 1 := IntWalk.i64_in _ (by omega)
                  clear hok HT GOK
                  go_quiet ((go_at_call 41; first | exact quietL (CA _) | exact quietL2 (CA _)))
                  go_wp2
                  go_ret
                  exact ⟨ret_i64 G.out.symm, B1.out.trans (Below.mono (by first | exact GB.out _ | exact below_drewN (GB.out _) _) hs1)⟩
              · have tt : (((nt + nu : Nat) : Int) != (n : Int)) = true := bne_t (by omega)
                have G := Lib.hid (HT.out.step (exAt_other HTT.out HUU.out (by rw [HNT.out, HNU.out]; exact hsum)))
                have GB : Hid (∀ d, Below w1.heap.size w1 (wr.drewN d)) := fun d => below_drewN HW.out d
                clear HT HW RI RK
                go_wp2_with fail
                go_quiet (fail)
                go_wp2
                go_roundw
                case rel => exact ⟨k + 1, by omega, by go_num, G, GB.out _⟩
                case measure => simp [intOf]; omega
            · obtain rfl : k = 37 := by omega
              have G := Lib.hid HT.out.leave
              clear HT
              go_wp2
              go_roundw
              case rel => exact ⟨i + 1, by omega, by go_num, G, HW⟩
              case measure => simp [intOf]; omega
        · obtain rfl : i = 37 := by omega
          have G := Lib.hid (HT.out.next hn6)
          clear HT
          go_wp2
          go_roundw
          case rel => exact ⟨n + 1, by go_num, G, HW⟩
          case measure => simp [intOf]; omega
    · have e7 : n = 7 := by omega
      have G : Hid (limOf xs = 6) := IsLim.of (by have := HT.out; rw [e7] at this; exact this.done)
      have GB : Hid (Below w.heap.size w wr) := B1.out.trans (HW.out.mono hs1)
      have h7 : ¬ ((n : Int) ≤ 6) := by omega
      clear HT
      go_wp2
      go_ret
      exact ⟨ret_i64 G.out.symm, GB.out⟩
end Go.Proofs.YtnnihdkhblbdgaaGreat
/-
  What the tests on maps answer, the program's and the model's alike.
-/
namespace Go.Proofs.YtnnihdkhblbdgaaGreat
open Go.RowKit Fld
set_option linter.unusedVariables false
set_option linter.unusedSimpArgs false
set_option maxRecDepth 100000

theorem isMap_any (A : Option Addr) (n c B : Nat) (xs : List Int) (w : World) (hl : xs.length = n) (hn : n ≤ 9223372036854775807) (h : Row w B A (ints xs)) :
    Calls Tryz.prog 18 #[.slice A n c] w fun e w' => e = .returned (.bool (isMp xs)) ∧ w = w' := by
  have HL := Lib.hid hl
  by_cases h0 : n = 38
  · have H := Lib.hid (isMp_num (a := xs) (by omega))
    have t : ((n : Int) == 38) = true := beq_t (by omega)
    clear hl h0
    go_enter Tryz.func18, Tryz.ntmps18
    go_wp2_with (go_at_call 33; refine (areNumbers_any _ _ _ B xs _ HL.out hn h).mono ?_; rintro e w' ⟨rfl, rfl⟩)
    go_ret
    exact ⟨ret_bool H.out.symm, rfl⟩
  · have H := Lib.hid (isMp_len (a := xs) (by omega))
    have t : ((n : Int) == 38) = false := beq_f (by omega)
    clear hl h0
    go_enter Tryz.func18, Tryz.ntmps18
    go_wp2
    go_ret
    exact ⟨ret_bool H.out.symm, rfl⟩
theorem l07Is_any (A : Option Addr) (n c B : Nat) (xs : List Int) (w : World) (hl : xs.length = n) (hn : n ≤ 9223372036854775807) (h : Row w B A (ints xs)) :
    Calls Tryz.prog 27 #[.slice A n c] w fun e w' => e = .returned (.bool (isMp xs)) ∧ w = w' := by
  have HL := Lib.hid hl
  by_cases h0 : n = 38
  · have H := Lib.hid (isMp_num (a := xs) (by omega))
    have t : ((n : Int) == 38) = true := beq_t (by omega)
    clear hl h0
    go_enter Tryz.func27, Tryz.ntmps27
    go_wp2_with (go_at_call 45; refine (l01Numbers_any _ _ _ B xs _ HL.out hn h).mono ?_; rintro e w' ⟨rfl, rfl⟩)
    go_ret
    exact ⟨ret_bool H.out.symm, rfl⟩
  · have H := Lib.hid (isMp_len (a := xs) (by omega))
    have t : ((n : Int) == 38) = false := beq_f (by omega)
    clear hl h0
    go_enter Tryz.func27, Tryz.ntmps27
    go_wp2
    go_ret
    exact ⟨ret_bool H.out.symm, rfl⟩
theorem map_first {A : Option Addr} {n B : Nat} {a : List Int} {w : World} (hm : isMp a = true) (hl : a.length = n) (h : Row w B A (ints a)) : ∃ x b o, a[0]? = some x ∧ A = some ⟨b, o, none⟩ ∧ w.cell? ⟨b, o, none⟩ = some (.int .i64 x) ∧ 1 ≤ n ∧ 0 ≤ x ∧ x < 10007 := by
  obtain ⟨h1, h2⟩ := isMp_parts hm hl
  obtain ⟨x, hx⟩ := at_lt (show 0 < a.length by omega)
  obtain ⟨b, o, e, _, hc⟩ := h 0 _ (ints_at hx)
  rw [Nat.add_zero] at hc
  obtain ⟨x0, x1⟩ := num_at h2 hx
  exact ⟨x, b, o, hx, e, hc, by omega, x0, x1⟩
theorem isCharacter_any (A : Option Addr) (n c B : Nat) (xs : List Int) (w : World) (hl : xs.length = n) (hn : n ≤ 9223372036854775807) (h : Row w B A (ints xs)) :
    Calls Tryz.prog 19 #[.slice A n c] w fun e w' => e = .returned (.bool (isChr xs)) ∧ w = w' := by
  have C0 := isMap_any A n c B xs w hl hn h
  cases hm : isMp xs
  · have H := Lib.hid (isChr_no hm)
    rw [hm] at C0
    clear hl
    go_enter Tryz.func19, Tryz.ntmps19
    go_wp2_with fail
    refine C0.mono ?_
    rintro e w' ⟨rfl, rfl⟩
    go_wp2
    go_ret
    exact ⟨ret_bool H.out.symm, rfl⟩
  · obtain ⟨x, b, o, hx, rfl, hc, p1, x0, x1⟩ := map_first hm hl h
    have H := Lib.hid (isChr_at hm hx)
    rw [hm] at C0
    clear hl hx
    by_cases hx1 : x = 1
    · have t : (x == 1) = true := beq_t hx1
      have D : Hid (decide (x = 1) = true) := decide_eq_true hx1
      clear hx1
      go_enter Tryz.func19, Tryz.ntmps19
      go_wp2_with fail
      refine C0.mono ?_
      rintro e w' ⟨rfl, rfl⟩
      go_wp2
      go_ret
      exact ⟨ret_bool (H.out.trans D.out).symm, rfl⟩
    · have t : (x == 1) = false := beq_f hx1
      have D : Hid (decide (x = 1) = false) := decide_eq_false hx1
      clear hx1
      go_enter Tryz.func19, Tryz.ntmps19
      go_wp2_with fail
      refine C0.mono ?_
      rintro e w' ⟨rfl, rfl⟩
      go_wp2
      go_ret
      exact ⟨ret_bool (H.out.trans D.out).symm, rfl⟩
theorem isInfinitesimal_any (A : Option Addr) (n c B : Nat) (xs : List Int) (w : World) (hl : xs.length = n) (hn : n ≤ 9223372036854775807) (h : Row w B A (ints xs)) :
    Calls Tryz.prog 42 #[.slice A n c] w fun e w' => e = .returned (.bool (isInf xs)) ∧ w = w' := by
  have C0 := isMap_any A n c B xs w hl hn h
  cases hm : isMp xs
  · have H := Lib.hid (isInf_no hm)
    rw [hm] at C0
    clear hl
    go_enter Tryz.func42, Tryz.ntmps42
    go_wp2_with fail
    refine C0.mono ?_
    rintro e w' ⟨rfl, rfl⟩
    go_wp2
    go_ret
    exact ⟨ret_bool H.out.symm, rfl⟩
  · obtain ⟨x, b, o, hx, rfl, hc, p1, x0, x1⟩ := map_first hm hl h
    have H := Lib.hid (isInf_at hm hx)
    rw [hm] at C0
    clear hl hx
    by_cases hx1 : x = 0
    · have t : (x == 0) = true := beq_t hx1
      have D : Hid (decide (x = 0) = true) := decide_eq_true hx1
      clear hx1
      go_enter Tryz.func42, Tryz.ntmps42
      go_wp2_with fail
      refine C0.mono ?_
      rintro e w' ⟨rfl, rfl⟩
      go_wp2
      go_ret
      exact ⟨ret_bool (H.out.trans D.out).symm, rfl⟩
    · have t : (x == 0) = false := beq_f hx1
      have D : Hid (decide (x = 0) = false) := decide_eq_false hx1
      clear hx1
      go_enter Tryz.func42, Tryz.ntmps42
      go_wp2_with fail
      refine C0.mono ?_
      rintro e w' ⟨rfl, rfl⟩
      go_wp2
      go_ret
      exact ⟨ret_bool (H.out.trans D.out).symm, rfl⟩
end Go.Proofs.YtnnihdkhblbdgaaGreat
/-
  A map of trees by their texts: valuesOf.
-/
namespace Go.Proofs.YtnnihdkhblbdgaaGreat
open Go.RowKit Fld Go.Maps
set_option linter.unusedVariables false
set_option linter.unusedSimpArgs false
set_option maxRecDepth 100000

theorem keyedV : Keyed Tryz.prog 52 := Maps.string_keyed Tryz.underlying52
theorem zeroNum (w : World) : (zeroValue 37).run Tryz.prog w = .ok (.int .i64 0) w := by kernel_rfl
theorem keyTxV {x : List UInt8} (h : x.length ≤ 1048576) : keyOf Tryz.prog 52 (.string ⟨x.toArray⟩) = some (.string x) := by
  have h1 := Go.WideMaps.keyOf_string_mk (P := Tryz.prog) (k := 52) Tryz.underlying52 (s := ⟨x.toArray⟩) (by simp [ByteArray.size, maxLen]; omega)
  simpa using h1
theorem keyLitV {x : List UInt8} : WideAt.IsKeyLit (.string x) := by simp [WideAt.IsKeyLit]
/-- block b is a map that holds the numbers f -/
def HoldsV (D : DataW Unit) (f : List UInt8 → Int) : Prop := ∀ x, D.atKey (.string x) (.lit (.int .i64 0)) = .lit (.int .i64 (f x))
def MapV (w : World) (b n : Nat) (f : List UInt8 → Int) : Prop :=
  ∃ D : DataW Unit, w.ownsMap Tryz.prog 52 (plainElem Tryz.prog 37) b n D ∧ HoldsV D f
theorem MapV.made (w : World) : MapV (w.alloc (.map #[] 0)) w.heap.size 0 (fun _ => 0) :=
  ⟨.map [], World.ownsMap_made _ _ _ _, fun x => by simp [DataW.atKey]⟩
theorem MapV.lt {w : World} {b n : Nat} {f : List UInt8 → Int} (h : MapV w b n f) : b < w.heap.size := by
  obtain ⟨D, h1, _⟩ := h
  exact h1.lt
theorem MapV.below {w w' : World} {b n B : Nat} {f : List UInt8 → Int} (h : MapV w b n f) (hb : Below B w w') (hB : b < B) : MapV w' b n f := by
  obtain ⟨D, ⟨es, clock, h1, r⟩, h2⟩ := h
  exact ⟨D, ⟨es, clock, (hb.block b hB).trans h1, r⟩, h2⟩
theorem ownsMap_below {w w' : World} {b n B : Nat} {D : DataW Unit} (h : w.ownsMap Tryz.prog 52 (plainElem Tryz.prog 37) b n D) (hb : Below B w w') (hB : b < B) : w'.ownsMap Tryz.prog 52 (plainElem Tryz.prog 37) b n D := by
  obtain ⟨es, clock, h1, r⟩ := h
  exact ⟨es, clock, (hb.block b hB).trans h1, r⟩
theorem MapV.next {w w' : World} {b n : Nat} {f : List UInt8 → Int} (h : MapV w b n f) (hb : Below w.heap.size w w') : MapV w' b n f := h.below hb h.lt
theorem HoldsV.put {D : DataW Unit} {f : List UInt8 → Int} {x : List UInt8} {c : Int} (h : HoldsV D f) (hm : IsMap D) : HoldsV (D.put (.string x) (.lit (.int .i64 c))) (fun y => if y = x then c else f y) := fun y => by
  show _ = DataW.lit (.int .i64 (if y = x then c else f y))
  by_cases e : y = x
  · subst e
    rw [if_pos rfl, Maps.atKey_put_same hm keyLitV]
  · rw [if_neg e, Maps.atKey_put_other (fun q => e (by injection q))]; exact h y
def ResV (n : Nat) (f : List UInt8 → Int) (w : World) (e : Ending) (w' : World) : Prop := ∃ b, e = .returned (.map (some b)) ∧ MapV w' b n f ∧ Below w.heap.size w w'
set_option maxHeartbeats 4000000 in
theorem valuesOf_any (A : Option Addr) (n c B : Nat) (xs : List Int) (w : World) (hl : xs.length = n) (hn : n ≤ 37) (ha : allNum xs = true) (hB : B ≤ w.heap.size) (h : Row w B A (ints xs)) :
    Calls Tryz.prog 66 #[.slice A n c] w (ResV n (valN xs n) w) := by
  have HL := Lib.hid hl
  have NA := Lib.hid ha
  have hB1 : B ≤ (w.alloc (.map #[] 0)).heap.size := by simp; omega
  have M0 := MapV.made w
  have B0 : Below w.heap.size w (w.alloc (.map #[] 0)) := (Below.refl _ _).alloc (Nat.le_refl _) _
  have hmm := @run_makeMap Tryz.prog
  clear hl ha
  go_enter Tryz.func66, Tryz.ntmps66
  go_wp2_with fail
  refine (allTrees_any _).mono ?_
  rintro e w1 ⟨A1, c1, vs1, rfl, own1, bel1⟩
  have M1 := Lib.hid (M0.next bel1)
  have B1 := Lib.hid (B0.trans (bel1.mono (by simp)))
  have O1 := Lib.hid own1
  have hcap := (own_cap own1.outer.1).1
  have hlo : (w.alloc (.map #[] 0)).heap.size = w.heap.size + 1 := by simp
  have hlo2 := Lib.hid hlo
  clear M0 B0 own1 bel1 hlo
  have hb0 := M1.out.lt
  have OWN : Hid (∃ lo, w.heap.size < lo ∧ OwnMat w1 lo w1.heap.size (.slice A1 200 c1) 200 Tr.allL vs1) := ⟨_, by rw [hlo2.out]; omega, O1.out⟩
  clear O1 hlo2
  go_wp2_with fail
  go_loopw [12] (fun i wr => ∃ k : Nat, k ≤ n ∧ i = .int .i64 k ∧ Hid (MapV wr w.heap.size k (valN xs k)) ∧ Hid (∃ lo, w.heap.size < lo ∧ OwnMat wr lo wr.heap.size (.slice A1 200 c1) 200 Tr.allL vs1) ∧ Hid (Below w.heap.size w wr)) (fun i _ => n - (intOf i).toNat)
  case atStart => exact ⟨0, Nat.zero_le _, rfl, M1, OWN, B1⟩
  case round =>
    clear M1 OWN B1
    obtain ⟨k, hk, rfl, HM, HO, HB⟩ := hrel
    have HR := Lib.hid (h.below HB.out hB)
    by_cases hlt : k < n
    · obtain ⟨x, hx⟩ := at_lt (show k < xs.length by rw [HL.out]; exact hlt)
      obtain ⟨t, ht⟩ := at_lt (show k < Tr.allL.length by rw [Tr.allL_len]; omega)
      obtain ⟨lo, hlo, hO⟩ := HO.out
      have hlv : Tr.isLv t = true := by
        obtain ⟨j, hj⟩ : ∃ j, (treesTo 6)[k]? = some j := ⟨t, by rw [← all_to (by omega)]; exact ht⟩
        have e : j = t := by rw [all_to (by omega), hj] at ht; injection ht
        subst e
        have hm := List.mem_of_getElem? hj
        obtain ⟨q, hq, h9⟩ := to_mem.1 hm
        exact ((trees_all (n := q + 1) (by omega) (by omega)).1 _ h9).1
      obtain ⟨r1, r8⟩ := lv_bd hlv
      obtain ⟨b1, o1, Ak, ck, eA, _, hct, hrc, hcm, hrow⟩ := hO.mat k t ht
      subst eA
      obtain ⟨bx, ox, rfl, hbx, hcx⟩ := HR.out k _ (ints_at hx)
      obtain ⟨x0, x1⟩ := num_at NA.out hx
      have hwf : (Lit.int .i64 x).wf = true := by simp [Lit.wf, IntKind.min, IntKind.max, IntKind.signed, IntKind.bits]; omega
      have hsz := HB.out.size
      obtain ⟨D, hown, hD⟩ := HM.out
      have hbw := hown.lt
      have hmap := hown.isMap
      have HDP := Lib.hid (HoldsV.put (x := Tr.txt t) (c := x) hD hmap)
      have HDW : Hid (∀ W' : World, Below wr.heap.size wr W' → W'.ownsMap Tryz.prog 52 (plainElem Tryz.prog 37) w.heap.size k D) := fun W' hb => ownsMap_below hown hb hbw
      have C1 := fun d => treeOf_any Ak t.length ck wr.heap.size t (wr.drewN d) rfl r1 r8 hrc (Nat.le_refl _) (hrow.drewN d)
      have htl := (lv_txt hlv).2.2.2
      have hkey := keyTxV (x := Tr.txt t) (by omega)
      have HPUT := Lib.hid (valN_put ht hx)
      obtain ⟨T, hT⟩ : ∃ T, T = Tr.txt t := ⟨_, rfl⟩
      rw [← hT] at C1 hkey HPUT HDP
      obtain ⟨X, hX⟩ : ∃ X : ByteArray, X = ⟨T.toArray⟩ := ⟨_, rfl⟩
      rw [← hX] at C1 hkey
      have HK : Hid (∀ W' : World, Below wr.heap.size wr W' → W'.cell? ⟨bx, ox + k, none⟩ = some (.int .i64 x)) := fun W' hb => (hb.cell (p := ⟨bx, ox + k, none⟩) (World.block_lt_of_cell? wr _ hcx)).trans hcx
      have HOO := Lib.hid hO
      have k0 : (0 : Int) ≤ (k : Int) := Int.natCast_nonneg _
      have k1 : (k : Int) < (n : Int) := by omega
      have HNE : Hid (some bx ≠ some w.heap.size) := fun e => by have := Option.some.inj e; omega
      clear hx ht hlv hT hX hrow htl hO HO hown hD hmap HM
      go_wp2_with fail
      go_region_held3 (fun w' => w'.cell? ⟨bx, ox + k, none⟩ = some (.int .i64 x)) (first | go_keep | exact HK.out _ (below_undrew' bel2) | exact World.grownBy.cell hgrow3 (HK.out _ (below_undrew' bel2)) HNE.out)
        (first
          | (go_at_call 76; refine (C1 1).mono ?_; rintro e w2 ⟨rfl, bel2⟩)
          | (obtain ⟨w3, hrun, hown3, hgrow3⟩ := World.ownsMap.update (HDW.out w2 (below_undrew' bel2)) keyedV Tryz.underlying75 (by unfold maxLen; omega) hkey (plainElem_int Tryz.underlying37 hwf); rw [hrun]; go_simp))
      have bel2' := below_undrew' bel2
      have hs2 := bel2'.size
      have hs3 := hgrow3.size
      have GM : Hid (MapV w3 w.heap.size (k + 1) (valN xs (k + 1))) := ⟨_, hown3, by rw [HPUT.out]; exact HDP.out⟩
      have hWI : Within w.heap.size (w.heap.size + 1) w2 w3 := Within.grown hgrow3 (fun g' e => by injection e with e; omega)
      have GO : Hid (∃ lo, w.heap.size < lo ∧ OwnMat w3 lo w3.heap.size (.slice (some ⟨b1, o1, none⟩) 200 c1) 200 Tr.allL vs1) := ⟨lo, hlo, ((HOO.out.below bel2' (Nat.le_refl _)).within hWI (by omega) (.inr (by omega))).more (Nat.le_refl _) (by omega)⟩
      have GB : Hid (Below w.heap.size w w3) := (HB.out.trans (bel2'.mono hsz)).grown hgrow3 (by omega) (fun z hz => by injection hz with hz; omega)
      clear hown3 hgrow3 hrun bel2 bel2' hWI HB HR HOO HDW HDP
      go_wp2
      go_roundw
      case rel => exact ⟨k + 1, by omega, by go_num, GM, GO, GB⟩
      case measure => simp [intOf]; omega
    · obtain rfl : k = n := by omega
      have HD : Hid (ResV k (valN xs k) w (.returned (.map (some w.heap.size))) wr) := ⟨_, rfl, HM.out, HB.out⟩
      clear HM HO HB HR
      go_wp2
      go_ret
      exact HD.out
end Go.Proofs.YtnnihdkhblbdgaaGreat
/-
  The texts of the trees of a list of level lists: the walk.
-/
namespace Go.Proofs.YtnnihdkhblbdgaaGreat
open Go.RowKit Fld
set_option linter.unusedVariables false
set_option linter.unusedSimpArgs false
set_option maxRecDepth 100000

set_option maxHeartbeats 1000000 in
theorem treesOf_any (A : Option Addr) (n c B : Nat) (f : List (List Int)) (w : World) (hl : f.length = n) (hn : n ≤ 1048576) (hr : ∀ r ∈ f, Tr.isLv r = true) (hB : B ≤ w.heap.size) (h : Mat w B A f) :
    Calls Tryz.prog 56 #[.slice A n c] w fun e w' => e = .returned (.slice (some ⟨w.heap.size, 0, none⟩) n n) ∧ w'.ownsRow w.heap.size 52 1 (.slice (some ⟨w.heap.size, 0, none⟩) n n) n (strs (f.map Tr.txt)) ∧ Below w.heap.size w w' := by
  obtain ⟨i0, hi, hz0, hz1, hz2⟩ := info_parts info_tree
  have HL := Lib.hid hl
  have HR := Lib.hid hr
  have HSL : Hid ((f.map Tr.txt).length = n) := by rw [Hid, List.length_map]; exact hl
  clear hl hr
  go_enter Tryz.func56, Tryz.ntmps56
  go_wp2_with (at_make; refine wpList_make_full _ rfl (.tmp 7) (.tmp 7) 50 rfl w.heap.size 52 i0 _ 1 Tryz.underlying50 hi hz0 hz1 .i64 .i64 _ _ n rfl rfl rfl rfl (by rw [hz2]; omega) (by simp only [maxLen]; omega) (Nat.le_refl _) ?_; intro w1 hown hg)
  have F0 := FillT.start (ss := f.map Tr.txt) hown hg
  clear hown hg hz0 hz1 hz2 hi
  go_wp2_with fail
  go_loopw [11] (fun i wr => ∃ k : Nat, k ≤ n ∧ i = .int .i64 k ∧ FillT w n (f.map Tr.txt) k wr) (fun i _ => n - (intOf i).toNat)
  case atStart => exact ⟨0, Nat.zero_le _, rfl, F0⟩
  case round =>
    obtain ⟨k, hk, rfl, HF⟩ := hrel
    by_cases hlt : k < n
    · obtain ⟨r, hr⟩ := at_lt (show k < f.length by rw [HL.out]; exact hlt)
      obtain ⟨b, o, Ak, ck, rfl, hb, hc, hrc, hcm, hrow⟩ := (h.below HF.2 hB) k r hr
      obtain ⟨r1, r8⟩ := lv_bd (HR.out r (List.mem_of_getElem? hr))
      have hsz := HF.2.size
      have hst : (f.map Tr.txt)[k]? = some (Tr.txt r) := by rw [List.getElem?_map, hr]; rfl
      have HST := Lib.hid hst
      have HFF := Lib.hid HF
      clear hr hst F0 HF
      go_wp2_with fail
      refine (treeOf_any Ak r.length ck B r wr rfl r1 r8 hrc (by omega) hrow).mono ?_
      rintro e w2 ⟨rfl, bel2⟩
      have HF2 := HFF.out.below bel2
      have hf := HF2.1.frozenAt k
      have ho := HF2.1.cellAt k (by omega)
      rw [fill_at (by rw [strs_length]; exact HSL.out) hlt] at ho
      have G := Lib.hid (HF2.step HSL.out HST.out)
      obtain ⟨X, hX⟩ : ∃ X : ByteArray, X = ⟨(Tr.txt r).toArray⟩ := ⟨_, rfl⟩
      rw [← hX] at G ⊢
      clear bel2 HF2 hc hrow hX
      go_wp2
      go_roundw
      case rel => exact ⟨k + 1, by omega, by go_num, G.out⟩
      case measure => simp [intOf]; omega
    · obtain rfl : k = n := by omega
      have G : Hid (wr.ownsRow w.heap.size 52 1 (.slice (some ⟨w.heap.size, 0, none⟩) k k) k (strs (f.map Tr.txt)) ∧ Below w.heap.size w wr) := by
        obtain ⟨h1, h2⟩ := HF
        rw [fill_end _ (by rw [strs_length]; exact HSL.out)] at h1
        exact ⟨h1, h2⟩
      clear HF F0
      go_wp2
      go_ret
      exact ⟨rfl, G.out⟩
end Go.Proofs.YtnnihdkhblbdgaaGreat
/-
  The trees at the places of maps: the program's texts and the model's lists.
-/
namespace Go.Proofs.YtnnihdkhblbdgaaGreat
open Go.RowKit Fld
set_option linter.unusedVariables false
set_option linter.unusedSimpArgs false
set_option maxRecDepth 100000

def mapTo (k : Nat) : List (List UInt8) := [] :: (treesTo k).map Tr.txt
theorem mapTo_step (k : Nat) : mapTo (k + 1) = mapTo k ++ (Tr.treesL (k + 1)).map Tr.txt := by
  unfold mapTo; rw [treesTo_step, List.map_append, List.cons_append]
theorem mapTo_len (k : Nat) : (mapTo k).length = 1 + (treesTo k).length := by unfold mapTo; rw [List.length_cons, List.length_map]; omega
theorem strs_app9 (a b : List (List UInt8)) : strs a ++ strs b = strs (a ++ b) := by simp [strs]
theorem strs_one9 (l : List (List UInt8)) : ∀ u ∈ strs l, u.oneCell' = true := fun u hu => by
  unfold strs at hu
  rw [List.mem_map] at hu
  obtain ⟨x, _, rfl⟩ := hu
  rfl
set_option maxHeartbeats 2000000 in
theorem mapTrees_any (w : World) : Calls Tryz.prog 36 #[] w (NewRow 52 38 (strs mapTx) w) := by
  obtain ⟨i0, hi, hz0, hz1, hz2⟩ := info_parts info_tree
  go_enter Tryz.func36, Tryz.ntmps36
  go_wp2_with fail
  go_loopw [1, 2] (fun v i wr => ∃ (k q g cap : Nat), k ≤ 6 ∧ v = .slice (some ⟨g, 0, none⟩) q cap ∧ i = .int .i64 ((k : Int) + 1) ∧ Hid (q = (mapTo k).length) ∧ Hid (wr.ownsRow w.heap.size 52 1 (.slice (some ⟨g, 0, none⟩) q cap) q (strs (mapTo k))) ∧ Below w.heap.size w wr ∧ w.heap.size ≤ wr.heap.size) (fun _ i _ => 7 - (intOf i).toNat)
  case atStart => exact ⟨0, 1, w.heap.size, 1, Nat.zero_le _, rfl, rfl, rfl, World.ownsRow_lit (base := w.heap.size) (size := 1) (e := 52) w #[.string ⟨#[]⟩] 1 (Nat.le_refl _) (by simp [maxLen]) rfl, (Below.refl _ _).alloc (Nat.le_refl _) _, by simp⟩
  case round =>
    obtain ⟨k, q, g, cap, hk, rfl, rfl, HQ, HO, HB, hsz⟩ := hrel
    by_cases hlt : k < 6
    · have hq : q ≤ 921 := by
        have h1 := HQ.out
        have h2 := treesTo_len k (by omega)
        rw [mapTo_len] at h1
        omega
      have HBB := Lib.hid HB
      have C1 := treesWith_any (k + 1) wr (by omega) (by omega)
      obtain ⟨ha, h115⟩ := trees_all (n := k + 1) (by omega) (by omega)
      obtain ⟨T, hT⟩ : ∃ T, T = Tr.treesL (k + 1) := ⟨_, rfl⟩
      have HS : Hid (mapTo (k + 1) = mapTo k ++ T.map Tr.txt) := by rw [Hid, hT]; exact mapTo_step k
      rw [← hT] at C1 h115 ha
      have HLV : Hid (∀ r ∈ T, Tr.isLv r = true) := fun r hr => (ha r hr).1
      obtain ⟨N, hN⟩ : ∃ N, N = T.length := ⟨_, rfl⟩
      rw [← hN] at C1 h115
      have HN : Hid (T.length = N) := hN.symm
      have HSL : Hid ((strs (T.map Tr.txt)).length = N * 1) := by rw [Hid, strs_length, List.length_map, Nat.mul_one]; exact hN.symm
      have HQ2 : Hid (q + N = (mapTo (k + 1)).length) := by rw [Hid, HS.out, List.length_append, List.length_map, ← HQ.out, hN]
      clear HB hT hN ha HQ
      go_wp2_with fail
      refine C1.mono ?_
      rintro e w2 ⟨A2, c2, vs2, rfl, own2, bel2⟩
      have hs2 := bel2.size
      have HO2 : Hid (w2.ownsRow w.heap.size 52 1 (.slice (some ⟨g, 0, none⟩) q cap) q (strs (mapTo k))) := ((OwnR.of HO.out).below bel2 (Nat.le_refl _)).1
      have HM2 : Hid (Mat w2 w2.heap.size A2 T) := own2.mat
      have HB2 := Lib.hid (HBB.out.trans (bel2.mono hsz))
      clear own2 bel2 C1 HO
      go_wp2_with fail
      refine (treesOf_any A2 N c2 w2.heap.size T _ HN.out (by omega) HLV.out (Nat.le_refl _) HM2.out).mono ?_
      rintro e w3 ⟨rfl, own3, bel3⟩
      have hs3 := bel3.size
      have hown : w3.ownsRow w.heap.size 52 1 (.slice (some ⟨g, 0, none⟩) q cap) q (strs (mapTo k)) := ((OwnR.of HO2.out).below bel3 (Nat.le_refl _)).1
      have HB3 := Lib.hid (HB2.out.trans (bel3.mono (by omega)))
      have HNEW : Hid (∀ j u, (strs (T.map Tr.txt))[j]? = some u → w3.cell? ((⟨w2.heap.size, 0, none⟩ : Addr).add j) = some u) := row_news (row_of_own own3)
      have HONE := Lib.hid (strs_one9 (T.map Tr.txt))
      obtain ⟨vs, hvs⟩ : ∃ vs, vs = strs (T.map Tr.txt) := ⟨_, rfl⟩
      have HVS := Lib.hid hvs
      rw [← hvs] at HNEW HONE HSL
      clear own3 bel3 HO2 HM2 HB2 hvs
      go_wp2_with (at_builtin; refine wpList_append_own _ rfl (.tmp 8) (.tmp 11) 50 rfl w.heap.size 52 i0 _ 1 16 Tryz.underlying50 hi hz0 hz1 hz2 rfl (by omega) (.slice (some ⟨g, 0, none⟩) q cap) q (strs (mapTo k)) rfl hown ⟨w2.heap.size, 0, none⟩ N N vs rfl HSL.out HNEW.out HONE.out (by simp only [maxLen]; omega) (by omega) (by omega) ?_; intro v5 w5 own5 hgrow5 _; obtain ⟨g5, c5, rfl⟩ := own_form own5 (by have := HQ2.out; have := mapTo_len (k + 1); omega))
      have e1 : strs (mapTo k) ++ vs = strs (mapTo (k + 1)) := by rw [HVS.out, strs_app9, HS.out]
      rw [e1] at own5
      have GO := Lib.hid own5
      have GB : Hid (Below w.heap.size w w5) := HB3.out.grown hgrow5 (by omega) (fun z hz => (hown.lt z hz).1)
      have hs5 : w.heap.size ≤ w5.heap.size := by have := hgrow5.size; omega
      clear own5 hgrow5 hown e1
      go_wp2
      go_roundw
      case rel => exact ⟨k + 1, q + N, g5, c5, by omega, rfl, by go_num, HQ2, GO, GB.out, hs5⟩
      case measure => simp [intOf]; omega
    · obtain rfl : k = 6 := by omega
      have e : q = 38 := by have := HQ.out; rw [mapTo_len, to_len] at this; exact this
      subst e
      have G : Hid (NewRow 52 38 (strs mapTx) w (.returned (.slice (some ⟨g, 0, none⟩) 38 cap)) wr) := ⟨_, _, rfl, HO.out, HB⟩
      clear HB HQ
      go_wp2
      go_ret
      exact G.out
theorem strs_cell {w : World} {B b : Nat} {l : List (List UInt8)} (h : Row w B (some ⟨b, 0, none⟩) (strs l)) : ∀ k t, l[k]? = some t → w.cell? ⟨b, k, none⟩ = some (.string ⟨t.toArray⟩) := fun k t ht => by
  obtain ⟨b', o', e, _, hc⟩ := h k _ (strs_at ht)
  injection e with e
  injection e with e1 e2 _
  subst e1 e2
  rw [Nat.zero_add] at hc
  exact hc
end Go.Proofs.YtnnihdkhblbdgaaGreat
/-
  The limit of conditions of maps, the program's.
-/
namespace Go.Proofs.YtnnihdkhblbdgaaGreat
open Go.RowKit Fld Go.Maps
set_option linter.unusedVariables false
set_option linter.unusedSimpArgs false
set_option maxRecDepth 100000

theorem none_any (x y : Int) (w : World) : Calls Tryz.prog 43 #[.int .i64 x, .int .i64 y] w fun e w' => e = .returned (.int .i64 0) ∧ w = w' := by
  go_enter Tryz.func43, Tryz.ntmps43
  go_wp2
  go_ret
  exact ⟨rfl, rfl⟩
theorem Row.rest {w : World} {B b o : Nat} {vs : List Value} (h : Row w B (some ⟨b, o, none⟩) vs) : Row w B (some ⟨b, o + 1, none⟩) (vs.drop 1) := fun j v hv => by
  rw [List.getElem?_drop] at hv
  obtain ⟨b', o', e, hb, hc⟩ := h (1 + j) v hv
  injection e with e; injection e with e1 e2
  subst e1 e2
  exact ⟨b, o + 1, rfl, hb, by rw [show o + 1 + j = o + (1 + j) by omega]; exact hc⟩
theorem isTr_parts {t : List Int} (h : isTr t = true) : Tr.isLv t = true ∧ Tr.can t = t := by
  unfold isTr at h
  rw [Bool.and_eq_true] at h
  exact ⟨h.1, by have := h.2; unfold eqL at this; exact of_decide_eq_true this⟩
theorem to_val {xs t : List Int} {i : Nat} (ht : (treesTo 6)[i]? = some t) (hi : i < 37) : valN (xs.drop 1) 37 (Tr.txt t) = valT xs t := by
  rw [valN_at ht 37 (by omega), if_pos hi, val_at ht, List.getD_eq_getElem?_getD, List.getD_eq_getElem?_getD, List.getElem?_drop, Nat.add_comm]
set_option maxHeartbeats 8000000 in
theorem exch_times (A : Option Addr) (c B : Nat) (xs : List Int) (w : World) (hl : xs.length = 38) (hx : allNum xs = true) (hc : 38 ≤ c) (h0 : xs.getD 0 0 = 1) (hB : B ≤ w.heap.size) (h : Row w B A (ints xs)) :
    Calls Tryz.prog 44 #[.slice A 38 c, .func (.func 89) #[] #[]] w fun e w' => e = .returned (.int .i64 (limOf xs)) ∧ Below w.heap.size w w' := by
  have HL := Lib.hid hl
  have HN := Lib.hid hx
  obtain ⟨x0, hx0⟩ := at_lt (show 0 < xs.length by omega)
  obtain ⟨ba, oa, rfl, hba, _⟩ := h 0 _ (ints_at hx0)
  have HR : Row w B (some ⟨ba, oa + 1, none⟩) (ints (xs.drop 1)) := by
    have := h.rest
    rwa [show (ints xs).drop 1 = ints (xs.drop 1) by simp [ints, intsK, List.map_drop]] at this
  have CV : ∀ V c', Below w.heap.size w V → Calls Tryz.prog 66 #[.slice (some ⟨ba, oa + 1, none⟩) 37 c'] V (ResV 37 (valN (xs.drop 1) 37) V) := fun V c' hV => valuesOf_any _ 37 c' B (xs.drop 1) V (by rw [List.length_drop, HL.out]) (by omega) (by rw [allNum_iff]; exact fun y hy => allNum_iff.1 HN.out y (List.mem_of_mem_drop hy)) (by have := hV.size; omega) (HR.below hV hB)
  have hc1 : ¬ c = 1 := by omega
  have hc2 : (1 : Int) ≤ (c : Int) := by omega
  have H0 := Lib.hid h0
  clear hl hx hx0 h h0 HR hc
  go_enter Tryz.func44, Tryz.ntmps44
  go_wp2_with fail
  go_region_held3 (fun V => True) (first | trivial)
    (first
      | (go_at_call 66; refine (CV _ _ (by first | exact (Below.refl _ _).drew | exact below_drewN (Below.refl _ _) _)).mono ?_; rintro e w1 ⟨mb, rfl, hmap, be1⟩)
      | (go_at_call 36; refine (mapTrees_any _).mono ?_; rintro e w2 ⟨A2, c2, rfl, own2, be2⟩))
  obtain ⟨g2, rfl⟩ := own_addr own2 (by omega)
  have hcap := (own_cap own2).1
  have hc9 : ¬ c2 = 1 := by omega
  have BE1 : Below w.heap.size w w1 := ⟨be1.os, be1.tape, be1.output, be1.size, be1.block⟩
  have BE2 : Below w1.heap.size w1 w2 := ⟨be2.os, be2.tape, be2.output, be2.size, be2.block⟩
  have B2 : Hid (Below w.heap.size w w2) := BE1.trans (BE2.mono BE1.size)
  have FT : Hid (∀ k t, (treesTo 6)[k]? = some t → w2.cell? ⟨g2, 1 + k, none⟩ = some (.string ⟨(Tr.txt t).toArray⟩)) := fun k t ht => strs_cell (row_of_own own2) (1 + k) (Tr.txt t) (by rw [Nat.add_comm]; unfold mapTx; rw [List.getElem?_cons_succ, List.getElem?_map, ht]; rfl)
  have hg2 : g2 < w2.heap.size := (own2.lt g2 rfl).2
  obtain ⟨D, hown, hD⟩ := hmap.next BE2
  have hmb := hown.lt
  have HD := Lib.hid hD
  have HO : Hid (∀ V, Below w2.heap.size w2 V → V.ownsMap Tryz.prog 52 (plainElem Tryz.prog 37) mb 37 D) := fun V hV => ownsMap_below hown hV hmb
  clear own2 be1 be2 BE1 BE2 hmap hown hD CV
  go_wp2_with fail
  go_loopw [7, 20] (fun v i wr => ∃ (L : Int) (k : Nat), v = .int .i64 L ∧ k ≤ 37 ∧ i = .int .i64 k ∧ Hid (PLim xs k 0 L) ∧ Hid (Below w2.heap.size w2 wr)) (fun _ i _ => 37 - (intOf i).toNat)
  case atStart => exact ⟨6, 0, rfl, Nat.zero_le _, rfl, PLim.start xs, Below.refl _ _⟩
  case round =>
    obtain ⟨L, i, rfl, hi, rfl, HT, HW⟩ := hrel
    by_cases hi37 : i < 37
    · have hi37i : (i : Int) < 37 := by omega
      have i0 : (0 : Int) ≤ (i : Int) := Int.natCast_nonneg _
      obtain ⟨t, ht⟩ := at_lt (show i < (treesTo 6).length by rw [to_len]; exact hi37)
      have hct := (HW.out.cell (p := ⟨g2, 1 + i, none⟩) hg2).trans (FT.out i t ht)
      have HTT := Lib.hid ht
      have HLT := Lib.hid (to_lvT (List.mem_of_getElem? ht))
      obtain ⟨t1, t8⟩ := lv_bd HLT.out
      obtain ⟨X, hX⟩ : ∃ X : ByteArray, X = ⟨(Tr.txt t).toArray⟩ := ⟨_, rfl⟩
      rw [← hX] at hct
      have HX := Lib.hid hX
      clear ht hX
      go_wp2_with fail
      go_loopw [7, 26] (fun v j wr => ∃ (L : Int) (k : Nat), v = .int .i64 L ∧ k ≤ 37 ∧ j = .int .i64 k ∧ Hid (PLim xs i k L) ∧ Hid (Below w2.heap.size w2 wr)) (fun _ j _ => 37 - (intOf j).toNat)
      case atStart => exact ⟨L, 0, rfl, Nat.zero_le _, rfl, HT, HW⟩
      case round =>
        clear HT HW hct
        obtain ⟨L, k, rfl, hk, rfl, HT, HW⟩ := hrel
        by_cases hk37 : k < 37
        · have hk37i : (k : Int) < 37 := by omega
          have k0 : (0 : Int) ≤ (k : Int) := Int.natCast_nonneg _
          obtain ⟨u, hu⟩ := at_lt (show k < (treesTo 6).length by rw [to_len]; exact hk37)
          have hcu := (HW.out.cell (p := ⟨g2, 1 + k, none⟩) hg2).trans (FT.out k u hu)
          have HUU := Lib.hid hu
          have HLU := Lib.hid (to_lvT (List.mem_of_getElem? hu))
          obtain ⟨p1, p8⟩ := lv_bd HLU.out
          obtain ⟨Y, hY⟩ : ∃ Y : ByteArray, Y = ⟨(Tr.txt u).toArray⟩ := ⟨_, rfl⟩
          rw [← hY] at hcu
          have HY := Lib.hid hY
          clear hu hY
          have lt_ := (lv_txt HLT.out).2.2.2
          have lu_ := (lv_txt HLU.out).2.2.2
          have CN1 : ∀ V, Calls Tryz.prog 62 #[.string X] V fun e w' => e = .returned (.int .i64 (t.length : Int)) ∧ V = w' := fun V => by
            have := nodes_any (Tr.txt t) V (by omega)
            rw [show (Tr.txt t).length / 2 = t.length by omega, ← HX.out] at this
            exact this
          have CN2 : ∀ V, Calls Tryz.prog 62 #[.string Y] V fun e w' => e = .returned (.int .i64 (u.length : Int)) ∧ V = w' := fun V => by
            have := nodes_any (Tr.txt u) V (by omega)
            rw [show (Tr.txt u).length / 2 = u.length by omega, ← HY.out] at this
            exact this
          have hwr : IntKind.i64.wrap ((t.length : Int) + (u.length : Int)) = ((t.length + u.length : Nat) : Int) := by rw [IntWalk.i64_in _ (by omega)]; omega
          have l1 := HT.out.1
          have l6 := HT.out.2.1
          have hwz := HW.out.size
          obtain ⟨nt, hnt⟩ : ∃ nt, nt = t.length := ⟨_, rfl⟩
          obtain ⟨nu, hnu⟩ : ∃ nu, nu = u.length := ⟨_, rfl⟩
          have HNT := Lib.hid hnt.symm
          have HNU := Lib.hid hnu.symm
          simp only [← hnt] at CN1 t1 t8 hwr
          simp only [← hnu] at CN2 p1 p8 hwr
          have HMP : Hid (∀ V, Below wr.heap.size wr V → V.ownsMap Tryz.prog 52 (plainElem Tryz.prog 37) mb 37 D) := fun V hV => HO.out V (HW.out.trans (hV.mono hwz))
          clear lt_ lu_ hnt hnu
          go_wp2_with fail
          refine (CN1 _).mono ?_
          rintro e w' ⟨rfl, rfl⟩
          go_wp2_with fail
          refine (CN2 _).mono ?_
          rintro e w' ⟨rfl, rfl⟩
          clear CN1 CN2 hcu
          go_wp2_with fail
          by_cases hle : ((nt + nu : Nat) : Int) ≤ L
          · obtain ⟨e1, e2, e3, _⟩ := exP_parts HLT.out HLU.out (show t.length + u.length ≤ 6 by rw [HNT.out, HNU.out]; omega)
            obtain ⟨f1, f2, f3, _⟩ := exP_parts HLU.out HLT.out (show u.length + t.length ≤ 6 by rw [HNT.out, HNU.out]; omega)
            have gt_ := to_val (xs := xs) HTT.out hi37
            have gu_ := to_val (xs := xs) HUU.out hk37
            have gp_ := valT_drop (a := xs) e1 (by rw [e2, HNT.out, HNU.out]; omega)
            have gq_ := valT_drop (a := xs) f1 (by rw [f2, HNT.out, HNU.out]; omega)
            obtain ⟨t0, t1'⟩ := valT_num (a := xs) (r := t) HN.out
            obtain ⟨u0, u1'⟩ := valT_num (a := xs) (r := u) HN.out
            obtain ⟨p0, p1'⟩ := valT_num (a := xs) (r := exP t u) HN.out
            obtain ⟨q0, q1'⟩ := valT_num (a := xs) (r := exP u t) HN.out
            have hxt := Tr.tx_txt HLT.out
            have hxu := Tr.tx_txt HLU.out
            have lt_ := (lv_txt HLT.out).2.2.2
            have lu_ := (lv_txt HLU.out).2.2.2
            rw [HNT.out] at lt_
            rw [HNU.out] at lu_
            have hle' : (nt : Int) + (nu : Int) ≤ L := by omega
            have CT1 := fun V => tTimes_any (Tr.txt t) (Tr.txt u) V hxt (by omega)
            have CT2 := fun V => tTimes_any (Tr.txt u) (Tr.txt t) V hxu (by omega)
            have le_ := (lv_txt (show Tr.isLv (exP t u) = true from (isTr_parts e1).1)).2.2.2
            have lf_ := (lv_txt (show Tr.isLv (exP u t) = true from (isTr_parts f1).1)).2.2.2
            rw [HNT.out, HNU.out] at e2 f2
            have AT : Hid (D.atKey (.string (Tr.txt t)) (.lit (.int .i64 0)) = .lit (.int .i64 (valT xs t))) := by rw [Hid, HD.out, gt_]
            have AU : Hid (D.atKey (.string (Tr.txt u)) (.lit (.int .i64 0)) = .lit (.int .i64 (valT xs u))) := by rw [Hid, HD.out, gu_]
            have AP : Hid (D.atKey (.string (Tr.txt (exP t u))) (.lit (.int .i64 0)) = .lit (.int .i64 (valT xs (exP t u)))) := by rw [Hid, HD.out, gp_]
            have AQ : Hid (D.atKey (.string (Tr.txt (exP u t))) (.lit (.int .i64 0)) = .lit (.int .i64 (valT xs (exP u t)))) := by rw [Hid, HD.out, gq_]
            have KT := Lib.hid (keyTxV (x := Tr.txt t) (by omega))
            have KU := Lib.hid (keyTxV (x := Tr.txt u) (by omega))
            have KP := Lib.hid (keyTxV (x := Tr.txt (exP t u)) (by omega))
            have KQ := Lib.hid (keyTxV (x := Tr.txt (exP u t)) (by omega))
            rw [← e3] at CT1
            rw [← f3] at CT2
            obtain ⟨P, hP⟩ : ∃ P : ByteArray, P = ⟨(Tr.txt (exP t u)).toArray⟩ := ⟨_, rfl⟩
            obtain ⟨Q, hQ⟩ : ∃ Q : ByteArray, Q = ⟨(Tr.txt (exP u t)).toArray⟩ := ⟨_, rfl⟩
            simp only [← hP, ← HX.out, ← HY.out] at CT1
            simp only [← hQ, ← HX.out, ← HY.out] at CT2
            rw [← HX.out] at KT
            rw [← HY.out] at KU
            rw [← hP] at KP
            rw [← hQ] at KQ
            have GOK : Hid (exOk xs t u ↔ (valT xs (exP t u) + valT xs (exP u t)) % 10007 = valT xs t * valT xs u % 10007) := by unfold exOk; rw [Hid, H0.out]; rw [Int.one_mul, Int.emod_emod]
            obtain ⟨vt, hvt⟩ : ∃ v, v = valT xs t := ⟨_, rfl⟩
            obtain ⟨vu, hvu⟩ : ∃ v, v = valT xs u := ⟨_, rfl⟩
            obtain ⟨vp, hvp⟩ : ∃ v, v = valT xs (exP t u) := ⟨_, rfl⟩
            obtain ⟨vq, hvq⟩ : ∃ v, v = valT xs (exP u t) := ⟨_, rfl⟩
            simp only [← hvt, ← hvu, ← hvp, ← hvq] at AT AU AP AQ GOK t0 t1' u0 u1' p0 p1' q0 q1'
            have t1 := t1'
            have u1 := u1'
            have CP := fun V => plus_any vp vq V p0 p1' q0 q1'
            obtain ⟨m3, hm3⟩ : ∃ m3, m3 = (vp + vq) % 10007 := ⟨_, rfl⟩
            simp only [← hm3] at CP GOK
            clear hvt hvu hvp hvq hm3 hP hQ e1 e2 e3 f1 f2 f3 gt_ gu_ gp_ gq_ hxt hxu lt_ lu_ le_ lf_ p0 p1' q0 q1' t1' u1'
            by_cases hok : m3 = vt * vu % 10007
            · have tb : (m3 != vt * vu % 10007) = false := bne_f hok
              have G := Lib.hid (HT.out.good HTT.out HUU.out (GOK.out.2 hok))
              clear hok HT GOK
              refine wp_region_noPanic ?_
              refine wp_region_held_drew (S := (fun w' => w'.ownsMap Tryz.prog 52 (plainElem Tryz.prog 37) mb 37 D)) (by kernel_rfl) ?_ (fun hHeld => ?_)
              · exact HMP.out _ (below_drew' (Below.refl _ _))
              refine wpAnyH_take (i := 0) (oi := _) (v := ?_) rfl (by kernel_rfl) (by kernel_rfl) (by kernel_rfl) (fun _ _ _ h => h) (Or.inl ⟨by kernel_rfl, ?_⟩) (by assumption) ?_
              rotate_left
              · (intro w hSw; (try dsimp only at hSw); go_simp; try (with_reducible rfl))
              try simp only [Act.put, List.setIfInBounds_toArray, List.set_cons_zero, List.set_cons_succ, List.getElem_toArray, List.getElem_cons_zero, List.getElem_cons_succ]
              refine wpAnyH_take (i := 1) (oi := _) (v := ?_) rfl (by kernel_rfl) (by kernel_rfl) (by kernel_rfl) (fun _ _ _ h => h) (Or.inl ⟨by kernel_rfl, ?_⟩) (by assumption) ?_
              rotate_left
              · (intro w hSw; (try dsimp only at hSw); go_simp; try (with_reducible rfl))
              try simp only [Act.put, List.setIfInBounds_toArray, List.set_cons_zero, List.set_cons_succ, List.getElem_toArray, List.getElem_cons_zero, List.getElem_cons_succ]
              refine wpAnyH_take (i := 2) (oi := _) (v := .bool true) rfl (by kernel_rfl) (by kernel_rfl) (by kernel_rfl) (fun _ _ _ h => h) (Or.inl ⟨by kernel_rfl, ?_⟩) (by assumption) ?_
              · (intro wz hSw; (try dsimp only at hSw); go_simp; try (with_reducible rfl))
              try simp only [Act.put, List.setIfInBounds_toArray, List.set_cons_zero, List.set_cons_succ, List.getElem_toArray, List.getElem_cons_zero, List.getElem_cons_succ]
              refine wpAnyH_take (i := 3) (oi := _) (v := ?_) rfl (by kernel_rfl) (by kernel_rfl) (by kernel_rfl) (fun _ _ _ h => h) (Or.inl ⟨by kernel_rfl, ?_⟩) (by assumption) ?_
              rotate_left
              · (intro w hSw; (try dsimp only at hSw); go_simp; try (with_reducible rfl))
              try simp only [Act.put, List.setIfInBounds_toArray, List.set_cons_zero, List.set_cons_succ, List.getElem_toArray, List.getElem_cons_zero, List.getElem_cons_succ]
              refine wpAnyH_take (i := 4) (oi := _) (v := ?_) rfl (by kernel_rfl) (by kernel_rfl) (by kernel_rfl) (fun _ _ _ h => h) (Or.inl ⟨by kernel_rfl, ?_⟩) (by assumption) ?_
              rotate_left
              · (intro w hSw; (try dsimp only at hSw); go_simp; try (with_reducible rfl))
              try simp only [Act.put, List.setIfInBounds_toArray, List.set_cons_zero, List.set_cons_succ, List.getElem_toArray, List.getElem_cons_zero, List.getElem_cons_succ]
              refine wpAnyH_take (i := 5) (oi := _) (v := ?_) rfl (by kernel_rfl) (by kernel_rfl) (by kernel_rfl) (fun _ _ _ h => h) (Or.inl ⟨by kernel_rfl, ?_⟩) (by assumption) ?_
              rotate_left
              · (intro w hSw; (try dsimp only at hSw); go_simp; try (with_reducible rfl))
              try simp only [Act.put, List.setIfInBounds_toArray, List.set_cons_zero, List.set_cons_succ, List.getElem_toArray, List.getElem_cons_zero, List.getElem_cons_succ]
              refine wpAnyH_take (i := 6) (oi := _) (v := ?_) rfl (by kernel_rfl) (by kernel_rfl) (by kernel_rfl) (fun _ _ _ h => h) (Or.inl ⟨by kernel_rfl, ?_⟩) (by assumption) ?_
              rotate_left
              · (intro w hSw; (try dsimp only at hSw); go_simp; try (with_reducible rfl))
              try simp only [Act.put, List.setIfInBounds_toArray, List.set_cons_zero, List.set_cons_succ, List.getElem_toArray, List.getElem_cons_zero, List.getElem_cons_succ]
              refine wpAnyH_take (i := 9) (oi := _) (v := ?_) rfl (by kernel_rfl) (by kernel_rfl) (by kernel_rfl) (fun _ _ _ h => h) (Or.inl ⟨by kernel_rfl, ?_⟩) (by assumption) ?_
              rotate_left
              · (intro w hSw; (try dsimp only at hSw); go_simp; try (with_reducible rfl))
              try simp only [Act.put, List.setIfInBounds_toArray, List.set_cons_zero, List.set_cons_succ, List.getElem_toArray, List.getElem_cons_zero, List.getElem_cons_succ]
              refine wpAnyH_take (i := 10) (oi := _) (v := ?_) rfl (by kernel_rfl) (by kernel_rfl) (by kernel_rfl) (fun _ _ _ h => h) (Or.inl ⟨by kernel_rfl, ?_⟩) (by assumption) ?_
              rotate_left
              · (intro w hSw; (try dsimp only at hSw); go_simp; try (with_reducible rfl))
              try simp only [Act.put, List.setIfInBounds_toArray, List.set_cons_zero, List.set_cons_succ, List.getElem_toArray, List.getElem_cons_zero, List.getElem_cons_succ]
              refine wpAnyH_take (i := 11) (oi := _) (v := ?_) rfl (by kernel_rfl) (by kernel_rfl) (by kernel_rfl) (fun _ _ _ h => h) (Or.inl ⟨by kernel_rfl, ?_⟩) (by assumption) ?_
              rotate_left
              · (intro w hSw; (try dsimp only at hSw); go_simp; try (with_reducible rfl))
              try simp only [Act.put, List.setIfInBounds_toArray, List.set_cons_zero, List.set_cons_succ, List.getElem_toArray, List.getElem_cons_zero, List.getElem_cons_succ]
              refine wpAnyH_take (i := 15) (oi := _) (v := ?_) rfl (by kernel_rfl) (by kernel_rfl) (by kernel_rfl) (fun _ _ _ h => h) (Or.inl ⟨by kernel_rfl, ?_⟩) (by assumption) ?_
              rotate_left
              · (intro w hSw; (try dsimp only at hSw); go_simp; try (with_reducible rfl))
              try simp only [Act.put, List.setIfInBounds_toArray, List.set_cons_zero, List.set_cons_succ, List.getElem_toArray, List.getElem_cons_zero, List.getElem_cons_succ]
              refine wpAnyH_take (i := 16) (oi := _) (v := ?_) rfl (by kernel_rfl) (by kernel_rfl) (by kernel_rfl) (fun _ _ _ h => h) (Or.inl ⟨by kernel_rfl, ?_⟩) (by assumption) ?_
              rotate_left
              · (intro w hSw; (try dsimp only at hSw); go_simp; try (with_reducible rfl))
              try simp only [Act.put, List.setIfInBounds_toArray, List.set_cons_zero, List.set_cons_succ, List.getElem_toArray, List.getElem_cons_zero, List.getElem_cons_succ]
              refine wpAnyH_take (i := 17) (oi := _) (v := ?_) rfl (by kernel_rfl) (by kernel_rfl) (by kernel_rfl) (fun _ _ _ h => h) (Or.inl ⟨by kernel_rfl, ?_⟩) (by assumption) ?_
              rotate_left
              · (intro w hSw; (try dsimp only at hSw); go_simp; try (with_reducible rfl))
              try simp only [Act.put, List.setIfInBounds_toArray, List.set_cons_zero, List.set_cons_succ, List.getElem_toArray, List.getElem_cons_zero, List.getElem_cons_succ]
              refine wpAnyH_take (i := 19) (oi := _) (v := ?_) rfl (by kernel_rfl) (by kernel_rfl) (by kernel_rfl) (fun _ _ _ h => h) (Or.inl ⟨by kernel_rfl, ?_⟩) (by assumption) ?_
              rotate_left
              · (intro w hSw; (try dsimp only at hSw); go_simp; try (with_reducible rfl))
              try simp only [Act.put, List.setIfInBounds_toArray, List.set_cons_zero, List.set_cons_succ, List.getElem_toArray, List.getElem_cons_zero, List.getElem_cons_succ]
              refine wpAnyH_take (i := 20) (oi := _) (v := ?_) rfl (by kernel_rfl) (by kernel_rfl) (by kernel_rfl) (fun _ _ _ h => h) (Or.inl ⟨by kernel_rfl, ?_⟩) (by assumption) ?_
              rotate_left
              · (intro w hSw; (try dsimp only at hSw); go_simp; try (with_reducible rfl))
              try simp only [Act.put, List.setIfInBounds_toArray, List.set_cons_zero, List.set_cons_succ, List.getElem_toArray, List.getElem_cons_zero, List.getElem_cons_succ]
              refine wpAnyH_take (i := 18) (oi := _) (v := .int .i64 vt) rfl (by kernel_rfl) (by kernel_rfl) (by kernel_rfl) (fun _ _ _ h => h) (Or.inl ⟨by kernel_rfl, ?_⟩) (by assumption) ?_
              · (intro wz hSw; (try dsimp only at hSw); obtain ⟨c0, hrun, hat, _⟩ := hSw.lookup_int (t := 75) (e := 37) (q := .i64) keyedV Tryz.underlying75 Tryz.underlying37 (zeroNum _) KT.out; (obtain rfl : c0 = vt := by (have h9 := hat.symm.trans AT.out; simpa using h9)); go_simp; try (with_reducible rfl))
              try simp only [Act.put, List.setIfInBounds_toArray, List.set_cons_zero, List.set_cons_succ, List.getElem_toArray, List.getElem_cons_zero, List.getElem_cons_succ]
              refine wpAnyH_take (i := 21) (oi := _) (v := .int .i64 vu) rfl (by kernel_rfl) (by kernel_rfl) (by kernel_rfl) (fun _ _ _ h => h) (Or.inl ⟨by kernel_rfl, ?_⟩) (by assumption) ?_
              · (intro wz hSw; (try dsimp only at hSw); obtain ⟨c0, hrun, hat, _⟩ := hSw.lookup_int (t := 75) (e := 37) (q := .i64) keyedV Tryz.underlying75 Tryz.underlying37 (zeroNum _) KU.out; (obtain rfl : c0 = vu := by (have h9 := hat.symm.trans AU.out; simpa using h9)); go_simp; try (with_reducible rfl))
              try simp only [Act.put, List.setIfInBounds_toArray, List.set_cons_zero, List.set_cons_succ, List.getElem_toArray, List.getElem_cons_zero, List.getElem_cons_succ]
              refine wpAnyH_ready (rs := [7]) (by kernel_rfl) (by simp) (AllReadyH.cons (o := _) rfl (fun K hK => ?_) AllReadyH.nil)
              go_simp
              (go_at_call 67; refine (CT1 _).mono ?_; rintro e w3 ⟨rfl, bel3⟩)
              have B3 : Below wr.heap.size wr w3 := ⟨bel3.os, bel3.tape, bel3.output, bel3.size, bel3.block⟩
              have hs3 := B3.size
              clear bel3 CT1
              go_wp2_with fail
              refine hK.out _ _ ?_ (fun hHeld => ?_)
              · exact HMP.out _ B3
              clear hK K
              try simp only [Act.put, List.setIfInBounds_toArray, List.set_cons_zero, List.set_cons_succ, List.getElem_toArray, List.getElem_cons_zero, List.getElem_cons_succ]
              refine wpAnyH_take (i := 8) (oi := _) (v := .int .i64 vp) rfl (by kernel_rfl) (by kernel_rfl) (by kernel_rfl) (fun _ _ _ h => h) (Or.inl ⟨by kernel_rfl, ?_⟩) (by assumption) ?_
              · (intro wz hSw; (try dsimp only at hSw); obtain ⟨c0, hrun, hat, _⟩ := hSw.lookup_int (t := 75) (e := 37) (q := .i64) keyedV Tryz.underlying75 Tryz.underlying37 (zeroNum _) KP.out; (obtain rfl : c0 = vp := by (have h9 := hat.symm.trans AP.out; simpa using h9)); go_simp; try (with_reducible rfl))
              try simp only [Act.put, List.setIfInBounds_toArray, List.set_cons_zero, List.set_cons_succ, List.getElem_toArray, List.getElem_cons_zero, List.getElem_cons_succ]
              refine wpAnyH_ready (rs := [12]) (by kernel_rfl) (by simp) (AllReadyH.cons (o := _) rfl (fun K hK => ?_) AllReadyH.nil)
              go_simp
              (go_at_call 67; refine (CT2 _).mono ?_; rintro e w4 ⟨rfl, bel4⟩)
              have B4 : Below wr.heap.size wr w4 := B3.trans (Below.mono ⟨bel4.os, bel4.tape, bel4.output, bel4.size, bel4.block⟩ hs3)
              clear bel4 CT2
              go_wp2_with fail
              refine hK.out _ _ ?_ (fun hHeld => ?_)
              · exact HMP.out _ B4
              clear hK K
              try simp only [Act.put, List.setIfInBounds_toArray, List.set_cons_zero, List.set_cons_succ, List.getElem_toArray, List.getElem_cons_zero, List.getElem_cons_succ]
              refine wpAnyH_take (i := 13) (oi := _) (v := .int .i64 vq) rfl (by kernel_rfl) (by kernel_rfl) (by kernel_rfl) (fun _ _ _ h => h) (Or.inl ⟨by kernel_rfl, ?_⟩) (by assumption) ?_
              · (intro wz hSw; (try dsimp only at hSw); obtain ⟨c0, hrun, hat, _⟩ := hSw.lookup_int (t := 75) (e := 37) (q := .i64) keyedV Tryz.underlying75 Tryz.underlying37 (zeroNum _) KQ.out; (obtain rfl : c0 = vq := by (have h9 := hat.symm.trans AQ.out; simpa using h9)); go_simp; try (with_reducible rfl))
              try simp only [Act.put, List.setIfInBounds_toArray, List.set_cons_zero, List.set_cons_succ, List.getElem_toArray, List.getElem_cons_zero, List.getElem_cons_succ]
              refine wpAnyH_ready (rs := [14]) (by kernel_rfl) (by simp) (AllReadyH.cons (o := _) rfl (fun K hK => ?_) AllReadyH.nil)
              go_simp
              (go_at_call 68; refine (CP _).mono ?_; rintro e w8 ⟨rfl, rfl⟩)
              go_wp2_with fail
              refine hK.out _ _ ?_ (fun hHeld => ?_)
              · exact HMP.out _ B4
              clear hK K
              try simp only [Act.put, List.setIfInBounds_toArray, List.set_cons_zero, List.set_cons_succ, List.getElem_toArray, List.getElem_cons_zero, List.getElem_cons_succ]
              refine wpAnyH_ready (rs := [22]) (by kernel_rfl) (by simp) (AllReadyH.cons (o := _) rfl (fun K hK => ?_) AllReadyH.nil)
              go_simp
              (go_at_call 89; refine (times_any vt vu _ t0 t1 u0 u1).mono ?_; rintro e w9 ⟨rfl, rfl⟩)
              go_wp2_with fail
              refine hK.out _ _ ?_ (fun hHeld => ?_)
              · exact HMP.out _ B4
              clear hK K
              try simp only [Act.put, List.setIfInBounds_toArray, List.set_cons_zero, List.set_cons_succ, List.getElem_toArray, List.getElem_cons_zero, List.getElem_cons_succ]
              refine wpAnyH_take (i := 23) (oi := _) (v := .bool false) rfl (by kernel_rfl) (by kernel_rfl) (by kernel_rfl) (fun _ _ _ h => h) (Or.inl ⟨by kernel_rfl, ?_⟩) (by assumption) ?_
              · (intro wz hSw; (try dsimp only at hSw); go_simp; try (with_reducible rfl))
              try simp only [Act.put, List.setIfInBounds_toArray, List.set_cons_zero, List.set_cons_succ, List.getElem_toArray, List.getElem_cons_zero, List.getElem_cons_succ]
              refine wpAnyH_take (i := 24) (oi := _) (v := ?_) rfl (by kernel_rfl) (by kernel_rfl) (by kernel_rfl) (fun _ _ _ h => h) (Or.inl ⟨by kernel_rfl, ?_⟩) (by assumption) ?_
              rotate_left
              · (intro w hSw; (try dsimp only at hSw); go_simp; try (with_reducible rfl))
              try simp only [Act.put, List.setIfInBounds_toArray, List.set_cons_zero, List.set_cons_succ, List.getElem_toArray, List.getElem_cons_zero, List.getElem_cons_succ]
              refine wpAnyH_done (by kernel_rfl) ?_ _
              refine NoPanic.normal ?_
              have GB : Hid (Below w2.heap.size w2 w4) := HW.out.trans (B4.mono hwz)
              clear B3 B4 hHeld
              go_wp2
              go_roundw
              case rel => exact ⟨L, k + 1, rfl, by omega, by go_num, G, GB⟩
              case measure => simp [intOf]; omega
            · have tb : (m3 != vt * vu % 10007) = true := bne_t hok
              have G := Lib.hid (HT.out.bad HTT.out HUU.out (by rw [HNT.out, HNU.out]; omega) (fun g => hok (GOK.out.1 g)))
              rw [HNT.out, HNU.out] at G
              have wn : IntKind.i64.wrap (((nt + nu : Nat) : Int) - 1) = (nt : Int) + (nu : Int) - 1 := by rw [IntWalk.i64_in _ (by omega)]; omega
              clear hok HT GOK
              refine wp_region_noPanic ?_
              refine wp_region_held_drew (S := (fun w' => w'.ownsMap Tryz.prog 52 (plainElem Tryz.prog 37) mb 37 D)) (by kernel_rfl) ?_ (fun hHeld => ?_)
              · exact HMP.out _ (below_drew' (Below.refl _ _))
              refine wpAnyH_take (i := 0) (oi := _) (v := ?_) rfl (by kernel_rfl) (by kernel_rfl) (by kernel_rfl) (fun _ _ _ h => h) (Or.inl ⟨by kernel_rfl, ?_⟩) (by assumption) ?_
              rotate_left
              · (intro w hSw; (try dsimp only at hSw); go_simp; try (with_reducible rfl))
              try simp only [Act.put, List.setIfInBounds_toArray, List.set_cons_zero, List.set_cons_succ, List.getElem_toArray, List.getElem_cons_zero, List.getElem_cons_succ]
              refine wpAnyH_take (i := 1) (oi := _) (v := ?_) rfl (by kernel_rfl) (by kernel_rfl) (by kernel_rfl) (fun _ _ _ h => h) (Or.inl ⟨by kernel_rfl, ?_⟩) (by assumption) ?_
              rotate_left
              · (intro w hSw; (try dsimp only at hSw); go_simp; try (with_reducible rfl))
              try simp only [Act.put, List.setIfInBounds_toArray, List.set_cons_zero, List.set_cons_succ, List.getElem_toArray, List.getElem_cons_zero, List.getElem_cons_succ]
              refine wpAnyH_take (i := 2) (oi := _) (v := .bool true) rfl (by kernel_rfl) (by kernel_rfl) (by kernel_rfl) (fun _ _ _ h => h) (Or.inl ⟨by kernel_rfl, ?_⟩) (by assumption) ?_
              · (intro wz hSw; (try dsimp only at hSw); go_simp; try (with_reducible rfl))
              try simp only [Act.put, List.setIfInBounds_toArray, List.set_cons_zero, List.set_cons_succ, List.getElem_toArray, List.getElem_cons_zero, List.getElem_cons_succ]
              refine wpAnyH_take (i := 3) (oi := _) (v := ?_) rfl (by kernel_rfl) (by kernel_rfl) (by kernel_rfl) (fun _ _ _ h => h) (Or.inl ⟨by kernel_rfl, ?_⟩) (by assumption) ?_
              rotate_left
              · (intro w hSw; (try dsimp only at hSw); go_simp; try (with_reducible rfl))
              try simp only [Act.put, List.setIfInBounds_toArray, List.set_cons_zero, List.set_cons_succ, List.getElem_toArray, List.getElem_cons_zero, List.getElem_cons_succ]
              refine wpAnyH_take (i := 4) (oi := _) (v := ?_) rfl (by kernel_rfl) (by kernel_rfl) (by kernel_rfl) (fun _ _ _ h => h) (Or.inl ⟨by kernel_rfl, ?_⟩) (by assumption) ?_
              rotate_left
              · (intro w hSw; (try dsimp only at hSw); go_simp; try (with_reducible rfl))
              try simp only [Act.put, List.setIfInBounds_toArray, List.set_cons_zero, List.set_cons_succ, List.getElem_toArray, List.getElem_cons_zero, List.getElem_cons_succ]
              refine wpAnyH_take (i := 5) (oi := _) (v := ?_) rfl (by kernel_rfl) (by kernel_rfl) (by kernel_rfl) (fun _ _ _ h => h) (Or.inl ⟨by kernel_rfl, ?_⟩) (by assumption) ?_
              rotate_left
              · (intro w hSw; (try dsimp only at hSw); go_simp; try (with_reducible rfl))
              try simp only [Act.put, List.setIfInBounds_toArray, List.set_cons_zero, List.set_cons_succ, List.getElem_toArray, List.getElem_cons_zero, List.getElem_cons_succ]
              refine wpAnyH_take (i := 6) (oi := _) (v := ?_) rfl (by kernel_rfl) (by kernel_rfl) (by kernel_rfl) (fun _ _ _ h => h) (Or.inl ⟨by kernel_rfl, ?_⟩) (by assumption) ?_
              rotate_left
              · (intro w hSw; (try dsimp only at hSw); go_simp; try (with_reducible rfl))
              try simp only [Act.put, List.setIfInBounds_toArray, List.set_cons_zero, List.set_cons_succ, List.getElem_toArray, List.getElem_cons_zero, List.getElem_cons_succ]
              refine wpAnyH_take (i := 9) (oi := _) (v := ?_) rfl (by kernel_rfl) (by kernel_rfl) (by kernel_rfl) (fun _ _ _ h => h) (Or.inl ⟨by kernel_rfl, ?_⟩) (by assumption) ?_
              rotate_left
              · (intro w hSw; (try dsimp only at hSw); go_simp; try (with_reducible rfl))
              try simp only [Act.put, List.setIfInBounds_toArray, List.set_cons_zero, List.set_cons_succ, List.getElem_toArray, List.getElem_cons_zero, List.getElem_cons_succ]
              refine wpAnyH_take (i := 10) (oi := _) (v := ?_) rfl (by kernel_rfl) (by kernel_rfl) (by kernel_rfl) (fun _ _ _ h => h) (Or.inl ⟨by kernel_rfl, ?_⟩) (by assumption) ?_
              rotate_left
              · (intro w hSw; (try dsimp only at hSw); go_simp; try (with_reducible rfl))
              try simp only [Act.put, List.setIfInBounds_toArray, List.set_cons_zero, List.set_cons_succ, List.getElem_toArray, List.getElem_cons_zero, List.getElem_cons_succ]
              refine wpAnyH_take (i := 11) (oi := _) (v := ?_) rfl (by kernel_rfl) (by kernel_rfl) (by kernel_rfl) (fun _ _ _ h => h) (Or.inl ⟨by kernel_rfl, ?_⟩) (by assumption) ?_
              rotate_left
              · (intro w hSw; (try dsimp only at hSw); go_simp; try (with_reducible rfl))
              try simp only [Act.put, List.setIfInBounds_toArray, List.set_cons_zero, List.set_cons_succ, List.getElem_toArray, List.getElem_cons_zero, List.getElem_cons_succ]
              refine wpAnyH_take (i := 15) (oi := _) (v := ?_) rfl (by kernel_rfl) (by kernel_rfl) (by kernel_rfl) (fun _ _ _ h => h) (Or.inl ⟨by kernel_rfl, ?_⟩) (by assumption) ?_
              rotate_left
              · (intro w hSw; (try dsimp only at hSw); go_simp; try (with_reducible rfl))
              try simp only [Act.put, List.setIfInBounds_toArray, List.set_cons_zero, List.set_cons_succ, List.getElem_toArray, List.getElem_cons_zero, List.getElem_cons_succ]
              refine wpAnyH_take (i := 16) (oi := _) (v := ?_) rfl (by kernel_rfl) (by kernel_rfl) (by kernel_rfl) (fun _ _ _ h => h) (Or.inl ⟨by kernel_rfl, ?_⟩) (by assumption) ?_
              rotate_left
              · (intro w hSw; (try dsimp only at hSw); go_simp; try (with_reducible rfl))
              try simp only [Act.put, List.setIfInBounds_toArray, List.set_cons_zero, List.set_cons_succ, List.getElem_toArray, List.getElem_cons_zero, List.getElem_cons_succ]
              refine wpAnyH_take (i := 17) (oi := _) (v := ?_) rfl (by kernel_rfl) (by kernel_rfl) (by kernel_rfl) (fun _ _ _ h => h) (Or.inl ⟨by kernel_rfl, ?_⟩) (by assumption) ?_
              rotate_left
              · (intro w hSw; (try dsimp only at hSw); go_simp; try (with_reducible rfl))
              try simp only [Act.put, List.setIfInBounds_toArray, List.set_cons_zero, List.set_cons_succ, List.getElem_toArray, List.getElem_cons_zero, List.getElem_cons_succ]
              refine wpAnyH_take (i := 19) (oi := _) (v := ?_) rfl (by kernel_rfl) (by kernel_rfl) (by kernel_rfl) (fun _ _ _ h => h) (Or.inl ⟨by kernel_rfl, ?_⟩) (by assumption) ?_
              rotate_left
              · (intro w hSw; (try dsimp only at hSw); go_simp; try (with_reducible rfl))
              try simp only [Act.put, List.setIfInBounds_toArray, List.set_cons_zero, List.set_cons_succ, List.getElem_toArray, List.getElem_cons_zero, List.getElem_cons_succ]
              refine wpAnyH_take (i := 20) (oi := _) (v := ?_) rfl (by kernel_rfl) (by kernel_rfl) (by kernel_rfl) (fun _ _ _ h => h) (Or.inl ⟨by kernel_rfl, ?_⟩) (by assumption) ?_
              rotate_left
              · (intro w hSw; (try dsimp only at hSw); go_simp; try (with_reducible rfl))
              try simp only [Act.put, List.setIfInBounds_toArray, List.set_cons_zero, List.set_cons_succ, List.getElem_toArray, List.getElem_cons_zero, List.getElem_cons_succ]
              refine wpAnyH_take (i := 18) (oi := _) (v := .int .i64 vt) rfl (by kernel_rfl) (by kernel_rfl) (by kernel_rfl) (fun _ _ _ h => h) (Or.inl ⟨by kernel_rfl, ?_⟩) (by assumption) ?_
              · (intro wz hSw; (try dsimp only at hSw); obtain ⟨c0, hrun, hat, _⟩ := hSw.lookup_int (t := 75) (e := 37) (q := .i64) keyedV Tryz.underlying75 Tryz.underlying37 (zeroNum _) KT.out; (obtain rfl : c0 = vt := by (have h9 := hat.symm.trans AT.out; simpa using h9)); go_simp; try (with_reducible rfl))
              try simp only [Act.put, List.setIfInBounds_toArray, List.set_cons_zero, List.set_cons_succ, List.getElem_toArray, List.getElem_cons_zero, List.getElem_cons_succ]
              refine wpAnyH_take (i := 21) (oi := _) (v := .int .i64 vu) rfl (by kernel_rfl) (by kernel_rfl) (by kernel_rfl) (fun _ _ _ h => h) (Or.inl ⟨by kernel_rfl, ?_⟩) (by assumption) ?_
              · (intro wz hSw; (try dsimp only at hSw); obtain ⟨c0, hrun, hat, _⟩ := hSw.lookup_int (t := 75) (e := 37) (q := .i64) keyedV Tryz.underlying75 Tryz.underlying37 (zeroNum _) KU.out; (obtain rfl : c0 = vu := by (have h9 := hat.symm.trans AU.out; simpa using h9)); go_simp; try (with_reducible rfl))
              try simp only [Act.put, List.setIfInBounds_toArray, List.set_cons_zero, List.set_cons_succ, List.getElem_toArray, List.getElem_cons_zero, List.getElem_cons_succ]
              refine wpAnyH_ready (rs := [7]) (by kernel_rfl) (by simp) (AllReadyH.cons (o := _) rfl (fun K hK => ?_) AllReadyH.nil)
              go_simp
              (go_at_call 67; refine (CT1 _).mono ?_; rintro e w3 ⟨rfl, bel3⟩)
              have B3 : Below wr.heap.size wr w3 := ⟨bel3.os, bel3.tape, bel3.output, bel3.size, bel3.block⟩
              have hs3 := B3.size
              clear bel3 CT1
              go_wp2_with fail
              refine hK.out _ _ ?_ (fun hHeld => ?_)
              · exact HMP.out _ B3
              clear hK K
              try simp only [Act.put, List.setIfInBounds_toArray, List.set_cons_zero, List.set_cons_succ, List.getElem_toArray, List.getElem_cons_zero, List.getElem_cons_succ]
              refine wpAnyH_take (i := 8) (oi := _) (v := .int .i64 vp) rfl (by kernel_rfl) (by kernel_rfl) (by kernel_rfl) (fun _ _ _ h => h) (Or.inl ⟨by kernel_rfl, ?_⟩) (by assumption) ?_
              · (intro wz hSw; (try dsimp only at hSw); obtain ⟨c0, hrun, hat, _⟩ := hSw.lookup_int (t := 75) (e := 37) (q := .i64) keyedV Tryz.underlying75 Tryz.underlying37 (zeroNum _) KP.out; (obtain rfl : c0 = vp := by (have h9 := hat.symm.trans AP.out; simpa using h9)); go_simp; try (with_reducible rfl))
              try simp only [Act.put, List.setIfInBounds_toArray, List.set_cons_zero, List.set_cons_succ, List.getElem_toArray, List.getElem_cons_zero, List.getElem_cons_succ]
              refine wpAnyH_ready (rs := [12]) (by kernel_rfl) (by simp) (AllReadyH.cons (o := _) rfl (fun K hK => ?_) AllReadyH.nil)
              go_simp
              (go_at_call 67; refine (CT2 _).mono ?_; rintro e w4 ⟨rfl, bel4⟩)
              have B4 : Below wr.heap.size wr w4 := B3.trans (Below.mono ⟨bel4.os, bel4.tape, bel4.output, bel4.size, bel4.block⟩ hs3)
              clear bel4 CT2
              go_wp2_with fail
              refine hK.out _ _ ?_ (fun hHeld => ?_)
              · exact HMP.out _ B4
              clear hK K
              try simp only [Act.put, List.setIfInBounds_toArray, List.set_cons_zero, List.set_cons_succ, List.getElem_toArray, List.getElem_cons_zero, List.getElem_cons_succ]
              refine wpAnyH_take (i := 13) (oi := _) (v := .int .i64 vq) rfl (by kernel_rfl) (by kernel_rfl) (by kernel_rfl) (fun _ _ _ h => h) (Or.inl ⟨by kernel_rfl, ?_⟩) (by assumption) ?_
              · (intro wz hSw; (try dsimp only at hSw); obtain ⟨c0, hrun, hat, _⟩ := hSw.lookup_int (t := 75) (e := 37) (q := .i64) keyedV Tryz.underlying75 Tryz.underlying37 (zeroNum _) KQ.out; (obtain rfl : c0 = vq := by (have h9 := hat.symm.trans AQ.out; simpa using h9)); go_simp; try (with_reducible rfl))
              try simp only [Act.put, List.setIfInBounds_toArray, List.set_cons_zero, List.set_cons_succ, List.getElem_toArray, List.getElem_cons_zero, List.getElem_cons_succ]
              refine wpAnyH_ready (rs := [14]) (by kernel_rfl) (by simp) (AllReadyH.cons (o := _) rfl (fun K hK => ?_) AllReadyH.nil)
              go_simp
              (go_at_call 68; refine (CP _).mono ?_; rintro e w8 ⟨rfl, rfl⟩)
              go_wp2_with fail
              refine hK.out _ _ ?_ (fun hHeld => ?_)
              · exact HMP.out _ B4
              clear hK K
              try simp only [Act.put, List.setIfInBounds_toArray, List.set_cons_zero, List.set_cons_succ, List.getElem_toArray, List.getElem_cons_zero, List.getElem_cons_succ]
              refine wpAnyH_ready (rs := [22]) (by kernel_rfl) (by simp) (AllReadyH.cons (o := _) rfl (fun K hK => ?_) AllReadyH.nil)
              go_simp
              (go_at_call 89; refine (times_any vt vu _ t0 t1 u0 u1).mono ?_; rintro e w9 ⟨rfl, rfl⟩)
              go_wp2_with fail
              refine hK.out _ _ ?_ (fun hHeld => ?_)
              · exact HMP.out _ B4
              clear hK K
              try simp only [Act.put, List.setIfInBounds_toArray, List.set_cons_zero, List.set_cons_succ, List.getElem_toArray, List.getElem_cons_zero, List.getElem_cons_succ]
              refine wpAnyH_take (i := 23) (oi := _) (v := .bool true) rfl (by kernel_rfl) (by kernel_rfl) (by kernel_rfl) (fun _ _ _ h => h) (Or.inl ⟨by kernel_rfl, ?_⟩) (by assumption) ?_
              · (intro wz hSw; (try dsimp only at hSw); go_simp; try (with_reducible rfl))
              try simp only [Act.put, List.setIfInBounds_toArray, List.set_cons_zero, List.set_cons_succ, List.getElem_toArray, List.getElem_cons_zero, List.getElem_cons_succ]
              refine wpAnyH_take (i := 24) (oi := _) (v := ?_) rfl (by kernel_rfl) (by kernel_rfl) (by kernel_rfl) (fun _ _ _ h => h) (Or.inl ⟨by kernel_rfl, ?_⟩) (by assumption) ?_
              rotate_left
              · (intro w hSw; (try dsimp only at hSw); go_simp; try (with_reducible rfl))
              try simp only [Act.put, List.setIfInBounds_toArray, List.set_cons_zero, List.set_cons_succ, List.getElem_toArray, List.getElem_cons_zero, List.getElem_cons_succ]
              refine wpAnyH_done (by kernel_rfl) ?_ _
              refine NoPanic.normal ?_
              have GB : Hid (Below w2.heap.size w2 w4) := HW.out.trans (B4.mono hwz)
              clear B3 B4 hHeld
              go_wp2
              go_roundw
              case rel => exact ⟨(nt : Int) + (nu : Int) - 1, k + 1, by first | rfl | go_num | (simp only [Value.int.injEq, true_and]; omega), by omega, by go_num, G, GB⟩
              case measure => simp [intOf]; omega
          · have G := Lib.hid (HT.out.over HTT.out HUU.out (by rw [HNT.out, HNU.out]; omega))
            have GB : Hid (∀ d, Below w2.heap.size w2 (wr.drewN d)) := fun d => below_drewN HW.out d
            have hgt : L < (nt : Int) + (nu : Int) := by omega
            clear HT
            refine wp_region_noPanic ?_
            refine wp_region_held_drew (S := (fun w' => w'.ownsMap Tryz.prog 52 (plainElem Tryz.prog 37) mb 37 D)) (by kernel_rfl) ?_ (fun hHeld => ?_)
            · exact HMP.out _ (below_drew' (Below.refl _ _))
            refine wpAnyH_take (i := 0) (oi := _) (v := ?_) rfl (by kernel_rfl) (by kernel_rfl) (by kernel_rfl) (fun _ _ _ h => h) (Or.inl ⟨by kernel_rfl, ?_⟩) (by assumption) ?_
            rotate_left
            · (intro w hSw; (try dsimp only at hSw); go_simp; try (with_reducible rfl))
            try simp only [Act.put, List.setIfInBounds_toArray, List.set_cons_zero, List.set_cons_succ, List.getElem_toArray, List.getElem_cons_zero, List.getElem_cons_succ]
            refine wpAnyH_take (i := 1) (oi := _) (v := ?_) rfl (by kernel_rfl) (by kernel_rfl) (by kernel_rfl) (fun _ _ _ h => h) (Or.inl ⟨by kernel_rfl, ?_⟩) (by assumption) ?_
            rotate_left
            · (intro w hSw; (try dsimp only at hSw); go_simp; try (with_reducible rfl))
            try simp only [Act.put, List.setIfInBounds_toArray, List.set_cons_zero, List.set_cons_succ, List.getElem_toArray, List.getElem_cons_zero, List.getElem_cons_succ]
            refine wpAnyH_take (i := 2) (oi := _) (v := .bool false) rfl (by kernel_rfl) (by kernel_rfl) (by kernel_rfl) (fun _ _ _ h => h) (Or.inl ⟨by kernel_rfl, ?_⟩) (by assumption) ?_
            · (intro wz hSw; (try dsimp only at hSw); go_simp; try (with_reducible rfl))
            try simp only [Act.put, List.setIfInBounds_toArray, List.set_cons_zero, List.set_cons_succ, List.getElem_toArray, List.getElem_cons_zero, List.getElem_cons_succ]
            refine wpAnyH_take (i := 3) (oi := _) (v := ?_) rfl (by kernel_rfl) (by kernel_rfl) (by kernel_rfl) (fun _ _ _ h => h) (Or.inl ⟨by kernel_rfl, ?_⟩) (by assumption) ?_
            rotate_left
            · (intro w hSw; (try dsimp only at hSw); go_simp; try (with_reducible rfl))
            try simp only [Act.put, List.setIfInBounds_toArray, List.set_cons_zero, List.set_cons_succ, List.getElem_toArray, List.getElem_cons_zero, List.getElem_cons_succ]
            refine wpAnyH_skipN (by assumption) [(4, 39), (5, 40), (6, 41), (7, 42), (8, 43), (9, 44), (10, 45), (11, 46), (12, 47), (13, 48), (14, 49), (15, 50), (16, 51), (17, 52), (18, 53), (19, 54), (20, 55), (21, 56), (22, 57), (23, 58)] 1 _ _ (by kernel_rfl) ?_
            simp only [List.foldl, Act.put, List.setIfInBounds_toArray, List.set_cons_zero, List.set_cons_succ]
            refine wpAnyH_take (i := 24) (oi := _) (v := ?_) rfl (by kernel_rfl) (by kernel_rfl) (by kernel_rfl) (fun _ _ _ h => h) (Or.inl ⟨by kernel_rfl, ?_⟩) (by assumption) ?_
            rotate_left
            · (intro w hSw; (try dsimp only at hSw); go_simp; try (with_reducible rfl))
            try simp only [Act.put, List.setIfInBounds_toArray, List.set_cons_zero, List.set_cons_succ, List.getElem_toArray, List.getElem_cons_zero, List.getElem_cons_succ]
            refine wpAnyH_done (by kernel_rfl) ?_ _
            refine NoPanic.normal ?_
            clear HW hHeld
            go_wp2
            go_roundw
            case rel => exact ⟨L, k + 1, rfl, by omega, by go_num, G, by first | exact GB.out _ | exact GB.out 1⟩
            case measure => simp [intOf]; omega
        · obtain rfl : k = 37 := by omega
          have G := Lib.hid HT.out.leave
          clear HT
          go_wp2
          go_roundw
          case rel => exact ⟨L, i + 1, rfl, by omega, by go_num, G, HW⟩
          case measure => simp [intOf]; omega
    · obtain rfl : i = 37 := by omega
      have G : Hid (limOf xs = L) := IsLim.of HT.out.done
      have GB : Hid (Below w.heap.size w wr) := B2.out.trans (HW.out.mono B2.out.size)
      clear HT
      go_wp2
      go_ret
      exact ⟨ret_i64 G.out.symm, GB.out⟩
set_option maxHeartbeats 8000000 in
theorem exch_none (A : Option Addr) (c B : Nat) (xs : List Int) (w : World) (hl : xs.length = 38) (hx : allNum xs = true) (hc : 38 ≤ c) (h0 : xs.getD 0 0 = 0) (hB : B ≤ w.heap.size) (h : Row w B A (ints xs)) :
    Calls Tryz.prog 44 #[.slice A 38 c, .func (.func 43) #[] #[]] w fun e w' => e = .returned (.int .i64 (limOf xs)) ∧ Below w.heap.size w w' := by
  have HL := Lib.hid hl
  have HN := Lib.hid hx
  obtain ⟨x0, hx0⟩ := at_lt (show 0 < xs.length by omega)
  obtain ⟨ba, oa, rfl, hba, _⟩ := h 0 _ (ints_at hx0)
  have HR : Row w B (some ⟨ba, oa + 1, none⟩) (ints (xs.drop 1)) := by
    have := h.rest
    rwa [show (ints xs).drop 1 = ints (xs.drop 1) by simp [ints, intsK, List.map_drop]] at this
  have CV : ∀ V c', Below w.heap.size w V → Calls Tryz.prog 66 #[.slice (some ⟨ba, oa + 1, none⟩) 37 c'] V (ResV 37 (valN (xs.drop 1) 37) V) := fun V c' hV => valuesOf_any _ 37 c' B (xs.drop 1) V (by rw [List.length_drop, HL.out]) (by omega) (by rw [allNum_iff]; exact fun y hy => allNum_iff.1 HN.out y (List.mem_of_mem_drop hy)) (by have := hV.size; omega) (HR.below hV hB)
  have hc1 : ¬ c = 1 := by omega
  have hc2 : (1 : Int) ≤ (c : Int) := by omega
  have H0 := Lib.hid h0
  clear hl hx hx0 h h0 HR hc
  go_enter Tryz.func44, Tryz.ntmps44
  go_wp2_with fail
  go_region_held3 (fun V => True) (first | trivial)
    (first
      | (go_at_call 66; refine (CV _ _ (by first | exact (Below.refl _ _).drew | exact below_drewN (Below.refl _ _) _)).mono ?_; rintro e w1 ⟨mb, rfl, hmap, be1⟩)
      | (go_at_call 36; refine (mapTrees_any _).mono ?_; rintro e w2 ⟨A2, c2, rfl, own2, be2⟩))
  obtain ⟨g2, rfl⟩ := own_addr own2 (by omega)
  have hcap := (own_cap own2).1
  have hc9 : ¬ c2 = 1 := by omega
  have BE1 : Below w.heap.size w w1 := ⟨be1.os, be1.tape, be1.output, be1.size, be1.block⟩
  have BE2 : Below w1.heap.size w1 w2 := ⟨be2.os, be2.tape, be2.output, be2.size, be2.block⟩
  have B2 : Hid (Below w.heap.size w w2) := BE1.trans (BE2.mono BE1.size)
  have FT : Hid (∀ k t, (treesTo 6)[k]? = some t → w2.cell? ⟨g2, 1 + k, none⟩ = some (.string ⟨(Tr.txt t).toArray⟩)) := fun k t ht => strs_cell (row_of_own own2) (1 + k) (Tr.txt t) (by rw [Nat.add_comm]; unfold mapTx; rw [List.getElem?_cons_succ, List.getElem?_map, ht]; rfl)
  have hg2 : g2 < w2.heap.size := (own2.lt g2 rfl).2
  obtain ⟨D, hown, hD⟩ := hmap.next BE2
  have hmb := hown.lt
  have HD := Lib.hid hD
  have HO : Hid (∀ V, Below w2.heap.size w2 V → V.ownsMap Tryz.prog 52 (plainElem Tryz.prog 37) mb 37 D) := fun V hV => ownsMap_below hown hV hmb
  clear own2 be1 be2 BE1 BE2 hmap hown hD CV
  go_wp2_with fail
  go_loopw [7, 20] (fun v i wr => ∃ (L : Int) (k : Nat), v = .int .i64 L ∧ k ≤ 37 ∧ i = .int .i64 k ∧ Hid (PLim xs k 0 L) ∧ Hid (Below w2.heap.size w2 wr)) (fun _ i _ => 37 - (intOf i).toNat)
  case atStart => exact ⟨6, 0, rfl, Nat.zero_le _, rfl, PLim.start xs, Below.refl _ _⟩
  case round =>
    obtain ⟨L, i, rfl, hi, rfl, HT, HW⟩ := hrel
    by_cases hi37 : i < 37
    · have hi37i : (i : Int) < 37 := by omega
      have i0 : (0 : Int) ≤ (i : Int) := Int.natCast_nonneg _
      obtain ⟨t, ht⟩ := at_lt (show i < (treesTo 6).length by rw [to_len]; exact hi37)
      have hct := (HW.out.cell (p := ⟨g2, 1 + i, none⟩) hg2).trans (FT.out i t ht)
      have HTT := Lib.hid ht
      have HLT := Lib.hid (to_lvT (List.mem_of_getElem? ht))
      obtain ⟨t1, t8⟩ := lv_bd HLT.out
      obtain ⟨X, hX⟩ : ∃ X : ByteArray, X = ⟨(Tr.txt t).toArray⟩ := ⟨_, rfl⟩
      rw [← hX] at hct
      have HX := Lib.hid hX
      clear ht hX
      go_wp2_with fail
      go_loopw [7, 26] (fun v j wr => ∃ (L : Int) (k : Nat), v = .int .i64 L ∧ k ≤ 37 ∧ j = .int .i64 k ∧ Hid (PLim xs i k L) ∧ Hid (Below w2.heap.size w2 wr)) (fun _ j _ => 37 - (intOf j).toNat)
      case atStart => exact ⟨L, 0, rfl, Nat.zero_le _, rfl, HT, HW⟩
      case round =>
        clear HT HW hct
        obtain ⟨L, k, rfl, hk, rfl, HT, HW⟩ := hrel
        by_cases hk37 : k < 37
        · have hk37i : (k : Int) < 37 := by omega
          have k0 : (0 : Int) ≤ (k : Int) := Int.natCast_nonneg _
          obtain ⟨u, hu⟩ := at_lt (show k < (treesTo 6).length by rw [to_len]; exact hk37)
          have hcu := (HW.out.cell (p := ⟨g2, 1 + k, none⟩) hg2).trans (FT.out k u hu)
          have HUU := Lib.hid hu
          have HLU := Lib.hid (to_lvT (List.mem_of_getElem? hu))
          obtain ⟨p1, p8⟩ := lv_bd HLU.out
          obtain ⟨Y, hY⟩ : ∃ Y : ByteArray, Y = ⟨(Tr.txt u).toArray⟩ := ⟨_, rfl⟩
          rw [← hY] at hcu
          have HY := Lib.hid hY
          clear hu hY
          have lt_ := (lv_txt HLT.out).2.2.2
          have lu_ := (lv_txt HLU.out).2.2.2
          have CN1 : ∀ V, Calls Tryz.prog 62 #[.string X] V fun e w' => e = .returned (.int .i64 (t.length : Int)) ∧ V = w' := fun V => by
            have := nodes_any (Tr.txt t) V (by omega)
            rw [show (Tr.txt t).length / 2 = t.length by omega, ← HX.out] at this
            exact this
          have CN2 : ∀ V, Calls Tryz.prog 62 #[.string Y] V fun e w' => e = .returned (.int .i64 (u.length : Int)) ∧ V = w' := fun V => by
            have := nodes_any (Tr.txt u) V (by omega)
            rw [show (Tr.txt u).length / 2 = u.length by omega, ← HY.out] at this
            exact this
          have hwr : IntKind.i64.wrap ((t.length : Int) + (u.length : Int)) = ((t.length + u.length : Nat) : Int) := by rw [IntWalk.i64_in _ (by omega)]; omega
          have l1 := HT.out.1
          have l6 := HT.out.2.1
          have hwz := HW.out.size
          obtain ⟨nt, hnt⟩ : ∃ nt, nt = t.length := ⟨_, rfl⟩
          obtain ⟨nu, hnu⟩ : ∃ nu, nu = u.length := ⟨_, rfl⟩
          have HNT := Lib.hid hnt.symm
          have HNU := Lib.hid hnu.symm
          simp only [← hnt] at CN1 t1 t8 hwr
          simp only [← hnu] at CN2 p1 p8 hwr
          have HMP : Hid (∀ V, Below wr.heap.size wr V → V.ownsMap Tryz.prog 52 (plainElem Tryz.prog 37) mb 37 D) := fun V hV => HO.out V (HW.out.trans (hV.mono hwz))
          clear lt_ lu_ hnt hnu
          go_wp2_with fail
          refine (CN1 _).mono ?_
          rintro e w' ⟨rfl, rfl⟩
          go_wp2_with fail
          refine (CN2 _).mono ?_
          rintro e w' ⟨rfl, rfl⟩
          clear CN1 CN2 hcu
          go_wp2_with fail
          by_cases hle : ((nt + nu : Nat) : Int) ≤ L
          · obtain ⟨e1, e2, e3, _⟩ := exP_parts HLT.out HLU.out (show t.length + u.length ≤ 6 by rw [HNT.out, HNU.out]; omega)
            obtain ⟨f1, f2, f3, _⟩ := exP_parts HLU.out HLT.out (show u.length + t.length ≤ 6 by rw [HNT.out, HNU.out]; omega)
            have gt_ := to_val (xs := xs) HTT.out hi37
            have gu_ := to_val (xs := xs) HUU.out hk37
            have gp_ := valT_drop (a := xs) e1 (by rw [e2, HNT.out, HNU.out]; omega)
            have gq_ := valT_drop (a := xs) f1 (by rw [f2, HNT.out, HNU.out]; omega)
            obtain ⟨t0, t1'⟩ := valT_num (a := xs) (r := t) HN.out
            obtain ⟨u0, u1'⟩ := valT_num (a := xs) (r := u) HN.out
            obtain ⟨p0, p1'⟩ := valT_num (a := xs) (r := exP t u) HN.out
            obtain ⟨q0, q1'⟩ := valT_num (a := xs) (r := exP u t) HN.out
            have hxt := Tr.tx_txt HLT.out
            have hxu := Tr.tx_txt HLU.out
            have lt_ := (lv_txt HLT.out).2.2.2
            have lu_ := (lv_txt HLU.out).2.2.2
            rw [HNT.out] at lt_
            rw [HNU.out] at lu_
            have hle' : (nt : Int) + (nu : Int) ≤ L := by omega
            have CT1 := fun V => tTimes_any (Tr.txt t) (Tr.txt u) V hxt (by omega)
            have CT2 := fun V => tTimes_any (Tr.txt u) (Tr.txt t) V hxu (by omega)
            have le_ := (lv_txt (show Tr.isLv (exP t u) = true from (isTr_parts e1).1)).2.2.2
            have lf_ := (lv_txt (show Tr.isLv (exP u t) = true from (isTr_parts f1).1)).2.2.2
            rw [HNT.out, HNU.out] at e2 f2
            have AT : Hid (D.atKey (.string (Tr.txt t)) (.lit (.int .i64 0)) = .lit (.int .i64 (valT xs t))) := by rw [Hid, HD.out, gt_]
            have AU : Hid (D.atKey (.string (Tr.txt u)) (.lit (.int .i64 0)) = .lit (.int .i64 (valT xs u))) := by rw [Hid, HD.out, gu_]
            have AP : Hid (D.atKey (.string (Tr.txt (exP t u))) (.lit (.int .i64 0)) = .lit (.int .i64 (valT xs (exP t u)))) := by rw [Hid, HD.out, gp_]
            have AQ : Hid (D.atKey (.string (Tr.txt (exP u t))) (.lit (.int .i64 0)) = .lit (.int .i64 (valT xs (exP u t)))) := by rw [Hid, HD.out, gq_]
            have KT := Lib.hid (keyTxV (x := Tr.txt t) (by omega))
            have KU := Lib.hid (keyTxV (x := Tr.txt u) (by omega))
            have KP := Lib.hid (keyTxV (x := Tr.txt (exP t u)) (by omega))
            have KQ := Lib.hid (keyTxV (x := Tr.txt (exP u t)) (by omega))
            rw [← e3] at CT1
            rw [← f3] at CT2
            obtain ⟨P, hP⟩ : ∃ P : ByteArray, P = ⟨(Tr.txt (exP t u)).toArray⟩ := ⟨_, rfl⟩
            obtain ⟨Q, hQ⟩ : ∃ Q : ByteArray, Q = ⟨(Tr.txt (exP u t)).toArray⟩ := ⟨_, rfl⟩
            simp only [← hP, ← HX.out, ← HY.out] at CT1
            simp only [← hQ, ← HX.out, ← HY.out] at CT2
            rw [← HX.out] at KT
            rw [← HY.out] at KU
            rw [← hP] at KP
            rw [← hQ] at KQ
            have GOK : Hid (exOk xs t u ↔ (valT xs (exP t u) + valT xs (exP u t)) % 10007 = 0) := by unfold exOk; rw [Hid, H0.out]; rw [Int.zero_mul, Int.zero_emod]
            obtain ⟨vt, hvt⟩ : ∃ v, v = valT xs t := ⟨_, rfl⟩
            obtain ⟨vu, hvu⟩ : ∃ v, v = valT xs u := ⟨_, rfl⟩
            obtain ⟨vp, hvp⟩ : ∃ v, v = valT xs (exP t u) := ⟨_, rfl⟩
            obtain ⟨vq, hvq⟩ : ∃ v, v = valT xs (exP u t) := ⟨_, rfl⟩
            simp only [← hvt, ← hvu, ← hvp, ← hvq] at AT AU AP AQ GOK t0 t1' u0 u1' p0 p1' q0 q1'
            have t1 := t1'
            have u1 := u1'
            have CP := fun V => plus_any vp vq V p0 p1' q0 q1'
            obtain ⟨m3, hm3⟩ : ∃ m3, m3 = (vp + vq) % 10007 := ⟨_, rfl⟩
            simp only [← hm3] at CP GOK
            clear hvt hvu hvp hvq hm3 hP hQ e1 e2 e3 f1 f2 f3 gt_ gu_ gp_ gq_ hxt hxu lt_ lu_ le_ lf_ p0 p1' q0 q1' t1' u1'
            by_cases hok : m3 = 0
            · have tb : (m3 != 0) = false := bne_f hok
              have G := Lib.hid (HT.out.good HTT.out HUU.out (GOK.out.2 hok))
              clear hok HT GOK
              refine wp_region_noPanic ?_
              refine wp_region_held_drew (S := (fun w' => w'.ownsMap Tryz.prog 52 (plainElem Tryz.prog 37) mb 37 D)) (by kernel_rfl) ?_ (fun hHeld => ?_)
              · exact HMP.out _ (below_drew' (Below.refl _ _))
              refine wpAnyH_take (i := 0) (oi := _) (v := ?_) rfl (by kernel_rfl) (by kernel_rfl) (by kernel_rfl) (fun _ _ _ h => h) (Or.inl ⟨by kernel_rfl, ?_⟩) (by assumption) ?_
              rotate_left
              · (intro w hSw; (try dsimp only at hSw); go_simp; try (with_reducible rfl))
              try simp only [Act.put, List.setIfInBounds_toArray, List.set_cons_zero, List.set_cons_succ, List.getElem_toArray, List.getElem_cons_zero, List.getElem_cons_succ]
              refine wpAnyH_take (i := 1) (oi := _) (v := ?_) rfl (by kernel_rfl) (by kernel_rfl) (by kernel_rfl) (fun _ _ _ h => h) (Or.inl ⟨by kernel_rfl, ?_⟩) (by assumption) ?_
              rotate_left
              · (intro w hSw; (try dsimp only at hSw); go_simp; try (with_reducible rfl))
              try simp only [Act.put, List.setIfInBounds_toArray, List.set_cons_zero, List.set_cons_succ, List.getElem_toArray, List.getElem_cons_zero, List.getElem_cons_succ]
              refine wpAnyH_take (i := 2) (oi := _) (v := .bool true) rfl (by kernel_rfl) (by kernel_rfl) (by kernel_rfl) (fun _ _ _ h => h) (Or.inl ⟨by kernel_rfl, ?_⟩) (by assumption) ?_
              · (intro wz hSw; (try dsimp only at hSw); go_simp; try (with_reducible rfl))
              try simp only [Act.put, List.setIfInBounds_toArray, List.set_cons_zero, List.set_cons_succ, List.getElem_toArray, List.getElem_cons_zero, List.getElem_cons_succ]
              refine wpAnyH_take (i := 3) (oi := _) (v := ?_) rfl (by kernel_rfl) (by kernel_rfl) (by kernel_rfl) (fun _ _ _ h => h) (Or.inl ⟨by kernel_rfl, ?_⟩) (by assumption) ?_
              rotate_left
              · (intro w hSw; (try dsimp only at hSw); go_simp; try (with_reducible rfl))
              try simp only [Act.put, List.setIfInBounds_toArray, List.set_cons_zero, List.set_cons_succ, List.getElem_toArray, List.getElem_cons_zero, List.getElem_cons_succ]
              refine wpAnyH_take (i := 4) (oi := _) (v := ?_) rfl (by kernel_rfl) (by kernel_rfl) (by kernel_rfl) (fun _ _ _ h => h) (Or.inl ⟨by kernel_rfl, ?_⟩) (by assumption) ?_
              rotate_left
              · (intro w hSw; (try dsimp only at hSw); go_simp; try (with_reducible rfl))
              try simp only [Act.put, List.setIfInBounds_toArray, List.set_cons_zero, List.set_cons_succ, List.getElem_toArray, List.getElem_cons_zero, List.getElem_cons_succ]
              refine wpAnyH_take (i := 5) (oi := _) (v := ?_) rfl (by kernel_rfl) (by kernel_rfl) (by kernel_rfl) (fun _ _ _ h => h) (Or.inl ⟨by kernel_rfl, ?_⟩) (by assumption) ?_
              rotate_left
              · (intro w hSw; (try dsimp only at hSw); go_simp; try (with_reducible rfl))
              try simp only [Act.put, List.setIfInBounds_toArray, List.set_cons_zero, List.set_cons_succ, List.getElem_toArray, List.getElem_cons_zero, List.getElem_cons_succ]
              refine wpAnyH_take (i := 6) (oi := _) (v := ?_) rfl (by kernel_rfl) (by kernel_rfl) (by kernel_rfl) (fun _ _ _ h => h) (Or.inl ⟨by kernel_rfl, ?_⟩) (by assumption) ?_
              rotate_left
              · (intro w hSw; (try dsimp only at hSw); go_simp; try (with_reducible rfl))
              try simp only [Act.put, List.setIfInBounds_toArray, List.set_cons_zero, List.set_cons_succ, List.getElem_toArray, List.getElem_cons_zero, List.getElem_cons_succ]
              refine wpAnyH_take (i := 9) (oi := _) (v := ?_) rfl (by kernel_rfl) (by kernel_rfl) (by kernel_rfl) (fun _ _ _ h => h) (Or.inl ⟨by kernel_rfl, ?_⟩) (by assumption) ?_
              rotate_left
              · (intro w hSw; (try dsimp only at hSw); go_simp; try (with_reducible rfl))
              try simp only [Act.put, List.setIfInBounds_toArray, List.set_cons_zero, List.set_cons_succ, List.getElem_toArray, List.getElem_cons_zero, List.getElem_cons_succ]
              refine wpAnyH_take (i := 10) (oi := _) (v := ?_) rfl (by kernel_rfl) (by kernel_rfl) (by kernel_rfl) (fun _ _ _ h => h) (Or.inl ⟨by kernel_rfl, ?_⟩) (by assumption) ?_
              rotate_left
              · (intro w hSw; (try dsimp only at hSw); go_simp; try (with_reducible rfl))
              try simp only [Act.put, List.setIfInBounds_toArray, List.set_cons_zero, List.set_cons_succ, List.getElem_toArray, List.getElem_cons_zero, List.getElem_cons_succ]
              refine wpAnyH_take (i := 11) (oi := _) (v := ?_) rfl (by kernel_rfl) (by kernel_rfl) (by kernel_rfl) (fun _ _ _ h => h) (Or.inl ⟨by kernel_rfl, ?_⟩) (by assumption) ?_
              rotate_left
              · (intro w hSw; (try dsimp only at hSw); go_simp; try (with_reducible rfl))
              try simp only [Act.put, List.setIfInBounds_toArray, List.set_cons_zero, List.set_cons_succ, List.getElem_toArray, List.getElem_cons_zero, List.getElem_cons_succ]
              refine wpAnyH_take (i := 15) (oi := _) (v := ?_) rfl (by kernel_rfl) (by kernel_rfl) (by kernel_rfl) (fun _ _ _ h => h) (Or.inl ⟨by kernel_rfl, ?_⟩) (by assumption) ?_
              rotate_left
              · (intro w hSw; (try dsimp only at hSw); go_simp; try (with_reducible rfl))
              try simp only [Act.put, List.setIfInBounds_toArray, List.set_cons_zero, List.set_cons_succ, List.getElem_toArray, List.getElem_cons_zero, List.getElem_cons_succ]
              refine wpAnyH_take (i := 16) (oi := _) (v := ?_) rfl (by kernel_rfl) (by kernel_rfl) (by kernel_rfl) (fun _ _ _ h => h) (Or.inl ⟨by kernel_rfl, ?_⟩) (by assumption) ?_
              rotate_left
              · (intro w hSw; (try dsimp only at hSw); go_simp; try (with_reducible rfl))
              try simp only [Act.put, List.setIfInBounds_toArray, List.set_cons_zero, List.set_cons_succ, List.getElem_toArray, List.getElem_cons_zero, List.getElem_cons_succ]
              refine wpAnyH_take (i := 17) (oi := _) (v := ?_) rfl (by kernel_rfl) (by kernel_rfl) (by kernel_rfl) (fun _ _ _ h => h) (Or.inl ⟨by kernel_rfl, ?_⟩) (by assumption) ?_
              rotate_left
              · (intro w hSw; (try dsimp only at hSw); go_simp; try (with_reducible rfl))
              try simp only [Act.put, List.setIfInBounds_toArray, List.set_cons_zero, List.set_cons_succ, List.getElem_toArray, List.getElem_cons_zero, List.getElem_cons_succ]
              refine wpAnyH_take (i := 19) (oi := _) (v := ?_) rfl (by kernel_rfl) (by kernel_rfl) (by kernel_rfl) (fun _ _ _ h => h) (Or.inl ⟨by kernel_rfl, ?_⟩) (by assumption) ?_
              rotate_left
              · (intro w hSw; (try dsimp only at hSw); go_simp; try (with_reducible rfl))
              try simp only [Act.put, List.setIfInBounds_toArray, List.set_cons_zero, List.set_cons_succ, List.getElem_toArray, List.getElem_cons_zero, List.getElem_cons_succ]
              refine wpAnyH_take (i := 20) (oi := _) (v := ?_) rfl (by kernel_rfl) (by kernel_rfl) (by kernel_rfl) (fun _ _ _ h => h) (Or.inl ⟨by kernel_rfl, ?_⟩) (by assumption) ?_
              rotate_left
              · (intro w hSw; (try dsimp only at hSw); go_simp; try (with_reducible rfl))
              try simp only [Act.put, List.setIfInBounds_toArray, List.set_cons_zero, List.set_cons_succ, List.getElem_toArray, List.getElem_cons_zero, List.getElem_cons_succ]
              refine wpAnyH_take (i := 18) (oi := _) (v := .int .i64 vt) rfl (by kernel_rfl) (by kernel_rfl) (by kernel_rfl) (fun _ _ _ h => h) (Or.inl ⟨by kernel_rfl, ?_⟩) (by assumption) ?_
              · (intro wz hSw; (try dsimp only at hSw); obtain ⟨c0, hrun, hat, _⟩ := hSw.lookup_int (t := 75) (e := 37) (q := .i64) keyedV Tryz.underlying75 Tryz.underlying37 (zeroNum _) KT.out; (obtain rfl : c0 = vt := by (have h9 := hat.symm.trans AT.out; simpa using h9)); go_simp; try (with_reducible rfl))
              try simp only [Act.put, List.setIfInBounds_toArray, List.set_cons_zero, List.set_cons_succ, List.getElem_toArray, List.getElem_cons_zero, List.getElem_cons_succ]
              refine wpAnyH_take (i := 21) (oi := _) (v := .int .i64 vu) rfl (by kernel_rfl) (by kernel_rfl) (by kernel_rfl) (fun _ _ _ h => h) (Or.inl ⟨by kernel_rfl, ?_⟩) (by assumption) ?_
              · (intro wz hSw; (try dsimp only at hSw); obtain ⟨c0, hrun, hat, _⟩ := hSw.lookup_int (t := 75) (e := 37) (q := .i64) keyedV Tryz.underlying75 Tryz.underlying37 (zeroNum _) KU.out; (obtain rfl : c0 = vu := by (have h9 := hat.symm.trans AU.out; simpa using h9)); go_simp; try (with_reducible rfl))
              try simp only [Act.put, List.setIfInBounds_toArray, List.set_cons_zero, List.set_cons_succ, List.getElem_toArray, List.getElem_cons_zero, List.getElem_cons_succ]
              refine wpAnyH_ready (rs := [7]) (by kernel_rfl) (by simp) (AllReadyH.cons (o := _) rfl (fun K hK => ?_) AllReadyH.nil)
              go_simp
              (go_at_call 67; refine (CT1 _).mono ?_; rintro e w3 ⟨rfl, bel3⟩)
              have B3 : Below wr.heap.size wr w3 := ⟨bel3.os, bel3.tape, bel3.output, bel3.size, bel3.block⟩
              have hs3 := B3.size
              clear bel3 CT1
              go_wp2_with fail
              refine hK.out _ _ ?_ (fun hHeld => ?_)
              · exact HMP.out _ B3
              clear hK K
              try simp only [Act.put, List.setIfInBounds_toArray, List.set_cons_zero, List.set_cons_succ, List.getElem_toArray, List.getElem_cons_zero, List.getElem_cons_succ]
              refine wpAnyH_take (i := 8) (oi := _) (v := .int .i64 vp) rfl (by kernel_rfl) (by kernel_rfl) (by kernel_rfl) (fun _ _ _ h => h) (Or.inl ⟨by kernel_rfl, ?_⟩) (by assumption) ?_
              · (intro wz hSw; (try dsimp only at hSw); obtain ⟨c0, hrun, hat, _⟩ := hSw.lookup_int (t := 75) (e := 37) (q := .i64) keyedV Tryz.underlying75 Tryz.underlying37 (zeroNum _) KP.out; (obtain rfl : c0 = vp := by (have h9 := hat.symm.trans AP.out; simpa using h9)); go_simp; try (with_reducible rfl))
              try simp only [Act.put, List.setIfInBounds_toArray, List.set_cons_zero, List.set_cons_succ, List.getElem_toArray, List.getElem_cons_zero, List.getElem_cons_succ]
              refine wpAnyH_ready (rs := [12]) (by kernel_rfl) (by simp) (AllReadyH.cons (o := _) rfl (fun K hK => ?_) AllReadyH.nil)
              go_simp
              (go_at_call 67; refine (CT2 _).mono ?_; rintro e w4 ⟨rfl, bel4⟩)
              have B4 : Below wr.heap.size wr w4 := B3.trans (Below.mono ⟨bel4.os, bel4.tape, bel4.output, bel4.size, bel4.block⟩ hs3)
              clear bel4 CT2
              go_wp2_with fail
              refine hK.out _ _ ?_ (fun hHeld => ?_)
              · exact HMP.out _ B4
              clear hK K
              try simp only [Act.put, List.setIfInBounds_toArray, List.set_cons_zero, List.set_cons_succ, List.getElem_toArray, List.getElem_cons_zero, List.getElem_cons_succ]
              refine wpAnyH_take (i := 13) (oi := _) (v := .int .i64 vq) rfl (by kernel_rfl) (by kernel_rfl) (by kernel_rfl) (fun _ _ _ h => h) (Or.inl ⟨by kernel_rfl, ?_⟩) (by assumption) ?_
              · (intro wz hSw; (try dsimp only at hSw); obtain ⟨c0, hrun, hat, _⟩ := hSw.lookup_int (t := 75) (e := 37) (q := .i64) keyedV Tryz.underlying75 Tryz.underlying37 (zeroNum _) KQ.out; (obtain rfl : c0 = vq := by (have h9 := hat.symm.trans AQ.out; simpa using h9)); go_simp; try (with_reducible rfl))
              try simp only [Act.put, List.setIfInBounds_toArray, List.set_cons_zero, List.set_cons_succ, List.getElem_toArray, List.getElem_cons_zero, List.getElem_cons_succ]
              refine wpAnyH_ready (rs := [14]) (by kernel_rfl) (by simp) (AllReadyH.cons (o := _) rfl (fun K hK => ?_) AllReadyH.nil)
              go_simp
              (go_at_call 68; refine (CP _).mono ?_; rintro e w8 ⟨rfl, rfl⟩)
              go_wp2_with fail
              refine hK.out _ _ ?_ (fun hHeld => ?_)
              · exact HMP.out _ B4
              clear hK K
              try simp only [Act.put, List.setIfInBounds_toArray, List.set_cons_zero, List.set_cons_succ, List.getElem_toArray, List.getElem_cons_zero, List.getElem_cons_succ]
              refine wpAnyH_ready (rs := [22]) (by kernel_rfl) (by simp) (AllReadyH.cons (o := _) rfl (fun K hK => ?_) AllReadyH.nil)
              go_simp
              (go_at_call 43; refine (none_any vt vu _).mono ?_; rintro e w9 ⟨rfl, rfl⟩)
              go_wp2_with fail
              refine hK.out _ _ ?_ (fun hHeld => ?_)
              · exact HMP.out _ B4
              clear hK K
              try simp only [Act.put, List.setIfInBounds_toArray, List.set_cons_zero, List.set_cons_succ, List.getElem_toArray, List.getElem_cons_zero, List.getElem_cons_succ]
              refine wpAnyH_take (i := 23) (oi := _) (v := .bool false) rfl (by kernel_rfl) (by kernel_rfl) (by kernel_rfl) (fun _ _ _ h => h) (Or.inl ⟨by kernel_rfl, ?_⟩) (by assumption) ?_
              · (intro wz hSw; (try dsimp only at hSw); go_simp; try (with_reducible rfl))
              try simp only [Act.put, List.setIfInBounds_toArray, List.set_cons_zero, List.set_cons_succ, List.getElem_toArray, List.getElem_cons_zero, List.getElem_cons_succ]
              refine wpAnyH_take (i := 24) (oi := _) (v := ?_) rfl (by kernel_rfl) (by kernel_rfl) (by kernel_rfl) (fun _ _ _ h => h) (Or.inl ⟨by kernel_rfl, ?_⟩) (by assumption) ?_
              rotate_left
              · (intro w hSw; (try dsimp only at hSw); go_simp; try (with_reducible rfl))
              try simp only [Act.put, List.setIfInBounds_toArray, List.set_cons_zero, List.set_cons_succ, List.getElem_toArray, List.getElem_cons_zero, List.getElem_cons_succ]
              refine wpAnyH_done (by kernel_rfl) ?_ _
              refine NoPanic.normal ?_
              have GB : Hid (Below w2.heap.size w2 w4) := HW.out.trans (B4.mono hwz)
              clear B3 B4 hHeld
              go_wp2
              go_roundw
              case rel => exact ⟨L, k + 1, rfl, by omega, by go_num, G, GB⟩
              case measure => simp [intOf]; omega
            · have tb : (m3 != 0) = true := bne_t hok
              have G := Lib.hid (HT.out.bad HTT.out HUU.out (by rw [HNT.out, HNU.out]; omega) (fun g => hok (GOK.out.1 g)))
              rw [HNT.out, HNU.out] at G
              have wn : IntKind.i64.wrap (((nt + nu : Nat) : Int) - 1) = (nt : Int) + (nu : Int) - 1 := by rw [IntWalk.i64_in _ (by omega)]; omega
              clear hok HT GOK
              refine wp_region_noPanic ?_
              refine wp_region_held_drew (S := (fun w' => w'.ownsMap Tryz.prog 52 (plainElem Tryz.prog 37) mb 37 D)) (by kernel_rfl) ?_ (fun hHeld => ?_)
              · exact HMP.out _ (below_drew' (Below.refl _ _))
              refine wpAnyH_take (i := 0) (oi := _) (v := ?_) rfl (by kernel_rfl) (by kernel_rfl) (by kernel_rfl) (fun _ _ _ h => h) (Or.inl ⟨by kernel_rfl, ?_⟩) (by assumption) ?_
              rotate_left
              · (intro w hSw; (try dsimp only at hSw); go_simp; try (with_reducible rfl))
              try simp only [Act.put, List.setIfInBounds_toArray, List.set_cons_zero, List.set_cons_succ, List.getElem_toArray, List.getElem_cons_zero, List.getElem_cons_succ]
              refine wpAnyH_take (i := 1) (oi := _) (v := ?_) rfl (by kernel_rfl) (by kernel_rfl) (by kernel_rfl) (fun _ _ _ h => h) (Or.inl ⟨by kernel_rfl, ?_⟩) (by assumption) ?_
              rotate_left
              · (intro w hSw; (try dsimp only at hSw); go_simp; try (with_reducible rfl))
              try simp only [Act.put, List.setIfInBounds_toArray, List.set_cons_zero, List.set_cons_succ, List.getElem_toArray, List.getElem_cons_zero, List.getElem_cons_succ]
              refine wpAnyH_take (i := 2) (oi := _) (v := .bool true) rfl (by kernel_rfl) (by kernel_rfl) (by kernel_rfl) (fun _ _ _ h => h) (Or.inl ⟨by kernel_rfl, ?_⟩) (by assumption) ?_
              · (intro wz hSw; (try dsimp only at hSw); go_simp; try (with_reducible rfl))
              try simp only [Act.put, List.setIfInBounds_toArray, List.set_cons_zero, List.set_cons_succ, List.getElem_toArray, List.getElem_cons_zero, List.getElem_cons_succ]
              refine wpAnyH_take (i := 3) (oi := _) (v := ?_) rfl (by kernel_rfl) (by kernel_rfl) (by kernel_rfl) (fun _ _ _ h => h) (Or.inl ⟨by kernel_rfl, ?_⟩) (by assumption) ?_
              rotate_left
              · (intro w hSw; (try dsimp only at hSw); go_simp; try (with_reducible rfl))
              try simp only [Act.put, List.setIfInBounds_toArray, List.set_cons_zero, List.set_cons_succ, List.getElem_toArray, List.getElem_cons_zero, List.getElem_cons_succ]
              refine wpAnyH_take (i := 4) (oi := _) (v := ?_) rfl (by kernel_rfl) (by kernel_rfl) (by kernel_rfl) (fun _ _ _ h => h) (Or.inl ⟨by kernel_rfl, ?_⟩) (by assumption) ?_
              rotate_left
              · (intro w hSw; (try dsimp only at hSw); go_simp; try (with_reducible rfl))
              try simp only [Act.put, List.setIfInBounds_toArray, List.set_cons_zero, List.set_cons_succ, List.getElem_toArray, List.getElem_cons_zero, List.getElem_cons_succ]
              refine wpAnyH_take (i := 5) (oi := _) (v := ?_) rfl (by kernel_rfl) (by kernel_rfl) (by kernel_rfl) (fun _ _ _ h => h) (Or.inl ⟨by kernel_rfl, ?_⟩) (by assumption) ?_
              rotate_left
              · (intro w hSw; (try dsimp only at hSw); go_simp; try (with_reducible rfl))
              try simp only [Act.put, List.setIfInBounds_toArray, List.set_cons_zero, List.set_cons_succ, List.getElem_toArray, List.getElem_cons_zero, List.getElem_cons_succ]
              refine wpAnyH_take (i := 6) (oi := _) (v := ?_) rfl (by kernel_rfl) (by kernel_rfl) (by kernel_rfl) (fun _ _ _ h => h) (Or.inl ⟨by kernel_rfl, ?_⟩) (by assumption) ?_
              rotate_left
              · (intro w hSw; (try dsimp only at hSw); go_simp; try (with_reducible rfl))
              try simp only [Act.put, List.setIfInBounds_toArray, List.set_cons_zero, List.set_cons_succ, List.getElem_toArray, List.getElem_cons_zero, List.getElem_cons_succ]
              refine wpAnyH_take (i := 9) (oi := _) (v := ?_) rfl (by kernel_rfl) (by kernel_rfl) (by kernel_rfl) (fun _ _ _ h => h) (Or.inl ⟨by kernel_rfl, ?_⟩) (by assumption) ?_
              rotate_left
              · (intro w hSw; (try dsimp only at hSw); go_simp; try (with_reducible rfl))
              try simp only [Act.put, List.setIfInBounds_toArray, List.set_cons_zero, List.set_cons_succ, List.getElem_toArray, List.getElem_cons_zero, List.getElem_cons_succ]
              refine wpAnyH_take (i := 10) (oi := _) (v := ?_) rfl (by kernel_rfl) (by kernel_rfl) (by kernel_rfl) (fun _ _ _ h => h) (Or.inl ⟨by kernel_rfl, ?_⟩) (by assumption) ?_
              rotate_left
              · (intro w hSw; (try dsimp only at hSw); go_simp; try (with_reducible rfl))
              try simp only [Act.put, List.setIfInBounds_toArray, List.set_cons_zero, List.set_cons_succ, List.getElem_toArray, List.getElem_cons_zero, List.getElem_cons_succ]
              refine wpAnyH_take (i := 11) (oi := _) (v := ?_) rfl (by kernel_rfl) (by kernel_rfl) (by kernel_rfl) (fun _ _ _ h => h) (Or.inl ⟨by kernel_rfl, ?_⟩) (by assumption) ?_
              rotate_left
              · (intro w hSw; (try dsimp only at hSw); go_simp; try (with_reducible rfl))
              try simp only [Act.put, List.setIfInBounds_toArray, List.set_cons_zero, List.set_cons_succ, List.getElem_toArray, List.getElem_cons_zero, List.getElem_cons_succ]
              refine wpAnyH_take (i := 15) (oi := _) (v := ?_) rfl (by kernel_rfl) (by kernel_rfl) (by kernel_rfl) (fun _ _ _ h => h) (Or.inl ⟨by kernel_rfl, ?_⟩) (by assumption) ?_
              rotate_left
              · (intro w hSw; (try dsimp only at hSw); go_simp; try (with_reducible rfl))
              try simp only [Act.put, List.setIfInBounds_toArray, List.set_cons_zero, List.set_cons_succ, List.getElem_toArray, List.getElem_cons_zero, List.getElem_cons_succ]
              refine wpAnyH_take (i := 16) (oi := _) (v := ?_) rfl (by kernel_rfl) (by kernel_rfl) (by kernel_rfl) (fun _ _ _ h => h) (Or.inl ⟨by kernel_rfl, ?_⟩) (by assumption) ?_
              rotate_left
              · (intro w hSw; (try dsimp only at hSw); go_simp; try (with_reducible rfl))
              try simp only [Act.put, List.setIfInBounds_toArray, List.set_cons_zero, List.set_cons_succ, List.getElem_toArray, List.getElem_cons_zero, List.getElem_cons_succ]
              refine wpAnyH_take (i := 17) (oi := _) (v := ?_) rfl (by kernel_rfl) (by kernel_rfl) (by kernel_rfl) (fun _ _ _ h => h) (Or.inl ⟨by kernel_rfl, ?_⟩) (by assumption) ?_
              rotate_left
              · (intro w hSw; (try dsimp only at hSw); go_simp; try (with_reducible rfl))
              try simp only [Act.put, List.setIfInBounds_toArray, List.set_cons_zero, List.set_cons_succ, List.getElem_toArray, List.getElem_cons_zero, List.getElem_cons_succ]
              refine wpAnyH_take (i := 19) (oi := _) (v := ?_) rfl (by kernel_rfl) (by kernel_rfl) (by kernel_rfl) (fun _ _ _ h => h) (Or.inl ⟨by kernel_rfl, ?_⟩) (by assumption) ?_
              rotate_left
              · (intro w hSw; (try dsimp only at hSw); go_simp; try (with_reducible rfl))
              try simp only [Act.put, List.setIfInBounds_toArray, List.set_cons_zero, List.set_cons_succ, List.getElem_toArray, List.getElem_cons_zero, List.getElem_cons_succ]
              refine wpAnyH_take (i := 20) (oi := _) (v := ?_) rfl (by kernel_rfl) (by kernel_rfl) (by kernel_rfl) (fun _ _ _ h => h) (Or.inl ⟨by kernel_rfl, ?_⟩) (by assumption) ?_
              rotate_left
              · (intro w hSw; (try dsimp only at hSw); go_simp; try (with_reducible rfl))
              try simp only [Act.put, List.setIfInBounds_toArray, List.set_cons_zero, List.set_cons_succ, List.getElem_toArray, List.getElem_cons_zero, List.getElem_cons_succ]
              refine wpAnyH_take (i := 18) (oi := _) (v := .int .i64 vt) rfl (by kernel_rfl) (by kernel_rfl) (by kernel_rfl) (fun _ _ _ h => h) (Or.inl ⟨by kernel_rfl, ?_⟩) (by assumption) ?_
              · (intro wz hSw; (try dsimp only at hSw); obtain ⟨c0, hrun, hat, _⟩ := hSw.lookup_int (t := 75) (e := 37) (q := .i64) keyedV Tryz.underlying75 Tryz.underlying37 (zeroNum _) KT.out; (obtain rfl : c0 = vt := by (have h9 := hat.symm.trans AT.out; simpa using h9)); go_simp; try (with_reducible rfl))
              try simp only [Act.put, List.setIfInBounds_toArray, List.set_cons_zero, List.set_cons_succ, List.getElem_toArray, List.getElem_cons_zero, List.getElem_cons_succ]
              refine wpAnyH_take (i := 21) (oi := _) (v := .int .i64 vu) rfl (by kernel_rfl) (by kernel_rfl) (by kernel_rfl) (fun _ _ _ h => h) (Or.inl ⟨by kernel_rfl, ?_⟩) (by assumption) ?_
              · (intro wz hSw; (try dsimp only at hSw); obtain ⟨c0, hrun, hat, _⟩ := hSw.lookup_int (t := 75) (e := 37) (q := .i64) keyedV Tryz.underlying75 Tryz.underlying37 (zeroNum _) KU.out; (obtain rfl : c0 = vu := by (have h9 := hat.symm.trans AU.out; simpa using h9)); go_simp; try (with_reducible rfl))
              try simp only [Act.put, List.setIfInBounds_toArray, List.set_cons_zero, List.set_cons_succ, List.getElem_toArray, List.getElem_cons_zero, List.getElem_cons_succ]
              refine wpAnyH_ready (rs := [7]) (by kernel_rfl) (by simp) (AllReadyH.cons (o := _) rfl (fun K hK => ?_) AllReadyH.nil)
              go_simp
              (go_at_call 67; refine (CT1 _).mono ?_; rintro e w3 ⟨rfl, bel3⟩)
              have B3 : Below wr.heap.size wr w3 := ⟨bel3.os, bel3.tape, bel3.output, bel3.size, bel3.block⟩
              have hs3 := B3.size
              clear bel3 CT1
              go_wp2_with fail
              refine hK.out _ _ ?_ (fun hHeld => ?_)
              · exact HMP.out _ B3
              clear hK K
              try simp only [Act.put, List.setIfInBounds_toArray, List.set_cons_zero, List.set_cons_succ, List.getElem_toArray, List.getElem_cons_zero, List.getElem_cons_succ]
              refine wpAnyH_take (i := 8) (oi := _) (v := .int .i64 vp) rfl (by kernel_rfl) (by kernel_rfl) (by kernel_rfl) (fun _ _ _ h => h) (Or.inl ⟨by kernel_rfl, ?_⟩) (by assumption) ?_
              · (intro wz hSw; (try dsimp only at hSw); obtain ⟨c0, hrun, hat, _⟩ := hSw.lookup_int (t := 75) (e := 37) (q := .i64) keyedV Tryz.underlying75 Tryz.underlying37 (zeroNum _) KP.out; (obtain rfl : c0 = vp := by (have h9 := hat.symm.trans AP.out; simpa using h9)); go_simp; try (with_reducible rfl))
              try simp only [Act.put, List.setIfInBounds_toArray, List.set_cons_zero, List.set_cons_succ, List.getElem_toArray, List.getElem_cons_zero, List.getElem_cons_succ]
              refine wpAnyH_ready (rs := [12]) (by kernel_rfl) (by simp) (AllReadyH.cons (o := _) rfl (fun K hK => ?_) AllReadyH.nil)
              go_simp
              (go_at_call 67; refine (CT2 _).mono ?_; rintro e w4 ⟨rfl, bel4⟩)
              have B4 : Below wr.heap.size wr w4 := B3.trans (Below.mono ⟨bel4.os, bel4.tape, bel4.output, bel4.size, bel4.block⟩ hs3)
              clear bel4 CT2
              go_wp2_with fail
              refine hK.out _ _ ?_ (fun hHeld => ?_)
              · exact HMP.out _ B4
              clear hK K
              try simp only [Act.put, List.setIfInBounds_toArray, List.set_cons_zero, List.set_cons_succ, List.getElem_toArray, List.getElem_cons_zero, List.getElem_cons_succ]
              refine wpAnyH_take (i := 13) (oi := _) (v := .int .i64 vq) rfl (by kernel_rfl) (by kernel_rfl) (by kernel_rfl) (fun _ _ _ h => h) (Or.inl ⟨by kernel_rfl, ?_⟩) (by assumption) ?_
              · (intro wz hSw; (try dsimp only at hSw); obtain ⟨c0, hrun, hat, _⟩ := hSw.lookup_int (t := 75) (e := 37) (q := .i64) keyedV Tryz.underlying75 Tryz.underlying37 (zeroNum _) KQ.out; (obtain rfl : c0 = vq := by (have h9 := hat.symm.trans AQ.out; simpa using h9)); go_simp; try (with_reducible rfl))
              try simp only [Act.put, List.setIfInBounds_toArray, List.set_cons_zero, List.set_cons_succ, List.getElem_toArray, List.getElem_cons_zero, List.getElem_cons_succ]
              refine wpAnyH_ready (rs := [14]) (by kernel_rfl) (by simp) (AllReadyH.cons (o := _) rfl (fun K hK => ?_) AllReadyH.nil)
              go_simp
              (go_at_call 68; refine (CP _).mono ?_; rintro e w8 ⟨rfl, rfl⟩)
              go_wp2_with fail
              refine hK.out _ _ ?_ (fun hHeld => ?_)
              · exact HMP.out _ B4
              clear hK K
              try simp only [Act.put, List.setIfInBounds_toArray, List.set_cons_zero, List.set_cons_succ, List.getElem_toArray, List.getElem_cons_zero, List.getElem_cons_succ]
              refine wpAnyH_ready (rs := [22]) (by kernel_rfl) (by simp) (AllReadyH.cons (o := _) rfl (fun K hK => ?_) AllReadyH.nil)
              go_simp
              (go_at_call 43; refine (none_any vt vu _).mono ?_; rintro e w9 ⟨rfl, rfl⟩)
              go_wp2_with fail
              refine hK.out _ _ ?_ (fun hHeld => ?_)
              · exact HMP.out _ B4
              clear hK K
              try simp only [Act.put, List.setIfInBounds_toArray, List.set_cons_zero, List.set_cons_succ, List.getElem_toArray, List.getElem_cons_zero, List.getElem_cons_succ]
              refine wpAnyH_take (i := 23) (oi := _) (v := .bool true) rfl (by kernel_rfl) (by kernel_rfl) (by kernel_rfl) (fun _ _ _ h => h) (Or.inl ⟨by kernel_rfl, ?_⟩) (by assumption) ?_
              · (intro wz hSw; (try dsimp only at hSw); go_simp; try (with_reducible rfl))
              try simp only [Act.put, List.setIfInBounds_toArray, List.set_cons_zero, List.set_cons_succ, List.getElem_toArray, List.getElem_cons_zero, List.getElem_cons_succ]
              refine wpAnyH_take (i := 24) (oi := _) (v := ?_) rfl (by kernel_rfl) (by kernel_rfl) (by kernel_rfl) (fun _ _ _ h => h) (Or.inl ⟨by kernel_rfl, ?_⟩) (by assumption) ?_
              rotate_left
              · (intro w hSw; (try dsimp only at hSw); go_simp; try (with_reducible rfl))
              try simp only [Act.put, List.setIfInBounds_toArray, List.set_cons_zero, List.set_cons_succ, List.getElem_toArray, List.getElem_cons_zero, List.getElem_cons_succ]
              refine wpAnyH_done (by kernel_rfl) ?_ _
              refine NoPanic.normal ?_
              have GB : Hid (Below w2.heap.size w2 w4) := HW.out.trans (B4.mono hwz)
              clear B3 B4 hHeld
              go_wp2
              go_roundw
              case rel => exact ⟨(nt : Int) + (nu : Int) - 1, k + 1, by first | rfl | go_num | (simp only [Value.int.injEq, true_and]; omega), by omega, by go_num, G, GB⟩
              case measure => simp [intOf]; omega
          · have G := Lib.hid (HT.out.over HTT.out HUU.out (by rw [HNT.out, HNU.out]; omega))
            have GB : Hid (∀ d, Below w2.heap.size w2 (wr.drewN d)) := fun d => below_drewN HW.out d
            have hgt : L < (nt : Int) + (nu : Int) := by omega
            clear HT
            refine wp_region_noPanic ?_
            refine wp_region_held_drew (S := (fun w' => w'.ownsMap Tryz.prog 52 (plainElem Tryz.prog 37) mb 37 D)) (by kernel_rfl) ?_ (fun hHeld => ?_)
            · exact HMP.out _ (below_drew' (Below.refl _ _))
            refine wpAnyH_take (i := 0) (oi := _) (v := ?_) rfl (by kernel_rfl) (by kernel_rfl) (by kernel_rfl) (fun _ _ _ h => h) (Or.inl ⟨by kernel_rfl, ?_⟩) (by assumption) ?_
            rotate_left
            · (intro w hSw; (try dsimp only at hSw); go_simp; try (with_reducible rfl))
            try simp only [Act.put, List.setIfInBounds_toArray, List.set_cons_zero, List.set_cons_succ, List.getElem_toArray, List.getElem_cons_zero, List.getElem_cons_succ]
            refine wpAnyH_take (i := 1) (oi := _) (v := ?_) rfl (by kernel_rfl) (by kernel_rfl) (by kernel_rfl) (fun _ _ _ h => h) (Or.inl ⟨by kernel_rfl, ?_⟩) (by assumption) ?_
            rotate_left
            · (intro w hSw; (try dsimp only at hSw); go_simp; try (with_reducible rfl))
            try simp only [Act.put, List.setIfInBounds_toArray, List.set_cons_zero, List.set_cons_succ, List.getElem_toArray, List.getElem_cons_zero, List.getElem_cons_succ]
            refine wpAnyH_take (i := 2) (oi := _) (v := .bool false) rfl (by kernel_rfl) (by kernel_rfl) (by kernel_rfl) (fun _ _ _ h => h) (Or.inl ⟨by kernel_rfl, ?_⟩) (by assumption) ?_
            · (intro wz hSw; (try dsimp only at hSw); go_simp; try (with_reducible rfl))
            try simp only [Act.put, List.setIfInBounds_toArray, List.set_cons_zero, List.set_cons_succ, List.getElem_toArray, List.getElem_cons_zero, List.getElem_cons_succ]
            refine wpAnyH_take (i := 3) (oi := _) (v := ?_) rfl (by kernel_rfl) (by kernel_rfl) (by kernel_rfl) (fun _ _ _ h => h) (Or.inl ⟨by kernel_rfl, ?_⟩) (by assumption) ?_
            rotate_left
            · (intro w hSw; (try dsimp only at hSw); go_simp; try (with_reducible rfl))
            try simp only [Act.put, List.setIfInBounds_toArray, List.set_cons_zero, List.set_cons_succ, List.getElem_toArray, List.getElem_cons_zero, List.getElem_cons_succ]
            refine wpAnyH_skipN (by assumption) [(4, 39), (5, 40), (6, 41), (7, 42), (8, 43), (9, 44), (10, 45), (11, 46), (12, 47), (13, 48), (14, 49), (15, 50), (16, 51), (17, 52), (18, 53), (19, 54), (20, 55), (21, 56), (22, 57), (23, 58)] 1 _ _ (by kernel_rfl) ?_
            simp only [List.foldl, Act.put, List.setIfInBounds_toArray, List.set_cons_zero, List.set_cons_succ]
            refine wpAnyH_take (i := 24) (oi := _) (v := ?_) rfl (by kernel_rfl) (by kernel_rfl) (by kernel_rfl) (fun _ _ _ h => h) (Or.inl ⟨by kernel_rfl, ?_⟩) (by assumption) ?_
            rotate_left
            · (intro w hSw; (try dsimp only at hSw); go_simp; try (with_reducible rfl))
            try simp only [Act.put, List.setIfInBounds_toArray, List.set_cons_zero, List.set_cons_succ, List.getElem_toArray, List.getElem_cons_zero, List.getElem_cons_succ]
            refine wpAnyH_done (by kernel_rfl) ?_ _
            refine NoPanic.normal ?_
            clear HW hHeld
            go_wp2
            go_roundw
            case rel => exact ⟨L, k + 1, rfl, by omega, by go_num, G, by first | exact GB.out _ | exact GB.out 1⟩
            case measure => simp [intOf]; omega
        · obtain rfl : k = 37 := by omega
          have G := Lib.hid HT.out.leave
          clear HT
          go_wp2
          go_roundw
          case rel => exact ⟨L, i + 1, rfl, by omega, by go_num, G, HW⟩
          case measure => simp [intOf]; omega
    · obtain rfl : i = 37 := by omega
      have G : Hid (limOf xs = L) := IsLim.of HT.out.done
      have GB : Hid (Below w.heap.size w wr) := B2.out.trans (HW.out.mono B2.out.size)
      clear HT
      go_wp2
      go_ret
      exact ⟨ret_i64 G.out.symm, GB.out⟩
end Go.Proofs.YtnnihdkhblbdgaaGreat
/-
  What SymplecticTo and HamiltonianTo answer.
-/
namespace Go.Proofs.YtnnihdkhblbdgaaGreat
open Go.RowKit Fld
set_option linter.unusedVariables false
set_option linter.unusedSimpArgs false
set_option maxRecDepth 100000

theorem symToA_no {a : List Int} (h : isMp a = false) : symToA a = (0, 1) := if_neg (by rw [h]; simp)
theorem symToA_one {a : List Int} {x : Int} (h : isMp a = true) (hx : a[0]? = some x) (e : x = 1) : symToA a = (limOf a, 0) := by
  unfold symToA; rw [if_pos h, List.getD_eq_getElem?_getD, hx]; exact if_pos e
theorem symToA_not {a : List Int} {x : Int} (h : isMp a = true) (hx : a[0]? = some x) (e : x ≠ 1) : symToA a = (0, 5) := by
  unfold symToA; rw [if_pos h, List.getD_eq_getElem?_getD, hx]; exact if_neg e
set_option maxHeartbeats 1000000 in
theorem l07Code_c (A : Option Addr) (n c B : Nat) (a : List Int) (w : World) (hl : a.length = n) (hn : n ≤ 1048576) (h : Row w B A (ints a)) :
    Calls Tryz.prog 13 #[.slice A n c, .slice A n c] w fun e w' => e = .returned (.int .i64 (symToA a).2) ∧ w = w' := by
  have C0 := l07Is_any A n c B a w hl (by omega) h
  cases ha : isMp a
  · have G := Lib.hid (symToA_no ha)
    rw [ha] at C0
    clear hl
    go_enter Tryz.func13, Tryz.ntmps13
    go_wp2_with (go_at_call 27; refine C0.mono ?_; rintro e w' ⟨rfl, rfl⟩)
    go_ret
    exact ⟨ret_i64 (by rw [G.out]), rfl⟩
  · obtain ⟨x, b, o, hx, rfl, hc, p1, x0, x1⟩ := map_first ha hl h
    rw [ha] at C0
    by_cases hx1 : x = 1
    · have G := Lib.hid (symToA_one ha hx hx1)
      have t : (x != 1) = false := bne_f hx1
      clear hl hx hx1
      go_enter Tryz.func13, Tryz.ntmps13
      go_wp2_with (go_at_call 27; refine C0.mono ?_; rintro e w' ⟨rfl, rfl⟩)
      go_ret
      exact ⟨ret_i64 (by rw [G.out]), rfl⟩
    · have G := Lib.hid (symToA_not ha hx hx1)
      have t : (x != 1) = true := bne_t hx1
      clear hl hx hx1
      go_enter Tryz.func13, Tryz.ntmps13
      go_wp2_with (go_at_call 27; refine C0.mono ?_; rintro e w' ⟨rfl, rfl⟩)
      go_ret
      exact ⟨ret_i64 (by rw [G.out]), rfl⟩
theorem hamToA_no {a : List Int} (h : isMp a = false) : hamToA a = (0, 1) := if_neg (by rw [h]; simp)
theorem hamToA_one {a : List Int} {x : Int} (h : isMp a = true) (hx : a[0]? = some x) (e : x = 0) : hamToA a = (limOf a, 0) := by
  unfold hamToA; rw [if_pos h, List.getD_eq_getElem?_getD, hx]; exact if_pos e
theorem hamToA_not {a : List Int} {x : Int} (h : isMp a = true) (hx : a[0]? = some x) (e : x ≠ 0) : hamToA a = (0, 5) := by
  unfold hamToA; rw [if_pos h, List.getD_eq_getElem?_getD, hx]; exact if_neg e
set_option maxHeartbeats 1000000 in
theorem l08Code_c (A : Option Addr) (n c B : Nat) (a : List Int) (w : World) (hl : a.length = n) (hn : n ≤ 1048576) (h : Row w B A (ints a)) :
    Calls Tryz.prog 22 #[.slice A n c, .slice A n c] w fun e w' => e = .returned (.int .i64 (hamToA a).2) ∧ w = w' := by
  have C0 := l07Is_any A n c B a w hl (by omega) h
  cases ha : isMp a
  · have G := Lib.hid (hamToA_no ha)
    rw [ha] at C0
    clear hl
    go_enter Tryz.func22, Tryz.ntmps22
    go_wp2_with (go_at_call 27; refine C0.mono ?_; rintro e w' ⟨rfl, rfl⟩)
    go_ret
    exact ⟨ret_i64 (by rw [G.out]), rfl⟩
  · obtain ⟨x, b, o, hx, rfl, hc, p1, x0, x1⟩ := map_first ha hl h
    rw [ha] at C0
    by_cases hx1 : x = 0
    · have G := Lib.hid (hamToA_one ha hx hx1)
      have t : (x != 0) = false := bne_f hx1
      clear hl hx hx1
      go_enter Tryz.func22, Tryz.ntmps22
      go_wp2_with (go_at_call 27; refine C0.mono ?_; rintro e w' ⟨rfl, rfl⟩)
      go_ret
      exact ⟨ret_i64 (by rw [G.out]), rfl⟩
    · have G := Lib.hid (hamToA_not ha hx hx1)
      have t : (x != 0) = true := bne_t hx1
      clear hl hx hx1
      go_enter Tryz.func22, Tryz.ntmps22
      go_wp2_with (go_at_call 27; refine C0.mono ?_; rintro e w' ⟨rfl, rfl⟩)
      go_ret
      exact ⟨ret_i64 (by rw [G.out]), rfl⟩
set_option maxHeartbeats 1000000 in
theorem pHamiltonianTo_L (A : Option Addr) (n c B : Nat) (a : List Int) (w : World) (hl : a.length = n) (hn : n ≤ 1048576) (hB : B ≤ w.heap.size) (h : Row w B A (ints a)) (hcp : n ≤ c) :
    Calls Tryz.prog 24 #[.slice A n c] w (ResI (hamToA a) w) := by
  have C0 := isMap_any A n c B a w hl (by omega) h
  have C1 := isInfinitesimal_any A n c B a w hl (by omega) h
  cases ha : isMp a
  · have G := Lib.hid (hamToA_no ha)
    rw [ha] at C0
    clear hl C1
    go_enter Tryz.func24, Tryz.ntmps24
    go_wp2_with fail
    refine C0.mono ?_
    rintro e w' ⟨rfl, rfl⟩
    go_wp2
    go_ret2
    exact ResI.of' G.out (Below.refl _ _)
  · obtain ⟨x, b, o, hx, rfl, hc, p1, x0, x1⟩ := map_first ha hl h
    have hch := isInf_at ha hx
    rw [ha] at C0
    by_cases hx1 : x = 0
    · have G := Lib.hid (hamToA_one ha hx hx1)
      rw [hch, decide_eq_true hx1] at C1
      obtain ⟨e1, na⟩ := isMp_parts ha hl
      have HL0 := hl
      subst e1
      have HL := Lib.hid HL0
      have NA := Lib.hid na
      have HZ : Hid (a.getD 0 0 = 0) := by rw [Hid, List.getD_eq_getElem?_getD, hx]; exact hx1
      clear hl HL0 hx hx1 ha hch na
      go_enter Tryz.func24, Tryz.ntmps24
      go_wp2_with fail
      refine C0.mono ?_
      rintro e w' ⟨rfl, rfl⟩
      go_wp2_with fail
      refine C1.mono ?_
      rintro e w' ⟨rfl, rfl⟩
      go_wp2_with fail
      refine (exch_none _ c B a _ HL.out NA.out hcp HZ.out hB h).mono ?_
      rintro e w1 ⟨rfl, b1⟩
      have B1 := Lib.hid b1
      clear b1 hc
      go_wp2
      go_ret2
      exact ResI.of' G.out B1.out
    · have G := Lib.hid (hamToA_not ha hx hx1)
      rw [hch, decide_eq_false hx1] at C1
      clear hl hx hx1 hch
      go_enter Tryz.func24, Tryz.ntmps24
      go_wp2_with fail
      refine C0.mono ?_
      rintro e w' ⟨rfl, rfl⟩
      go_wp2_with fail
      refine C1.mono ?_
      rintro e w' ⟨rfl, rfl⟩
      go_wp2
      go_ret2
      exact ResI.of' G.out (Below.refl _ _)
end Go.Proofs.YtnnihdkhblbdgaaGreat
/-
  Maps as arrays of the program: blocks of 38 cells.
-/
namespace Go.Proofs.YtnnihdkhblbdgaaGreat
open Go.RowKit Fld
set_option linter.unusedVariables false
set_option linter.unusedSimpArgs false
set_option maxRecDepth 100000

theorem info_arrM : (Tryz.prog.info? 39).map (·.size) = some 38 := by kernel_rfl
/-- the cells of a map -/
def arrM (xs : List Int) : Array Value := (ints xs).toArray
theorem arrM_size {xs : List Int} (h : xs.length = 38) : (arrM xs).size = 38 := by simp [arrM, ints_length, h]
theorem arrM_cells (xs : List Int) : (arrM xs).all (·.oneCell') = true := by simp [arrM, ints, intsK, Array.all_eq_true, Value.oneCell']
/-- block g is a map -/
def ArrM (w : World) (g : Nat) (xs : List Int) : Prop := w.heap[g]? = some (.cells (arrM xs) 39 (0, 0))
theorem ArrM.cell {w : World} {g k : Nat} {xs : List Int} {x : Int} (h : ArrM w g xs) (hx : xs[k]? = some x) : w.cell? ⟨g, k, none⟩ = some (.int .i64 x) := by
  rw [cell_of_row w g k _ _ _ h]
  simp [arrM, ints_at hx]
theorem ArrM.free {w : World} {g : Nat} {xs : List Int} (h : ArrM w g xs) (k : Nat) : w.frozen? ⟨g, k, none⟩ = false := frozen_of_row w g k _ _ h
theorem ArrM.lt {w : World} {g : Nat} {xs : List Int} (h : ArrM w g xs) : g < w.heap.size := by
  rcases Nat.lt_or_ge g w.heap.size with h' | h'
  · exact h'
  · unfold ArrM at h; simp [Array.getElem?_eq_none h'] at h
theorem ArrM.store {w : World} {g k : Nat} {xs : List Int} (h : ArrM w g xs) (x : Int) : ArrM (w.setCell ⟨g, k, none⟩ (.int .i64 x)) g (xs.set k x) := by
  have := heap_setCell_same w g k _ _ (.int .i64 x) h
  unfold ArrM
  rw [this]
  simp [arrM, ints, intsK]
theorem ArrM.other {w : World} {g g' k : Nat} {xs : List Int} (h : ArrM w g xs) (hne : g ≠ g') (v : Value) : ArrM (w.setCell ⟨g', k, none⟩ v) g xs := by
  unfold ArrM
  rw [heap_setCell_other w ⟨g', k, none⟩ g v hne]; exact h
theorem ArrM.alloc {w : World} {g : Nat} {xs : List Int} (h : ArrM w g xs) (o : Obj) : ArrM (w.alloc o) g xs := by
  unfold ArrM
  rw [heap_alloc_old w o (ArrM.lt h)]; exact h
theorem ArrM.below {w w' : World} {g B : Nat} {xs : List Int} (h : ArrM w g xs) (hb : Below B w w') (hg : g < B) : ArrM w' g xs := by
  unfold ArrM
  rw [hb.block g hg]; exact h
theorem ArrM.drewN {w : World} {g : Nat} {xs : List Int} (h : ArrM w g xs) (m : Nat) : ArrM (w.drewN m) g xs := h
theorem ArrM.new (w : World) (xs : List Int) : ArrM (w.alloc (.cells (arrM xs) 39)) w.heap.size xs := heap_alloc_new w _
theorem ArrM.next {w : World} {g : Nat} (xs : List Int) (hg : w.heap.size = g) : ArrM (w.alloc (.cells (arrM xs) 39)) g xs := hg ▸ ArrM.new w xs
/-- a mixed list: the first k from us, the others from xs -/
theorem mixP_step {us xs : List Int} {k : Nat} {u : Int} (hk : k < xs.length) (hl : us.length = xs.length) (hu : us[k]? = some u) : (us.take k ++ xs.drop k).set k u = us.take (k + 1) ++ xs.drop (k + 1) := by
  have e1 : (us.take k).length = k := by simp; omega
  rw [List.set_append, if_neg (by omega), e1, Nat.sub_self, List.drop_eq_getElem_cons hk, List.set_cons_zero, List.take_add_one, hu]
  simp
theorem mixP_at {us xs : List Int} {k : Nat} {x : Int} (hl : us.length = xs.length) (hx : xs[k]? = some x) : (us.take k ++ xs.drop k)[k]? = some x := by
  have hk : k < xs.length := by
    rcases Nat.lt_or_ge k xs.length with g | g
    · exact g
    · rw [List.getElem?_eq_none g] at hx; cases hx
  have e1 : (us.take k).length = k := by simp; omega
  rw [List.getElem?_append_right (by omega), e1, Nat.sub_self, List.getElem?_drop, Nat.add_zero]; exact hx
theorem mixP_end {us xs : List Int} {n : Nat} (hl : us.length = n) (hx : xs.length = n) : us.take n ++ xs.drop n = us := by
  rw [List.take_of_length_le (by omega), List.drop_eq_nil_of_le (by omega), List.append_nil]

theorem arrM_two (w : World) (xs ys : List Int) : ArrM ((w.alloc (.cells (arrM xs) 39)).alloc (.cells (arrM ys) 39)) w.heap.size xs ∧ ArrM ((w.alloc (.cells (arrM xs) 39)).alloc (.cells (arrM ys) 39)) (w.heap.size + 1) ys ∧ Below w.heap.size w ((w.alloc (.cells (arrM xs) 39)).alloc (.cells (arrM ys) 39)) :=
  ⟨(ArrM.new w xs).alloc _, ArrM.next ys (by simp), ((Below.refl _ _).alloc (Nat.le_refl _) _).alloc (by simp) _⟩
theorem ArrM.row {w : World} {g : Nat} {xs : List Int} (h : ArrM w g xs) : Row w (g + 1) (some ⟨g, 0, none⟩) (ints xs) := fun k v hv => by
  refine ⟨g, 0, rfl, by omega, ?_⟩
  rw [Nat.zero_add, cell_of_row w g k _ _ _ h]
  simpa [arrM] using hv
theorem spliceM_of {xs : List Int} (hl : xs.length = 38) : splice (ints zero38) 0 (ints xs) = ints xs := by
  have e1 : splice (ints zero38) 0 (ints xs) = ints (xs ++ zero38.drop xs.length) := by
    unfold splice ints intsK; simp [List.map_drop]
  rw [e1, hl]
  show ints (xs ++ []) = _
  rw [List.append_nil]
theorem mixP_keep {us xs : List Int} {k : Nat} {x : Int} (hx : xs[k]? = some x) (hu : us[k]? = some x) : us.take k ++ xs.drop k = us.take (k + 1) ++ xs.drop (k + 1) := by
  have hlt : k < xs.length := by
    rcases Nat.lt_or_ge k xs.length with g | g
    · exact g
    · rw [List.getElem?_eq_none g] at hx; cases hx
  rw [List.getElem?_eq_getElem hlt] at hx
  injection hx with hx
  rw [List.take_add_one, hu, List.drop_eq_getElem_cons hlt, hx]; simp
theorem stillCM {P : Program} {f : FuncId} {args : Array Value} {w : World} {v : Value} (h : Calls P f args w fun e w' => e = .returned v ∧ w = w') : Calls P f args w fun e w' => e = .returned v ∧ w' = w :=
  h.mono fun _ _ ⟨he, hm⟩ => ⟨he, hm.symm⟩
/-- a cell of another block, past a store -/
theorem cell_other {w : World} {b g k : Nat} {o : Nat} {v x : Value} (h : w.cell? ⟨b, o, none⟩ = some x) (hne : b ≠ g) : (w.setCell ⟨g, k, none⟩ v).cell? ⟨b, o, none⟩ = some x :=
  (World.cell?_of_block (heap_setCell_other w ⟨g, k, none⟩ b v hne)).trans h
theorem zero_row {w : World} {lo : Nat} {T : TypeId} {v : Value} (h : w.ownsRow lo T 1 v 38 (madeCells (Value.int .i64 0).cells (38 * 1)).toList) : w.ownsRow lo T 1 v 38 (ints zero38) := by
  have e : (madeCells #[(.int .i64 0 : Value)] 38).toList = ints zero38 := by rw [toList_madeCells_one]; rfl
  exact e ▸ h
theorem info_numM : (Tryz.prog.info? 37).map (·.size) = some 1 := by kernel_rfl
set_option maxHeartbeats 1000000 in
theorem treeMapOf_any (A : Option Addr) (c B : Nat) (xs : List Int) (w : World) (hl : xs.length = 38) (ha : allNum xs = true) (hB : B ≤ w.heap.size) (h : Row w B A (ints xs)) :
    Calls Tryz.prog 20 #[.slice A 38 c] w fun e w' => e = .returned (.agg (arrM xs)) ∧ Below w.heap.size w w' := by
  have HL := Lib.hid hl
  have HA := Lib.hid ha
  clear hl ha
  go_enter Tryz.func20, Tryz.ntmps20
  go_wp2_with fail
  have F := Lib.hid (arrM_two w zero38 zero38)
  have HR : Hid (Row ((w.alloc (.cells (arrM zero38) 39)).alloc (.cells (arrM zero38) 39)) B A (ints xs)) := (h.alloc hB _).alloc (by simp; omega) _
  have HS := Lib.hid (spliceM_of (xs := xs) HL.out)
  obtain ⟨W0, hW0⟩ : ∃ W0 : World, W0 = (w.alloc (.cells (arrM zero38) 39)).alloc (.cells (arrM zero38) 39) := ⟨_, rfl⟩
  have HW0 : Hid (W0.heap.size = w.heap.size + 2) := by rw [hW0]; simp [Hid]
  change Code.wp _ _ _ _ ((w.alloc (.cells (arrM zero38) 39)).alloc (.cells (arrM zero38) 39))
  rw [← hW0] at F HR ⊢
  clear hW0 h
  go_region_held3 (fun w' => True) (first | trivial)
    (first
      | (go_at_call 34; refine (numbersOf_any _ 38 _ B xs _ HL.out (by omega) (by have := HW0.out; show B ≤ W0.heap.size; omega) (by exact HR.out)).mono ?_; rintro e w1 ⟨A1, c1, rfl, own1, bel1⟩)
      | (refine step_copy_splice (by rfl) (.tmp 4) (.tmp 6) 44 44 (by rfl) 37 Tryz.underlying44 info_numM (some ⟨w.heap.size + 1, 0, none⟩) A1 38 38 38 c1 (by rfl) (by rfl) (w.heap.size + 1) 0 (ints zero38) 39 (by exact F.out.2.1.below (show Below W0.heap.size W0 w1 from ⟨bel1.os, bel1.tape, bel1.output, bel1.size, bel1.block⟩) (by rw [HW0.out]; omega)) (ints xs) (by rw [ints_length, HL.out]; rfl) (fun h0 => ⟨rfl, (row_of_own own1).src h0⟩) (by rw [ints_length, ints_length, HL.out]; simp [zero38]) (ints_cells _) (w.heap.size + 1) W0 (by exact (show Below W0.heap.size W0 w1 from ⟨bel1.os, bel1.tape, bel1.output, bel1.size, bel1.block⟩).mono (by rw [HW0.out]; omega)) (Nat.le_refl _) ?_; intro w4 hg4 hb4))
  have G4 : Hid (ArrM w4 (w.heap.size + 1) xs) := by have := hg4.out; rw [HS.out] at this; exact this
  have G5 := Lib.hid (F.out.1.below hb4 (by omega))
  have G6 := Lib.hid (F.out.2.2.trans (hb4.mono (show w.heap.size ≤ w.heap.size + 1 by omega)))
  clear hg4 hb4
  go_wp2_with (first
    | (refine wpList_load_row rfl 39 (.tmp 3) rfl (w.heap.size + 1) rfl 39 (arrM xs) (0, 0) _ G4.out Tryz.underlying39 rfl (by rw [arrM_size HL.out]; exact info_arrM) ?_)
    | (refine wpList_store_row rfl 39 (.tmp 2) (.tmp 8) rfl w.heap.size (arrM xs) rfl rfl 39 (arrM zero38) G5.out (by rw [arrM_size HL.out]; exact info_arrM) (by rw [arrM_size HL.out]; rfl) (arrM_cells _) ?_))
  refine bodyPost_ret (v := .agg (arrM xs)) ?_ rfl ⟨rfl, below_setRow G6.out (Nat.le_refl _) _⟩
  exact results_cell_row rfl _ _ w.heap.size 39 _ (0, 0) _ rfl (setRow_heap _ _ _ _ _ _ G5.out) Tryz.underlying39 rfl (by rw [arrM_size HL.out]; exact info_arrM)
end Go.Proofs.YtnnihdkhblbdgaaGreat
