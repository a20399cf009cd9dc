/-
  Texts of this seat, joined: what several laws lean on.
-/
import Derived.Test.YtnnihdkhblbdgaaGreatUR1
import Derived.Deep.RegionHeld3
import Derived.Test.YtnnihdkhblbdgaaGreatTests
import Derived.Test.YtnnihdkhblbdgaaGreatCan
import Derived.Test.YtnnihdkhblbdgaaGreatCmpX
import Derived.Test.YtnnihdkhblbdgaaGreatTreeC8
import Derived.Test.YtnnihdkhblbdgaaGreatSlices
import Derived.Test.YtnnihdkhblbdgaaGreatRes1
import Derived.Test.YtnnihdkhblbdgaaGreatGrow
import Derived.Test.YtnnihdkhblbdgaaGreatNest
import Derived.Laws.Rows
import Derived.Laws.Tables
import Derived.Laws.CopyOwn
import Derived.Deep.RegionLaw
import Derived.StillTailTactics
import Derived.IntWalk
import Derived.Test.YtnnihdkhblbdgaaGreatTreeOf
import Derived.Test.YtnnihdkhblbdgaaGreatSrt
import Derived.Laws.AppendOwnNone
import Derived.Test.YtnnihdkhblbdgaaGreatBase
import Derived.Test.YtnnihdkhblbdgaaGreatParts
import Derived.Test.YtnnihdkhblbdgaaGreatTreeC
import Derived.Test.YtnnihdkhblbdgaaGreatLvl
import Derived.Test.YtnnihdkhblbdgaaGreatSCan
import Derived.Test.YtnnihdkhblbdgaaGreatNestc
import Derived.BigQuiet
/-
  Free conditions, the model's; what keeps a tree.
-/
namespace Go.Proofs.YtnnihdkhblbdgaaGreat
open Go.RowKit Fld
set_option linter.unusedVariables false
set_option linter.unusedSimpArgs false
set_option maxRecDepth 100000

theorem chk_treesC : ((List.range 8).all fun n => (Tr.treesL (n + 1)).all (fun t => decide (Tr.can t = t)) && decide (1 ≤ (Tr.treesL (n + 1)).length)) = true := by decide +kernel
theorem trees_canC {n : Nat} (h1 : 1 ≤ n) (h8 : n ≤ 8) : (∀ t ∈ Tr.treesL n, Tr.can t = t) ∧ 1 ≤ (Tr.treesL n).length := by
  obtain ⟨k, rfl⟩ : ∃ k, n = k + 1 := ⟨n - 1, by omega⟩
  have h := List.all_eq_true.1 chk_treesC k (by rw [List.mem_range]; omega)
  simp only [Bool.and_eq_true, List.all_eq_true, decide_eq_true_eq] at h
  exact ⟨h.1, by omega⟩
theorem txt_eqC {s t : List Int} (hs : Tr.isLv s = true) (ht : Tr.isLv t = true) (cs : Tr.can s = s) (ct : Tr.can t = t) : decide (Tr.txt s = Tr.txt t) = eqL s t := by
  have this : s = t ↔ Tr.txt s = Tr.txt t := ⟨fun e => by rw [e], fun e => by rw [← cs, ← ct, ← (lv_txt hs).1, ← (lv_txt ht).1, e]⟩
  unfold eqL
  by_cases e : s = t
  · rw [decide_eq_true e, decide_eq_true (this.1 e)]
  · rw [decide_eq_false e, decide_eq_false (fun q => e (this.2 q))]
theorem keepC_eq {t : List Int} (h : Tr.isLv t = true) (hc : Tr.can t = t) : (eqL (freeL t) t && !Tr.doubleL t (t.length - 1)) = keepC t := by
  obtain ⟨_, q1, q2, q3, q4⟩ := free_parts h
  rw [← txt_eqC q2 h q3 hc, q1, Tr.sup_eq h hc]
  have e : decide (minT (rootsT (Tr.txt t)) = Tr.txt t) = decide (Tr.txt t = minT (rootsT (Tr.txt t))) := by
    by_cases z : minT (rootsT (Tr.txt t)) = Tr.txt t
    · rw [decide_eq_true z, decide_eq_true z.symm]
    · rw [decide_eq_false z, decide_eq_false (fun q => z q.symm)]
  rw [e]; rfl
theorem Mat.selectC {w w' : World} {lo B n c q c' g : Nat} {A : Option Addr} {m : List (List Int)} {vs : List Value} {idx : List Nat} (h : OwnMat w lo w.heap.size (.slice A n c) n m vs) (hb : Below w.heap.size w w') (hi : ∀ k ∈ idx, k < m.length)
    (ho : w'.ownsRow B 22 1 (.slice (some ⟨g, 0, none⟩) q c') q (idx.map fun k => vs.getD k nilVC)) : Mat w' w'.heap.size (some ⟨g, 0, none⟩) (idx.map fun k => m.getD k []) := by
  intro k r hr
  rw [List.getElem?_map, Option.map_eq_some_iff] at hr
  obtain ⟨l, hl, rfl⟩ := hr
  have hlm := hi l (List.mem_of_getElem? hl)
  have e : m[l]? = some (m.getD l []) := by rw [List.getD_eq_getElem?_getD, List.getElem?_eq_getElem hlm]; rfl
  obtain ⟨A', c'', e1, o1⟩ := h.inner l _ e
  have e2 : (idx.map fun k => vs.getD k nilVC)[k]? = some (.slice A' (m.getD l []).length c'') := by
    rw [List.getElem?_map, hl, Option.map_some, List.getD_eq_getElem?_getD (l := vs), e1]; rfl
  obtain ⟨b, o, e3, hbl, hcl⟩ := row_of_own ho k _ e2
  obtain ⟨c1, c2⟩ := own_cap o1.1
  exact ⟨b, o, A', c'', e3, hbl, hcl, c1, c2, ((o1.below hb (Nat.le_refl _)).row).more hb.size⟩
def freeM (n : Nat) : List (List Int) := (Tr.treesL n).filter keepC
/-- the values C are lists m that lie from lo on and not in the block g -/
def InF (lo : Nat) (w : World) (g : Nat) (C : List Value) (m : List (List Int)) : Prop :=
  C.length = m.length ∧ ∀ (j : Nat) (r : List Int), m[j]? = some r → ∃ b o c, C[j]? = some (Value.slice (some ⟨b, o, none⟩) (List.length r) c) ∧ lo ≤ b ∧ b < w.heap.size ∧ b ≠ g ∧ r.length ≤ c ∧ c ≤ maxLen ∧ ∀ k x, r[k]? = some x → w.cell? ⟨b, o + k, none⟩ = some (.int .i64 x)
theorem InF.of {w w' : World} {lo n c g : Nat} {A : Option Addr} {m : List (List Int)} {vs : List Value} {idx : List Nat} (h : OwnMat w lo w.heap.size (.slice A n c) n m vs) (hb : Below w.heap.size w w') (hi : ∀ k ∈ idx, k < m.length) (hg : w.heap.size ≤ g) (hne : ∀ r ∈ m, 0 < r.length) :
    InF lo w' g (idx.map fun k => vs.getD k nilVC) (idx.map fun k => m.getD k []) := by
  refine ⟨by simp, fun j r hr => ?_⟩
  rw [List.getElem?_map, Option.map_eq_some_iff] at hr
  obtain ⟨l, hl, rfl⟩ := hr
  have hlm := hi l (List.mem_of_getElem? hl)
  have e : m[l]? = some (m.getD l []) := by rw [List.getD_eq_getElem?_getD, List.getElem?_eq_getElem hlm]; rfl
  obtain ⟨A', c'', e1, o1⟩ := h.inner l _ e
  have hpos := hne _ (List.mem_of_getElem? e)
  obtain ⟨q1, q2⟩ := own_cap o1.1
  obtain ⟨x0, hx0⟩ := at_lt hpos
  obtain ⟨b, o, rfl, hbl, _⟩ := o1.row 0 _ (ints_at hx0)
  have hlo := (o1.1.lt b rfl).1
  refine ⟨b, o, c'', ?_, hlo, Nat.lt_of_lt_of_le hbl hb.size, by omega, q1, q2, fun k x hx => ?_⟩
  · rw [List.getElem?_map, hl, Option.map_some, List.getD_eq_getElem?_getD (l := vs), e1]
    try rfl
  · obtain ⟨b', o', e', _, hc⟩ := o1.row k _ (ints_at hx)
    injection e' with e'
    injection e' with e2 e3
    subst e2 e3
    exact (hb.cell (p := ⟨b, o + k, none⟩) hbl).trans hc
/-- free conditions in memory of the call's own -/
def FreeRes (m : List (List Int)) (w : World) (e : Ending) (w' : World) : Prop :=
  ∃ (g c : Nat) (C : List Value), e = .returned (.slice (some ⟨g, 0, none⟩) m.length c) ∧ w'.ownsRow w.heap.size 22 1 (.slice (some ⟨g, 0, none⟩) m.length c) m.length C ∧ Mat w' w'.heap.size (some ⟨g, 0, none⟩) m ∧ InF w.heap.size w' g C m ∧ Below w.heap.size w w'
set_option maxHeartbeats 4000000 in
theorem l12Free_any (n : Nat) (w : World) (h1 : 1 ≤ n) (h8 : n ≤ 8) : Calls Tryz.prog 31 #[.int .i64 n] w (FreeRes (freeM n) w) := by
  obtain ⟨j0, hj, hy0, hy1, hy2⟩ := info_parts info_row
  obtain ⟨t1, t2⟩ := trees_all h1 h8
  obtain ⟨t4, t3⟩ := trees_canC h1 h8
  have C0 := fun w => l03Trees_any n w h1 h8
  have EM : Hid (freeM n = (Tr.treesL n).filter keepC) := rfl
  obtain ⟨m, hm⟩ : ∃ m, m = Tr.treesL n := ⟨_, rfl⟩
  simp only [← hm] at C0
  rw [← hm] at t1 t2 t3 t4 EM
  obtain ⟨nm, hnm⟩ : ∃ nm, nm = m.length := ⟨_, rfl⟩
  rw [← hnm] at t2 t3
  simp only [← hnm] at C0
  have HN := Lib.hid hnm
  have H1 := Lib.hid t1
  have H4 := Lib.hid t4
  clear hm hnm t1 t4
  go_enter Tryz.func31, Tryz.ntmps31
  go_wp2_with fail
  refine (C0 _).mono ?_
  rintro e w1 ⟨A1, c1, vs1, rfl, own1, bel1⟩
  have HO := Lib.hid own1
  have HB := Lib.hid bel1
  have HRV : Hid (Row w1 w1.heap.size A1 vs1) := row_of_own own1.outer.1
  have hcap := own_cap own1.outer.1
  clear own1 bel1 C0
  go_wp2_with fail
  go_loopw [4, 5] (fun v i wr => ∃ (j q g cap : Nat) (C : List Value), v = .slice (some ⟨g, 0, none⟩) q cap ∧ i = .int .i64 j ∧ j ≤ nm ∧ Hid (q = (idxToC keepC m j).length) ∧ Hid (wr.ownsRow w1.heap.size 22 1 (.slice (some ⟨g, 0, none⟩) q cap) q C) ∧ Hid (C = selVC keepC m vs1 j) ∧ Hid (Below w1.heap.size w1 wr)) (fun _ i _ => nm - (intOf i).toNat)
  case atStart => exact ⟨0, 0, _, 0, [], rfl, rfl, Nat.zero_le _, rfl, (Growing.start w1 22).1, rfl, (Growing.start w1 22).2⟩
  case round =>
    obtain ⟨j, q, g, cap, C, rfl, rfl, hjn, HQ, HOW, HC, HBW⟩ := hrel
    have hqj : q ≤ j := by rw [HQ.out]; exact idxTo_leC _ _ _
    have hszw := HBW.out.size
    by_cases hlt : j < nm
    · obtain ⟨t, ht⟩ := at_lt (show j < m.length by rw [← HN.out]; exact hlt)
      have hmem := List.mem_of_getElem? ht
      have hlv := (H1.out t hmem).1
      obtain ⟨a1, a8⟩ := lv_bd hlv
      obtain ⟨Ak, ck, e5, o5⟩ := HO.out.inner j t ht
      obtain ⟨b, o, e1, hb, hck⟩ := (Row.below HRV.out HBW.out (Nat.le_refl _)) j _ e5
      obtain ⟨hlc, hcm⟩ := own_cap o5.1
      have hrow := (o5.below HBW.out (Nat.le_refl _)).row
      obtain ⟨tn, htn⟩ : ∃ tn, tn = t.length := ⟨_, rfl⟩
      rw [← htn] at hck hlc a1 a8 e5
      subst e1
      have hbz : b < wr.heap.size := by omega
      have HCL : Hid (∀ w', Below wr.heap.size wr w' → w'.cell? ⟨b, o + j, none⟩ = some (.slice Ak tn ck)) := fun w' hw' => (hw'.cell (p := ⟨b, o + j, none⟩) hbz).trans hck
      have BW1 : Hid (Below wr.heap.size wr wr) := Below.refl _ _
      have C1 := fun w' (bw : Below wr.heap.size wr w') => l04Roots_any Ak tn ck w1.heap.size t w' htn.symm hlv hlc (Nat.le_trans hszw bw.size) (Row.below hrow bw hszw)
      have HRT : Hid (Row wr wr.heap.size Ak (ints t)) := hrow.more hszw
      obtain ⟨⟨x, p0⟩, _, _, _, p4⟩ := free_parts hlv
      rw [← htn] at p4
      have HPK := Lib.hid p0
      have HFL := Lib.hid p4
      have HTL := Lib.hid htn.symm
      have HKE := Lib.hid (keepC_eq hlv (H4.out t hmem))
      rw [← htn] at HKE
      have CD := fun w' (bw : Below wr.heap.size wr w') => l04Double_any Ak tn ck w1.heap.size t w' htn.symm hlv hlc (Nat.le_trans hszw bw.size) (Row.below hrow bw hszw)
      have HST := Lib.hid (idxTo_stepC (p := keepC) ht)
      have HEV : Hid (vs1[j]? = some (.slice Ak tn ck)) := e5
      obtain ⟨R, hR⟩ : ∃ R, R = rootsL t := ⟨_, rfl⟩
      rw [← hR] at HPK
      simp only [← hR] at C1
      have hR1 : 0 < R.length := by
        rcases Nat.lt_or_ge 0 R.length with q | q
        · exact q
        · have := HPK.out; rw [List.getElem?_eq_none q] at this; cases this
      obtain ⟨nr, hnr⟩ : ∃ nr, nr = R.length := ⟨_, rfl⟩
      simp only [← hnr] at C1
      rw [← hnr] at hR1
      obtain ⟨sm, hsm⟩ : ∃ sm, sm = eqL (freeL t) t := ⟨_, rfl⟩
      obtain ⟨db, hdb⟩ : ∃ db, db = Tr.doubleL t (tn - 1) := ⟨_, rfl⟩
      rw [← hsm, ← hdb] at HKE
      simp only [← hdb] at CD
      have HSM := Lib.hid hsm
      clear hdb hsm hR hnr htn ht hmem hlv hck hlc hcm hrow p0 p4 hb e5 o5
      cases sm
      · have hs : keepC t = false := by rw [← HKE.out]; rfl
        clear HKE CD
        go_wp2_with fail
        refine wp_region_noPanic ?_
        refine wp_region_held_drew (S := (fun w' => w'.cell? ⟨b, o + j, none⟩ = some (.slice Ak tn ck))) (by kernel_rfl) ?_ (fun hHeld => ?_)
        · exact HCL.out _ (below_drew' BW1.out)
        refine wpAnyH_take (i := 0) (oi := _) (v := ?_) rfl (by kernel_rfl) (by kernel_rfl) (by kernel_rfl) (fun _ _ _ h => h) (Or.inl ⟨by kernel_rfl, ?_⟩) (by assumption) ?_
        rotate_left
        · (intro w hSw; (try dsimp only at hSw); go_simp; try (with_reducible rfl))
        try simp only [Act.put, List.setIfInBounds_toArray, List.set_cons_zero, List.set_cons_succ, List.getElem_toArray, List.getElem_cons_zero, List.getElem_cons_succ]
        refine wpAnyH_take (i := 1) (oi := _) (v := ?_) rfl (by kernel_rfl) (by kernel_rfl) (by kernel_rfl) (fun _ _ _ h => h) (Or.inl ⟨by kernel_rfl, ?_⟩) (by assumption) ?_
        rotate_left
        · (intro w hSw; (try dsimp only at hSw); go_simp; try (with_reducible rfl))
        try simp only [Act.put, List.setIfInBounds_toArray, List.set_cons_zero, List.set_cons_succ, List.getElem_toArray, List.getElem_cons_zero, List.getElem_cons_succ]
        refine wpAnyH_take (i := 2) (oi := _) (v := ?_) rfl (by kernel_rfl) (by kernel_rfl) (by kernel_rfl) (fun _ _ _ h => h) (Or.inl ⟨by kernel_rfl, ?_⟩) (by assumption) ?_
        rotate_left
        · (intro w hSw; (try dsimp only at hSw); go_simp; try (with_reducible rfl))
        try simp only [Act.put, List.setIfInBounds_toArray, List.set_cons_zero, List.set_cons_succ, List.getElem_toArray, List.getElem_cons_zero, List.getElem_cons_succ]
        refine wpAnyH_take (i := 3) (oi := _) (v := ?_) rfl (by kernel_rfl) (by kernel_rfl) (by kernel_rfl) (fun _ _ _ h => h) (Or.inl ⟨by kernel_rfl, ?_⟩) (by assumption) ?_
        rotate_left
        · (intro w hSw; (try dsimp only at hSw); go_simp; try (with_reducible rfl))
        try simp only [Act.put, List.setIfInBounds_toArray, List.set_cons_zero, List.set_cons_succ, List.getElem_toArray, List.getElem_cons_zero, List.getElem_cons_succ]
        refine wpAnyH_take (i := 8) (oi := _) (v := ?_) rfl (by kernel_rfl) (by kernel_rfl) (by kernel_rfl) (fun _ _ _ h => h) (Or.inl ⟨by kernel_rfl, ?_⟩) (by assumption) ?_
        rotate_left
        · (intro w hSw; (try dsimp only at hSw); go_simp; try (with_reducible rfl))
        try simp only [Act.put, List.setIfInBounds_toArray, List.set_cons_zero, List.set_cons_succ, List.getElem_toArray, List.getElem_cons_zero, List.getElem_cons_succ]
        refine wpAnyH_take (i := 9) (oi := _) (v := ?_) rfl (by kernel_rfl) (by kernel_rfl) (by kernel_rfl) (fun _ _ _ h => h) (Or.inl ⟨by kernel_rfl, ?_⟩) (by assumption) ?_
        rotate_left
        · (intro w hSw; (try dsimp only at hSw); go_simp; try (with_reducible rfl))
        try simp only [Act.put, List.setIfInBounds_toArray, List.set_cons_zero, List.set_cons_succ, List.getElem_toArray, List.getElem_cons_zero, List.getElem_cons_succ]
        refine wpAnyH_take (i := 10) (oi := _) (v := ?_) rfl (by kernel_rfl) (by kernel_rfl) (by kernel_rfl) (fun _ _ _ h => h) (Or.inl ⟨by kernel_rfl, ?_⟩) (by assumption) ?_
        rotate_left
        · (intro w hSw; (try dsimp only at hSw); go_simp; try (with_reducible rfl))
        try simp only [Act.put, List.setIfInBounds_toArray, List.set_cons_zero, List.set_cons_succ, List.getElem_toArray, List.getElem_cons_zero, List.getElem_cons_succ]
        refine wpAnyH_take (i := 11) (oi := _) (v := ?_) rfl (by kernel_rfl) (by kernel_rfl) (by kernel_rfl) (fun _ _ _ h => h) (Or.inl ⟨by kernel_rfl, ?_⟩) (by assumption) ?_
        rotate_left
        · (intro w hSw; (try dsimp only at hSw); go_simp; try (with_reducible rfl))
        try simp only [Act.put, List.setIfInBounds_toArray, List.set_cons_zero, List.set_cons_succ, List.getElem_toArray, List.getElem_cons_zero, List.getElem_cons_succ]
        have BW2 := below_drew' BW1.out
        refine wpAnyH_ready (rs := [4]) (by kernel_rfl) (by simp) (AllReadyH.cons (o := _) rfl (fun K hK => ?_) AllReadyH.nil)
        go_simp
        (go_at_call 50; refine (C1 _ BW2).mono ?_; rintro e w3 ⟨As, cs, rfl, hcs, hcsm, HS, bel3⟩)
        obtain ⟨bs, os, Ks, ks, es, hbs, hcs0, _, _, hks, hrows⟩ := HS.at HPK.out
        cases es
        rw [Nat.zero_mul, Nat.add_zero] at hcs0
        simp only at hcs0 hrows
        rw [HFL.out] at hcs0
        have HRs := Lib.hid hrows.row
        have BW3 := BW2.trans (bel3.mono BW2.size)
        clear HS hrows hks bel3 C1
        go_wp2_with fail
        refine hK.out _ _ ?_ (fun hHeld => ?_)
        · exact HCL.out _ BW3
        clear hK K
        try simp only [Act.put, List.setIfInBounds_toArray, List.set_cons_zero, List.set_cons_succ, List.getElem_toArray, List.getElem_cons_zero, List.getElem_cons_succ]
        refine wpAnyH_take (i := 5) (oi := _) (v := ?_) rfl (by kernel_rfl) (by kernel_rfl) (by kernel_rfl) (fun _ _ _ h => h) (Or.inl ⟨by kernel_rfl, ?_⟩) (by assumption) ?_
        rotate_left
        · (intro w hSw; (try dsimp only at hSw); go_simp; try (with_reducible rfl))
        try simp only [Act.put, List.setIfInBounds_toArray, List.set_cons_zero, List.set_cons_succ, List.getElem_toArray, List.getElem_cons_zero, List.getElem_cons_succ]
        refine wpAnyH_take (i := 6) (oi := _) (v := ?_) rfl (by kernel_rfl) (by kernel_rfl) (by kernel_rfl) (fun _ _ _ h => h) (Or.inl ⟨by kernel_rfl, ?_⟩) (by assumption) ?_
        rotate_left
        · (intro w hSw; (try dsimp only at hSw); go_simp; try (with_reducible rfl))
        try simp only [Act.put, List.setIfInBounds_toArray, List.set_cons_zero, List.set_cons_succ, List.getElem_toArray, List.getElem_cons_zero, List.getElem_cons_succ]
        refine wpAnyH_ready (rs := [7]) (by kernel_rfl) (by simp) (AllReadyH.cons (o := _) rfl (fun K hK => ?_) AllReadyH.nil)
        go_simp
        refine hK.out _ _ ?_ (fun hHeld => ?_)
        · exact HCL.out _ BW3
        clear hK K
        try simp only [Act.put, List.setIfInBounds_toArray, List.set_cons_zero, List.set_cons_succ, List.getElem_toArray, List.getElem_cons_zero, List.getElem_cons_succ]
        refine wpAnyH_ready (rs := [12]) (by kernel_rfl) (by simp) (AllReadyH.cons (o := _) rfl (fun K hK => ?_) AllReadyH.nil)
        go_simp
        (go_at_call 32; refine (l01Same_any Ks Ak tn tn ks ck _ _ (freeL t) t w3 HFL.out HTL.out (by omega) (by omega) HRs.out (HRT.out.below BW3 (Nat.le_refl _))).mono ?_; rintro e w4 ⟨rfl, m4, rfl⟩)
        rw [← HSM.out]
        have BW4 : Hid (Below wr.heap.size wr (w3.drewN m4)) := below_drewN BW3 _
        go_wp2_with fail
        refine hK.out _ _ ?_ (fun hHeld => ?_)
        · exact HCL.out _ BW4.out
        clear hK K
        try simp only [Act.put, List.setIfInBounds_toArray, List.set_cons_zero, List.set_cons_succ, List.getElem_toArray, List.getElem_cons_zero, List.getElem_cons_succ]
        refine wpAnyH_take (i := 13) (oi := _) (v := ?_) rfl (by kernel_rfl) (by kernel_rfl) (by kernel_rfl) (fun _ _ _ h => h) (Or.inl ⟨by kernel_rfl, ?_⟩) (by assumption) ?_
        rotate_left
        · (intro w hSw; (try dsimp only at hSw); go_simp; try (with_reducible rfl))
        try simp only [Act.put, List.setIfInBounds_toArray, List.set_cons_zero, List.set_cons_succ, List.getElem_toArray, List.getElem_cons_zero, List.getElem_cons_succ]
        refine wpAnyH_skipN (by assumption) [(14, 29), (15, 30), (16, 31), (17, 32), (18, 33), (19, 34)] 1 _ _ (by kernel_rfl) ?_
        simp only [List.foldl, Act.put, List.setIfInBounds_toArray, List.set_cons_zero, List.set_cons_succ]
        refine wpAnyH_take (i := 20) (oi := _) (v := ?_) rfl (by kernel_rfl) (by kernel_rfl) (by kernel_rfl) (fun _ _ _ h => h) (Or.inl ⟨by kernel_rfl, ?_⟩) (by assumption) ?_
        rotate_left
        · (intro w hSw; (try dsimp only at hSw); go_simp; try (with_reducible rfl))
        try simp only [Act.put, List.setIfInBounds_toArray, List.set_cons_zero, List.set_cons_succ, List.getElem_toArray, List.getElem_cons_zero, List.getElem_cons_succ]
        refine wpAnyH_done (by kernel_rfl) ?_ _
        refine NoPanic.normal ?_
        have BW5 := BW4
        generalize w3.drewN m4 = W4 at BW5 ⊢
        have GB : Hid (Below w1.heap.size w1 W4) := HBW.out.trans (BW5.out.mono hszw)
        have HOW2 : Hid (W4.ownsRow w1.heap.size 22 1 (.slice (some ⟨g, 0, none⟩) q cap) q C) := ((OwnR.of HOW.out).below BW5.out (Nat.le_refl _)).1
        have hcell := HCL.out _ BW5.out
        have hszz := GB.out.size
        have hgl := (HOW2.out.lt g rfl).1
        clear HRs HRT HCL BW1 BW2 BW3 BW4 BW5 HBW HOW hHeld hcs0 hbs
        have HIX : Hid (idxToC keepC m (j + 1) = idxToC keepC m j) := by rw [Hid, HST.out, hs]; simp
        have HQ2 : Hid (q = (idxToC keepC m (j + 1)).length) := by rw [Hid, HIX.out]; exact HQ.out
        have HC2 : Hid (C = selVC keepC m vs1 (j + 1)) := by unfold selVC; rw [Hid, HIX.out]; exact HC.out
        clear hs hcell
        go_wp2
        go_roundw
        case rel => exact ⟨j + 1, q, g, cap, C, rfl, by go_num, by omega, HQ2, HOW2, HC2, GB⟩
        case measure => simp [intOf]; omega
      · cases db
        · have hs : keepC t = true := by rw [← HKE.out]; rfl
          clear HKE
          go_wp2_with fail
          refine wp_region_noPanic ?_
          refine wp_region_held_drew (S := (fun w' => w'.cell? ⟨b, o + j, none⟩ = some (.slice Ak tn ck))) (by kernel_rfl) ?_ (fun hHeld => ?_)
          · exact HCL.out _ (below_drew' BW1.out)
          refine wpAnyH_take (i := 0) (oi := _) (v := ?_) rfl (by kernel_rfl) (by kernel_rfl) (by kernel_rfl) (fun _ _ _ h => h) (Or.inl ⟨by kernel_rfl, ?_⟩) (by assumption) ?_
          rotate_left
          · (intro w hSw; (try dsimp only at hSw); go_simp; try (with_reducible rfl))
          try simp only [Act.put, List.setIfInBounds_toArray, List.set_cons_zero, List.set_cons_succ, List.getElem_toArray, List.getElem_cons_zero, List.getElem_cons_succ]
          refine wpAnyH_take (i := 1) (oi := _) (v := ?_) rfl (by kernel_rfl) (by kernel_rfl) (by kernel_rfl) (fun _ _ _ h => h) (Or.inl ⟨by kernel_rfl, ?_⟩) (by assumption) ?_
          rotate_left
          · (intro w hSw; (try dsimp only at hSw); go_simp; try (with_reducible rfl))
          try simp only [Act.put, List.setIfInBounds_toArray, List.set_cons_zero, List.set_cons_succ, List.getElem_toArray, List.getElem_cons_zero, List.getElem_cons_succ]
          refine wpAnyH_take (i := 2) (oi := _) (v := ?_) rfl (by kernel_rfl) (by kernel_rfl) (by kernel_rfl) (fun _ _ _ h => h) (Or.inl ⟨by kernel_rfl, ?_⟩) (by assumption) ?_
          rotate_left
          · (intro w hSw; (try dsimp only at hSw); go_simp; try (with_reducible rfl))
          try simp only [Act.put, List.setIfInBounds_toArray, List.set_cons_zero, List.set_cons_succ, List.getElem_toArray, List.getElem_cons_zero, List.getElem_cons_succ]
          refine wpAnyH_take (i := 3) (oi := _) (v := ?_) rfl (by kernel_rfl) (by kernel_rfl) (by kernel_rfl) (fun _ _ _ h => h) (Or.inl ⟨by kernel_rfl, ?_⟩) (by assumption) ?_
          rotate_left
          · (intro w hSw; (try dsimp only at hSw); go_simp; try (with_reducible rfl))
          try simp only [Act.put, List.setIfInBounds_toArray, List.set_cons_zero, List.set_cons_succ, List.getElem_toArray, List.getElem_cons_zero, List.getElem_cons_succ]
          refine wpAnyH_take (i := 8) (oi := _) (v := ?_) rfl (by kernel_rfl) (by kernel_rfl) (by kernel_rfl) (fun _ _ _ h => h) (Or.inl ⟨by kernel_rfl, ?_⟩) (by assumption) ?_
          rotate_left
          · (intro w hSw; (try dsimp only at hSw); go_simp; try (with_reducible rfl))
          try simp only [Act.put, List.setIfInBounds_toArray, List.set_cons_zero, List.set_cons_succ, List.getElem_toArray, List.getElem_cons_zero, List.getElem_cons_succ]
          refine wpAnyH_take (i := 9) (oi := _) (v := ?_) rfl (by kernel_rfl) (by kernel_rfl) (by kernel_rfl) (fun _ _ _ h => h) (Or.inl ⟨by kernel_rfl, ?_⟩) (by assumption) ?_
          rotate_left
          · (intro w hSw; (try dsimp only at hSw); go_simp; try (with_reducible rfl))
          try simp only [Act.put, List.setIfInBounds_toArray, List.set_cons_zero, List.set_cons_succ, List.getElem_toArray, List.getElem_cons_zero, List.getElem_cons_succ]
          refine wpAnyH_take (i := 10) (oi := _) (v := ?_) rfl (by kernel_rfl) (by kernel_rfl) (by kernel_rfl) (fun _ _ _ h => h) (Or.inl ⟨by kernel_rfl, ?_⟩) (by assumption) ?_
          rotate_left
          · (intro w hSw; (try dsimp only at hSw); go_simp; try (with_reducible rfl))
          try simp only [Act.put, List.setIfInBounds_toArray, List.set_cons_zero, List.set_cons_succ, List.getElem_toArray, List.getElem_cons_zero, List.getElem_cons_succ]
          refine wpAnyH_take (i := 11) (oi := _) (v := ?_) rfl (by kernel_rfl) (by kernel_rfl) (by kernel_rfl) (fun _ _ _ h => h) (Or.inl ⟨by kernel_rfl, ?_⟩) (by assumption) ?_
          rotate_left
          · (intro w hSw; (try dsimp only at hSw); go_simp; try (with_reducible rfl))
          try simp only [Act.put, List.setIfInBounds_toArray, List.set_cons_zero, List.set_cons_succ, List.getElem_toArray, List.getElem_cons_zero, List.getElem_cons_succ]
          have BW2 := below_drew' BW1.out
          refine wpAnyH_ready (rs := [4]) (by kernel_rfl) (by simp) (AllReadyH.cons (o := _) rfl (fun K hK => ?_) AllReadyH.nil)
          go_simp
          (go_at_call 50; refine (C1 _ BW2).mono ?_; rintro e w3 ⟨As, cs, rfl, hcs, hcsm, HS, bel3⟩)
          obtain ⟨bs, os, Ks, ks, es, hbs, hcs0, _, _, hks, hrows⟩ := HS.at HPK.out
          cases es
          rw [Nat.zero_mul, Nat.add_zero] at hcs0
          simp only at hcs0 hrows
          rw [HFL.out] at hcs0
          have HRs := Lib.hid hrows.row
          have BW3 := BW2.trans (bel3.mono BW2.size)
          clear HS hrows hks bel3 C1
          go_wp2_with fail
          refine hK.out _ _ ?_ (fun hHeld => ?_)
          · exact HCL.out _ BW3
          clear hK K
          try simp only [Act.put, List.setIfInBounds_toArray, List.set_cons_zero, List.set_cons_succ, List.getElem_toArray, List.getElem_cons_zero, List.getElem_cons_succ]
          refine wpAnyH_take (i := 5) (oi := _) (v := ?_) rfl (by kernel_rfl) (by kernel_rfl) (by kernel_rfl) (fun _ _ _ h => h) (Or.inl ⟨by kernel_rfl, ?_⟩) (by assumption) ?_
          rotate_left
          · (intro w hSw; (try dsimp only at hSw); go_simp; try (with_reducible rfl))
          try simp only [Act.put, List.setIfInBounds_toArray, List.set_cons_zero, List.set_cons_succ, List.getElem_toArray, List.getElem_cons_zero, List.getElem_cons_succ]
          refine wpAnyH_take (i := 6) (oi := _) (v := ?_) rfl (by kernel_rfl) (by kernel_rfl) (by kernel_rfl) (fun _ _ _ h => h) (Or.inl ⟨by kernel_rfl, ?_⟩) (by assumption) ?_
          rotate_left
          · (intro w hSw; (try dsimp only at hSw); go_simp; try (with_reducible rfl))
          try simp only [Act.put, List.setIfInBounds_toArray, List.set_cons_zero, List.set_cons_succ, List.getElem_toArray, List.getElem_cons_zero, List.getElem_cons_succ]
          refine wpAnyH_ready (rs := [7]) (by kernel_rfl) (by simp) (AllReadyH.cons (o := _) rfl (fun K hK => ?_) AllReadyH.nil)
          go_simp
          refine hK.out _ _ ?_ (fun hHeld => ?_)
          · exact HCL.out _ BW3
          clear hK K
          try simp only [Act.put, List.setIfInBounds_toArray, List.set_cons_zero, List.set_cons_succ, List.getElem_toArray, List.getElem_cons_zero, List.getElem_cons_succ]
          refine wpAnyH_ready (rs := [12]) (by kernel_rfl) (by simp) (AllReadyH.cons (o := _) rfl (fun K hK => ?_) AllReadyH.nil)
          go_simp
          (go_at_call 32; refine (l01Same_any Ks Ak tn tn ks ck _ _ (freeL t) t w3 HFL.out HTL.out (by omega) (by omega) HRs.out (HRT.out.below BW3 (Nat.le_refl _))).mono ?_; rintro e w4 ⟨rfl, m4, rfl⟩)
          rw [← HSM.out]
          have BW4 : Hid (Below wr.heap.size wr (w3.drewN m4)) := below_drewN BW3 _
          go_wp2_with fail
          refine hK.out _ _ ?_ (fun hHeld => ?_)
          · exact HCL.out _ BW4.out
          clear hK K
          try simp only [Act.put, List.setIfInBounds_toArray, List.set_cons_zero, List.set_cons_succ, List.getElem_toArray, List.getElem_cons_zero, List.getElem_cons_succ]
          refine wpAnyH_take (i := 13) (oi := _) (v := ?_) rfl (by kernel_rfl) (by kernel_rfl) (by kernel_rfl) (fun _ _ _ h => h) (Or.inl ⟨by kernel_rfl, ?_⟩) (by assumption) ?_
          rotate_left
          · (intro w hSw; (try dsimp only at hSw); go_simp; try (with_reducible rfl))
          try simp only [Act.put, List.setIfInBounds_toArray, List.set_cons_zero, List.set_cons_succ, List.getElem_toArray, List.getElem_cons_zero, List.getElem_cons_succ]
          refine wpAnyH_take (i := 14) (oi := _) (v := ?_) rfl (by kernel_rfl) (by kernel_rfl) (by kernel_rfl) (fun _ _ _ h => h) (Or.inl ⟨by kernel_rfl, ?_⟩) (by assumption) ?_
          rotate_left
          · (intro w hSw; (try dsimp only at hSw); go_simp; try (with_reducible rfl))
          try simp only [Act.put, List.setIfInBounds_toArray, List.set_cons_zero, List.set_cons_succ, List.getElem_toArray, List.getElem_cons_zero, List.getElem_cons_succ]
          refine wpAnyH_take (i := 15) (oi := _) (v := ?_) rfl (by kernel_rfl) (by kernel_rfl) (by kernel_rfl) (fun _ _ _ h => h) (Or.inl ⟨by kernel_rfl, ?_⟩) (by assumption) ?_
          rotate_left
          · (intro w hSw; (try dsimp only at hSw); go_simp; try (with_reducible rfl))
          try simp only [Act.put, List.setIfInBounds_toArray, List.set_cons_zero, List.set_cons_succ, List.getElem_toArray, List.getElem_cons_zero, List.getElem_cons_succ]
          refine wpAnyH_take (i := 16) (oi := _) (v := ?_) rfl (by kernel_rfl) (by kernel_rfl) (by kernel_rfl) (fun _ _ _ h => h) (Or.inl ⟨by kernel_rfl, ?_⟩) (by assumption) ?_
          rotate_left
          · (intro w hSw; (try dsimp only at hSw); go_simp; try (with_reducible rfl))
          try simp only [Act.put, List.setIfInBounds_toArray, List.set_cons_zero, List.set_cons_succ, List.getElem_toArray, List.getElem_cons_zero, List.getElem_cons_succ]
          refine wpAnyH_take (i := 17) (oi := _) (v := ?_) rfl (by kernel_rfl) (by kernel_rfl) (by kernel_rfl) (fun _ _ _ h => h) (Or.inl ⟨by kernel_rfl, ?_⟩) (by assumption) ?_
          rotate_left
          · (intro w hSw; (try dsimp only at hSw); go_simp; try (with_reducible rfl))
          try simp only [Act.put, List.setIfInBounds_toArray, List.set_cons_zero, List.set_cons_succ, List.getElem_toArray, List.getElem_cons_zero, List.getElem_cons_succ]
          refine wpAnyH_ready (rs := [18]) (by kernel_rfl) (by simp) (AllReadyH.cons (o := _) rfl (fun K hK => ?_) AllReadyH.nil)
          go_simp
          (go_at_call 51; refine (CD _ BW4.out).mono ?_; rintro e W4 ⟨rfl, bel5⟩)
          have BW5 : Hid (Below wr.heap.size wr W4) := BW4.out.trans (bel5.mono BW4.out.size)
          clear bel5
          go_wp2_with fail
          refine hK.out _ _ ?_ (fun hHeld => ?_)
          · exact HCL.out _ BW5.out
          clear hK K
          try simp only [Act.put, List.setIfInBounds_toArray, List.set_cons_zero, List.set_cons_succ, List.getElem_toArray, List.getElem_cons_zero, List.getElem_cons_succ]
          refine wpAnyH_take (i := 19) (oi := _) (v := ?_) rfl (by kernel_rfl) (by kernel_rfl) (by kernel_rfl) (fun _ _ _ h => h) (Or.inl ⟨by kernel_rfl, ?_⟩) (by assumption) ?_
          rotate_left
          · (intro w hSw; (try dsimp only at hSw); go_simp; try (with_reducible rfl))
          try simp only [Act.put, List.setIfInBounds_toArray, List.set_cons_zero, List.set_cons_succ, List.getElem_toArray, List.getElem_cons_zero, List.getElem_cons_succ]
          refine wpAnyH_take (i := 20) (oi := _) (v := ?_) rfl (by kernel_rfl) (by kernel_rfl) (by kernel_rfl) (fun _ _ _ h => h) (Or.inl ⟨by kernel_rfl, ?_⟩) (by assumption) ?_
          rotate_left
          · (intro w hSw; (try dsimp only at hSw); go_simp; try (with_reducible rfl))
          try simp only [Act.put, List.setIfInBounds_toArray, List.set_cons_zero, List.set_cons_succ, List.getElem_toArray, List.getElem_cons_zero, List.getElem_cons_succ]
          refine wpAnyH_done (by kernel_rfl) ?_ _
          refine NoPanic.normal ?_
          have GB : Hid (Below w1.heap.size w1 W4) := HBW.out.trans (BW5.out.mono hszw)
          have HOW2 : Hid (W4.ownsRow w1.heap.size 22 1 (.slice (some ⟨g, 0, none⟩) q cap) q C) := ((OwnR.of HOW.out).below BW5.out (Nat.le_refl _)).1
          have hcell := HCL.out _ BW5.out
          have hszz := GB.out.size
          have hgl := (HOW2.out.lt g rfl).1
          clear HRs HRT HCL BW1 BW2 BW3 BW4 BW5 HBW HOW hHeld hcs0 hbs
          have HIX : Hid (idxToC keepC m (j + 1) = idxToC keepC m j ++ [j]) := by rw [Hid, HST.out, hs]; simp
          have HQ2 : Hid (q + 1 = (idxToC keepC m (j + 1)).length) := by rw [Hid, HIX.out, List.length_append, ← HQ.out]; rfl
          have HC2 : Hid (C ++ [.slice Ak tn ck] = selVC keepC m vs1 (j + 1)) := by
            unfold selVC
            rw [Hid, HIX.out, List.map_append, HC.out, List.map_singleton, List.getD_eq_getElem?_getD, HEV.out]; rfl
          clear hs
          go_wp2_with (at_builtin; refine wpList_append_lies _ rfl (.tmp 36) (.tmp 41) 32 rfl w1.heap.size 22 j0 _ 1 24 Tryz.underlying32 hj hy0 hy1 hy2 rfl (by omega) (.slice (some ⟨g, 0, none⟩) q cap) q C rfl (HOW2.out.alloc _) ⟨W4.heap.size, 0, none⟩ 1 1 [.slice Ak tn ck] rfl rfl (World.news_of_block (cs := #[.slice Ak tn ck]) (heap_alloc_new _ _)) (by simp [Value.oneCell']) (by omega) (by simp only [maxLen]; omega) (by omega) (by simp; omega) (W4.heap.size + 1) (by simp) ?_; intro g5 cap5 w5 hown5 hgrow5 hat5 hlt5)
          have GB5 : Hid (Below w1.heap.size w1 w5) := (GB.out.alloc hszz _).grown hgrow5 (by simp; omega) (fun k hk => by cases hk; exact hgl)
          have HOW5 := Lib.hid hown5
          clear hown5 hgrow5 hat5
          go_wp2
          go_roundw
          case rel => exact ⟨j + 1, q + 1, g5, cap5, _, rfl, by go_num, by omega, HQ2, HOW5, HC2, GB5⟩
          case measure => simp [intOf]; omega
        · have hs : keepC t = false := by rw [← HKE.out]; rfl
          clear HKE
          go_wp2_with fail
          refine wp_region_noPanic ?_
          refine wp_region_held_drew (S := (fun w' => w'.cell? ⟨b, o + j, none⟩ = some (.slice Ak tn ck))) (by kernel_rfl) ?_ (fun hHeld => ?_)
          · exact HCL.out _ (below_drew' BW1.out)
          refine wpAnyH_take (i := 0) (oi := _) (v := ?_) rfl (by kernel_rfl) (by kernel_rfl) (by kernel_rfl) (fun _ _ _ h => h) (Or.inl ⟨by kernel_rfl, ?_⟩) (by assumption) ?_
          rotate_left
          · (intro w hSw; (try dsimp only at hSw); go_simp; try (with_reducible rfl))
          try simp only [Act.put, List.setIfInBounds_toArray, List.set_cons_zero, List.set_cons_succ, List.getElem_toArray, List.getElem_cons_zero, List.getElem_cons_succ]
          refine wpAnyH_take (i := 1) (oi := _) (v := ?_) rfl (by kernel_rfl) (by kernel_rfl) (by kernel_rfl) (fun _ _ _ h => h) (Or.inl ⟨by kernel_rfl, ?_⟩) (by assumption) ?_
          rotate_left
          · (intro w hSw; (try dsimp only at hSw); go_simp; try (with_reducible rfl))
          try simp only [Act.put, List.setIfInBounds_toArray, List.set_cons_zero, List.set_cons_succ, List.getElem_toArray, List.getElem_cons_zero, List.getElem_cons_succ]
          refine wpAnyH_take (i := 2) (oi := _) (v := ?_) rfl (by kernel_rfl) (by kernel_rfl) (by kernel_rfl) (fun _ _ _ h => h) (Or.inl ⟨by kernel_rfl, ?_⟩) (by assumption) ?_
          rotate_left
          · (intro w hSw; (try dsimp only at hSw); go_simp; try (with_reducible rfl))
          try simp only [Act.put, List.setIfInBounds_toArray, List.set_cons_zero, List.set_cons_succ, List.getElem_toArray, List.getElem_cons_zero, List.getElem_cons_succ]
          refine wpAnyH_take (i := 3) (oi := _) (v := ?_) rfl (by kernel_rfl) (by kernel_rfl) (by kernel_rfl) (fun _ _ _ h => h) (Or.inl ⟨by kernel_rfl, ?_⟩) (by assumption) ?_
          rotate_left
          · (intro w hSw; (try dsimp only at hSw); go_simp; try (with_reducible rfl))
          try simp only [Act.put, List.setIfInBounds_toArray, List.set_cons_zero, List.set_cons_succ, List.getElem_toArray, List.getElem_cons_zero, List.getElem_cons_succ]
          refine wpAnyH_take (i := 8) (oi := _) (v := ?_) rfl (by kernel_rfl) (by kernel_rfl) (by kernel_rfl) (fun _ _ _ h => h) (Or.inl ⟨by kernel_rfl, ?_⟩) (by assumption) ?_
          rotate_left
          · (intro w hSw; (try dsimp only at hSw); go_simp; try (with_reducible rfl))
          try simp only [Act.put, List.setIfInBounds_toArray, List.set_cons_zero, List.set_cons_succ, List.getElem_toArray, List.getElem_cons_zero, List.getElem_cons_succ]
          refine wpAnyH_take (i := 9) (oi := _) (v := ?_) rfl (by kernel_rfl) (by kernel_rfl) (by kernel_rfl) (fun _ _ _ h => h) (Or.inl ⟨by kernel_rfl, ?_⟩) (by assumption) ?_
          rotate_left
          · (intro w hSw; (try dsimp only at hSw); go_simp; try (with_reducible rfl))
          try simp only [Act.put, List.setIfInBounds_toArray, List.set_cons_zero, List.set_cons_succ, List.getElem_toArray, List.getElem_cons_zero, List.getElem_cons_succ]
          refine wpAnyH_take (i := 10) (oi := _) (v := ?_) rfl (by kernel_rfl) (by kernel_rfl) (by kernel_rfl) (fun _ _ _ h => h) (Or.inl ⟨by kernel_rfl, ?_⟩) (by assumption) ?_
          rotate_left
          · (intro w hSw; (try dsimp only at hSw); go_simp; try (with_reducible rfl))
          try simp only [Act.put, List.setIfInBounds_toArray, List.set_cons_zero, List.set_cons_succ, List.getElem_toArray, List.getElem_cons_zero, List.getElem_cons_succ]
          refine wpAnyH_take (i := 11) (oi := _) (v := ?_) rfl (by kernel_rfl) (by kernel_rfl) (by kernel_rfl) (fun _ _ _ h => h) (Or.inl ⟨by kernel_rfl, ?_⟩) (by assumption) ?_
          rotate_left
          · (intro w hSw; (try dsimp only at hSw); go_simp; try (with_reducible rfl))
          try simp only [Act.put, List.setIfInBounds_toArray, List.set_cons_zero, List.set_cons_succ, List.getElem_toArray, List.getElem_cons_zero, List.getElem_cons_succ]
          have BW2 := below_drew' BW1.out
          refine wpAnyH_ready (rs := [4]) (by kernel_rfl) (by simp) (AllReadyH.cons (o := _) rfl (fun K hK => ?_) AllReadyH.nil)
          go_simp
          (go_at_call 50; refine (C1 _ BW2).mono ?_; rintro e w3 ⟨As, cs, rfl, hcs, hcsm, HS, bel3⟩)
          obtain ⟨bs, os, Ks, ks, es, hbs, hcs0, _, _, hks, hrows⟩ := HS.at HPK.out
          cases es
          rw [Nat.zero_mul, Nat.add_zero] at hcs0
          simp only at hcs0 hrows
          rw [HFL.out] at hcs0
          have HRs := Lib.hid hrows.row
          have BW3 := BW2.trans (bel3.mono BW2.size)
          clear HS hrows hks bel3 C1
          go_wp2_with fail
          refine hK.out _ _ ?_ (fun hHeld => ?_)
          · exact HCL.out _ BW3
          clear hK K
          try simp only [Act.put, List.setIfInBounds_toArray, List.set_cons_zero, List.set_cons_succ, List.getElem_toArray, List.getElem_cons_zero, List.getElem_cons_succ]
          refine wpAnyH_take (i := 5) (oi := _) (v := ?_) rfl (by kernel_rfl) (by kernel_rfl) (by kernel_rfl) (fun _ _ _ h => h) (Or.inl ⟨by kernel_rfl, ?_⟩) (by assumption) ?_
          rotate_left
          · (intro w hSw; (try dsimp only at hSw); go_simp; try (with_reducible rfl))
          try simp only [Act.put, List.setIfInBounds_toArray, List.set_cons_zero, List.set_cons_succ, List.getElem_toArray, List.getElem_cons_zero, List.getElem_cons_succ]
          refine wpAnyH_take (i := 6) (oi := _) (v := ?_) rfl (by kernel_rfl) (by kernel_rfl) (by kernel_rfl) (fun _ _ _ h => h) (Or.inl ⟨by kernel_rfl, ?_⟩) (by assumption) ?_
          rotate_left
          · (intro w hSw; (try dsimp only at hSw); go_simp; try (with_reducible rfl))
          try simp only [Act.put, List.setIfInBounds_toArray, List.set_cons_zero, List.set_cons_succ, List.getElem_toArray, List.getElem_cons_zero, List.getElem_cons_succ]
          refine wpAnyH_ready (rs := [7]) (by kernel_rfl) (by simp) (AllReadyH.cons (o := _) rfl (fun K hK => ?_) AllReadyH.nil)
          go_simp
          refine hK.out _ _ ?_ (fun hHeld => ?_)
          · exact HCL.out _ BW3
          clear hK K
          try simp only [Act.put, List.setIfInBounds_toArray, List.set_cons_zero, List.set_cons_succ, List.getElem_toArray, List.getElem_cons_zero, List.getElem_cons_succ]
          refine wpAnyH_ready (rs := [12]) (by kernel_rfl) (by simp) (AllReadyH.cons (o := _) rfl (fun K hK => ?_) AllReadyH.nil)
          go_simp
          (go_at_call 32; refine (l01Same_any Ks Ak tn tn ks ck _ _ (freeL t) t w3 HFL.out HTL.out (by omega) (by omega) HRs.out (HRT.out.below BW3 (Nat.le_refl _))).mono ?_; rintro e w4 ⟨rfl, m4, rfl⟩)
          rw [← HSM.out]
          have BW4 : Hid (Below wr.heap.size wr (w3.drewN m4)) := below_drewN BW3 _
          go_wp2_with fail
          refine hK.out _ _ ?_ (fun hHeld => ?_)
          · exact HCL.out _ BW4.out
          clear hK K
          try simp only [Act.put, List.setIfInBounds_toArray, List.set_cons_zero, List.set_cons_succ, List.getElem_toArray, List.getElem_cons_zero, List.getElem_cons_succ]
          refine wpAnyH_take (i := 13) (oi := _) (v := ?_) rfl (by kernel_rfl) (by kernel_rfl) (by kernel_rfl) (fun _ _ _ h => h) (Or.inl ⟨by kernel_rfl, ?_⟩) (by assumption) ?_
          rotate_left
          · (intro w hSw; (try dsimp only at hSw); go_simp; try (with_reducible rfl))
          try simp only [Act.put, List.setIfInBounds_toArray, List.set_cons_zero, List.set_cons_succ, List.getElem_toArray, List.getElem_cons_zero, List.getElem_cons_succ]
          refine wpAnyH_take (i := 14) (oi := _) (v := ?_) rfl (by kernel_rfl) (by kernel_rfl) (by kernel_rfl) (fun _ _ _ h => h) (Or.inl ⟨by kernel_rfl, ?_⟩) (by assumption) ?_
          rotate_left
          · (intro w hSw; (try dsimp only at hSw); go_simp; try (with_reducible rfl))
          try simp only [Act.put, List.setIfInBounds_toArray, List.set_cons_zero, List.set_cons_succ, List.getElem_toArray, List.getElem_cons_zero, List.getElem_cons_succ]
          refine wpAnyH_take (i := 15) (oi := _) (v := ?_) rfl (by kernel_rfl) (by kernel_rfl) (by kernel_rfl) (fun _ _ _ h => h) (Or.inl ⟨by kernel_rfl, ?_⟩) (by assumption) ?_
          rotate_left
          · (intro w hSw; (try dsimp only at hSw); go_simp; try (with_reducible rfl))
          try simp only [Act.put, List.setIfInBounds_toArray, List.set_cons_zero, List.set_cons_succ, List.getElem_toArray, List.getElem_cons_zero, List.getElem_cons_succ]
          refine wpAnyH_take (i := 16) (oi := _) (v := ?_) rfl (by kernel_rfl) (by kernel_rfl) (by kernel_rfl) (fun _ _ _ h => h) (Or.inl ⟨by kernel_rfl, ?_⟩) (by assumption) ?_
          rotate_left
          · (intro w hSw; (try dsimp only at hSw); go_simp; try (with_reducible rfl))
          try simp only [Act.put, List.setIfInBounds_toArray, List.set_cons_zero, List.set_cons_succ, List.getElem_toArray, List.getElem_cons_zero, List.getElem_cons_succ]
          refine wpAnyH_take (i := 17) (oi := _) (v := ?_) rfl (by kernel_rfl) (by kernel_rfl) (by kernel_rfl) (fun _ _ _ h => h) (Or.inl ⟨by kernel_rfl, ?_⟩) (by assumption) ?_
          rotate_left
          · (intro w hSw; (try dsimp only at hSw); go_simp; try (with_reducible rfl))
          try simp only [Act.put, List.setIfInBounds_toArray, List.set_cons_zero, List.set_cons_succ, List.getElem_toArray, List.getElem_cons_zero, List.getElem_cons_succ]
          refine wpAnyH_ready (rs := [18]) (by kernel_rfl) (by simp) (AllReadyH.cons (o := _) rfl (fun K hK => ?_) AllReadyH.nil)
          go_simp
          (go_at_call 51; refine (CD _ BW4.out).mono ?_; rintro e W4 ⟨rfl, bel5⟩)
          have BW5 : Hid (Below wr.heap.size wr W4) := BW4.out.trans (bel5.mono BW4.out.size)
          clear bel5
          go_wp2_with fail
          refine hK.out _ _ ?_ (fun hHeld => ?_)
          · exact HCL.out _ BW5.out
          clear hK K
          try simp only [Act.put, List.setIfInBounds_toArray, List.set_cons_zero, List.set_cons_succ, List.getElem_toArray, List.getElem_cons_zero, List.getElem_cons_succ]
          refine wpAnyH_take (i := 19) (oi := _) (v := ?_) rfl (by kernel_rfl) (by kernel_rfl) (by kernel_rfl) (fun _ _ _ h => h) (Or.inl ⟨by kernel_rfl, ?_⟩) (by assumption) ?_
          rotate_left
          · (intro w hSw; (try dsimp only at hSw); go_simp; try (with_reducible rfl))
          try simp only [Act.put, List.setIfInBounds_toArray, List.set_cons_zero, List.set_cons_succ, List.getElem_toArray, List.getElem_cons_zero, List.getElem_cons_succ]
          refine wpAnyH_take (i := 20) (oi := _) (v := ?_) rfl (by kernel_rfl) (by kernel_rfl) (by kernel_rfl) (fun _ _ _ h => h) (Or.inl ⟨by kernel_rfl, ?_⟩) (by assumption) ?_
          rotate_left
          · (intro w hSw; (try dsimp only at hSw); go_simp; try (with_reducible rfl))
          try simp only [Act.put, List.setIfInBounds_toArray, List.set_cons_zero, List.set_cons_succ, List.getElem_toArray, List.getElem_cons_zero, List.getElem_cons_succ]
          refine wpAnyH_done (by kernel_rfl) ?_ _
          refine NoPanic.normal ?_
          have GB : Hid (Below w1.heap.size w1 W4) := HBW.out.trans (BW5.out.mono hszw)
          have HOW2 : Hid (W4.ownsRow w1.heap.size 22 1 (.slice (some ⟨g, 0, none⟩) q cap) q C) := ((OwnR.of HOW.out).below BW5.out (Nat.le_refl _)).1
          have hcell := HCL.out _ BW5.out
          have hszz := GB.out.size
          have hgl := (HOW2.out.lt g rfl).1
          clear HRs HRT HCL BW1 BW2 BW3 BW4 BW5 HBW HOW hHeld hcs0 hbs
          have HIX : Hid (idxToC keepC m (j + 1) = idxToC keepC m j) := by rw [Hid, HST.out, hs]; simp
          have HQ2 : Hid (q = (idxToC keepC m (j + 1)).length) := by rw [Hid, HIX.out]; exact HQ.out
          have HC2 : Hid (C = selVC keepC m vs1 (j + 1)) := by unfold selVC; rw [Hid, HIX.out]; exact HC.out
          clear hs hcell
          go_wp2
          go_roundw
          case rel => exact ⟨j + 1, q, g, cap, C, rfl, by go_num, by omega, HQ2, HOW2, HC2, GB⟩
          case measure => simp [intOf]; omega
    · have hj9 : j = m.length := by rw [← HN.out]; omega
      have e8 : (idxToC keepC m j).map (fun k => m.getD k []) = m.filter keepC := by rw [hj9]; exact idxTo_allC m
      have hq9 : (m.filter keepC).length = q := by rw [← e8, List.length_map, HQ.out]
      have hrow9 := HOW.out
      rw [HC.out] at hrow9
      have hM : Mat wr wr.heap.size (some ⟨g, 0, none⟩) (m.filter keepC) := by
        have h9 := Mat.selectC HO.out HBW.out (fun k hk => Nat.lt_of_lt_of_le (idxTo_ltC hk) (by rw [hj9]; exact Nat.le_refl _)) hrow9
        rw [e8] at h9
        exact h9
      have hgb := (HOW.out.lt g rfl).1
      have hF : Hid (InF w.heap.size wr g (selVC keepC m vs1 j) (m.filter keepC)) := by
        have h9 := InF.of (g := g) HO.out HBW.out (fun k hk => Nat.lt_of_lt_of_le (idxTo_ltC hk) (by rw [hj9]; exact Nat.le_refl _)) hgb (fun r hr => (lv_bd (H1.out r hr).1).1) (idx := idxToC keepC m j)
        rw [e8] at h9
        exact h9
      have GB : Hid (Below w.heap.size w wr) := HB.out.trans (HBW.out.mono HB.out.size)
      have HOF : Hid (wr.ownsRow w.heap.size 22 1 (.slice (some ⟨g, 0, none⟩) q cap) q (selVC keepC m vs1 j)) := ((OwnR.of hrow9).more HB.out.size (Nat.le_refl _)).1
      have hMM := Lib.hid hM
      have hQQ := Lib.hid hq9
      clear hj9 e8 hrow9 HBW HOW HC hM hq9
      go_wp2
      go_ret
      rw [EM.out]
      exact ⟨g, cap, _, by rw [hQQ.out]; rfl, by rw [hQQ.out]; exact HOF.out, hMM.out, hF.out, GB.out⟩
end Go.Proofs.YtnnihdkhblbdgaaGreat
/-
  Which lists are maps, plainly.
-/
namespace Go.Proofs.YtnnihdkhblbdgaaGreat
open Go.RowKit Fld
set_option linter.unusedVariables false
set_option linter.unusedSimpArgs false
set_option maxRecDepth 100000

def isMp (a : List Int) : Bool := decide (a.length = 38) && allNum a
def isChr (a : List Int) : Bool := isMp a && decide (a.getD 0 0 = 1)
def isInf (a : List Int) : Bool := isMp a && decide (a.getD 0 0 = 0)
theorem isMp_num {a : List Int} (h : a.length = 38) : isMp a = allNum a := by unfold isMp; rw [decide_eq_true h, Bool.true_and]
theorem isMp_len {a : List Int} (h : a.length ≠ 38) : isMp a = false := by unfold isMp; rw [decide_eq_false h, Bool.false_and]
theorem isMp_iff {a : List Int} : isMp a = true ↔ a.length = 38 ∧ allNum a = true := by unfold isMp; simp
theorem isMp_parts {a : List Int} {n : Nat} (h : isMp a = true) (hl : a.length = n) : n = 38 ∧ allNum a = true := by
  obtain ⟨h1, h2⟩ := isMp_iff.1 h
  exact ⟨by omega, h2⟩
theorem isChr_no {a : List Int} (h : isMp a = false) : isChr a = false := by unfold isChr; rw [h, Bool.false_and]
theorem isInf_no {a : List Int} (h : isMp a = false) : isInf a = false := by unfold isInf; rw [h, Bool.false_and]
theorem isChr_at {a : List Int} {x : Int} (h : isMp a = true) (hx : a[0]? = some x) : isChr a = decide (x = 1) := by
  unfold isChr; rw [h, Bool.true_and, List.getD_eq_getElem?_getD, hx]; rfl
theorem isInf_at {a : List Int} {x : Int} (h : isMp a = true) (hx : a[0]? = some x) : isInf a = decide (x = 0) := by
  unfold isInf; rw [h, Bool.true_and, List.getD_eq_getElem?_getD, hx]; rfl
def unitL : List Int := 1 :: List.replicate 37 0
def zero38 : List Int := List.replicate 38 0
theorem zero38_at {k : Nat} (h : k < 38) : zero38[k]? = some 0 := by unfold zero38; rw [List.getElem?_replicate, if_pos h]
theorem unitL_length : unitL.length = 38 := rfl
end Go.Proofs.YtnnihdkhblbdgaaGreat
/-
  Maps of trees, plainly: which lists are maps, the numbers of nodes at their places, and what is made of them.
-/
namespace Go.Proofs.YtnnihdkhblbdgaaGreat
open Go.RowKit Fld
set_option linter.unusedVariables false
set_option linter.unusedSimpArgs false
set_option maxRecDepth 100000

/-- the numbers of nodes of the trees at the places of a map -/
def lens : List Nat := [0, 1, 2, 3, 3, 4, 4, 4, 4, 5, 5, 5, 5, 5, 5, 5, 5, 5, 6, 6, 6, 6, 6, 6, 6, 6, 6, 6, 6, 6, 6, 6, 6, 6, 6, 6, 6, 6]
theorem lens_len : lens.length = 38 := rfl
theorem lens_bd : ∀ l ∈ lens, l ≤ 6 := by decide
theorem lens_to : lens = 0 :: (treesTo 6).map List.length := by decide +kernel
theorem to_len : (treesTo 6).length = 37 := by
  have := congrArg List.length lens_to
  rw [List.length_cons, List.length_map, lens_len] at this; omega
theorem lens_at {k : Nat} (h : k < 38) : ∃ l, lens[k]? = some l ∧ l ≤ 6 := by
  have h2 : k < lens.length := by rw [lens_len]; exact h
  exact ⟨lens[k], List.getElem?_eq_getElem h2, lens_bd _ (List.getElem_mem h2)⟩
theorem to_at {k : Nat} {t : List Int} (h : (treesTo 6)[k]? = some t) : lens[k + 1]? = some t.length := by
  rw [lens_to, List.getElem?_cons_succ, List.getElem?_map, h]; rfl
/-- the texts of the trees at the places of a map -/
def mapTx : List (List UInt8) := [] :: (treesTo 6).map Tr.txt
theorem mapTx_len : mapTx.length = 38 := by unfold mapTx; rw [List.length_cons, List.length_map, to_len]
theorem mapTx_lens : mapTx.map List.length = lens.map (2 * ·) := by decide +kernel
theorem mapTx_at {k l : Nat} (h : lens[k]? = some l) : ∃ x, mapTx[k]? = some x ∧ x.length = 2 * l := by
  have e : (mapTx.map List.length)[k]? = some (2 * l) := by rw [mapTx_lens, List.getElem?_map, h]; rfl
  rw [List.getElem?_map] at e
  cases hx : mapTx[k]? with
  | none => rw [hx] at e; cases e
  | some x => rw [hx] at e; exact ⟨x, rfl, by simpa using e⟩
/-- up to which number of nodes two maps agree -/
def agrL : List Int → List Int → List Nat → Int
  | x :: xs, y :: ys, l :: ls => if x = y then agrL xs ys ls else (l : Int) - 1
  | _, _, _ => 6
def agrA (a b : List Int) : Int := agrL a b lens
theorem drop_at {α : Type} {L : List α} {k : Nat} {x : α} (h : L[k]? = some x) : L.drop k = x :: L.drop (k + 1) := by
  have hlt : k < L.length := by
    rcases Nat.lt_or_ge k L.length with g | g
    · exact g
    · rw [List.getElem?_eq_none g] at h; cases h
  rw [List.getElem?_eq_getElem hlt] at h
  injection h with h
  rw [List.drop_eq_getElem_cons hlt, h]
theorem agr_next {a b : List Int} {k : Nat} {x y : Int} {l : Nat} (hx : a[k]? = some x) (hy : b[k]? = some y) (hl : lens[k]? = some l) (e : x = y) : agrL (a.drop k) (b.drop k) (lens.drop k) = agrL (a.drop (k + 1)) (b.drop (k + 1)) (lens.drop (k + 1)) := by
  rw [drop_at hx, drop_at hy, drop_at hl, agrL, if_pos e]
theorem agr_stop {a b : List Int} {k : Nat} {x y : Int} {l : Nat} (hx : a[k]? = some x) (hy : b[k]? = some y) (hl : lens[k]? = some l) (e : x ≠ y) : agrL (a.drop k) (b.drop k) (lens.drop k) = (l : Int) - 1 := by
  rw [drop_at hx, drop_at hy, drop_at hl, agrL, if_neg e]
theorem agr_end {a b : List Int} : agrL (a.drop 38) (b.drop 38) (lens.drop 38) = 6 := by
  have e : lens.drop 38 = [] := rfl
  rw [e]
  cases a.drop 38 <;> cases b.drop 38 <;> rfl
theorem agr_start (a b : List Int) : agrA a b = agrL (a.drop 0) (b.drop 0) (lens.drop 0) := rfl
/-- a map with 0 at all trees with more than n nodes -/
def truncL (a : List Int) (n : Int) : List Int := List.zipWith (fun x (l : Nat) => if n < (l : Int) then 0 else x) a lens
theorem truncL_length {a : List Int} (h : a.length = 38) (n : Int) : (truncL a n).length = 38 := by unfold truncL; rw [List.length_zipWith, h, lens_len, Nat.min_self]
theorem truncL_at {a : List Int} {n : Int} {k l : Nat} {x : Int} (hx : a[k]? = some x) (hl : lens[k]? = some l) : (truncL a n)[k]? = some (if n < (l : Int) then 0 else x) := by
  unfold truncL; rw [List.getElem?_zipWith, hx, hl]
def scaleL (a : List Int) (y : Int) : List Int := List.zipWith (fun x l => x * pw y l % 10007) a lens
theorem scaleL_length {a : List Int} (h : a.length = 38) (y : Int) : (scaleL a y).length = 38 := by unfold scaleL; rw [List.length_zipWith, h, lens_len, Nat.min_self]
theorem scaleL_at {a : List Int} {y : Int} {k l : Nat} {x : Int} (hx : a[k]? = some x) (hl : lens[k]? = some l) : (scaleL a y)[k]? = some (x * pw y l % 10007) := by
  unfold scaleL; rw [List.getElem?_zipWith, hx, hl]
/-- the answers -/
def agreeA (a b : List Int) : Int × Int := if isMp a = true ∧ isMp b = true then (agrA a b, 0) else (0, 1)
theorem agreeA_no1 {a b : List Int} (h : isMp a = false) : agreeA a b = (0, 1) := if_neg (by rw [h]; simp)
theorem agreeA_no2 {a b : List Int} (h : isMp b = false) : agreeA a b = (0, 1) := if_neg (by rw [h]; simp)
theorem agreeA_yes {a b : List Int} (h : isMp a = true) (k : isMp b = true) : agreeA a b = (agrA a b, 0) := if_pos ⟨h, k⟩
def truncA (a : List Int) (y : Int) : List Int × Int := if isMp a = true then (if 0 ≤ y ∧ y ≤ 6 then (truncL a y, 0) else ([], 2)) else ([], 1)
theorem truncA_no {a : List Int} {y : Int} (h : isMp a = false) : truncA a y = ([], 1) := if_neg (by rw [h]; simp)
theorem truncA_out {a : List Int} {y : Int} (h : isMp a = true) (hy : ¬ (0 ≤ y ∧ y ≤ 6)) : truncA a y = ([], 2) := by unfold truncA; rw [if_pos h, if_neg hy]
theorem truncA_yes {a : List Int} {y : Int} (h : isMp a = true) (hy : 0 ≤ y ∧ y ≤ 6) : truncA a y = (truncL a y, 0) := by unfold truncA; rw [if_pos h, if_pos hy]
def scaleMA (a : List Int) (y : Int) : List Int × Int := if isMp a = true then (if 0 ≤ y ∧ y < 10007 then (scaleL a y, 0) else ([], 2)) else ([], 1)
theorem scaleMA_no {a : List Int} {y : Int} (h : isMp a = false) : scaleMA a y = ([], 1) := if_neg (by rw [h]; simp)
theorem scaleMA_out {a : List Int} {y : Int} (h : isMp a = true) (hy : ¬ (0 ≤ y ∧ y < 10007)) : scaleMA a y = ([], 2) := by unfold scaleMA; rw [if_pos h, if_neg hy]
theorem scaleMA_yes {a : List Int} {y : Int} (h : isMp a = true) (hy : 0 ≤ y ∧ y < 10007) : scaleMA a y = (scaleL a y, 0) := by unfold scaleMA; rw [if_pos h, if_pos hy]
end Go.Proofs.YtnnihdkhblbdgaaGreat
/-
  Forests: the test, the program's and the model's.
-/
namespace Go.Proofs.YtnnihdkhblbdgaaGreat
open Go.RowKit Fld
set_option linter.unusedVariables false
set_option linter.unusedSimpArgs false
set_option maxRecDepth 100000

/-- tree k stands where it may -/
def okAt (f : List (List Int)) (k : Nat) : Bool := isTr (f.getD k []) && (decide (k = 0) || !Tr.beforeL (f.getD k []) (f.getD (k - 1) []))
def okTo (f : List (List Int)) (k : Nat) : Bool := (List.range k).all (okAt f)
theorem okTo_step (f : List (List Int)) (k : Nat) : okTo f (k + 1) = (okTo f k && okAt f k) := by
  unfold okTo; rw [List.range_succ, List.all_append]; simp
theorem okTo_no {f : List (List Int)} {k : Nat} (h : okAt f k = false) (hk : k < f.length) : okTo f f.length = false := by
  unfold okTo
  rw [List.all_eq_false]
  exact ⟨k, by rw [List.mem_range]; exact hk, by rw [h]; simp⟩
theorem okTo_at {f : List (List Int)} {k j : Nat} (h : okTo f k = true) (hj : j < k) : okAt f j = true := by
  unfold okTo at h
  exact List.all_eq_true.1 h j (by rw [List.mem_range]; exact hj)
theorem okAt_tr {f : List (List Int)} {k : Nat} {r : List Int} (h : okAt f k = true) (hr : f[k]? = some r) : isTr r = true := by
  unfold okAt at h
  rw [Bool.and_eq_true, List.getD_eq_getElem?_getD, hr] at h
  exact h.1
theorem okAt_false {f : List (List Int)} {k : Nat} {r : List Int} (hr : f[k]? = some r) (h : isTr r = false) : okAt f k = false := by
  unfold okAt
  rw [List.getD_eq_getElem?_getD, hr]
  simp [h]
theorem okAt_zero {f : List (List Int)} {r : List Int} (hr : f[0]? = some r) (h : isTr r = true) : okAt f 0 = true := by
  unfold okAt
  rw [List.getD_eq_getElem?_getD, hr]
  simp [h]
theorem okAt_succ {f : List (List Int)} {k : Nat} {p r : List Int} (hr : f[k + 1]? = some r) (hp : f[k]? = some p) (h : isTr r = true) : okAt f (k + 1) = !Tr.beforeL r p := by
  unfold okAt
  rw [List.getD_eq_getElem?_getD, List.getD_eq_getElem?_getD, hr, Nat.add_sub_cancel, hp]
  simp [h]
def isFor (f : List (List Int)) : Bool := okTo f f.length && decide (total f ≤ 8)
theorem isFor_big {f : List (List Int)} (h : 8 < total f) : isFor f = false := by
  unfold isFor; rw [decide_eq_false (by omega), Bool.and_false]
theorem isFor_no {f : List (List Int)} (h : okTo f f.length = false) : isFor f = false := by
  unfold isFor; rw [h]; rfl
theorem row_total {f : List (List Int)} {k : Nat} {r : List Int} (h : f[k]? = some r) : r.length ≤ total f := by
  have h1 := total_take h
  have h2 := total_le f (k + 1)
  omega
end Go.Proofs.YtnnihdkhblbdgaaGreat
/-
  Values of maps at trees, plainly.
-/
namespace Go.Proofs.YtnnihdkhblbdgaaGreat
open Go.RowKit Fld
set_option linter.unusedVariables false
set_option linter.unusedSimpArgs false
set_option maxRecDepth 100000

theorem idx_some {u : List Int} : ∀ {m : List (List Int)} (c : Int), u ∈ m → ∃ i : Nat, Tr.idxL u m c = c + i ∧ m[i]? = some u
  | [], c, h => by cases h
  | x :: r, c, h => by
    by_cases e : x = u
    · exact ⟨0, by unfold Tr.idxL; rw [if_pos e]; omega, by rw [e]; rfl⟩
    · rw [List.mem_cons] at h
      obtain ⟨i, h1, h2⟩ := idx_some (m := r) (c + 1) (h.resolve_left (fun q => e q.symm))
      exact ⟨i + 1, by unfold Tr.idxL; rw [if_neg e, h1]; omega, by rw [List.getElem?_cons_succ]; exact h2⟩
theorem idx_none {u : List Int} : ∀ {m : List (List Int)} (c : Int), u ∉ m → Tr.idxL u m c = -1
  | [], c, h => rfl
  | x :: r, c, h => by
    rw [List.mem_cons, not_or] at h
    unfold Tr.idxL
    rw [if_neg (fun q => h.1 q.symm)]
    exact idx_none (c + 1) h.2
theorem to_mem {r : List Int} : r ∈ treesTo 6 ↔ ∃ n, n < 6 ∧ r ∈ Tr.treesL (n + 1) := by
  unfold treesTo; rw [List.mem_flatMap]
  constructor
  · rintro ⟨n, hn, h⟩; exact ⟨n, List.mem_range.1 hn, h⟩
  · rintro ⟨n, hn, h⟩; exact ⟨n, List.mem_range.2 hn, h⟩
theorem can_mem9 {t : List Int} (h : Tr.isLv t = true) : Tr.can t ∈ Tr.treesL t.length := by
  obtain ⟨h1, h2⟩ := lv_can h
  have h3 := Tr.isLv_iff.1 h1
  have h4 := Tr.isLv_iff.1 h
  have p1 := h4.1
  rw [← grow_trees h4.1 h4.2.1]
  refine Tr.grow_all (t.length - 1) [0] [] (Tr.can t) (by simp) h3 (by show (Tr.can t).length = 1 + (t.length - 1); omega) ?_ (Tr.can_can h).1
  obtain ⟨x, hx⟩ := at_lt (show 0 < (Tr.can t).length by omega)
  have e := h3.2.2.1
  rw [lv_at hx] at e
  subst e
  show (Tr.can t).take 1 = [0]
  rw [List.take_add_one, hx]; rfl
theorem small_idx {r : List Int} (h : isTr r = true) (h6 : r.length ≤ 6) : ∃ i : Nat, i < 37 ∧ Tr.idxL r (treesTo 6) 0 = i ∧ (treesTo 6)[i]? = some r := by
  obtain ⟨hlv, hc⟩ := tr_lv h
  have h1 := (lv_bd hlv).1
  have hm : r ∈ treesTo 6 := to_mem.2 ⟨r.length - 1, by omega, by
    have := can_mem9 hlv
    rw [hc] at this
    rw [show r.length - 1 + 1 = r.length by omega]; exact this⟩
  obtain ⟨i, e1, e2⟩ := idx_some 0 hm
  refine ⟨i, ?_, by omega, e2⟩
  rcases Nat.lt_or_ge i 37 with g | g
  · exact g
  · rw [List.getElem?_eq_none (by rw [to_len]; exact g)] at e2; cases e2
theorem large_idx {r : List Int} (h6 : 6 < r.length) : Tr.idxL r (treesTo 6) 0 = -1 := by
  refine idx_none 0 fun hm => ?_
  obtain ⟨n, hn, h⟩ := to_mem.1 hm
  have := ((trees_all (n := n + 1) (by omega) (by omega)).1 r h).2
  omega
theorem mapTx_nodup : mapTx.Nodup := by decide +kernel
theorem mapTx_inj {i j : Nat} {t u : List Int} (hi : (treesTo 6)[i]? = some t) (hj : (treesTo 6)[j]? = some u) (e : Tr.txt t = Tr.txt u) : i = j := by
  have h1 : mapTx[i + 1]? = some (Tr.txt t) := by unfold mapTx; rw [List.getElem?_cons_succ, List.getElem?_map, hi]; rfl
  have h2 : mapTx[j + 1]? = some (Tr.txt t) := by rw [e]; unfold mapTx; rw [List.getElem?_cons_succ, List.getElem?_map, hj]; rfl
  have hl : i + 1 < mapTx.length := by
    rcases Nat.lt_or_ge (i + 1) mapTx.length with g | g
    · exact g
    · rw [List.getElem?_eq_none g] at h1; cases h1
  have := (List.getElem?_inj hl mapTx_nodup).1 (h1.trans h2.symm)
  omega
theorem all_to {k : Nat} (h : k < 37) : Tr.allL[k]? = (treesTo 6)[k]? := by
  obtain ⟨rest, e⟩ := all_split 6 (by omega)
  rw [e, List.getElem?_append_left (by rw [to_len]; exact h)]
/-- the numbers that stand at texts of trees, the first k of them -/
def valN (xs : List Int) : Nat → List UInt8 → Int
  | 0 => fun _ => 0
  | k+1 => fun y => if y = Tr.txt (Tr.allL.getD k []) then xs.getD k 0 else valN xs k y
theorem valN_at {xs : List Int} {i : Nat} {r : List Int} (hr : (treesTo 6)[i]? = some r) : ∀ k, k ≤ 37 → valN xs k (Tr.txt r) = if i < k then xs.getD i 0 else 0
  | 0, _ => by rw [if_neg (by omega)]; rfl
  | k+1, hk => by
    obtain ⟨t, ht⟩ := at_lt (show k < (treesTo 6).length by rw [to_len]; omega)
    have e : Tr.allL.getD k [] = t := by rw [List.getD_eq_getElem?_getD, all_to (by omega), ht]; rfl
    unfold valN
    rw [e]
    by_cases hik : i = k
    · subst hik
      rw [hr] at ht
      injection ht with ht
      rw [if_pos (by rw [ht]), if_pos (by omega)]
    · rw [if_neg (fun q => hik (mapTx_inj hr ht q)), valN_at hr k (by omega)]
      by_cases hlt : i < k
      · rw [if_pos hlt, if_pos (by omega)]
      · rw [if_neg hlt, if_neg (by omega)]
theorem valN_put {xs : List Int} {k : Nat} {t : List Int} {x : Int} (ht : Tr.allL[k]? = some t) (hx : xs[k]? = some x) : valN xs (k + 1) = fun y => if y = Tr.txt t then x else valN xs k y := by
  have e : Tr.allL.getD k [] = t := by rw [List.getD_eq_getElem?_getD, ht]; rfl
  have e2 : xs.getD k 0 = x := by rw [List.getD_eq_getElem?_getD, hx]; rfl
  funext y
  show (if y = Tr.txt (Tr.allL.getD k []) then xs.getD k 0 else valN xs k y) = _
  rw [e, e2]
/-- the value of a map at a tree, and at the trees of a forest -/
def valT (a : List Int) (r : List Int) : Int := a.getD (Tr.idxL r (treesTo 6) 0 + 1).toNat 0
theorem valT_drop {a r : List Int} (h : isTr r = true) (h6 : r.length ≤ 6) : valN (a.drop 1) 37 (Tr.txt r) = valT a r := by
  obtain ⟨i, i37, e1, e2⟩ := small_idx h h6
  rw [valN_at e2 37 (by omega), if_pos i37]
  unfold valT
  rw [e1, show ((i : Int) + 1).toNat = i + 1 by omega, List.getD_eq_getElem?_getD, List.getD_eq_getElem?_getD, List.getElem?_drop, Nat.add_comm]
theorem valT_num {a r : List Int} (ha : allNum a = true) : 0 ≤ valT a r ∧ valT a r < 10007 := by
  unfold valT
  rw [List.getD_eq_getElem?_getD]
  cases h : a[(Tr.idxL r (treesTo 6) 0 + 1).toNat]? with
  | none => simp
  | some x => exact allNum_iff.1 ha x (List.mem_of_getElem? h)
end Go.Proofs.YtnnihdkhblbdgaaGreat
/-
  Free conditions with at most MaxOrder nodes, and the maps that numbers make: plain.
-/
namespace Go.Proofs.YtnnihdkhblbdgaaGreat
open Go.RowKit Fld
set_option linter.unusedVariables false
set_option linter.unusedSimpArgs false
set_option maxRecDepth 100000

/-- the free conditions among the trees with at most k nodes -/
def condTo (k : Nat) : List (List Int) := (treesTo k).filter keepC
theorem condTo_step (k : Nat) : condTo (k + 1) = condTo k ++ freeM (k + 1) := by
  unfold condTo freeM treesTo
  rw [List.range_succ, List.flatMap_append, List.filter_append]
  simp
def conds : List (List Int) := condTo 6
theorem chk_conds : conds.length = 10 := by decide +kernel
theorem conds_len : conds.length = 10 := chk_conds
/-- the sign of a tree, the model's -/
def sgnM (t : List Int) : Int := if (List.range t.length).any (fun k => decide (Tr.turnF 9 t k = freeL t) && decide (t.getD k 0 % 2 = 0)) then 1 else -1
def idxC (t : List Int) : Int := Tr.idxL (freeL t) conds 0
def hamAt (ns : List Int) (t : List Int) : Int := if idxC t < 0 then 0 else (sgnM t * ns.getD (idxC t).toNat 0) % 10007
def hamL (ns : List Int) : List Int := 0 :: (treesTo 6).map (hamAt ns)
theorem hamL_length (ns : List Int) : (hamL ns).length = 38 := by unfold hamL; rw [List.length_cons, List.length_map, to_len]
theorem hamL_at {ns : List Int} {k : Nat} {t : List Int} (h : (treesTo 6)[k]? = some t) : (hamL ns)[k + 1]? = some (hamAt ns t) := by
  unfold hamL; rw [List.getElem?_cons_succ, List.getElem?_map, h]; rfl
theorem hamAt_num (ns t : List Int) : 0 ≤ hamAt ns t ∧ hamAt ns t < 10007 := by
  unfold hamAt
  split
  · omega
  · exact ⟨Int.emod_nonneg _ (by omega), Int.emod_lt_of_pos _ (by omega)⟩
/-! the program's: what its map knows after k trees -/
def cntC (k : Nat) : Nat := ((treesTo 6).take k).countP keepC
def knI : Nat → List UInt8 → Option Nat
  | 0 => fun _ => none
  | k+1 => fun y => if keepC ((treesTo 6).getD k []) = true ∧ y = Tr.txt ((treesTo 6).getD k []) then some (cntC k) else knI k y
def knN (ns : List Int) (k : Nat) (y : List UInt8) : Int := match knI k y with | none => 0 | some j => ns.getD j 0
theorem cntC_step {k : Nat} {t : List Int} (h : (treesTo 6)[k]? = some t) : cntC (k + 1) = cntC k + if keepC t = true then 1 else 0 := by
  unfold cntC
  rw [List.take_add_one, h, Option.toList_some, List.countP_append, List.countP_singleton]
theorem cntC_bd : (List.range 38).all (fun k => decide (cntC k ≤ 10)) = true := by decide +kernel
theorem cntC_less {k : Nat} {t : List Int} (h : (treesTo 6)[k]? = some t) (hk : keepC t = true) : cntC k < 10 := by
  have h37 : k < 37 := by
    rcases Nat.lt_or_ge k 37 with q | q
    · exact q
    · rw [List.getElem?_eq_none (by rw [to_len]; exact q)] at h; cases h
  have := List.all_eq_true.1 cntC_bd (k + 1) (by rw [List.mem_range]; omega)
  have e := cntC_step h
  rw [if_pos hk] at e
  have := of_decide_eq_true this
  omega
theorem knN_yes {ns : List Int} {k : Nat} {t : List Int} (h : (treesTo 6)[k]? = some t) (hk : keepC t = true) : knN ns (k + 1) = fun y => if y = Tr.txt t then ns.getD (cntC k) 0 else knN ns k y := by
  have e : (treesTo 6).getD k [] = t := by rw [List.getD_eq_getElem?_getD, h]; rfl
  funext y
  unfold knN knI
  rw [e]
  by_cases q : y = Tr.txt t
  · rw [if_pos ⟨hk, q⟩, if_pos q]
  · rw [if_neg (fun z => q z.2), if_neg q]
    cases k <;> rfl
theorem knN_no {ns : List Int} {k : Nat} {t : List Int} (h : (treesTo 6)[k]? = some t) (hk : keepC t = false) : knN ns (k + 1) = knN ns k := by
  have e : (treesTo 6).getD k [] = t := by rw [List.getD_eq_getElem?_getD, h]; rfl
  funext y
  have h9 : knI (k + 1) y = knI k y := by
    show (if keepC ((treesTo 6).getD k []) = true ∧ y = Tr.txt ((treesTo 6).getD k []) then some (cntC k) else knI k y) = knI k y
    rw [e, if_neg (fun z => by rw [hk] at z; exact Bool.noConfusion z.1)]
  unfold knN
  rw [h9]
/-- where the free form stands among the tree's roots -/
def nodeT (x : List UInt8) : Nat := (rootsT x).findIdx (fun y => decide (y = minT (rootsT x)))
def lvlAt (x : List UInt8) : Int := (Tr.lvl x).getD (nodeT x) 0
def sgnP (x : List UInt8) : Int := if lvlAt x % 2 = 0 then 1 else 10006
def chkHm (k : Nat) : Bool :=
  let t := (treesTo 6).getD k []
  let x := Tr.txt t
  decide (knI (k + 1) (minT (rootsT x)) = if idxC t < 0 then none else some (idxC t).toNat) && (decide (idxC t < 0) || (decide (sgnP x = 1) == decide (sgnM t = 1))) && decide (nodeT x < t.length) && decide (0 ≤ lvlAt x) && decide (lvlAt x ≤ 8) && decide ((Tr.lvl x).length = t.length) && decide (idxC t < 10)
theorem chkHm_all : (List.range 37).all chkHm = true := by decide +kernel
theorem sgnM_two (t : List Int) : sgnM t = 1 ∨ sgnM t = -1 := by unfold sgnM; split <;> simp
theorem ham_parts {ns : List Int} {k : Nat} {t : List Int} (h : (treesTo 6)[k]? = some t) (hn : allNum ns = true) :
    (sgnP (Tr.txt t) * knN ns (k + 1) (minT (rootsT (Tr.txt t)))) % 10007 = hamAt ns t ∧ nodeT (Tr.txt t) < t.length ∧ 0 ≤ lvlAt (Tr.txt t) ∧ lvlAt (Tr.txt t) ≤ 8 ∧ (Tr.lvl (Tr.txt t)).length = t.length ∧ idxC t < 10 ∧ 0 ≤ knN ns (k + 1) (minT (rootsT (Tr.txt t))) ∧ knN ns (k + 1) (minT (rootsT (Tr.txt t))) < 10007 := by
  have h37 : k < 37 := by
    rcases Nat.lt_or_ge k 37 with q | q
    · exact q
    · rw [List.getElem?_eq_none (by rw [to_len]; exact q)] at h; cases h
  have c := List.all_eq_true.1 chkHm_all k (List.mem_range.2 h37)
  have e : (treesTo 6).getD k [] = t := by rw [List.getD_eq_getElem?_getD, h]; rfl
  unfold chkHm at c
  simp only [e, Bool.and_eq_true, decide_eq_true_eq] at c
  obtain ⟨⟨⟨⟨⟨⟨c1, c2⟩, c3⟩, c4⟩, c5⟩, c6⟩, c7⟩ := c
  have hnum : ∀ j, 0 ≤ ns.getD j 0 ∧ ns.getD j 0 < 10007 := fun j => by
    rw [List.getD_eq_getElem?_getD]
    cases hj : ns[j]? with
    | none => simp
    | some x => exact allNum_iff.1 hn x (List.mem_of_getElem? hj)
  unfold knN
  rw [c1]
  unfold hamAt
  by_cases hi : idxC t < 0
  · simp only [if_pos hi]
    exact ⟨by simp, c3, c4, c5, c6, c7, by omega, by omega⟩
  · simp only [if_neg hi]
    have hb := hnum (idxC t).toNat
    refine ⟨?_, c3, c4, c5, c6, c7, hb.1, hb.2⟩
    rw [decide_eq_false hi, Bool.false_or, beq_iff_eq] at c2
    rcases sgnM_two t with s | s
    · rw [s] at c2 ⊢
      have : sgnP (Tr.txt t) = 1 := by simpa using c2
      rw [this]
    · have : ¬ sgnP (Tr.txt t) = 1 := by rw [s] at c2; simpa using c2
      have p : sgnP (Tr.txt t) = 10006 := by
        unfold sgnP at this ⊢
        split at this
        · exact absurd rfl this
        · rename_i q; rw [if_neg q]
      rw [s, p]; omega
noncomputable def hamA (ns : List Int) : List Int × Int := if ns.length = 10 ∧ allNum ns = true then (hamL ns, 0) else ([], 2)
end Go.Proofs.YtnnihdkhblbdgaaGreat
/-
  All free conditions with at most MaxOrder nodes, the model's.
-/
namespace Go.Proofs.YtnnihdkhblbdgaaGreat
open Go.RowKit Fld
set_option linter.unusedVariables false
set_option linter.unusedSimpArgs false
set_option maxRecDepth 100000

theorem InF.app {lo g g2 g5 : Nat} {wr w2 w5 : World} {C C2 : List Value} {m m2 : List (List Int)} (h : InF lo wr g C m) (hb : Below wr.heap.size wr w2) (k : InF wr.heap.size w2 g2 C2 m2) (hg : w2.grownBy w5 (some g)) (h5 : g5 = g ∨ g5 = w2.heap.size) (hl : g < wr.heap.size) (hlo : lo ≤ wr.heap.size) :
    InF lo w5 g5 (C ++ C2) (m ++ m2) := by
  have hs := hb.size
  have hs2 := hg.size
  refine ⟨by rw [List.length_append, List.length_append, h.1, k.1], fun j r hr => ?_⟩
  by_cases hj : j < m.length
  · rw [List.getElem?_append_left hj] at hr
    obtain ⟨b, o, c, e, q1, q2, q3, q4, q5, q6⟩ := h.2 j r hr
    refine ⟨b, o, c, by rw [List.getElem?_append_left (by rw [h.1]; exact hj)]; exact e, q1, by omega, by rcases h5 with z | z <;> omega, q4, q5, fun i x hx => ?_⟩
    exact hg.cell (a := ⟨b, o + i, none⟩) ((hb.cell (p := ⟨b, o + i, none⟩) q2).trans (q6 i x hx)) (fun z => q3 (by injection z))
  · rw [List.getElem?_append_right (by omega)] at hr
    obtain ⟨b, o, c, e, q1, q2, q3, q4, q5, q6⟩ := k.2 _ r hr
    refine ⟨b, o, c, by rw [List.getElem?_append_right (by rw [h.1]; omega), h.1]; exact e, by omega, by omega, by rcases h5 with z | z <;> omega, q4, q5, fun i x hx => ?_⟩
    exact hg.cell (a := ⟨b, o + i, none⟩) (q6 i x hx) (fun z => by have : b = g := by injection z
                                                                   omega)
theorem InF.next {lo g : Nat} {w w' : World} {C : List Value} {m : List (List Int)} (h : InF lo w g C m) (hb : Below w.heap.size w w') : InF lo w' g C m :=
  ⟨h.1, fun j r hr => by
    obtain ⟨b, o, c, e, q1, q2, q3, q4, q5, q6⟩ := h.2 j r hr
    exact ⟨b, o, c, e, q1, Nat.lt_of_lt_of_le q2 hb.size, q3, q4, q5, fun i x hx => (hb.cell (p := ⟨b, o + i, none⟩) q2).trans (q6 i x hx)⟩⟩
theorem InF.mat {lo g base q c : Nat} {w : World} {C : List Value} {m : List (List Int)} (h : InF lo w g C m) (ho : w.ownsRow base 22 1 (.slice (some ⟨g, 0, none⟩) q c) q C) : Mat w w.heap.size (some ⟨g, 0, none⟩) m := by
  intro j r hr
  obtain ⟨b, o, c', e, q1, q2, q3, q4, q5, q6⟩ := h.2 j r hr
  obtain ⟨b2, o2, e2, hb2, hc2⟩ := row_of_own ho j _ e
  refine ⟨b2, o2, _, c', e2, hb2, hc2, q4, q5, fun k v hv => ?_⟩
  obtain ⟨x, hx, rfl⟩ : ∃ x, r[k]? = some x ∧ v = .int .i64 x := by
    unfold ints intsK at hv
    rw [List.getElem?_map, Option.map_eq_some_iff] at hv
    obtain ⟨x, hx, rfl⟩ := hv
    exact ⟨x, hx, rfl⟩
  exact ⟨b, o, rfl, q2, q6 k x hx⟩
/-- an append of an empty slice -/
theorem wpList_append_empty {P : Program} {w : World} {ops : Array Oper} {rest : List Oper} {o : Oper} {a : Act} {Q : Exit → Act → World → Prop}
    (hg : o.guard = none) (s x : Operand) (t : TypeId) (hop : o.op = Op.call { callee := Callee.builtin Builtin.append, args := #[s, x], argTypes := #[t, t] })
    (e : TypeId) (i : TypeInfo) (ht : P.underlying t = some (.slice e)) (hi : P.info? e = some i)
    (b n c : Nat) (hc : n ≤ c) (hs : a.eval s = .slice (some ⟨b, 0, none⟩) n c) (ad : Addr) (c2 : Nat) (hx : a.eval x = .slice (some ad) 0 c2)
    (hK : wpList P ops Q rest (a.put o.dst (.slice (some ⟨b, 0, none⟩) n c)) w) : wpList P ops Q (o :: rest) a w := by
  refine wpList_plain hg fun K hK' => ?_
  have hrun := run_append_room_cells (P := P) w t o.type e i ht hi b 0 n c ad 0 c2 [] (by simp) (fun j u hu => by simp at hu) (fun u hu => by simp at hu) (by omega) (fun j hj => by simp at hj) (fun j hj => by simp at hj)
  unfold Oper.wp
  simp [execOp, hop, resolve, invoke, builtin, hs, hx, hrun, Result.andThen]
  exact hK' _ _ hK
theorem freeM_two : freeM 2 = [] := by decide +kernel
theorem freeM_some : ∀ n, n < 6 → n ≠ 1 → 0 < (freeM (n + 1)).length := by
  have h : ((List.range 6).all fun n => decide (n = 1) || decide (0 < (freeM (n + 1)).length)) = true := by decide +kernel
  intro n hn h1
  have := List.all_eq_true.1 h n (List.mem_range.2 hn)
  rw [decide_eq_false h1, Bool.false_or] at this
  exact of_decide_eq_true this
theorem condTo_bd (k : Nat) (h : k ≤ 6) : (condTo k).length ≤ 10 := by
  have h2 : ((List.range 7).all fun n => decide ((condTo n).length ≤ 10)) = true := by decide +kernel
  exact of_decide_eq_true (List.all_eq_true.1 h2 k (List.mem_range.2 (by omega)))
set_option maxHeartbeats 4000000 in
theorem l12All_any (w : World) : Calls Tryz.prog 16 #[] w fun e w' => ∃ g c, e = .returned (.slice (some ⟨g, 0, none⟩) 10 c) ∧ Mat w' w'.heap.size (some ⟨g, 0, none⟩) conds ∧ Below w.heap.size w w' := by
  obtain ⟨j0, hj, hy0, hy1, hy2⟩ := info_parts info_row
  have S0 := Lib.hid (Growing.start w 22)
  go_enter Tryz.func16, Tryz.ntmps16
  go_wp2_with fail
  go_loopw [1, 2] (fun v i wr => ∃ (n q g cap : Nat) (C : List Value), v = .slice (some ⟨g, 0, none⟩) q cap ∧ i = .int .i64 ((n + 1 : Nat) : Int) ∧ n ≤ 6 ∧ Hid (q = (condTo n).length) ∧ Hid (wr.ownsRow w.heap.size 22 1 (.slice (some ⟨g, 0, none⟩) q cap) q C) ∧ Hid (InF w.heap.size wr g C (condTo n)) ∧ Hid (Below w.heap.size w wr)) (fun _ i _ => 7 - (intOf i).toNat)
  case atStart => exact ⟨0, 0, _, 0, [], rfl, rfl, by omega, rfl, S0.out.1, ⟨rfl, fun j r hr => by simp [condTo, treesTo] at hr⟩, S0.out.2⟩
  case round =>
    obtain ⟨n, q, g, cap, C, rfl, rfl, hn, HQ, HO, HF, HB⟩ := hrel
    by_cases hlt : n < 6
    · have hle : ((n + 1 : Nat) : Int) ≤ 6 := by omega
      have hsz := HB.out.size
      have hgl := (HO.out.lt g rfl).2
      have HST := Lib.hid (condTo_step n)
      have hq10 : q ≤ 10 := by rw [HQ.out]; exact condTo_bd n hn
      go_wp2_with fail
      refine (l12Free_any (n + 1) _ (by omega) (by omega)).mono ?_
      rintro e w2 ⟨g2, c2, C2, rfl, own2, _, hF2, bel2⟩
      have hs2 := bel2.size
      by_cases h1 : n = 1
      · subst h1
        have e0 : freeM (1 + 1) = [] := freeM_two
        have HO2 : Hid (w2.ownsRow w.heap.size 22 1 (.slice (some ⟨g, 0, none⟩) q cap) q C) := ((OwnR.of HO.out).below bel2 (Nat.le_refl _)).1
        have GF : Hid (InF w.heap.size w2 g C (condTo (1 + 1))) := by rw [HST.out, e0, List.append_nil]; exact HF.out.next bel2
        have GQ : Hid (q = (condTo (1 + 1)).length) := by rw [Hid, HST.out, e0, List.append_nil]; exact HQ.out
        have GB := Lib.hid (HB.out.trans (bel2.mono hsz))
        have hcq := (own_cap HO.out).1
        rw [e0]
        clear own2 hF2 bel2 HO HF HB HQ e0
        go_wp2_with (at_builtin; refine wpList_append_empty rfl (.tmp 8) (.tmp 10) 32 rfl 22 j0 Tryz.underlying32 hj g q cap hcq rfl ⟨g2, 0, none⟩ c2 rfl ?_)
        go_roundw
        case rel => exact ⟨1 + 1, q, g, cap, C, rfl, by go_num, by omega, GQ, HO2, GF, GB⟩
        case measure => simp [intOf]
      · have hpos := freeM_some n hlt h1
        obtain ⟨N, hN⟩ : ∃ N, N = (freeM (n + 1)).length := ⟨_, rfl⟩
        have hN10 : N + q ≤ 10 := by rw [hN, HQ.out]; have := condTo_bd (n + 1) (by omega); rw [HST.out, List.length_append] at this; omega
        have HNL : Hid (C2.length = N * 1) := by rw [Hid, hF2.1, hN, Nat.mul_one]
        have HNEW : Hid (∀ j u, C2[j]? = some u → w2.cell? ((⟨g2, 0, none⟩ : Addr).add j) = some u) := fun j u hu => own2.cells rfl j u hu
        have HONE : Hid (∀ u ∈ C2, u.oneCell' = true) := fun u hu => by
          obtain ⟨j, hj⟩ := List.mem_iff_getElem?.1 hu
          have hjl : j < (freeM (n + 1)).length := by rw [← hF2.1]; exact (List.getElem?_eq_some_iff.1 hj).1
          obtain ⟨r, hr⟩ := at_lt hjl
          obtain ⟨b, o, c, e, _⟩ := hF2.2 j r hr
          rw [hj] at e
          rw [Option.some.inj e]
          try rfl
        have HO2 : Hid (w2.ownsRow w.heap.size 22 1 (.slice (some ⟨g, 0, none⟩) q cap) q C) := ((OwnR.of HO.out).below bel2 (Nat.le_refl _)).1
        have HF2 := Lib.hid hF2
        have HB2 := Lib.hid (HB.out.trans (bel2.mono hsz))
        have HBW := Lib.hid bel2
        have HQ2 : Hid (q + N = (condTo (n + 1)).length) := by rw [Hid, HST.out, List.length_append, ← HQ.out, hN]
        rw [← hN] at hpos
        have HN := Lib.hid hN
        clear own2 hF2 bel2
        rw [← hN]
        clear hN
        go_wp2_with (at_builtin; refine wpList_append_lies _ rfl (.tmp 8) (.tmp 10) 32 rfl w.heap.size 22 j0 _ 1 24 Tryz.underlying32 hj hy0 hy1 hy2 rfl (by omega) (.slice (some ⟨g, 0, none⟩) q cap) q C rfl HO2.out ⟨g2, 0, none⟩ N c2 C2 rfl HNL.out HNEW.out HONE.out (by omega) (by simp only [maxLen]; omega) (by omega) (by omega) w2.heap.size rfl ?_; intro g5 cap5 w5 hown5 hgrow5 hat5 hlt5)
        have hg5 : g5 = g ∨ g5 = w2.heap.size := by
          rcases hat5 with z | z
          · exact .inl (by injection z with z; exact z.symm)
          · exact .inr z
        have GF : Hid (InF w.heap.size w5 g5 (C ++ C2) (condTo (n + 1))) := by rw [HST.out]; exact HF.out.app HBW.out HF2.out hgrow5 hg5 hgl hsz
        have GB : Hid (Below w.heap.size w w5) := HB2.out.grown hgrow5 (by omega) (fun z hz => by injection hz with hz; subst hz; exact (HO.out.lt g rfl).1)
        have GO := Lib.hid hown5
        clear hown5 hgrow5 hat5 hg5
        go_wp2
        go_roundw
        case rel => exact ⟨n + 1, q + N, g5, cap5, _, rfl, by go_num, by omega, HQ2, GO, GF, GB⟩
        case measure => simp [intOf]; omega
    · obtain rfl : n = 6 := by omega
      have e10 : q = 10 := by rw [HQ.out]; exact conds_len
      subst e10
      have GM : Hid (Mat wr wr.heap.size (some ⟨g, 0, none⟩) conds) := HF.out.mat HO.out
      have GB := HB
      clear HO HF HB
      go_wp2
      go_ret
      exact ⟨g, cap, rfl, GM.out, GB.out⟩
end Go.Proofs.YtnnihdkhblbdgaaGreat
/-
  What the tests on maps answer, the program's and the model's alike.
-/
namespace Go.Proofs.YtnnihdkhblbdgaaGreat
open Go.RowKit Fld
set_option linter.unusedVariables false
set_option linter.unusedSimpArgs false
set_option maxRecDepth 100000

theorem isMap_any (A : Option Addr) (n c B : Nat) (xs : List Int) (w : World) (hl : xs.length = n) (hn : n ≤ 9223372036854775807) (h : Row w B A (ints xs)) :
    Calls Tryz.prog 18 #[.slice A n c] w fun e w' => e = .returned (.bool (isMp xs)) ∧ w = w' := by
  have HL := Lib.hid hl
  by_cases h0 : n = 38
  · have H := Lib.hid (isMp_num (a := xs) (by omega))
    have t : ((n : Int) == 38) = true := beq_t (by omega)
    clear hl h0
    go_enter Tryz.func18, Tryz.ntmps18
    go_wp2_with (go_at_call 33; refine (areNumbers_any _ _ _ B xs _ HL.out hn h).mono ?_; rintro e w' ⟨rfl, rfl⟩)
    go_ret
    exact ⟨ret_bool H.out.symm, rfl⟩
  · have H := Lib.hid (isMp_len (a := xs) (by omega))
    have t : ((n : Int) == 38) = false := beq_f (by omega)
    clear hl h0
    go_enter Tryz.func18, Tryz.ntmps18
    go_wp2
    go_ret
    exact ⟨ret_bool H.out.symm, rfl⟩
theorem l07Is_any (A : Option Addr) (n c B : Nat) (xs : List Int) (w : World) (hl : xs.length = n) (hn : n ≤ 9223372036854775807) (h : Row w B A (ints xs)) :
    Calls Tryz.prog 27 #[.slice A n c] w fun e w' => e = .returned (.bool (isMp xs)) ∧ w = w' := by
  have HL := Lib.hid hl
  by_cases h0 : n = 38
  · have H := Lib.hid (isMp_num (a := xs) (by omega))
    have t : ((n : Int) == 38) = true := beq_t (by omega)
    clear hl h0
    go_enter Tryz.func27, Tryz.ntmps27
    go_wp2_with (go_at_call 45; refine (l01Numbers_any _ _ _ B xs _ HL.out hn h).mono ?_; rintro e w' ⟨rfl, rfl⟩)
    go_ret
    exact ⟨ret_bool H.out.symm, rfl⟩
  · have H := Lib.hid (isMp_len (a := xs) (by omega))
    have t : ((n : Int) == 38) = false := beq_f (by omega)
    clear hl h0
    go_enter Tryz.func27, Tryz.ntmps27
    go_wp2
    go_ret
    exact ⟨ret_bool H.out.symm, rfl⟩
theorem map_first {A : Option Addr} {n B : Nat} {a : List Int} {w : World} (hm : isMp a = true) (hl : a.length = n) (h : Row w B A (ints a)) : ∃ x b o, a[0]? = some x ∧ A = some ⟨b, o, none⟩ ∧ w.cell? ⟨b, o, none⟩ = some (.int .i64 x) ∧ 1 ≤ n ∧ 0 ≤ x ∧ x < 10007 := by
  obtain ⟨h1, h2⟩ := isMp_parts hm hl
  obtain ⟨x, hx⟩ := at_lt (show 0 < a.length by omega)
  obtain ⟨b, o, e, _, hc⟩ := h 0 _ (ints_at hx)
  rw [Nat.add_zero] at hc
  obtain ⟨x0, x1⟩ := num_at h2 hx
  exact ⟨x, b, o, hx, e, hc, by omega, x0, x1⟩
theorem isCharacter_any (A : Option Addr) (n c B : Nat) (xs : List Int) (w : World) (hl : xs.length = n) (hn : n ≤ 9223372036854775807) (h : Row w B A (ints xs)) :
    Calls Tryz.prog 19 #[.slice A n c] w fun e w' => e = .returned (.bool (isChr xs)) ∧ w = w' := by
  have C0 := isMap_any A n c B xs w hl hn h
  cases hm : isMp xs
  · have H := Lib.hid (isChr_no hm)
    rw [hm] at C0
    clear hl
    go_enter Tryz.func19, Tryz.ntmps19
    go_wp2_with fail
    refine C0.mono ?_
    rintro e w' ⟨rfl, rfl⟩
    go_wp2
    go_ret
    exact ⟨ret_bool H.out.symm, rfl⟩
  · obtain ⟨x, b, o, hx, rfl, hc, p1, x0, x1⟩ := map_first hm hl h
    have H := Lib.hid (isChr_at hm hx)
    rw [hm] at C0
    clear hl hx
    by_cases hx1 : x = 1
    · have t : (x == 1) = true := beq_t hx1
      have D : Hid (decide (x = 1) = true) := decide_eq_true hx1
      clear hx1
      go_enter Tryz.func19, Tryz.ntmps19
      go_wp2_with fail
      refine C0.mono ?_
      rintro e w' ⟨rfl, rfl⟩
      go_wp2
      go_ret
      exact ⟨ret_bool (H.out.trans D.out).symm, rfl⟩
    · have t : (x == 1) = false := beq_f hx1
      have D : Hid (decide (x = 1) = false) := decide_eq_false hx1
      clear hx1
      go_enter Tryz.func19, Tryz.ntmps19
      go_wp2_with fail
      refine C0.mono ?_
      rintro e w' ⟨rfl, rfl⟩
      go_wp2
      go_ret
      exact ⟨ret_bool (H.out.trans D.out).symm, rfl⟩
theorem isInfinitesimal_any (A : Option Addr) (n c B : Nat) (xs : List Int) (w : World) (hl : xs.length = n) (hn : n ≤ 9223372036854775807) (h : Row w B A (ints xs)) :
    Calls Tryz.prog 42 #[.slice A n c] w fun e w' => e = .returned (.bool (isInf xs)) ∧ w = w' := by
  have C0 := isMap_any A n c B xs w hl hn h
  cases hm : isMp xs
  · have H := Lib.hid (isInf_no hm)
    rw [hm] at C0
    clear hl
    go_enter Tryz.func42, Tryz.ntmps42
    go_wp2_with fail
    refine C0.mono ?_
    rintro e w' ⟨rfl, rfl⟩
    go_wp2
    go_ret
    exact ⟨ret_bool H.out.symm, rfl⟩
  · obtain ⟨x, b, o, hx, rfl, hc, p1, x0, x1⟩ := map_first hm hl h
    have H := Lib.hid (isInf_at hm hx)
    rw [hm] at C0
    clear hl hx
    by_cases hx1 : x = 0
    · have t : (x == 0) = true := beq_t hx1
      have D : Hid (decide (x = 0) = true) := decide_eq_true hx1
      clear hx1
      go_enter Tryz.func42, Tryz.ntmps42
      go_wp2_with fail
      refine C0.mono ?_
      rintro e w' ⟨rfl, rfl⟩
      go_wp2
      go_ret
      exact ⟨ret_bool (H.out.trans D.out).symm, rfl⟩
    · have t : (x == 0) = false := beq_f hx1
      have D : Hid (decide (x = 0) = false) := decide_eq_false hx1
      clear hx1
      go_enter Tryz.func42, Tryz.ntmps42
      go_wp2_with fail
      refine C0.mono ?_
      rintro e w' ⟨rfl, rfl⟩
      go_wp2
      go_ret
      exact ⟨ret_bool (H.out.trans D.out).symm, rfl⟩
end Go.Proofs.YtnnihdkhblbdgaaGreat
/-
  Maps as arrays of the program: blocks of 38 cells.
-/
namespace Go.Proofs.YtnnihdkhblbdgaaGreat
open Go.RowKit Fld
set_option linter.unusedVariables false
set_option linter.unusedSimpArgs false
set_option maxRecDepth 100000

theorem info_arrM : (Tryz.prog.info? 39).map (·.size) = some 38 := by kernel_rfl
/-- the cells of a map -/
def arrM (xs : List Int) : Array Value := (ints xs).toArray
theorem arrM_size {xs : List Int} (h : xs.length = 38) : (arrM xs).size = 38 := by simp [arrM, ints_length, h]
theorem arrM_cells (xs : List Int) : (arrM xs).all (·.oneCell') = true := by simp [arrM, ints, intsK, Array.all_eq_true, Value.oneCell']
/-- block g is a map -/
def ArrM (w : World) (g : Nat) (xs : List Int) : Prop := w.heap[g]? = some (.cells (arrM xs) 39 (0, 0))
theorem ArrM.cell {w : World} {g k : Nat} {xs : List Int} {x : Int} (h : ArrM w g xs) (hx : xs[k]? = some x) : w.cell? ⟨g, k, none⟩ = some (.int .i64 x) := by
  rw [cell_of_row w g k _ _ _ h]
  simp [arrM, ints_at hx]
theorem ArrM.free {w : World} {g : Nat} {xs : List Int} (h : ArrM w g xs) (k : Nat) : w.frozen? ⟨g, k, none⟩ = false := frozen_of_row w g k _ _ h
theorem ArrM.lt {w : World} {g : Nat} {xs : List Int} (h : ArrM w g xs) : g < w.heap.size := by
  rcases Nat.lt_or_ge g w.heap.size with h' | h'
  · exact h'
  · unfold ArrM at h; simp [Array.getElem?_eq_none h'] at h
theorem ArrM.store {w : World} {g k : Nat} {xs : List Int} (h : ArrM w g xs) (x : Int) : ArrM (w.setCell ⟨g, k, none⟩ (.int .i64 x)) g (xs.set k x) := by
  have := heap_setCell_same w g k _ _ (.int .i64 x) h
  unfold ArrM
  rw [this]
  simp [arrM, ints, intsK]
theorem ArrM.other {w : World} {g g' k : Nat} {xs : List Int} (h : ArrM w g xs) (hne : g ≠ g') (v : Value) : ArrM (w.setCell ⟨g', k, none⟩ v) g xs := by
  unfold ArrM
  rw [heap_setCell_other w ⟨g', k, none⟩ g v hne]; exact h
theorem ArrM.alloc {w : World} {g : Nat} {xs : List Int} (h : ArrM w g xs) (o : Obj) : ArrM (w.alloc o) g xs := by
  unfold ArrM
  rw [heap_alloc_old w o (ArrM.lt h)]; exact h
theorem ArrM.below {w w' : World} {g B : Nat} {xs : List Int} (h : ArrM w g xs) (hb : Below B w w') (hg : g < B) : ArrM w' g xs := by
  unfold ArrM
  rw [hb.block g hg]; exact h
theorem ArrM.drewN {w : World} {g : Nat} {xs : List Int} (h : ArrM w g xs) (m : Nat) : ArrM (w.drewN m) g xs := h
theorem ArrM.new (w : World) (xs : List Int) : ArrM (w.alloc (.cells (arrM xs) 39)) w.heap.size xs := heap_alloc_new w _
theorem ArrM.next {w : World} {g : Nat} (xs : List Int) (hg : w.heap.size = g) : ArrM (w.alloc (.cells (arrM xs) 39)) g xs := hg ▸ ArrM.new w xs
/-- a mixed list: the first k from us, the others from xs -/
theorem mixP_step {us xs : List Int} {k : Nat} {u : Int} (hk : k < xs.length) (hl : us.length = xs.length) (hu : us[k]? = some u) : (us.take k ++ xs.drop k).set k u = us.take (k + 1) ++ xs.drop (k + 1) := by
  have e1 : (us.take k).length = k := by simp; omega
  rw [List.set_append, if_neg (by omega), e1, Nat.sub_self, List.drop_eq_getElem_cons hk, List.set_cons_zero, List.take_add_one, hu]
  simp
theorem mixP_at {us xs : List Int} {k : Nat} {x : Int} (hl : us.length = xs.length) (hx : xs[k]? = some x) : (us.take k ++ xs.drop k)[k]? = some x := by
  have hk : k < xs.length := by
    rcases Nat.lt_or_ge k xs.length with g | g
    · exact g
    · rw [List.getElem?_eq_none g] at hx; cases hx
  have e1 : (us.take k).length = k := by simp; omega
  rw [List.getElem?_append_right (by omega), e1, Nat.sub_self, List.getElem?_drop, Nat.add_zero]; exact hx
theorem mixP_end {us xs : List Int} {n : Nat} (hl : us.length = n) (hx : xs.length = n) : us.take n ++ xs.drop n = us := by
  rw [List.take_of_length_le (by omega), List.drop_eq_nil_of_le (by omega), List.append_nil]

theorem arrM_two (w : World) (xs ys : List Int) : ArrM ((w.alloc (.cells (arrM xs) 39)).alloc (.cells (arrM ys) 39)) w.heap.size xs ∧ ArrM ((w.alloc (.cells (arrM xs) 39)).alloc (.cells (arrM ys) 39)) (w.heap.size + 1) ys ∧ Below w.heap.size w ((w.alloc (.cells (arrM xs) 39)).alloc (.cells (arrM ys) 39)) :=
  ⟨(ArrM.new w xs).alloc _, ArrM.next ys (by simp), ((Below.refl _ _).alloc (Nat.le_refl _) _).alloc (by simp) _⟩
theorem ArrM.row {w : World} {g : Nat} {xs : List Int} (h : ArrM w g xs) : Row w (g + 1) (some ⟨g, 0, none⟩) (ints xs) := fun k v hv => by
  refine ⟨g, 0, rfl, by omega, ?_⟩
  rw [Nat.zero_add, cell_of_row w g k _ _ _ h]
  simpa [arrM] using hv
theorem spliceM_of {xs : List Int} (hl : xs.length = 38) : splice (ints zero38) 0 (ints xs) = ints xs := by
  have e1 : splice (ints zero38) 0 (ints xs) = ints (xs ++ zero38.drop xs.length) := by
    unfold splice ints intsK; simp [List.map_drop]
  rw [e1, hl]
  show ints (xs ++ []) = _
  rw [List.append_nil]
theorem mixP_keep {us xs : List Int} {k : Nat} {x : Int} (hx : xs[k]? = some x) (hu : us[k]? = some x) : us.take k ++ xs.drop k = us.take (k + 1) ++ xs.drop (k + 1) := by
  have hlt : k < xs.length := by
    rcases Nat.lt_or_ge k xs.length with g | g
    · exact g
    · rw [List.getElem?_eq_none g] at hx; cases hx
  rw [List.getElem?_eq_getElem hlt] at hx
  injection hx with hx
  rw [List.take_add_one, hu, List.drop_eq_getElem_cons hlt, hx]; simp
theorem stillCM {P : Program} {f : FuncId} {args : Array Value} {w : World} {v : Value} (h : Calls P f args w fun e w' => e = .returned v ∧ w = w') : Calls P f args w fun e w' => e = .returned v ∧ w' = w :=
  h.mono fun _ _ ⟨he, hm⟩ => ⟨he, hm.symm⟩
/-- a cell of another block, past a store -/
theorem cell_other {w : World} {b g k : Nat} {o : Nat} {v x : Value} (h : w.cell? ⟨b, o, none⟩ = some x) (hne : b ≠ g) : (w.setCell ⟨g, k, none⟩ v).cell? ⟨b, o, none⟩ = some x :=
  (World.cell?_of_block (heap_setCell_other w ⟨g, k, none⟩ b v hne)).trans h
theorem zero_row {w : World} {lo : Nat} {T : TypeId} {v : Value} (h : w.ownsRow lo T 1 v 38 (madeCells (Value.int .i64 0).cells (38 * 1)).toList) : w.ownsRow lo T 1 v 38 (ints zero38) := by
  have e : (madeCells #[(.int .i64 0 : Value)] 38).toList = ints zero38 := by rw [toList_madeCells_one]; rfl
  exact e ▸ h
theorem info_numM : (Tryz.prog.info? 37).map (·.size) = some 1 := by kernel_rfl
set_option maxHeartbeats 1000000 in
theorem treeMapOf_any (A : Option Addr) (c B : Nat) (xs : List Int) (w : World) (hl : xs.length = 38) (ha : allNum xs = true) (hB : B ≤ w.heap.size) (h : Row w B A (ints xs)) :
    Calls Tryz.prog 20 #[.slice A 38 c] w fun e w' => e = .returned (.agg (arrM xs)) ∧ Below w.heap.size w w' := by
  have HL := Lib.hid hl
  have HA := Lib.hid ha
  clear hl ha
  go_enter Tryz.func20, Tryz.ntmps20
  go_wp2_with fail
  have F := Lib.hid (arrM_two w zero38 zero38)
  have HR : Hid (Row ((w.alloc (.cells (arrM zero38) 39)).alloc (.cells (arrM zero38) 39)) B A (ints xs)) := (h.alloc hB _).alloc (by simp; omega) _
  have HS := Lib.hid (spliceM_of (xs := xs) HL.out)
  obtain ⟨W0, hW0⟩ : ∃ W0 : World, W0 = (w.alloc (.cells (arrM zero38) 39)).alloc (.cells (arrM zero38) 39) := ⟨_, rfl⟩
  have HW0 : Hid (W0.heap.size = w.heap.size + 2) := by rw [hW0]; simp [Hid]
  change Code.wp _ _ _ _ ((w.alloc (.cells (arrM zero38) 39)).alloc (.cells (arrM zero38) 39))
  rw [← hW0] at F HR ⊢
  clear hW0 h
  go_region_held3 (fun w' => True) (first | trivial)
    (first
      | (go_at_call 34; refine (numbersOf_any _ 38 _ B xs _ HL.out (by omega) (by have := HW0.out; show B ≤ W0.heap.size; omega) (by exact HR.out)).mono ?_; rintro e w1 ⟨A1, c1, rfl, own1, bel1⟩)
      | (refine step_copy_splice (by rfl) (.tmp 4) (.tmp 6) 44 44 (by rfl) 37 Tryz.underlying44 info_numM (some ⟨w.heap.size + 1, 0, none⟩) A1 38 38 38 c1 (by rfl) (by rfl) (w.heap.size + 1) 0 (ints zero38) 39 (by exact F.out.2.1.below (show Below W0.heap.size W0 w1 from ⟨bel1.os, bel1.tape, bel1.output, bel1.size, bel1.block⟩) (by rw [HW0.out]; omega)) (ints xs) (by rw [ints_length, HL.out]; rfl) (fun h0 => ⟨rfl, (row_of_own own1).src h0⟩) (by rw [ints_length, ints_length, HL.out]; simp [zero38]) (ints_cells _) (w.heap.size + 1) W0 (by exact (show Below W0.heap.size W0 w1 from ⟨bel1.os, bel1.tape, bel1.output, bel1.size, bel1.block⟩).mono (by rw [HW0.out]; omega)) (Nat.le_refl _) ?_; intro w4 hg4 hb4))
  have G4 : Hid (ArrM w4 (w.heap.size + 1) xs) := by have := hg4.out; rw [HS.out] at this; exact this
  have G5 := Lib.hid (F.out.1.below hb4 (by omega))
  have G6 := Lib.hid (F.out.2.2.trans (hb4.mono (show w.heap.size ≤ w.heap.size + 1 by omega)))
  clear hg4 hb4
  go_wp2_with (first
    | (refine wpList_load_row rfl 39 (.tmp 3) rfl (w.heap.size + 1) rfl 39 (arrM xs) (0, 0) _ G4.out Tryz.underlying39 rfl (by rw [arrM_size HL.out]; exact info_arrM) ?_)
    | (refine wpList_store_row rfl 39 (.tmp 2) (.tmp 8) rfl w.heap.size (arrM xs) rfl rfl 39 (arrM zero38) G5.out (by rw [arrM_size HL.out]; exact info_arrM) (by rw [arrM_size HL.out]; rfl) (arrM_cells _) ?_))
  refine bodyPost_ret (v := .agg (arrM xs)) ?_ rfl ⟨rfl, below_setRow G6.out (Nat.le_refl _) _⟩
  exact results_cell_row rfl _ _ w.heap.size 39 _ (0, 0) _ rfl (setRow_heap _ _ _ _ _ _ G5.out) Tryz.underlying39 rfl (by rw [arrM_size HL.out]; exact info_arrM)
end Go.Proofs.YtnnihdkhblbdgaaGreat
/-
  The texts of the trees of a list of level lists: the walk.
-/
namespace Go.Proofs.YtnnihdkhblbdgaaGreat
open Go.RowKit Fld
set_option linter.unusedVariables false
set_option linter.unusedSimpArgs false
set_option maxRecDepth 100000

set_option maxHeartbeats 1000000 in
theorem treesOf_any (A : Option Addr) (n c B : Nat) (f : List (List Int)) (w : World) (hl : f.length = n) (hn : n ≤ 1048576) (hr : ∀ r ∈ f, Tr.isLv r = true) (hB : B ≤ w.heap.size) (h : Mat w B A f) :
    Calls Tryz.prog 56 #[.slice A n c] w fun e w' => e = .returned (.slice (some ⟨w.heap.size, 0, none⟩) n n) ∧ w'.ownsRow w.heap.size 52 1 (.slice (some ⟨w.heap.size, 0, none⟩) n n) n (strs (f.map Tr.txt)) ∧ Below w.heap.size w w' := by
  obtain ⟨i0, hi, hz0, hz1, hz2⟩ := info_parts info_tree
  have HL := Lib.hid hl
  have HR := Lib.hid hr
  have HSL : Hid ((f.map Tr.txt).length = n) := by rw [Hid, List.length_map]; exact hl
  clear hl hr
  go_enter Tryz.func56, Tryz.ntmps56
  go_wp2_with (at_make; refine wpList_make_full _ rfl (.tmp 7) (.tmp 7) 50 rfl w.heap.size 52 i0 _ 1 Tryz.underlying50 hi hz0 hz1 .i64 .i64 _ _ n rfl rfl rfl rfl (by rw [hz2]; omega) (by simp only [maxLen]; omega) (Nat.le_refl _) ?_; intro w1 hown hg)
  have F0 := FillT.start (ss := f.map Tr.txt) hown hg
  clear hown hg hz0 hz1 hz2 hi
  go_wp2_with fail
  go_loopw [11] (fun i wr => ∃ k : Nat, k ≤ n ∧ i = .int .i64 k ∧ FillT w n (f.map Tr.txt) k wr) (fun i _ => n - (intOf i).toNat)
  case atStart => exact ⟨0, Nat.zero_le _, rfl, F0⟩
  case round =>
    obtain ⟨k, hk, rfl, HF⟩ := hrel
    by_cases hlt : k < n
    · obtain ⟨r, hr⟩ := at_lt (show k < f.length by rw [HL.out]; exact hlt)
      obtain ⟨b, o, Ak, ck, rfl, hb, hc, hrc, hcm, hrow⟩ := (h.below HF.2 hB) k r hr
      obtain ⟨r1, r8⟩ := lv_bd (HR.out r (List.mem_of_getElem? hr))
      have hsz := HF.2.size
      have hst : (f.map Tr.txt)[k]? = some (Tr.txt r) := by rw [List.getElem?_map, hr]; rfl
      have HST := Lib.hid hst
      have HFF := Lib.hid HF
      clear hr hst F0 HF
      go_wp2_with fail
      refine (treeOf_any Ak r.length ck B r wr rfl r1 r8 hrc (by omega) hrow).mono ?_
      rintro e w2 ⟨rfl, bel2⟩
      have HF2 := HFF.out.below bel2
      have hf := HF2.1.frozenAt k
      have ho := HF2.1.cellAt k (by omega)
      rw [fill_at (by rw [strs_length]; exact HSL.out) hlt] at ho
      have G := Lib.hid (HF2.step HSL.out HST.out)
      obtain ⟨X, hX⟩ : ∃ X : ByteArray, X = ⟨(Tr.txt r).toArray⟩ := ⟨_, rfl⟩
      rw [← hX] at G ⊢
      clear bel2 HF2 hc hrow hX
      go_wp2
      go_roundw
      case rel => exact ⟨k + 1, by omega, by go_num, G.out⟩
      case measure => simp [intOf]; omega
    · obtain rfl : k = n := by omega
      have G : Hid (wr.ownsRow w.heap.size 52 1 (.slice (some ⟨w.heap.size, 0, none⟩) k k) k (strs (f.map Tr.txt)) ∧ Below w.heap.size w wr) := by
        obtain ⟨h1, h2⟩ := HF
        rw [fill_end _ (by rw [strs_length]; exact HSL.out)] at h1
        exact ⟨h1, h2⟩
      clear HF F0
      go_wp2
      go_ret
      exact ⟨rfl, G.out⟩
end Go.Proofs.YtnnihdkhblbdgaaGreat
/-
  The trees at the places of maps: the program's texts and the model's lists.
-/
namespace Go.Proofs.YtnnihdkhblbdgaaGreat
open Go.RowKit Fld
set_option linter.unusedVariables false
set_option linter.unusedSimpArgs false
set_option maxRecDepth 100000

def mapTo (k : Nat) : List (List UInt8) := [] :: (treesTo k).map Tr.txt
theorem mapTo_step (k : Nat) : mapTo (k + 1) = mapTo k ++ (Tr.treesL (k + 1)).map Tr.txt := by
  unfold mapTo; rw [treesTo_step, List.map_append, List.cons_append]
theorem mapTo_len (k : Nat) : (mapTo k).length = 1 + (treesTo k).length := by unfold mapTo; rw [List.length_cons, List.length_map]; omega
theorem strs_app9 (a b : List (List UInt8)) : strs a ++ strs b = strs (a ++ b) := by simp [strs]
theorem strs_one9 (l : List (List UInt8)) : ∀ u ∈ strs l, u.oneCell' = true := fun u hu => by
  unfold strs at hu
  rw [List.mem_map] at hu
  obtain ⟨x, _, rfl⟩ := hu
  rfl
set_option maxHeartbeats 2000000 in
theorem mapTrees_any (w : World) : Calls Tryz.prog 36 #[] w (NewRow 52 38 (strs mapTx) w) := by
  obtain ⟨i0, hi, hz0, hz1, hz2⟩ := info_parts info_tree
  go_enter Tryz.func36, Tryz.ntmps36
  go_wp2_with fail
  go_loopw [1, 2] (fun v i wr => ∃ (k q g cap : Nat), k ≤ 6 ∧ v = .slice (some ⟨g, 0, none⟩) q cap ∧ i = .int .i64 ((k : Int) + 1) ∧ Hid (q = (mapTo k).length) ∧ Hid (wr.ownsRow w.heap.size 52 1 (.slice (some ⟨g, 0, none⟩) q cap) q (strs (mapTo k))) ∧ Below w.heap.size w wr ∧ w.heap.size ≤ wr.heap.size) (fun _ i _ => 7 - (intOf i).toNat)
  case atStart => exact ⟨0, 1, w.heap.size, 1, Nat.zero_le _, rfl, rfl, rfl, World.ownsRow_lit (base := w.heap.size) (size := 1) (e := 52) w #[.string ⟨#[]⟩] 1 (Nat.le_refl _) (by simp [maxLen]) rfl, (Below.refl _ _).alloc (Nat.le_refl _) _, by simp⟩
  case round =>
    obtain ⟨k, q, g, cap, hk, rfl, rfl, HQ, HO, HB, hsz⟩ := hrel
    by_cases hlt : k < 6
    · have hq : q ≤ 921 := by
        have h1 := HQ.out
        have h2 := treesTo_len k (by omega)
        rw [mapTo_len] at h1
        omega
      have HBB := Lib.hid HB
      have C1 := treesWith_any (k + 1) wr (by omega) (by omega)
      obtain ⟨ha, h115⟩ := trees_all (n := k + 1) (by omega) (by omega)
      obtain ⟨T, hT⟩ : ∃ T, T = Tr.treesL (k + 1) := ⟨_, rfl⟩
      have HS : Hid (mapTo (k + 1) = mapTo k ++ T.map Tr.txt) := by rw [Hid, hT]; exact mapTo_step k
      rw [← hT] at C1 h115 ha
      have HLV : Hid (∀ r ∈ T, Tr.isLv r = true) := fun r hr => (ha r hr).1
      obtain ⟨N, hN⟩ : ∃ N, N = T.length := ⟨_, rfl⟩
      rw [← hN] at C1 h115
      have HN : Hid (T.length = N) := hN.symm
      have HSL : Hid ((strs (T.map Tr.txt)).length = N * 1) := by rw [Hid, strs_length, List.length_map, Nat.mul_one]; exact hN.symm
      have HQ2 : Hid (q + N = (mapTo (k + 1)).length) := by rw [Hid, HS.out, List.length_append, List.length_map, ← HQ.out, hN]
      clear HB hT hN ha HQ
      go_wp2_with fail
      refine C1.mono ?_
      rintro e w2 ⟨A2, c2, vs2, rfl, own2, bel2⟩
      have hs2 := bel2.size
      have HO2 : Hid (w2.ownsRow w.heap.size 52 1 (.slice (some ⟨g, 0, none⟩) q cap) q (strs (mapTo k))) := ((OwnR.of HO.out).below bel2 (Nat.le_refl _)).1
      have HM2 : Hid (Mat w2 w2.heap.size A2 T) := own2.mat
      have HB2 := Lib.hid (HBB.out.trans (bel2.mono hsz))
      clear own2 bel2 C1 HO
      go_wp2_with fail
      refine (treesOf_any A2 N c2 w2.heap.size T _ HN.out (by omega) HLV.out (Nat.le_refl _) HM2.out).mono ?_
      rintro e w3 ⟨rfl, own3, bel3⟩
      have hs3 := bel3.size
      have hown : w3.ownsRow w.heap.size 52 1 (.slice (some ⟨g, 0, none⟩) q cap) q (strs (mapTo k)) := ((OwnR.of HO2.out).below bel3 (Nat.le_refl _)).1
      have HB3 := Lib.hid (HB2.out.trans (bel3.mono (by omega)))
      have HNEW : Hid (∀ j u, (strs (T.map Tr.txt))[j]? = some u → w3.cell? ((⟨w2.heap.size, 0, none⟩ : Addr).add j) = some u) := row_news (row_of_own own3)
      have HONE := Lib.hid (strs_one9 (T.map Tr.txt))
      obtain ⟨vs, hvs⟩ : ∃ vs, vs = strs (T.map Tr.txt) := ⟨_, rfl⟩
      have HVS := Lib.hid hvs
      rw [← hvs] at HNEW HONE HSL
      clear own3 bel3 HO2 HM2 HB2 hvs
      go_wp2_with (at_builtin; refine wpList_append_own _ rfl (.tmp 8) (.tmp 11) 50 rfl w.heap.size 52 i0 _ 1 16 Tryz.underlying50 hi hz0 hz1 hz2 rfl (by omega) (.slice (some ⟨g, 0, none⟩) q cap) q (strs (mapTo k)) rfl hown ⟨w2.heap.size, 0, none⟩ N N vs rfl HSL.out HNEW.out HONE.out (by simp only [maxLen]; omega) (by omega) (by omega) ?_; intro v5 w5 own5 hgrow5 _; obtain ⟨g5, c5, rfl⟩ := own_form own5 (by have := HQ2.out; have := mapTo_len (k + 1); omega))
      have e1 : strs (mapTo k) ++ vs = strs (mapTo (k + 1)) := by rw [HVS.out, strs_app9, HS.out]
      rw [e1] at own5
      have GO := Lib.hid own5
      have GB : Hid (Below w.heap.size w w5) := HB3.out.grown hgrow5 (by omega) (fun z hz => (hown.lt z hz).1)
      have hs5 : w.heap.size ≤ w5.heap.size := by have := hgrow5.size; omega
      clear own5 hgrow5 hown e1
      go_wp2
      go_roundw
      case rel => exact ⟨k + 1, q + N, g5, c5, by omega, rfl, by go_num, HQ2, GO, GB.out, hs5⟩
      case measure => simp [intOf]; omega
    · obtain rfl : k = 6 := by omega
      have e : q = 38 := by have := HQ.out; rw [mapTo_len, to_len] at this; exact this
      subst e
      have G : Hid (NewRow 52 38 (strs mapTx) w (.returned (.slice (some ⟨g, 0, none⟩) 38 cap)) wr) := ⟨_, _, rfl, HO.out, HB⟩
      clear HB HQ
      go_wp2
      go_ret
      exact G.out
theorem strs_cell {w : World} {B b : Nat} {l : List (List UInt8)} (h : Row w B (some ⟨b, 0, none⟩) (strs l)) : ∀ k t, l[k]? = some t → w.cell? ⟨b, k, none⟩ = some (.string ⟨t.toArray⟩) := fun k t ht => by
  obtain ⟨b', o', e, _, hc⟩ := h k _ (strs_at ht)
  injection e with e
  injection e with e1 e2 _
  subst e1 e2
  rw [Nat.zero_add] at hc
  exact hc
end Go.Proofs.YtnnihdkhblbdgaaGreat
/-
  A number that a call hands back.
-/
namespace Go.Proofs.YtnnihdkhblbdgaaGreat
open Go.RowKit
/-- one number, with memory made -/
def Res1 (r : Int) (w : World) (e : Ending) (w' : World) : Prop := e = .returned (.int .i64 r) ∧ Below w.heap.size w w'
theorem Res1.of {r x : Int} {w w' : World} (h : r = x) (hb : Below w.heap.size w w') : Res1 r w (.returned (.int .i64 x)) w' := by subst h; exact ⟨rfl, hb⟩
end Go.Proofs.YtnnihdkhblbdgaaGreat
/-
  Densities.
-/
namespace Go.Proofs.YtnnihdkhblbdgaaGreat
open Go.RowKit Fld
set_option linter.unusedVariables false
set_option linter.unusedSimpArgs false
set_option maxRecDepth 100000

def PDen (d : Nat) : Prop := ∀ (x : List UInt8) (w : World), x.length ≤ d → Tr.isTx x = true → Calls Tryz.prog 54 #[.string ⟨x.toArray⟩] w (Res1 (Tr.den x) w)
theorem pDen_succ (d : Nat) (IH : PDen d) : PDen (d + 1) := by
  intro x w hxd hx
  obtain ⟨⟨h2, h16⟩, HB, h7⟩ := Tr.br_parts hx
  obtain ⟨hD, hK⟩ := Tr.den_parts hx
  have C1 := fun w => branches_any x w hx
  have C0 := nodes_any x w (by omega)
  have HD := Lib.hid hD
  have HK := Lib.hid hK
  have HBR := Lib.hid HB
  obtain ⟨P, hP⟩ : ∃ P, P = (Tr.brT x).length := ⟨_, rfl⟩
  have HP : Hid ((Tr.brT x).length = P) := hP.symm
  have hP7 : P ≤ 7 := by rw [hP]; exact h7
  have HXD := Lib.hid hxd
  obtain ⟨S, hS⟩ : ∃ S : ByteArray, S = ⟨x.toArray⟩ := ⟨_, rfl⟩
  rw [← hS] at C0 C1 ⊢
  clear hD hK HB h7 hP hxd hx hS
  go_enter Tryz.func54, Tryz.ntmps54
  go_wp2_with fail
  refine C0.mono ?_
  rintro e w0 ⟨rfl, rfl⟩
  have hw0 : IntKind.i64.wrap ((x.length / 2 : Nat) : Int) = ((x.length / 2 : Nat) : Int) := IntWalk.i64_in _ (by omega)
  go_wp2_with fail
  refine (C1 _).mono ?_
  rintro e w1 ⟨A, q, c, rfl, hq, own1, bel1⟩
  have hqP : q = P := by rw [hq]; exact HP.out
  subst hqP
  have hs1 := bel1.size
  have HROW : Hid (Row w1 w1.heap.size A (strs (Tr.brT x))) := row_of_own own1
  have HB1 := Lib.hid bel1
  clear hq own1 bel1 C0 C1
  go_wp2_with fail
  go_loopw [3, 11] (fun v i wr => ∃ k : Nat, k ≤ q ∧ v = .int .i64 (Tr.mulK Tr.den ((x.length / 2 : Nat) : Int) (Tr.brT x) k) ∧ i = .int .i64 k ∧ Below w1.heap.size w1 wr) (fun _ i _ => q - (intOf i).toNat)
  case atStart => exact ⟨0, Nat.zero_le _, by simp [Tr.mulK_zero], rfl, Below.refl _ _⟩
  case round =>
    obtain ⟨k, hk, rfl, rfl, HBw⟩ := hrel
    have hsz := HBw.size
    by_cases hlt : k < q
    · obtain ⟨y, hy⟩ := at_lt (show k < (Tr.brT x).length by rw [HP.out]; exact hlt)
      obtain ⟨hyt, hyl⟩ := HBR.out y (List.mem_of_getElem? hy)
      obtain ⟨b, o, rfl, _, hc⟩ := (HROW.out.below HBw (Nat.le_refl _)) k _ (strs_at hy)
      have C2 := fun w => IH y w (by have := HXD.out; omega) hyt
      have hk1 := HK.out k (by rw [HP.out]; omega)
      have hk2 := HK.out (k + 1) (by rw [HP.out]; omega)
      have hstep := Tr.mulK_step (f := Tr.den) (a := ((x.length / 2 : Nat) : Int)) hy
      obtain ⟨a, ha⟩ : ∃ a, a = Tr.mulK Tr.den ((x.length / 2 : Nat) : Int) (Tr.brT x) k := ⟨_, rfl⟩
      rw [hstep] at hk2
      rw [← ha] at hk1 hk2 ⊢
      have HST : Hid (Tr.mulK Tr.den ((x.length / 2 : Nat) : Int) (Tr.brT x) (k + 1) = a * Tr.den y) := by rw [ha]; exact hstep
      obtain ⟨z, hz⟩ : ∃ z, z = Tr.den y := ⟨_, rfl⟩
      rw [← hz] at hk2 HST C2
      obtain ⟨Y, hY⟩ : ∃ Y : ByteArray, Y = ⟨y.toArray⟩ := ⟨_, rfl⟩
      rw [← hY] at C2 hc
      have hmw : IntKind.i64.wrap (a * z) = a * z := IntWalk.i64_in _ (by omega)
      have HBW := Lib.hid HBw
      clear hy hyt hyl hstep ha hz hY HBw hk1
      go_wp2_with fail
      refine (C2 _).mono ?_
      rintro e w2 ⟨rfl, bel2⟩
      have HB2 : Hid (Below w1.heap.size w1 w2) := HBW.out.trans (bel2.mono hsz)
      clear bel2 hk2
      go_wp2
      go_roundw
      case rel => exact ⟨k + 1, by omega, by rw [HST.out], by go_num, HB2.out⟩
      case measure => simp [intOf]; omega
    · obtain rfl : k = q := by omega
      have G : Hid (Res1 (Tr.den x) w (.returned (.int .i64 (Tr.mulK Tr.den ((x.length / 2 : Nat) : Int) (Tr.brT x) k))) wr) :=
        Res1.of (by rw [HD.out, HP.out]) (HB1.out.trans (HBw.mono hs1))
      clear HBw
      go_wp2
      go_ret
      exact G.out
theorem density_any (x : List UInt8) (w : World) (hx : Tr.isTx x = true) : Calls Tryz.prog 54 #[.string ⟨x.toArray⟩] w (Res1 (Tr.den x) w) := by
  have key : ∀ d, PDen d := fun d => by
    induction d with
    | zero => intro y w hy ht; have := (Tr.br_parts ht).1.1; omega
    | succ d ih => exact pDen_succ d ih
  exact key x.length x w (Nat.le_refl _) hx
def densityA (t : List Int) : Int × Int := if Tr.isLv t = true then (Tr.denM t, 0) else (0, 1)
theorem densityA_yes {t : List Int} (h : Tr.isLv t = true) : densityA t = (Tr.denM t, 0) := if_pos h
theorem densityA_no {t : List Int} (h : Tr.isLv t = false) : densityA t = (0, 1) := if_neg (by rw [h]; simp)
def SDen (d : Nat) : Prop := ∀ (A : Option Addr) (n c B : Nat) (t : List Int) (w : World), t.length = n → n ≤ d → Tr.isLv t = true → B ≤ w.heap.size → Row w B A (ints t) → Calls Tryz.prog 30 #[.slice A n c] w (Res1 (Tr.denM t) w)
theorem sDen_succ (d : Nat) (IH : SDen d) : SDen (d + 1) := by
  intro A n c B t w hl hnd hlv hB h
  have n8 : n ≤ 8 := by have := (Tr.isLv_iff.1 hlv).2.1; omega
  obtain ⟨_, PS, P7⟩ := Tr.can_parts hlv
  obtain ⟨⟨hD, hK⟩, _⟩ := Tr.denM_parts hlv
  rw [hl] at hD hK
  have HD := Lib.hid hD
  have HK := Lib.hid hK
  have HPS := Lib.hid PS
  have HL := Lib.hid hl
  obtain ⟨P, hP⟩ : ∃ P, P = (Tr.partsL t).length := ⟨_, rfl⟩
  have HP : Hid ((Tr.partsL t).length = P) := hP.symm
  have C0 := l03Parts_any A n c B t w hl hlv hB h
  rw [HP.out] at C0
  have hP7 : P ≤ 7 := by rw [hP]; exact P7
  clear hl hlv PS P7 hP hD hK
  go_enter Tryz.func30, Tryz.ntmps30
  have hw0 : IntKind.i64.wrap (n : Int) = (n : Int) := IntWalk.i64_in _ (by omega)
  go_wp2_with fail
  refine C0.mono ?_
  rintro e w1 ⟨Ap, cp, pvs, rfl, ownp, belp⟩
  have HMP : Hid (Mat w1 w1.heap.size Ap (Tr.partsL t)) := ownp.mat
  have HB1 := Lib.hid belp
  have hs1 := belp.size
  clear ownp belp C0
  go_wp2_with fail
  go_loopw [3, 5] (fun v i wr => ∃ k : Nat, k ≤ P ∧ v = .int .i64 (Tr.mulK Tr.denM (n : Int) (Tr.partsL t) k) ∧ i = .int .i64 k ∧ Below w1.heap.size w1 wr) (fun _ i _ => P - (intOf i).toNat)
  case atStart => exact ⟨0, Nat.zero_le _, by simp [Tr.mulK_zero], rfl, Below.refl _ _⟩
  case round =>
    obtain ⟨k, hk, rfl, rfl, HBw⟩ := hrel
    have hsz := HBw.size
    by_cases hlt : k < P
    · obtain ⟨p, hp⟩ := at_lt (show k < (Tr.partsL t).length by rw [HP.out]; exact hlt)
      obtain ⟨bp, op, Ak, ck, rfl, hbp, hcp, hlc, hcm, hrp⟩ := HMP.out.below HBw (Nat.le_refl _) k p hp
      obtain ⟨hpl, hpt⟩ := HPS.out p (List.mem_of_getElem? hp)
      have C2 := fun w' (hw' : w1.heap.size ≤ w'.heap.size) hr => IH Ak p.length ck w1.heap.size p w' rfl (by have := HL.out; omega) hpl hw' hr
      have hk2 := HK.out (k + 1) (by rw [HP.out]; omega)
      have hstep := Tr.mulK_step (f := Tr.denM) (a := (n : Int)) hp
      obtain ⟨a, ha⟩ : ∃ a, a = Tr.mulK Tr.denM (n : Int) (Tr.partsL t) k := ⟨_, rfl⟩
      rw [hstep] at hk2
      rw [← ha] at hk2 ⊢
      have HST : Hid (Tr.mulK Tr.denM (n : Int) (Tr.partsL t) (k + 1) = a * Tr.denM p) := by rw [ha]; exact hstep
      obtain ⟨z, hz⟩ : ∃ z, z = Tr.denM p := ⟨_, rfl⟩
      rw [← hz] at hk2 HST C2
      have hmw : IntKind.i64.wrap (a * z) = a * z := IntWalk.i64_in _ (by omega)
      have HBW := Lib.hid HBw
      clear hp hpl hpt hstep ha hz HBw
      go_wp2_with fail
      refine (C2 _ (by exact hsz) (by exact hrp)).mono ?_
      rintro e w2 ⟨rfl, bel2⟩
      have HB2 : Hid (Below w1.heap.size w1 w2) := HBW.out.trans (bel2.mono hsz)
      clear bel2 hk2 hcp
      go_wp2
      go_roundw
      case rel => exact ⟨k + 1, by omega, by rw [HST.out], by go_num, HB2.out⟩
      case measure => simp [intOf]; omega
    · obtain rfl : k = P := by omega
      have G : Hid (Res1 (Tr.denM t) w (.returned (.int .i64 (Tr.mulK Tr.denM (n : Int) (Tr.partsL t) k))) wr) :=
        Res1.of (by rw [HD.out, HP.out]) (HB1.out.trans (HBw.mono hs1))
      clear HBw
      go_wp2
      go_ret
      exact G.out
theorem l03Density_any (A : Option Addr) (n c B : Nat) (t : List Int) (w : World) (hl : t.length = n) (hlv : Tr.isLv t = true) (hB : B ≤ w.heap.size) (h : Row w B A (ints t)) : Calls Tryz.prog 30 #[.slice A n c] w (Res1 (Tr.denM t) w) := by
  have key : ∀ d, SDen d := fun d => by
    induction d with
    | zero => intro A n c B t w hl hn hlv; have := (Tr.isLv_iff.1 hlv).1; omega
    | succ d ih => exact sDen_succ d ih
  exact key n A n c B t w hl (Nat.le_refl _) hlv hB h
end Go.Proofs.YtnnihdkhblbdgaaGreat
/-
  The exact map, the program's and the model's.
-/
namespace Go.Proofs.YtnnihdkhblbdgaaGreat
open Go.RowKit Fld
set_option linter.unusedVariables false
set_option linter.unusedSimpArgs false
set_option maxRecDepth 100000

def exactV (t : List Int) : Int := inv (Tr.denM t % 10007)
def exactL : List Int := 1 :: (treesTo 6).map exactV
theorem exactL_length : exactL.length = 38 := by unfold exactL; rw [List.length_cons, List.length_map, to_len]
theorem exactL_num : allNum exactL = true := by
  rw [allNum_iff]
  intro x hx
  unfold exactL at hx
  rw [List.mem_cons, List.mem_map] at hx
  rcases hx with rfl | ⟨t, _, rfl⟩
  · omega
  · exact ⟨inv_lo _, inv_hi _⟩
theorem exactL_at {k : Nat} {t : List Int} (h : (treesTo 6)[k]? = some t) : exactL[k + 1]? = some (exactV t) := by
  unfold exactL; rw [List.getElem?_cons_succ, List.getElem?_map, h]; rfl
theorem mapTx_tree {k : Nat} {t : List Int} (h : (treesTo 6)[k]? = some t) : mapTx[k + 1]? = some (Tr.txt t) := by
  unfold mapTx; rw [List.getElem?_cons_succ, List.getElem?_map, h]; rfl
theorem to_lv {k : Nat} {t : List Int} (h : (treesTo 6)[k]? = some t) : Tr.isLv t = true := by
  have hm := List.mem_of_getElem? h
  unfold treesTo at hm
  rw [List.mem_flatMap] at hm
  obtain ⟨n, hn, ht⟩ := hm
  rw [List.mem_range] at hn
  exact ((trees_all (n := n + 1) (by omega) (by omega)).1 t ht).1
theorem unit_mix : unitL = exactL.take (0 + 1) ++ unitL.drop (0 + 1) := rfl
theorem unitL_at {k : Nat} (h : k < 37) : unitL[k + 1]? = some 0 := by
  unfold unitL; rw [List.getElem?_cons_succ, List.getElem?_replicate, if_pos h]
set_option maxHeartbeats 2000000 in
theorem exactMap_any (w : World) : Calls Tryz.prog 35 #[] w fun e w' => e = .returned (.agg (arrM exactL)) ∧ Below w.heap.size w w' := by
  have EL := Lib.hid exactL_length
  have UL := Lib.hid unitL_length
  go_enter Tryz.func35, Tryz.ntmps35
  go_wp2_with (refine wpList_store_row rfl 39 (.tmp 1) (.tmp 4) rfl (w.heap.size + 1) (arrM unitL) rfl rfl 39 (arrM zero38) (arrM_two w zero38 zero38).2.1 (by rw [arrM_size UL.out]; exact info_arrM) (by rw [arrM_size UL.out]; rfl) (arrM_cells _) ?_)
  refine (mapTrees_any _).mono ?_
  rintro e w2 ⟨A2, c2, rfl, own2, bel2⟩
  have FX0 : ArrM (((w.alloc (.cells (arrM zero38) 39)).alloc (.cells (arrM zero38) 39)).setRow (w.heap.size + 1) (arrM unitL)) (w.heap.size + 1) unitL := setRow_heap _ _ _ _ _ _ (arrM_two w zero38 zero38).2.1
  have FZ0 : ArrM (((w.alloc (.cells (arrM zero38) 39)).alloc (.cells (arrM zero38) 39)).setRow (w.heap.size + 1) (arrM unitL)) w.heap.size zero38 := (setRow_other _ _ _ _ (by omega)).trans (arrM_two w zero38 zero38).1
  have FX : Hid (ArrM w2 (w.heap.size + 1) (exactL.take (0 + 1) ++ unitL.drop (0 + 1))) := FX0.below bel2 (by simp [World.setRow])
  have FZ : Hid (ArrM w2 w.heap.size zero38) := FZ0.below bel2 (by simp [World.setRow]; omega)
  have FB : Hid (Below w.heap.size w w2) := (below_setRow (arrM_two w zero38 zero38).2.2 (by omega) (arrM unitL)).trans (bel2.mono (by simp [World.setRow]; omega))
  obtain ⟨g2, rfl⟩ := own_addr own2 (by omega)
  have hg2 : w.heap.size + 1 < g2 := by have := (own2.lt g2 rfl).1; simp [World.setRow] at this; omega
  have FT := Lib.hid (strs_cell (row_of_own own2))
  have hcap := (own_cap own2).1
  have hc1 : ¬ c2 = 1 := by omega
  clear own2 bel2 FX0 FZ0
  go_wp2_with fail
  go_loopw [8] (fun i wr => ∃ k : Nat, k ≤ 37 ∧ i = .int .i64 k ∧ Hid (ArrM wr (w.heap.size + 1) (exactL.take (k + 1) ++ unitL.drop (k + 1))) ∧ Hid (ArrM wr w.heap.size zero38) ∧ Hid (∀ k t, mapTx[k]? = some t → wr.cell? ⟨g2, k, none⟩ = some (.string ⟨t.toArray⟩)) ∧ Hid (Below w.heap.size w wr)) (fun i _ => 37 - (intOf i).toNat)
  case atStart => exact ⟨0, by omega, rfl, FX, FZ, FT, FB⟩
  case round =>
    obtain ⟨k, hk, rfl, HX, HZ, HT, HB⟩ := hrel
    by_cases hlt : k < 37
    · obtain ⟨t, ht⟩ := at_lt (show k < (treesTo 6).length by rw [to_len]; exact hlt)
      have hlv := to_lv ht
      have hct := HT.out (k + 1) _ (mapTx_tree ht)
      have hc := HX.out.cell (mixP_at (us := exactL) (by rw [EL.out, UL.out]) (unitL_at hlt))
      have hf := HX.out.free (k + 1)
      have C1 := fun w' => density_any (Tr.txt t) w' (Tr.tx_txt hlv)
      rw [(Tr.denM_parts hlv).2] at C1
      obtain ⟨d1, d2⟩ := Tr.denM_bd hlv
      have TA : exactL[k + 1]? = some (inv (Tr.denM t % 10007)) := exactL_at ht
      have k0 : (0 : Int) ≤ (k : Int) + 1 := by omega
      have k1 : (k : Int) + 1 < 38 := by omega
      have kk0 : (0 : Int) ≤ (k : Int) := Int.natCast_nonneg _
      have kk1 : (k : Int) < 37 := by omega
      have ew : IntKind.i64.wrap ((k : Int) + 1) = (k : Int) + 1 := IntWalk.i64_in _ (by omega)
      have en : ((k : Int) + 1).toNat = k + 1 := by omega
      have ek : 1 + k = k + 1 := by omega
      obtain ⟨X, hX⟩ : ∃ X : ByteArray, X = ⟨(Tr.txt t).toArray⟩ := ⟨_, rfl⟩
      rw [← hX] at hct C1
      obtain ⟨D, hD⟩ : ∃ D : Int, D = Tr.denM t := ⟨_, rfl⟩
      rw [← hD] at C1 TA d1 d2
      obtain ⟨V, hV⟩ : ∃ V : Int, V = inv (D % 10007) := ⟨_, rfl⟩
      rw [← hV] at TA
      have C3 := fun w' => inverse_any (D % 10007) w' (by omega) (by omega)
      rw [← hV] at C3
      have HGX : Hid (∀ W : World, ArrM W (w.heap.size + 1) (exactL.take (k + 1) ++ unitL.drop (k + 1)) → ArrM (W.setCell ⟨w.heap.size + 1, k + 1, none⟩ (.int .i64 V)) (w.heap.size + 1) (exactL.take (k + 1 + 1) ++ unitL.drop (k + 1 + 1))) := fun W hW => by
        have := hW.store (k := k + 1) V
        rw [mixP_step (by rw [UL.out]; omega) (by rw [EL.out, UL.out]) TA] at this
        exact this
      have hs1 := HB.out.size
      have hsg : g2 < wr.heap.size := by
        have h9 := hct
        rcases Nat.lt_or_ge g2 wr.heap.size with h8 | h8
        · exact h8
        · exfalso
          unfold World.cell? at h9
          simp [Array.getElem?_eq_none h8] at h9
      clear ht hlv hX hD hV TA FX FZ FT FB hc hf
      go_wp2_with fail
      refine (C1 _).mono ?_
      rintro e w3 ⟨rfl, bel3⟩
      have hx1 : w.heap.size + 1 < wr.heap.size := by omega
      have HX3 := HX.out.below bel3 hx1
      have HZ3 := Lib.hid (HZ.out.below bel3 (by omega))
      have HT3 : Hid (∀ k t, mapTx[k]? = some t → w3.cell? ⟨g2, k, none⟩ = some (.string ⟨t.toArray⟩)) := fun j u hu => (bel3.cell (p := ⟨g2, j, none⟩) hsg).trans (HT.out j u hu)
      have HB3 := Lib.hid (HB.out.trans (bel3.mono hs1))
      have hc3 : ∃ v, w3.cell? ⟨w.heap.size + 1, k + 1, none⟩ = some v := ⟨_, HX3.cell (mixP_at (us := exactL) (by rw [EL.out, UL.out]) (unitL_at hlt))⟩
      obtain ⟨v9, hc3⟩ := hc3
      have hf3 := HX3.free (k + 1)
      have GX := Lib.hid (HGX.out w3 HX3)
      have GZ : Hid (ArrM (w3.setCell ⟨w.heap.size + 1, k + 1, none⟩ (.int .i64 V)) w.heap.size zero38) := HZ3.out.other (by omega) _
      have GT : Hid (∀ j t, mapTx[j]? = some t → (w3.setCell ⟨w.heap.size + 1, k + 1, none⟩ (.int .i64 V)).cell? ⟨g2, j, none⟩ = some (.string ⟨t.toArray⟩)) := fun j t ht => cell_other (HT3.out j t ht) (by omega)
      have GB : Hid (Below w.heap.size w (w3.setCell ⟨w.heap.size + 1, k + 1, none⟩ (.int .i64 V))) := below_set HB3.out (by omega) _
      clear HX HZ HT HB HX3 HZ3 HT3 HB3 bel3 hct C1 HGX
      go_wp2_with fail
      refine (reduced_any D _).mono ?_
      rintro e w' ⟨rfl, rfl⟩
      go_wp2_with fail
      refine (C3 _).mono ?_
      rintro e w' ⟨rfl, rfl⟩
      go_wp2
      go_roundw
      case rel => exact ⟨k + 1, by omega, by go_num, GX, GZ, GT, GB⟩
      case measure => simp [intOf]; omega
    · obtain rfl : k = 37 := by omega
      have GX : Hid (ArrM wr (w.heap.size + 1) exactL) := by
        have := HX.out
        rw [mixP_end EL.out UL.out] at this
        exact this
      clear HX FX FZ FT FB HT
      go_wp2_with (first
        | (refine wpList_load_row rfl 39 (.tmp 1) rfl (w.heap.size + 1) rfl 39 (arrM exactL) (0, 0) _ GX.out Tryz.underlying39 rfl (by rw [arrM_size EL.out]; exact info_arrM) ?_)
        | (refine wpList_store_row rfl 39 (.tmp 0) (.tmp 21) rfl w.heap.size (arrM exactL) rfl rfl 39 (arrM zero38) HZ.out (by rw [arrM_size EL.out]; exact info_arrM) (by rw [arrM_size EL.out]; rfl) (arrM_cells _) ?_))
      refine bodyPost_ret (v := .agg (arrM exactL)) ?_ rfl ⟨rfl, below_setRow HB.out (Nat.le_refl _) _⟩
      exact results_cell_row rfl _ _ w.heap.size 39 _ (0, 0) _ rfl (setRow_heap _ _ _ _ _ _ HZ.out) Tryz.underlying39 rfl (by rw [arrM_size EL.out]; exact info_arrM)
set_option maxHeartbeats 1000000 in
theorem l07Exact_any (w : World) : Calls Tryz.prog 15 #[] w (NewRow 2 38 (ints exactL) w) := by
  obtain ⟨i0, hi, hz0, hz1, hz2⟩ := info_parts info_i64
  have C1 := fun w' => l03All_any 6 w' (by omega) (by omega)
  rw [to_len] at C1
  go_enter Tryz.func15, Tryz.ntmps15
  go_wp2_with fail
  refine (C1 _).mono ?_
  rintro e w1 ⟨A1, c1, vs1, rfl, own1, bel1⟩
  have hs1 := bel1.size
  have FM : Hid (Mat w1 w1.heap.size A1 (treesTo 6)) := own1.mat
  have B1 := Lib.hid bel1
  have F0 : Hid ((w1.alloc (.cells #[.int .i64 1] 2)).ownsRow w1.heap.size 2 1 (.slice (some ⟨w1.heap.size, 0, none⟩) 1 1) 1 (ints (exactL.take (0 + 1)))) := World.ownsRow_lit (base := w1.heap.size) (size := 1) (e := 2) w1 #[.int .i64 1] 1 (Nat.le_refl _) (by simp [maxLen]) rfl
  have FB : Hid (Below w1.heap.size w1 (w1.alloc (.cells #[.int .i64 1] 2))) := (Below.refl _ _).alloc (Nat.le_refl _) _
  clear own1 bel1 C1
  go_wp2_with fail
  go_loopw [2, 3] (fun v i wr => ∃ (k g cap : Nat), k ≤ 37 ∧ v = .slice (some ⟨g, 0, none⟩) (k + 1) cap ∧ i = .int .i64 k ∧ Hid (wr.ownsRow w1.heap.size 2 1 (.slice (some ⟨g, 0, none⟩) (k + 1) cap) (k + 1) (ints (exactL.take (k + 1)))) ∧ Hid (Below w1.heap.size w1 wr)) (fun _ i _ => 37 - (intOf i).toNat)
  case atStart => exact ⟨0, w1.heap.size, 1, by omega, rfl, rfl, F0, FB⟩
  case round =>
    obtain ⟨k, g, cap, hk, rfl, rfl, HO, HBB⟩ := hrel
    by_cases hlt : k < 37
    · obtain ⟨t, ht⟩ := at_lt (show k < (treesTo 6).length by rw [to_len]; exact hlt)
      have hlv := to_lv ht
      obtain ⟨q1, q8⟩ := lv_bd hlv
      obtain ⟨b1, o1, Ak, ck, rfl, _, hct, hlc, hcm, hrow⟩ := (Mat.below FM.out HBB.out (Nat.le_refl _)) k t ht
      have hsz := HBB.out.size
      obtain ⟨d1, d2⟩ := Tr.denM_bd hlv
      have TA : exactL[k + 1]? = some (inv (Tr.denM t % 10007)) := exactL_at ht
      have C1 := l03Density_any Ak t.length ck w1.heap.size t wr rfl hlv hsz hrow
      have i0' := inv_lo (Tr.denM t % 10007)
      have i1' := inv_hi (Tr.denM t % 10007)
      obtain ⟨D, hD⟩ : ∃ D : Int, D = Tr.denM t := ⟨_, rfl⟩
      rw [← hD] at C1 TA d1 d2 i0' i1'
      have C2 := fun w' => l01Frac_any 1 D w'
      obtain ⟨V, hV⟩ : ∃ V : Int, V = inv (D % 10007) := ⟨_, rfl⟩
      rw [← hV] at TA C2 i0' i1'
      have ev : 1 % 10007 * V % 10007 = V := by omega
      rw [ev] at C2
      have HE : Hid (ints (exactL.take (k + 1)) ++ [.int .i64 V] = ints (exactL.take (k + 1 + 1))) := grow_ints TA
      have k0 : (0 : Int) ≤ (k : Int) := Int.natCast_nonneg _
      clear ht hlv hD hV TA hrow ev
      go_wp2_with fail
      refine C1.mono ?_
      rintro e w2 ⟨rfl, bel2⟩
      have hs2 := bel2.size
      have HO2 := ((OwnR.of HO.out).below bel2 (Nat.le_refl _)).1
      have HB2 := Lib.hid (HBB.out.trans (bel2.mono hsz))
      clear bel2 C1 HO HBB
      go_wp2_with fail
      refine (C2 _).mono ?_
      rintro e w' ⟨rfl, rfl⟩
      go_wp2_with (at_builtin; refine wpList_append_lies _ rfl (.tmp 12) (.tmp 19) 22 rfl w1.heap.size 2 i0 _ 1 8 Tryz.underlying22 hi hz0 hz1 hz2 rfl (by omega) (.slice (some ⟨g, 0, none⟩) (k + 1) cap) (k + 1) (ints (exactL.take (k + 1))) rfl (HO2.alloc _) ⟨w2.heap.size, 0, none⟩ 1 1 [.int .i64 V] rfl rfl (World.news_of_block (cs := #[.int .i64 V]) (heap_alloc_new _ _)) (by simp [Value.oneCell']) (by omega) (by simp only [maxLen]; omega) (by omega) (by simp; omega) (w2.heap.size + 1) (by simp) ?_; intro g5 cap5 w5 hown5 hgrow5 hat5 hlt5)
      have hown5' := hown5
      rw [HE.out] at hown5'
      have GO := Lib.hid hown5'
      have GB : Hid (Below w1.heap.size w1 w5) := (HB2.out.alloc (by omega) _).grown hgrow5 (by simp; omega) (fun z hz => (HO2.lt z hz).1)
      clear hown5 hown5' hgrow5 hat5 HO2
      go_wp2
      go_roundw
      case rel => exact ⟨k + 1, g5, cap5, by omega, rfl, by go_num, GO, GB⟩
      case measure => simp [intOf]; omega
    · obtain rfl : k = 37 := by omega
      have GO : Hid (wr.ownsRow w.heap.size 2 1 (.slice (some ⟨g, 0, none⟩) 38 cap) 38 (ints exactL)) := by
        have := HO.out
        rw [List.take_of_length_le (by rw [exactL_length]; omega)] at this
        exact ((OwnR.of this).more hs1 (Nat.le_refl _)).1
      have GB := Lib.hid (B1.out.trans (HBB.out.mono hs1))
      clear HO HBB
      go_wp2
      go_ret
      exact ⟨_, _, rfl, GO.out, GB.out⟩
end Go.Proofs.YtnnihdkhblbdgaaGreat
/-
  Up to which number of nodes maps agree: the program's.
-/
namespace Go.Proofs.YtnnihdkhblbdgaaGreat
open Go.RowKit Fld
set_option linter.unusedVariables false
set_option linter.unusedSimpArgs false
set_option maxRecDepth 100000

/-- an integer, and only new memory -/
def ResN1 (x : Int) (w : World) (e : Ending) (w' : World) : Prop := e = .returned (.int .i64 x) ∧ Below w.heap.size w w'
set_option maxHeartbeats 1000000 in
theorem agreesTo_any (xs ys : List Int) (w : World) (hl : xs.length = 38) (hl' : ys.length = 38) :
    Calls Tryz.prog 38 #[.agg (arrM xs), .agg (arrM ys)] w (ResN1 (agrA xs ys) w) := by
  have HL := Lib.hid hl
  have HL' := Lib.hid hl'
  have HIF := Lib.hid info_arrM
  clear hl hl'
  have F := Lib.hid (arrM_two w xs ys)
  go_enter Tryz.func38, Tryz.ntmps38
  go_wp2_with fail
  refine (mapTrees_any _).mono ?_
  rintro e w1 ⟨A1, c1, rfl, own1, bel1⟩
  have B1 : Hid (Below w.heap.size w w1) := F.out.2.2.trans (bel1.mono (by simp; omega))
  have FX : Hid (ArrM w1 w.heap.size xs) := F.out.1.below bel1 (by simp; omega)
  have FY : Hid (ArrM w1 (w.heap.size + 1) ys) := F.out.2.1.below bel1 (by simp)
  have FT : Hid (Row w1 w1.heap.size A1 (strs mapTx)) := row_of_own own1
  clear own1 bel1 F
  go_wp2_with fail
  go_loopw [9] (fun i wr => ∃ k d : Nat, k ≤ 38 ∧ i = .int .i64 k ∧ wr = w1.drewN d ∧ Hid (agrA xs ys = agrL (xs.drop k) (ys.drop k) (lens.drop k))) (fun i _ => 38 - (intOf i).toNat)
  case atStart => exact ⟨0, 0, by omega, rfl, rfl, agr_start xs ys⟩
  case round =>
    obtain ⟨k, d, hk, rfl, rfl, HI⟩ := hrel
    by_cases hlt : k < 38
    · obtain ⟨x, hx⟩ := at_lt (show k < xs.length by rw [HL.out]; exact hlt)
      obtain ⟨y, hy⟩ := at_lt (show k < ys.length by rw [HL'.out]; exact hlt)
      obtain ⟨l, hll, l6⟩ := lens_at hlt
      obtain ⟨t, ht, htl⟩ := mapTx_at hll
      obtain ⟨b, o, rfl, hb, hc⟩ := FT.out k _ (strs_at ht)
      have hcx : w1.cell? ⟨w.heap.size, k, none⟩ = some (.int .i64 x) := FX.out.cell hx
      have hcy : w1.cell? ⟨w.heap.size + 1, k, none⟩ = some (.int .i64 y) := FY.out.cell hy
      have hct : w1.cell? ⟨b, o + k, none⟩ = some (.string ⟨t.toArray⟩) := hc
      have k0 : (0 : Int) ≤ (k : Int) := Int.natCast_nonneg _
      have k1 : (k : Int) < 38 := by omega
      by_cases hxy : x = y
      · have G := Lib.hid (HI.out.trans (agr_next hx hy hll hxy))
        have tt : (x != y) = false := bne_f hxy
        obtain ⟨X, hX⟩ : ∃ X : ByteArray, X = ⟨t.toArray⟩ := ⟨_, rfl⟩
        rw [← hX] at hct
        clear hx hy hll ht htl hc HI hxy hX
        go_wp2_with fail
        go_quiet (fail)
        go_wp2
        go_roundw
        case rel => exact ⟨k + 1, _, by omega, by go_num, rfl, G⟩
        case measure => simp [intOf]; omega
      · have G := Lib.hid (HI.out.trans (agr_stop hx hy hll hxy))
        have tt : (x != y) = true := bne_t hxy
        have htl2 : t.length / 2 = l := by omega
        have C1 := fun w' => nodes_any t w' (by omega)
        rw [htl2] at C1
        obtain ⟨X, hX⟩ : ∃ X : ByteArray, X = ⟨t.toArray⟩ := ⟨_, rfl⟩
        rw [← hX] at hct C1
        clear hx hy hll ht htl htl2 hc HI hxy hX
        go_wp2_with fail
        go_quiet (fail)
        go_wp2_with fail
        refine (C1 _).mono ?_
        rintro e w' ⟨rfl, rfl⟩
        go_wp2
        go_ret
        exact ⟨ret_i64 G.out.symm, below_drewN B1.out _⟩
    · obtain rfl : k = 38 := by omega
      have G := Lib.hid (HI.out.trans agr_end)
      clear HI
      go_wp2
      go_ret
      exact ⟨ret_i64 G.out.symm, below_drewN B1.out _⟩
end Go.Proofs.YtnnihdkhblbdgaaGreat
/-
  The place of a list in a list of lists, the model's.
-/
namespace Go.Proofs.YtnnihdkhblbdgaaGreat
open Go.RowKit Fld
set_option linter.unusedVariables false
set_option linter.unusedSimpArgs false
set_option maxRecDepth 100000

set_option maxHeartbeats 1000000 in
theorem l03Find_any (A Au : Option Addr) (n c nu cu B Bu : Nat) (m : List (List Int)) (u : List Int) (w : World) (hl : m.length = n) (hn : n ≤ 1048576) (hr : ∀ r ∈ m, r.length ≤ 1048576) (hu : u.length = nu) (hnu : nu ≤ 1048576) (h : Mat w B A m) (h' : Row w Bu Au (ints u)) :
    Calls Tryz.prog 17 #[.slice A n c, .slice Au nu cu] w fun e w' => e = .returned (.int .i64 (Tr.idxL u m 0)) ∧ ∃ k, w' = w.drewN k := by
  have HL := Lib.hid hl
  have HR := Lib.hid hr
  clear hl hr
  go_enter Tryz.func17, Tryz.ntmps17
  go_wp2_with fail
  go_loopw [5] (fun i wr => ∃ k d : Nat, k ≤ n ∧ i = .int .i64 k ∧ wr = w.drewN d ∧ Hid (Tr.idxL u m 0 = Tr.idxL u (m.drop k) k)) (fun i _ => n - (intOf i).toNat)
  case atStart => exact ⟨0, 0, Nat.zero_le _, rfl, rfl, rfl⟩
  case round =>
    obtain ⟨k, d, hk, rfl, rfl, HI⟩ := hrel
    by_cases hlt : k < n
    · obtain ⟨r, hr⟩ := at_lt (show k < m.length by rw [HL.out]; exact hlt)
      obtain ⟨b, o, Ak, ck, rfl, _, hca, _, _, hrow⟩ := (Mat.drewN h d) k r hr
      have HRL : Hid (r.length ≤ 1048576) := HR.out r (List.mem_of_getElem? hr)
      obtain ⟨N1, N2⟩ := Tr.idx_next HI.out hr
      have C1 := l01Same_any Ak Au r.length nu ck cu B Bu r u (w.drewN d) rfl hu (by have := HRL.out; omega) (by omega) hrow (h'.drewN d)
      clear hr HI hrow
      by_cases hru : r = u
      · have G := Lib.hid (N1 hru)
        rw [hru, eqL_self, ← hru] at C1
        clear N1 N2 hru
        go_wp2_with (go_at_call 32; refine C1.mono ?_; rintro e w' ⟨rfl, d2, rfl⟩)
        go_ret
        exact ⟨by rw [G.out]; rfl, _, rfl⟩
      · have G := Lib.hid (N2 hru)
        have e : eqL r u = false := by unfold eqL; exact decide_eq_false hru
        rw [e] at C1
        clear N1 N2 hru e
        go_wp2_with (go_at_call 32; refine C1.mono ?_; rintro e w' ⟨rfl, d2, rfl⟩)
        go_roundw
        case rel => exact ⟨k + 1, _, by omega, by go_num, rfl, G⟩
        case measure => simp [intOf]; omega
    · have G := Lib.hid (Tr.idx_end HI.out (by rw [HL.out]; omega))
      clear HI
      go_wp2
      go_ret
      exact ⟨by rw [G.out]; rfl, _, rfl⟩
end Go.Proofs.YtnnihdkhblbdgaaGreat
/-
  What ReducedOrder answers, the program's and the model's.
-/
namespace Go.Proofs.YtnnihdkhblbdgaaGreat
open Go.RowKit Fld
set_option linter.unusedVariables false
set_option linter.unusedSimpArgs false
set_option maxRecDepth 100000

/-- the values of the exact map where there is no free condition -/
def fixL (a : List Int) : List Int := (List.range 38).map fun i => if i = 0 ∨ keepC ((treesTo 6).getD (i - 1) []) = true then a.getD i 0 else exactL.getD i 0
theorem fixL_length (a : List Int) : (fixL a).length = 38 := by unfold fixL; rw [List.length_map, List.length_range]
theorem fixL_zero (a : List Int) : (fixL a)[0]? = some (a.getD 0 0) := by
  unfold fixL; rw [List.getElem?_map, List.getElem?_range (by omega)]; rfl
theorem fixL_at {a t : List Int} {k : Nat} (h : (treesTo 6)[k]? = some t) : (fixL a)[k + 1]? = some (if keepC t = true then a.getD (k + 1) 0 else exactV t) := by
  have h37 : k < 37 := by
    rcases Nat.lt_or_ge k 37 with q | q
    · exact q
    · rw [List.getElem?_eq_none (by rw [to_len]; exact q)] at h; cases h
  have e : (treesTo 6).getD (k + 1 - 1) [] = t := by rw [Nat.add_sub_cancel, List.getD_eq_getElem?_getD, h]; rfl
  have e2 : exactL.getD (k + 1) 0 = exactV t := by rw [List.getD_eq_getElem?_getD, exactL_at h]; rfl
  unfold fixL
  rw [List.getElem?_map, List.getElem?_range (by omega), Option.map_some, e, e2]
  by_cases hk : keepC t = true
  · rw [if_pos (.inr hk), if_pos hk]
  · rw [if_neg (by simp [hk]), if_neg hk]
/-- the model's search among free conditions -/
def redF (a : List Int) : List (List Int) → Int
  | [] => 6
  | t :: r => if a.getD (Tr.idxL t (treesTo 6) 0 + 1).toNat 0 = exactL.getD (Tr.idxL t (treesTo 6) 0 + 1).toNat 0 then redF a r else (t.length : Int) - 1
theorem idx_to {t : List Int} {k : Nat} (h : (treesTo 6)[k]? = some t) : Tr.idxL t (treesTo 6) 0 = (k : Int) := by
  obtain ⟨j, e1, e2⟩ := idx_some 0 (List.mem_of_getElem? h)
  obtain rfl := mapTx_inj e2 h rfl
  omega
theorem red_from (a : List Int) : ∀ d k, k + d = 37 → agrL ((fixL a).drop (k + 1)) (exactL.drop (k + 1)) (lens.drop (k + 1)) = redF a (((treesTo 6).drop k).filter keepC)
  | 0, k, h => by
    obtain rfl : k = 37 := by omega
    rw [agr_end, List.drop_eq_nil_of_le (by rw [to_len]; exact Nat.le_refl _)]; rfl
  | d+1, k, h => by
    obtain ⟨t, ht⟩ := at_lt (show k < (treesTo 6).length by rw [to_len]; omega)
    have hx := fixL_at (a := a) ht
    have hy := exactL_at ht
    have hl := to_at ht
    have ih := red_from a d (k + 1) (by omega)
    rw [drop_at ht, List.filter_cons]
    by_cases hk : keepC t = true
    · rw [if_pos hk] at hx ⊢
      have e1 : (Tr.idxL t (treesTo 6) 0 + 1).toNat = k + 1 := by rw [idx_to ht]; omega
      have e2 : exactL.getD (k + 1) 0 = exactV t := by rw [List.getD_eq_getElem?_getD, hy]; rfl
      unfold redF
      rw [e1, e2]
      by_cases he : a.getD (k + 1) 0 = exactV t
      · rw [if_pos he, agr_next hx hy hl he]; exact ih
      · rw [if_neg he, agr_stop hx hy hl he]
    · rw [if_neg hk] at hx ⊢
      rw [agr_next hx hy hl rfl]; exact ih
theorem red_all {a : List Int} (h : a.getD 0 0 = 1) : agrA (fixL a) exactL = redF a conds := by
  rw [agr_start, agr_next (fixL_zero a) (show exactL[0]? = some 1 from rfl) (show lens[0]? = some 0 from rfl) h]
  exact red_from a 37 0 (by omega)
def redA (a : List Int) : Int × Int := if isMp a = true then (if a.getD 0 0 = 1 then (agrA (fixL a) exactL, 0) else (0, 5)) else (0, 1)
theorem redA_no {a : List Int} (h : isMp a = false) : redA a = (0, 1) := if_neg (by rw [h]; simp)
theorem redA_one {a : List Int} {x : Int} (h : isMp a = true) (hx : a[0]? = some x) (e : x = 1) : redA a = (agrA (fixL a) exactL, 0) := by
  unfold redA; rw [if_pos h, List.getD_eq_getElem?_getD, hx]; exact if_pos e
theorem redA_not {a : List Int} {x : Int} (h : isMp a = true) (hx : a[0]? = some x) (e : x ≠ 1) : redA a = (0, 5) := by
  unfold redA; rw [if_pos h, List.getD_eq_getElem?_getD, hx]; exact if_neg e
set_option maxHeartbeats 4000000 in
theorem reducedOrder_any (xs : List Int) (w : World) (hl : xs.length = 38) : Calls Tryz.prog 21 #[.agg (arrM xs)] w fun e w' => e = .returned (.int .i64 (agrA (fixL xs) exactL)) ∧ Below w.heap.size w w' := by
  have HL := Lib.hid hl
  have EL := Lib.hid exactL_length
  have FL := Lib.hid (fixL_length xs)
  obtain ⟨W0, hW0⟩ : ∃ W0, W0 = w.alloc (.cells (arrM xs) 39) := ⟨_, rfl⟩
  have FB : Hid (Below w.heap.size w W0) := by rw [hW0]; exact (Below.refl _ _).alloc (Nat.le_refl _) _
  have F0 : Hid (ArrM W0 w.heap.size xs) := by rw [hW0]; exact ArrM.new _ _
  have S0 : Hid (W0.heap.size = w.heap.size + 1) := by rw [hW0]; simp [Hid]
  clear hl
  go_enter Tryz.func21, Tryz.ntmps21
  go_wp2_with fail
  refine (exactMap_any _).mono ?_
  rintro e w1 ⟨rfl, b1⟩
  have B1 : Hid (Below W0.heap.size W0 w1) := by rw [Hid, hW0]; exact b1
  have hs1 := B1.out.size
  have hs0 := S0.out
  obtain ⟨W1, hW1⟩ : ∃ W1, W1 = (w1.alloc (.cells (arrM zero38) 39)).setRow w1.heap.size (arrM exactL) := ⟨_, rfl⟩
  have B2 : Hid (Below W0.heap.size W0 W1) := by rw [Hid, hW1]; exact below_setRow (B1.out.alloc hs1 _) hs1 _
  have G1 : Hid (ArrM W1 w1.heap.size exactL) := by rw [Hid, hW1]; exact setRow_heap _ _ _ _ _ _ (ArrM.new w1 zero38)
  have S1 : Hid (W1.heap.size = w1.heap.size + 1) := by rw [Hid, hW1]; simp [World.setRow]
  clear b1
  go_wp2_with (first | (refine wpList_store_row rfl 39 (.tmp 3) (.tmp 6) rfl w1.heap.size (arrM exactL) rfl rfl 39 (arrM zero38) (ArrM.new w1 zero38) (by rw [arrM_size EL.out]; exact info_arrM) (by rw [arrM_size EL.out]; rfl) (arrM_cells _) ?_; change wpList _ _ _ _ _ ((w1.alloc (.cells (arrM zero38) 39)).setRow w1.heap.size (arrM exactL)); rw [← hW1]; clear hW1 hW0))
  refine (mapTrees_any _).mono ?_
  rintro e w2 ⟨A2, c2, rfl, own2, bel2⟩
  obtain ⟨g2, rfl⟩ := own_addr own2 (by omega)
  have hcap := (own_cap own2).1
  have hc9 : ¬ c2 = 1 := by omega
  have hg2 : g2 < w2.heap.size := (own2.lt g2 rfl).2
  have hg2' : W1.heap.size ≤ g2 := (own2.lt g2 rfl).1
  have hs1' := S1.out
  have FT : Hid (∀ k t, (treesTo 6)[k]? = some t → w2.cell? ⟨g2, 1 + k, none⟩ = some (.string ⟨(Tr.txt t).toArray⟩)) := fun k t ht => strs_cell (row_of_own own2) (1 + k) (Tr.txt t) (by rw [Nat.add_comm]; unfold mapTx; rw [List.getElem?_cons_succ, List.getElem?_map, ht]; rfl)
  have FX : Hid (ArrM w2 w.heap.size ((fixL xs).take (0 + 1) ++ xs.drop (0 + 1))) := by
    have h9 := (F0.out.below B2.out (by omega)).below bel2 (by have := B2.out.size; omega)
    obtain ⟨x, hx⟩ := at_lt (show 0 < xs.length by rw [HL.out]; omega)
    have e : (fixL xs)[0]? = some x := by rw [fixL_zero, List.getD_eq_getElem?_getD, hx]; rfl
    rw [← mixP_keep hx e]; exact h9
  have FE : Hid (ArrM w2 w1.heap.size exactL) := G1.out.below bel2 (by omega)
  have B3 : Hid (Below w.heap.size w w2) := FB.out.trans ((B2.out.trans (bel2.mono B2.out.size)).mono FB.out.size)
  have hs2 := bel2.size
  clear own2 bel2 F0 G1 B1 B2
  go_wp2_with fail
  go_loopw [10] (fun i wr => ∃ k : Nat, k ≤ 37 ∧ i = .int .i64 k ∧ Hid (ArrM wr w.heap.size ((fixL xs).take (k + 1) ++ xs.drop (k + 1))) ∧ Hid (ArrM wr w1.heap.size exactL) ∧ Hid (∀ k t, (treesTo 6)[k]? = some t → wr.cell? ⟨g2, 1 + k, none⟩ = some (.string ⟨(Tr.txt t).toArray⟩)) ∧ g2 < wr.heap.size ∧ Hid (Below w.heap.size w wr)) (fun i _ => 37 - (intOf i).toNat)
  case atStart => exact ⟨0, Nat.zero_le _, rfl, FX, FE, FT, hg2, B3⟩
  case round =>
    clear FX FE FT B3 hg2
    obtain ⟨k, hk, rfl, HX, HE, HT, hg2, HB⟩ := hrel
    have hwz := HB.out.size
    by_cases hlt : k < 37
    · have hlti : (k : Int) < 37 := by omega
      have k0 : (0 : Int) ≤ (k : Int) := Int.natCast_nonneg _
      have k1 : (0 : Int) ≤ (k : Int) + 1 := by omega
      have k2 : (k : Int) + 1 < 38 := by omega
      have ew : IntKind.i64.wrap ((k : Int) + 1) = (k : Int) + 1 := IntWalk.i64_in _ (by omega)
      have en : ((k : Int) + 1).toNat = k + 1 := by omega
      obtain ⟨t, ht⟩ := at_lt (show k < (treesTo 6).length by rw [to_len]; exact hlt)
      have hct := HT.out k t ht
      have hx := fixL_at (a := xs) ht
      have hE := exactL_at ht
      obtain ⟨y, hy⟩ := at_lt (show k + 1 < xs.length by rw [HL.out]; omega)
      have hlv : Tr.isLv t = true := to_lv ht
      have CF := fun V => isFree_any (Tr.txt t) V (Tr.tx_txt hlv)
      have EK : Hid (condT (Tr.txt t) = keepC t) := rfl
      obtain ⟨X, hX⟩ : ∃ X : ByteArray, X = ⟨(Tr.txt t).toArray⟩ := ⟨_, rfl⟩
      simp only [← hX, EK.out] at CF hct
      cases hk : keepC t
      · rw [hk] at CF hx
        rw [if_neg (by simp)] at hx
        have HST : Hid (∀ W : World, ArrM W w.heap.size ((fixL xs).take (k + 1) ++ xs.drop (k + 1)) → ArrM (W.setCell ⟨w.heap.size, k + 1, none⟩ (.int .i64 (exactV t))) w.heap.size ((fixL xs).take (k + 1 + 1) ++ xs.drop (k + 1 + 1))) := fun W hW => by
          have := hW.store (k := k + 1) (exactV t)
          rw [mixP_step (by rw [HL.out]; omega) (by rw [FL.out, HL.out]) hx] at this
          exact this
        have HCX : Hid (((fixL xs).take (k + 1) ++ xs.drop (k + 1))[k + 1]? = some y) := mixP_at (by rw [FL.out, HL.out]) hy
        have HCE := Lib.hid hE
        obtain ⟨v, hv⟩ : ∃ v, v = exactV t := ⟨_, rfl⟩
        rw [← hv] at HCE
        simp only [← hv] at HST
        clear ht hx hE hy hlv hX hk hv EK
        go_wp2_with fail
        refine (CF _).mono ?_
        rintro e w3 ⟨rfl, b3⟩
        have hs3 := b3.size
        have HX3 := HX.out.below b3 (by omega)
        have HE3 := HE.out.below b3 (by have := HE.out.lt; omega)
        have c1 := HX3.cell HCX.out
        have c2 := HE3.cell HCE.out
        have f1 := HX3.free (k + 1)
        have HB3 := HB.out.trans (b3.mono hwz)
        have GX := Lib.hid (HST.out w3 HX3)
        have GE : Hid (ArrM (w3.setCell ⟨w.heap.size, k + 1, none⟩ (.int .i64 v)) w1.heap.size exactL) := HE3.other (by omega) _
        have GT : Hid (∀ k' t, (treesTo 6)[k']? = some t → (w3.setCell ⟨w.heap.size, k + 1, none⟩ (.int .i64 v)).cell? ⟨g2, 1 + k', none⟩ = some (.string ⟨(Tr.txt t).toArray⟩)) := fun j u hu => cell_other ((b3.cell (p := ⟨g2, 1 + j, none⟩) hg2).trans (HT.out j u hu)) (by omega)
        have GB : Hid (Below w.heap.size w (w3.setCell ⟨w.heap.size, k + 1, none⟩ (.int .i64 v))) := below_set HB3 (Nat.le_refl _) _
        have gg : g2 < (w3.setCell ⟨w.heap.size, k + 1, none⟩ (.int .i64 v)).heap.size := by simp [World.setCell]; omega
        clear HX HE HT HB HX3 HE3 HB3 b3 CF hct
        go_wp2
        go_roundw
        case rel => exact ⟨k + 1, by omega, by go_num, GX, GE, GT, gg, GB⟩
        case measure => simp [intOf]; omega
      · rw [hk] at CF hx
        rw [if_pos rfl, List.getD_eq_getElem?_getD, hy] at hx
        have GX0 : Hid ((fixL xs).take (k + 1) ++ xs.drop (k + 1) = (fixL xs).take (k + 1 + 1) ++ xs.drop (k + 1 + 1)) := mixP_keep hy hx
        clear ht hx hE hy hlv hX hk EK
        go_wp2_with fail
        refine (CF _).mono ?_
        rintro e w3 ⟨rfl, b3⟩
        have hs3 := b3.size
        have GX : Hid (ArrM w3 w.heap.size ((fixL xs).take (k + 1 + 1) ++ xs.drop (k + 1 + 1))) := by rw [← GX0.out]; exact HX.out.below b3 (by omega)
        have GE := Lib.hid (HE.out.below b3 (by have := HE.out.lt; omega))
        have GT : Hid (∀ k' t, (treesTo 6)[k']? = some t → w3.cell? ⟨g2, 1 + k', none⟩ = some (.string ⟨(Tr.txt t).toArray⟩)) := fun j u hu => (b3.cell (p := ⟨g2, 1 + j, none⟩) hg2).trans (HT.out j u hu)
        have GB := Lib.hid (HB.out.trans (b3.mono hwz))
        have gg : g2 < w3.heap.size := by omega
        clear HX HE HT HB b3 CF hct
        go_wp2
        go_roundw
        case rel => exact ⟨k + 1, by omega, by go_num, GX, GE, GT, gg, GB⟩
        case measure => simp [intOf]; omega
    · obtain rfl : k = 37 := by omega
      have GX : Hid (ArrM wr w.heap.size (fixL xs)) := by have := HX.out; rw [mixP_end FL.out HL.out] at this; exact this
      clear HX HT
      go_wp2_with (first
        | (refine wpList_load_row rfl 39 (.tmp 1) rfl w.heap.size rfl 39 (arrM (fixL xs)) (0, 0) _ GX.out Tryz.underlying39 rfl (by rw [arrM_size FL.out]; exact info_arrM) ?_)
        | (refine wpList_load_row rfl 39 (.tmp 3) rfl w1.heap.size rfl 39 (arrM exactL) (0, 0) _ HE.out Tryz.underlying39 rfl (by rw [arrM_size EL.out]; exact info_arrM) ?_))
      refine (agreesTo_any (fixL xs) exactL _ FL.out EL.out).mono ?_
      rintro e w3 ⟨rfl, b3⟩
      have GB := Lib.hid (HB.out.trans (b3.mono hwz))
      clear b3
      go_wp2
      go_ret
      exact ⟨rfl, GB.out⟩
set_option maxHeartbeats 1000000 in
theorem l07Code_r (A : Option Addr) (n c B : Nat) (a : List Int) (w : World) (hl : a.length = n) (hn : n ≤ 1048576) (h : Row w B A (ints a)) :
    Calls Tryz.prog 13 #[.slice A n c, .slice A n c] w fun e w' => e = .returned (.int .i64 (redA a).2) ∧ w = w' := by
  have C0 := l07Is_any A n c B a w hl (by omega) h
  cases ha : isMp a
  · have G := Lib.hid (redA_no ha)
    rw [ha] at C0
    clear hl
    go_enter Tryz.func13, Tryz.ntmps13
    go_wp2_with (go_at_call 27; refine C0.mono ?_; rintro e w' ⟨rfl, rfl⟩)
    go_ret
    exact ⟨ret_i64 (by rw [G.out]), rfl⟩
  · obtain ⟨x, b, o, hx, rfl, hc, p1, x0, x1⟩ := map_first ha hl h
    rw [ha] at C0
    by_cases hx1 : x = 1
    · have G := Lib.hid (redA_one ha hx hx1)
      have t : (x != 1) = false := bne_f hx1
      clear hl hx hx1
      go_enter Tryz.func13, Tryz.ntmps13
      go_wp2_with (go_at_call 27; refine C0.mono ?_; rintro e w' ⟨rfl, rfl⟩)
      go_ret
      exact ⟨ret_i64 (by rw [G.out]), rfl⟩
    · have G := Lib.hid (redA_not ha hx hx1)
      have t : (x != 1) = true := bne_t hx1
      clear hl hx hx1
      go_enter Tryz.func13, Tryz.ntmps13
      go_wp2_with (go_at_call 27; refine C0.mono ?_; rintro e w' ⟨rfl, rfl⟩)
      go_ret
      exact ⟨ret_i64 (by rw [G.out]), rfl⟩
theorem conds_mem {k : Nat} {t : List Int} (h : conds[k]? = some t) : ∃ p : Nat, p < 37 ∧ (treesTo 6)[p]? = some t ∧ Tr.idxL t (treesTo 6) 0 = (p : Int) ∧ Tr.isLv t = true := by
  have hm := List.mem_of_getElem? h
  unfold conds condTo at hm
  obtain ⟨p, hp⟩ := List.mem_iff_getElem?.1 (List.mem_filter.1 hm).1
  have h37 : p < 37 := by
    rcases Nat.lt_or_ge p 37 with q | q
    · exact q
    · rw [List.getElem?_eq_none (by rw [to_len]; exact q)] at hp; cases hp
  exact ⟨p, h37, hp, idx_to hp, to_lv hp⟩
set_option maxHeartbeats 2000000 in
theorem sReducedOrder_L (A : Option Addr) (n c B : Nat) (a : List Int) (w : World) (hl : a.length = n) (hn : n ≤ 1048576) (hB : B ≤ w.heap.size) (h : Row w B A (ints a)) :
    Calls Tryz.prog 5 #[.slice A n c] w (ResI (redA a) w) := by
  have C0 := l07Code_r A n c B a w hl hn h
  have done : ∀ k : Int, k ≠ 0 → redA a = (0, k) → Calls Tryz.prog 5 #[.slice A n c] w (ResI (redA a) w) := by
    intro k hk e
    rw [e] at C0
    have t : (k != 0) = true := bne_t hk
    have G := Lib.hid e
    clear hl e
    go_enter Tryz.func5, Tryz.ntmps5
    go_wp2_with fail
    refine C0.mono ?_
    rintro e w' ⟨rfl, rfl⟩
    go_wp2
    go_ret2
    exact ResI.of' G.out (Below.refl _ _)
  cases ha : isMp a
  · exact done 1 (by omega) (redA_no ha)
  · obtain ⟨x, b, o, hx, rfl, hc, p1, x0, x1⟩ := map_first ha hl h
    by_cases hx1 : x = 1
    · have e := redA_one ha hx hx1
      have hz : a.getD 0 0 = 1 := by rw [List.getD_eq_getElem?_getD, hx]; exact hx1
      have G : Hid (redA a = (redF a conds, 0)) := by rw [Hid, e, red_all hz]
      rw [e] at C0
      obtain ⟨e1, na⟩ := isMp_parts ha hl
      have HL0 := hl
      subst e1
      have HL := Lib.hid HL0
      have HEL := Lib.hid exactL_length
      have C1 := fun w' => l03All_any 6 w' (by omega) (by omega)
      rw [to_len] at C1
      clear hl HL0 hx hx1 ha done e na hc hz
      go_enter Tryz.func5, Tryz.ntmps5
      go_wp2_with fail
      refine C0.mono ?_
      rintro e w' ⟨rfl, rfl⟩
      go_wp2_with fail
      refine (C1 _).mono ?_
      rintro e w1 ⟨A1, c1, vs1, rfl, own1, bel1⟩
      have FM0 : Hid (Mat w1 w1.heap.size A1 (treesTo 6)) := own1.mat
      have B1 := Lib.hid bel1
      have hs1 := bel1.size
      clear own1 bel1 C1
      go_wp2_with fail
      refine (l07Exact_any _).mono ?_
      rintro e w2 ⟨A2, c2, rfl, own2, bel2⟩
      have FE0 : Hid (Row w2 w2.heap.size A2 (ints exactL)) := row_of_own own2
      have FM1 := Lib.hid (FM0.out.below bel2 (Nat.le_refl _))
      have B2 := Lib.hid (B1.out.trans (bel2.mono hs1))
      have hs2 := bel2.size
      clear own2 bel2 FM0
      go_wp2_with fail
      refine (l12All_any _).mono ?_
      rintro e w3 ⟨gf, cf, rfl, hM3, bel3⟩
      have hs3 := bel3.size
      have FM : Hid (Mat w3 w1.heap.size A1 (treesTo 6)) := FM1.out.below bel3 (by omega)
      have FE := Lib.hid (FE0.out.below bel3 (Nat.le_refl _))
      have FF := Lib.hid hM3
      have B3 := Lib.hid (B2.out.trans (bel3.mono (by omega)))
      have FX := Lib.hid (h.below B3.out hB)
      clear hM3 bel3 FM1 FE0 h
      go_wp2_with fail
      go_loopw [8] (fun i wr => ∃ k d : Nat, k ≤ 10 ∧ i = .int .i64 k ∧ wr = w3.drewN d ∧ Hid (redF a conds = redF a (conds.drop k))) (fun i _ => 10 - (intOf i).toNat)
      case atStart => exact ⟨0, 0, Nat.zero_le _, rfl, rfl, rfl⟩
      case round =>
        obtain ⟨k, d, hk, rfl, rfl, HI⟩ := hrel
        by_cases hlt : k < 10
        · have hlti : (k : Int) < 10 := by omega
          have k0 : (0 : Int) ≤ (k : Int) := Int.natCast_nonneg _
          obtain ⟨t, ht⟩ := at_lt (show k < conds.length by rw [conds_len]; exact hlt)
          obtain ⟨p, p37, hp, hix, hlv⟩ := conds_mem ht
          obtain ⟨t1, t8⟩ := lv_bd hlv
          obtain ⟨b2, o2, Ak, ck, eA, _, hct, hlc, _, hrow⟩ := (Mat.drewN FF.out d) k t ht
          injection eA with eA
          injection eA with e1 e2
          subst e1 e2
          rw [Nat.zero_add] at hct
          have CF := l03Find_any A1 Ak 37 c1 t.length ck w1.heap.size w3.heap.size (treesTo 6) t (w3.drewN d) to_len (by omega) (fun r hr => by have := (lv_bd (show Tr.isLv r = true by obtain ⟨q, hq, h9⟩ := to_mem.1 hr; exact ((trees_all (n := q + 1) (by omega) (by omega)).1 _ h9).1)).2; omega) rfl (by omega) (Mat.drewN FM.out d) hrow
          rw [hix] at CF
          obtain ⟨x, hx⟩ := at_lt (show p + 1 < a.length by rw [HL.out]; omega)
          obtain ⟨y, hy⟩ := at_lt (show p + 1 < exactL.length by rw [HEL.out]; omega)
          obtain ⟨b3, o3, e3, _, hcx⟩ := FX.out (p + 1) _ (ints_at hx)
          injection e3 with e3
          injection e3 with e4 e5
          subst e4 e5
          obtain ⟨b4, o4, rfl, _, hcy⟩ := FE.out (p + 1) _ (ints_at hy)
          have wp : IntKind.i64.wrap ((p : Int) + 1) = ((p + 1 : Nat) : Int) := by rw [IntWalk.i64_in _ (by omega)]; omega
          have p0 : (0 : Int) ≤ ((p + 1 : Nat) : Int) := Int.natCast_nonneg _
          have p38 : ((p + 1 : Nat) : Int) < 38 := by omega
          have HSTEP : Hid (redF a (conds.drop k) = if x = y then redF a (conds.drop (k + 1)) else (t.length : Int) - 1) := by
            rw [Hid, drop_at ht, redF, hix, show ((p : Int) + 1).toNat = p + 1 by omega, List.getD_eq_getElem?_getD, List.getD_eq_getElem?_getD, hx, hy]; rfl
          obtain ⟨tn, htn⟩ : ∃ tn, tn = t.length := ⟨_, rfl⟩
          rw [← htn] at CF hct HSTEP t1 t8
          have hct3 : w3.cell? _ = _ := hct
          clear ht hp hix hlv hx hy hrow hlc htn
          by_cases hxy : x = y
          · have tb : (x != y) = false := bne_f hxy
            have GI : Hid (redF a conds = redF a (conds.drop (k + 1))) := by rw [Hid, HI.out, HSTEP.out, if_pos hxy]
            clear HI HSTEP hxy
            go_wp2_with fail
            refine CF.mono ?_
            rintro e w4 ⟨rfl, d4, rfl⟩
            clear CF
            go_wp2_with fail
            go_quiet (fail)
            go_wp2
            go_roundw
            case rel => exact ⟨k + 1, _, by omega, by go_num, rfl, GI⟩
            case measure => simp [intOf]; omega
          · have tb : (x != y) = true := bne_t hxy
            have GI : Hid (redF a conds = (tn : Int) - 1) := by rw [Hid, HI.out, HSTEP.out, if_neg hxy]
            have wt : IntKind.i64.wrap ((tn : Int) - 1) = (tn : Int) - 1 := IntWalk.i64_in _ (by omega)
            rw [GI.out] at G
            clear HI HSTEP hxy
            go_wp2_with fail
            refine CF.mono ?_
            rintro e w4 ⟨rfl, d4, rfl⟩
            clear CF
            go_wp2_with fail
            go_quiet (fail)
            go_wp2
            go_ret2
            exact ResI.of' G.out (by first | exact below_drewN B3.out _ | exact below_drewN (below_drewN B3.out _) _)
        · obtain rfl : k = 10 := by omega
          have GI : Hid (redF a conds = 6) := by rw [Hid, HI.out, List.drop_eq_nil_of_le (by rw [conds_len]; exact Nat.le_refl _)]; rfl
          rw [GI.out] at G
          clear HI
          go_wp2
          go_ret2
          exact ResI.of' G.out (below_drewN B3.out _)
    · exact done 5 (by omega) (redA_not ha hx hx1)
set_option maxHeartbeats 1000000 in
theorem pReducedOrder_L (A : Option Addr) (n c B : Nat) (a : List Int) (w : World) (hl : a.length = n) (hn : n ≤ 1048576) (hB : B ≤ w.heap.size) (h : Row w B A (ints a)) :
    Calls Tryz.prog 7 #[.slice A n c] w (ResI (redA a) w) := by
  have C0 := isMap_any A n c B a w hl (by omega) h
  have C1 := isCharacter_any A n c B a w hl (by omega) h
  cases ha : isMp a
  · have G := Lib.hid (redA_no ha)
    rw [ha] at C0
    clear hl C1
    go_enter Tryz.func7, Tryz.ntmps7
    go_wp2_with fail
    refine C0.mono ?_
    rintro e w' ⟨rfl, rfl⟩
    go_wp2
    go_ret2
    exact ResI.of' G.out (Below.refl _ _)
  · obtain ⟨x, b, o, hx, rfl, hc, p1, x0, x1⟩ := map_first ha hl h
    have hch := isChr_at ha hx
    rw [ha] at C0
    by_cases hx1 : x = 1
    · have G := Lib.hid (redA_one ha hx hx1)
      rw [hch, decide_eq_true hx1] at C1
      obtain ⟨e1, na⟩ := isMp_parts ha hl
      have HL0 := hl
      subst e1
      have HL := Lib.hid HL0
      have NA := Lib.hid na
      clear hl HL0 hx hx1 ha hch na
      go_enter Tryz.func7, Tryz.ntmps7
      go_wp2_with fail
      refine C0.mono ?_
      rintro e w' ⟨rfl, rfl⟩
      go_wp2_with fail
      refine C1.mono ?_
      rintro e w' ⟨rfl, rfl⟩
      go_wp2_with fail
      refine (treeMapOf_any _ c B a _ HL.out NA.out hB h).mono ?_
      rintro e w1 ⟨rfl, b1⟩
      have B1 := Lib.hid b1
      clear b1 hc
      go_wp2_with fail
      refine (reducedOrder_any a _ HL.out).mono ?_
      rintro e w3 ⟨rfl, b3⟩
      have GB := Lib.hid (B1.out.trans (b3.mono B1.out.size))
      clear b3
      go_wp2
      go_ret2
      exact ResI.of' G.out GB.out
    · have G := Lib.hid (redA_not ha hx hx1)
      rw [hch, decide_eq_false hx1] at C1
      clear hl hx hx1 hch
      go_enter Tryz.func7, Tryz.ntmps7
      go_wp2_with fail
      refine C0.mono ?_
      rintro e w' ⟨rfl, rfl⟩
      go_wp2_with fail
      refine C1.mono ?_
      rintro e w' ⟨rfl, rfl⟩
      go_wp2
      go_ret2
      exact ResI.of' G.out (Below.refl _ _)
end Go.Proofs.YtnnihdkhblbdgaaGreat
