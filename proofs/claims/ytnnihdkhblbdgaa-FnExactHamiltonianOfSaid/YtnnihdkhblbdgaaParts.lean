/-
  The model's branches of a list.
-/
import Derived.Test.YtnnihdkhblbdgaaPush
import Derived.Test.YtnnihdkhblbdgaaSame
import Derived.Deep.RegionLaw
import Derived.IntWalk
import Derived.Deep.AppendLies
namespace Go.Proofs.Ytnnihdkhblbdgaa
open Go.RowKit Fld
set_option linter.unusedVariables false
set_option linter.unusedSimpArgs false
set_option maxRecDepth 100000

/-- a number is added to a row, and the row laid into its place again -/
theorem OwnMat.app_row {w w2 : World} {lo hi n k q c g cap g2 c2 : Nat} {A : Option Addr} {m : List (List Int)} {vs : List Value} {r : List Int} {x : Int} {o : Obj}
    (h : OwnMat w lo hi (.slice (some ⟨g, 0, none⟩) n cap) n m vs) (hs : hi ≤ w.heap.size) (hk : m[k]? = some r) (hv : vs[k]? = some (.slice A q c)) (hq : r.length = q)
    (h2 : w2.ownsRow lo 2 1 (.slice (some ⟨g2, 0, none⟩) (q + 1) c2) (q + 1) (ints (r ++ [x]))) (hg : (w.alloc o).grownBy w2 (Value.ownBlock (.slice A q c)))
    (hat : Value.ownBlock (.slice A q c) = some g2 ∨ g2 = w.heap.size + 1) (hlt : g2 < w2.heap.size) :
    OwnMat (w2.setCell ⟨g, k, none⟩ (.slice (some ⟨g2, 0, none⟩) (q + 1) c2)) lo w2.heap.size (.slice (some ⟨g, 0, none⟩) n cap) n (m.set k (r ++ [x])) (vs.set k (.slice (some ⟨g2, 0, none⟩) (q + 1) c2)) := by
  have hal : Below w.heap.size w (w.alloc o) := (Below.refl _ _).alloc (Nat.le_refl _) _
  have hz : w.heap.size + 1 ≤ w2.heap.size := by have := hg.size; simpa using this
  have hkl : k < m.length := by
    rcases Nat.lt_or_ge k m.length with y | y
    · exact y
    · rw [List.getElem?_eq_none y] at hk; cases hk
  obtain ⟨A0, c0, e0, o0⟩ := h.inner k r hk
  rw [hv] at e0
  injection e0 with e0
  injection e0 with eA eq ec
  subst eA ec
  rw [← eq] at o0
  have hout2 : OwnR w2 lo hi 23 (.slice (some ⟨g, 0, none⟩) n cap) n vs := (h.outer.below hal hs).grown hg (own_types h.outer.1 o0.1 (by decide))
  have hset := hout2.1.stored k (.slice (some ⟨g2, 0, none⟩) (q + 1) c2)
  have other : ∀ s r2, s ≠ k → m[s]? = some r2 → ∃ A2 c', vs[s]? = some (.slice A2 r2.length c') ∧ OwnR w2 lo hi 2 (.slice A2 r2.length c') r2.length (ints r2) ∧ (∀ g', Value.ownBlock (.slice A2 r2.length c') = some g' → g' ≠ g2) := by
    intro s r2 hsk hr
    obtain ⟨A2, c', e2, o2⟩ := h.inner s r2 hr
    refine ⟨A2, c', e2, (o2.below hal hs).grown hg ?_, fun g' hg' => ?_⟩
    · cases hb : Value.ownBlock (.slice A2 r2.length c') with
      | none => exact .inl rfl
      | some g' => exact .inr (fun e => h.apart s k _ _ g' hsk e2 hv hb e.symm)
    · rcases hat with hat | hat
      · intro e
        exact h.apart s k _ _ g' hsk e2 hv hg' (by rw [hat, e])
      · have := o2.2 g' hg'; omega
  refine ⟨⟨hset.1, fun g' e => by have := hout2.2 g' e; omega⟩, by rw [List.length_set, List.length_set]; exact h.len, ?_, ?_⟩
  · intro s r2 hr
    by_cases hsk : k = s
    · subst hsk
      rw [List.getElem?_set_self hkl] at hr
      injection hr with hr
      subst hr
      have el : (r ++ [x]).length = q + 1 := by rw [List.length_append]; simp; exact hq
      refine ⟨some ⟨g2, 0, none⟩, c2, by rw [el, List.getElem?_set_self (by rw [h.len]; exact hkl)], ?_⟩
      rw [el]
      have oR : OwnR w2 lo w2.heap.size 2 (.slice (some ⟨g2, 0, none⟩) (q + 1) c2) (q + 1) (ints (r ++ [x])) := ⟨h2, fun g' e => by have : g2 = g' := (by simpa [Value.ownBlock] using e); omega⟩
      exact oR.grown hset.2 (own_types oR.1 hout2.1 (by decide))
    · rw [List.getElem?_set_ne hsk] at hr
      obtain ⟨A2, c', e2, o2, _⟩ := other s r2 (fun e => hsk e.symm) hr
      exact ⟨A2, c', by rw [List.getElem?_set_ne hsk]; exact e2, (o2.more (Nat.le_refl _) (by omega)).grown hset.2 (own_types o2.1 hout2.1 (by decide))⟩
  · intro a b u t g' hne hu ht hb hb'
    by_cases hak : k = a
    · subst hak
      rw [List.getElem?_set_self (by rw [h.len]; exact hkl)] at hu
      rw [List.getElem?_set_ne hne] at ht
      injection hu with hu
      subst hu
      have hbl : b < m.length := by
        rcases Nat.lt_or_ge b m.length with y | y
        · exact y
        · rw [List.getElem?_eq_none (by rw [h.len]; exact y)] at ht; cases ht
      obtain ⟨A2, c', e2, _, n2⟩ := other b _ (Ne.symm hne) (List.getElem?_eq_getElem hbl)
      rw [ht] at e2
      injection e2 with e2
      subst e2
      have h1 : g2 = g' := by simpa [Value.ownBlock] using hb
      exact n2 g' hb' h1.symm
    · rw [List.getElem?_set_ne hak] at hu
      by_cases hbk : k = b
      · subst hbk
        rw [List.getElem?_set_self (by rw [h.len]; exact hkl)] at ht
        injection ht with ht
        subst ht
        have hal2 : a < m.length := by
          rcases Nat.lt_or_ge a m.length with y | y
          · exact y
          · rw [List.getElem?_eq_none (by rw [h.len]; exact y)] at hu; cases hu
        obtain ⟨A2, c', e2, _, n2⟩ := other a _ hne (List.getElem?_eq_getElem hal2)
        rw [hu] at e2
        injection e2 with e2
        subst e2
        have h1 : g2 = g' := by simpa [Value.ownBlock] using hb'
        exact n2 g' hb h1.symm
      · rw [List.getElem?_set_ne hbk] at ht
        exact h.apart a b u t g' hne hu ht hb hb'
/-- the branches up to a place -/
def partsTo (t : List Int) (i : Nat) : List (List Int) := ((t.take i).drop 1).foldl Tr.addNode []
theorem partsTo_one (t : List Int) : partsTo t 1 = [] := by
  unfold partsTo
  have : (t.take 1).drop 1 = [] := List.drop_of_length_le (by rw [List.length_take]; omega)
  rw [this]; rfl
theorem partsTo_step {t : List Int} {i : Nat} {x : Int} (hx : t[i]? = some x) (h1 : 1 ≤ i) : partsTo t (i + 1) = Tr.addNode (partsTo t i) x := by
  unfold partsTo
  rw [List.take_add_one, hx, Option.toList_some, List.drop_append_of_le_length (by
    have : i < t.length := by
      rcases Nat.lt_or_ge i t.length with y | y
      · exact y
      · rw [List.getElem?_eq_none y] at hx; cases hx
    rw [List.length_take]; omega), List.foldl_append]
  rfl
theorem partsTo_end (t : List Int) : partsTo t t.length = Tr.partsL t := by unfold partsTo Tr.partsL; rw [List.take_length]
theorem add_new (m : List (List Int)) : Tr.addNode m 1 = (m ++ [[]]).set m.length ([] ++ [1 - 1]) := by
  simp [Tr.addNode]
theorem add_last {m : List (List Int)} {x : Int} {r : List Int} (h : x ≠ 1) (hr : m[m.length - 1]? = some r) : Tr.addNode m x = m.set (m.length - 1) (r ++ [x - 1]) := by
  unfold Tr.addNode
  simp only [if_neg h]
  rw [List.getD_eq_getElem?_getD, hr]; rfl
theorem add_length (m : List (List Int)) (x : Int) : (Tr.addNode m x).length = if x = 1 then m.length + 1 else m.length := by
  unfold Tr.addNode
  split <;> simp
theorem add_bd {m : List (List Int)} {x : Int} {q : Nat} (h : ∀ r ∈ m, r.length ≤ q) : ∀ r ∈ Tr.addNode m x, r.length ≤ q + 1 := by
  intro r hr
  unfold Tr.addNode at hr
  have hm : ∀ r ∈ (if x = 1 then m ++ [[]] else m), r.length ≤ q := by
    intro r hr
    split at hr
    · rw [List.mem_append] at hr
      rcases hr with hr | hr
      · exact h r hr
      · rw [List.mem_singleton] at hr; subst hr; simp
    · exact h r hr
  rcases List.mem_or_eq_of_mem_set hr with hr | rfl
  · have := hm r hr; omega
  · rw [List.length_append]
    have : ∀ k, ((if x = 1 then m ++ [[]] else m).getD k []).length ≤ q := fun k => by
      rw [List.getD_eq_getElem?_getD]
      cases e : (if x = 1 then m ++ [[]] else m)[k]? with
      | none => simp
      | some z => exact hm z (List.mem_of_getElem? e)
    exact Nat.succ_le_succ (this ((if x = 1 then m ++ [[]] else m).length - 1))
theorem parts_bd (t : List Int) : ∀ (k : Nat), k ≤ k → ∀ {r}, r ∈ partsTo t k → r.length ≤ k
  | 0, _, r, hr => by simp [partsTo] at hr
  | k+1, _, r, hr => by
    rcases Nat.eq_zero_or_pos k with e | e
    · subst e; rw [partsTo_one] at hr; cases hr
    · cases hx : t[k]? with
      | none =>
        have e2 : partsTo t (k + 1) = partsTo t k := by unfold partsTo; rw [List.take_add_one, hx]; simp
        rw [e2] at hr
        have := parts_bd t k (Nat.le_refl _) hr; omega
      | some x =>
        rw [partsTo_step hx e] at hr
        exact add_bd (fun r hr => parts_bd t k (Nat.le_refl _) hr) r hr
theorem below_drew' {B : Nat} {a w : World} (h : Below B a w) : Below B a w.drew := ⟨h.os, h.tape, h.output, h.size, h.block⟩
set_option maxHeartbeats 1000000 in
theorem l03Parts_any (A : Option Addr) (n c B : Nat) (t : List Int) (w : World) (hl : t.length = n) (hlv : Tr.isLv t = true) (hB : B ≤ w.heap.size) (h : Row w B A (ints t)) :
    Calls Try.prog 126 #[.slice A n c] w (NewMat (Tr.partsL t).length (Tr.partsL t) w) := by
  obtain ⟨i0, hi, hz0, hz1, hz2⟩ := info_parts info_i64
  obtain ⟨j0, hj, hy0, hy1, hy2⟩ := info_parts info_row
  have hL := Tr.isLv_iff.1 hlv
  obtain ⟨x0, hx0⟩ := at_lt (show 0 < t.length by have := hL.1; omega)
  obtain ⟨b, o, rfl, _, _⟩ := h 0 _ (ints_at hx0)
  have HST : Hid (StepsTo t n) := by rw [Hid, ← hl]; exact hL.2.2.2
  have HZ : Hid (t.getD 0 0 = 0) := hL.2.2.1
  have n1 : 1 ≤ n := by have := hL.1; omega
  have n8 : n ≤ 8 := by have := hL.2.1; omega
  have HL := Lib.hid hl
  clear hl hlv hL hx0
  go_enter Try.func126, Try.ntmps126
  go_wp2_with fail
  go_loopw [3, 4] (fun v i wr => ∃ (k q g cap : Nat) (m : List (List Int)), 1 ≤ k ∧ k ≤ n ∧ q ≤ k ∧ (2 ≤ k → 1 ≤ q) ∧ v = .slice (some ⟨g, 0, none⟩) q cap ∧ i = .int .i64 k ∧ Hid (m = partsTo t k) ∧ Hid (m.length = q) ∧ GrowM w g q cap m wr) (fun _ i _ => n - (intOf i).toNat)
  case atStart => exact ⟨1, 0, _, 0, [], Nat.le_refl _, n1, by omega, by omega, rfl, rfl, (partsTo_one t).symm, rfl, GrowM.start ..⟩
  case round =>
    obtain ⟨k, q, g, cap, m, k1, hk, hqk, hq1, rfl, rfl, HP, HQ, vs, HM, HBel⟩ := hrel
    have hsz := HBel.size
    by_cases hlt : k < n
    · obtain ⟨x, hx⟩ := at_lt (show k < t.length by rw [HL.out]; exact hlt)
      obtain ⟨_, _, e1, _, hcx⟩ := h.below HBel hB k _ (ints_at hx)
      cases e1
      have hx1 : 1 ≤ x := by have := (HST.out k hlt k1).1; rw [lv_at hx] at this; exact this
      have hx8 : x ≤ 8 := by have := HST.out.le HZ.out k hlt; rw [lv_at hx] at this; omega
      have HPS : Hid (partsTo t (k + 1) = Tr.addNode m x) := by rw [Hid, HP.out]; exact partsTo_step hx k1
      have HXK := Lib.hid hx
      clear hx
      by_cases hxe : x = 1
      · subst hxe
        have HM' := Lib.hid HM
        have HBel' := Lib.hid HBel
        have hown1 := (HM.below ((Below.refl wr.heap.size wr).alloc (Nat.le_refl _) (.cells #[] 2)) (Nat.le_refl _)).outer.1
        clear HM HBel
        go_wp2_with (at_builtin; refine wpList_append_lies _ rfl (.tmp 18) (.tmp 20) 22 rfl w.heap.size 23 j0 _ 1 24 Try.underlying22 hj hy0 hy1 hy2 rfl (by omega) (.slice (some ⟨g, 0, none⟩) q cap) q vs rfl (hown1.alloc _) ⟨wr.heap.size + 1, 0, none⟩ 1 1 [.slice (some ⟨wr.heap.size, 0, none⟩) 0 0] rfl rfl (by have := World.news_of_block (w := (wr.alloc (.cells #[] 2)).alloc (.cells #[.slice (some ⟨wr.heap.size, 0, none⟩) 0 0] 23)) (cs := #[.slice (some ⟨wr.heap.size, 0, none⟩) 0 0]) (heap_alloc_new _ _); simpa using this) (by simp [Value.oneCell']) (by omega) (by simp only [maxLen]; omega) (by omega) (by simp; omega) (wr.heap.size + 2) (by simp) ?_; intro g4 cap4 w4 hown4 hgrow4 hat4 hlt4)
        have HM1 : OwnMat w4 w.heap.size w4.heap.size (.slice (some ⟨g4, 0, none⟩) (q + 1) cap4) (q + 1) (m ++ [[]]) (vs ++ [.slice (some ⟨wr.heap.size, 0, none⟩) 0 0]) :=
          (HM'.out.below ((Below.refl wr.heap.size wr).alloc (Nat.le_refl _) (.cells #[] 2)) (Nat.le_refl _)).push (row := []) (by simp) rfl (World.ownsRow_lit wr #[] 0 (Nat.le_refl _) (Nat.zero_le _) rfl) hsz hown4 hgrow4
        have hwW : w.heap.size ≤ w4.heap.size := by have := hgrow4.size; simp at this; omega
        have HBW : Hid (Below w.heap.size w w4) := ((HBel'.out.alloc hsz _).alloc (by simp; omega) _).grown hgrow4 (by simp; omega) (fun p hp => (hown1.lt p hp).1)
        have hvv : (vs ++ [Value.slice (some ⟨wr.heap.size, 0, none⟩) 0 0])[q]? = some (.slice (some ⟨wr.heap.size, 0, none⟩) 0 0) := by
          have e : vs.length = q := by rw [HM'.out.len]; exact HQ.out
          rw [List.getElem?_append_right (by omega), e, Nat.sub_self]; rfl
        have HRR : Hid ((m ++ [[]])[q]? = some []) := by
          have e := HQ.out
          rw [Hid, List.getElem?_append_right (by omega), e, Nat.sub_self]; rfl
        have HRL : Hid (([] : List Int).length = 0) := rfl
        have hrl8 : 0 ≤ 8 := by omega
        have hcx2 : w4.cell? ⟨b, o + k, none⟩ = some (.int .i64 1) := (HBW.out.cell (p := ⟨b, o + k, none⟩) (by show b < w.heap.size; omega)).trans (((HBel'.out.cell (p := ⟨b, o + k, none⟩) (by show b < w.heap.size; omega)).symm).trans hcx)
        clear hcx
        have hcx := hcx2
        have HSET : Hid ((m ++ [[]]).set q ([] ++ [1 - 1]) = partsTo t (k + 1)) := by rw [Hid, HPS.out, add_new, HQ.out]
        have HLEN : Hid ((partsTo t (k + 1)).length = q + 1) := by rw [Hid, HPS.out, add_length, if_pos rfl, HQ.out]
        clear hown4 hgrow4 hat4 hown1 hcx2
        have HM2 := Lib.hid HM1
        have hcell := HM1.outer.1.cellAt q (by omega)
        rw [hvv] at hcell
        have hfr := HM1.outer.1.frozenAt q
        have HKO : Hid (∀ (o : Obj) (W2 : World), (w4.drew.alloc o).grownBy W2 (Value.ownBlock (.slice (some ⟨wr.heap.size, 0, none⟩) 0 0)) → W2.cell? ⟨g4, q, none⟩ = some (.slice (some ⟨wr.heap.size, 0, none⟩) 0 0) ∧ W2.frozen? ⟨g4, q, none⟩ = false) := fun o W2 hg => by
          have h1 : OwnR W2 w.heap.size w4.heap.size 23 (.slice (some ⟨g4, 0, none⟩) (q + 1) cap4) (q + 1) (vs ++ [Value.slice (some ⟨wr.heap.size, 0, none⟩) 0 0]) := by
            refine OwnR.grown (w := w4.drew.alloc o) ((HM2.out.outer.keep (w' := w4.drew) fun _ _ _ => rfl).below ((Below.refl _ _).alloc (Nat.le_refl _) _) (Nat.le_refl _)) hg ?_
            obtain ⟨A9, c9, e9, o9⟩ := HM2.out.inner q [] HRR.out
            rw [hvv] at e9
            injection e9 with e9
            exact own_types HM2.out.outer.1 (by rw [e9]; exact o9.1) (by decide)
          have h2 := h1.1.cellAt q (by omega)
          rw [hvv] at h2
          exact ⟨h2, h1.1.frozenAt q⟩
        have hrow : w4.drew.ownsRow w.heap.size 2 1 (.slice (some ⟨wr.heap.size, 0, none⟩) 0 0) 0 (ints []) := by
          obtain ⟨A9, c9, e9, o9⟩ := HM2.out.inner q [] HRR.out
          rw [hvv] at e9
          injection e9 with e9
          have o10 := (o9.keep (w' := w4.drew) fun _ _ _ => rfl).1
          have el := HRL.out
          rw [← e9, el] at o10
          exact o10
        have HROW := Lib.hid hrow
        have HVV := Lib.hid hvv
        have rl8 : 0 ≤ 8 := hrl8
        clear HM1 hvv hrow hrl8
        have hcx' : w4.drew.cell? ⟨b, o + k, none⟩ = some (.int .i64 1) := hcx
        have hcell' : w4.drew.cell? ⟨g4, q, none⟩ = some (.slice (some ⟨wr.heap.size, 0, none⟩) 0 0) := hcell
        have hfr' : w4.drew.frozen? ⟨g4, q, none⟩ = false := hfr
        have hwd : w.heap.size ≤ w4.drew.heap.size := hwW
        have HG : Hid (∀ (o : Obj) (W2 : World) (g5 cap5 : Nat), W2.ownsRow w.heap.size 2 1 (.slice (some ⟨g5, 0, none⟩) (0 + 1) cap5) (0 + 1) (ints [] ++ [.int .i64 (1 - 1)]) → (w4.drew.alloc o).grownBy W2 (Value.ownBlock (.slice (some ⟨wr.heap.size, 0, none⟩) 0 0)) → (Value.ownBlock (.slice (some ⟨wr.heap.size, 0, none⟩) 0 0) = some g5 ∨ g5 = w4.drew.heap.size + 1) → g5 < W2.heap.size → GrowM w g4 (q + 1) cap4 (partsTo t (k + 1)) (W2.setCell ⟨g4, q, none⟩ (.slice (some ⟨g5, 0, none⟩) (0 + 1) cap5))) := fun o W2 g5 cap5 hown5 hgrow5 hat5 hlt5 => by
          have e1 : ints [] ++ [.int .i64 (1 - 1)] = ints ([] ++ [1 - 1]) := by simp [ints, intsK]
          rw [e1] at hown5
          have h1 := OwnMat.app_row (w := w4.drew) (HM2.out.keep (w' := w4.drew) fun _ _ _ => rfl) (Nat.le_refl _) HRR.out HVV.out HRL.out hown5 hgrow5 hat5 hlt5
          rw [HSET.out] at h1
          refine ⟨_, by rw [show ∀ (p : Addr) (v : Value), (W2.setCell p v).heap.size = W2.heap.size from fun p v => by simp [World.setCell]]; exact h1, ?_⟩
          refine below_set (((below_drew' HBW.out).alloc hwd _).grown hgrow5 (by simp; omega) (fun q hq => (HROW.out.lt q hq).1)) ?_ _
          exact (HM2.out.outer.1.lt g4 rfl).1
        have hwr : IntKind.i64.wrap (1 - 1) = 1 - 1 := IntWalk.i64_in _ (by omega)
        have s0 : (0 : Int) ≤ (q : Int) := by omega
        have s1 : (q : Int) < (q : Int) + 1 := by omega
        have s2 : (0 : Int) ≤ (k : Int) := by omega
        have s3 : (k : Int) < (n : Int) := by omega
        go_wp2_with fail
        have hrow2 := HROW.out
        go_region_law (first | (go_loud (refine step_append_lies _ (by rfl) _ _ 23 (by rfl) w.heap.size 2 i0 _ 1 8 Try.underlying23 hi hz0 hz1 hz2 rfl (by omega) (.slice (some ⟨wr.heap.size, 0, none⟩) 0 0) 0 (ints []) rfl (hrow2.alloc _) ⟨w4.drew.heap.size, 0, none⟩ 1 1 [.int .i64 (1 - 1)] rfl rfl (World.news_of_block (cs := #[.int .i64 (1 - 1)]) (heap_alloc_new _ _)) (by simp [Value.oneCell']) (by omega) (by simp only [maxLen]; omega) (by omega) (by simp; omega) (w4.drew.heap.size + 1) (by simp) ?_); intro g5 cap5 w5 hown5 hgrow5 hat5 hlt5; obtain ⟨hc5, hf5⟩ := HKO.out _ _ hgrow5))
        all_goals
          have G := Lib.hid (HG.out _ _ _ _ hown5 hgrow5 hat5 hlt5)
          clear hown5 hgrow5 hat5 hc5 hf5 hrow2 hwr
          try clear hcellA
          go_wp2
          go_roundw
          case rel => exact ⟨k + 1, q + 1, g4, cap4, _, by omega, by omega, by omega, by omega, rfl, by go_num, rfl, HLEN.out, G.out⟩
          case measure => simp [intOf]; omega
      · have h2k : 2 ≤ k := by
          rcases Nat.lt_or_ge k 2 with y | y
          · have e : k = 1 := by omega
            subst e
            have h9 := (HST.out 1 hlt (Nat.le_refl _)).2
            rw [lv_at HXK.out, HZ.out] at h9
            omega
          · exact y
        obtain ⟨p, rfl⟩ : ∃ p, q = p + 1 := ⟨q - 1, by have := hq1 h2k; omega⟩
        have tx := beq_f hxe
        have hmp : p < m.length := by rw [HQ.out]; omega
        obtain ⟨r, hr⟩ := at_lt hmp
        obtain ⟨Ar, cr, hvv, hor⟩ := HM.inner p r hr
        have HM1 := HM
        have hwW := hsz
        have HBW := Lib.hid HBel
        have HRR := Lib.hid hr
        obtain ⟨rl, hrl⟩ : ∃ rl, rl = r.length := ⟨_, rfl⟩
        have HRL : Hid (r.length = rl) := hrl.symm
        rw [← hrl] at hvv
        have hrl8 : rl ≤ 8 := by
          have := parts_bd t k (by omega) (by rw [← HP.out]; exact List.mem_of_getElem? hr)
          omega
        have HSET : Hid (m.set p (r ++ [x - 1]) = partsTo t (k + 1)) := by
          have e := HQ.out
          rw [Hid, HPS.out, add_last hxe (r := r) (by rw [e]; exact hr), e]; rfl
        have HLEN : Hid ((partsTo t (k + 1)).length = p + 1) := by rw [Hid, HPS.out, add_length, if_neg hxe, HQ.out]
        clear HM HBel hr hor hrl hmp
        have HM2 := Lib.hid HM1
        have hcell := HM1.outer.1.cellAt p (by omega)
        rw [hvv] at hcell
        have hfr := HM1.outer.1.frozenAt p
        have HKO : Hid (∀ (o : Obj) (W2 : World), (wr.drew.alloc o).grownBy W2 (Value.ownBlock (.slice Ar rl cr)) → W2.cell? ⟨g, p, none⟩ = some (.slice Ar rl cr) ∧ W2.frozen? ⟨g, p, none⟩ = false) := fun o W2 hg => by
          have h1 : OwnR W2 w.heap.size wr.heap.size 23 (.slice (some ⟨g, 0, none⟩) (p + 1) cap) (p + 1) vs := by
            refine OwnR.grown (w := wr.drew.alloc o) ((HM2.out.outer.keep (w' := wr.drew) fun _ _ _ => rfl).below ((Below.refl _ _).alloc (Nat.le_refl _) _) (Nat.le_refl _)) hg ?_
            obtain ⟨A9, c9, e9, o9⟩ := HM2.out.inner p r HRR.out
            rw [hvv] at e9
            injection e9 with e9
            exact own_types HM2.out.outer.1 (by rw [e9]; exact o9.1) (by decide)
          have h2 := h1.1.cellAt p (by omega)
          rw [hvv] at h2
          exact ⟨h2, h1.1.frozenAt p⟩
        have hrow : wr.drew.ownsRow w.heap.size 2 1 (.slice Ar rl cr) rl (ints r) := by
          obtain ⟨A9, c9, e9, o9⟩ := HM2.out.inner p r HRR.out
          rw [hvv] at e9
          injection e9 with e9
          have o10 := (o9.keep (w' := wr.drew) fun _ _ _ => rfl).1
          have el := HRL.out
          rw [← e9, el] at o10
          exact o10
        have HROW := Lib.hid hrow
        have HVV := Lib.hid hvv
        have rl8 : rl ≤ 8 := hrl8
        clear HM1 hvv hrow hrl8
        have hcx' : wr.drew.cell? ⟨b, o + k, none⟩ = some (.int .i64 x) := hcx
        have hcell' : wr.drew.cell? ⟨g, p, none⟩ = some (.slice Ar rl cr) := hcell
        have hfr' : wr.drew.frozen? ⟨g, p, none⟩ = false := hfr
        have hwd : w.heap.size ≤ wr.drew.heap.size := hwW
        have HG : Hid (∀ (o : Obj) (W2 : World) (g5 cap5 : Nat), W2.ownsRow w.heap.size 2 1 (.slice (some ⟨g5, 0, none⟩) (rl + 1) cap5) (rl + 1) (ints r ++ [.int .i64 (x - 1)]) → (wr.drew.alloc o).grownBy W2 (Value.ownBlock (.slice Ar rl cr)) → (Value.ownBlock (.slice Ar rl cr) = some g5 ∨ g5 = wr.drew.heap.size + 1) → g5 < W2.heap.size → GrowM w g (p + 1) cap (partsTo t (k + 1)) (W2.setCell ⟨g, p, none⟩ (.slice (some ⟨g5, 0, none⟩) (rl + 1) cap5))) := fun o W2 g5 cap5 hown5 hgrow5 hat5 hlt5 => by
          have e1 : ints r ++ [.int .i64 (x - 1)] = ints (r ++ [x - 1]) := by simp [ints, intsK]
          rw [e1] at hown5
          have h1 := OwnMat.app_row (w := wr.drew) (HM2.out.keep (w' := wr.drew) fun _ _ _ => rfl) (Nat.le_refl _) HRR.out HVV.out HRL.out hown5 hgrow5 hat5 hlt5
          rw [HSET.out] at h1
          refine ⟨_, by rw [show ∀ (p : Addr) (v : Value), (W2.setCell p v).heap.size = W2.heap.size from fun p v => by simp [World.setCell]]; exact h1, ?_⟩
          refine below_set (((below_drew' HBW.out).alloc hwd _).grown hgrow5 (by simp; omega) (fun q hq => (HROW.out.lt q hq).1)) ?_ _
          exact (HM2.out.outer.1.lt g rfl).1
        have hwr : IntKind.i64.wrap (x - 1) = x - 1 := IntWalk.i64_in _ (by omega)
        have s0 : (0 : Int) ≤ (p : Int) := by omega
        have s1 : (p : Int) < (p : Int) + 1 := by omega
        have s2 : (0 : Int) ≤ (k : Int) := by omega
        have s3 : (k : Int) < (n : Int) := by omega
        have hcellA : ∀ o : Obj, (wr.alloc o).cell? ⟨g, p, none⟩ = some (.slice Ar rl cr) := fun o => (((Below.refl wr.heap.size wr).alloc (Nat.le_refl _) o).cell (p := ⟨g, p, none⟩) (lt_of_cell hcell)).trans hcell
        go_wp2_with fail
        have hrow2 := HROW.out
        go_region_law (first | (go_loud (refine step_append_lies _ (by rfl) _ _ 23 (by rfl) w.heap.size 2 i0 _ 1 8 Try.underlying23 hi hz0 hz1 hz2 rfl (by omega) (.slice Ar rl cr) rl (ints r) rfl (hrow2.alloc _) ⟨wr.drew.heap.size, 0, none⟩ 1 1 [.int .i64 (x - 1)] rfl rfl (World.news_of_block (cs := #[.int .i64 (x - 1)]) (heap_alloc_new _ _)) (by simp [Value.oneCell']) (by omega) (by simp only [maxLen]; omega) (by omega) (by simp; omega) (wr.drew.heap.size + 1) (by simp) ?_); intro g5 cap5 w5 hown5 hgrow5 hat5 hlt5; obtain ⟨hc5, hf5⟩ := HKO.out _ _ hgrow5))
        all_goals
          have G := Lib.hid (HG.out _ _ _ _ hown5 hgrow5 hat5 hlt5)
          clear hown5 hgrow5 hat5 hc5 hf5 hrow2 hwr
          try clear hcellA
          go_wp2
          go_roundw
          case rel => exact ⟨k + 1, p + 1, g, cap, _, by omega, by omega, by omega, by omega, rfl, by go_num, rfl, HLEN.out, G.out⟩
          case measure => simp [intOf]; omega
    · obtain rfl : k = n := by omega
      have e : m = Tr.partsL t := by rw [HP.out, ← HL.out]; exact partsTo_end t
      have G : Hid (NewMat (Tr.partsL t).length (Tr.partsL t) w (.returned (.slice (some ⟨g, 0, none⟩) q cap)) wr) := by
        have h1 := GrowM.done ⟨vs, HM, HBel⟩
        rw [e] at h1
        have e2 : (Tr.partsL t).length = q := by rw [← e]; exact HQ.out
        rw [Hid, e2]; exact h1
      clear HM HBel e
      go_wp2
      go_ret
      exact G.out
end Go.Proofs.Ytnnihdkhblbdgaa
