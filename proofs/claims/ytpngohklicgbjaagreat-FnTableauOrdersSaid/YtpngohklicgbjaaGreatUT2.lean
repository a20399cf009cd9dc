/-
  Texts of this seat, joined: what several laws lean on.
-/
import Derived.Test.YtpngohklicgbjaaGreatUT1
import Derived.Test.YtpngohklicgbjaaGreatPush
import Derived.Deep.RegionLaw
import Derived.IntWalk
import Derived.Deep.AppendLies
import Derived.StillTailTactics
import Derived.Test.YtpngohklicgbjaaGreatTests
import Derived.Test.YtpngohklicgbjaaGreatSlices
import Derived.Test.YtpngohklicgbjaaGreatGrow
import Derived.Test.YtpngohklicgbjaaGreatNest
import Derived.Laws.Rows
import Derived.Laws.Tables
import Derived.Laws.CopyOwn
import Derived.Test.YtpngohklicgbjaaGreatTreeN
import Derived.Test.YtpngohklicgbjaaGreatOwn1
import Derived.Test.YtpngohklicgbjaaGreatMarks
import Derived.Lib.SliceRun
import Derived.Laws.AppendOwnNone
import Derived.Test.YtpngohklicgbjaaGreatNestc
import Derived.Test.YtpngohklicgbjaaGreatBase
/-
  The model's branches of a list.
-/
namespace Go.Proofs.YtpngohklicgbjaaGreat
open Go.RowKit Fld
set_option linter.unusedVariables false
set_option linter.unusedSimpArgs false
set_option maxRecDepth 100000

/-- a number is added to a row, and the row laid into its place again -/
theorem OwnMat.app_row {w w2 : World} {lo hi n k q c g cap g2 c2 : Nat} {A : Option Addr} {m : List (List Int)} {vs : List Value} {r : List Int} {x : Int} {o : Obj}
    (h : OwnMat w lo hi (.slice (some ⟨g, 0, none⟩) n cap) n m vs) (hs : hi ≤ w.heap.size) (hk : m[k]? = some r) (hv : vs[k]? = some (.slice A q c)) (hq : r.length = q)
    (h2 : w2.ownsRow lo 2 1 (.slice (some ⟨g2, 0, none⟩) (q + 1) c2) (q + 1) (ints (r ++ [x]))) (hg : (w.alloc o).grownBy w2 (Value.ownBlock (.slice A q c)))
    (hat : Value.ownBlock (.slice A q c) = some g2 ∨ g2 = w.heap.size + 1) (hlt : g2 < w2.heap.size) :
    OwnMat (w2.setCell ⟨g, k, none⟩ (.slice (some ⟨g2, 0, none⟩) (q + 1) c2)) lo w2.heap.size (.slice (some ⟨g, 0, none⟩) n cap) n (m.set k (r ++ [x])) (vs.set k (.slice (some ⟨g2, 0, none⟩) (q + 1) c2)) := by
  have hal : Below w.heap.size w (w.alloc o) := (Below.refl _ _).alloc (Nat.le_refl _) _
  have hz : w.heap.size + 1 ≤ w2.heap.size := by have := hg.size; simpa using this
  have hkl : k < m.length := by
    rcases Nat.lt_or_ge k m.length with y | y
    · exact y
    · rw [List.getElem?_eq_none y] at hk; cases hk
  obtain ⟨A0, c0, e0, o0⟩ := h.inner k r hk
  rw [hv] at e0
  injection e0 with e0
  injection e0 with eA eq ec
  subst eA ec
  rw [← eq] at o0
  have hout2 : OwnR w2 lo hi 25 (.slice (some ⟨g, 0, none⟩) n cap) n vs := (h.outer.below hal hs).grown hg (own_types h.outer.1 o0.1 (by decide))
  have hset := hout2.1.stored k (.slice (some ⟨g2, 0, none⟩) (q + 1) c2)
  have other : ∀ s r2, s ≠ k → m[s]? = some r2 → ∃ A2 c', vs[s]? = some (.slice A2 r2.length c') ∧ OwnR w2 lo hi 2 (.slice A2 r2.length c') r2.length (ints r2) ∧ (∀ g', Value.ownBlock (.slice A2 r2.length c') = some g' → g' ≠ g2) := by
    intro s r2 hsk hr
    obtain ⟨A2, c', e2, o2⟩ := h.inner s r2 hr
    refine ⟨A2, c', e2, (o2.below hal hs).grown hg ?_, fun g' hg' => ?_⟩
    · cases hb : Value.ownBlock (.slice A2 r2.length c') with
      | none => exact .inl rfl
      | some g' => exact .inr (fun e => h.apart s k _ _ g' hsk e2 hv hb e.symm)
    · rcases hat with hat | hat
      · intro e
        exact h.apart s k _ _ g' hsk e2 hv hg' (by rw [hat, e])
      · have := o2.2 g' hg'; omega
  refine ⟨⟨hset.1, fun g' e => by have := hout2.2 g' e; omega⟩, by rw [List.length_set, List.length_set]; exact h.len, ?_, ?_⟩
  · intro s r2 hr
    by_cases hsk : k = s
    · subst hsk
      rw [List.getElem?_set_self hkl] at hr
      injection hr with hr
      subst hr
      have el : (r ++ [x]).length = q + 1 := by rw [List.length_append]; simp; exact hq
      refine ⟨some ⟨g2, 0, none⟩, c2, by rw [el, List.getElem?_set_self (by rw [h.len]; exact hkl)], ?_⟩
      rw [el]
      have oR : OwnR w2 lo w2.heap.size 2 (.slice (some ⟨g2, 0, none⟩) (q + 1) c2) (q + 1) (ints (r ++ [x])) := ⟨h2, fun g' e => by have : g2 = g' := (by simpa [Value.ownBlock] using e); omega⟩
      exact oR.grown hset.2 (own_types oR.1 hout2.1 (by decide))
    · rw [List.getElem?_set_ne hsk] at hr
      obtain ⟨A2, c', e2, o2, _⟩ := other s r2 (fun e => hsk e.symm) hr
      exact ⟨A2, c', by rw [List.getElem?_set_ne hsk]; exact e2, (o2.more (Nat.le_refl _) (by omega)).grown hset.2 (own_types o2.1 hout2.1 (by decide))⟩
  · intro a b u t g' hne hu ht hb hb'
    by_cases hak : k = a
    · subst hak
      rw [List.getElem?_set_self (by rw [h.len]; exact hkl)] at hu
      rw [List.getElem?_set_ne hne] at ht
      injection hu with hu
      subst hu
      have hbl : b < m.length := by
        rcases Nat.lt_or_ge b m.length with y | y
        · exact y
        · rw [List.getElem?_eq_none (by rw [h.len]; exact y)] at ht; cases ht
      obtain ⟨A2, c', e2, _, n2⟩ := other b _ (Ne.symm hne) (List.getElem?_eq_getElem hbl)
      rw [ht] at e2
      injection e2 with e2
      subst e2
      have h1 : g2 = g' := by simpa [Value.ownBlock] using hb
      exact n2 g' hb' h1.symm
    · rw [List.getElem?_set_ne hak] at hu
      by_cases hbk : k = b
      · subst hbk
        rw [List.getElem?_set_self (by rw [h.len]; exact hkl)] at ht
        injection ht with ht
        subst ht
        have hal2 : a < m.length := by
          rcases Nat.lt_or_ge a m.length with y | y
          · exact y
          · rw [List.getElem?_eq_none (by rw [h.len]; exact y)] at hu; cases hu
        obtain ⟨A2, c', e2, _, n2⟩ := other a _ hne (List.getElem?_eq_getElem hal2)
        rw [hu] at e2
        injection e2 with e2
        subst e2
        have h1 : g2 = g' := by simpa [Value.ownBlock] using hb'
        exact n2 g' hb h1.symm
      · rw [List.getElem?_set_ne hbk] at ht
        exact h.apart a b u t g' hne hu ht hb hb'
/-- the branches up to a place -/
def partsTo (t : List Int) (i : Nat) : List (List Int) := ((t.take i).drop 1).foldl Tr.addNode []
theorem partsTo_one (t : List Int) : partsTo t 1 = [] := by
  unfold partsTo
  have : (t.take 1).drop 1 = [] := List.drop_of_length_le (by rw [List.length_take]; omega)
  rw [this]; rfl
theorem partsTo_step {t : List Int} {i : Nat} {x : Int} (hx : t[i]? = some x) (h1 : 1 ≤ i) : partsTo t (i + 1) = Tr.addNode (partsTo t i) x := by
  unfold partsTo
  rw [List.take_add_one, hx, Option.toList_some, List.drop_append_of_le_length (by
    have : i < t.length := by
      rcases Nat.lt_or_ge i t.length with y | y
      · exact y
      · rw [List.getElem?_eq_none y] at hx; cases hx
    rw [List.length_take]; omega), List.foldl_append]
  rfl
theorem partsTo_end (t : List Int) : partsTo t t.length = Tr.partsL t := by unfold partsTo Tr.partsL; rw [List.take_length]
theorem add_new (m : List (List Int)) : Tr.addNode m 1 = (m ++ [[]]).set m.length ([] ++ [1 - 1]) := by
  simp [Tr.addNode]
theorem add_last {m : List (List Int)} {x : Int} {r : List Int} (h : x ≠ 1) (hr : m[m.length - 1]? = some r) : Tr.addNode m x = m.set (m.length - 1) (r ++ [x - 1]) := by
  unfold Tr.addNode
  simp only [if_neg h]
  rw [List.getD_eq_getElem?_getD, hr]; rfl
theorem add_length (m : List (List Int)) (x : Int) : (Tr.addNode m x).length = if x = 1 then m.length + 1 else m.length := by
  unfold Tr.addNode
  split <;> simp
theorem add_bd {m : List (List Int)} {x : Int} {q : Nat} (h : ∀ r ∈ m, r.length ≤ q) : ∀ r ∈ Tr.addNode m x, r.length ≤ q + 1 := by
  intro r hr
  unfold Tr.addNode at hr
  have hm : ∀ r ∈ (if x = 1 then m ++ [[]] else m), r.length ≤ q := by
    intro r hr
    split at hr
    · rw [List.mem_append] at hr
      rcases hr with hr | hr
      · exact h r hr
      · rw [List.mem_singleton] at hr; subst hr; simp
    · exact h r hr
  rcases List.mem_or_eq_of_mem_set hr with hr | rfl
  · have := hm r hr; omega
  · rw [List.length_append]
    have : ∀ k, ((if x = 1 then m ++ [[]] else m).getD k []).length ≤ q := fun k => by
      rw [List.getD_eq_getElem?_getD]
      cases e : (if x = 1 then m ++ [[]] else m)[k]? with
      | none => simp
      | some z => exact hm z (List.mem_of_getElem? e)
    exact Nat.succ_le_succ (this ((if x = 1 then m ++ [[]] else m).length - 1))
theorem parts_bd (t : List Int) : ∀ (k : Nat), k ≤ k → ∀ {r}, r ∈ partsTo t k → r.length ≤ k
  | 0, _, r, hr => by simp [partsTo] at hr
  | k+1, _, r, hr => by
    rcases Nat.eq_zero_or_pos k with e | e
    · subst e; rw [partsTo_one] at hr; cases hr
    · cases hx : t[k]? with
      | none =>
        have e2 : partsTo t (k + 1) = partsTo t k := by unfold partsTo; rw [List.take_add_one, hx]; simp
        rw [e2] at hr
        have := parts_bd t k (Nat.le_refl _) hr; omega
      | some x =>
        rw [partsTo_step hx e] at hr
        exact add_bd (fun r hr => parts_bd t k (Nat.le_refl _) hr) r hr
theorem below_drew' {B : Nat} {a w : World} (h : Below B a w) : Below B a w.drew := ⟨h.os, h.tape, h.output, h.size, h.block⟩
set_option maxHeartbeats 1000000 in
theorem l03Parts_any (A : Option Addr) (n c B : Nat) (t : List Int) (w : World) (hl : t.length = n) (hlv : Tr.isLv t = true) (hB : B ≤ w.heap.size) (h : Row w B A (ints t)) :
    Calls Tryz.prog 58 #[.slice A n c] w (NewMat (Tr.partsL t).length (Tr.partsL t) w) := by
  obtain ⟨i0, hi, hz0, hz1, hz2⟩ := info_parts info_i64
  obtain ⟨j0, hj, hy0, hy1, hy2⟩ := info_parts info_row
  have hL := Tr.isLv_iff.1 hlv
  obtain ⟨x0, hx0⟩ := at_lt (show 0 < t.length by have := hL.1; omega)
  obtain ⟨b, o, rfl, _, _⟩ := h 0 _ (ints_at hx0)
  have HST : Hid (StepsTo t n) := by rw [Hid, ← hl]; exact hL.2.2.2
  have HZ : Hid (t.getD 0 0 = 0) := hL.2.2.1
  have n1 : 1 ≤ n := by have := hL.1; omega
  have n8 : n ≤ 8 := by have := hL.2.1; omega
  have HL := Lib.hid hl
  clear hl hlv hL hx0
  go_enter Tryz.func58, Tryz.ntmps58
  go_wp2_with fail
  go_loopw [3, 4] (fun v i wr => ∃ (k q g cap : Nat) (m : List (List Int)), 1 ≤ k ∧ k ≤ n ∧ q ≤ k ∧ (2 ≤ k → 1 ≤ q) ∧ v = .slice (some ⟨g, 0, none⟩) q cap ∧ i = .int .i64 k ∧ Hid (m = partsTo t k) ∧ Hid (m.length = q) ∧ GrowM w g q cap m wr) (fun _ i _ => n - (intOf i).toNat)
  case atStart => exact ⟨1, 0, _, 0, [], Nat.le_refl _, n1, by omega, by omega, rfl, rfl, (partsTo_one t).symm, rfl, GrowM.start ..⟩
  case round =>
    obtain ⟨k, q, g, cap, m, k1, hk, hqk, hq1, rfl, rfl, HP, HQ, vs, HM, HBel⟩ := hrel
    have hsz := HBel.size
    by_cases hlt : k < n
    · obtain ⟨x, hx⟩ := at_lt (show k < t.length by rw [HL.out]; exact hlt)
      obtain ⟨_, _, e1, _, hcx⟩ := h.below HBel hB k _ (ints_at hx)
      cases e1
      have hx1 : 1 ≤ x := by have := (HST.out k hlt k1).1; rw [lv_at hx] at this; exact this
      have hx8 : x ≤ 8 := by have := HST.out.le HZ.out k hlt; rw [lv_at hx] at this; omega
      have HPS : Hid (partsTo t (k + 1) = Tr.addNode m x) := by rw [Hid, HP.out]; exact partsTo_step hx k1
      have HXK := Lib.hid hx
      clear hx
      by_cases hxe : x = 1
      · subst hxe
        have HM' := Lib.hid HM
        have HBel' := Lib.hid HBel
        have hown1 := (HM.below ((Below.refl wr.heap.size wr).alloc (Nat.le_refl _) (.cells #[] 2)) (Nat.le_refl _)).outer.1
        clear HM HBel
        go_wp2_with (at_builtin; refine wpList_append_lies _ rfl (.tmp 18) (.tmp 20) 24 rfl w.heap.size 25 j0 _ 1 24 Tryz.underlying24 hj hy0 hy1 hy2 rfl (by omega) (.slice (some ⟨g, 0, none⟩) q cap) q vs rfl (hown1.alloc _) ⟨wr.heap.size + 1, 0, none⟩ 1 1 [.slice (some ⟨wr.heap.size, 0, none⟩) 0 0] rfl rfl (by have := World.news_of_block (w := (wr.alloc (.cells #[] 2)).alloc (.cells #[.slice (some ⟨wr.heap.size, 0, none⟩) 0 0] 25)) (cs := #[.slice (some ⟨wr.heap.size, 0, none⟩) 0 0]) (heap_alloc_new _ _); simpa using this) (by simp [Value.oneCell']) (by omega) (by simp only [maxLen]; omega) (by omega) (by simp; omega) (wr.heap.size + 2) (by simp) ?_; intro g4 cap4 w4 hown4 hgrow4 hat4 hlt4)
        have HM1 : OwnMat w4 w.heap.size w4.heap.size (.slice (some ⟨g4, 0, none⟩) (q + 1) cap4) (q + 1) (m ++ [[]]) (vs ++ [.slice (some ⟨wr.heap.size, 0, none⟩) 0 0]) :=
          (HM'.out.below ((Below.refl wr.heap.size wr).alloc (Nat.le_refl _) (.cells #[] 2)) (Nat.le_refl _)).push (row := []) (by simp) rfl (World.ownsRow_lit wr #[] 0 (Nat.le_refl _) (Nat.zero_le _) rfl) hsz hown4 hgrow4
        have hwW : w.heap.size ≤ w4.heap.size := by have := hgrow4.size; simp at this; omega
        have HBW : Hid (Below w.heap.size w w4) := ((HBel'.out.alloc hsz _).alloc (by simp; omega) _).grown hgrow4 (by simp; omega) (fun p hp => (hown1.lt p hp).1)
        have hvv : (vs ++ [Value.slice (some ⟨wr.heap.size, 0, none⟩) 0 0])[q]? = some (.slice (some ⟨wr.heap.size, 0, none⟩) 0 0) := by
          have e : vs.length = q := by rw [HM'.out.len]; exact HQ.out
          rw [List.getElem?_append_right (by omega), e, Nat.sub_self]; rfl
        have HRR : Hid ((m ++ [[]])[q]? = some []) := by
          have e := HQ.out
          rw [Hid, List.getElem?_append_right (by omega), e, Nat.sub_self]; rfl
        have HRL : Hid (([] : List Int).length = 0) := rfl
        have hrl8 : 0 ≤ 8 := by omega
        have hcx2 : w4.cell? ⟨b, o + k, none⟩ = some (.int .i64 1) := (HBW.out.cell (p := ⟨b, o + k, none⟩) (by show b < w.heap.size; omega)).trans (((HBel'.out.cell (p := ⟨b, o + k, none⟩) (by show b < w.heap.size; omega)).symm).trans hcx)
        clear hcx
        have hcx := hcx2
        have HSET : Hid ((m ++ [[]]).set q ([] ++ [1 - 1]) = partsTo t (k + 1)) := by rw [Hid, HPS.out, add_new, HQ.out]
        have HLEN : Hid ((partsTo t (k + 1)).length = q + 1) := by rw [Hid, HPS.out, add_length, if_pos rfl, HQ.out]
        clear hown4 hgrow4 hat4 hown1 hcx2
        have HM2 := Lib.hid HM1
        have hcell := HM1.outer.1.cellAt q (by omega)
        rw [hvv] at hcell
        have hfr := HM1.outer.1.frozenAt q
        have HKO : Hid (∀ (o : Obj) (W2 : World), (w4.drew.alloc o).grownBy W2 (Value.ownBlock (.slice (some ⟨wr.heap.size, 0, none⟩) 0 0)) → W2.cell? ⟨g4, q, none⟩ = some (.slice (some ⟨wr.heap.size, 0, none⟩) 0 0) ∧ W2.frozen? ⟨g4, q, none⟩ = false) := fun o W2 hg => by
          have h1 : OwnR W2 w.heap.size w4.heap.size 25 (.slice (some ⟨g4, 0, none⟩) (q + 1) cap4) (q + 1) (vs ++ [Value.slice (some ⟨wr.heap.size, 0, none⟩) 0 0]) := by
            refine OwnR.grown (w := w4.drew.alloc o) ((HM2.out.outer.keep (w' := w4.drew) fun _ _ _ => rfl).below ((Below.refl _ _).alloc (Nat.le_refl _) _) (Nat.le_refl _)) hg ?_
            obtain ⟨A9, c9, e9, o9⟩ := HM2.out.inner q [] HRR.out
            rw [hvv] at e9
            injection e9 with e9
            exact own_types HM2.out.outer.1 (by rw [e9]; exact o9.1) (by decide)
          have h2 := h1.1.cellAt q (by omega)
          rw [hvv] at h2
          exact ⟨h2, h1.1.frozenAt q⟩
        have hrow : w4.drew.ownsRow w.heap.size 2 1 (.slice (some ⟨wr.heap.size, 0, none⟩) 0 0) 0 (ints []) := by
          obtain ⟨A9, c9, e9, o9⟩ := HM2.out.inner q [] HRR.out
          rw [hvv] at e9
          injection e9 with e9
          have o10 := (o9.keep (w' := w4.drew) fun _ _ _ => rfl).1
          have el := HRL.out
          rw [← e9, el] at o10
          exact o10
        have HROW := Lib.hid hrow
        have HVV := Lib.hid hvv
        have rl8 : 0 ≤ 8 := hrl8
        clear HM1 hvv hrow hrl8
        have hcx' : w4.drew.cell? ⟨b, o + k, none⟩ = some (.int .i64 1) := hcx
        have hcell' : w4.drew.cell? ⟨g4, q, none⟩ = some (.slice (some ⟨wr.heap.size, 0, none⟩) 0 0) := hcell
        have hfr' : w4.drew.frozen? ⟨g4, q, none⟩ = false := hfr
        have hwd : w.heap.size ≤ w4.drew.heap.size := hwW
        have HG : Hid (∀ (o : Obj) (W2 : World) (g5 cap5 : Nat), W2.ownsRow w.heap.size 2 1 (.slice (some ⟨g5, 0, none⟩) (0 + 1) cap5) (0 + 1) (ints [] ++ [.int .i64 (1 - 1)]) → (w4.drew.alloc o).grownBy W2 (Value.ownBlock (.slice (some ⟨wr.heap.size, 0, none⟩) 0 0)) → (Value.ownBlock (.slice (some ⟨wr.heap.size, 0, none⟩) 0 0) = some g5 ∨ g5 = w4.drew.heap.size + 1) → g5 < W2.heap.size → GrowM w g4 (q + 1) cap4 (partsTo t (k + 1)) (W2.setCell ⟨g4, q, none⟩ (.slice (some ⟨g5, 0, none⟩) (0 + 1) cap5))) := fun o W2 g5 cap5 hown5 hgrow5 hat5 hlt5 => by
          have e1 : ints [] ++ [.int .i64 (1 - 1)] = ints ([] ++ [1 - 1]) := by simp [ints, intsK]
          rw [e1] at hown5
          have h1 := OwnMat.app_row (w := w4.drew) (HM2.out.keep (w' := w4.drew) fun _ _ _ => rfl) (Nat.le_refl _) HRR.out HVV.out HRL.out hown5 hgrow5 hat5 hlt5
          rw [HSET.out] at h1
          refine ⟨_, by rw [show ∀ (p : Addr) (v : Value), (W2.setCell p v).heap.size = W2.heap.size from fun p v => by simp [World.setCell]]; exact h1, ?_⟩
          refine below_set (((below_drew' HBW.out).alloc hwd _).grown hgrow5 (by simp; omega) (fun q hq => (HROW.out.lt q hq).1)) ?_ _
          exact (HM2.out.outer.1.lt g4 rfl).1
        have hwr : IntKind.i64.wrap (1 - 1) = 1 - 1 := IntWalk.i64_in _ (by omega)
        have s0 : (0 : Int) ≤ (q : Int) := by omega
        have s1 : (q : Int) < (q : Int) + 1 := by omega
        have s2 : (0 : Int) ≤ (k : Int) := by omega
        have s3 : (k : Int) < (n : Int) := by omega
        go_wp2_with fail
        have hrow2 := HROW.out
        go_region_law (first | (go_loud (refine step_append_lies _ (by rfl) _ _ 25 (by rfl) w.heap.size 2 i0 _ 1 8 Tryz.underlying25 hi hz0 hz1 hz2 rfl (by omega) (.slice (some ⟨wr.heap.size, 0, none⟩) 0 0) 0 (ints []) rfl (hrow2.alloc _) ⟨w4.drew.heap.size, 0, none⟩ 1 1 [.int .i64 (1 - 1)] rfl rfl (World.news_of_block (cs := #[.int .i64 (1 - 1)]) (heap_alloc_new _ _)) (by simp [Value.oneCell']) (by omega) (by simp only [maxLen]; omega) (by omega) (by simp; omega) (w4.drew.heap.size + 1) (by simp) ?_); intro g5 cap5 w5 hown5 hgrow5 hat5 hlt5; obtain ⟨hc5, hf5⟩ := HKO.out _ _ hgrow5))
        all_goals
          have G := Lib.hid (HG.out _ _ _ _ hown5 hgrow5 hat5 hlt5)
          clear hown5 hgrow5 hat5 hc5 hf5 hrow2 hwr
          try clear hcellA
          go_wp2
          go_roundw
          case rel => exact ⟨k + 1, q + 1, g4, cap4, _, by omega, by omega, by omega, by omega, rfl, by go_num, rfl, HLEN.out, G.out⟩
          case measure => simp [intOf]; omega
      · have h2k : 2 ≤ k := by
          rcases Nat.lt_or_ge k 2 with y | y
          · have e : k = 1 := by omega
            subst e
            have h9 := (HST.out 1 hlt (Nat.le_refl _)).2
            rw [lv_at HXK.out, HZ.out] at h9
            omega
          · exact y
        obtain ⟨p, rfl⟩ : ∃ p, q = p + 1 := ⟨q - 1, by have := hq1 h2k; omega⟩
        have tx := beq_f hxe
        have hmp : p < m.length := by rw [HQ.out]; omega
        obtain ⟨r, hr⟩ := at_lt hmp
        obtain ⟨Ar, cr, hvv, hor⟩ := HM.inner p r hr
        have HM1 := HM
        have hwW := hsz
        have HBW := Lib.hid HBel
        have HRR := Lib.hid hr
        obtain ⟨rl, hrl⟩ : ∃ rl, rl = r.length := ⟨_, rfl⟩
        have HRL : Hid (r.length = rl) := hrl.symm
        rw [← hrl] at hvv
        have hrl8 : rl ≤ 8 := by
          have := parts_bd t k (by omega) (by rw [← HP.out]; exact List.mem_of_getElem? hr)
          omega
        have HSET : Hid (m.set p (r ++ [x - 1]) = partsTo t (k + 1)) := by
          have e := HQ.out
          rw [Hid, HPS.out, add_last hxe (r := r) (by rw [e]; exact hr), e]; rfl
        have HLEN : Hid ((partsTo t (k + 1)).length = p + 1) := by rw [Hid, HPS.out, add_length, if_neg hxe, HQ.out]
        clear HM HBel hr hor hrl hmp
        have HM2 := Lib.hid HM1
        have hcell := HM1.outer.1.cellAt p (by omega)
        rw [hvv] at hcell
        have hfr := HM1.outer.1.frozenAt p
        have HKO : Hid (∀ (o : Obj) (W2 : World), (wr.drew.alloc o).grownBy W2 (Value.ownBlock (.slice Ar rl cr)) → W2.cell? ⟨g, p, none⟩ = some (.slice Ar rl cr) ∧ W2.frozen? ⟨g, p, none⟩ = false) := fun o W2 hg => by
          have h1 : OwnR W2 w.heap.size wr.heap.size 25 (.slice (some ⟨g, 0, none⟩) (p + 1) cap) (p + 1) vs := by
            refine OwnR.grown (w := wr.drew.alloc o) ((HM2.out.outer.keep (w' := wr.drew) fun _ _ _ => rfl).below ((Below.refl _ _).alloc (Nat.le_refl _) _) (Nat.le_refl _)) hg ?_
            obtain ⟨A9, c9, e9, o9⟩ := HM2.out.inner p r HRR.out
            rw [hvv] at e9
            injection e9 with e9
            exact own_types HM2.out.outer.1 (by rw [e9]; exact o9.1) (by decide)
          have h2 := h1.1.cellAt p (by omega)
          rw [hvv] at h2
          exact ⟨h2, h1.1.frozenAt p⟩
        have hrow : wr.drew.ownsRow w.heap.size 2 1 (.slice Ar rl cr) rl (ints r) := by
          obtain ⟨A9, c9, e9, o9⟩ := HM2.out.inner p r HRR.out
          rw [hvv] at e9
          injection e9 with e9
          have o10 := (o9.keep (w' := wr.drew) fun _ _ _ => rfl).1
          have el := HRL.out
          rw [← e9, el] at o10
          exact o10
        have HROW := Lib.hid hrow
        have HVV := Lib.hid hvv
        have rl8 : rl ≤ 8 := hrl8
        clear HM1 hvv hrow hrl8
        have hcx' : wr.drew.cell? ⟨b, o + k, none⟩ = some (.int .i64 x) := hcx
        have hcell' : wr.drew.cell? ⟨g, p, none⟩ = some (.slice Ar rl cr) := hcell
        have hfr' : wr.drew.frozen? ⟨g, p, none⟩ = false := hfr
        have hwd : w.heap.size ≤ wr.drew.heap.size := hwW
        have HG : Hid (∀ (o : Obj) (W2 : World) (g5 cap5 : Nat), W2.ownsRow w.heap.size 2 1 (.slice (some ⟨g5, 0, none⟩) (rl + 1) cap5) (rl + 1) (ints r ++ [.int .i64 (x - 1)]) → (wr.drew.alloc o).grownBy W2 (Value.ownBlock (.slice Ar rl cr)) → (Value.ownBlock (.slice Ar rl cr) = some g5 ∨ g5 = wr.drew.heap.size + 1) → g5 < W2.heap.size → GrowM w g (p + 1) cap (partsTo t (k + 1)) (W2.setCell ⟨g, p, none⟩ (.slice (some ⟨g5, 0, none⟩) (rl + 1) cap5))) := fun o W2 g5 cap5 hown5 hgrow5 hat5 hlt5 => by
          have e1 : ints r ++ [.int .i64 (x - 1)] = ints (r ++ [x - 1]) := by simp [ints, intsK]
          rw [e1] at hown5
          have h1 := OwnMat.app_row (w := wr.drew) (HM2.out.keep (w' := wr.drew) fun _ _ _ => rfl) (Nat.le_refl _) HRR.out HVV.out HRL.out hown5 hgrow5 hat5 hlt5
          rw [HSET.out] at h1
          refine ⟨_, by rw [show ∀ (p : Addr) (v : Value), (W2.setCell p v).heap.size = W2.heap.size from fun p v => by simp [World.setCell]]; exact h1, ?_⟩
          refine below_set (((below_drew' HBW.out).alloc hwd _).grown hgrow5 (by simp; omega) (fun q hq => (HROW.out.lt q hq).1)) ?_ _
          exact (HM2.out.outer.1.lt g rfl).1
        have hwr : IntKind.i64.wrap (x - 1) = x - 1 := IntWalk.i64_in _ (by omega)
        have s0 : (0 : Int) ≤ (p : Int) := by omega
        have s1 : (p : Int) < (p : Int) + 1 := by omega
        have s2 : (0 : Int) ≤ (k : Int) := by omega
        have s3 : (k : Int) < (n : Int) := by omega
        have hcellA : ∀ o : Obj, (wr.alloc o).cell? ⟨g, p, none⟩ = some (.slice Ar rl cr) := fun o => (((Below.refl wr.heap.size wr).alloc (Nat.le_refl _) o).cell (p := ⟨g, p, none⟩) (lt_of_cell hcell)).trans hcell
        go_wp2_with fail
        have hrow2 := HROW.out
        go_region_law (first | (go_loud (refine step_append_lies _ (by rfl) _ _ 25 (by rfl) w.heap.size 2 i0 _ 1 8 Tryz.underlying25 hi hz0 hz1 hz2 rfl (by omega) (.slice Ar rl cr) rl (ints r) rfl (hrow2.alloc _) ⟨wr.drew.heap.size, 0, none⟩ 1 1 [.int .i64 (x - 1)] rfl rfl (World.news_of_block (cs := #[.int .i64 (x - 1)]) (heap_alloc_new _ _)) (by simp [Value.oneCell']) (by omega) (by simp only [maxLen]; omega) (by omega) (by simp; omega) (wr.drew.heap.size + 1) (by simp) ?_); intro g5 cap5 w5 hown5 hgrow5 hat5 hlt5; obtain ⟨hc5, hf5⟩ := HKO.out _ _ hgrow5))
        all_goals
          have G := Lib.hid (HG.out _ _ _ _ hown5 hgrow5 hat5 hlt5)
          clear hown5 hgrow5 hat5 hc5 hf5 hrow2 hwr
          try clear hcellA
          go_wp2
          go_roundw
          case rel => exact ⟨k + 1, p + 1, g, cap, _, by omega, by omega, by omega, by omega, rfl, by go_num, rfl, HLEN.out, G.out⟩
          case measure => simp [intOf]; omega
    · obtain rfl : k = n := by omega
      have e : m = Tr.partsL t := by rw [HP.out, ← HL.out]; exact partsTo_end t
      have G : Hid (NewMat (Tr.partsL t).length (Tr.partsL t) w (.returned (.slice (some ⟨g, 0, none⟩) q cap)) wr) := by
        have h1 := GrowM.done ⟨vs, HM, HBel⟩
        rw [e] at h1
        have e2 : (Tr.partsL t).length = q := by rw [← e]; exact HQ.out
        rw [Hid, e2]; exact h1
      clear HM HBel e
      go_wp2
      go_ret
      exact G.out
end Go.Proofs.YtpngohklicgbjaaGreat
/-
  Stage weights: the model's walk.
-/
namespace Go.Proofs.YtpngohklicgbjaaGreat
open Go.RowKit Fld
set_option linter.unusedVariables false
set_option linter.unusedSimpArgs false
set_option maxRecDepth 100000

theorem stillW {P : Program} {f : FuncId} {args : Array Value} {w : World} {v : Value} (h : Calls P f args w fun e w' => e = .returned v ∧ w = w') : Calls P f args w fun e w' => e = .returned v ∧ w' = w :=
  h.mono fun _ _ ⟨h1, h2⟩ => ⟨h1, h2.symm⟩
def StageM (d : Nat) : Prop := ∀ (t : List Int) (A D A2 : Option Addr) (n c dd n2 c2 B B2 : Nat) (m : List (List Int)) (w : World), Tr.isLv t = true → t.length ≤ d → t.length = n2 → m.length = n → 1 ≤ n → n ≤ 8 → Wide m n → (∀ r ∈ m, allNum r = true) → B ≤ w.heap.size → B2 ≤ w.heap.size → Mat w B A m → Row w B2 A2 (ints t) →
  Calls Tryz.prog 32 #[.agg #[.slice A n c, .slice D n dd], .slice A2 n2 c2] w (NewRow 2 n (ints (sw m n (Tr.txt t))) w)
set_option maxHeartbeats 4000000 in
theorem stageM_succ (d : Nat) (IH : StageM d) : StageM (d + 1) := by
  intro t A D A2 n c dd n2 c2 B B2 m w hlv htd hl2 hl hn1 hn hq hnum hB hB2 h h2
  obtain ⟨_, hpt, hq7⟩ := Tr.can_parts hlv
  have HLV := Lib.hid hlv
  have HL := Lib.hid hl
  have HL2 := Lib.hid hl2
  have HQ := Lib.hid hq
  have HN := Lib.hid hnum
  have hn2 : n2 ≤ 8 := by rw [← hl2]; exact (lv_bd hlv).2
  obtain ⟨W0, hW0⟩ : ∃ W0, W0 = w.alloc (.cells #[.slice A n c, .slice D n dd] 27) := ⟨_, rfl⟩
  have HB : Hid (Below w.heap.size w W0) := by rw [hW0]; exact (Below.refl _ _).alloc (Nat.le_refl _) _
  have HBX : Hid (Bx W0 w.heap.size 27 (.slice A n c) (.slice D n dd)) := by rw [hW0]; exact Bx.new _ _ _ _
  have zA : w.heap.size < W0.heap.size := HBX.out.lt
  have HM := Lib.hid (h.below HB.out hB)
  have HT := Lib.hid (h2.below HB.out hB2)
  have IHb : Hid (∀ b ∈ Tr.partsL t, ∀ (V : World) (A3 : Option Addr) (c3 B3 : Nat), B ≤ V.heap.size → B3 ≤ V.heap.size → Mat V B A m → Row V B3 A3 (ints b) → Calls Tryz.prog 32 #[.agg #[.slice A n c, .slice D n dd], .slice A3 b.length c3] V (NewRow 2 n (ints (sw m n (Tr.txt b))) V)) := fun b hb V A3 c3 B3 h1 h2 h3 h4 =>
    IH b A D A3 n c dd b.length c3 B B3 m V (hpt b hb).1 (by have := (hpt b hb).2; omega) rfl HL.out hn1 hn HQ.out HN.out h1 h2 h3 h4
  have HPT : Hid (∀ b ∈ Tr.partsL t, Tr.isLv b = true) := fun b hb => (hpt b hb).1
  have hq7' : (Tr.partsL t).length ≤ 7 := hq7
  have HALL : Hid (swTo m n ((Tr.partsL t).map Tr.txt) (Tr.partsL t).length = sw m n (Tr.txt t)) := swTo_parts hlv rfl
  have CB := fun V (hV : Below W0.heap.size W0 V) => l03Parts_any A2 n2 c2 B2 t V HL2.out HLV.out (by have := hV.size; omega) (HT.out.below hV (by omega))
  obtain ⟨L, hL⟩ : ∃ L, L = Tr.partsL t := ⟨_, rfl⟩
  rw [← hL] at IHb HPT HALL hq7'
  simp only [← hL] at CB
  obtain ⟨q, hqq⟩ : ∃ q, q = L.length := ⟨_, rfl⟩
  have HQL := Lib.hid hqq
  rw [← hqq] at hq7' HALL
  simp only [← hqq] at CB
  clear hl hl2 hq hnum h h2 hpt hL hqq htd IH hlv hq7
  go_enter Tryz.func32, Tryz.ntmps32
  go_wp2_with fail
  rw [← hW0]
  clear hW0
  refine (l09Ones_any n W0 hn).mono ?_
  rintro e w1 ⟨A1, c1, rfl, own1, b1⟩
  obtain ⟨g1, rfl, hg0, hg1⟩ := own_block own1 hn1
  have hc1 := own_cap own1
  have hz1 := b1.size
  have HO1 := Lib.hid own1
  have HB1 := Lib.hid b1
  clear own1 b1
  go_wp2_with fail
  refine (CB w1 HB1.out).mono ?_
  rintro e w2 ⟨A3, c3, vs, rfl, own2, b2⟩
  have hz2 := b2.size
  have HO2 := Lib.hid own2
  have S0 : Hid (WState w w2 2 g1 n c1 (swTo m n (L.map Tr.txt) 0) w2) := by
    refine ⟨?_, Within.refl _ _ _⟩
    exact ((((OwnR.of HO1.out).below b2 (Nat.le_refl _)).more (Nat.le_of_lt zA) (Nat.le_refl _))).1
  have HB2 := Lib.hid (HB1.out.trans (b2.mono hz1))
  have HBX2 := Lib.hid (HBX.out.next HB2.out)
  have HM2 := Lib.hid (HM.out.below HB2.out (by omega))
  have HBW := Lib.hid (HB.out.trans (HB2.out.mono (Nat.le_of_lt zA)))
  have FR : Hid (∀ xs wr, WState w w2 2 g1 n c1 xs wr → Mat wr w2.heap.size A3 L ∧ Bx wr w.heap.size 27 (.slice A n c) (.slice D n dd) ∧ Mat wr B A m ∧ Below w.heap.size w wr ∧ w2.heap.size ≤ wr.heap.size) := fun xs wr hs =>
    ⟨(HO2.out.within hs.2 (Nat.le_refl _) (by omega)).mat, HBX2.out.within hs.2 (by omega), HM2.out.below (hs.2.below (B := B) (by omega) (by omega)) (Nat.le_refl _), Below.then HBW.out hs.2 (by omega) (by omega), hs.2.size⟩
  clear own2 b2 HO1 HB1 CB HM HB HBX HB2 HT
  go_wp2_with fail
  go_loopw [7] (fun i wr => ∃ k : Nat, k ≤ q ∧ i = .int .i64 k ∧ WState w w2 2 g1 n c1 (swTo m n (L.map Tr.txt) k) wr) (fun i _ => q - (intOf i).toNat)
  case atStart => exact ⟨0, Nat.zero_le _, rfl, S0.out⟩
  case round =>
    obtain ⟨k, hk, rfl, HS⟩ := hrel
    by_cases hlt : k < q
    · obtain ⟨b, hb⟩ := at_lt (show k < L.length by have := HQL.out; omega)
      obtain ⟨hbr, hbx, hmat, hbw, hzr⟩ := FR.out _ _ HS
      obtain ⟨b3, o3, Ak, ck, rfl, hb3, hcb, hbl, hbm2, hbrow⟩ := hbr k b hb
      unfold maxLen at hbm2
      have hbm := List.mem_of_getElem? hb
      have hbt := Tr.tx_txt (HPT.out b hbm)
      have KK : Hid (∀ V, Below wr.heap.size wr V → V.cell? ⟨w.heap.size, 0, none⟩ = some (.slice A n c) ∧ V.cell? ⟨w.heap.size, 1, none⟩ = some (.slice D n dd) ∧ V.cell? ⟨b3, o3 + k, none⟩ = some (.slice Ak b.length ck)) := fun V hV => ⟨(hbx.next hV).c0, (hbx.next hV).c1, (hV.cell (p := ⟨b3, o3 + k, none⟩) (show b3 < _ by omega)).trans hcb⟩
      have C1 := fun V (hV : Below wr.heap.size wr V) => IHb.out b hbm V Ak ck w2.heap.size (by have := hV.size; omega) (by have := hV.size; omega) (hmat.below hV (by omega)) (hbrow.below hV (by omega))
      have C2 := fun V (hV : Below wr.heap.size wr V) A4 c4 (h3 : Row V V.heap.size A4 (ints (sw m n (Tr.txt b)))) => l09Times_any A A4 n c c4 B V.heap.size m (sw m n (Tr.txt b)) V HL.out hn HQ.out HN.out (sw_len HL.out hbt) (sw_num hbt) (by have := hV.size; omega) (Nat.le_refl _) (hmat.below hV (by omega)) h3
      have HSB := Lib.hid HS
      have HE := Lib.hid (swTo_succ (m := m) (n := n) (L := L.map Tr.txt) (k := k) (b := Tr.txt b) (by rw [List.getElem?_map, hb]; rfl))
      have hPl : Hid ((appL m (sw m n (Tr.txt b))).length = n) := (appL_length _ _).trans HL.out
      have hPn : Hid (allNum (appL m (sw m n (Tr.txt b))) = true) := appL_num _ _
      have hVl : Hid ((swTo m n (L.map Tr.txt) k).length = n) := swTo_len HL.out _ _
      have hVn : Hid (allNum (swTo m n (L.map Tr.txt) k) = true) := swTo_num _ _ _ _
      obtain ⟨P, hP⟩ : ∃ P, P = appL m (sw m n (Tr.txt b)) := ⟨_, rfl⟩
      obtain ⟨V0, hV0⟩ : ∃ V, V = swTo m n (L.map Tr.txt) k := ⟨_, rfl⟩
      rw [← hP] at HE hPl hPn
      simp only [← hP] at C2
      rw [← hV0] at HE HSB hVl hVn
      have k0 : (0 : Int) ≤ (k : Int) := Int.natCast_nonneg _
      have k1 : (k : Int) < (q : Int) := by omega
      clear hb hbr hbx hmat hbm hbt HS hP hV0 hbrow
      go_wp2_with fail
      go_region_held3 (fun V => V.cell? ⟨w.heap.size, 0, none⟩ = some (.slice A n c) ∧ V.cell? ⟨w.heap.size, 1, none⟩ = some (.slice D n dd) ∧ V.cell? ⟨b3, o3 + k, none⟩ = some (.slice Ak b.length ck))
        (first | exact KK.out _ (Below.refl _ _) | exact KK.out _ (Below.refl _ _).drew | exact KK.out _ (below_drewN (Below.refl _ _) _) | exact KK.out _ (below_undrawn (a := 1) be3) | exact KK.out _ ((below_undrawn (a := 1) be3).trans (be4.mono (below_undrawn (a := 1) be3).size)))
        (first
          | (go_at_call 32; refine (C1 _ (by first | exact (Below.refl _ _).drew | exact below_drewN (Below.refl _ _) _)).mono ?_; clear C1; rintro e w3 ⟨A4, c4, rfl, own3, be3⟩)
          | (go_at_call 59; refine (C2 _ (by exact below_undrawn (a := 1) be3) A4 c4 (by exact row_of_own own3)).mono ?_; clear C2; rintro e w4 ⟨A5, c5, rfl, own4, be4⟩))
      have hb34 : Below wr.heap.size wr w4 := (below_undrawn (a := 1) be3).trans (be4.mono (below_undrawn (a := 1) be3).size)
      have hz3 : wr.heap.size ≤ w3.heap.size := (below_undrawn (a := 1) be3).size
      have hz4 := be4.size
      have HS4 := Lib.hid (HSB.out.below hb34)
      have HO4 := Lib.hid (OwnR.of own4)
      have hzw := HSB.out.2.size
      clear own3 own4 be3 be4 hb34 KK hcb
      go_wp2_with fail
      go_loopw [9] (fun i wj => ∃ j : Nat, j ≤ n ∧ i = .int .i64 j ∧ WState w w2 2 g1 n c1 ((mulL V0 P).take j ++ V0.drop j) wj ∧ Within g1 (g1 + 1) w4 wj) (fun i _ => n - (intOf i).toNat)
      case atStart => exact ⟨0, Nat.zero_le _, rfl, by simpa using HS4.out, Within.refl _ _ _⟩
      case round =>
        obtain ⟨j, hj, rfl, HJ, HW4⟩ := hrel
        have hUl : Hid ((mulL V0 P).length = n) := mulL_length hVl.out hPl.out
        by_cases hjl : j < n
        · obtain ⟨p, hp⟩ := at_lt (show j < P.length by rw [hPl.out]; exact hjl)
          obtain ⟨v, hv⟩ := at_lt (show j < V0.length by rw [hVl.out]; exact hjl)
          obtain ⟨p0, p1⟩ := num_at hPn.out hp
          obtain ⟨v0, v1⟩ := num_at hVn.out hv
          obtain ⟨b5, o5, rfl, _, hcp⟩ := (HO4.out.within HW4 (Nat.le_refl _) (by omega)).row j _ (ints_at hp)
          have hcv := HJ.1.cellAt j (by omega)
          rw [ints_at (mix_atW hv (by rw [hVl.out, hUl.out]))] at hcv
          have hfv := HJ.1.frozenAt j
          have HU := mulL_at hv hp
          obtain ⟨u, hu⟩ : ∃ u, u = v * p % 10007 := ⟨_, rfl⟩
          have C5 : Hid (∀ w : World, Calls Tryz.prog 60 #[.int .i64 v, .int .i64 p] w fun e w' => e = .returned (.int .i64 u) ∧ w = w') := fun w => by rw [hu]; exact l01Mul_any _ _ _ v0 v1 p0 p1
          rw [← hu] at HU
          have HJd := HJ.drewN 1
          have G1 := HJd.put (u := u) hjl
          rw [mix_stepW HU (by rw [hVl.out, hUl.out])] at G1
          have HG1 : Hid (WState w w2 2 g1 n c1 ((mulL V0 P).take (j + 1) ++ V0.drop (j + 1)) (wr.drew.setCell ⟨g1, j, none⟩ (.int .i64 u))) := G1
          have HG2 : Hid (Within g1 (g1 + 1) w4 (wr.drew.setCell ⟨g1, j, none⟩ (.int .i64 u))) := (HW4.trans (Within.of_below (below_drewN (Below.refl _ _) 1))).trans (Within.grown (HJd.1.stored j (.int .i64 u)).2 (fun g' e => by injection e with e; subst e; exact ⟨Nat.le_refl _, Nat.lt_succ_self _⟩))
          have j0 : (0 : Int) ≤ (j : Int) := Int.natCast_nonneg _
          have j1 : (j : Int) < (n : Int) := by omega
          have hcv' : wr.drew.cell? ⟨g1, j, none⟩ = some (.int .i64 v) := hcv
          have hfv' : wr.drew.frozen? ⟨g1, j, none⟩ = false := hfv
          have hcp' : wr.drew.cell? ⟨b5, o5 + j, none⟩ = some (.int .i64 p) := hcp
          clear hp hv HJ HW4 HU G1 hu HJd
          go_wp2_with fail
          refine wp_region_still_tail 12 (by kernel_rfl) (by kernel_rfl) ?_
          simp only [List.take_succ_cons, List.take_zero, List.drop_succ_cons, List.drop_zero]
          repeat still_step
          refine wpStill_step (fun K hK => ?_)
          go_simp
          refine ⟨_, stillW (C5.out _), hK _ ?_⟩
          clear hK K
          repeat still_step
          refine wpStill_nil ?_
          change wpList _ _ _ _ _ wr.drew
          go_wp2
          go_roundw
          case rel => exact ⟨j + 1, by omega, by go_num, by exact HG1.out, by exact HG2.out⟩
          case measure => simp [intOf]; omega
        · obtain rfl : j = n := by omega
          rw [List.take_of_length_le (by rw [hUl.out]; exact Nat.le_refl _), List.drop_of_length_le (by rw [hVl.out]; exact Nat.le_refl _), List.append_nil, ← HE.out] at HJ
          have HJH := Lib.hid HJ
          clear HJ HW4
          go_wp2
          go_roundw
          case rel => exact ⟨k + 1, by omega, by go_num, HJH.out⟩
          case measure => simp [intOf]; omega
    · obtain rfl : k = q := by omega
      rw [HALL.out] at HS
      have G : Hid (NewRow 2 n (ints (sw m n (Tr.txt t))) w (.returned (.slice (some ⟨g1, 0, none⟩) n c1)) wr) := ⟨_, _, rfl, HS.1, (FR.out _ _ HS).2.2.2.1⟩
      clear HS
      go_wp2
      go_ret
      exact G.out
theorem stageM_upto : ∀ d, StageM d
  | 0 => fun t A D A2 n c dd n2 c2 B B2 m w hlv htd => by have := (lv_bd hlv).1; omega
  | d + 1 => stageM_succ d (stageM_upto d)
theorem l09Stages_any (t : List Int) (A D A2 : Option Addr) (n c dd n2 c2 B B2 : Nat) (m : List (List Int)) (w : World) (hlv : Tr.isLv t = true) (hl2 : t.length = n2) (hl : m.length = n) (hn1 : 1 ≤ n) (hn : n ≤ 8) (hq : Wide m n) (hnum : ∀ r ∈ m, allNum r = true) (hB : B ≤ w.heap.size) (hB2 : B2 ≤ w.heap.size) (h : Mat w B A m) (h2 : Row w B2 A2 (ints t)) :
    Calls Tryz.prog 32 #[.agg #[.slice A n c, .slice D n dd], .slice A2 n2 c2] w (NewRow 2 n (ints (sw m n (Tr.txt t))) w) := stageM_upto t.length t A D A2 n c dd n2 c2 B B2 m w hlv (Nat.le_refl _) hl2 hl hn1 hn hq hnum hB hB2 h h2
set_option maxHeartbeats 2000000 in
theorem l09Weight_any (t : List Int) (A D A2 : Option Addr) (n c d n2 c2 B B' B2 : Nat) (m : List (List Int)) (b : List Int) (w : World) (hlv : Tr.isLv t = true) (hl2 : t.length = n2) (hl : m.length = n) (hl' : b.length = n) (hn1 : 1 ≤ n) (hn : n ≤ 8) (hq : Wide m n) (hnum : ∀ r ∈ m, allNum r = true) (hnb : allNum b = true) (hB : B ≤ w.heap.size) (hB' : B' ≤ w.heap.size) (hB2 : B2 ≤ w.heap.size) (h : Mat w B A m) (r : Row w B' D (ints b)) (h2 : Row w B2 A2 (ints t)) :
    Calls Tryz.prog 98 #[.agg #[.slice A n c, .slice D n d], .slice A2 n2 c2] w fun e w' => e = .returned (.int .i64 (wtT m b n (Tr.txt t))) ∧ Below w.heap.size w w' := by
  have HL := Lib.hid hl
  have HL' := Lib.hid hl'
  have HL2 := Lib.hid hl2
  have HQ := Lib.hid hq
  have HN := Lib.hid hnum
  have HLV := Lib.hid hlv
  obtain ⟨W0, hW0⟩ : ∃ W0, W0 = w.alloc (.cells #[.slice A n c, .slice D n d] 27) := ⟨_, rfl⟩
  have HB : Hid (Below w.heap.size w W0) := by rw [hW0]; exact (Below.refl _ _).alloc (Nat.le_refl _) _
  have HX : Bx W0 w.heap.size 27 (.slice A n c) (.slice D n d) := by rw [hW0]; exact Bx.new _ _ _ _
  have hz := HB.out.size
  have HM := Lib.hid (h.below HB.out hB)
  have HR := Lib.hid (r.below HB.out hB')
  have HT := Lib.hid (h2.below HB.out hB2)
  have hx := Tr.tx_txt hlv
  have KK : Hid (∀ V, Below W0.heap.size W0 V → V.cell? ⟨w.heap.size, 0, none⟩ = some (.slice A n c) ∧ V.cell? ⟨w.heap.size, 1, none⟩ = some (.slice D n d)) := fun V hV => ⟨(HX.next hV).c0, (HX.next hV).c1⟩
  have C1 := fun V (hV : Below W0.heap.size W0 V) => l09Stages_any t A D A2 n c d n2 c2 B B2 m V HLV.out HL2.out HL.out hn1 hn HQ.out HN.out (by have := hV.size; omega) (by have := hV.size; omega) (HM.out.below hV (by omega)) (HT.out.below hV (by omega))
  have C2 := fun V (hV : Below W0.heap.size W0 V) A3 c3 (h3 : Row V V.heap.size A3 (ints (sw m n (Tr.txt t)))) => l01Dot_any D A3 n d c3 B' V.heap.size b (sw m n (Tr.txt t)) V HL'.out (sw_len HL.out hx) (by omega) (HR.out.below hV (by omega)) h3 hnb (sw_num hx)
  have HW : Hid (wtT m b n (Tr.txt t) = dotK b (sw m n (Tr.txt t)) n) := rfl
  rw [HW.out]
  clear hl hl' hl2 hq hnum h r h2 HX HW hlv hx
  go_enter Tryz.func98, Tryz.ntmps98
  go_wp2_with fail
  change Code.wp _ _ _ _ (w.alloc (.cells #[.slice A n c, .slice D n d] 27))
  rw [← hW0]
  clear hW0
  go_region_held3 (fun V => V.cell? ⟨w.heap.size, 0, none⟩ = some (.slice A n c) ∧ V.cell? ⟨w.heap.size, 1, none⟩ = some (.slice D n d))
    (first | exact KK.out _ (Below.refl _ _) | exact KK.out _ (Below.refl _ _).drew | exact KK.out _ (below_drewN (Below.refl _ _) _) | exact KK.out _ (below_undrawn (a := 1) b2) | exact KK.out _ (below_drewN (below_undrawn (a := 1) b2) _))
    (first
      | (go_at_call 32; refine (C1 _ (by first | exact (Below.refl _ _).drew | exact below_drewN (Below.refl _ _) _)).mono ?_; clear C1; rintro e w2 ⟨A4, c4, rfl, own2, b2⟩)
      | (go_at_call 87; refine (C2 _ (by exact below_undrawn (a := 1) b2) A4 c4 (by exact row_of_own own2)).mono ?_; clear C2; rintro e w3 ⟨rfl, j3, rfl⟩))
  have hb2 : Below W0.heap.size W0 w2 := below_undrawn (a := 1) b2
  have G : Hid (Below w.heap.size w (w2.drewN j3)) := below_drewN (HB.out.trans (hb2.mono HB.out.size)) _
  clear own2 b2 hb2 KK
  go_wp2
  go_ret
  exact ⟨rfl, G.out⟩
/-- the code of a tableau and a tree -/
def codeTT (m : List (List Int)) (b t : List Int) : Int := if isTabB m b = true ∧ Tr.isLv t = true then 0 else 1
set_option maxHeartbeats 2000000 in
theorem l09Code_any (A D : Option Addr) (n c n' d B B' : Nat) (m : List (List Int)) (b : List Int) (w : World) (hl : m.length = n) (hl' : b.length = n') (hn : n ≤ 9223372036854775807) (hn' : n' ≤ 9223372036854775807) (hB : B ≤ w.heap.size) (hB' : B' ≤ w.heap.size) (h : Mat w B A m) (r : Row w B' D (ints b)) (A2 : Option Addr) (n2 c2 B2 : Nat) (t : List Int) (hl2 : t.length = n2) (hn2 : n2 ≤ 1048576) (hB2 : B2 ≤ w.heap.size) (h2 : Row w B2 A2 (ints t)) :
    Calls Tryz.prog 31 #[.agg #[.slice A n c, .slice D n' d], .slice A2 n2 c2] w fun e w' => e = .returned (.int .i64 (codeTT m b t)) ∧ Below w.heap.size w w' := by
  have HL := Lib.hid hl
  have HL' := Lib.hid hl'
  have HL2 := Lib.hid hl2
  obtain ⟨W0, hW0⟩ : ∃ W0, W0 = w.alloc (.cells #[.slice A n c, .slice D n' d] 27) := ⟨_, rfl⟩
  have HB : Hid (Below w.heap.size w W0) := by rw [hW0]; exact (Below.refl _ _).alloc (Nat.le_refl _) _
  have HM : Hid (Mat W0 B A m) := h.below HB.out hB
  have HR : Hid (Row W0 B' D (ints b)) := r.below HB.out hB'
  have HT : Hid (Row W0 B2 A2 (ints t)) := h2.below HB.out hB2
  have HX : Hid (Bx W0 w.heap.size 27 (.slice A n c) (.slice D n' d)) := by rw [hW0]; exact Bx.new _ _ _ _
  have hz := HB.out.size
  clear hl hl' hl2 h r h2
  cases ht : isTabB m b
  · have G : Hid (codeTT m b t = 1) := by unfold codeTT; rw [Hid, if_neg (by rw [ht]; simp)]
    go_enter Tryz.func31, Tryz.ntmps31
    go_wp2_with fail
    rw [← hW0]
    refine (l09Is_any A D n c n' d B B' m b W0 HL.out HL'.out hn hn' (by omega) (by omega) HM.out HR.out).mono ?_
    rintro e w2 ⟨rfl, b2⟩
    rw [ht]
    have HB2 := Lib.hid (HB.out.trans (b2.mono HB.out.size))
    clear b2 hW0 ht
    go_wp2
    go_ret
    exact ⟨ret_i64 G.out.symm, HB2.out⟩
  · go_enter Tryz.func31, Tryz.ntmps31
    go_wp2_with fail
    rw [← hW0]
    refine (l09Is_any A D n c n' d B B' m b W0 HL.out HL'.out hn hn' (by omega) (by omega) HM.out HR.out).mono ?_
    rintro e w2 ⟨rfl, b2⟩
    rw [ht]
    have hz2 := b2.size
    have C0 := l03Is_any A2 n2 c2 B2 t w2 HL2.out hn2 (HT.out.below b2 (by omega))
    have HB2 := Lib.hid (HB.out.trans (b2.mono HB.out.size))
    cases hlv : Tr.isLv t
    · have G : Hid (codeTT m b t = 1) := by unfold codeTT; rw [Hid, if_neg (by rw [hlv]; simp)]
      rw [hlv] at C0
      clear b2 hW0 ht
      go_wp2_with fail
      refine C0.mono ?_
      rintro e w3 ⟨rfl, j3, rfl⟩
      have HB3 := Lib.hid (below_drewN HB2.out j3)
      clear C0
      go_wp2
      go_ret
      exact ⟨ret_i64 G.out.symm, HB3.out⟩
    · have G : Hid (codeTT m b t = 0) := by unfold codeTT; rw [Hid, if_pos ⟨ht, hlv⟩]
      rw [hlv] at C0
      clear b2 hW0 ht
      go_wp2_with fail
      refine C0.mono ?_
      rintro e w3 ⟨rfl, j3, rfl⟩
      have HB3 := Lib.hid (below_drewN HB2.out j3)
      clear C0
      go_wp2
      go_ret
      exact ⟨ret_i64 G.out.symm, HB3.out⟩
set_option maxHeartbeats 4000000 in
theorem sStageWeights_L (A D : Option Addr) (n c n' d B B' : Nat) (m : List (List Int)) (b : List Int) (w : World) (hl : m.length = n) (hl' : b.length = n') (hn : n ≤ 9223372036854775807) (hn' : n' ≤ 9223372036854775807) (hB : B ≤ w.heap.size) (hB' : B' ≤ w.heap.size) (h : Mat w B A m) (r : Row w B' D (ints b)) (A2 : Option Addr) (n2 c2 B2 : Nat) (t : List Int) (hl2 : t.length = n2) (hn2 : n2 ≤ 1048576) (hB2 : B2 ≤ w.heap.size) (h2 : Row w B2 A2 (ints t)) :
    Calls Tryz.prog 8 #[.agg #[.slice A n c, .slice D n' d], .slice A2 n2 c2] w (ResL (stageWA m b t) w) := by
  have HL := Lib.hid hl
  have HL' := Lib.hid hl'
  have HL2 := Lib.hid hl2
  obtain ⟨W0, hW0⟩ : ∃ W0, W0 = w.alloc (.cells #[.slice A n c, .slice D n' d] 27) := ⟨_, rfl⟩
  have HB : Hid (Below w.heap.size w W0) := by rw [hW0]; exact (Below.refl _ _).alloc (Nat.le_refl _) _
  have HM : Hid (Mat W0 B A m) := h.below HB.out hB
  have HR : Hid (Row W0 B' D (ints b)) := r.below HB.out hB'
  have HT : Hid (Row W0 B2 A2 (ints t)) := h2.below HB.out hB2
  have HX : Hid (Bx W0 w.heap.size 27 (.slice A n c) (.slice D n' d)) := by rw [hW0]; exact Bx.new _ _ _ _
  have hz := HB.out.size
  clear hl hl' hl2 h r h2
  by_cases hok : isTabB m b = true ∧ Tr.isLv t = true
  · have G : Hid (stageWA m b t = (sw m n' (Tr.txt t), 0)) := by unfold stageWA; rw [Hid, if_pos hok, HL'.out]
    have K : Hid (codeTT m b t = 0) := if_pos hok
    obtain ⟨ht, hlv⟩ := hok
    obtain ⟨t1, t2, t3, t4, t5, t6⟩ := isTabB_parts ht
    rw [HL'.out] at t1 t2 t3 t5
    have hnn : n' = n := by rw [← t3]; exact HL.out
    subst hnn
    have HW := Lib.hid t5
    have HNB := Lib.hid t4
    have HN := Lib.hid t6
    have HLV := Lib.hid hlv
    have HTX := Lib.hid (Tr.tx_txt hlv)
    clear t3 t4 t5 t6 ht hlv
    go_enter Tryz.func8, Tryz.ntmps8
    go_wp2_with fail
    rw [← hW0]
    refine (l09Code_any A D n' c n' d B B' m b W0 HL.out HL'.out hn hn' (by omega) (by omega) HM.out HR.out A2 n2 c2 B2 t HL2.out hn2 (by omega) HT.out).mono ?_
    rintro e w2 ⟨rfl, b2⟩
    rw [K.out]
    have hz2 := b2.size
    have HB2 := Lib.hid (HB.out.trans (b2.mono HB.out.size))
    have HM2 := Lib.hid (HM.out.below b2 (by omega))
    have HR2 := Lib.hid (HR.out.below b2 (by omega))
    have HT2 := Lib.hid (HT.out.below b2 (by omega))
    have q0 := (HX.out.next b2).c0
    have q1 := (HX.out.next b2).c1
    have HSL := Lib.hid (sw_len HL.out HTX.out)
    clear b2 hW0
    go_wp2_with fail
    refine (l09Stages_any t A D A2 n' c d n2 c2 B B2 m w2 HLV.out HL2.out HL.out t1 t2 HW.out HN.out (by omega) (by omega) HM2.out HT2.out).mono ?_
    rintro e w3 ⟨A3, c3, rfl, own3, b3⟩
    have HB3 := Lib.hid (HB2.out.trans (b3.mono HB2.out.size))
    have GR : Hid (ResL (stageWA m b t) w (.returned (.tuple #[.slice A3 n' c3, .int .i64 0])) w3) := ResL.of G.out HSL.out (by omega) ((OwnR.of own3).more HB2.out.size (Nat.le_refl _)).1 HB3.out
    clear own3 b3 q0 q1
    go_wp2
    go_ret2
    exact GR.out
  · have G : Hid (stageWA m b t = ([], 1)) := by unfold stageWA; rw [Hid, if_neg hok]
    have K : Hid (codeTT m b t = 1) := if_neg hok
    clear hok
    go_enter Tryz.func8, Tryz.ntmps8
    go_wp2_with fail
    rw [← hW0]
    refine (l09Code_any A D n c n' d B B' m b W0 HL.out HL'.out hn hn' (by omega) (by omega) HM.out HR.out A2 n2 c2 B2 t HL2.out hn2 (by omega) HT.out).mono ?_
    rintro e w2 ⟨rfl, b2⟩
    rw [K.out]
    have HB2 := Lib.hid (HB.out.trans (b2.mono HB.out.size))
    clear b2 hW0
    go_wp2
    go_ret2
    exact ResL.nil G.out HB2.out
end Go.Proofs.YtpngohklicgbjaaGreat
/-
  Which lists are maps, plainly.
-/
namespace Go.Proofs.YtpngohklicgbjaaGreat
open Go.RowKit Fld
set_option linter.unusedVariables false
set_option linter.unusedSimpArgs false
set_option maxRecDepth 100000

def isMp (a : List Int) : Bool := decide (a.length = 38) && allNum a
def isChr (a : List Int) : Bool := isMp a && decide (a.getD 0 0 = 1)
def isInf (a : List Int) : Bool := isMp a && decide (a.getD 0 0 = 0)
theorem isMp_num {a : List Int} (h : a.length = 38) : isMp a = allNum a := by unfold isMp; rw [decide_eq_true h, Bool.true_and]
theorem isMp_len {a : List Int} (h : a.length ≠ 38) : isMp a = false := by unfold isMp; rw [decide_eq_false h, Bool.false_and]
theorem isMp_iff {a : List Int} : isMp a = true ↔ a.length = 38 ∧ allNum a = true := by unfold isMp; simp
theorem isMp_parts {a : List Int} {n : Nat} (h : isMp a = true) (hl : a.length = n) : n = 38 ∧ allNum a = true := by
  obtain ⟨h1, h2⟩ := isMp_iff.1 h
  exact ⟨by omega, h2⟩
theorem isChr_no {a : List Int} (h : isMp a = false) : isChr a = false := by unfold isChr; rw [h, Bool.false_and]
theorem isInf_no {a : List Int} (h : isMp a = false) : isInf a = false := by unfold isInf; rw [h, Bool.false_and]
theorem isChr_at {a : List Int} {x : Int} (h : isMp a = true) (hx : a[0]? = some x) : isChr a = decide (x = 1) := by
  unfold isChr; rw [h, Bool.true_and, List.getD_eq_getElem?_getD, hx]; rfl
theorem isInf_at {a : List Int} {x : Int} (h : isMp a = true) (hx : a[0]? = some x) : isInf a = decide (x = 0) := by
  unfold isInf; rw [h, Bool.true_and, List.getD_eq_getElem?_getD, hx]; rfl
def unitL : List Int := 1 :: List.replicate 37 0
def zero38 : List Int := List.replicate 38 0
theorem zero38_at {k : Nat} (h : k < 38) : zero38[k]? = some 0 := by unfold zero38; rw [List.getElem?_replicate, if_pos h]
theorem unitL_length : unitL.length = 38 := rfl
end Go.Proofs.YtpngohklicgbjaaGreat
/-
  Maps as arrays of the program: blocks of 38 cells.
-/
namespace Go.Proofs.YtpngohklicgbjaaGreat
open Go.RowKit Fld
set_option linter.unusedVariables false
set_option linter.unusedSimpArgs false
set_option maxRecDepth 100000

theorem info_arrM : (Tryz.prog.info? 73).map (·.size) = some 38 := by kernel_rfl
/-- the cells of a map -/
def arrM (xs : List Int) : Array Value := (ints xs).toArray
theorem arrM_size {xs : List Int} (h : xs.length = 38) : (arrM xs).size = 38 := by simp [arrM, ints_length, h]
theorem arrM_cells (xs : List Int) : (arrM xs).all (·.oneCell') = true := by simp [arrM, ints, intsK, Array.all_eq_true, Value.oneCell']
/-- block g is a map -/
def ArrM (w : World) (g : Nat) (xs : List Int) : Prop := w.heap[g]? = some (.cells (arrM xs) 73 (0, 0))
theorem ArrM.cell {w : World} {g k : Nat} {xs : List Int} {x : Int} (h : ArrM w g xs) (hx : xs[k]? = some x) : w.cell? ⟨g, k, none⟩ = some (.int .i64 x) := by
  rw [cell_of_row w g k _ _ _ h]
  simp [arrM, ints_at hx]
theorem ArrM.free {w : World} {g : Nat} {xs : List Int} (h : ArrM w g xs) (k : Nat) : w.frozen? ⟨g, k, none⟩ = false := frozen_of_row w g k _ _ h
theorem ArrM.lt {w : World} {g : Nat} {xs : List Int} (h : ArrM w g xs) : g < w.heap.size := by
  rcases Nat.lt_or_ge g w.heap.size with h' | h'
  · exact h'
  · unfold ArrM at h; simp [Array.getElem?_eq_none h'] at h
theorem ArrM.store {w : World} {g k : Nat} {xs : List Int} (h : ArrM w g xs) (x : Int) : ArrM (w.setCell ⟨g, k, none⟩ (.int .i64 x)) g (xs.set k x) := by
  have := heap_setCell_same w g k _ _ (.int .i64 x) h
  unfold ArrM
  rw [this]
  simp [arrM, ints, intsK]
theorem ArrM.other {w : World} {g g' k : Nat} {xs : List Int} (h : ArrM w g xs) (hne : g ≠ g') (v : Value) : ArrM (w.setCell ⟨g', k, none⟩ v) g xs := by
  unfold ArrM
  rw [heap_setCell_other w ⟨g', k, none⟩ g v hne]; exact h
theorem ArrM.alloc {w : World} {g : Nat} {xs : List Int} (h : ArrM w g xs) (o : Obj) : ArrM (w.alloc o) g xs := by
  unfold ArrM
  rw [heap_alloc_old w o (ArrM.lt h)]; exact h
theorem ArrM.below {w w' : World} {g B : Nat} {xs : List Int} (h : ArrM w g xs) (hb : Below B w w') (hg : g < B) : ArrM w' g xs := by
  unfold ArrM
  rw [hb.block g hg]; exact h
theorem ArrM.drewN {w : World} {g : Nat} {xs : List Int} (h : ArrM w g xs) (m : Nat) : ArrM (w.drewN m) g xs := h
theorem ArrM.new (w : World) (xs : List Int) : ArrM (w.alloc (.cells (arrM xs) 73)) w.heap.size xs := heap_alloc_new w _
theorem ArrM.next {w : World} {g : Nat} (xs : List Int) (hg : w.heap.size = g) : ArrM (w.alloc (.cells (arrM xs) 73)) g xs := hg ▸ ArrM.new w xs
/-- a mixed list: the first k from us, the others from xs -/
theorem mixP_step {us xs : List Int} {k : Nat} {u : Int} (hk : k < xs.length) (hl : us.length = xs.length) (hu : us[k]? = some u) : (us.take k ++ xs.drop k).set k u = us.take (k + 1) ++ xs.drop (k + 1) := by
  have e1 : (us.take k).length = k := by simp; omega
  rw [List.set_append, if_neg (by omega), e1, Nat.sub_self, List.drop_eq_getElem_cons hk, List.set_cons_zero, List.take_add_one, hu]
  simp
theorem mixP_at {us xs : List Int} {k : Nat} {x : Int} (hl : us.length = xs.length) (hx : xs[k]? = some x) : (us.take k ++ xs.drop k)[k]? = some x := by
  have hk : k < xs.length := by
    rcases Nat.lt_or_ge k xs.length with g | g
    · exact g
    · rw [List.getElem?_eq_none g] at hx; cases hx
  have e1 : (us.take k).length = k := by simp; omega
  rw [List.getElem?_append_right (by omega), e1, Nat.sub_self, List.getElem?_drop, Nat.add_zero]; exact hx
theorem mixP_end {us xs : List Int} {n : Nat} (hl : us.length = n) (hx : xs.length = n) : us.take n ++ xs.drop n = us := by
  rw [List.take_of_length_le (by omega), List.drop_eq_nil_of_le (by omega), List.append_nil]

theorem arrM_two (w : World) (xs ys : List Int) : ArrM ((w.alloc (.cells (arrM xs) 73)).alloc (.cells (arrM ys) 73)) w.heap.size xs ∧ ArrM ((w.alloc (.cells (arrM xs) 73)).alloc (.cells (arrM ys) 73)) (w.heap.size + 1) ys ∧ Below w.heap.size w ((w.alloc (.cells (arrM xs) 73)).alloc (.cells (arrM ys) 73)) :=
  ⟨(ArrM.new w xs).alloc _, ArrM.next ys (by simp), ((Below.refl _ _).alloc (Nat.le_refl _) _).alloc (by simp) _⟩
theorem ArrM.row {w : World} {g : Nat} {xs : List Int} (h : ArrM w g xs) : Row w (g + 1) (some ⟨g, 0, none⟩) (ints xs) := fun k v hv => by
  refine ⟨g, 0, rfl, by omega, ?_⟩
  rw [Nat.zero_add, cell_of_row w g k _ _ _ h]
  simpa [arrM] using hv
theorem spliceM_of {xs : List Int} (hl : xs.length = 38) : splice (ints zero38) 0 (ints xs) = ints xs := by
  have e1 : splice (ints zero38) 0 (ints xs) = ints (xs ++ zero38.drop xs.length) := by
    unfold splice ints intsK; simp [List.map_drop]
  rw [e1, hl]
  show ints (xs ++ []) = _
  rw [List.append_nil]
theorem mixP_keep {us xs : List Int} {k : Nat} {x : Int} (hx : xs[k]? = some x) (hu : us[k]? = some x) : us.take k ++ xs.drop k = us.take (k + 1) ++ xs.drop (k + 1) := by
  have hlt : k < xs.length := by
    rcases Nat.lt_or_ge k xs.length with g | g
    · exact g
    · rw [List.getElem?_eq_none g] at hx; cases hx
  rw [List.getElem?_eq_getElem hlt] at hx
  injection hx with hx
  rw [List.take_add_one, hu, List.drop_eq_getElem_cons hlt, hx]; simp
theorem stillCM {P : Program} {f : FuncId} {args : Array Value} {w : World} {v : Value} (h : Calls P f args w fun e w' => e = .returned v ∧ w = w') : Calls P f args w fun e w' => e = .returned v ∧ w' = w :=
  h.mono fun _ _ ⟨he, hm⟩ => ⟨he, hm.symm⟩
/-- a cell of another block, past a store -/
theorem cell_other {w : World} {b g k : Nat} {o : Nat} {v x : Value} (h : w.cell? ⟨b, o, none⟩ = some x) (hne : b ≠ g) : (w.setCell ⟨g, k, none⟩ v).cell? ⟨b, o, none⟩ = some x :=
  (World.cell?_of_block (heap_setCell_other w ⟨g, k, none⟩ b v hne)).trans h
theorem zero_row {w : World} {lo : Nat} {T : TypeId} {v : Value} (h : w.ownsRow lo T 1 v 38 (madeCells (Value.int .i64 0).cells (38 * 1)).toList) : w.ownsRow lo T 1 v 38 (ints zero38) := by
  have e : (madeCells #[(.int .i64 0 : Value)] 38).toList = ints zero38 := by rw [toList_madeCells_one]; rfl
  exact e ▸ h
theorem info_numM : (Tryz.prog.info? 68).map (·.size) = some 1 := by kernel_rfl
end Go.Proofs.YtpngohklicgbjaaGreat
/-
  The next lower list of a tree, in place.
-/
namespace Go.Proofs.YtpngohklicgbjaaGreat
open Go.RowKit Fld
set_option linter.unusedVariables false
set_option linter.unusedSimpArgs false
set_option maxRecDepth 100000

theorem last_le (t : List Int) : ∀ k, Tr.lastF t k ≤ k
  | 0 => Nat.le_refl _
  | k+1 => by rw [Tr.lastF]; split; · have := last_le t k; omega
              · exact Nat.le_refl _
theorem par_le (t : List Int) (x : Int) : ∀ k, Tr.parF t x k ≤ k
  | 0 => Nat.le_refl _
  | k+1 => by rw [Tr.parF]; split; · have := par_le t x k; omega
              · exact Nat.le_refl _
/-- what lower leaves -/
def Lowered (base g n cap : Nat) (t : List Int) (w : World) (e : Ending) (w' : World) : Prop :=
  (Tr.lowerL t = none ∧ e = .returned (.bool false) ∧ w = w') ∨ (∃ u, Tr.lowerL t = some u ∧ e = .returned (.bool true) ∧ w'.ownsRow base 2 1 (.slice (some ⟨g, 0, none⟩) n cap) n (ints u) ∧ w.grownBy w' (some g))
theorem cpy_step {d f i : Nat} {t : List Int} {x : Int} (hx : t[i - d]? = some x) : Tr.cpyF d (f + 1) i t = Tr.cpyF d f (i + 1) (t.set i x) := by
  rw [Tr.cpyF, lv_at hx]
def Cpd (base g n cap : Nat) (w : World) (T : List Int) (wr : World) : Prop := wr.ownsRow base 2 1 (.slice (some ⟨g, 0, none⟩) n cap) n (ints T) ∧ w.grownBy wr (some g)
theorem Cpd.step {base g n cap i : Nat} {w wr : World} {T : List Int} {x : Int} (h : Cpd base g n cap w T wr) : Cpd base g n cap w (T.set i x) (wr.setCell ⟨g, i, none⟩ (.int .i64 x)) := by
  obtain ⟨h1, h2⟩ := h.1.stored i (.int .i64 x)
  have e : (ints T).set i (.int .i64 x) = ints (T.set i x) := by unfold ints intsK; rw [List.map_set]
  rw [e] at h1
  exact ⟨h1, grownBy_trans h.2 h2⟩
theorem Cpd.start {base g n cap : Nat} {w : World} {t : List Int} (h : w.ownsRow base 2 1 (.slice (some ⟨g, 0, none⟩) n cap) n (ints t)) (M : Nat) : Cpd base g n cap (w.drewN M) t (w.drewN M) := ⟨h, World.grownBy.refl _ _⟩
set_option maxHeartbeats 1000000 in
theorem lower_any (base g n cap : Nat) (t : List Int) (w : World) (hl : t.length = n) (hlv : Tr.isLv t = true) (h : w.ownsRow base 2 1 (.slice (some ⟨g, 0, none⟩) n cap) n (ints t)) :
    Calls Tryz.prog 77 #[.slice (some ⟨g, 0, none⟩) n cap] w fun e w' => ∃ m, Lowered base g n cap t (w.drewN m) e w' := by
  have h3 := Tr.isLv_iff.1 hlv
  have n1 : 1 ≤ n := by have := h3.1; omega
  have n8 : n ≤ 8 := by have := h3.2.1; omega
  have HST : Hid (StepsTo t n) := by rw [Hid, ← hl]; exact h3.2.2.2
  have HZ : Hid (t.getD 0 0 = 0) := h3.2.2.1
  have HL := Lib.hid hl
  have HO := Lib.hid h
  have HLAST : Hid (Tr.lastF t (t.length - 1) = Tr.lastF t (n - 1)) := by rw [Hid, hl]
  clear hl hlv h3 h
  go_enter Tryz.func77, Tryz.ntmps77
  go_wp2_with fail
  go_loop [3] (fun l => ∃ k : Nat, k < n ∧ l = .int .i64 k ∧ Hid (Tr.lastF t (n - 1) = Tr.lastF t k)) (fun l => (intOf l).toNat)
  case atStart => exact ⟨n - 1, by omega, by go_num, rfl⟩
  case round =>
    obtain ⟨k, hk, rfl, HK⟩ := hrel
    obtain ⟨x, hx⟩ := at_lt (show k < t.length by rw [HL.out]; exact hk)
    have hcx := HO.out.cellAt k (by omega)
    rw [ints_at hx] at hcx
    have HX := Lib.hid hx
    rcases Nat.eq_zero_or_pos k with k0 | k0
    · subst k0
      have G : Hid (Tr.lowerL t = none) := by
        rw [Hid, Tr.lowerL]
        simp only [HLAST.out, HK.out]
        rfl
      clear hx HK
      go_wp2
      go_ret
      exact ⟨0, .inl ⟨G.out, rfl, rfl⟩⟩
    · obtain ⟨j, rfl⟩ : ∃ j, k = j + 1 := ⟨k - 1, by omega⟩
      by_cases hx1 : x = 1
      · have G : Hid (Tr.lastF t (n - 1) = Tr.lastF t j) := by
          rw [Hid, HK.out, Tr.lastF, lv_at hx, if_pos hx1]
        subst hx1
        clear hx HK
        go_wp2
        go_round
        case rel => exact ⟨j, by omega, by go_num, G⟩
        case measure => simp [intOf]
      · have tx := beq_f hx1
        have HLL : Hid (Tr.lastF t (n - 1) = j + 1) := by
          rw [Hid, HK.out, Tr.lastF, lv_at hx, if_neg hx1]
        have hxp : 1 ≤ x := by have := (HST.out (j + 1) hk (by omega)).1; rw [lv_at hx] at this; exact this
        clear hx HK
        have tz : ((j : Int) + 1 == 0) = false := beq_f (by omega)
        go_wp2_with fail
        go_loopw [4] (fun pp wr => ∃ p m : Nat, p ≤ j ∧ pp = .int .i64 p ∧ wr = w.drewN m ∧ Hid (Tr.parF t x j = Tr.parF t x p)) (fun pp _ => (intOf pp).toNat)
        case atStart => exact ⟨j, 0, Nat.le_refl _, by go_num, rfl, rfl⟩
        case round =>
          obtain ⟨p, m, hp, rfl, rfl, HP⟩ := hrel
          obtain ⟨y, hy⟩ := at_lt (show p < t.length by rw [HL.out]; omega)
          have hcy := HO.out.cellAt p (by omega)
          rw [ints_at hy] at hcy
          have hcx' : (w.drewN m).cell? ⟨g, j + 1, none⟩ = some (.int .i64 x) := hcx
          have hcy' : (w.drewN m).cell? ⟨g, p, none⟩ = some (.int .i64 y) := hcy
          by_cases hxy : x ≤ y
          · have hd : decide (x ≤ y) = true := decide_eq_true hxy
            obtain ⟨q, rfl⟩ : ∃ q, p = q + 1 := ⟨p - 1, by
              rcases Nat.eq_zero_or_pos p with e | e
              · subst e; have h9 := HZ.out; rw [lv_at hy] at h9; omega
              · omega⟩
            have G : Hid (Tr.parF t x j = Tr.parF t x q) := by
              rw [Hid, HP.out, Tr.parF, lv_at hy, if_pos hxy]
            clear hy HP
            go_wp2_with fail
            go_quiet (fail)
            go_wp2
            go_roundw
            case rel => exact ⟨q, _, by omega, by go_num, rfl, G⟩
            case measure => simp [intOf]
          · have hd : decide (x ≤ y) = false := decide_eq_false hxy
            have HPP : Hid (Tr.parF t x j = p) := by
              rw [Hid, HP.out]
              match p, hy with
              | 0, _ => rfl
              | q+1, hy => rw [Tr.parF, lv_at hy, if_neg hxy]
            have HLO : Hid (Tr.lowerL t = some (Tr.cpyF (j + 1 - p) (n - (j + 1)) (j + 1) t)) := by
              rw [Hid, Tr.lowerL]
              simp only [HL.out, HLL.out, lv_at HX.out, Nat.add_sub_cancel, HPP.out]
              rfl
            clear hy HP HLL
            go_wp2_with fail
            go_quiet (fail)
            go_wp2_with fail
            go_loopw [5] (fun ii wr => ∃ (e : Nat) (T : List Int), j + 1 + e ≤ n ∧ ii = .int .i64 ((j + 1 + e : Nat) : Int) ∧ Hid (Tr.cpyF (j + 1 - p) (n - (j + 1)) (j + 1) t = Tr.cpyF (j + 1 - p) (n - (j + 1 + e)) (j + 1 + e) T) ∧ Hid (T.length = n) ∧ ∃ M, Cpd base g n cap (w.drewN M) T wr) (fun ii _ => n - (intOf ii).toNat)
            case atStart => exact ⟨0, t, by omega, by go_num, rfl, HL.out, _, by rw [World.drewN_drewN]; exact Cpd.start HO.out _⟩
            case round =>
              obtain ⟨e, T, he, rfl, HC, HT, M, HD⟩ := hrel
              by_cases hlt : j + 1 + e < n
              · have hep : e + p < j + 1 + e := by omega
                obtain ⟨z, hz⟩ := at_lt (show e + p < T.length by rw [HT.out]; omega)
                have hcz := HD.1.cellAt (e + p) (by omega)
                rw [ints_at hz] at hcz
                obtain ⟨old, hold⟩ := at_lt (show j + 1 + e < T.length by rw [HT.out]; exact hlt)
                have hco := HD.1.cellAt (j + 1 + e) (by omega)
                rw [ints_at hold] at hco
                have hfo := HD.1.frozenAt (j + 1 + e)
                have HC2 : Hid (Tr.cpyF (j + 1 - p) (n - (j + 1)) (j + 1) t = Tr.cpyF (j + 1 - p) (n - (j + 1 + (e + 1))) (j + 1 + (e + 1)) (T.set (j + 1 + e) z)) := by
                  rw [Hid, HC.out, show n - (j + 1 + e) = n - (j + 1 + (e + 1)) + 1 from by omega, cpy_step (x := z) (by rw [show j + 1 + e - (j + 1 - p) = e + p from by omega]; exact hz)]
                  rfl
                have HT2 : Hid ((T.set (j + 1 + e) z).length = n) := by rw [Hid, List.length_set]; exact HT.out
                have G := Lib.hid (HD.step (i := j + 1 + e) (x := z))
                have ew1 : ((j + 1 + e : Nat) : Int) - ((j : Int) + 1) = (e : Int) := by omega
                clear hz hold HD HC
                go_wp2
                go_roundw
                case rel => exact ⟨e + 1, T.set (j + 1 + e) z, by omega, by go_num, HC2, HT2, M, G.out⟩
                case measure => simp [intOf]; omega
              · have hne : n = j + 1 + e := by omega
                have G : Hid (∃ m, Lowered base g n cap t (w.drewN m) (.returned (.bool true)) wr) := by
                  have hc := HC.out
                  rw [show n - (j + 1 + e) = 0 from by omega, Tr.cpyF] at hc
                  exact ⟨M, .inr ⟨T, by rw [HLO.out, hc], rfl, HD.1, HD.2⟩⟩
                clear HD HC
                go_wp2
                go_ret
                exact G.out
end Go.Proofs.YtpngohklicgbjaaGreat
/-
  All trees with so many nodes, the program's.
-/
namespace Go.Proofs.YtpngohklicgbjaaGreat
open Go.RowKit Fld
set_option linter.unusedVariables false
set_option linter.unusedSimpArgs false
set_option maxRecDepth 100000

theorem slicesClone_any (ad : Addr) (n c B : Nat) (xs : List Int) (w : World) (hl : xs.length = n) (hn : n ≤ 1048576) (hB : B ≤ w.heap.size) (h : Row w B (some ad) (ints xs)) :
    Calls Tryz.prog 76 #[.slice (some ad) n c] w (NewRow 2 n (ints xs) w) := by
  obtain ⟨i0, hi, hz0, hz1, hz2⟩ := info_parts info_i64
  have hnews := (h.alloc hB (.cells #[] 2)).news
  have hlen : (ints xs).length = n * 1 := by rw [ints_length, hl, Nat.mul_one]
  have h1 := ints_cells xs
  have hown0 := (Growing.start w 2).1
  have hbel0 := (Growing.start w 2).2
  have q22 : ∀ (w : World) (a : Option Addr) (n c n' c' : Nat), (binOp .eql 25 (.slice a n c) (.slice none n' c')).run Tryz.prog w = .ok (.bool a.isNone) w := fun w a n c n' c' => Lib.run_eql_slice_nil w _ _ a n c n' c' Tryz.underlying25
  go_enter Tryz.func76, Tryz.ntmps76
  go_wp2_with (at_builtin; refine wpList_append_own _ rfl (.tmp 5) (.tmp 6) 25 rfl w.heap.size 2 i0 _ 1 8 Tryz.underlying25 hi hz0 hz1 hz2 rfl (by omega) (.slice (some ⟨w.heap.size, 0, none⟩) 0 0) 0 [] rfl hown0 ad n c (ints xs) rfl hlen hnews h1 (by simp only [maxLen]; omega) (by omega) (by simp) ?_; intro v' w' hown hgrow _)
  go_ret
  rw [Nat.zero_add] at hown
  exact NewRow.own hown (hbel0.grown hgrow (by simp) (fun k hk => (hown0.lt k hk).1))
def rangeL (n : Nat) : List Int := (List.range n).map fun k : Nat => (k : Int)
theorem rangeL_length (n : Nat) : (rangeL n).length = n := by simp [rangeL]
theorem rangeL_at {n k : Nat} (h : k < n) : (rangeL n)[k]? = some (k : Int) := by unfold rangeL; rw [List.getElem?_map, List.getElem?_range h]; rfl
def chkT (n : Nat) : Bool := (Tr.treesL (n + 1)).all (fun t => Tr.isLv t && decide (t.length = n + 1)) && decide ((Tr.treesL (n + 1)).length ≤ 115)
theorem chkT_all : (List.range 8).all chkT = true := by decide +kernel
theorem trees_all {n : Nat} (h1 : 1 ≤ n) (h8 : n ≤ 8) : (∀ t ∈ Tr.treesL n, Tr.isLv t = true ∧ t.length = n) ∧ (Tr.treesL n).length ≤ 115 := by
  have h := List.all_eq_true.1 chkT_all (n - 1) (by rw [List.mem_range]; omega)
  unfold chkT at h
  rw [show n - 1 + 1 = n from by omega] at h
  simp only [Bool.and_eq_true, List.all_eq_true, decide_eq_true_eq] at h
  exact h
/-- the trees so far, the last one of them as it stands in the levels -/
structure Listed (n : Nat) (m : List (List Int)) (T : List Int) : Prop where
  last : ∃ m', m = m' ++ [T] ∧ Tr.treesL n = m' ++ Tr.treesF (116 - m'.length) T
theorem Listed.bd {n : Nat} {m : List (List Int)} {T : List Int} (h : Listed n m T) (h1 : 1 ≤ n) (h8 : n ≤ 8) : Tr.isLv T = true ∧ T.length = n ∧ 1 ≤ m.length ∧ m.length ≤ 115 := by
  obtain ⟨m', rfl, e⟩ := h.last
  obtain ⟨hall, hlen⟩ := trees_all h1 h8
  rw [e, List.length_append] at hlen
  have hf : 116 - m'.length = (115 - m'.length) + 1 := by omega
  have hT : T ∈ Tr.treesL n := by rw [e, hf, Tr.treesF]; simp
  have h2 := hall T hT
  rw [hf, Tr.treesF, List.length_cons] at hlen
  exact ⟨h2.1, h2.2, by simp, by rw [List.length_append]; simp; omega⟩
theorem Listed.done {n : Nat} {m : List (List Int)} {T : List Int} (h : Listed n m T) (h1 : 1 ≤ n) (h8 : n ≤ 8) (hl : Tr.lowerL T = none) : m = Tr.treesL n := by
  have hb := h.bd h1 h8
  obtain ⟨m', rfl, e⟩ := h.last
  have hlen := hb.2.2.2
  rw [List.length_append] at hlen
  simp at hlen
  rw [e, show 116 - m'.length = (115 - m'.length) + 1 from by omega, Tr.treesF, hl]
theorem Listed.next {n : Nat} {m : List (List Int)} {T u : List Int} (h : Listed n m T) (h1 : 1 ≤ n) (h8 : n ≤ 8) (hl : Tr.lowerL T = some u) : Listed n (m ++ [u]) u := by
  have hb := h.bd h1 h8
  obtain ⟨m', rfl, e⟩ := h.last
  have hlen := hb.2.2.2
  rw [List.length_append] at hlen
  simp at hlen
  refine ⟨m' ++ [T], rfl, ?_⟩
  rw [e, show 116 - m'.length = (115 - m'.length) + 1 from by omega, Tr.treesF, hl, List.length_append]
  simp
theorem Listed.start (n : Nat) : Listed n [rangeL n] (rangeL n) := ⟨[], rfl, rfl⟩
set_option maxHeartbeats 2000000 in
theorem treesWith_any (n : Nat) (w : World) (h1 : 1 ≤ n) (h8 : n ≤ 8) :
    Calls Tryz.prog 45 #[.int .i64 n] w (NewMat (Tr.treesL n).length (Tr.treesL n) w) := by
  obtain ⟨i0, hi, hz0, hz1, hz2⟩ := info_parts info_i64
  obtain ⟨j0, hj, hy0, hy1, hy2⟩ := info_parts info_row
  go_enter Tryz.func45, Tryz.ntmps45
  go_wp2_with (at_make; refine wpList_make_full _ rfl (.tmp 6) (.tmp 6) 25 rfl w.heap.size 2 i0 _ 1 Tryz.underlying25 hi hz0 hz1 .i64 .i64 _ _ n rfl rfl rfl rfl (by rw [hz2]; omega) (by simp only [maxLen]; omega) (Nat.le_refl _) ?_; intro w1 hown hg)
  have F0 := Filling.start (xs := rangeL n) hown hg
  clear hown hg hz0 hz1 hz2 hi
  go_wp2_with fail
  go_loopw [10] (fun i wr => ∃ k : Nat, k ≤ n ∧ i = .int .i64 k ∧ Filling w 2 n (rangeL n) k wr) (fun i _ => n - (intOf i).toNat)
  case atStart => exact ⟨0, Nat.zero_le _, rfl, F0⟩
  case round =>
    obtain ⟨k, hk, rfl, HF⟩ := hrel
    by_cases hlt : k < n
    · have hf := HF.1.frozenAt k
      have ho := HF.1.cellAt k (by omega)
      rw [fill_at (by rw [ints_length]; exact rangeL_length n) hlt] at ho
      have G := Lib.hid (HF.step (rangeL_length n) (rangeL_at hlt))
      clear F0 HF
      go_wp2
      go_roundw
      case rel => exact ⟨k + 1, by omega, by go_num, G.out⟩
      case measure => simp [intOf]; omega
    · obtain rfl : k = n := by omega
      obtain ⟨A0, c0, e0, hown1, hbel1⟩ := HF.done (rangeL_length k)
      injection e0 with e0
      injection e0 with eA _ ec
      subst eA ec
      obtain ⟨wo, hwo⟩ : ∃ wo, wo = wr := ⟨wr, rfl⟩
      subst hwo
      have HLV := Lib.hid (OwnR.of hown1)
      have HB1 := Lib.hid hbel1
      have hs1 : w.heap.size < wo.heap.size := (hown1.lt w.heap.size rfl).2
      clear F0 HF hown1 hbel1
      go_wp2_with fail
      refine (slicesClone_any ⟨w.heap.size, 0, none⟩ k k wo.heap.size (rangeL k) _ (rangeL_length k) (by omega) (Nat.le_refl _) HLV.out.row).mono ?_
      rintro e w2 ⟨A2, c2, rfl, own2, bel2⟩
      have HO2 := Lib.hid own2
      have HB2 := Lib.hid bel2
      have hs2 := bel2.size
      clear own2 bel2
      go_wp2_with fail
      have HM0 : Hid (OwnMat (w2.alloc (.cells #[.slice A2 k c2] 25)) wo.heap.size (w2.alloc (.cells #[.slice A2 k c2] 25)).heap.size (.slice (some ⟨w2.heap.size, 0, none⟩) 1 1) 1 [rangeL k] [.slice A2 k c2]) := by
        have hal : Below w2.heap.size w2 (w2.alloc (.cells #[.slice A2 k c2] 25)) := (Below.refl _ _).alloc (Nat.le_refl _) _
        have hlit := World.ownsRow_lit (base := wo.heap.size) (size := 1) (e := 25) w2 #[.slice A2 k c2] 1 hs2 (by simp [maxLen]) rfl
        refine ⟨OwnR.of hlit, rfl, ?_, ?_⟩
        · intro r row hr
          match r, hr with
          | 0, hr =>
            simp only [List.getElem?_cons_zero, Option.some.injEq] at hr
            subst hr
            refine ⟨A2, c2, by rw [rangeL_length]; rfl, ?_⟩
            rw [rangeL_length]
            exact ((OwnR.of HO2.out).below hal (Nat.le_refl _)).more (Nat.le_refl _) hal.size
          | r+1, hr => simp at hr
        · intro r s u t g hne hu ht
          match r, s, hu, ht with
          | 0, 0, _, _ => exact absurd rfl hne
          | r+1, _, hu, _ => simp at hu
          | 0, s+1, _, ht => simp at ht
      have HL0 : Hid (OwnR (w2.alloc (.cells #[.slice A2 k c2] 25)) w.heap.size wo.heap.size 2 (.slice (some ⟨w.heap.size, 0, none⟩) k k) k (ints (rangeL k))) :=
        (HLV.out.below HB2.out (Nat.le_refl _)).below ((Below.refl w2.heap.size w2).alloc (Nat.le_refl _) _) hs2
      have HB0 : Hid (Below w.heap.size w (w2.alloc (.cells #[.slice A2 k c2] 25))) := (HB1.out.trans (HB2.out.mono (by omega))).alloc (by omega) _
      go_loopw [5] (fun v W => ∃ (g cap j : Nat) (m : List (List Int)) (vs : List Value) (T : List Int), v = .slice (some ⟨g, 0, none⟩) j cap ∧ 1 ≤ j ∧ j ≤ 115 ∧ Hid (Listed k m T) ∧ Hid (OwnMat W wo.heap.size W.heap.size (.slice (some ⟨g, 0, none⟩) j cap) j m vs) ∧ Hid (OwnR W w.heap.size wo.heap.size 2 (.slice (some ⟨w.heap.size, 0, none⟩) k k) k (ints T)) ∧ Below w.heap.size w W ∧ wo.heap.size ≤ W.heap.size) (fun v _ => 200 - (match v with | .slice _ n _ => n | _ => 0))
      case atStart => exact ⟨w2.heap.size, 1, 1, [rangeL k], [.slice A2 k c2], rangeL k, rfl, Nat.le_refl _, by omega, Listed.start k, HM0, HL0, HB0.out, by simp; omega⟩
      case round =>
        obtain ⟨g, cap, j, m, vs, T, rfl, j1, j115, HT, HM, HL, HB, hWo⟩ := hrel
        obtain ⟨tlv, tl, _, _⟩ := HT.out.bd h1 h8
        have HTL := Lib.hid tl
        have C0 := lower_any w.heap.size w.heap.size k k T wr tl tlv HL.out.1
        clear tl tlv
        go_wp2_with fail
        refine C0.mono ?_
        rintro e w3 ⟨md, ⟨hlo, rfl, rfl⟩ | ⟨u, hlo, rfl, hown3, hg3⟩⟩
        · have e := HT.out.done h1 h8 hlo
          have hjl : m.length = j := HM.out.size
          have G : Hid (NewMat (Tr.treesL k).length (Tr.treesL k) w (.returned (.slice (some ⟨g, 0, none⟩) j cap)) (wr.drewN md)) := by
            rw [Hid, ← e, hjl]
            exact ⟨_, _, vs, rfl, (HM.out.drewN md).more (by omega) (Nat.le_refl _), below_drewN HB md⟩
          clear hlo e hjl HB C0
          go_wp2
          go_ret
          exact G.out
        · have hsz3 : wr.heap.size ≤ w3.heap.size := hg3.size
          have hWI : Within w.heap.size wo.heap.size (wr.drewN md) w3 := Within.grown hg3 (fun g' e => by injection e with e; omega)
          have HM3 : Hid (OwnMat w3 wo.heap.size w3.heap.size (.slice (some ⟨g, 0, none⟩) j cap) j m vs) := ((HM.out.drewN md).within hWI (by show wr.heap.size ≤ wr.heap.size; omega) (.inr (Nat.le_refl _))).more (Nat.le_refl _) hsz3
          have HL3 : Hid (OwnR w3 w.heap.size wo.heap.size 2 (.slice (some ⟨w.heap.size, 0, none⟩) k k) k (ints u)) := ⟨hown3, fun g' e => by have : w.heap.size = g' := (by simpa [Value.ownBlock] using e); omega⟩
          have HB3 : Hid (Below w.heap.size w w3) := Below.then (below_drewN HB md) hWI (Nat.le_refl _) (by show w.heap.size ≤ wr.heap.size; omega)
          have HN := Lib.hid (HT.out.next h1 h8 hlo)
          have hul : u.length = k := (HN.out.bd h1 h8).2.1
          have huj : j + 1 ≤ 115 := by have := (HN.out.bd h1 h8).2.2.2; rw [List.length_append] at this; have := HM.out.size; simp at *; omega
          have HUL := Lib.hid hul
          have hW3 : wo.heap.size ≤ w3.heap.size := by omega
          clear hlo hown3 hg3 hWI HB C0 HM HL HT hul
          go_wp2_with fail
          refine (slicesClone_any ⟨w.heap.size, 0, none⟩ k k wo.heap.size u _ HUL.out (by omega) hW3 HL3.out.row).mono ?_
          rintro e w4 ⟨A4, c4, rfl, own4, bel4⟩
          have hs4 := bel4.size
          have HM4 := Lib.hid (HM3.out.below bel4 (Nat.le_refl _))
          have HL4 := Lib.hid (HL3.out.below bel4 hW3)
          have HB4 := Lib.hid (HB3.out.trans (bel4.mono (by omega)))
          have HO4 := Lib.hid own4
          have hownO := HM4.out.outer.1
          clear own4 bel4
          go_wp2_with (at_builtin; refine wpList_append_lies _ rfl (.tmp 23) (.tmp 26) 24 rfl wo.heap.size 25 j0 _ 1 24 Tryz.underlying24 hj hy0 hy1 hy2 rfl (by omega) (.slice (some ⟨g, 0, none⟩) j cap) j vs rfl (hownO.alloc _) ⟨w4.heap.size, 0, none⟩ 1 1 [.slice A4 k c4] rfl rfl (World.news_of_block (cs := #[.slice A4 k c4]) (heap_alloc_new _ _)) (by simp [Value.oneCell']) (by omega) (by simp only [maxLen]; omega) (by omega) (by simp; omega) (w4.heap.size + 1) (by simp) ?_; intro g5 cap5 w5 hown5 hgrow5 hat5 hlt5)
          have hs5 : w4.heap.size ≤ w5.heap.size := by have := hgrow5.size; simp at this; omega
          have GM : Hid (OwnMat w5 wo.heap.size w5.heap.size (.slice (some ⟨g5, 0, none⟩) (j + 1) cap5) (j + 1) (m ++ [u]) (vs ++ [.slice A4 k c4])) := HM4.out.push (row := u) hs4 HUL.out HO4.out hW3 hown5 hgrow5
          have GL : Hid (OwnR w5 w.heap.size wo.heap.size 2 (.slice (some ⟨w.heap.size, 0, none⟩) k k) k (ints u)) :=
            ((HL4.out.below ((Below.refl w4.heap.size w4).alloc (Nat.le_refl _) _) (by omega)).grown hgrow5 (own_types HL4.out.1 hownO (by decide)))
          have GB : Hid (Below w.heap.size w w5) := (HB4.out.alloc (by omega) _).grown hgrow5 (by simp; omega) (fun q hq => by have := (hownO.lt q hq).1; omega)
          clear hown5 hgrow5 hat5 hownO
          go_wp2
          go_roundw
          case rel => exact ⟨g5, cap5, j + 1, _, _, u, rfl, by omega, huj, HN, GM, GL, GB.out, by omega⟩
          case measure => simp; omega
end Go.Proofs.YtpngohklicgbjaaGreat
/-
  The model's list of all trees with n nodes, plainly.
-/
namespace Go.Proofs.YtpngohklicgbjaaGreat
set_option maxRecDepth 100000

theorem grow_trees {n : Nat} (h1 : 1 ≤ n) (h8 : n ≤ 8) : Tr.growF (n - 1) [0] [] = Tr.treesL n := by
  have h := List.all_eq_true.1 Tr.grow_eq (n - 1) (by rw [List.mem_range]; omega)
  rw [show n - 1 + 1 = n from by omega] at h
  exact eq_of_beq h
end Go.Proofs.YtpngohklicgbjaaGreat
/-
  The model's canonical list of a level list.
-/
namespace Go.Proofs.YtpngohklicgbjaaGreat
open Go.RowKit Fld
set_option linter.unusedVariables false
set_option linter.unusedSimpArgs false
set_option maxRecDepth 100000

theorem own_shape' {w : World} {base : Nat} {T : TypeId} {v : Value} {n : Nat} {vs : List Value} (h : w.ownsRow base T 1 v n vs) : ∃ A c, v = .slice A n c := by
  rcases h.2 with ⟨rfl, rfl⟩ | ⟨g, cap, cur, rfl, _⟩
  · exact ⟨_, _, rfl⟩
  · exact ⟨_, _, rfl⟩
theorem row_news {w : World} {B : Nat} {ad : Addr} {vs : List Value} (h : Row w B (some ad) vs) : ∀ j u, vs[j]? = some u → w.cell? (ad.add j) = some u := by
  intro j u hu
  obtain ⟨b, o, e, _, hc⟩ := h j u hu
  cases e
  have : (⟨b, o, none⟩ : Addr).add j = ⟨b, o + j, none⟩ := by unfold Addr.add; split <;> simp_all
  rw [this]; exact hc
/-- values that are rows of numbers -/
def Vals (w : World) (B : Nat) (m : List (List Int)) (vs : List Value) : Prop :=
  vs.length = m.length ∧ ∀ (k : Nat) (r : List Int), m[k]? = some r → ∃ (A : Option Addr) (c : Nat), vs[k]? = some (Value.slice A r.length c) ∧ r.length ≤ c ∧ c ≤ maxLen ∧ Row w B A (ints r)
theorem Vals.nil (w : World) (B : Nat) : Vals w B [] [] := ⟨rfl, fun k r h => by simp at h⟩
theorem Vals.below {w w' : World} {B B' : Nat} {m : List (List Int)} {vs : List Value} (h : Vals w B m vs) (hb : Below B' w w') (hB : B ≤ B') : Vals w' B m vs :=
  ⟨h.1, fun k r hr => by obtain ⟨A, c, e1, e2, e3, e4⟩ := h.2 k r hr; exact ⟨A, c, e1, e2, e3, e4.below hb hB⟩⟩
theorem Vals.more {w : World} {B B' : Nat} {m : List (List Int)} {vs : List Value} (h : Vals w B m vs) (hB : B ≤ B') : Vals w B' m vs :=
  ⟨h.1, fun k r hr => by obtain ⟨A, c, e1, e2, e3, e4⟩ := h.2 k r hr; exact ⟨A, c, e1, e2, e3, e4.more hB⟩⟩
theorem Vals.next {w w' : World} {m : List (List Int)} {vs : List Value} (h : Vals w w.heap.size m vs) (hb : Below w.heap.size w w') : Vals w' w'.heap.size m vs := (h.below hb (Nat.le_refl _)).more hb.size
theorem Vals.one {v : Value} {m : List (List Int)} {vs : List Value} {w : World} {B : Nat} (h : Vals w B m vs) : ∀ u ∈ vs, u.oneCell' = true := by
  intro u hu
  obtain ⟨k, hk⟩ := List.mem_iff_getElem?.1 hu
  have hkl : k < m.length := by
    rw [← h.1]
    rcases Nat.lt_or_ge k vs.length with y | y
    · exact y
    · rw [List.getElem?_eq_none y] at hk; cases hk
  obtain ⟨A, c, e, _⟩ := h.2 k _ (List.getElem?_eq_getElem hkl)
  rw [hk] at e
  injection e with e
  subst e
  rfl
/-- put in at a place -/
theorem Vals.put {w : World} {B k : Nat} {m : List (List Int)} {vs : List Value} {A : Option Addr} {c : Nat} {r : List Int} (h : Vals w B m vs) (hk : k ≤ m.length) (hc : r.length ≤ c) (hm : c ≤ maxLen) (hr : Row w B A (ints r)) :
    Vals w B (m.take k ++ r :: m.drop k) (vs.take k ++ .slice A r.length c :: vs.drop k) := by
  have hl := h.1
  refine ⟨by simp [hl], fun j s hs => ?_⟩
  have e1 : (m.take k).length = k := by rw [List.length_take]; omega
  have e2 : (vs.take k).length = k := by rw [List.length_take]; omega
  rcases Nat.lt_trichotomy j k with g | g | g
  · rw [List.getElem?_append_left (by omega), List.getElem?_take, if_pos g] at hs
    obtain ⟨A', c', q1, q2⟩ := h.2 j s hs
    exact ⟨A', c', by rw [List.getElem?_append_left (by omega), List.getElem?_take, if_pos g]; exact q1, q2⟩
  · subst g
    rw [List.getElem?_append_right (by omega), e1, Nat.sub_self] at hs
    simp only [List.getElem?_cons_zero, Option.some.injEq] at hs
    subst hs
    exact ⟨A, c, by rw [List.getElem?_append_right (by omega), e2, Nat.sub_self]; rfl, hc, hm, hr⟩
  · obtain ⟨i, rfl⟩ : ∃ i, j = k + 1 + i := ⟨j - k - 1, by omega⟩
    rw [List.getElem?_append_right (by omega), e1, show k + 1 + i - k = i + 1 from by omega, List.getElem?_cons_succ, List.getElem?_drop] at hs
    obtain ⟨A', c', q1, q2⟩ := h.2 (k + i) s hs
    exact ⟨A', c', by rw [List.getElem?_append_right (by omega), e2, show k + 1 + i - k = i + 1 from by omega, List.getElem?_cons_succ, List.getElem?_drop]; exact q1, q2⟩
/-- a list of lists in memory, by its values -/
def Rws (w : World) (A : Option Addr) (m : List (List Int)) : Prop := ∃ vs, Row w w.heap.size A vs ∧ Vals w w.heap.size m vs
theorem Rws.next {w w' : World} {A : Option Addr} {m : List (List Int)} (h : Rws w A m) (hb : Below w.heap.size w w') : Rws w' A m := by
  obtain ⟨vs, h1, h2⟩ := h
  exact ⟨vs, (h1.below hb (Nat.le_refl _)).more hb.size, h2.next hb⟩
theorem Rws.drewN {w : World} {A : Option Addr} {m : List (List Int)} (h : Rws w A m) (k : Nat) : Rws (w.drewN k) A m := h.next (below_drewN (Below.refl _ _) k)
theorem Rws.mat {w : World} {A : Option Addr} {m : List (List Int)} (h : Rws w A m) : Mat w w.heap.size A m := by
  obtain ⟨vs, h1, h2⟩ := h
  intro k r hr
  obtain ⟨A', c', q1, q2, q3, q4⟩ := h2.2 k r hr
  obtain ⟨b, o, e, hb, hc⟩ := h1 k _ q1
  exact ⟨b, o, A', c', e, hb, hc, q2, q3, q4⟩
theorem Row.dropA {w : World} {B b o k : Nat} {vs : List Value} (h : Row w B (some ⟨b, o, none⟩) vs) : Row w B (some ⟨b, o + k, none⟩) (vs.drop k) := fun j v hv => by
  rw [List.getElem?_drop] at hv
  obtain ⟨b', o', e, hb, hc⟩ := h (k + j) v hv
  cases e
  exact ⟨b, o + k, rfl, hb, by rw [Nat.add_assoc]; exact hc⟩
theorem Row.takeA {w : World} {B : Nat} {A : Option Addr} {vs : List Value} (h : Row w B A vs) (k : Nat) : Row w B A (vs.take k) := fun j v hv => by
  rw [List.getElem?_take] at hv
  split at hv
  · exact h j v hv
  · cases hv
/-- the branches so far, in descending order -/
def sortedTo (t : List Int) (i : Nat) : List (List Int) := (((Tr.partsL t).take i).map Tr.can).foldl (fun s p => Tr.insD p s) []
theorem sortedTo_step {t : List Int} {i : Nat} {p : List Int} (h : (Tr.partsL t)[i]? = some p) : sortedTo t (i + 1) = Tr.insD (Tr.can p) (sortedTo t i) := by
  unfold sortedTo
  rw [List.take_add_one, h, Option.toList_some, List.map_append, List.foldl_append]; rfl
theorem sortedTo_length (t : List Int) : ∀ i, i ≤ (Tr.partsL t).length → (sortedTo t i).length = i
  | 0, _ => rfl
  | i+1, h => by
    rw [sortedTo_step (List.getElem?_eq_getElem h), Tr.insD_length, sortedTo_length t i (by omega)]
theorem sortedTo_end {t : List Int} (h : Tr.isLv t = true) : Tr.can t = Tr.up (sortedTo t (Tr.partsL t).length) := by
  unfold sortedTo
  rw [List.take_length]
  exact (Tr.can_parts h).1
theorem insD_mem {p : List Int} : ∀ {S : List (List Int)} {s : List Int}, s ∈ Tr.insD p S → s = p ∨ s ∈ S
  | [], s, hs => by simpa [Tr.insD] using hs
  | a :: r, s, hs => by
    rw [Tr.insD] at hs
    split at hs
    · simpa using hs
    · rw [List.mem_cons] at hs
      rcases hs with rfl | hs
      · simp
      · rcases insD_mem hs with e | e
        · exact .inl e
        · exact .inr (by simp [e])
theorem lv_can {t : List Int} (h : Tr.isLv t = true) : Tr.isLv (Tr.can t) = true ∧ (Tr.can t).length = t.length := by
  have h1 := Tr.all_of Tr.chk1_all (Tr.isLv_iff.1 h)
  unfold Tr.chk1 at h1
  simp only [Bool.and_eq_true, beq_iff_eq] at h1
  exact ⟨h1.1.1.2, h1.1.2⟩
theorem sorted_key : ∀ (L : List (List Int)), (∀ p ∈ L, Tr.isLv p = true) → ∀ S : List (List Int), (∀ s ∈ S, Tr.isLv s = true) → ∀ s ∈ (L.map Tr.can).foldl (fun s p => Tr.insD p s) S, Tr.isLv s = true
  | [], _, S, hS, s, hs => hS s hs
  | p :: r, hp, S, hS, s, hs => sorted_key r (fun p' hp' => hp p' (by simp [hp'])) (Tr.insD (Tr.can p) S) (fun s hs => by
      rcases insD_mem hs with rfl | e
      · exact (lv_can (hp p (by simp))).1
      · exact hS s e) s hs
theorem sorted_lv {t : List Int} (h : Tr.isLv t = true) {k q : Nat} {s : List Int} (hs : (sortedTo t k)[q]? = some s) : Tr.isLv s = true :=
  sorted_key ((Tr.partsL t).take k) (fun p hp => ((Tr.can_parts h).2.1 p (List.mem_of_mem_take hp)).1) [] (fun s hs => by cases hs) s (List.mem_of_getElem? hs)
theorem sorted_bd {t : List Int} (h : Tr.isLv t = true) {k q : Nat} {s : List Int} (hs : (sortedTo t k)[q]? = some s) : s.length ≤ 1048576 := by
  have := (Tr.isLv_iff.1 (sorted_lv h hs)).2.1; omega
theorem lv_el {s : List Int} {j : Nat} {x : Int} (h : Tr.isLv s = true) (hx : s[j]? = some x) : 0 ≤ x ∧ x ≤ 8 := by
  have h1 := Tr.isLv_iff.1 h
  have hj : j < s.length := by
    rcases Nat.lt_or_ge j s.length with y | y
    · exact y
    · rw [List.getElem?_eq_none y] at hx; cases hx
  have h2 := StepsTo.bd (n := s.length) h1.2.2.2 h1.2.2.1 hj (lv_at hx)
  have := h1.2.1
  exact ⟨h2.1, by omega⟩
def outL (l : List Int) : List Int := 0 :: l.map (· + 1)
theorem outL_push (l : List Int) (x : Int) : ints (outL l) ++ [.int .i64 (x + 1)] = ints (outL (l ++ [x])) := by simp [outL, ints, intsK]
theorem outL_length (l : List Int) : (outL l).length = l.length + 1 := by simp [outL]
theorem flat_take' {S : List (List Int)} {k : Nat} {x : List Int} (h : S[k]? = some x) : (S.take (k + 1)).flatten = (S.take k).flatten ++ x := by
  rw [List.take_add_one, h]; simp
theorem flat_le' (S : List (List Int)) (k : Nat) : (S.take k).flatten.length ≤ S.flatten.length := by
  have : S.flatten = (S.take k).flatten ++ (S.drop k).flatten := by rw [← List.flatten_append, List.take_append_drop]
  rw [this, List.length_append]; omega
def SCan (d : Nat) : Prop := ∀ (A : Option Addr) (n c B : Nat) (t : List Int) (w : World), t.length = n → n ≤ d → Tr.isLv t = true → B ≤ w.heap.size → Row w B A (ints t) →
    Calls Tryz.prog 142 #[.slice A n c] w (NewRow 2 n (ints (Tr.can t)) w)
set_option maxHeartbeats 2000000 in
theorem sCan_succ (d : Nat) (IH : SCan d) : SCan (d + 1) := by
  obtain ⟨i0, hi, hz0, hz1, hz2⟩ := info_parts info_i64
  obtain ⟨j0, hj, hy0, hy1, hy2⟩ := info_parts info_row
  intro A n c B t w hl hnd hlv hB h
  have n8 : n ≤ 8 := by have := (Tr.isLv_iff.1 hlv).2.1; omega
  obtain ⟨_, PS, P7⟩ := Tr.can_parts hlv
  have HPS := Lib.hid PS
  have HL := Lib.hid hl
  have HLV := Lib.hid hlv
  obtain ⟨P, hP⟩ : ∃ P, P = (Tr.partsL t).length := ⟨_, rfl⟩
  have HP : Hid ((Tr.partsL t).length = P) := hP.symm
  have C0 := l03Parts_any A n c B t w hl hlv hB h
  rw [HP.out] at C0
  have hP7 : P ≤ 7 := by rw [hP]; exact P7
  clear hl hlv PS P7 hP
  go_enter Tryz.func142, Tryz.ntmps142
  go_wp2_with fail
  refine C0.mono ?_
  rintro e w1 ⟨Ap, cp, pvs, rfl, ownp, belp⟩
  have HMP : Hid (Mat w1 w1.heap.size Ap (Tr.partsL t)) := ownp.mat
  have HB1 := Lib.hid belp
  have hs1 := belp.size
  clear ownp belp C0
  go_wp2_with fail
  go_loopw [4, 5] (fun v i wr => ∃ (k cap : Nat) (b o : Nat), k ≤ P ∧ v = .slice (some ⟨b, o, none⟩) k cap ∧ k ≤ cap ∧ i = .int .i64 k ∧ Rws wr (some ⟨b, o, none⟩) (sortedTo t k) ∧ Below w1.heap.size w1 wr) (fun _ i _ => P - (intOf i).toNat)
  case atStart => exact ⟨0, 0, w1.heap.size, 0, Nat.zero_le _, rfl, Nat.le_refl _, rfl, ⟨[], Row.nil _ _ _, Vals.nil _ _⟩, (Below.refl _ _).alloc (Nat.le_refl _) _⟩
  case round =>
    obtain ⟨k, cap, b, o, hk, rfl, hkc, rfl, HR, HB⟩ := hrel
    have hsz := HB.size
    by_cases hlt : k < P
    · obtain ⟨p, hp⟩ := at_lt (show k < (Tr.partsL t).length by rw [HP.out]; exact hlt)
      obtain ⟨bp, op, Ak, ck, rfl, hbp, hcp, hlc, hcm, hrp⟩ := HMP.out.below HB (Nat.le_refl _) k p hp
      obtain ⟨hpl, hpt⟩ := HPS.out p (List.mem_of_getElem? hp)
      have hpt2 : p.length ≤ d := by have := HL.out; omega
      have HSS : Hid (sortedTo t (k + 1) = Tr.insD (Tr.can p) (sortedTo t k)) := sortedTo_step hp
      have HSL : Hid ((sortedTo t k).length = k) := sortedTo_length t k (by rw [HP.out]; exact hk)
      have hp8 : p.length ≤ 8 := by have := (Tr.isLv_iff.1 hpl).2.1; exact this
      have HPL := Lib.hid hpl
      clear hp hpt hpl
      go_wp2_with fail
      refine (IH Ak p.length ck w1.heap.size p _ rfl hpt2 HPL.out (by omega) hrp).mono ?_
      rintro e w2 ⟨A2, c2, rfl, own2, bel2⟩
      have HR2 := Lib.hid (HR.next bel2)
      have HB2 := Lib.hid (HB.trans (bel2.mono hsz))
      have hs2 := bel2.size
      have HO2 := Lib.hid own2
      obtain ⟨hc2, hc2m⟩ := own_cap own2
      have HCL : Hid ((Tr.can p).length = p.length) := by
        have := own_len own2; rw [ints_length] at this; exact this
      have HROW2 : Hid (Row w2 w2.heap.size A2 (ints (Tr.can p))) := row_of_own own2
      clear HR HB bel2 own2 hcp
      go_wp2_with fail
      go_loopw [7] (fun a wr => ∃ (at' m : Nat), at' ≤ k ∧ a = .int .i64 at' ∧ wr = w2.drewN m ∧ Hid (∀ j s, j < at' → (sortedTo t k)[j]? = some s → Tr.lessL s (Tr.can p) = false)) (fun a _ => k - (intOf a).toNat)
      case atStart => exact ⟨0, 0, Nat.zero_le _, rfl, rfl, fun j s hj => by omega⟩
      case round =>
        obtain ⟨q, m, hq, rfl, rfl, HQ⟩ := hrel
        by_cases hqk : q < k
        · obtain ⟨s, hs⟩ := at_lt (show q < (sortedTo t k).length by rw [HSL.out]; exact hqk)
          obtain ⟨_, _, As, cs, e1, _, hcs, _, _, hrs⟩ := (HR2.out.drewN m).mat q s hs
          cases e1
          have hs1 : s.length ≤ 1048576 := by
            have := HR2.out
            exact sorted_bd HLV.out hs
          have C1 := l01Less_any As A2 s.length p.length cs c2 _ _ s (Tr.can p) (w2.drewN m) rfl HCL.out (by omega) (by omega) hrs (HROW2.out.drewN m)
          cases hless : Tr.lessL s (Tr.can p)
          · rw [hless] at C1
            have HQ2 : Hid (∀ j s, j < q + 1 → (sortedTo t k)[j]? = some s → Tr.lessL s (Tr.can p) = false) := fun j s' hj hs' => by
              by_cases hjq : j = q
              · subst hjq; rw [hs] at hs'; injection hs' with hs'; rw [← hs']; exact hless
              · exact HQ.out j s' (by omega) hs'
            clear hs HQ hless
            go_wp2_with fail
            refine C1.mono ?_
            rintro e w3 ⟨rfl, m3, rfl⟩
            go_wp2
            go_roundw
            case rel => exact ⟨q + 1, _, by omega, by go_num, rfl, HQ2⟩
            case measure => simp [intOf]; omega
          · rw [hless] at C1
            have HQ2 : Hid (∀ s, (sortedTo t k)[q]? = some s → Tr.lessL s (Tr.can p) = true) := fun s' hs' => by
              rw [hs] at hs'; injection hs' with hs'; rw [← hs']; exact hless
            clear hs hless
            go_wp2_with fail
            refine C1.mono ?_
            rintro e w3' ⟨rfl, m3, rfl⟩
            clear hcs hrs C1
            obtain ⟨W, hW⟩ : ∃ W, W = (w2.drewN m).drewN m3 := ⟨_, rfl⟩
            have BW : Hid (Below w2.heap.size w2 W) := by rw [hW]; exact below_drewN (below_drewN (Below.refl _ _) _) _
            have hW1 : w2.heap.size ≤ W.heap.size := BW.out.size
            rw [← hW]
            clear hW
            obtain ⟨vs, hrow, hvals⟩ := HR2.out.next BW.out
            have hvl : vs.length = k := by rw [hvals.1]; exact HSL.out
            have HVL := Lib.hid hvl
            have HPV : Hid (Row W W.heap.size A2 (ints (Tr.can p))) := (HROW2.out.below BW.out (Nat.le_refl _)).more hW1
            have OWN1 := Lib.hid (World.ownsRow_lit (base := W.heap.size) (size := 1) (e := 25) W #[.slice A2 p.length c2] 1 (Nat.le_refl _) (by simp [maxLen]) rfl)
            have HROW := Lib.hid hrow
            have HVALS := Lib.hid hvals
            have HPUT : Hid (sortedTo t (k + 1) = (sortedTo t k).take q ++ Tr.can p :: (sortedTo t k).drop q) := by
              rw [Hid, HSS.out]; exact Tr.insD_at HQ.out HQ2.out (by rw [HSL.out]; exact hq)
            clear hrow hvals hvl HQ HQ2
            have HLEN1 : Hid ((vs.drop q).length = (k - q) * 1) := by rw [Hid, List.length_drop, HVL.out]; omega
            have HNEWS1 : Hid (∀ j u, (vs.drop q)[j]? = some u → (W.alloc (.cells #[.slice A2 p.length c2] 25)).cell? ((⟨b, o + q, none⟩ : Addr).add j) = some u) := row_news (Row.dropA (HROW.out.alloc (Nat.le_refl _) _))
            have HONE1 : Hid (∀ u ∈ vs.drop q, u.oneCell' = true) := fun u hu => HVALS.out.one (v := u) u (List.mem_of_mem_drop hu)
            have HLEN2 : Hid ((vs.take q).length = q * 1) := by rw [Hid, List.length_take, HVL.out]; omega
            have HONE2 : Hid (∀ u ∈ vs.take q, u.oneCell' = true) := fun u hu => HVALS.out.one (v := u) u (List.mem_of_mem_take hu)
            have HONE3 : Hid (∀ u ∈ [Value.slice A2 p.length c2] ++ vs.drop q, u.oneCell' = true) := fun u hu => by
              rw [List.mem_append, List.mem_singleton] at hu
              rcases hu with rfl | hu
              · rfl
              · exact HVALS.out.one (v := u) u (List.mem_of_mem_drop hu)
            have HS5 : Hid (q + (1 + (k - q)) = k + 1) := by rw [Hid]; omega
            go_wp2_with (first
              | (at_builtin; (refine wpList_append_own _ rfl (.tmp 42) (.tmp 45) 24 rfl W.heap.size 25 j0 _ 1 24 Tryz.underlying24 hj hy0 hy1 hy2 rfl (by omega) (.slice (some ⟨W.heap.size, 0, none⟩) 1 1) 1 [.slice A2 p.length c2] rfl OWN1.out ⟨b, o + q, none⟩ (k - q) (cap - q) (vs.drop q) rfl HLEN1.out HNEWS1.out HONE1.out (by simp only [maxLen]; omega) (by omega) (by simp) ?_; intro v3 w3 own3 hgrow3 _; obtain ⟨g3, c3, rfl⟩ := own_form own3 (by omega); have BW3 : Hid (Below W.heap.size W w3) := ((Below.refl _ _).alloc (Nat.le_refl _) _).grown hgrow3 (by simp) (fun z hz => (OWN1.out.lt z hz).1); have hW3 : W.heap.size ≤ w3.heap.size := BW3.out.size; have HO3 := Lib.hid (OwnR.of own3); have OWN2 := Lib.hid (World.ownsRow_lit (base := w3.heap.size) (size := 1) (e := 25) w3 #[] 0 (Nat.le_refl _) (Nat.zero_le _) rfl); have HNEWS2 : Hid (∀ j u, (vs.take q)[j]? = some u → (w3.alloc (.cells #[] 25)).cell? ((⟨b, o, none⟩ : Addr).add j) = some u) := row_news ((((HROW.out.takeA q).below BW3.out (Nat.le_refl _)).more hW3).alloc (Nat.le_refl _) _)))
              | (at_builtin; refine wpList_append_own _ rfl (.tmp 47) (.tmp 50) 24 rfl w3.heap.size 25 j0 _ 1 24 Tryz.underlying24 hj hy0 hy1 hy2 rfl (by omega) (.slice (some ⟨w3.heap.size, 0, none⟩) 0 0) 0 [] rfl OWN2.out ⟨b, o, none⟩ q cap (vs.take q) rfl HLEN2.out HNEWS2.out HONE2.out (by simp only [maxLen]; omega) (by omega) (by simp) ?_; intro v4 w4 own4 hgrow4 _; obtain ⟨A4, c4, rfl⟩ := own_shape' own4; rw [Nat.zero_add, List.nil_append] at own4; have BW4 : Below w3.heap.size w3 w4 := ((Below.refl _ _).alloc (Nat.le_refl _) _).grown hgrow4 (by simp) (fun z hz => (OWN2.out.lt z hz).1); have hW4 : w3.heap.size ≤ w4.heap.size := BW4.size; have HO4 := (HO3.out.below BW4 (Nat.le_refl _)).1)
              | (at_builtin; refine wpList_append_own _ rfl (.tmp 51) (.tmp 52) 24 rfl w3.heap.size 25 j0 _ 1 24 Tryz.underlying24 hj hy0 hy1 hy2 rfl (by omega) (.slice A4 q c4) q (vs.take q) rfl own4 ⟨g3, 0, none⟩ (1 + (k - q)) c3 ([Value.slice A2 p.length c2] ++ vs.drop q) rfl (by rw [Nat.mul_one]; exact own_len HO4) (row_news (row_of_own HO4)) HONE3.out (by simp only [maxLen]; omega) (by omega) (by omega) ?_; intro v5 w5 own5 hgrow5 _; rw [HS5.out] at own5; obtain ⟨g5, c5, rfl⟩ := own_form own5 (by omega)))
            have BW5 : Hid (Below w3.heap.size w3 w5) := BW4.grown hgrow5 hW4 (fun z hz => (own4.lt z hz).1)
            have GB : Hid (Below w1.heap.size w1 w5) := ((HB2.out.trans (BW.out.mono (by omega))).trans (BW3.out.mono (by omega))).trans (BW5.out.mono (by omega))
            have GC : k + 1 ≤ c5 := (own_cap own5).1
            have GR : Hid (Rws w5 (some ⟨g5, 0, none⟩) (sortedTo t (k + 1))) := by
              refine ⟨_, row_of_own own5, ?_⟩
              have hv := Vals.put (k := q) (A := A2) (c := c2) (r := Tr.can p) ((HVALS.out.next BW3.out).next BW5.out) (by rw [HSL.out]; exact hq) (by rw [HCL.out]; exact hc2) hc2m (((HPV.out.below BW3.out (Nat.le_refl _)).below BW5.out hW3).more (by have := BW5.out.size; omega))
              rw [HCL.out, ← HPUT.out] at hv
              exact hv
            clear own5 hgrow5 own4 hgrow4 BW4 HO4 own3 hgrow3
            go_wp2
            go_roundw
            case rel => exact ⟨k + 1, c5, g5, 0, by omega, rfl, GC, by go_num, GR.out, GB.out⟩
            case measure => simp [intOf]; omega
        · obtain rfl : q = k := by omega
          have HQ2 : Hid (∀ s, (sortedTo t q)[q]? = some s → Tr.lessL s (Tr.can p) = true) := fun s' hs' => by
            rw [List.getElem?_eq_none (by rw [HSL.out]; exact Nat.le_refl _)] at hs'; cases hs'
          obtain ⟨W, hW⟩ : ∃ W, W = w2.drewN m := ⟨_, rfl⟩
          have BW : Hid (Below w2.heap.size w2 W) := by rw [hW]; exact below_drewN (Below.refl _ _) _
          have hW1 : w2.heap.size ≤ W.heap.size := BW.out.size
          rw [← hW]
          clear hW
          obtain ⟨vs, hrow, hvals⟩ := HR2.out.next BW.out
          have hvl : vs.length = q := by rw [hvals.1]; exact HSL.out
          have HVL := Lib.hid hvl
          have HPV : Hid (Row W W.heap.size A2 (ints (Tr.can p))) := (HROW2.out.below BW.out (Nat.le_refl _)).more hW1
          have OWN1 := Lib.hid (World.ownsRow_lit (base := W.heap.size) (size := 1) (e := 25) W #[.slice A2 p.length c2] 1 (Nat.le_refl _) (by simp [maxLen]) rfl)
          have HROW := Lib.hid hrow
          have HVALS := Lib.hid hvals
          have HPUT : Hid (sortedTo t (q + 1) = (sortedTo t q).take q ++ Tr.can p :: (sortedTo t q).drop q) := by
            rw [Hid, HSS.out]; exact Tr.insD_at HQ.out HQ2.out (by rw [HSL.out]; exact hq)
          clear hrow hvals hvl HQ HQ2
          by_cases hcap : q = cap
          · subst hcap
            have HLEN1 : Hid (([] : List Value).length = 0 * 1) := rfl
            have HNEWS1 : Hid (∀ j u, ([] : List Value)[j]? = some u → (W.alloc (.cells #[.slice A2 p.length c2] 25)).cell? ((⟨b, o, none⟩ : Addr).add j) = some u) := fun j u hu => by simp at hu
            have HE1 : Hid ([Value.slice A2 p.length c2] ++ ([] : List Value) = [Value.slice A2 p.length c2] ++ vs.drop q) := by
              rw [Hid, List.drop_of_length_le (by rw [HVL.out]; omega)]
            have HONE1 : Hid (∀ u ∈ ([] : List Value), u.oneCell' = true) := fun u hu => by cases hu
            have HLEN2 : Hid ((vs.take q).length = q * 1) := by rw [Hid, List.length_take, HVL.out]; omega
            have HONE2 : Hid (∀ u ∈ vs.take q, u.oneCell' = true) := fun u hu => HVALS.out.one (v := u) u (List.mem_of_mem_take hu)
            have HONE3 : Hid (∀ u ∈ [Value.slice A2 p.length c2] ++ vs.drop q, u.oneCell' = true) := fun u hu => by
              rw [List.mem_append, List.mem_singleton] at hu
              rcases hu with rfl | hu
              · rfl
              · exact HVALS.out.one (v := u) u (List.mem_of_mem_drop hu)
            go_wp2_with (first
              | (at_builtin; (refine wpList_append_own _ rfl (.tmp 42) (.tmp 45) 24 rfl W.heap.size 25 j0 _ 1 24 Tryz.underlying24 hj hy0 hy1 hy2 rfl (by omega) (.slice (some ⟨W.heap.size, 0, none⟩) 1 1) 1 [.slice A2 p.length c2] rfl OWN1.out ⟨b, o, none⟩ 0 0 [] rfl HLEN1.out HNEWS1.out HONE1.out (by simp only [maxLen]; omega) (by omega) (by simp) ?_; intro v3 w3 own3 hgrow3 _; obtain ⟨g3, c3, rfl⟩ := own_form own3 (by omega); rw [show 1 + 0 = 1 from rfl] at own3; rw [HE1.out] at own3; have BW3 : Hid (Below W.heap.size W w3) := ((Below.refl _ _).alloc (Nat.le_refl _) _).grown hgrow3 (by simp) (fun z hz => (OWN1.out.lt z hz).1); have hW3 : W.heap.size ≤ w3.heap.size := BW3.out.size; have HO3 := Lib.hid (OwnR.of own3); have OWN2 := Lib.hid (World.ownsRow_lit (base := w3.heap.size) (size := 1) (e := 25) w3 #[] 0 (Nat.le_refl _) (Nat.zero_le _) rfl); have HNEWS2 : Hid (∀ j u, (vs.take q)[j]? = some u → (w3.alloc (.cells #[] 25)).cell? ((⟨b, o, none⟩ : Addr).add j) = some u) := row_news ((((HROW.out.takeA q).below BW3.out (Nat.le_refl _)).more hW3).alloc (Nat.le_refl _) _)))
              | (at_builtin; refine wpList_append_own _ rfl (.tmp 47) (.tmp 50) 24 rfl w3.heap.size 25 j0 _ 1 24 Tryz.underlying24 hj hy0 hy1 hy2 rfl (by omega) (.slice (some ⟨w3.heap.size, 0, none⟩) 0 0) 0 [] rfl OWN2.out ⟨b, o, none⟩ q q (vs.take q) rfl HLEN2.out HNEWS2.out HONE2.out (by simp only [maxLen]; omega) (by omega) (by simp) ?_; intro v4 w4 own4 hgrow4 _; obtain ⟨A4, c4, rfl⟩ := own_shape' own4; rw [Nat.zero_add, List.nil_append] at own4; have BW4 : Below w3.heap.size w3 w4 := ((Below.refl _ _).alloc (Nat.le_refl _) _).grown hgrow4 (by simp) (fun z hz => (OWN2.out.lt z hz).1); have hW4 : w3.heap.size ≤ w4.heap.size := BW4.size; have HO4 := (HO3.out.below BW4 (Nat.le_refl _)).1)
              | (at_builtin; refine wpList_append_own _ rfl (.tmp 51) (.tmp 52) 24 rfl w3.heap.size 25 j0 _ 1 24 Tryz.underlying24 hj hy0 hy1 hy2 rfl (by omega) (.slice A4 q c4) q (vs.take q) rfl own4 ⟨g3, 0, none⟩ 1 c3 ([Value.slice A2 p.length c2] ++ vs.drop q) rfl (by rw [Nat.mul_one]; exact own_len HO4) (row_news (row_of_own HO4)) HONE3.out (by simp only [maxLen]; omega) (by omega) (by omega) ?_; intro v5 w5 own5 hgrow5 _; obtain ⟨g5, c5, rfl⟩ := own_form own5 (by omega)))
            have BW5 : Hid (Below w3.heap.size w3 w5) := BW4.grown hgrow5 hW4 (fun z hz => (own4.lt z hz).1)
            have GB : Hid (Below w1.heap.size w1 w5) := ((HB2.out.trans (BW.out.mono (by omega))).trans (BW3.out.mono (by omega))).trans (BW5.out.mono (by omega))
            have GC : q + 1 ≤ c5 := (own_cap own5).1
            have GR : Hid (Rws w5 (some ⟨g5, 0, none⟩) (sortedTo t (q + 1))) := by
              refine ⟨_, row_of_own own5, ?_⟩
              have hv := Vals.put (k := q) (A := A2) (c := c2) (r := Tr.can p) ((HVALS.out.next BW3.out).next BW5.out) (by rw [HSL.out]; exact hq) (by rw [HCL.out]; exact hc2) hc2m (((HPV.out.below BW3.out (Nat.le_refl _)).below BW5.out hW3).more (by have := BW5.out.size; omega))
              rw [HCL.out, ← HPUT.out] at hv
              exact hv
            clear own5 hgrow5 own4 hgrow4 BW4 HO4 own3 hgrow3
            go_wp2
            go_roundw
            case rel => exact ⟨q + 1, c5, g5, 0, by omega, rfl, GC, by go_num, GR.out, GB.out⟩
            case measure => simp [intOf]; omega
          · skip
            have HLEN1 : Hid ((vs.drop q).length = 0 * 1) := by rw [Hid, List.length_drop, HVL.out]; omega
            have HNEWS1 : Hid (∀ j u, (vs.drop q)[j]? = some u → (W.alloc (.cells #[.slice A2 p.length c2] 25)).cell? ((⟨b, o + q, none⟩ : Addr).add j) = some u) := row_news (Row.dropA (HROW.out.alloc (Nat.le_refl _) _))
            have HONE1 : Hid (∀ u ∈ vs.drop q, u.oneCell' = true) := fun u hu => HVALS.out.one (v := u) u (List.mem_of_mem_drop hu)
            have HLEN2 : Hid ((vs.take q).length = q * 1) := by rw [Hid, List.length_take, HVL.out]; omega
            have HONE2 : Hid (∀ u ∈ vs.take q, u.oneCell' = true) := fun u hu => HVALS.out.one (v := u) u (List.mem_of_mem_take hu)
            have HONE3 : Hid (∀ u ∈ [Value.slice A2 p.length c2] ++ vs.drop q, u.oneCell' = true) := fun u hu => by
              rw [List.mem_append, List.mem_singleton] at hu
              rcases hu with rfl | hu
              · rfl
              · exact HVALS.out.one (v := u) u (List.mem_of_mem_drop hu)
            go_wp2_with (first
              | (at_builtin; (refine wpList_append_own _ rfl (.tmp 42) (.tmp 45) 24 rfl W.heap.size 25 j0 _ 1 24 Tryz.underlying24 hj hy0 hy1 hy2 rfl (by omega) (.slice (some ⟨W.heap.size, 0, none⟩) 1 1) 1 [.slice A2 p.length c2] rfl OWN1.out ⟨b, o + q, none⟩ 0 (cap - q) (vs.drop q) rfl HLEN1.out HNEWS1.out HONE1.out (by simp only [maxLen]; omega) (by omega) (by simp) ?_; intro v3 w3 own3 hgrow3 _; obtain ⟨g3, c3, rfl⟩ := own_form own3 (by omega); rw [show 1 + 0 = 1 from rfl] at own3; have BW3 : Hid (Below W.heap.size W w3) := ((Below.refl _ _).alloc (Nat.le_refl _) _).grown hgrow3 (by simp) (fun z hz => (OWN1.out.lt z hz).1); have hW3 : W.heap.size ≤ w3.heap.size := BW3.out.size; have HO3 := Lib.hid (OwnR.of own3); have OWN2 := Lib.hid (World.ownsRow_lit (base := w3.heap.size) (size := 1) (e := 25) w3 #[] 0 (Nat.le_refl _) (Nat.zero_le _) rfl); have HNEWS2 : Hid (∀ j u, (vs.take q)[j]? = some u → (w3.alloc (.cells #[] 25)).cell? ((⟨b, o, none⟩ : Addr).add j) = some u) := row_news ((((HROW.out.takeA q).below BW3.out (Nat.le_refl _)).more hW3).alloc (Nat.le_refl _) _)))
              | (at_builtin; refine wpList_append_own _ rfl (.tmp 47) (.tmp 50) 24 rfl w3.heap.size 25 j0 _ 1 24 Tryz.underlying24 hj hy0 hy1 hy2 rfl (by omega) (.slice (some ⟨w3.heap.size, 0, none⟩) 0 0) 0 [] rfl OWN2.out ⟨b, o, none⟩ q cap (vs.take q) rfl HLEN2.out HNEWS2.out HONE2.out (by simp only [maxLen]; omega) (by omega) (by simp) ?_; intro v4 w4 own4 hgrow4 _; obtain ⟨A4, c4, rfl⟩ := own_shape' own4; rw [Nat.zero_add, List.nil_append] at own4; have BW4 : Below w3.heap.size w3 w4 := ((Below.refl _ _).alloc (Nat.le_refl _) _).grown hgrow4 (by simp) (fun z hz => (OWN2.out.lt z hz).1); have hW4 : w3.heap.size ≤ w4.heap.size := BW4.size; have HO4 := (HO3.out.below BW4 (Nat.le_refl _)).1)
              | (at_builtin; refine wpList_append_own _ rfl (.tmp 51) (.tmp 52) 24 rfl w3.heap.size 25 j0 _ 1 24 Tryz.underlying24 hj hy0 hy1 hy2 rfl (by omega) (.slice A4 q c4) q (vs.take q) rfl own4 ⟨g3, 0, none⟩ 1 c3 ([Value.slice A2 p.length c2] ++ vs.drop q) rfl (by rw [Nat.mul_one]; exact own_len HO4) (row_news (row_of_own HO4)) HONE3.out (by simp only [maxLen]; omega) (by omega) (by omega) ?_; intro v5 w5 own5 hgrow5 _; obtain ⟨g5, c5, rfl⟩ := own_form own5 (by omega)))
            have BW5 : Hid (Below w3.heap.size w3 w5) := BW4.grown hgrow5 hW4 (fun z hz => (own4.lt z hz).1)
            have GB : Hid (Below w1.heap.size w1 w5) := ((HB2.out.trans (BW.out.mono (by omega))).trans (BW3.out.mono (by omega))).trans (BW5.out.mono (by omega))
            have GC : q + 1 ≤ c5 := (own_cap own5).1
            have GR : Hid (Rws w5 (some ⟨g5, 0, none⟩) (sortedTo t (q + 1))) := by
              refine ⟨_, row_of_own own5, ?_⟩
              have hv := Vals.put (k := q) (A := A2) (c := c2) (r := Tr.can p) ((HVALS.out.next BW3.out).next BW5.out) (by rw [HSL.out]; exact hq) (by rw [HCL.out]; exact hc2) hc2m (((HPV.out.below BW3.out (Nat.le_refl _)).below BW5.out hW3).more (by have := BW5.out.size; omega))
              rw [HCL.out, ← HPUT.out] at hv
              exact hv
            clear own5 hgrow5 own4 hgrow4 BW4 HO4 own3 hgrow3
            go_wp2
            go_roundw
            case rel => exact ⟨q + 1, c5, g5, 0, by omega, rfl, GC, by go_num, GR.out, GB.out⟩
            case measure => simp [intOf]; omega
    · obtain rfl : k = P := by omega
      have HE : Hid (Tr.can t = outL (sortedTo t k).flatten) := by
        have := sortedTo_end HLV.out
        rw [HP.out] at this
        exact this
      have HSL : Hid ((sortedTo t k).length = k) := sortedTo_length t k (by rw [HP.out]; exact Nat.le_refl _)
      have HFL : Hid ((sortedTo t k).flatten.length + 1 = n) := by
        have h1 := (lv_can HLV.out).2
        rw [HE.out, outL_length, HL.out] at h1
        exact h1
      have HR2 := Lib.hid HR
      have HB2 := Lib.hid (HB1.out.trans (HB.mono hs1))
      have hwr : w.heap.size ≤ wr.heap.size := by omega
      clear HR HB
      obtain ⟨wo, hwo⟩ : ∃ wo, wo = wr := ⟨wr, rfl⟩
      subst hwo
      go_wp2_with fail
      go_loopw [9, 10] (fun v i W => ∃ (q g cap j : Nat), q ≤ k ∧ v = .slice (some ⟨g, 0, none⟩) j cap ∧ i = .int .i64 q ∧ Hid (j = ((sortedTo t k).take q).flatten.length + 1) ∧ Growing wo 2 g j cap (ints (outL ((sortedTo t k).take q).flatten)) W) (fun _ i _ => k - (intOf i).toNat)
      case atStart => exact ⟨0, wo.heap.size, 1, 1, Nat.zero_le _, rfl, rfl, rfl, World.ownsRow_lit (base := wo.heap.size) (size := 1) (e := 2) wo #[.int .i64 0] 1 (Nat.le_refl _) (by simp [maxLen]) rfl, (Below.refl _ _).alloc (Nat.le_refl _) _⟩
      case round =>
        obtain ⟨q, g, cp2, j, hq, rfl, rfl, HJ, HG⟩ := hrel
        have hsz := HG.2.size
        by_cases hlt2 : q < k
        · obtain ⟨r, hr⟩ := at_lt (show q < (sortedTo t k).length by rw [HSL.out]; exact hlt2)
          have hrl := sorted_lv HLV.out hr
          have hr8 : r.length ≤ 8 := (Tr.isLv_iff.1 hrl).2.1
          have HRT : Hid (((sortedTo t k).take (q + 1)).flatten = ((sortedTo t k).take q).flatten ++ r) := flat_take' hr
          have hfl : ((sortedTo t k).take q).flatten.length + r.length ≤ 8 := by
            have h1 := flat_le' (sortedTo t k) (q + 1)
            rw [HRT.out, List.length_append] at h1
            have := HFL.out; omega
          obtain ⟨F, hF⟩ : ∃ F, F = ((sortedTo t k).take q).flatten := ⟨_, rfl⟩
          rw [← hF] at HRT hfl HG HJ
          have HRL := Lib.hid hrl
          have HRR := Lib.hid hr
          have HFL2 := Lib.hid hfl
          have F0 : Hid (Growing wo 2 g j cp2 (ints (outL (F ++ r.take 0))) wr) := by
            rw [Hid, List.take_zero, List.append_nil]; exact HG
          have hj8 : j ≤ 9 := by have := HJ.out; omega
          have J0 : Hid (j = F.length + 0 + 1) := HJ
          clear hrl hr hF HG HJ hfl
          go_wp2_with fail
          go_loopw [9, 11] (fun v i W => ∃ (e g cap j : Nat), e ≤ r.length ∧ j ≤ 9 ∧ v = .slice (some ⟨g, 0, none⟩) j cap ∧ i = .int .i64 e ∧ Hid (j = F.length + e + 1) ∧ Growing wo 2 g j cap (ints (outL (F ++ r.take e))) W) (fun _ i _ => r.length - (intOf i).toNat)
          case atStart => exact ⟨0, g, cp2, j, Nat.zero_le _, hj8, rfl, rfl, J0, F0.out⟩
          case round =>
            obtain ⟨e, g, cp2, j, he, hj9, rfl, rfl, HJ, HG⟩ := hrel
            have hsz := HG.2.size
            have HR3 := (HR2.out.next HG.2).mat q r HRR.out
            obtain ⟨_, _, Ar, cr, e1, _, hcr, _, _, hrr⟩ := HR3
            cases e1
            by_cases hlt3 : e < r.length
            · obtain ⟨x, hx⟩ := at_lt hlt3
              obtain ⟨br, orr, rfl, _, hcx⟩ := hrr e _ (ints_at hx)
              obtain ⟨x0, x8⟩ := lv_el HRL.out hx
              have HXE : Hid (r.take (e + 1) = r.take e ++ [x]) := by rw [Hid, List.take_add_one, hx]; rfl
              have HG' := Lib.hid HG
              have hown := HG.1
              clear hx HG hrr
              go_wp2_with (at_builtin; refine wpList_append_lies _ rfl (.tmp 70) (.tmp 79) 25 rfl wo.heap.size 2 i0 _ 1 8 Tryz.underlying25 hi hz0 hz1 hz2 rfl (by omega) (.slice (some ⟨g, 0, none⟩) j cp2) j (ints (outL (F ++ r.take e))) rfl (hown.alloc _) ⟨wr.heap.size, 0, none⟩ 1 1 [.int .i64 (x + 1)] rfl rfl (World.news_of_block (cs := #[.int .i64 (x + 1)]) (heap_alloc_new _ _)) (by simp [Value.oneCell']) (by omega) (by simp only [maxLen]; omega) (by omega) (by simp; omega) (wr.heap.size + 1) (by simp) ?_; intro g4 cap4 w4 hown4 hgrow4 hat4 hlt4)
              rw [outL_push, List.append_assoc, ← HXE.out] at hown4
              have G := Lib.hid (HG'.out.step ((Below.refl _ _).alloc (Nat.le_refl _) _) hown4 hgrow4)
              clear hown4 hgrow4 hat4 hown
              go_wp2
              go_roundw
              case rel => exact ⟨e + 1, g4, cap4, j + 1, by omega, by have := HJ.out; have := HFL2.out; omega, rfl, by go_num, by have := HJ.out; rw [Hid]; omega, G.out⟩
              case measure => simp [intOf]; omega
            · obtain rfl : e = r.length := by omega
              have G : Hid (Growing wo 2 g j cp2 (ints (outL ((sortedTo t k).take (q + 1)).flatten)) wr) := by
                rw [Hid, HRT.out]
                rw [List.take_length] at HG
                exact HG
              have GJ : Hid (j = ((sortedTo t k).take (q + 1)).flatten.length + 1) := by
                have := HJ.out
                rw [Hid, HRT.out, List.length_append]; omega
              clear HG hrr HJ
              go_wp2
              go_roundw
              case rel => exact ⟨q + 1, g, cp2, j, by omega, rfl, by go_num, GJ, G.out⟩
              case measure => simp [intOf]; omega
        · obtain rfl : q = k := by omega
          rw [List.take_of_length_le (by rw [HSL.out]; exact Nat.le_refl _), ← HE.out] at HG
          have e : j = n := by
            have h1 := HJ.out
            rw [List.take_of_length_le (by rw [HSL.out]; exact Nat.le_refl _)] at h1
            have := HFL.out; omega
          subst e
          have G : Hid (NewRow 2 j (ints (Tr.can t)) w (.returned (.slice (some ⟨g, 0, none⟩) j cp2)) wr) := ⟨_, _, rfl, ((OwnR.of HG.1).more hwr (Nat.le_refl _)).1, HB2.out.trans (HG.2.mono hwr)⟩
          clear HG HJ
          go_wp2
          go_ret
          exact G.out
theorem sCan_upto : ∀ d, SCan d
  | 0 => fun A n c B t w hl hd hlv => by have := (Tr.isLv_iff.1 hlv).1; omega
  | d+1 => sCan_succ d (sCan_upto d)
theorem l03Canon_any (A : Option Addr) (n c B : Nat) (t : List Int) (w : World) (hl : t.length = n) (hlv : Tr.isLv t = true) (hB : B ≤ w.heap.size) (h : Row w B A (ints t)) :
    Calls Tryz.prog 142 #[.slice A n c] w (NewRow 2 n (ints (Tr.can t)) w) := sCan_upto n A n c B t w hl (Nat.le_refl _) hlv hB h
end Go.Proofs.YtpngohklicgbjaaGreat
/-
  Trees: the model's test and its canonical lists, beside the program's.
-/
namespace Go.Proofs.YtpngohklicgbjaaGreat
open Go.RowKit Fld
set_option linter.unusedVariables false
set_option linter.unusedSimpArgs false
set_option maxRecDepth 100000

end Go.Proofs.YtpngohklicgbjaaGreat
/-
  All trees with so many nodes, the model's.
-/
namespace Go.Proofs.YtpngohklicgbjaaGreat
open Go.RowKit Fld
set_option linter.unusedVariables false
set_option linter.unusedSimpArgs false
set_option maxRecDepth 100000

theorem lv_last {t : List Int} (h : Tr.isLv t = true) : 0 ≤ t.getD (t.length - 1) 0 ∧ t.getD (t.length - 1) 0 ≤ (t.length : Int) - 1 := by
  have h1 := Tr.isLv_iff.1 h
  have h2 := StepsTo.bd (t := t) (n := t.length) (k := t.length - 1) h1.2.2.2 h1.2.2.1 (by have := h1.1; omega) rfl
  have := h1.1
  omega
theorem lv_push {t : List Int} {x : Int} (h : Tr.isLv t = true) (hl : t.length + 1 ≤ 8) (h1 : 1 ≤ x) (h2 : x ≤ t.getD (t.length - 1) 0 + 1) : Tr.isLv (t ++ [x]) = true := by
  have h3 := Tr.isLv_iff.1 h
  have hlt := h3.1
  have hg : ∀ i, i < t.length → (t ++ [x]).getD i 0 = t.getD i 0 := fun i hi => by
    rw [List.getD_eq_getElem?_getD, List.getElem?_append_left hi, ← List.getD_eq_getElem?_getD]
  have hx : (t ++ [x]).getD t.length 0 = x := by
    rw [List.getD_eq_getElem?_getD, List.getElem?_append_right (Nat.le_refl _), Nat.sub_self]; rfl
  refine Tr.isLv_iff.2 ⟨by simp, by simp; omega, by rw [hg 0 hlt]; exact h3.2.2.1, fun i hi h1' => ?_⟩
  rw [List.length_append, List.length_singleton] at hi
  by_cases e : i = t.length
  · subst e
    rw [hx, hg (t.length - 1) (by omega)]
    exact ⟨h1, h2⟩
  · rw [hg i (by omega), hg (i - 1) (by omega)]
    exact h3.2.2.2 i (by omega) h1'
def growTo (f : Nat) (t : List Int) (m : List (List Int)) (k : Nat) : List (List Int) := (List.range k).foldl (fun (o : List (List Int)) (j : Nat) => Tr.growF f (t ++ [t.getD (t.length - 1) 0 + 1 - (j : Int)]) o) m
theorem growTo_step (f : Nat) (t : List Int) (m : List (List Int)) (k : Nat) : growTo f t m (k + 1) = Tr.growF f (t ++ [t.getD (t.length - 1) 0 + 1 - (k : Int)]) (growTo f t m k) := by
  unfold growTo; rw [List.range_succ, List.foldl_append]; rfl
theorem growF_succ (f : Nat) (t : List Int) (m : List (List Int)) : Tr.growF (f + 1) t m = growTo f t m (t.getD (t.length - 1) 0 + 1).toNat := rfl
theorem grow_len : ∀ (f : Nat) (t : List Int) (m : List (List Int)), Tr.isLv t = true → t.length + f ≤ 8 → (Tr.growF f t m).length ≤ m.length + 9 ^ f
  | 0, t, m, _, _ => by
    rw [Tr.growF]; split
    · simp
    · simp
  | f+1, t, m, h, hl => by
    rw [growF_succ]
    have hb := lv_last h
    have key : ∀ k : Nat, (k : Int) ≤ t.getD (t.length - 1) 0 + 1 → (growTo f t m k).length ≤ m.length + k * 9 ^ f := by
      intro k
      induction k with
      | zero => intro _; simp [growTo]
      | succ k ih =>
        intro hk
        rw [growTo_step]
        have h1 := grow_len f (t ++ [t.getD (t.length - 1) 0 + 1 - (k : Int)]) (growTo f t m k) (lv_push h (by omega) (by omega) (by omega)) (by rw [List.length_append]; simp; omega)
        have h2 := ih (by omega)
        have e : (k + 1) * 9 ^ f = k * 9 ^ f + 9 ^ f := by rw [Nat.add_mul, Nat.one_mul]
        omega
    have h1 := key (t.getD (t.length - 1) 0 + 1).toNat (by omega)
    have h2 : (t.getD (t.length - 1) 0 + 1).toNat ≤ 9 := by omega
    have h3 : (t.getD (t.length - 1) 0 + 1).toNat * 9 ^ f ≤ 9 * 9 ^ f := Nat.mul_le_mul_right _ h2
    have e : 9 ^ (f + 1) = 9 * 9 ^ f := by rw [Nat.pow_succ, Nat.mul_comm]
    omega
/-- what was there stands, but for a row that grows -/
theorem grown_chain {a b c : World} {r r' : Option Nat} (h : a.grownBy b r) (k : b.grownBy c r') (hr : r' = r ∨ ∃ g, r' = some g ∧ a.heap.size ≤ g) : a.grownBy c r :=
  ⟨k.os.trans h.os, k.tape.trans h.tape, k.output.trans h.output, Nat.le_trans h.size k.size, fun i hi hne => by
    rw [k.block i (Nat.lt_of_lt_of_le hi h.size) (fun e => by
      rcases hr with hr | ⟨g, hr, hg⟩
      · exact hne (by rw [e, hr])
      · rw [hr] at e; injection e with e; omega)]
    exact h.block i hi hne⟩
theorem below_grown {a b : World} (h : Below a.heap.size a b) : a.grownBy b none := ⟨h.os, h.tape, h.output, h.size, fun i hi _ => h.block i hi⟩
theorem grown_any {a b : World} {r : Option Nat} (h : a.grownBy b none) : a.grownBy b r := ⟨h.os, h.tape, h.output, h.size, fun i hi _ => h.block i hi (by simp)⟩
/-- what l03Grow hands back -/
def Grown (lo : Nat) (v : Value) (m' : List (List Int)) (w : World) (e : Ending) (w' : World) : Prop :=
  ∃ A q c vs, e = .returned (.slice A q c) ∧ OwnMat w' lo w'.heap.size (.slice A q c) q m' vs ∧ w.grownBy w' v.ownBlock ∧ (Value.ownBlock (.slice A q c) = v.ownBlock ∨ ∃ g, Value.ownBlock (.slice A q c) = some g ∧ w.heap.size ≤ g)
def SGrow (f : Nat) : Prop := ∀ (At A : Option Addr) (ct q c n lo lot : Nat) (t : List Int) (m : List (List Int)) (vs : List Value) (w : World), t.length + f = n → n ≤ 8 → Tr.isLv t = true → q + 9 ^ f ≤ 100000000 → lo ≤ w.heap.size →
    w.ownsRow lot 2 1 (.slice At t.length ct) t.length (ints t) → OwnMat w lo w.heap.size (.slice A q c) q m vs →
    Calls Tryz.prog 121 #[.slice At t.length ct, .int .i64 n, .slice A q c] w (Grown lo (.slice A q c) (Tr.growF f t m) w)
set_option maxHeartbeats 1000000 in
theorem sGrow_zero : SGrow 0 := by
  obtain ⟨j0, hj, hy0, hy1, hy2⟩ := info_parts info_row
  intro At A ct q c n lo lot t m vs w hn hn8 hlv hq hlo ht hm
  have hnt : t.length = n := by omega
  obtain ⟨e1, e2⟩ := lv_can hlv
  have HE : Hid ((Tr.can t).length = n) := by rw [Hid, e2, hnt]
  have HT := Lib.hid ht
  have HM := Lib.hid hm
  have HLV := Lib.hid hlv
  have HN := Lib.hid hnt
  have h1 : 1 ≤ n := by have := (Tr.isLv_iff.1 hlv).1; omega
  have hq' : q ≤ 100000000 := by omega
  rw [hnt] at ht HT ⊢
  obtain ⟨gt, capt, hvt⟩ := own_form ht (by omega)
  injection hvt with hA _ hcap
  subst hA hcap
  clear hn hlv hq e1 e2 hnt hm
  go_enter Tryz.func121, Tryz.ntmps121
  go_wp2_with fail
  refine (l03Canon_any _ n ct w.heap.size t _ HN.out HLV.out (Nat.le_refl _) (row_of_own ht)).mono ?_
  rintro e w1 ⟨A1, c1, rfl, own1, bel1⟩
  have hs1 := bel1.size
  have HB1 := Lib.hid bel1
  have HT1 := Lib.hid ((OwnR.of HT.out).below bel1 (Nat.le_refl _))
  have C1 := l01Same_any A1 _ n n c1 ct _ _ (Tr.can t) t w1 HE.out HN.out (by omega) (by omega) (row_of_own own1) HT1.out.row
  clear own1 bel1 ht
  by_cases hct : Tr.can t = t
  · have G : Hid (Tr.growF 0 t m = m ++ [t]) := by rw [Hid, Tr.growF, if_pos hct]
    rw [hct, eqL_self] at C1
    clear hct
    go_wp2_with fail
    refine C1.mono ?_
    rintro e w2 ⟨rfl, m2, rfl⟩
    go_wp2_with fail
    refine (l01Own_any ⟨gt, 0, none⟩ n ct w1.heap.size t _ HN.out (by omega) (by show w1.heap.size ≤ w1.heap.size; omega) ((HT1.out.row.more hs1).drewN m2)).mono ?_
    rintro e w3 ⟨A3, c3, rfl, own3, bel3⟩
    have hs3 : w1.heap.size ≤ w3.heap.size := bel3.size
    have HM3 := Lib.hid ((((HM.out.below HB1.out (Nat.le_refl _)).more (Nat.le_refl _) hs1).drewN m2).below bel3 (Nat.le_refl _))
    have HB3 : Hid (Below w.heap.size w w3) := (below_drewN HB1.out m2).trans (bel3.mono (by show w.heap.size ≤ w1.heap.size; exact hs1))
    have HO3 : Hid (w3.ownsRow w1.heap.size 2 1 (.slice A3 n c3) n (ints t)) := own3
    have hownO := HM3.out.outer.1
    clear own3 bel3
    go_wp2_with (at_builtin; refine wpList_append_lies _ rfl (.tmp 16) (.tmp 19) 24 rfl lo 25 j0 _ 1 24 Tryz.underlying24 hj hy0 hy1 hy2 rfl (by omega) (.slice A q c) q vs rfl (hownO.alloc _) ⟨w3.heap.size, 0, none⟩ 1 1 [.slice A3 n c3] rfl rfl (World.news_of_block (cs := #[.slice A3 n c3]) (heap_alloc_new _ _)) (by simp [Value.oneCell']) (by omega) (by simp only [maxLen]; omega) (by omega) (by simp; omega) (w3.heap.size + 1) (by simp) ?_; intro g5 cap5 w5 hown5 hgrow5 hat5 hlt5)
    have hs5 : w3.heap.size ≤ w5.heap.size := by have := hgrow5.size; simp at this; omega
    have GG : Hid (Grown lo (.slice A q c) (Tr.growF 0 t m) w (.returned (.slice (some ⟨g5, 0, none⟩) (q + 1) cap5)) w5) := by
      rw [Hid, G.out]
      refine ⟨_, _, _, _, rfl, HM3.out.push (row := t) hs3 HN.out HO3.out (by omega) hown5 hgrow5, ?_, ?_⟩
      · have h1 : w.grownBy (w3.alloc (.cells #[.slice A3 n c3] 25)) none := below_grown (HB3.out.alloc (by omega) _)
        exact grown_chain (grown_any h1) hgrow5 (.inl rfl)
      · rcases hat5 with e | e
        · exact .inl e.symm
        · exact .inr ⟨g5, rfl, by omega⟩
    clear hown5 hgrow5 hat5 hownO
    go_wp2
    go_ret
    exact GG.out
  · have G : Hid (Tr.growF 0 t m = m) := by rw [Hid, Tr.growF, if_neg hct]
    have e : eqL (Tr.can t) t = false := by unfold eqL; exact decide_eq_false hct
    rw [e] at C1
    clear hct e
    go_wp2_with fail
    refine C1.mono ?_
    rintro e w2 ⟨rfl, m2, rfl⟩
    have GG : Hid (Grown lo (.slice A q c) (Tr.growF 0 t m) w (.returned (.slice A q c)) (w1.drewN m2)) := by
      rw [Hid, G.out]
      exact ⟨A, q, c, vs, rfl, ((HM.out.below HB1.out (Nat.le_refl _)).drewN m2).more (Nat.le_refl _) hs1, grown_any (below_grown (below_drewN HB1.out m2)), .inl rfl⟩
    go_wp2
    go_ret
    exact GG.out
set_option maxHeartbeats 2000000 in
theorem sGrow_succ (f : Nat) (IH : SGrow f) : SGrow (f + 1) := by
  obtain ⟨i0, hi, hz0, hz1, hz2⟩ := info_parts info_i64
  intro At A ct q c n lo lot t m vs w hn hn8 hlv hq hlo ht hm
  obtain ⟨nt, hnt⟩ : ∃ nt, nt = t.length := ⟨_, rfl⟩
  have h1 : 1 ≤ nt := by have := (Tr.isLv_iff.1 hlv).1; omega
  have HNT : Hid (t.length = nt) := hnt.symm
  rw [← hnt] at ht ⊢
  obtain ⟨gt, capt, hvt⟩ := own_form ht (by omega)
  injection hvt with hA _ hcap
  subst hA hcap
  obtain ⟨L, hL⟩ : ∃ L, L = t.getD (t.length - 1) 0 := ⟨_, rfl⟩
  have hLb := lv_last hlv
  rw [← hL, ← hnt] at hLb
  have hLc := ht.cellAt (nt - 1) (by omega)
  have hLx : t[nt - 1]? = some L := by
    obtain ⟨x, hx⟩ := at_lt (show nt - 1 < t.length by omega)
    rw [hx, hL, ← hnt, lv_at hx]
  rw [ints_at hLx] at hLc
  have hnlt : nt < n := by omega
  have HFN : Hid (nt + (f + 1) = n) := by rw [Hid, hnt]; exact hn
  have HT : Hid (OwnR w lot w.heap.size 2 (.slice (some ⟨gt, 0, none⟩) nt ct) nt (ints t)) := OwnR.of ht
  have HM := Lib.hid hm
  have HLV := Lib.hid hlv
  have HLL : Hid (t.getD (t.length - 1) 0 = L) := hL.symm
  have HG : Hid (Tr.growF (f + 1) t m = growTo f t m (L + 1).toNat) := by rw [Hid, growF_succ, ← hL]
  have hpow : 9 ^ (f + 1) = 9 * 9 ^ f := by rw [Nat.pow_succ, Nat.mul_comm]
  have HQ : Hid (q + 9 * 9 ^ f ≤ 100000000) := by rw [Hid, ← hpow]; exact hq
  have HML : Hid (m.length = q) := hm.size
  have tn := beq_f (show ¬ (nt : Int) = (n : Int) by omega)
  clear hn hlv hq hpow hL hLx ht hm hnt
  go_enter Tryz.func121, Tryz.ntmps121
  go_wp2_with fail
  go_loopw [2, 7] (fun v l wr => ∃ (k q' c' : Nat) (A' : Option Addr) (vs' : List Value), v = .slice A' q' c' ∧ l = .int .i64 (L + 1 - (k : Int)) ∧ (k : Int) ≤ L + 1 ∧ Hid (q' ≤ q + k * 9 ^ f) ∧ Hid (OwnMat wr lo wr.heap.size (.slice A' q' c') q' (growTo f t m k) vs') ∧ Hid (w.grownBy wr (Value.ownBlock (.slice A q c))) ∧ Hid (Value.ownBlock (.slice A' q' c') = Value.ownBlock (.slice A q c) ∨ ∃ g, Value.ownBlock (.slice A' q' c') = some g ∧ w.heap.size ≤ g) ∧ w.heap.size ≤ wr.heap.size) (fun _ l _ => (intOf l).toNat)
  case atStart => exact ⟨0, q, c, A, vs, rfl, by simp, by omega, by rw [Hid]; omega, HM.out, World.grownBy.refl _ _, .inl rfl, Nat.le_refl _⟩
  case round =>
    obtain ⟨k, q', c', A', vs', rfl, rfl, hk, HQ', HM', HGR, HOB, hsz⟩ := hrel
    by_cases hlt : (k : Int) < L + 1
    · have hlev : 1 ≤ L + 1 - (k : Int) := by omega
      obtain ⟨lev, hlv2⟩ : ∃ lev, lev = L + 1 - (k : Int) := ⟨_, rfl⟩
      have hl1 : 1 ≤ lev := by omega
      have hl8 : lev ≤ 9 := by omega
      have HS : Hid (growTo f t m (k + 1) = Tr.growF f (t ++ [lev]) (growTo f t m k)) := by rw [Hid, growTo_step, HLL.out, hlv2]
      have HPL : Hid (Tr.isLv (t ++ [lev]) = true) := lv_push HLV.out (by have := HNT.out; have := HFN.out; omega) hl1 (by rw [HLL.out]; omega)
      have HT' := Lib.hid (HT.out.grown HGR.out (own_types HT.out.1 HM.out.outer.1 (by decide)))
      have hk9 : k + 1 ≤ 9 := by omega
      have HQ2 : Hid (q' + 9 ^ f ≤ 100000000) := by
        have h2 := HQ'.out
        have h3 := HQ.out
        have h4 : (k + 1) * 9 ^ f ≤ 9 * 9 ^ f := Nat.mul_le_mul_right _ hk9
        rw [Nat.add_mul, Nat.one_mul] at h4
        rw [Hid]; omega
      have hrng : L + 1 - (k : Int) = lev := hlv2.symm
      rw [hrng]
      have hlm : lev - 1 = L + 1 - ((k + 1 : Nat) : Int) := by omega
      have HLM := Lib.hid hlm
      clear hrng hlm hlv2
      go_wp2_with fail
      refine (l01Own_any ⟨gt, 0, none⟩ nt ct w.heap.size t _ HNT.out (by omega) hsz HT'.out.row).mono ?_
      rintro e w1 ⟨A1, c1, rfl, own1, bel1⟩
      have hs1 := bel1.size
      have HB1 := Lib.hid bel1
      have HO1 := Lib.hid own1
      clear bel1
      go_wp2_with (at_builtin; refine wpList_append_lies _ rfl (.tmp 34) (.tmp 36) 25 rfl wr.heap.size 2 i0 _ 1 8 Tryz.underlying25 hi hz0 hz1 hz2 rfl (by omega) (.slice A1 nt c1) nt (ints t) rfl (own1.alloc _) ⟨w1.heap.size, 0, none⟩ 1 1 [.int .i64 lev] rfl rfl (World.news_of_block (cs := #[.int .i64 lev]) (heap_alloc_new _ _)) (by simp [Value.oneCell']) (by omega) (by simp only [maxLen]; omega) (by omega) (by simp; omega) (w1.heap.size + 1) (by simp) ?_; intro g2 c2 w2 hown2 hgrow2 hat2 hlt2)
      have BW2 : Hid (Below wr.heap.size wr w2) := (HB1.out.alloc hs1 _).grown hgrow2 (by simp; omega) (fun q hq => (HO1.out.lt q hq).1)
      have hs2 : wr.heap.size ≤ w2.heap.size := BW2.out.size
      have HLN : Hid ((t ++ [lev]).length = nt + 1) := by rw [Hid, List.length_append, HNT.out]; rfl
      have HM2 : Hid (OwnMat w2 lo w2.heap.size (.slice A' q' c') q' (growTo f t m k) vs') := (HM'.out.below BW2.out (Nat.le_refl _)).more (Nat.le_refl _) hs2
      have C1 := IH (some ⟨g2, 0, none⟩) A' c2 q' c' n lo wr.heap.size (t ++ [lev]) (growTo f t m k) vs' w2 (by rw [HLN.out]; have := HFN.out; omega) hn8 HPL.out HQ2.out (by omega) (by
        have e : ints t ++ [.int .i64 lev] = ints (t ++ [lev]) := by simp [ints, intsK]
        rw [e] at hown2
        rw [HLN.out]; exact hown2) HM2.out
      rw [HLN.out, ← HS.out] at C1
      clear hown2 hgrow2 hat2 own1
      go_wp2_with fail
      refine C1.mono ?_
      rintro e w3 ⟨A3, q3, c3, vs3, rfl, hm3, hg3, hb3⟩
      have HM3 := Lib.hid hm3
      have hs3 : w2.heap.size ≤ w3.heap.size := hg3.size
      have HGR3 : Hid (w.grownBy w3 (Value.ownBlock (.slice A q c))) := grown_chain (grown_chain HGR.out (grown_any (below_grown BW2.out)) (.inl rfl)) hg3 HOB.out
      have HOB3 : Hid (Value.ownBlock (.slice A3 q3 c3) = Value.ownBlock (.slice A q c) ∨ ∃ g, Value.ownBlock (.slice A3 q3 c3) = some g ∧ w.heap.size ≤ g) := by
        rcases hb3 with hb3 | ⟨g, hb3, hg⟩
        · rw [Hid, hb3]; exact HOB.out
        · exact .inr ⟨g, hb3, by omega⟩
      have HQ3 : Hid (q3 ≤ q + (k + 1) * 9 ^ f) := by
        have h1 := HM3.out.size
        rw [HS.out] at h1
        have h2 := grow_len f (t ++ [lev]) (growTo f t m k) HPL.out (by rw [HLN.out]; have := HFN.out; omega)
        have h3 := HM'.out.size
        have h4 := HQ'.out
        rw [Hid, Nat.add_mul, Nat.one_mul]; omega
      clear hm3 hg3 hb3 C1
      go_wp2
      go_roundw
      case rel => exact ⟨k + 1, q3, c3, A3, vs3, rfl, by rw [← HLM.out], by omega, HQ3, HM3, HGR3, HOB3, by omega⟩
      case measure => simp [intOf]; omega
    · have hk2 : (k : Int) = L + 1 := by omega
      have G : Hid (Grown lo (.slice A q c) (Tr.growF (f + 1) t m) w (.returned (.slice A' q' c')) wr) := by
        rw [Hid, HG.out, show (L + 1).toNat = k from by omega]
        exact ⟨A', q', c', vs', rfl, HM'.out, HGR.out, HOB.out⟩
      have e0 : L + 1 - (k : Int) = 0 := by omega
      rw [e0]
      clear hk2 e0
      go_wp2
      go_ret
      exact G.out
theorem sGrow_all : ∀ f, SGrow f
  | 0 => sGrow_zero
  | f+1 => sGrow_succ f (sGrow_all f)
theorem l03Trees_any (n : Nat) (w : World) (h1 : 1 ≤ n) (h8 : n ≤ 8) : Calls Tryz.prog 97 #[.int .i64 n] w (NewMat (Tr.treesL n).length (Tr.treesL n) w) := by
  have own1 := World.ownsRow_lit (base := w.heap.size) (size := 1) (e := 2) w #[.int .i64 0] 1 (Nat.le_refl _) (by simp [maxLen]) rfl
  have C1 := sGrow_all (n - 1) (some ⟨w.heap.size, 0, none⟩) none 1 0 0 n w.heap.size w.heap.size [0] [] [] (w.alloc (.cells #[.int .i64 0] 2)) (by simp; omega) h8 (by decide) (by
    have : n - 1 ≤ 7 := by omega
    have h2 : 9 ^ (n - 1) ≤ 9 ^ 7 := Nat.pow_le_pow_right (by omega) this
    omega) (by simp) own1 ⟨⟨World.ownsRow_nil _ _ _ _, fun g e => by simp [Value.ownBlock] at e⟩, rfl, fun r row hr => by simp at hr, fun r s u t g _ hu => by simp at hu⟩
  rw [grow_trees h1 h8] at C1
  go_enter Tryz.func97, Tryz.ntmps97
  go_wp2_with fail
  refine C1.mono ?_
  rintro e w3 ⟨A3, q3, c3, vs3, rfl, hm3, hg3, hb3⟩
  have e1 : (Tr.treesL n).length = q3 := hm3.size
  have G : Hid (NewMat (Tr.treesL n).length (Tr.treesL n) w (.returned (.slice A3 q3 c3)) w3) := by
    rw [Hid, e1]
    refine ⟨A3, c3, vs3, rfl, hm3, ?_⟩
    exact ((Below.refl _ _).alloc (Nat.le_refl _) _).grown hg3 (by simp) (fun b hb => by simp [Value.ownBlock] at hb)
  clear hm3 hg3 hb3 C1 e1
  go_wp2
  go_ret
  exact G.out
end Go.Proofs.YtpngohklicgbjaaGreat
/-
  A list of lists beside a code, as calls hand it back.
-/
namespace Go.Proofs.YtpngohklicgbjaaGreat
open Go.RowKit Fld
set_option linter.unusedVariables false
set_option linter.unusedSimpArgs false
set_option maxRecDepth 100000

/-- a list of lists that the call owns, beside a code -/
def ResM (r : List (List Int) × Int) (w : World) (e : Ending) (w' : World) : Prop :=
  r.1.length + total r.1 ≤ 1048576 ∧ ∃ A c vs, e = .returned (.tuple #[.slice A r.1.length c, .int .i64 r.2]) ∧ OwnMat w' w.heap.size w'.heap.size (.slice A r.1.length c) r.1.length r.1 vs ∧ Below w.heap.size w w'
theorem OwnMat.nil' (w : World) (lo hi : Nat) : OwnMat w lo hi (.slice none 0 0) 0 [] [] :=
  ⟨⟨World.ownsRow_nil _ _ _ _, fun g e => by simp [Value.ownBlock] at e⟩, rfl, fun r row hr => by simp at hr, fun r s u t g _ hu => by simp at hu⟩
theorem ResM.nil {r : List (List Int) × Int} {w w' : World} {k : Int} (h : r = ([], k)) (hb : Below w.heap.size w w') : ResM r w (.returned (.tuple #[.slice none 0 0, .int .i64 k])) w' := by
  subst h
  exact ⟨by simp [total], none, 0, [], rfl, OwnMat.nil' _ _ _, hb⟩
theorem ResM.of {r : List (List Int) × Int} {w w' : World} {A : Option Addr} {n c : Nat} {m : List (List Int)} {vs : List Value} {k : Int} (h : r = (m, k)) (hn : m.length + total m ≤ 1048576)
    (ho : OwnMat w' w.heap.size w'.heap.size (.slice A n c) n m vs) (hb : Below w.heap.size w w') : ResM r w (.returned (.tuple #[.slice A n c, .int .i64 k])) w' := by
  subst h
  have e := ho.size
  subst e
  exact ⟨hn, A, c, vs, rfl, ho, hb⟩
/-- lists in memory below a bound: the model's -/
def LowMat (w : World) (hi : Nat) (A : Option Addr) (m : List (List Int)) : Prop := Mat w hi A m
theorem LowMat.below {w w' : World} {hi B : Nat} {A : Option Addr} {m : List (List Int)} (h : LowMat w hi A m) (hb : Below B w w') (hB : hi ≤ B) : LowMat w' hi A m := Mat.below h hb hB
theorem LowMat.within {w w' : World} {hi lo' hi' : Nat} {A : Option Addr} {m : List (List Int)} (h : LowMat w hi A m) (hb : Within lo' hi' w w') (hs : hi ≤ w.heap.size) (hd : hi ≤ lo') : LowMat w' hi A m :=
  Mat.keep h fun b o hbb => World.cell?_of_block (hb.block b (by omega) (by omega))
theorem LowMat.mat {w : World} {hi : Nat} {A : Option Addr} {m : List (List Int)} (h : LowMat w hi A m) : Mat w hi A m := h
theorem LowMat.drewN {w : World} {hi : Nat} {A : Option Addr} {m : List (List Int)} (h : LowMat w hi A m) (k : Nat) : LowMat (w.drewN k) hi A m := h
def ResMl (r : List (List Int) × Int) (w : World) (e : Ending) (w' : World) : Prop :=
  r.1.length + total r.1 ≤ 1048576 ∧ ∃ A c, e = .returned (.tuple #[.slice A r.1.length c, .int .i64 r.2]) ∧ LowMat w' w'.heap.size A r.1 ∧ Below w.heap.size w w'
theorem ResMl.nil {r : List (List Int) × Int} {w w' : World} {k : Int} (h : r = ([], k)) (hb : Below w.heap.size w w') : ResMl r w (.returned (.tuple #[.slice none 0 0, .int .i64 k])) w' := by
  subst h
  exact ⟨by simp [total], none, 0, rfl, fun k r hr => by simp at hr, hb⟩
theorem ResMl.of {r : List (List Int) × Int} {w w' : World} {A : Option Addr} {n c : Nat} {m : List (List Int)} {k : Int} (h : r = (m, k)) (hl : m.length = n) (hn : m.length + total m ≤ 1048576)
    (ho : Mat w' w'.heap.size A m) (hb : Below w.heap.size w w') : ResMl r w (.returned (.tuple #[.slice A n c, .int .i64 k])) w' := by
  subst h hl
  exact ⟨hn, A, c, rfl, ho, hb⟩
end Go.Proofs.YtpngohklicgbjaaGreat
/-
  What TreesOf answers, the program's and the model's.
-/
namespace Go.Proofs.YtpngohklicgbjaaGreat
open Go.RowKit Fld
set_option linter.unusedVariables false
set_option linter.unusedSimpArgs false
set_option maxRecDepth 100000

theorem total_bd {q : Nat} : ∀ {m : List (List Int)}, (∀ t ∈ m, t.length ≤ q) → total m ≤ m.length * q
  | [], _ => by simp [total]
  | x :: r, h => by
    have h1 := h x (by simp)
    have h2 := total_bd (fun t ht => h t (by simp [ht]) : ∀ t ∈ r, t.length ≤ q)
    have e : total (x :: r) = x.length + total r := by simp [total]
    rw [e, List.length_cons, Nat.add_mul, Nat.one_mul]; omega
theorem trees_total {n : Nat} (h1 : 1 ≤ n) (h8 : n ≤ 8) : (Tr.treesL n).length + total (Tr.treesL n) ≤ 1048576 := by
  obtain ⟨ha, hl⟩ := trees_all h1 h8
  have := total_bd (q := 8) (m := Tr.treesL n) (fun t ht => by rw [(ha t ht).2]; exact h8)
  omega
def treesOfA (a : Int) : List (List Int) × Int := if 1 ≤ a ∧ a ≤ 8 then (Tr.treesL a.toNat, 0) else ([], 2)
theorem treesOfA_yes {n : Nat} (h1 : 1 ≤ n) (h8 : n ≤ 8) : treesOfA (n : Int) = (Tr.treesL n, 0) := by
  unfold treesOfA; rw [if_pos (by omega)]; rfl
theorem treesOfA_no {a : Int} (h : ¬ (1 ≤ a ∧ a ≤ 8)) : treesOfA a = ([], 2) := if_neg h
theorem pTreesOf_L (a : Int) (w : World) (ha : -9223372036854775808 ≤ a ∧ a ≤ 9223372036854775807) : Calls Tryz.prog 19 #[.int .i64 a] w (ResM (treesOfA a) w) := by
  by_cases h : 1 ≤ a ∧ a ≤ 8
  · obtain ⟨n, rfl⟩ : ∃ n : Nat, a = (n : Int) := ⟨a.toNat, by omega⟩
    have h1 : 1 ≤ n := by omega
    have h8 : n ≤ 8 := by omega
    have G := Lib.hid (treesOfA_yes h1 h8)
    clear h ha
    go_enter Tryz.func19, Tryz.ntmps19
    go_wp2_with fail
    refine (treesWith_any n _ h1 h8).mono ?_
    rintro e w1 ⟨A1, c1, vs1, rfl, own1, bel1⟩
    have HO := Lib.hid own1
    have HB := Lib.hid bel1
    have HT := Lib.hid (trees_total h1 h8)
    clear own1 bel1
    go_wp2
    go_ret2
    exact ResM.of G.out HT.out HO.out HB.out
  · have G := Lib.hid (treesOfA_no h)
    by_cases h1 : a < 1
    · clear h
      go_enter Tryz.func19, Tryz.ntmps19
      go_wp2
      go_ret2
      exact ResM.nil G.out (Below.refl _ _)
    · have h8 : 8 < a := by omega
      clear h
      go_enter Tryz.func19, Tryz.ntmps19
      go_wp2
      go_ret2
      exact ResM.nil G.out (Below.refl _ _)
end Go.Proofs.YtpngohklicgbjaaGreat
/-
  The list of all trees; what TreeAt answers, the program's and the model's.
-/
namespace Go.Proofs.YtpngohklicgbjaaGreat
open Go.RowKit Fld
set_option linter.unusedVariables false
set_option linter.unusedSimpArgs false
set_option maxRecDepth 100000

/-- rows are added behind the last one -/
theorem OwnMat.pushAll {w w2 : World} {lo hi n n' g cap c' : Nat} {v : Value} {A' : Option Addr} {m m' : List (List Int)} {vs vs' : List Value} (h : OwnMat w lo hi v n m vs) (hs : hi ≤ w.heap.size) (h' : OwnMat w hi w.heap.size (.slice A' n' c') n' m' vs') (hl : lo ≤ hi)
    (h2 : w2.ownsRow lo 25 1 (.slice (some ⟨g, 0, none⟩) (n + n') cap) (n + n') (vs ++ vs')) (hg : w.grownBy w2 v.ownBlock) : OwnMat w2 lo w2.heap.size (.slice (some ⟨g, 0, none⟩) (n + n') cap) (n + n') (m ++ m') (vs ++ vs') := by
  have hz : w.heap.size ≤ w2.heap.size := hg.size
  have carry : ∀ (lo' hi' : Nat) (A2 : Option Addr) (c2 : Nat) (r2 : List Int), OwnR w lo' hi' 2 (.slice A2 r2.length c2) r2.length (ints r2) → OwnR w2 lo' hi' 2 (.slice A2 r2.length c2) r2.length (ints r2) := fun lo' hi' A2 c2 r2 o2 => o2.grown hg (own_types o2.1 h.outer.1 (by decide))
  have side : ∀ (r : Nat) (u : Value) (g' : Nat), (vs ++ vs')[r]? = some u → u.ownBlock = some g' → (r < vs.length ∧ vs[r]? = some u ∧ g' < hi) ∨ (vs.length ≤ r ∧ vs'[r - vs.length]? = some u ∧ hi ≤ g') := by
    intro r u g' hu hb
    rcases Nat.lt_or_ge r vs.length with x | x
    · rw [List.getElem?_append_left x] at hu
      obtain ⟨A2, c2, e2, o2⟩ := h.inner r _ (List.getElem?_eq_getElem (by rw [← h.len]; exact x))
      rw [hu] at e2
      injection e2 with e2
      subst e2
      exact .inl ⟨x, hu, o2.2 g' hb⟩
    · rw [List.getElem?_append_right x] at hu
      have hx : r - vs.length < vs'.length := by
        rcases Nat.lt_or_ge (r - vs.length) vs'.length with y | y
        · exact y
        · rw [List.getElem?_eq_none y] at hu; cases hu
      obtain ⟨A2, c2, e2, o2⟩ := h'.inner _ _ (List.getElem?_eq_getElem (by rw [← h'.len]; exact hx))
      have hu0 := hu
      rw [hu] at e2
      injection e2 with e2
      subst e2
      exact .inr ⟨x, hu0, (o2.1.lt g' hb).1⟩
  refine ⟨OwnR.of h2, by simp [h.len, h'.len], ?_, ?_⟩
  · intro r row hr
    rcases Nat.lt_or_ge r m.length with x | x
    · rw [List.getElem?_append_left x] at hr
      obtain ⟨A2, c2, e2, o2⟩ := h.inner r row hr
      exact ⟨A2, c2, by rw [List.getElem?_append_left (by rw [h.len]; exact x)]; exact e2, (carry _ _ _ _ _ o2).more (Nat.le_refl _) (by omega)⟩
    · rw [List.getElem?_append_right x] at hr
      obtain ⟨A2, c2, e2, o2⟩ := h'.inner _ row hr
      exact ⟨A2, c2, by rw [List.getElem?_append_right (by rw [h.len]; exact x), h.len]; exact e2, (carry _ _ _ _ _ o2).more hl hz⟩
  · intro r s u t g' hne hu ht hb hb'
    rcases side r u g' hu hb with ⟨a1, a2, a3⟩ | ⟨a1, a2, a3⟩ <;> rcases side s t g' ht hb' with ⟨b1, b2, b3⟩ | ⟨b1, b2, b3⟩
    · exact h.apart r s u t g' hne a2 b2 hb hb'
    · omega
    · omega
    · exact h'.apart _ _ u t g' (by omega) a2 b2 hb hb'
def treesTo (k : Nat) : List (List Int) := (List.range k).flatMap fun n => Tr.treesL (n + 1)
theorem treesTo_step (k : Nat) : treesTo (k + 1) = treesTo k ++ Tr.treesL (k + 1) := by
  unfold treesTo; rw [List.range_succ, List.flatMap_append]; simp
theorem treesTo_end : treesTo 8 = Tr.allL := rfl
theorem treesTo_len : ∀ k, k ≤ 8 → (treesTo k).length ≤ k * 115
  | 0, _ => by simp [treesTo]
  | k+1, h => by
    rw [treesTo_step, List.length_append]
    have := treesTo_len k (by omega)
    have := (trees_all (n := k + 1) (by omega) (by omega)).2
    omega
theorem own_addr {w : World} {lo : Nat} {T : TypeId} {A : Option Addr} {n c : Nat} {vs : List Value} (h : w.ownsRow lo T 1 (.slice A n c) n vs) (h1 : 0 < n) : ∃ g, A = some ⟨g, 0, none⟩ := by
  obtain ⟨g, cap, hv⟩ := own_form h h1
  injection hv with hA _ _
  exact ⟨g, hA⟩
theorem vals_one {w : World} {lo hi n : Nat} {v : Value} {m : List (List Int)} {vs : List Value} (h : OwnMat w lo hi v n m vs) : ∀ u ∈ vs, u.oneCell' = true := by
  intro u hu
  obtain ⟨k, hk⟩ := List.mem_iff_getElem?.1 hu
  have hkl : k < m.length := by
    rw [← h.len]
    rcases Nat.lt_or_ge k vs.length with y | y
    · exact y
    · rw [List.getElem?_eq_none y] at hk; cases hk
  obtain ⟨A, c, e, _⟩ := h.inner k _ (List.getElem?_eq_getElem hkl)
  rw [hk] at e
  injection e with e
  subst e
  rfl
theorem trees_pos {n : Nat} (h1 : 1 ≤ n) : 1 ≤ (Tr.treesL n).length := by
  unfold Tr.treesL
  rw [show (116 : Nat) = 115 + 1 from rfl, Tr.treesF]
  simp
set_option maxHeartbeats 1000000 in
theorem allTrees_any (w : World) : Calls Tryz.prog 47 #[] w (NewMat 200 Tr.allL w) := by
  obtain ⟨j0, hj, hy0, hy1, hy2⟩ := info_parts info_row
  go_enter Tryz.func47, Tryz.ntmps47
  go_wp2_with (at_make; refine wpList_make_own _ rfl _ _ 24 rfl w.heap.size 25 j0 (.slice none 0 0) 1 Tryz.underlying24 hj hy0 hy1 .i64 .i64 _ 200 rfl rfl rfl (by rw [hy2]; omega) (by unfold maxLen; omega) (Nat.le_refl _) ?_; intro w1 hown hg)
  have M0 : Hid (OwnMat w1 w.heap.size w1.heap.size (.slice (some ⟨w.heap.size, 0, none⟩) 0 200) 0 [] []) := ⟨OwnR.of hown, rfl, fun r row hr => by simp at hr, fun r s u t g _ hu => by simp at hu⟩
  have B0 : Hid (Below w.heap.size w w1) := (Below.refl _ _).grown hg (Nat.le_refl _) (fun k hk => by cases hk)
  have hs0 := hg.size
  clear hown hg
  go_wp2_with fail
  go_loopw [1, 2] (fun v i wr => ∃ (k q g cap : Nat) (vs : List Value), k ≤ 8 ∧ v = .slice (some ⟨g, 0, none⟩) q cap ∧ i = .int .i64 ((k : Int) + 1) ∧ Hid (OwnMat wr w.heap.size wr.heap.size (.slice (some ⟨g, 0, none⟩) q cap) q (treesTo k) vs) ∧ Below w.heap.size w wr ∧ w.heap.size ≤ wr.heap.size) (fun _ i _ => 9 - (intOf i).toNat)
  case atStart => exact ⟨0, 0, w.heap.size, 200, [], Nat.zero_le _, rfl, rfl, M0, B0.out, hs0⟩
  case round =>
    obtain ⟨k, q, g, cap, vs, hk, rfl, rfl, HM, HB, hsz⟩ := hrel
    by_cases hlt : k < 8
    · have hq : q ≤ 920 := by
        have h1 := HM.out.size
        have h2 := treesTo_len k hk
        omega
      have HBB := Lib.hid HB
      have C1 := treesWith_any (k + 1) wr (by omega) (by omega)
      have h115 := (trees_all (n := k + 1) (by omega) (by omega)).2
      have hpos := trees_pos (n := k + 1) (by omega)
      obtain ⟨T, hT⟩ : ∃ T, T = Tr.treesL (k + 1) := ⟨_, rfl⟩
      have HS : Hid (treesTo (k + 1) = treesTo k ++ T) := by rw [Hid, hT]; exact treesTo_step k
      rw [← hT] at C1 h115 hpos
      obtain ⟨N, hN⟩ : ∃ N, N = T.length := ⟨_, rfl⟩
      rw [← hN] at C1 h115 hpos
      clear HB hT hN
      go_wp2_with fail
      refine C1.mono ?_
      rintro e w2 ⟨A2, c2, vs2, rfl, own2, bel2⟩
      have hs2 := bel2.size
      have HM2 := Lib.hid (HM.out.below bel2 (Nat.le_refl _))
      have HO2 := Lib.hid own2
      have HB2 := Lib.hid (HBB.out.trans (bel2.mono hsz))
      have hownO := HM2.out.outer.1
      obtain ⟨g2, rfl⟩ := own_addr own2.outer.1 (by omega)
      have HLEN : Hid (vs2.length = N * 1) := by rw [Hid, HO2.out.len, HO2.out.size, Nat.mul_one]
      have HNEW : Hid (∀ j u, vs2[j]? = some u → w2.cell? ((⟨g2, 0, none⟩ : Addr).add j) = some u) := (row_of_own HO2.out.outer.1).news
      have HONE := Lib.hid (vals_one HO2.out)
      clear own2 bel2 C1
      go_wp2_with (at_builtin; refine wpList_append_lies _ rfl (.tmp 8) (.tmp 10) 24 rfl w.heap.size 25 j0 _ 1 24 Tryz.underlying24 hj hy0 hy1 hy2 rfl (by omega) (.slice (some ⟨g, 0, none⟩) q cap) q vs rfl hownO ⟨g2, 0, none⟩ N c2 vs2 rfl HLEN.out HNEW.out HONE.out (by omega) (by simp only [maxLen]; omega) (by omega) (by omega) w2.heap.size rfl ?_; intro g5 cap5 w5 hown5 hgrow5 hat5 hlt5)
      have GM : Hid (OwnMat w5 w.heap.size w5.heap.size (.slice (some ⟨g5, 0, none⟩) (q + N) cap5) (q + N) (treesTo (k + 1)) (vs ++ vs2)) := by
        rw [Hid, HS.out]
        exact HM2.out.pushAll hs2 HO2.out hsz hown5 hgrow5
      have GB : Hid (Below w.heap.size w w5) := HB2.out.grown hgrow5 (by omega) (fun z hz => (hownO.lt z hz).1)
      have hs5 : w2.heap.size ≤ w5.heap.size := hgrow5.size
      clear hown5 hgrow5 hat5 hownO
      go_wp2
      go_roundw
      case rel => exact ⟨k + 1, q + N, g5, cap5, _, by omega, rfl, by go_num, GM, GB.out, by omega⟩
      case measure => simp [intOf]; omega
    · obtain rfl : k = 8 := by omega
      have e : q = 200 := by have := HM.out.size; rw [treesTo_end, Tr.allL_len] at this; omega
      subst e
      have G : Hid (NewMat 200 Tr.allL w (.returned (.slice (some ⟨g, 0, none⟩) 200 cap)) wr) := ⟨_, _, vs, rfl, HM.out, HB⟩
      clear HB
      go_wp2
      go_ret
      exact G.out
theorem all_split : ∀ k, k ≤ 8 → ∃ rest, Tr.allL = treesTo k ++ rest := by
  intro k hk
  refine ⟨((List.range (8 - k)).map (· + k)).flatMap fun n => Tr.treesL (n + 1), ?_⟩
  rw [← treesTo_end]
  unfold treesTo
  rw [← List.flatMap_append]
  congr 1
  have : ∀ k, k ≤ 8 → List.range 8 = List.range k ++ (List.range (8 - k)).map (· + k) := by decide
  exact this k hk
def treeAtA (a : Int) : List Int × Int := if 0 ≤ a ∧ a ≤ 199 then (Tr.allL.getD a.toNat [], 0) else ([], 2)
theorem treeAtA_no {a : Int} (h : ¬ (0 ≤ a ∧ a ≤ 199)) : treeAtA a = ([], 2) := if_neg h
theorem treeAtA_yes {a : Nat} {t : List Int} (ht : Tr.allL[a]? = some t) (h : a ≤ 199) : treeAtA (a : Int) = (t, 0) := by
  unfold treeAtA
  rw [if_pos (by omega), Int.toNat_natCast, List.getD_eq_getElem?_getD, ht]; rfl
theorem all_len {a : Nat} {t : List Int} (ht : Tr.allL[a]? = some t) : t.length ≤ 8 := by
  have hm := List.mem_of_getElem? ht
  rw [← treesTo_end] at hm
  unfold treesTo at hm
  rw [List.mem_flatMap] at hm
  obtain ⟨n, hn, h⟩ := hm
  rw [List.mem_range] at hn
  rw [((trees_all (n := n + 1) (by omega) (by omega)).1 t h).2]; omega
set_option maxHeartbeats 400000 in
theorem pTreeAt_L (a : Int) (w : World) (ha : -9223372036854775808 ≤ a ∧ a ≤ 9223372036854775807) : Calls Tryz.prog 21 #[.int .i64 a] w (ResL (treeAtA a) w) := by
  by_cases h : 0 ≤ a ∧ a ≤ 199
  · obtain ⟨n, rfl⟩ : ∃ n : Nat, a = (n : Int) := ⟨a.toNat, by omega⟩
    have h2 : n ≤ 199 := by omega
    obtain ⟨t, ht⟩ := at_lt (show n < Tr.allL.length by rw [Tr.allL_len]; omega)
    have G := Lib.hid (treeAtA_yes ht h2)
    have HT := Lib.hid ht
    have HN := Lib.hid (all_len ht)
    clear h ha ht
    go_enter Tryz.func21, Tryz.ntmps21
    go_wp2_with fail
    refine (allTrees_any _).mono ?_
    rintro e w1 ⟨A1, c1, vs1, rfl, own1, bel1⟩
    obtain ⟨g1, rfl⟩ := own_addr own1.outer.1 (by omega)
    obtain ⟨Ai, ci, hvi, hoi⟩ := own1.inner n t HT.out
    have hc := own1.outer.1.cellAt n (by omega)
    rw [hvi] at hc
    have GO : Hid (w1.ownsRow w.heap.size 2 1 (.slice Ai t.length ci) t.length (ints t)) := hoi.1
    have GB := Lib.hid bel1
    clear own1 bel1 hvi hoi
    go_wp2
    go_ret2
    exact ResL.of G.out rfl (by have := HN.out; omega) GO.out GB.out
  · have G := Lib.hid (treeAtA_no h)
    by_cases h1 : a < 0
    · clear h
      go_enter Tryz.func21, Tryz.ntmps21
      go_wp2
      go_ret2
      exact ResL.nil G.out (Below.refl _ _)
    · have h8 : 200 ≤ a := by omega
      clear h
      go_enter Tryz.func21, Tryz.ntmps21
      go_wp2
      go_ret2
      exact ResL.nil G.out (Below.refl _ _)
end Go.Proofs.YtpngohklicgbjaaGreat
/-
  Maps of trees, plainly: which lists are maps, the numbers of nodes at their places, and what is made of them.
-/
namespace Go.Proofs.YtpngohklicgbjaaGreat
open Go.RowKit Fld
set_option linter.unusedVariables false
set_option linter.unusedSimpArgs false
set_option maxRecDepth 100000

/-- the numbers of nodes of the trees at the places of a map -/
def lens : List Nat := [0, 1, 2, 3, 3, 4, 4, 4, 4, 5, 5, 5, 5, 5, 5, 5, 5, 5, 6, 6, 6, 6, 6, 6, 6, 6, 6, 6, 6, 6, 6, 6, 6, 6, 6, 6, 6, 6]
theorem lens_len : lens.length = 38 := rfl
theorem lens_bd : ∀ l ∈ lens, l ≤ 6 := by decide
theorem lens_to : lens = 0 :: (treesTo 6).map List.length := by decide +kernel
theorem to_len : (treesTo 6).length = 37 := by
  have := congrArg List.length lens_to
  rw [List.length_cons, List.length_map, lens_len] at this; omega
theorem lens_at {k : Nat} (h : k < 38) : ∃ l, lens[k]? = some l ∧ l ≤ 6 := by
  have h2 : k < lens.length := by rw [lens_len]; exact h
  exact ⟨lens[k], List.getElem?_eq_getElem h2, lens_bd _ (List.getElem_mem h2)⟩
theorem to_at {k : Nat} {t : List Int} (h : (treesTo 6)[k]? = some t) : lens[k + 1]? = some t.length := by
  rw [lens_to, List.getElem?_cons_succ, List.getElem?_map, h]; rfl
/-- the texts of the trees at the places of a map -/
def mapTx : List (List UInt8) := [] :: (treesTo 6).map Tr.txt
theorem mapTx_len : mapTx.length = 38 := by unfold mapTx; rw [List.length_cons, List.length_map, to_len]
theorem mapTx_lens : mapTx.map List.length = lens.map (2 * ·) := by decide +kernel
theorem mapTx_at {k l : Nat} (h : lens[k]? = some l) : ∃ x, mapTx[k]? = some x ∧ x.length = 2 * l := by
  have e : (mapTx.map List.length)[k]? = some (2 * l) := by rw [mapTx_lens, List.getElem?_map, h]; rfl
  rw [List.getElem?_map] at e
  cases hx : mapTx[k]? with
  | none => rw [hx] at e; cases e
  | some x => rw [hx] at e; exact ⟨x, rfl, by simpa using e⟩
/-- up to which number of nodes two maps agree -/
def agrL : List Int → List Int → List Nat → Int
  | x :: xs, y :: ys, l :: ls => if x = y then agrL xs ys ls else (l : Int) - 1
  | _, _, _ => 6
def agrA (a b : List Int) : Int := agrL a b lens
theorem drop_at {α : Type} {L : List α} {k : Nat} {x : α} (h : L[k]? = some x) : L.drop k = x :: L.drop (k + 1) := by
  have hlt : k < L.length := by
    rcases Nat.lt_or_ge k L.length with g | g
    · exact g
    · rw [List.getElem?_eq_none g] at h; cases h
  rw [List.getElem?_eq_getElem hlt] at h
  injection h with h
  rw [List.drop_eq_getElem_cons hlt, h]
theorem agr_next {a b : List Int} {k : Nat} {x y : Int} {l : Nat} (hx : a[k]? = some x) (hy : b[k]? = some y) (hl : lens[k]? = some l) (e : x = y) : agrL (a.drop k) (b.drop k) (lens.drop k) = agrL (a.drop (k + 1)) (b.drop (k + 1)) (lens.drop (k + 1)) := by
  rw [drop_at hx, drop_at hy, drop_at hl, agrL, if_pos e]
theorem agr_stop {a b : List Int} {k : Nat} {x y : Int} {l : Nat} (hx : a[k]? = some x) (hy : b[k]? = some y) (hl : lens[k]? = some l) (e : x ≠ y) : agrL (a.drop k) (b.drop k) (lens.drop k) = (l : Int) - 1 := by
  rw [drop_at hx, drop_at hy, drop_at hl, agrL, if_neg e]
theorem agr_end {a b : List Int} : agrL (a.drop 38) (b.drop 38) (lens.drop 38) = 6 := by
  have e : lens.drop 38 = [] := rfl
  rw [e]
  cases a.drop 38 <;> cases b.drop 38 <;> rfl
theorem agr_start (a b : List Int) : agrA a b = agrL (a.drop 0) (b.drop 0) (lens.drop 0) := rfl
/-- a map with 0 at all trees with more than n nodes -/
def truncL (a : List Int) (n : Int) : List Int := List.zipWith (fun x (l : Nat) => if n < (l : Int) then 0 else x) a lens
theorem truncL_length {a : List Int} (h : a.length = 38) (n : Int) : (truncL a n).length = 38 := by unfold truncL; rw [List.length_zipWith, h, lens_len, Nat.min_self]
theorem truncL_at {a : List Int} {n : Int} {k l : Nat} {x : Int} (hx : a[k]? = some x) (hl : lens[k]? = some l) : (truncL a n)[k]? = some (if n < (l : Int) then 0 else x) := by
  unfold truncL; rw [List.getElem?_zipWith, hx, hl]
def scaleL (a : List Int) (y : Int) : List Int := List.zipWith (fun x l => x * pw y l % 10007) a lens
theorem scaleL_length {a : List Int} (h : a.length = 38) (y : Int) : (scaleL a y).length = 38 := by unfold scaleL; rw [List.length_zipWith, h, lens_len, Nat.min_self]
theorem scaleL_at {a : List Int} {y : Int} {k l : Nat} {x : Int} (hx : a[k]? = some x) (hl : lens[k]? = some l) : (scaleL a y)[k]? = some (x * pw y l % 10007) := by
  unfold scaleL; rw [List.getElem?_zipWith, hx, hl]
/-- the answers -/
def agreeA (a b : List Int) : Int × Int := if isMp a = true ∧ isMp b = true then (agrA a b, 0) else (0, 1)
theorem agreeA_no1 {a b : List Int} (h : isMp a = false) : agreeA a b = (0, 1) := if_neg (by rw [h]; simp)
theorem agreeA_no2 {a b : List Int} (h : isMp b = false) : agreeA a b = (0, 1) := if_neg (by rw [h]; simp)
theorem agreeA_yes {a b : List Int} (h : isMp a = true) (k : isMp b = true) : agreeA a b = (agrA a b, 0) := if_pos ⟨h, k⟩
def truncA (a : List Int) (y : Int) : List Int × Int := if isMp a = true then (if 0 ≤ y ∧ y ≤ 6 then (truncL a y, 0) else ([], 2)) else ([], 1)
theorem truncA_no {a : List Int} {y : Int} (h : isMp a = false) : truncA a y = ([], 1) := if_neg (by rw [h]; simp)
theorem truncA_out {a : List Int} {y : Int} (h : isMp a = true) (hy : ¬ (0 ≤ y ∧ y ≤ 6)) : truncA a y = ([], 2) := by unfold truncA; rw [if_pos h, if_neg hy]
theorem truncA_yes {a : List Int} {y : Int} (h : isMp a = true) (hy : 0 ≤ y ∧ y ≤ 6) : truncA a y = (truncL a y, 0) := by unfold truncA; rw [if_pos h, if_pos hy]
def scaleMA (a : List Int) (y : Int) : List Int × Int := if isMp a = true then (if 0 ≤ y ∧ y < 10007 then (scaleL a y, 0) else ([], 2)) else ([], 1)
theorem scaleMA_no {a : List Int} {y : Int} (h : isMp a = false) : scaleMA a y = ([], 1) := if_neg (by rw [h]; simp)
theorem scaleMA_out {a : List Int} {y : Int} (h : isMp a = true) (hy : ¬ (0 ≤ y ∧ y < 10007)) : scaleMA a y = ([], 2) := by unfold scaleMA; rw [if_pos h, if_neg hy]
theorem scaleMA_yes {a : List Int} {y : Int} (h : isMp a = true) (hy : 0 ≤ y ∧ y < 10007) : scaleMA a y = (scaleL a y, 0) := by unfold scaleMA; rw [if_pos h, if_pos hy]
end Go.Proofs.YtpngohklicgbjaaGreat
/-
  Texts filled in one after another.
-/
namespace Go.Proofs.YtpngohklicgbjaaGreat
open Go.RowKit Fld
set_option linter.unusedVariables false
set_option linter.unusedSimpArgs false
set_option maxRecDepth 100000

/-- texts filled in one after another -/
def FillT (w : World) (n : Nat) (ss : List (List UInt8)) (k : Nat) (wr : World) : Prop :=
  wr.ownsRow w.heap.size 60 1 (.slice (some ⟨w.heap.size, 0, none⟩) n n) n ((strs ss).take k ++ List.replicate (n - k) (.string ⟨#[]⟩)) ∧ Below w.heap.size w wr
theorem FillT.below {w wr w2 : World} {n k : Nat} {ss : List (List UInt8)} (h : FillT w n ss k wr) (hb : Below wr.heap.size wr w2) : FillT w n ss k w2 :=
  ⟨((OwnR.of h.1).below hb (Nat.le_refl _)).1, h.2.trans (hb.mono h.2.size)⟩
theorem FillT.step {w wr : World} {n k : Nat} {ss : List (List UInt8)} {s : List UInt8} (h : FillT w n ss k wr) (hl : ss.length = n) (hs : ss[k]? = some s) : FillT w n ss (k + 1) (wr.setCell ⟨w.heap.size, k, none⟩ (.string ⟨s.toArray⟩)) := by
  obtain ⟨h1, h2⟩ := h
  refine ⟨?_, below_set h2 (Nat.le_refl _) _⟩
  have := (h1.stored k (.string ⟨s.toArray⟩)).1
  rw [fill_step (by rw [strs_length]; exact hl) (strs_at hs)] at this
  exact this
theorem FillT.start {w w1 : World} {n : Nat} {ss : List (List UInt8)} (h : w1.ownsRow w.heap.size 60 1 (.slice (some ⟨w.heap.size, 0, none⟩) n n) n (madeCells (Value.string ⟨#[]⟩).cells (n * 1)).toList) (hg : w.grownBy w1 none) : FillT w n ss 0 w1 := by
  refine ⟨?_, (Below.refl _ _).grown hg (Nat.le_refl _) (fun k hk => by cases hk)⟩
  have e : (madeCells (Value.string ⟨#[]⟩).cells (n * 1)).toList = (strs ss).take 0 ++ List.replicate (n - 0) (.string ⟨#[]⟩) := by
    rw [← fill_start, Nat.mul_one]; exact toList_madeCells_one _ _
  rw [e] at h
  exact h
end Go.Proofs.YtpngohklicgbjaaGreat
/-
  The texts of the trees of a list of level lists: the walk.
-/
namespace Go.Proofs.YtpngohklicgbjaaGreat
open Go.RowKit Fld
set_option linter.unusedVariables false
set_option linter.unusedSimpArgs false
set_option maxRecDepth 100000

set_option maxHeartbeats 1000000 in
theorem treesOf_any (A : Option Addr) (n c B : Nat) (f : List (List Int)) (w : World) (hl : f.length = n) (hn : n ≤ 1048576) (hr : ∀ r ∈ f, Tr.isLv r = true) (hB : B ≤ w.heap.size) (h : Mat w B A f) :
    Calls Tryz.prog 74 #[.slice A n c] w fun e w' => e = .returned (.slice (some ⟨w.heap.size, 0, none⟩) n n) ∧ w'.ownsRow w.heap.size 60 1 (.slice (some ⟨w.heap.size, 0, none⟩) n n) n (strs (f.map Tr.txt)) ∧ Below w.heap.size w w' := by
  obtain ⟨i0, hi, hz0, hz1, hz2⟩ := info_parts info_tree
  have HL := Lib.hid hl
  have HR := Lib.hid hr
  have HSL : Hid ((f.map Tr.txt).length = n) := by rw [Hid, List.length_map]; exact hl
  clear hl hr
  go_enter Tryz.func74, Tryz.ntmps74
  go_wp2_with (at_make; refine wpList_make_full _ rfl (.tmp 7) (.tmp 7) 65 rfl w.heap.size 60 i0 _ 1 Tryz.underlying65 hi hz0 hz1 .i64 .i64 _ _ n rfl rfl rfl rfl (by rw [hz2]; omega) (by simp only [maxLen]; omega) (Nat.le_refl _) ?_; intro w1 hown hg)
  have F0 := FillT.start (ss := f.map Tr.txt) hown hg
  clear hown hg hz0 hz1 hz2 hi
  go_wp2_with fail
  go_loopw [11] (fun i wr => ∃ k : Nat, k ≤ n ∧ i = .int .i64 k ∧ FillT w n (f.map Tr.txt) k wr) (fun i _ => n - (intOf i).toNat)
  case atStart => exact ⟨0, Nat.zero_le _, rfl, F0⟩
  case round =>
    obtain ⟨k, hk, rfl, HF⟩ := hrel
    by_cases hlt : k < n
    · obtain ⟨r, hr⟩ := at_lt (show k < f.length by rw [HL.out]; exact hlt)
      obtain ⟨b, o, Ak, ck, rfl, hb, hc, hrc, hcm, hrow⟩ := (h.below HF.2 hB) k r hr
      obtain ⟨r1, r8⟩ := lv_bd (HR.out r (List.mem_of_getElem? hr))
      have hsz := HF.2.size
      have hst : (f.map Tr.txt)[k]? = some (Tr.txt r) := by rw [List.getElem?_map, hr]; rfl
      have HST := Lib.hid hst
      have HFF := Lib.hid HF
      clear hr hst F0 HF
      go_wp2_with fail
      refine (treeOf_any Ak r.length ck B r wr rfl r1 r8 hrc (by omega) hrow).mono ?_
      rintro e w2 ⟨rfl, bel2⟩
      have HF2 := HFF.out.below bel2
      have hf := HF2.1.frozenAt k
      have ho := HF2.1.cellAt k (by omega)
      rw [fill_at (by rw [strs_length]; exact HSL.out) hlt] at ho
      have G := Lib.hid (HF2.step HSL.out HST.out)
      obtain ⟨X, hX⟩ : ∃ X : ByteArray, X = ⟨(Tr.txt r).toArray⟩ := ⟨_, rfl⟩
      rw [← hX] at G ⊢
      clear bel2 HF2 hc hrow hX
      go_wp2
      go_roundw
      case rel => exact ⟨k + 1, by omega, by go_num, G.out⟩
      case measure => simp [intOf]; omega
    · obtain rfl : k = n := by omega
      have G : Hid (wr.ownsRow w.heap.size 60 1 (.slice (some ⟨w.heap.size, 0, none⟩) k k) k (strs (f.map Tr.txt)) ∧ Below w.heap.size w wr) := by
        obtain ⟨h1, h2⟩ := HF
        rw [fill_end _ (by rw [strs_length]; exact HSL.out)] at h1
        exact ⟨h1, h2⟩
      clear HF F0
      go_wp2
      go_ret
      exact ⟨rfl, G.out⟩
end Go.Proofs.YtpngohklicgbjaaGreat
/-
  The model's list of all trees with so many nodes and fewer.
-/
namespace Go.Proofs.YtpngohklicgbjaaGreat
open Go.RowKit Fld
set_option linter.unusedVariables false
set_option linter.unusedSimpArgs false
set_option maxRecDepth 100000

set_option maxHeartbeats 1000000 in
theorem l03All_any (n : Nat) (w : World) (h1 : 1 ≤ n) (h8 : n ≤ 8) : Calls Tryz.prog 72 #[.int .i64 n] w (NewMat (treesTo n).length (treesTo n) w) := by
  obtain ⟨j0, hj, hy0, hy1, hy2⟩ := info_parts info_row
  go_enter Tryz.func72, Tryz.ntmps72
  go_wp2_with fail
  go_loopw [3, 4] (fun v i wr => ∃ (k q g cap : Nat) (vs : List Value), k ≤ n ∧ v = .slice (some ⟨g, 0, none⟩) q cap ∧ i = .int .i64 ((k : Int) + 1) ∧ Hid (OwnMat wr w.heap.size wr.heap.size (.slice (some ⟨g, 0, none⟩) q cap) q (treesTo k) vs) ∧ Below w.heap.size w wr ∧ w.heap.size ≤ wr.heap.size) (fun _ i _ => 9 - (intOf i).toNat)
  case atStart => exact ⟨0, 0, w.heap.size, 0, [], Nat.zero_le _, rfl, rfl, by rw [Hid]; have := OwnMat.empty w; simpa [treesTo] using this, (Below.refl _ _).alloc (Nat.le_refl _) _, by simp⟩
  case round =>
    obtain ⟨k, q, g, cap, vs, hk, rfl, rfl, HM, HB, hsz⟩ := hrel
    by_cases hlt : k < n
    · have hq : q ≤ 920 := by
        have h1 := HM.out.size
        have h2 := treesTo_len k (by omega)
        omega
      have HBB := Lib.hid HB
      have C1 := l03Trees_any (k + 1) wr (by omega) (by omega)
      have h115 := (trees_all (n := k + 1) (by omega) (by omega)).2
      have hpos := trees_pos (n := k + 1) (by omega)
      obtain ⟨T, hT⟩ : ∃ T, T = Tr.treesL (k + 1) := ⟨_, rfl⟩
      have HS : Hid (treesTo (k + 1) = treesTo k ++ T) := by rw [Hid, hT]; exact treesTo_step k
      rw [← hT] at C1 h115 hpos
      obtain ⟨N, hN⟩ : ∃ N, N = T.length := ⟨_, rfl⟩
      rw [← hN] at C1 h115 hpos
      clear HB hT hN
      go_wp2_with fail
      refine C1.mono ?_
      rintro e w2 ⟨A2, c2, vs2, rfl, own2, bel2⟩
      have hs2 := bel2.size
      have HM2 := Lib.hid (HM.out.below bel2 (Nat.le_refl _))
      have HO2 := Lib.hid own2
      have HB2 := Lib.hid (HBB.out.trans (bel2.mono hsz))
      have hownO := HM2.out.outer.1
      obtain ⟨g2, rfl⟩ := own_addr own2.outer.1 (by omega)
      have HLEN : Hid (vs2.length = N * 1) := by rw [Hid, HO2.out.len, HO2.out.size, Nat.mul_one]
      have HNEW : Hid (∀ j u, vs2[j]? = some u → w2.cell? ((⟨g2, 0, none⟩ : Addr).add j) = some u) := (row_of_own HO2.out.outer.1).news
      have HONE := Lib.hid (vals_one HO2.out)
      clear own2 bel2 C1
      go_wp2_with (at_builtin; refine wpList_append_lies _ rfl (.tmp 11) (.tmp 13) 24 rfl w.heap.size 25 j0 _ 1 24 Tryz.underlying24 hj hy0 hy1 hy2 rfl (by omega) (.slice (some ⟨g, 0, none⟩) q cap) q vs rfl hownO ⟨g2, 0, none⟩ N c2 vs2 rfl HLEN.out HNEW.out HONE.out (by omega) (by simp only [maxLen]; omega) (by omega) (by omega) w2.heap.size rfl ?_; intro g5 cap5 w5 hown5 hgrow5 hat5 hlt5)
      have GM : Hid (OwnMat w5 w.heap.size w5.heap.size (.slice (some ⟨g5, 0, none⟩) (q + N) cap5) (q + N) (treesTo (k + 1)) (vs ++ vs2)) := by
        rw [Hid, HS.out]
        exact HM2.out.pushAll hs2 HO2.out hsz hown5 hgrow5
      have GB : Hid (Below w.heap.size w w5) := HB2.out.grown hgrow5 (by omega) (fun z hz => (hownO.lt z hz).1)
      have hs5 : w2.heap.size ≤ w5.heap.size := hgrow5.size
      clear hown5 hgrow5 hat5 hownO
      go_wp2
      go_roundw
      case rel => exact ⟨k + 1, q + N, g5, cap5, _, by omega, rfl, by go_num, GM, GB.out, by omega⟩
      case measure => simp [intOf]; omega
    · obtain rfl : k = n := by omega
      have e : (treesTo k).length = q := HM.out.size
      have G : Hid (NewMat (treesTo k).length (treesTo k) w (.returned (.slice (some ⟨g, 0, none⟩) q cap)) wr) := by
        rw [Hid, e]; exact ⟨_, _, vs, rfl, HM.out, HB⟩
      clear HB e
      go_wp2
      go_ret
      exact G.out
end Go.Proofs.YtpngohklicgbjaaGreat
/-
  The trees at the places of maps: the program's texts and the model's lists.
-/
namespace Go.Proofs.YtpngohklicgbjaaGreat
open Go.RowKit Fld
set_option linter.unusedVariables false
set_option linter.unusedSimpArgs false
set_option maxRecDepth 100000

def mapTo (k : Nat) : List (List UInt8) := [] :: (treesTo k).map Tr.txt
theorem mapTo_step (k : Nat) : mapTo (k + 1) = mapTo k ++ (Tr.treesL (k + 1)).map Tr.txt := by
  unfold mapTo; rw [treesTo_step, List.map_append, List.cons_append]
theorem mapTo_len (k : Nat) : (mapTo k).length = 1 + (treesTo k).length := by unfold mapTo; rw [List.length_cons, List.length_map]; omega
theorem strs_app9 (a b : List (List UInt8)) : strs a ++ strs b = strs (a ++ b) := by simp [strs]
theorem strs_one9 (l : List (List UInt8)) : ∀ u ∈ strs l, u.oneCell' = true := fun u hu => by
  unfold strs at hu
  rw [List.mem_map] at hu
  obtain ⟨x, _, rfl⟩ := hu
  rfl
set_option maxHeartbeats 2000000 in
theorem mapTrees_any (w : World) : Calls Tryz.prog 67 #[] w (NewRow 60 38 (strs mapTx) w) := by
  obtain ⟨i0, hi, hz0, hz1, hz2⟩ := info_parts info_tree
  go_enter Tryz.func67, Tryz.ntmps67
  go_wp2_with fail
  go_loopw [1, 2] (fun v i wr => ∃ (k q g cap : Nat), k ≤ 6 ∧ v = .slice (some ⟨g, 0, none⟩) q cap ∧ i = .int .i64 ((k : Int) + 1) ∧ Hid (q = (mapTo k).length) ∧ Hid (wr.ownsRow w.heap.size 60 1 (.slice (some ⟨g, 0, none⟩) q cap) q (strs (mapTo k))) ∧ Below w.heap.size w wr ∧ w.heap.size ≤ wr.heap.size) (fun _ i _ => 7 - (intOf i).toNat)
  case atStart => exact ⟨0, 1, w.heap.size, 1, Nat.zero_le _, rfl, rfl, rfl, World.ownsRow_lit (base := w.heap.size) (size := 1) (e := 60) w #[.string ⟨#[]⟩] 1 (Nat.le_refl _) (by simp [maxLen]) rfl, (Below.refl _ _).alloc (Nat.le_refl _) _, by simp⟩
  case round =>
    obtain ⟨k, q, g, cap, hk, rfl, rfl, HQ, HO, HB, hsz⟩ := hrel
    by_cases hlt : k < 6
    · have hq : q ≤ 921 := by
        have h1 := HQ.out
        have h2 := treesTo_len k (by omega)
        rw [mapTo_len] at h1
        omega
      have HBB := Lib.hid HB
      have C1 := treesWith_any (k + 1) wr (by omega) (by omega)
      obtain ⟨ha, h115⟩ := trees_all (n := k + 1) (by omega) (by omega)
      obtain ⟨T, hT⟩ : ∃ T, T = Tr.treesL (k + 1) := ⟨_, rfl⟩
      have HS : Hid (mapTo (k + 1) = mapTo k ++ T.map Tr.txt) := by rw [Hid, hT]; exact mapTo_step k
      rw [← hT] at C1 h115 ha
      have HLV : Hid (∀ r ∈ T, Tr.isLv r = true) := fun r hr => (ha r hr).1
      obtain ⟨N, hN⟩ : ∃ N, N = T.length := ⟨_, rfl⟩
      rw [← hN] at C1 h115
      have HN : Hid (T.length = N) := hN.symm
      have HSL : Hid ((strs (T.map Tr.txt)).length = N * 1) := by rw [Hid, strs_length, List.length_map, Nat.mul_one]; exact hN.symm
      have HQ2 : Hid (q + N = (mapTo (k + 1)).length) := by rw [Hid, HS.out, List.length_append, List.length_map, ← HQ.out, hN]
      clear HB hT hN ha HQ
      go_wp2_with fail
      refine C1.mono ?_
      rintro e w2 ⟨A2, c2, vs2, rfl, own2, bel2⟩
      have hs2 := bel2.size
      have HO2 : Hid (w2.ownsRow w.heap.size 60 1 (.slice (some ⟨g, 0, none⟩) q cap) q (strs (mapTo k))) := ((OwnR.of HO.out).below bel2 (Nat.le_refl _)).1
      have HM2 : Hid (Mat w2 w2.heap.size A2 T) := own2.mat
      have HB2 := Lib.hid (HBB.out.trans (bel2.mono hsz))
      clear own2 bel2 C1 HO
      go_wp2_with fail
      refine (treesOf_any A2 N c2 w2.heap.size T _ HN.out (by omega) HLV.out (Nat.le_refl _) HM2.out).mono ?_
      rintro e w3 ⟨rfl, own3, bel3⟩
      have hs3 := bel3.size
      have hown : w3.ownsRow w.heap.size 60 1 (.slice (some ⟨g, 0, none⟩) q cap) q (strs (mapTo k)) := ((OwnR.of HO2.out).below bel3 (Nat.le_refl _)).1
      have HB3 := Lib.hid (HB2.out.trans (bel3.mono (by omega)))
      have HNEW : Hid (∀ j u, (strs (T.map Tr.txt))[j]? = some u → w3.cell? ((⟨w2.heap.size, 0, none⟩ : Addr).add j) = some u) := row_news (row_of_own own3)
      have HONE := Lib.hid (strs_one9 (T.map Tr.txt))
      obtain ⟨vs, hvs⟩ : ∃ vs, vs = strs (T.map Tr.txt) := ⟨_, rfl⟩
      have HVS := Lib.hid hvs
      rw [← hvs] at HNEW HONE HSL
      clear own3 bel3 HO2 HM2 HB2 hvs
      go_wp2_with (at_builtin; refine wpList_append_own _ rfl (.tmp 8) (.tmp 11) 65 rfl w.heap.size 60 i0 _ 1 16 Tryz.underlying65 hi hz0 hz1 hz2 rfl (by omega) (.slice (some ⟨g, 0, none⟩) q cap) q (strs (mapTo k)) rfl hown ⟨w2.heap.size, 0, none⟩ N N vs rfl HSL.out HNEW.out HONE.out (by simp only [maxLen]; omega) (by omega) (by omega) ?_; intro v5 w5 own5 hgrow5 _; obtain ⟨g5, c5, rfl⟩ := own_form own5 (by have := HQ2.out; have := mapTo_len (k + 1); omega))
      have e1 : strs (mapTo k) ++ vs = strs (mapTo (k + 1)) := by rw [HVS.out, strs_app9, HS.out]
      rw [e1] at own5
      have GO := Lib.hid own5
      have GB : Hid (Below w.heap.size w w5) := HB3.out.grown hgrow5 (by omega) (fun z hz => (hown.lt z hz).1)
      have hs5 : w.heap.size ≤ w5.heap.size := by have := hgrow5.size; omega
      clear own5 hgrow5 hown e1
      go_wp2
      go_roundw
      case rel => exact ⟨k + 1, q + N, g5, c5, by omega, rfl, by go_num, HQ2, GO, GB.out, hs5⟩
      case measure => simp [intOf]; omega
    · obtain rfl : k = 6 := by omega
      have e : q = 38 := by have := HQ.out; rw [mapTo_len, to_len] at this; exact this
      subst e
      have G : Hid (NewRow 60 38 (strs mapTx) w (.returned (.slice (some ⟨g, 0, none⟩) 38 cap)) wr) := ⟨_, _, rfl, HO.out, HB⟩
      clear HB HQ
      go_wp2
      go_ret
      exact G.out
theorem strs_cell {w : World} {B b : Nat} {l : List (List UInt8)} (h : Row w B (some ⟨b, 0, none⟩) (strs l)) : ∀ k t, l[k]? = some t → w.cell? ⟨b, k, none⟩ = some (.string ⟨t.toArray⟩) := fun k t ht => by
  obtain ⟨b', o', e, _, hc⟩ := h k _ (strs_at ht)
  injection e with e
  injection e with e1 e2 _
  subst e1 e2
  rw [Nat.zero_add] at hc
  exact hc
end Go.Proofs.YtpngohklicgbjaaGreat
/-
  The character of a tableau, the program's and the model's.
-/
namespace Go.Proofs.YtpngohklicgbjaaGreat
open Go.RowKit Fld
set_option linter.unusedVariables false
set_option linter.unusedSimpArgs false
set_option maxRecDepth 100000

def charL (m : List (List Int)) (b : List Int) (n : Nat) : List Int := 1 :: (treesTo 6).map fun t => wtT m b n (Tr.txt t)
theorem charL_length (m : List (List Int)) (b : List Int) (n : Nat) : (charL m b n).length = 38 := by unfold charL; rw [List.length_cons, List.length_map, to_len]
theorem charL_at {m : List (List Int)} {b : List Int} {n k : Nat} {t : List Int} (h : (treesTo 6)[k]? = some t) : (charL m b n)[k + 1]? = some (wtT m b n (Tr.txt t)) := by
  unfold charL; rw [List.getElem?_cons_succ, List.getElem?_map, h]; rfl
theorem charTx_tree {k : Nat} {t : List Int} (h : (treesTo 6)[k]? = some t) : mapTx[k + 1]? = some (Tr.txt t) := by
  unfold mapTx; rw [List.getElem?_cons_succ, List.getElem?_map, h]; rfl
theorem charTo_lv {k : Nat} {t : List Int} (h : (treesTo 6)[k]? = some t) : Tr.isLv t = true := by
  have hm := List.mem_of_getElem? h
  unfold treesTo at hm
  rw [List.mem_flatMap] at hm
  obtain ⟨n, hn, ht⟩ := hm
  rw [List.mem_range] at hn
  exact ((trees_all (n := n + 1) (by omega) (by omega)).1 t ht).1
theorem char_mix (m : List (List Int)) (b : List Int) (n : Nat) : unitL = (charL m b n).take (0 + 1) ++ unitL.drop (0 + 1) := rfl
theorem charU_at {k : Nat} (h : k < 37) : unitL[k + 1]? = some 0 := by
  unfold unitL; rw [List.getElem?_cons_succ, List.getElem?_replicate, if_pos h]
theorem charU_len : unitL.length = 38 := by decide
set_option maxHeartbeats 2000000 in
theorem character_any (A D : Option Addr) (n c d B B' : Nat) (m : List (List Int)) (b : List Int) (w : World) (hl : m.length = n) (hl' : b.length = n) (hn1 : 1 ≤ n) (hn : n ≤ 8) (hq : Wide m n) (hnum : ∀ r ∈ m, allNum r = true) (hnb : allNum b = true) (hB : B ≤ w.heap.size) (hB' : B' ≤ w.heap.size) (h : Mat w B A m) (r : Row w B' D (ints b)) :
    Calls Tryz.prog 39 #[.agg #[.slice A n c, .slice D n d]] w fun e w' => e = .returned (.agg (arrM (charL m b n))) ∧ Below w.heap.size w w' := by
  have EL := Lib.hid (charL_length m b n)
  have UL := Lib.hid charU_len
  have HL := Lib.hid hl
  have HL' := Lib.hid hl'
  have HQ := Lib.hid hq
  have HN := Lib.hid hnum
  have HNB := Lib.hid hnb
  have FF := arrM_two (w.alloc (.cells #[.slice A n c, .slice D n d] 57)) zero38 zero38
  have hzb : (w.alloc (.cells #[.slice A n c, .slice D n d] 57)).heap.size = w.heap.size + 1 := by simp
  rw [hzb] at FF
  have HBb : Hid (Below w.heap.size w (w.alloc (.cells #[.slice A n c, .slice D n d] 57))) := (Below.refl _ _).alloc (Nat.le_refl _) _
  obtain ⟨W0, hW0⟩ : ∃ W0, W0 = (((w.alloc (.cells #[.slice A n c, .slice D n d] 57)).alloc (.cells (arrM zero38) 73)).alloc (.cells (arrM zero38) 73)).setRow (w.heap.size + 1 + 1) (arrM unitL) := ⟨_, rfl⟩
  have hs3 : (((w.alloc (.cells #[.slice A n c, .slice D n d] 57)).alloc (.cells (arrM zero38) 73)).alloc (.cells (arrM zero38) 73)).heap.size = w.heap.size + 3 := by simp
  have hs0 : W0.heap.size = w.heap.size + 3 := by rw [hW0]; simp [World.setRow]
  have FX : Hid (ArrM W0 (w.heap.size + 1 + 1) unitL) := by rw [hW0]; exact setRow_heap _ _ _ _ _ _ FF.2.1
  have FZ : Hid (ArrM W0 (w.heap.size + 1) zero38) := by rw [hW0]; exact (setRow_other _ _ _ _ (by omega)).trans FF.1
  have FBX : Hid (Bx W0 w.heap.size 57 (.slice A n c) (.slice D n d)) := by
    have h0 := Bx.new w 57 (.slice A n c) (.slice D n d)
    rw [hW0]; unfold Hid Bx
    rw [setRow_other _ _ _ _ (by omega)]
    exact (h0.below FF.2.2 (by omega))
  have FB : Hid (Below w.heap.size w W0) := by
    rw [hW0]; exact below_setRow (HBb.out.trans (FF.2.2.mono (by omega))) (by omega) _
  have HM : Hid (Mat W0 B A m) := h.below FB.out hB
  have HR : Hid (Row W0 B' D (ints b)) := r.below FB.out hB'
  have F2 := FF.2.1
  clear hl hl' hq hnum hnb h r FF HBb hzb hs3
  go_enter Tryz.func39, Tryz.ntmps39
  go_wp2_with (refine wpList_store_row rfl 73 (.tmp 3) (.tmp 6) rfl (w.heap.size + 1 + 1) (arrM unitL) rfl rfl 73 (arrM zero38) F2 (by rw [arrM_size UL.out]; exact info_arrM) (by rw [arrM_size UL.out]; rfl) (arrM_cells _) ?_)
  change Calls _ _ _ ((((w.alloc (.cells #[.slice A n c, .slice D n d] 57)).alloc (.cells (arrM zero38) 73)).alloc (.cells (arrM zero38) 73)).setRow (w.heap.size + 1 + 1) (arrM unitL)) _
  rw [← hW0]
  clear hW0 F2
  refine (mapTrees_any W0).mono ?_
  rintro e w2 ⟨A2, c2, rfl, own2, bel2⟩
  have FX2 : Hid (ArrM w2 (w.heap.size + 1 + 1) ((charL m b n).take (0 + 1) ++ unitL.drop (0 + 1))) := by rw [← char_mix]; exact FX.out.below bel2 (by omega)
  have FZ2 : Hid (ArrM w2 (w.heap.size + 1) zero38) := FZ.out.below bel2 (by omega)
  have FBX2 : Hid (Bx w2 w.heap.size 57 (.slice A n c) (.slice D n d)) := FBX.out.next bel2
  have FB2 : Hid (Below w.heap.size w w2) := FB.out.trans (bel2.mono (by omega))
  have FM2 : Hid (Mat w2 B A m) := HM.out.below bel2 (by omega)
  have FR2 : Hid (Row w2 B' D (ints b)) := HR.out.below bel2 (by omega)
  obtain ⟨g2, rfl⟩ := own_addr own2 (by omega)
  have hg2 : w.heap.size + 3 ≤ g2 := by have := (own2.lt g2 rfl).1; omega
  have FT := Lib.hid (strs_cell (row_of_own own2))
  have hcap := (own_cap own2).1
  have hc1 : ¬ c2 = 1 := by omega
  have hz2 := bel2.size
  clear own2 bel2 FX FZ FBX FB HM HR
  go_wp2_with fail
  go_loopw [10] (fun i wr => ∃ k : Nat, k ≤ 37 ∧ i = .int .i64 k ∧ Hid (ArrM wr (w.heap.size + 1 + 1) ((charL m b n).take (k + 1) ++ unitL.drop (k + 1))) ∧ Hid (ArrM wr (w.heap.size + 1) zero38) ∧ Hid (Bx wr w.heap.size 57 (.slice A n c) (.slice D n d)) ∧ Hid (∀ k t, mapTx[k]? = some t → wr.cell? ⟨g2, k, none⟩ = some (.string ⟨t.toArray⟩)) ∧ Hid (Mat wr B A m) ∧ Hid (Row wr B' D (ints b)) ∧ Hid (Below w.heap.size w wr)) (fun i _ => 37 - (intOf i).toNat)
  case atStart => exact ⟨0, by omega, rfl, FX2, FZ2, FBX2, FT, FM2, FR2, FB2⟩
  case round =>
    obtain ⟨k, hk, rfl, HX, HZ, HBX, HT, HM, HR, HB⟩ := hrel
    by_cases hlt : k < 37
    · obtain ⟨t, ht⟩ := at_lt (show k < (treesTo 6).length by rw [to_len]; exact hlt)
      have hlv := charTo_lv ht
      have hct := HT.out (k + 1) _ (charTx_tree ht)
      have hs1 := HB.out.size
      have C1 := weight_any (Tr.txt t) A D n c d B B' m b wr (Tr.tx_txt hlv) HL.out HL'.out hn1 hn HQ.out HN.out HNB.out (by omega) (by omega) HM.out HR.out
      have TA : (charL m b n)[k + 1]? = some (wtT m b n (Tr.txt t)) := charL_at ht
      have k0 : (0 : Int) ≤ (k : Int) + 1 := by omega
      have k1 : (k : Int) + 1 < 38 := by omega
      have kk0 : (0 : Int) ≤ (k : Int) := Int.natCast_nonneg _
      have kk1 : (k : Int) < 37 := by omega
      have ew : IntKind.i64.wrap ((k : Int) + 1) = (k : Int) + 1 := IntWalk.i64_in _ (by omega)
      have en : ((k : Int) + 1).toNat = k + 1 := by omega
      have ek : 1 + k = k + 1 := by omega
      obtain ⟨X, hX⟩ : ∃ X : ByteArray, X = ⟨(Tr.txt t).toArray⟩ := ⟨_, rfl⟩
      rw [← hX] at hct C1
      obtain ⟨V, hV⟩ : ∃ V : Int, V = wtT m b n (Tr.txt t) := ⟨_, rfl⟩
      rw [← hV] at TA C1
      have HGX : Hid (∀ W : World, ArrM W (w.heap.size + 1 + 1) ((charL m b n).take (k + 1) ++ unitL.drop (k + 1)) → ArrM (W.setCell ⟨w.heap.size + 1 + 1, k + 1, none⟩ (.int .i64 V)) (w.heap.size + 1 + 1) ((charL m b n).take (k + 1 + 1) ++ unitL.drop (k + 1 + 1))) := fun W hW => by
        have := hW.store (k := k + 1) V
        rw [mixP_step (by rw [UL.out]; omega) (by rw [EL.out, UL.out]) TA] at this
        exact this
      have hsg : g2 < wr.heap.size := by
        have h9 := hct
        rcases Nat.lt_or_ge g2 wr.heap.size with h8 | h8
        · exact h8
        · exfalso
          unfold World.cell? at h9
          simp [Array.getElem?_eq_none h8] at h9
      have q0 := HBX.out.c0
      have q1 := HBX.out.c1
      clear ht hlv hX hV TA FX2 FZ2 FBX2 FT FB2 FM2 FR2
      go_wp2_with fail
      refine C1.mono ?_
      rintro e w3 ⟨rfl, bel3⟩
      have hz3 := bel3.size
      have HX3 := HX.out.below bel3 (by omega)
      have HZ3 := Lib.hid (HZ.out.below bel3 (by omega))
      have HBX3 := Lib.hid (HBX.out.next bel3)
      have HT3 : Hid (∀ k t, mapTx[k]? = some t → w3.cell? ⟨g2, k, none⟩ = some (.string ⟨t.toArray⟩)) := fun j u hu => (bel3.cell (p := ⟨g2, j, none⟩) hsg).trans (HT.out j u hu)
      have HM3 := Lib.hid (HM.out.below bel3 (by omega))
      have HR3 := Lib.hid (HR.out.below bel3 (by omega))
      have HB3 := Lib.hid (HB.out.trans (bel3.mono hs1))
      obtain ⟨v9, hc3⟩ : ∃ v, w3.cell? ⟨w.heap.size + 1 + 1, k + 1, none⟩ = some v := ⟨_, HX3.cell (mixP_at (us := charL m b n) (by rw [EL.out, UL.out]) (charU_at hlt))⟩
      have hf3 := HX3.free (k + 1)
      have GX := Lib.hid (HGX.out w3 HX3)
      have GZ : Hid (ArrM (w3.setCell ⟨w.heap.size + 1 + 1, k + 1, none⟩ (.int .i64 V)) (w.heap.size + 1) zero38) := HZ3.out.other (by omega) _
      have GBX : Hid (Bx (w3.setCell ⟨w.heap.size + 1 + 1, k + 1, none⟩ (.int .i64 V)) w.heap.size 57 (.slice A n c) (.slice D n d)) := by
        unfold Hid Bx
        rw [Below.heap_setCell _ _ _ _ (by show w.heap.size ≠ w.heap.size + 1 + 1; omega)]; exact HBX3.out
      have GT : Hid (∀ j t, mapTx[j]? = some t → (w3.setCell ⟨w.heap.size + 1 + 1, k + 1, none⟩ (.int .i64 V)).cell? ⟨g2, j, none⟩ = some (.string ⟨t.toArray⟩)) := fun j t ht => cell_other (HT3.out j t ht) (by omega)
      have hbs : Below w.heap.size w3 (w3.setCell ⟨w.heap.size + 1 + 1, k + 1, none⟩ (.int .i64 V)) := below_set (Below.refl _ _) (by omega) _
      have GM := Lib.hid (HM3.out.below hbs hB)
      have GR := Lib.hid (HR3.out.below hbs hB')
      have GB : Hid (Below w.heap.size w (w3.setCell ⟨w.heap.size + 1 + 1, k + 1, none⟩ (.int .i64 V))) := HB3.out.trans hbs
      clear HX HZ HBX HT HM HR HB HX3 HZ3 HBX3 HT3 HM3 HR3 HB3 bel3 hct C1 HGX q0 q1 hbs
      go_wp2
      go_roundw
      case rel => exact ⟨k + 1, by omega, by go_num, GX, GZ, GBX, GT, GM, GR, GB⟩
      case measure => simp [intOf]; omega
    · obtain rfl : k = 37 := by omega
      have GX : Hid (ArrM wr (w.heap.size + 1 + 1) (charL m b n)) := by
        have := HX.out
        rw [mixP_end EL.out UL.out] at this
        exact this
      clear HX FX2 FZ2 FBX2 FT FB2 FM2 FR2 HT HM HR HBX
      obtain ⟨CL, hCL⟩ : ∃ C, C = charL m b n := ⟨_, rfl⟩
      have HCL := Lib.hid hCL
      rw [← hCL] at GX EL
      clear hCL
      go_wp2_with (first
        | (refine wpList_load_row rfl 73 (.tmp 3) rfl (w.heap.size + 1 + 1) rfl 73 (arrM CL) (0, 0) _ GX.out Tryz.underlying73 rfl (by rw [arrM_size EL.out]; exact info_arrM) ?_)
        | (refine wpList_store_row rfl 73 (.tmp 2) (.tmp 22) rfl (w.heap.size + 1) (arrM CL) rfl rfl 73 (arrM zero38) HZ.out (by rw [arrM_size EL.out]; exact info_arrM) (by rw [arrM_size EL.out]; rfl) (arrM_cells _) ?_))
      refine bodyPost_ret (v := .agg (arrM CL)) ?_ rfl ⟨by rw [HCL.out], below_setRow HB.out (by omega) _⟩
      exact results_cell_row rfl _ _ (w.heap.size + 1) 73 _ (0, 0) _ rfl (setRow_heap _ _ _ _ _ _ HZ.out) Tryz.underlying73 rfl (by rw [arrM_size EL.out]; exact info_arrM)
/-- what CharacterOf answers -/
def characterA (m : List (List Int)) (b : List Int) : List Int × Int := if isTabB m b = true then (charL m b b.length, 0) else ([], 1)
end Go.Proofs.YtpngohklicgbjaaGreat
/-
  A number that a call hands back.
-/
namespace Go.Proofs.YtpngohklicgbjaaGreat
open Go.RowKit
/-- one number, with memory made -/
def Res1 (r : Int) (w : World) (e : Ending) (w' : World) : Prop := e = .returned (.int .i64 r) ∧ Below w.heap.size w w'
theorem Res1.of {r x : Int} {w w' : World} (h : r = x) (hb : Below w.heap.size w w') : Res1 r w (.returned (.int .i64 x)) w' := by subst h; exact ⟨rfl, hb⟩
end Go.Proofs.YtpngohklicgbjaaGreat
/-
  Densities.
-/
namespace Go.Proofs.YtpngohklicgbjaaGreat
open Go.RowKit Fld
set_option linter.unusedVariables false
set_option linter.unusedSimpArgs false
set_option maxRecDepth 100000

def PDen (d : Nat) : Prop := ∀ (x : List UInt8) (w : World), x.length ≤ d → Tr.isTx x = true → Calls Tryz.prog 46 #[.string ⟨x.toArray⟩] w (Res1 (Tr.den x) w)
theorem pDen_succ (d : Nat) (IH : PDen d) : PDen (d + 1) := by
  intro x w hxd hx
  obtain ⟨⟨h2, h16⟩, HB, h7⟩ := Tr.br_parts hx
  obtain ⟨hD, hK⟩ := Tr.den_parts hx
  have C1 := fun w => branches_any x w hx
  have C0 := nodes_any x w (by omega)
  have HD := Lib.hid hD
  have HK := Lib.hid hK
  have HBR := Lib.hid HB
  obtain ⟨P, hP⟩ : ∃ P, P = (Tr.brT x).length := ⟨_, rfl⟩
  have HP : Hid ((Tr.brT x).length = P) := hP.symm
  have hP7 : P ≤ 7 := by rw [hP]; exact h7
  have HXD := Lib.hid hxd
  obtain ⟨S, hS⟩ : ∃ S : ByteArray, S = ⟨x.toArray⟩ := ⟨_, rfl⟩
  rw [← hS] at C0 C1 ⊢
  clear hD hK HB h7 hP hxd hx hS
  go_enter Tryz.func46, Tryz.ntmps46
  go_wp2_with fail
  refine C0.mono ?_
  rintro e w0 ⟨rfl, rfl⟩
  have hw0 : IntKind.i64.wrap ((x.length / 2 : Nat) : Int) = ((x.length / 2 : Nat) : Int) := IntWalk.i64_in _ (by omega)
  go_wp2_with fail
  refine (C1 _).mono ?_
  rintro e w1 ⟨A, q, c, rfl, hq, own1, bel1⟩
  have hqP : q = P := by rw [hq]; exact HP.out
  subst hqP
  have hs1 := bel1.size
  have HROW : Hid (Row w1 w1.heap.size A (strs (Tr.brT x))) := row_of_own own1
  have HB1 := Lib.hid bel1
  clear hq own1 bel1 C0 C1
  go_wp2_with fail
  go_loopw [3, 11] (fun v i wr => ∃ k : Nat, k ≤ q ∧ v = .int .i64 (Tr.mulK Tr.den ((x.length / 2 : Nat) : Int) (Tr.brT x) k) ∧ i = .int .i64 k ∧ Below w1.heap.size w1 wr) (fun _ i _ => q - (intOf i).toNat)
  case atStart => exact ⟨0, Nat.zero_le _, by simp [Tr.mulK_zero], rfl, Below.refl _ _⟩
  case round =>
    obtain ⟨k, hk, rfl, rfl, HBw⟩ := hrel
    have hsz := HBw.size
    by_cases hlt : k < q
    · obtain ⟨y, hy⟩ := at_lt (show k < (Tr.brT x).length by rw [HP.out]; exact hlt)
      obtain ⟨hyt, hyl⟩ := HBR.out y (List.mem_of_getElem? hy)
      obtain ⟨b, o, rfl, _, hc⟩ := (HROW.out.below HBw (Nat.le_refl _)) k _ (strs_at hy)
      have C2 := fun w => IH y w (by have := HXD.out; omega) hyt
      have hk1 := HK.out k (by rw [HP.out]; omega)
      have hk2 := HK.out (k + 1) (by rw [HP.out]; omega)
      have hstep := Tr.mulK_step (f := Tr.den) (a := ((x.length / 2 : Nat) : Int)) hy
      obtain ⟨a, ha⟩ : ∃ a, a = Tr.mulK Tr.den ((x.length / 2 : Nat) : Int) (Tr.brT x) k := ⟨_, rfl⟩
      rw [hstep] at hk2
      rw [← ha] at hk1 hk2 ⊢
      have HST : Hid (Tr.mulK Tr.den ((x.length / 2 : Nat) : Int) (Tr.brT x) (k + 1) = a * Tr.den y) := by rw [ha]; exact hstep
      obtain ⟨z, hz⟩ : ∃ z, z = Tr.den y := ⟨_, rfl⟩
      rw [← hz] at hk2 HST C2
      obtain ⟨Y, hY⟩ : ∃ Y : ByteArray, Y = ⟨y.toArray⟩ := ⟨_, rfl⟩
      rw [← hY] at C2 hc
      have hmw : IntKind.i64.wrap (a * z) = a * z := IntWalk.i64_in _ (by omega)
      have HBW := Lib.hid HBw
      clear hy hyt hyl hstep ha hz hY HBw hk1
      go_wp2_with fail
      refine (C2 _).mono ?_
      rintro e w2 ⟨rfl, bel2⟩
      have HB2 : Hid (Below w1.heap.size w1 w2) := HBW.out.trans (bel2.mono hsz)
      clear bel2 hk2
      go_wp2
      go_roundw
      case rel => exact ⟨k + 1, by omega, by rw [HST.out], by go_num, HB2.out⟩
      case measure => simp [intOf]; omega
    · obtain rfl : k = q := by omega
      have G : Hid (Res1 (Tr.den x) w (.returned (.int .i64 (Tr.mulK Tr.den ((x.length / 2 : Nat) : Int) (Tr.brT x) k))) wr) :=
        Res1.of (by rw [HD.out, HP.out]) (HB1.out.trans (HBw.mono hs1))
      clear HBw
      go_wp2
      go_ret
      exact G.out
theorem density_any (x : List UInt8) (w : World) (hx : Tr.isTx x = true) : Calls Tryz.prog 46 #[.string ⟨x.toArray⟩] w (Res1 (Tr.den x) w) := by
  have key : ∀ d, PDen d := fun d => by
    induction d with
    | zero => intro y w hy ht; have := (Tr.br_parts ht).1.1; omega
    | succ d ih => exact pDen_succ d ih
  exact key x.length x w (Nat.le_refl _) hx
def densityA (t : List Int) : Int × Int := if Tr.isLv t = true then (Tr.denM t, 0) else (0, 1)
theorem densityA_yes {t : List Int} (h : Tr.isLv t = true) : densityA t = (Tr.denM t, 0) := if_pos h
theorem densityA_no {t : List Int} (h : Tr.isLv t = false) : densityA t = (0, 1) := if_neg (by rw [h]; simp)
theorem pDensityOf_L (A : Option Addr) (n c B : Nat) (t : List Int) (w : World) (hl : t.length = n) (hn : n ≤ 1048576) (hB : B ≤ w.heap.size) (h : Row w B A (ints t)) (hc : n ≤ c) :
    Calls Tryz.prog 20 #[.slice A n c] w (ResI (densityA t) w) := by
  have C0 := isLevels_any A n c B t w hl (by omega) h
  cases hlv : Tr.isLv t
  · have G := Lib.hid (densityA_no hlv)
    rw [hlv] at C0
    go_enter Tryz.func20, Tryz.ntmps20
    go_wp2_with fail
    refine C0.mono ?_
    rintro e w' ⟨rfl, m, rfl⟩
    go_wp2
    go_ret2
    exact ResI.of' G.out (below_drewN (Below.refl _ _) _)
  · rw [hlv] at C0
    obtain ⟨b1, b8⟩ := lv_bd hlv
    rw [hl] at b1 b8
    have HL := Lib.hid hl
    have G := Lib.hid (densityA_yes hlv)
    have C3 := fun w => density_any (Tr.txt t) w (Tr.tx_txt hlv)
    rw [(Tr.denM_parts hlv).2] at C3
    clear hl hlv
    go_enter Tryz.func20, Tryz.ntmps20
    go_wp2_with fail
    refine C0.mono ?_
    rintro e w' ⟨rfl, m, rfl⟩
    go_wp2_with fail
    refine (treeOf_any A n c B t _ HL.out b1 b8 hc (by exact hB) (h.drewN m)).mono ?_
    rintro e w2 ⟨rfl, bel2⟩
    go_wp2_with fail
    refine (C3 _).mono ?_
    rintro e w3 ⟨rfl, bel3⟩
    have GB : Hid (Below w.heap.size w w3) := (below_undrew' bel2).trans (bel3.mono bel2.size)
    clear bel2 bel3
    go_wp2
    go_ret2
    exact ResI.of' G.out GB.out
def SDen (d : Nat) : Prop := ∀ (A : Option Addr) (n c B : Nat) (t : List Int) (w : World), t.length = n → n ≤ d → Tr.isLv t = true → B ≤ w.heap.size → Row w B A (ints t) → Calls Tryz.prog 100 #[.slice A n c] w (Res1 (Tr.denM t) w)
theorem sDen_succ (d : Nat) (IH : SDen d) : SDen (d + 1) := by
  intro A n c B t w hl hnd hlv hB h
  have n8 : n ≤ 8 := by have := (Tr.isLv_iff.1 hlv).2.1; omega
  obtain ⟨_, PS, P7⟩ := Tr.can_parts hlv
  obtain ⟨⟨hD, hK⟩, _⟩ := Tr.denM_parts hlv
  rw [hl] at hD hK
  have HD := Lib.hid hD
  have HK := Lib.hid hK
  have HPS := Lib.hid PS
  have HL := Lib.hid hl
  obtain ⟨P, hP⟩ : ∃ P, P = (Tr.partsL t).length := ⟨_, rfl⟩
  have HP : Hid ((Tr.partsL t).length = P) := hP.symm
  have C0 := l03Parts_any A n c B t w hl hlv hB h
  rw [HP.out] at C0
  have hP7 : P ≤ 7 := by rw [hP]; exact P7
  clear hl hlv PS P7 hP hD hK
  go_enter Tryz.func100, Tryz.ntmps100
  have hw0 : IntKind.i64.wrap (n : Int) = (n : Int) := IntWalk.i64_in _ (by omega)
  go_wp2_with fail
  refine C0.mono ?_
  rintro e w1 ⟨Ap, cp, pvs, rfl, ownp, belp⟩
  have HMP : Hid (Mat w1 w1.heap.size Ap (Tr.partsL t)) := ownp.mat
  have HB1 := Lib.hid belp
  have hs1 := belp.size
  clear ownp belp C0
  go_wp2_with fail
  go_loopw [3, 5] (fun v i wr => ∃ k : Nat, k ≤ P ∧ v = .int .i64 (Tr.mulK Tr.denM (n : Int) (Tr.partsL t) k) ∧ i = .int .i64 k ∧ Below w1.heap.size w1 wr) (fun _ i _ => P - (intOf i).toNat)
  case atStart => exact ⟨0, Nat.zero_le _, by simp [Tr.mulK_zero], rfl, Below.refl _ _⟩
  case round =>
    obtain ⟨k, hk, rfl, rfl, HBw⟩ := hrel
    have hsz := HBw.size
    by_cases hlt : k < P
    · obtain ⟨p, hp⟩ := at_lt (show k < (Tr.partsL t).length by rw [HP.out]; exact hlt)
      obtain ⟨bp, op, Ak, ck, rfl, hbp, hcp, hlc, hcm, hrp⟩ := HMP.out.below HBw (Nat.le_refl _) k p hp
      obtain ⟨hpl, hpt⟩ := HPS.out p (List.mem_of_getElem? hp)
      have C2 := fun w' (hw' : w1.heap.size ≤ w'.heap.size) hr => IH Ak p.length ck w1.heap.size p w' rfl (by have := HL.out; omega) hpl hw' hr
      have hk2 := HK.out (k + 1) (by rw [HP.out]; omega)
      have hstep := Tr.mulK_step (f := Tr.denM) (a := (n : Int)) hp
      obtain ⟨a, ha⟩ : ∃ a, a = Tr.mulK Tr.denM (n : Int) (Tr.partsL t) k := ⟨_, rfl⟩
      rw [hstep] at hk2
      rw [← ha] at hk2 ⊢
      have HST : Hid (Tr.mulK Tr.denM (n : Int) (Tr.partsL t) (k + 1) = a * Tr.denM p) := by rw [ha]; exact hstep
      obtain ⟨z, hz⟩ : ∃ z, z = Tr.denM p := ⟨_, rfl⟩
      rw [← hz] at hk2 HST C2
      have hmw : IntKind.i64.wrap (a * z) = a * z := IntWalk.i64_in _ (by omega)
      have HBW := Lib.hid HBw
      clear hp hpl hpt hstep ha hz HBw
      go_wp2_with fail
      refine (C2 _ (by exact hsz) (by exact hrp)).mono ?_
      rintro e w2 ⟨rfl, bel2⟩
      have HB2 : Hid (Below w1.heap.size w1 w2) := HBW.out.trans (bel2.mono hsz)
      clear bel2 hk2 hcp
      go_wp2
      go_roundw
      case rel => exact ⟨k + 1, by omega, by rw [HST.out], by go_num, HB2.out⟩
      case measure => simp [intOf]; omega
    · obtain rfl : k = P := by omega
      have G : Hid (Res1 (Tr.denM t) w (.returned (.int .i64 (Tr.mulK Tr.denM (n : Int) (Tr.partsL t) k))) wr) :=
        Res1.of (by rw [HD.out, HP.out]) (HB1.out.trans (HBw.mono hs1))
      clear HBw
      go_wp2
      go_ret
      exact G.out
theorem l03Density_any (A : Option Addr) (n c B : Nat) (t : List Int) (w : World) (hl : t.length = n) (hlv : Tr.isLv t = true) (hB : B ≤ w.heap.size) (h : Row w B A (ints t)) : Calls Tryz.prog 100 #[.slice A n c] w (Res1 (Tr.denM t) w) := by
  have key : ∀ d, SDen d := fun d => by
    induction d with
    | zero => intro A n c B t w hl hn hlv; have := (Tr.isLv_iff.1 hlv).1; omega
    | succ d ih => exact sDen_succ d ih
  exact key n A n c B t w hl (Nat.le_refl _) hlv hB h
end Go.Proofs.YtpngohklicgbjaaGreat
/-
  Residuals of trees, the program's and the model's.
-/
namespace Go.Proofs.YtpngohklicgbjaaGreat
open Go.RowKit Fld
set_option linter.unusedVariables false
set_option linter.unusedSimpArgs false
set_option maxRecDepth 100000

/-- what the weight of a tree has more than it should -/
def resT (m : List (List Int)) (b : List Int) (n : Nat) (t : List Int) : Int := (wtT m b n (Tr.txt t) - inv (Tr.denM t % 10007)) % 10007
def resL (m : List (List Int)) (b : List Int) (n k : Nat) : List Int := (Tr.treesL k).map (resT m b n)
theorem resL_len (m : List (List Int)) (b : List Int) (n k : Nat) : (resL m b n k).length = (Tr.treesL k).length := by simp [resL]
theorem resL_at {m : List (List Int)} {b : List Int} {n k j : Nat} {t : List Int} (h : (Tr.treesL k)[j]? = some t) : (resL m b n k)[j]? = some (resT m b n t) := by
  unfold resL; rw [List.getElem?_map, h]; rfl
theorem wtT_bd (m : List (List Int)) (b : List Int) (n : Nat) (x : List UInt8) : 0 ≤ wtT m b n x ∧ wtT m b n x < 10007 := dotK_bd _ _ _
set_option maxHeartbeats 4000000 in
theorem residuals_any (A D : Option Addr) (n c d B B' k : Nat) (m : List (List Int)) (b : List Int) (w : World) (hl : m.length = n) (hl' : b.length = n) (hn1 : 1 ≤ n) (hn : n ≤ 8) (hq : Wide m n) (hnum : ∀ r ∈ m, allNum r = true) (hnb : allNum b = true) (hk1 : 1 ≤ k) (hk6 : k ≤ 6) (hB : B ≤ w.heap.size) (hB' : B' ≤ w.heap.size) (h : Mat w B A m) (r : Row w B' D (ints b)) :
    Calls Tryz.prog 44 #[.agg #[.slice A n c, .slice D n d], .int .i64 (k : Int)] w (NewRow 68 (Tr.treesL k).length (ints (resL m b n k)) w) := by
  obtain ⟨i0, hi, hz0, hz1, hz2⟩ := info_parts info_numR
  have HL := Lib.hid hl
  have HL' := Lib.hid hl'
  have HQ := Lib.hid hq
  have HN := Lib.hid hnum
  have HNB := Lib.hid hnb
  obtain ⟨W0, hW0⟩ : ∃ W0, W0 = w.alloc (.cells #[.slice A n c, .slice D n d] 57) := ⟨_, rfl⟩
  have HB0 : Hid (Below w.heap.size w W0) := by rw [hW0]; exact (Below.refl _ _).alloc (Nat.le_refl _) _
  have HX0 : Hid (Bx W0 w.heap.size 57 (.slice A n c) (.slice D n d)) := by rw [hW0]; exact Bx.new _ _ _ _
  have hz0' : w.heap.size < W0.heap.size := HX0.out.lt
  have HM0 := Lib.hid (h.below HB0.out hB)
  have HR0 := Lib.hid (r.below HB0.out hB')
  have C1 := treesWith_any k W0 (by omega) (by omega)
  obtain ⟨ha, h115⟩ := trees_all (n := k) (by omega) (by omega)
  have HRL := Lib.hid (resL_len m b n k)
  have HRA : Hid (∀ j t, (Tr.treesL k)[j]? = some t → (resL m b n k)[j]? = some (resT m b n t)) := fun j t h => resL_at h
  obtain ⟨T, hT⟩ : ∃ T, T = Tr.treesL k := ⟨_, rfl⟩
  rw [← hT] at C1 h115 ha HRL HRA
  have HLV : Hid (∀ r ∈ T, Tr.isLv r = true) := fun r hr => (ha r hr).1
  have GT : Hid ((Tr.treesL k).length = T.length) := by rw [Hid, hT]
  rw [GT.out]
  obtain ⟨N, hN⟩ : ∃ N, N = T.length := ⟨_, rfl⟩
  rw [← hN] at C1 h115 HRL ⊢
  have HNN : Hid (T.length = N) := hN.symm
  clear hl hl' hq hnum hnb h r hT hN ha GT
  go_enter Tryz.func44, Tryz.ntmps44
  go_wp2_with fail
  rw [← hW0]
  clear hW0
  refine C1.mono ?_
  rintro e w1 ⟨A1, c1, vs1, rfl, own1, bel1⟩
  have hs1 := bel1.size
  have HM1 : Hid (Mat w1 w1.heap.size A1 T) := own1.mat
  have HB1 := Lib.hid bel1
  clear own1 bel1 C1
  go_wp2_with fail
  refine (treesOf_any A1 N c1 w1.heap.size T _ HNN.out (by omega) HLV.out (Nat.le_refl _) HM1.out).mono ?_
  rintro e w2 ⟨rfl, own2, bel2⟩
  have hs2 := bel2.size
  have HROW := Lib.hid (row_of_own own2)
  have HB2 := Lib.hid (HB1.out.trans (bel2.mono hs1))
  have HBW := Lib.hid (HB0.out.trans (HB2.out.mono (Nat.le_of_lt hz0')))
  have HX2 := Lib.hid (HX0.out.next HB2.out)
  have HM2 := Lib.hid (HM0.out.below HB2.out (by omega))
  have HR2 := Lib.hid (HR0.out.below HB2.out (by omega))
  clear own2 bel2 HM1 HB1 HB0 HX0 HM0 HR0
  go_wp2_with fail
  go_loopw [5, 12] (fun v i wr => ∃ (j c5 : Nat) (A5 : Option Addr), j ≤ N ∧ v = .slice A5 j c5 ∧ i = .int .i64 j ∧ Hid (wr.ownsRow w2.heap.size 68 1 (.slice A5 j c5) j (ints ((resL m b n k).take j))) ∧ Hid (Below w2.heap.size w2 wr)) (fun _ i _ => N - (intOf i).toNat)
  case atStart => exact ⟨0, 0, none, Nat.zero_le _, rfl, rfl, World.ownsRow_nil .., Below.refl _ _⟩
  case round =>
    obtain ⟨j, c5, A5, hj, rfl, rfl, HO, HB⟩ := hrel
    by_cases hlt : j < N
    · obtain ⟨t, ht⟩ := at_lt (show j < T.length by rw [HNN.out]; exact hlt)
      have hlv := HLV.out t (List.mem_of_getElem? ht)
      have hsz := HB.out.size
      have hbt : (T.map Tr.txt)[j]? = some (Tr.txt t) := by rw [List.getElem?_map, ht]; rfl
      obtain ⟨b3, o3, e3, _, hcb⟩ := (HROW.out.below HB.out (Nat.le_refl _)) j _ (strs_at hbt)
      injection e3 with e3
      injection e3 with e4 e5
      subst e4 e5
      rw [Nat.zero_add] at hcb
      have hbx := HX2.out.next HB.out
      have q0 := hbx.c0
      have q1 := hbx.c1
      have C1 := weight_any (Tr.txt t) A D n c d B B' m b wr (Tr.tx_txt hlv) HL.out HL'.out hn1 hn HQ.out HN.out HNB.out (by have := HBW.out.size; omega) (by have := HBW.out.size; omega) (HM2.out.below HB.out (by have := HBW.out.size; omega)) (HR2.out.below HB.out (by have := HBW.out.size; omega))
      have C2 := fun w' => density_any (Tr.txt t) w' (Tr.tx_txt hlv)
      rw [(Tr.denM_parts hlv).2] at C2
      obtain ⟨d1, d2⟩ := Tr.denM_bd hlv
      have TA := HRA.out j t ht
      obtain ⟨x0, x1⟩ := wtT_bd m b n (Tr.txt t)
      have ER : resT m b n t = (wtT m b n (Tr.txt t) - inv (Tr.denM t % 10007)) % 10007 := rfl
      rw [ER] at TA
      have y0 := inv_lo (Tr.denM t % 10007)
      have y1 := inv_hi (Tr.denM t % 10007)
      have C3 := fun w' => inverse_any (Tr.denM t % 10007) w' (by omega) (by omega)
      obtain ⟨X, hX⟩ : ∃ X : ByteArray, X = ⟨(Tr.txt t).toArray⟩ := ⟨_, rfl⟩
      rw [← hX] at hcb C1 C2
      obtain ⟨U, hU⟩ : ∃ U : Int, U = wtT m b n (Tr.txt t) := ⟨_, rfl⟩
      obtain ⟨DD, hD⟩ : ∃ D : Int, D = Tr.denM t := ⟨_, rfl⟩
      rw [← hU] at C1 TA x0 x1
      rw [← hD] at C2 C3 TA y0 y1 d1 d2
      obtain ⟨Y, hY⟩ : ∃ Y : Int, Y = inv (DD % 10007) := ⟨_, rfl⟩
      rw [← hY] at TA y0 y1
      simp only [← hY] at C3
      obtain ⟨Z, hZ⟩ : ∃ Z : Int, Z = (U - Y) % 10007 := ⟨_, rfl⟩
      rw [← hZ] at TA
      have C4 : Hid (∀ w', Calls Tryz.prog 75 #[.int .i64 U, .int .i64 Y] w' fun e w'' => e = .returned (.int .i64 Z) ∧ w' = w'') := fun w' => by rw [hZ]; exact minus_any U Y w' x0 x1 y0 y1
      have HE : Hid (ints ((resL m b n k).take j) ++ [.int .i64 Z] = ints ((resL m b n k).take (j + 1))) := grow_ints TA
      have j0 : (0 : Int) ≤ (j : Int) := Int.natCast_nonneg _
      clear ht hbt hlv hX hU hD hY hZ TA hbx ER x0 x1 y0 y1
      go_wp2_with fail
      refine C1.mono ?_
      rintro e w3 ⟨rfl, be3⟩
      have hs3 := be3.size
      have HB3 := Lib.hid (HB.out.trans (be3.mono hsz))
      have HO3 := Lib.hid ((OwnR.of HO.out).below be3 (Nat.le_refl _)).1
      clear be3 C1 q0 q1 hcb HB HO
      go_wp2_with fail
      refine (C2 _).mono ?_
      rintro e w4 ⟨rfl, be4⟩
      have hs4 := be4.size
      have HB4 := Lib.hid (HB3.out.trans (be4.mono (by omega)))
      have hown := ((OwnR.of HO3.out).below be4 (Nat.le_refl _)).1
      clear be4 C2 HB3 HO3
      go_wp2_with fail
      refine (reduced_any DD _).mono ?_
      rintro e w' ⟨rfl, rfl⟩
      go_wp2_with fail
      refine (C3 _).mono ?_
      rintro e w' ⟨rfl, rfl⟩
      go_wp2_with fail
      refine (C4.out _).mono ?_
      rintro e w' ⟨rfl, rfl⟩
      clear C3
      go_wp2_with (at_builtin; refine wpList_append_lies _ rfl (.tmp 16) (.tmp 25) 53 rfl w2.heap.size 68 i0 _ 1 8 Tryz.underlying53 hi hz0 hz1 hz2 rfl (by omega) (.slice A5 j c5) j (ints ((resL m b n k).take j)) rfl (hown.alloc _) ⟨w4.heap.size, 0, none⟩ 1 1 [.int .i64 Z] rfl rfl (World.news_of_block (cs := #[.int .i64 Z]) (heap_alloc_new _ _)) (by simp [Value.oneCell']) (by omega) (by simp only [maxLen]; omega) (by omega) (by simp; omega) (w4.heap.size + 1) (by simp) ?_; intro g5 cap5 w5 hown5 hgrow5 hat5 hlt5)
      have hown5' := hown5
      rw [HE.out] at hown5'
      have GO := Lib.hid hown5'
      have GB : Hid (Below w2.heap.size w2 w5) := (HB4.out.alloc (by omega) _).grown hgrow5 (by simp; omega) (fun z hz => (hown.lt z hz).1)
      clear hown5 hown5' hgrow5 hat5 hown
      go_wp2
      go_roundw
      case rel => exact ⟨j + 1, cap5, _, by omega, rfl, by go_num, GO, GB⟩
      case measure => simp [intOf]; omega
    · obtain rfl : j = N := by omega
      have GO : Hid (NewRow 68 j (ints (resL m b n k)) w (.returned (.slice A5 j c5)) wr) := by
        have := HO.out
        rw [List.take_of_length_le (by rw [HRL.out]; exact Nat.le_refl _)] at this
        exact ⟨_, _, rfl, ((OwnR.of this).more HBW.out.size (Nat.le_refl _)).1, HBW.out.trans (HB.out.mono HBW.out.size)⟩
      clear HO HB
      go_wp2
      go_ret
      exact GO.out
set_option maxHeartbeats 2000000 in
theorem l09Residual_any (t : List Int) (A D A2 : Option Addr) (n c d n2 c2 B B' B2 : Nat) (m : List (List Int)) (b : List Int) (w : World) (hlv : Tr.isLv t = true) (hl2 : t.length = n2) (hl : m.length = n) (hl' : b.length = n) (hn1 : 1 ≤ n) (hn : n ≤ 8) (hq : Wide m n) (hnum : ∀ r ∈ m, allNum r = true) (hnb : allNum b = true) (hB : B ≤ w.heap.size) (hB' : B' ≤ w.heap.size) (hB2 : B2 ≤ w.heap.size) (h : Mat w B A m) (r : Row w B' D (ints b)) (h2 : Row w B2 A2 (ints t)) :
    Calls Tryz.prog 73 #[.agg #[.slice A n c, .slice D n d], .slice A2 n2 c2] w fun e w' => e = .returned (.int .i64 (resT m b n t)) ∧ Below w.heap.size w w' := by
  obtain ⟨W0, hW0⟩ : ∃ W0, W0 = w.alloc (.cells #[.slice A n c, .slice D n d] 27) := ⟨_, rfl⟩
  have HB : Hid (Below w.heap.size w W0) := by rw [hW0]; exact (Below.refl _ _).alloc (Nat.le_refl _) _
  have hz := HB.out.size
  have HT := Lib.hid (h2.below HB.out hB2)
  have C1 := l09Weight_any t A D A2 n c d n2 c2 B B' B2 m b W0 hlv hl2 hl hl' hn1 hn hq hnum hnb (by omega) (by omega) (by omega) (h.below HB.out hB) (r.below HB.out hB') HT.out
  have C2 := fun W (hW : Below W0.heap.size W0 W) => l03Density_any A2 n2 c2 B2 t W hl2 hlv (by have := hW.size; omega) (HT.out.below hW (by omega))
  obtain ⟨d1, d2⟩ := Tr.denM_bd hlv
  obtain ⟨x0, x1⟩ := wtT_bd m b n (Tr.txt t)
  have HER : Hid (resT m b n t = (wtT m b n (Tr.txt t) - inv (Tr.denM t % 10007)) % 10007) := rfl
  have y0 := inv_lo (Tr.denM t % 10007)
  have y1 := inv_hi (Tr.denM t % 10007)
  obtain ⟨U, hU⟩ : ∃ U : Int, U = wtT m b n (Tr.txt t) := ⟨_, rfl⟩
  obtain ⟨DD, hD⟩ : ∃ D : Int, D = Tr.denM t := ⟨_, rfl⟩
  rw [← hU] at C1 HER x0 x1
  rw [← hD] at HER y0 y1 d1 d2
  simp only [← hD] at C2
  have C3 := fun w' => l01Frac_any 1 DD w'
  obtain ⟨Y, hY⟩ : ∃ Y : Int, Y = inv (DD % 10007) := ⟨_, rfl⟩
  rw [← hY] at HER y0 y1
  simp only [← hY] at C3
  have ev : 1 % 10007 * Y % 10007 = Y := by omega
  rw [ev] at C3
  have C4 := fun w' => l01Sub_any U Y w' x0 x1 y0 y1
  clear hlv hl2 hl hl' hq hnum hnb h r h2 hU hD hY ev
  go_enter Tryz.func73, Tryz.ntmps73
  go_wp2_with fail
  rw [← hW0]
  clear hW0
  refine C1.mono ?_
  rintro e w1 ⟨rfl, b1⟩
  have HB1 := Lib.hid (HB.out.trans (b1.mono hz))
  have C2' := C2 w1 b1
  have hz1 := b1.size
  clear b1 C1 C2
  go_wp2_with fail
  refine C2'.mono ?_
  rintro e w2 ⟨rfl, b2⟩
  have HB2 := Lib.hid (HB1.out.trans (b2.mono HB1.out.size))
  clear b2 C2'
  go_wp2_with fail
  refine (C3 _).mono ?_
  rintro e w' ⟨rfl, rfl⟩
  go_wp2_with fail
  refine (C4 _).mono ?_
  rintro e w' ⟨rfl, rfl⟩
  clear C3 C4
  go_wp2
  go_ret
  exact ⟨ret_i64 HER.out.symm, HB2.out⟩
/-- the code of a tableau and a number of nodes -/
def codeTN (m : List (List Int)) (b : List Int) (k : Int) : Int := if isTabB m b = true then (if 1 ≤ k ∧ k ≤ 6 then 0 else 2) else 1
def residualsA (m : List (List Int)) (b : List Int) (k : Int) : List Int × Int := if isTabB m b = true then (if 1 ≤ k ∧ k ≤ 6 then (resL m b b.length k.toNat, 0) else ([], 2)) else ([], 1)
set_option maxHeartbeats 4000000 in
theorem pResidualsOf_L (A D : Option Addr) (n c n' d B B' : Nat) (m : List (List Int)) (b : List Int) (k : Int) (w : World) (hl : m.length = n) (hl' : b.length = n') (hn : n ≤ 9223372036854775807) (hn' : n' ≤ 9223372036854775807) (hB : B ≤ w.heap.size) (hB' : B' ≤ w.heap.size) (h : Mat w B A m) (r : Row w B' D (ints b)) (hk : -9223372036854775808 ≤ k ∧ k ≤ 9223372036854775807) :
    Calls Tryz.prog 18 #[.agg #[.slice A n c, .slice D n' d], .int .i64 k] w (ResL (residualsA m b k) w) := by
  have HL := Lib.hid hl
  have HL' := Lib.hid hl'
  obtain ⟨k0, k1⟩ := hk
  obtain ⟨W0, hW0⟩ : ∃ W0, W0 = w.alloc (.cells #[.slice A n c, .slice D n' d] 27) := ⟨_, rfl⟩
  have HB : Hid (Below w.heap.size w W0) := by rw [hW0]; exact (Below.refl _ _).alloc (Nat.le_refl _) _
  have HM : Hid (Mat W0 B A m) := h.below HB.out hB
  have HR : Hid (Row W0 B' D (ints b)) := r.below HB.out hB'
  have HX : Hid (Bx W0 w.heap.size 27 (.slice A n c) (.slice D n' d)) := by rw [hW0]; exact Bx.new _ _ _ _
  have hz := HB.out.size
  clear hl hl' h r
  cases ht : isTabB m b
  · have G : Hid (residualsA m b k = ([], 1)) := by unfold residualsA; rw [Hid, if_neg (by rw [ht]; simp)]
    go_enter Tryz.func18, Tryz.ntmps18
    go_wp2_with fail
    rw [← hW0]
    refine (isTableau_any A D n c n' d B B' m b W0 HL.out HL'.out hn hn' (by omega) (by omega) HM.out HR.out).mono ?_
    rintro e w2 ⟨rfl, b2⟩
    rw [ht]
    have HB2 := Lib.hid (HB.out.trans (b2.mono HB.out.size))
    clear b2 hW0 ht
    go_wp2
    go_ret2
    exact ResL.nil G.out HB2.out
  · by_cases hr : 1 ≤ k ∧ k ≤ 6
    · obtain ⟨q, rfl⟩ : ∃ q : Nat, k = (q : Int) := ⟨k.toNat, by omega⟩
      have hq1 : 1 ≤ q ∧ q ≤ 6 := by omega
      have G : Hid (residualsA m b (q : Int) = (resL m b n' q, 0)) := by unfold residualsA; rw [Hid, if_pos ht, if_pos hr, HL'.out]; rfl
      obtain ⟨t1, t2, t3, t4, t5, t6⟩ := isTabB_parts ht
      rw [HL'.out] at t1 t2 t3 t5
      have hnn : n' = n := by rw [← t3]; exact HL.out
      subst hnn
      have HW := Lib.hid t5
      have HNB := Lib.hid t4
      have HN := Lib.hid t6
      have tk0 : ¬ ((q : Int) < 1) := by omega
      clear t3 t4 t5 t6 hr
      go_enter Tryz.func18, Tryz.ntmps18
      go_wp2_with fail
      rw [← hW0]
      refine (isTableau_any A D n' c n' d B B' m b W0 HL.out HL'.out hn hn' (by omega) (by omega) HM.out HR.out).mono ?_
      rintro e w2 ⟨rfl, b2⟩
      rw [ht]
      have HB2 := Lib.hid (HB.out.trans (b2.mono HB.out.size))
      have HM2 := Lib.hid (HM.out.below b2 (by omega))
      have HR2 := Lib.hid (HR.out.below b2 (by omega))
      have q0 := (HX.out.next b2).c0
      have q1 := (HX.out.next b2).c1
      have hz2 := b2.size
      clear b2 hW0 ht
      go_wp2_with fail
      refine (schemeOf_any A D n' c n' d B B' n' m b w2 HL.out HL'.out t2 HW.out (by omega) (by omega) (by omega) (by omega) HM2.out HR2.out).mono ?_
      rintro e w3 ⟨A3, c3, D3, d3, rfl, hc3, hd3, m3, r3, b3⟩
      have HB3 := Lib.hid (HB2.out.trans (b3.mono HB2.out.size))
      have HM3 := Lib.hid m3
      have HR3 := Lib.hid r3
      clear b3 q0 q1 m3 r3
      go_wp2_with fail
      refine (residuals_any A3 D3 n' c3 d3 w3.heap.size w3.heap.size q m b w3 HL.out HL'.out t1 t2 HW.out HN.out HNB.out hq1.1 hq1.2 (Nat.le_refl _) (Nat.le_refl _) HM3.out HR3.out).mono ?_
      rintro e w4 ⟨A4, c4, rfl, own4, b4⟩
      have HB4 := Lib.hid (HB3.out.trans (b4.mono HB3.out.size))
      have HR4 := Lib.hid (row_of_own own4)
      have HRL := Lib.hid (resL_len m b n' q)
      have h115 := (trees_all (n := q) (by omega) (by omega)).2
      obtain ⟨N, hN⟩ : ∃ N, N = (Tr.treesL q).length := ⟨_, rfl⟩
      rw [← hN] at HRL h115 ⊢
      clear b4 own4 hN
      go_wp2_with fail
      refine (integersOf_any A4 N c4 w4.heap.size (resL m b n' q) w4 HRL.out (by omega) (Nat.le_refl _) HR4.out).mono ?_
      rintro e w5 ⟨A5, c5, rfl, own5, b5⟩
      have HB5 := Lib.hid (HB4.out.trans (b5.mono HB4.out.size))
      have GR : Hid (ResL (residualsA m b (q : Int)) w (.returned (.tuple #[.slice A5 N c5, .int .i64 0])) w5) := ResL.of G.out HRL.out (by omega) ((OwnR.of own5).more HB4.out.size (Nat.le_refl _)).1 HB5.out
      clear b5 own5
      go_wp2
      go_ret2
      exact GR.out
    · have G : Hid (residualsA m b k = ([], 2)) := by unfold residualsA; rw [Hid, if_pos ht, if_neg hr]
      by_cases hlo : k < 1
      · go_enter Tryz.func18, Tryz.ntmps18
        go_wp2_with fail
        rw [← hW0]
        refine (isTableau_any A D n c n' d B B' m b W0 HL.out HL'.out hn hn' (by omega) (by omega) HM.out HR.out).mono ?_
        rintro e w2 ⟨rfl, b2⟩
        rw [ht]
        have HB2 := Lib.hid (HB.out.trans (b2.mono HB.out.size))
        clear b2 hW0 ht
        go_wp2
        go_ret2
        exact ResL.nil G.out HB2.out
      · have hhi : 6 < k := by omega
        go_enter Tryz.func18, Tryz.ntmps18
        go_wp2_with fail
        rw [← hW0]
        refine (isTableau_any A D n c n' d B B' m b W0 HL.out HL'.out hn hn' (by omega) (by omega) HM.out HR.out).mono ?_
        rintro e w2 ⟨rfl, b2⟩
        rw [ht]
        have HB2 := Lib.hid (HB.out.trans (b2.mono HB.out.size))
        clear b2 hW0 ht
        go_wp2
        go_ret2
        exact ResL.nil G.out HB2.out
end Go.Proofs.YtpngohklicgbjaaGreat
/-
  The first fault of a tableau, the program's and the model's.
-/
namespace Go.Proofs.YtpngohklicgbjaaGreat
open Go.RowKit Fld
set_option linter.unusedVariables false
set_option linter.unusedSimpArgs false
set_option maxRecDepth 100000

/-- where the first number that is not 0 stands, or -1 -/
def fnz : List Int → Int → Int
  | [], _ => -1
  | x :: L, i => if x = 0 then fnz L (i + 1) else i
theorem drop_atF {L : List Int} {j : Nat} {x : Int} (h : L[j]? = some x) : L.drop j = x :: L.drop (j + 1) := by
  have hlt := (List.getElem?_eq_some_iff.1 h).1
  rw [List.getElem?_eq_getElem hlt] at h
  injection h with h
  rw [List.drop_eq_getElem_cons hlt, h]
theorem fnz_next {L : List Int} {j : Nat} {i : Int} (h : L[j]? = some 0) : fnz (L.drop j) i = fnz (L.drop (j + 1)) (i + 1) := by
  rw [drop_atF h, fnz, if_pos rfl]
theorem fnz_stop {L : List Int} {j : Nat} {x i : Int} (h : L[j]? = some x) (hx : x ≠ 0) : fnz (L.drop j) i = i := by
  rw [drop_atF h, fnz, if_neg hx]
theorem fnz_end {L : List Int} {j : Nat} {i : Int} (h : L.length ≤ j) : fnz (L.drop j) i = -1 := by
  rw [List.drop_of_length_le h]; rfl
theorem treesTo_pre : ∀ (d i : Nat), ∃ X, treesTo (i + d) = treesTo i ++ X
  | 0, i => ⟨[], by simp⟩
  | d + 1, i => by
    obtain ⟨X, hX⟩ := treesTo_pre d i
    exact ⟨X ++ Tr.treesL (i + d + 1), by rw [← Nat.add_assoc, treesTo_step, hX, List.append_assoc]⟩
theorem treesTo_at {q i j : Nat} {t : List Int} (hi : i < q) (h : (Tr.treesL (i + 1))[j]? = some t) : (treesTo q)[(treesTo i).length + j]? = some t := by
  obtain ⟨X, hX⟩ := treesTo_pre (q - (i + 1)) (i + 1)
  rw [show i + 1 + (q - (i + 1)) = q by omega, treesTo_step] at hX
  have hj := (List.getElem?_eq_some_iff.1 h).1
  rw [hX, List.append_assoc, List.getElem?_append_right (by omega), Nat.add_sub_cancel_left, List.getElem?_append_left hj]; exact h
def resAll (m : List (List Int)) (b : List Int) (n k : Nat) : List Int := (treesTo k).map (resT m b n)
theorem resAll_at {m : List (List Int)} {b : List Int} {n k j : Nat} {t : List Int} (h : (treesTo k)[j]? = some t) : (resAll m b n k)[j]? = some (resT m b n t) := by
  unfold resAll; rw [List.getElem?_map, h]; rfl
theorem resAll_len (m : List (List Int)) (b : List Int) (n k : Nat) : (resAll m b n k).length = (treesTo k).length := by simp [resAll]
def faultP (m : List (List Int)) (b : List Int) (n k : Nat) : Int := fnz (resAll m b n k) 0
theorem lv_to {k : Nat} (hk : k ≤ 8) {t : List Int} (h : t ∈ treesTo k) : Tr.isLv t = true := by
  unfold treesTo at h
  rw [List.mem_flatMap] at h
  obtain ⟨n, hn, ht⟩ := h
  rw [List.mem_range] at hn
  exact ((trees_all (n := n + 1) (by omega) (by omega)).1 t ht).1
set_option maxHeartbeats 4000000 in
theorem l09Fault_any (A D : Option Addr) (n c d B B' k : Nat) (m : List (List Int)) (b : List Int) (w : World) (hl : m.length = n) (hl' : b.length = n) (hn1 : 1 ≤ n) (hn : n ≤ 8) (hq : Wide m n) (hnum : ∀ r ∈ m, allNum r = true) (hnb : allNum b = true) (hk1 : 1 ≤ k) (hk6 : k ≤ 6) (hB : B ≤ w.heap.size) (hB' : B' ≤ w.heap.size) (h : Mat w B A m) (r : Row w B' D (ints b)) :
    Calls Tryz.prog 43 #[.agg #[.slice A n c, .slice D n d], .int .i64 (k : Int)] w fun e w' => e = .returned (.int .i64 (faultP m b n k)) ∧ Below w.heap.size w w' := by
  have HL := Lib.hid hl
  have HL' := Lib.hid hl'
  have HQ := Lib.hid hq
  have HN := Lib.hid hnum
  have HNB := Lib.hid hnb
  have C1 := fun w' => l03All_any k w' (by omega) (by omega)
  have hlen := treesTo_len k (by omega)
  have HLV : Hid (∀ t ∈ treesTo k, Tr.isLv t = true) := fun t ht => lv_to (by omega) ht
  have HRA : Hid (∀ j t, (treesTo k)[j]? = some t → (resAll m b n k)[j]? = some (resT m b n t)) := fun j t h => resAll_at h
  have HRL := Lib.hid (resAll_len m b n k)
  have HF : Hid (faultP m b n k = fnz ((resAll m b n k).drop 0) (0 : Nat)) := rfl
  obtain ⟨T, hT⟩ : ∃ T, T = treesTo k := ⟨_, rfl⟩
  simp only [← hT] at C1
  rw [← hT] at hlen HLV HRA HRL
  obtain ⟨N, hN⟩ : ∃ N, N = T.length := ⟨_, rfl⟩
  have HNN : Hid (T.length = N) := hN.symm
  simp only [← hN] at C1
  rw [← hN] at hlen HRL
  obtain ⟨FP, hFP⟩ : ∃ F, F = faultP m b n k := ⟨_, rfl⟩
  have HFP := Lib.hid hFP
  rw [← hFP] at HF
  obtain ⟨RA, hRA⟩ : ∃ R, R = resAll m b n k := ⟨_, rfl⟩
  rw [← hRA] at HF HRA HRL
  obtain ⟨W0, hW0⟩ : ∃ W0, W0 = w.alloc (.cells #[.slice A n c, .slice D n d] 27) := ⟨_, rfl⟩
  have HB0 : Hid (Below w.heap.size w W0) := by rw [hW0]; exact (Below.refl _ _).alloc (Nat.le_refl _) _
  have HX0 : Hid (Bx W0 w.heap.size 27 (.slice A n c) (.slice D n d)) := by rw [hW0]; exact Bx.new _ _ _ _
  have hz0' : w.heap.size < W0.heap.size := HX0.out.lt
  have HM0 := Lib.hid (h.below HB0.out hB)
  have HR0 := Lib.hid (r.below HB0.out hB')
  clear hl hl' hq hnum hnb h r hT hN hFP hRA
  go_enter Tryz.func43, Tryz.ntmps43
  go_wp2_with fail
  rw [← hW0]
  clear hW0
  refine (C1 W0).mono ?_
  rintro e w1 ⟨A1, c1, vs1, rfl, own1, b1⟩
  have hs1 := b1.size
  have FM : Hid (Mat w1 w1.heap.size A1 T) := own1.mat
  have HB1 := Lib.hid (HB0.out.trans (b1.mono HB0.out.size))
  have HM1 := Lib.hid (HM0.out.below b1 (by omega))
  have HR1 := Lib.hid (HR0.out.below b1 (by omega))
  have HX1 := Lib.hid (HX0.out.next b1)
  clear own1 b1 C1 HM0 HR0 HX0 HB0
  go_wp2_with fail
  go_loopw [6] (fun i wr => ∃ j : Nat, j ≤ N ∧ i = .int .i64 j ∧ Hid (Below w1.heap.size w1 wr) ∧ Hid (FP = fnz (RA.drop j) (j : Int))) (fun i _ => N - (intOf i).toNat)
  case atStart => exact ⟨0, Nat.zero_le _, rfl, Below.refl _ _, HF⟩
  case round =>
    obtain ⟨j, hj, rfl, HG, HI⟩ := hrel
    by_cases hlt : j < N
    · obtain ⟨t, ht⟩ := at_lt (show j < T.length by rw [HNN.out]; exact hlt)
      have hlv := HLV.out t (List.mem_of_getElem? ht)
      obtain ⟨q1, q8⟩ := lv_bd hlv
      have hsz := HG.out.size
      obtain ⟨b1, o1, Ak, ck, rfl, hb1, hct, hlc, hcm, hrow⟩ := (FM.out.below HG.out (Nat.le_refl _)) j t ht
      have hbx := HX1.out.next HG.out
      have hmm := HM1.out.below HG.out (by omega)
      have hrr := HR1.out.below HG.out (by omega)
      have C1 := fun V (hV : Below wr.heap.size wr V) => l09Residual_any t A D Ak n c d t.length ck B B' w1.heap.size m b V hlv rfl HL.out HL'.out hn1 hn HQ.out HN.out HNB.out (by have := hV.size; omega) (by have := hV.size; omega) (by have := hV.size; omega) (hmm.below hV (by omega)) (hrr.below hV (by omega)) (hrow.below hV (by omega))
      have TA := HRA.out j t ht
      obtain ⟨V9, hV9⟩ : ∃ V : Int, V = resT m b n t := ⟨_, rfl⟩
      rw [← hV9] at TA
      simp only [← hV9] at C1
      have KK : Hid (∀ V, Below wr.heap.size wr V → V.cell? ⟨w.heap.size, 0, none⟩ = some (.slice A n c) ∧ V.cell? ⟨w.heap.size, 1, none⟩ = some (.slice D n d) ∧ V.cell? ⟨b1, o1 + j, none⟩ = some (.slice Ak t.length ck)) := fun V hV => ⟨(hbx.next hV).c0, (hbx.next hV).c1, (hV.cell (p := ⟨b1, o1 + j, none⟩) (show b1 < _ by omega)).trans hct⟩
      have j0 : (0 : Int) ≤ (j : Int) := Int.natCast_nonneg _
      have j1 : (j : Int) < (N : Int) := by omega
      have HTA := Lib.hid TA
      clear ht hlv hV9 TA hrow hmm hrr hbx hct
      go_wp2_with fail
      go_region_held3 (fun V => V.cell? ⟨w.heap.size, 0, none⟩ = some (.slice A n c) ∧ V.cell? ⟨w.heap.size, 1, none⟩ = some (.slice D n d) ∧ V.cell? ⟨b1, o1 + j, none⟩ = some (.slice Ak t.length ck))
        (first | exact KK.out _ (Below.refl _ _) | exact KK.out _ (Below.refl _ _).drew | exact KK.out _ (below_drewN (Below.refl _ _) _) | exact KK.out _ (below_undrawn (a := 1) be3))
        (first
          | (go_at_call 73; refine (C1 _ (by first | exact (Below.refl _ _).drew | exact below_drewN (Below.refl _ _) _)).mono ?_; clear C1; rintro e w3 ⟨rfl, be3⟩))
      have HB3 := Lib.hid (HG.out.trans ((show Below wr.heap.size wr w3 from below_undrawn (a := 1) be3).mono hsz))
      clear be3 KK HG
      by_cases hv : V9 = 0
      · have HI2 : Hid (FP = fnz (RA.drop (j + 1)) ((j + 1 : Nat) : Int)) := by
          rw [Hid, HI.out, fnz_next (by rw [HTA.out, hv]), Int.natCast_add, Int.natCast_one]
        subst hv
        clear HI HTA
        go_wp2
        go_roundw
        case rel => exact ⟨j + 1, by omega, by go_num, HB3, HI2⟩
        case measure => simp [intOf]; omega
      · have tv := bne_t hv
        have HI2 : Hid (FP = (j : Int)) := HI.out.trans (fnz_stop HTA.out hv)
        clear HI HTA hv
        go_wp2
        go_ret
        exact ⟨ret_i64 (by rw [← HFP.out, HI2.out]), HB1.out.trans (HB3.out.mono HB1.out.size)⟩
    · obtain rfl : j = N := by omega
      have HI2 : Hid (FP = -1) := HI.out.trans (fnz_end (by rw [HRL.out]; exact Nat.le_refl _))
      have HB3 := Lib.hid (HB1.out.trans (HG.out.mono HB1.out.size))
      clear HI HG
      go_wp2
      go_ret
      exact ⟨ret_i64 (by rw [← HFP.out, HI2.out]), HB3.out⟩
/-- what FirstFault answers -/
def faultA (m : List (List Int)) (b : List Int) (k : Int) : Int × Int := if isTabB m b = true then (if 1 ≤ k ∧ k ≤ 6 then (if faultP m b b.length k.toNat < 0 then (0, 4) else (faultP m b b.length k.toNat, 0)) else (0, 2)) else (0, 1)
theorem fnz_bd : ∀ (L : List Int) (i : Int), 0 ≤ i → -1 ≤ fnz L i ∧ fnz L i ≤ i + L.length
  | [], i, h => by simp [fnz]; omega
  | x :: L, i, h => by
    unfold fnz
    have := fnz_bd L (i + 1) (by omega)
    rw [List.length_cons]
    split <;> omega
set_option maxHeartbeats 4000000 in
theorem pFirstFault_L (A D : Option Addr) (n c n' d B B' : Nat) (m : List (List Int)) (b : List Int) (k : Int) (w : World) (hl : m.length = n) (hl' : b.length = n') (hn : n ≤ 9223372036854775807) (hn' : n' ≤ 9223372036854775807) (hB : B ≤ w.heap.size) (hB' : B' ≤ w.heap.size) (h : Mat w B A m) (r : Row w B' D (ints b)) (hk : -9223372036854775808 ≤ k ∧ k ≤ 9223372036854775807) :
    Calls Tryz.prog 17 #[.agg #[.slice A n c, .slice D n' d], .int .i64 k] w (ResI (faultA m b k) w) := by
  have HL := Lib.hid hl
  have HL' := Lib.hid hl'
  obtain ⟨k0, k1⟩ := hk
  obtain ⟨W0, hW0⟩ : ∃ W0, W0 = w.alloc (.cells #[.slice A n c, .slice D n' d] 27) := ⟨_, rfl⟩
  have HB : Hid (Below w.heap.size w W0) := by rw [hW0]; exact (Below.refl _ _).alloc (Nat.le_refl _) _
  have HM : Hid (Mat W0 B A m) := h.below HB.out hB
  have HR : Hid (Row W0 B' D (ints b)) := r.below HB.out hB'
  have HX : Hid (Bx W0 w.heap.size 27 (.slice A n c) (.slice D n' d)) := by rw [hW0]; exact Bx.new _ _ _ _
  have hz := HB.out.size
  clear hl hl' h r
  cases ht : isTabB m b
  · have G : Hid (faultA m b k = (0, 1)) := by unfold faultA; rw [Hid, if_neg (by rw [ht]; simp)]
    go_enter Tryz.func17, Tryz.ntmps17
    go_wp2_with fail
    rw [← hW0]
    refine (isTableau_any A D n c n' d B B' m b W0 HL.out HL'.out hn hn' (by omega) (by omega) HM.out HR.out).mono ?_
    rintro e w2 ⟨rfl, b2⟩
    rw [ht]
    have HB2 := Lib.hid (HB.out.trans (b2.mono HB.out.size))
    clear b2 hW0 ht
    go_wp2
    go_ret2
    exact ResI.of' G.out HB2.out
  · by_cases hr : 1 ≤ k ∧ k ≤ 6
    · obtain ⟨q, rfl⟩ : ∃ q : Nat, k = (q : Int) := ⟨k.toNat, by omega⟩
      have hq1 : 1 ≤ q ∧ q ≤ 6 := by omega
      have G : Hid (faultA m b (q : Int) = if faultP m b n' q < 0 then (0, 4) else (faultP m b n' q, 0)) := by unfold faultA; rw [Hid, if_pos ht, if_pos hr, HL'.out]; rfl
      obtain ⟨t1, t2, t3, t4, t5, t6⟩ := isTabB_parts ht
      rw [HL'.out] at t1 t2 t3 t5
      have hnn : n' = n := by rw [← t3]; exact HL.out
      subst hnn
      have HW := Lib.hid t5
      have HNB := Lib.hid t4
      have HN := Lib.hid t6
      have tk0 : ¬ ((q : Int) < 1) := by omega
      have HRA : Hid (∀ i j t, i < q → (Tr.treesL (i + 1))[j]? = some t → (resAll m b n' q)[(treesTo i).length + j]? = some (resT m b n' t)) := fun i j t hi h => resAll_at (treesTo_at hi h)
      have HRL := Lib.hid (resAll_len m b n' q)
      have HF : Hid (faultP m b n' q = fnz ((resAll m b n' q).drop (treesTo 0).length) (((treesTo 0).length : Nat) : Int)) := rfl
      have HL8 : Hid (∀ i, i ≤ q → (treesTo i).length ≤ 690) := fun i hi => by have := treesTo_len i (by omega); omega
      have HST : Hid (∀ i, (treesTo (i + 1)).length = (treesTo i).length + (Tr.treesL (i + 1)).length) := fun i => by rw [treesTo_step, List.length_append]
      obtain ⟨FP, hFP⟩ : ∃ F, F = faultP m b n' q := ⟨_, rfl⟩
      obtain ⟨RA, hRA⟩ : ∃ R, R = resAll m b n' q := ⟨_, rfl⟩
      rw [← hFP] at G HF
      rw [← hRA] at HF HRA HRL
      clear t3 t4 t5 t6 hr hFP hRA
      go_enter Tryz.func17, Tryz.ntmps17
      go_wp2_with fail
      rw [← hW0]
      refine (isTableau_any A D n' c n' d B B' m b W0 HL.out HL'.out hn hn' (by omega) (by omega) HM.out HR.out).mono ?_
      rintro e w2 ⟨rfl, b2⟩
      rw [ht]
      have HB2 := Lib.hid (HB.out.trans (b2.mono HB.out.size))
      have HM2 := Lib.hid (HM.out.below b2 (by omega))
      have HR2 := Lib.hid (HR.out.below b2 (by omega))
      have q0 := (HX.out.next b2).c0
      have q1 := (HX.out.next b2).c1
      have hz2 := b2.size
      clear b2 hW0 ht
      go_wp2_with fail
      refine (schemeOf_any A D n' c n' d B B' n' m b w2 HL.out HL'.out t2 HW.out (by omega) (by omega) (by omega) (by omega) HM2.out HR2.out).mono ?_
      rintro e w3 ⟨A3, c3, D3, d3, rfl, hc3, hd3, m3, r3, b3⟩
      have HB3 := Lib.hid (HB2.out.trans (b3.mono HB2.out.size))
      obtain ⟨W4, hW4⟩ : ∃ W, W = w3.alloc (.cells #[.slice A3 n' c3, .slice D3 n' d3] 57) := ⟨_, rfl⟩
      have hb4 : Below w3.heap.size w3 W4 := by rw [hW4]; exact (Below.refl _ _).alloc (Nat.le_refl _) _
      have HX4 : Hid (Bx W4 w3.heap.size 57 (.slice A3 n' c3) (.slice D3 n' d3)) := by rw [hW4]; exact Bx.new _ _ _ _
      have HB4 := Lib.hid (HB3.out.trans (hb4.mono HB3.out.size))
      have HM4 := Lib.hid (m3.below hb4 (Nat.le_refl _))
      have HR4 := Lib.hid (r3.below hb4 (Nat.le_refl _))
      have hz4 := hb4.size
      clear b3 q0 q1 m3 r3 hb4
      go_wp2_with fail
      rw [← hW4]
      clear hW4
      go_loopw [7, 8] (fun v i wr => ∃ (j : Nat), j ≤ q ∧ v = .int .i64 (((treesTo j).length : Nat) : Int) ∧ i = .int .i64 ((j : Int) + 1) ∧ Hid (FP = fnz (RA.drop (treesTo j).length) (((treesTo j).length : Nat) : Int)) ∧ Hid (Below W4.heap.size W4 wr)) (fun _ i _ => q + 1 - (intOf i).toNat)
      case atStart => exact ⟨0, Nat.zero_le _, rfl, rfl, HF, Below.refl _ _⟩
      case round =>
        obtain ⟨j, hj, rfl, rfl, HI, HBB⟩ := hrel
        by_cases hlt : j < q
        · have hsz := HBB.out.size
          have hbx := HX4.out.next HBB.out
          have p0 := hbx.c0
          have p1 := hbx.c1
          have C1 := residuals_any A3 D3 n' c3 d3 w3.heap.size w3.heap.size (j + 1) m b wr HL.out HL'.out t1 t2 HW.out HN.out HNB.out (by omega) (by omega) (by omega) (by omega) (HM4.out.below HBB.out (by omega)) (HR4.out.below HBB.out (by omega))
          rw [Int.natCast_add, Int.natCast_one] at C1
          have h690 := HL8.out j (by omega)
          have h691 := HL8.out (j + 1) (by omega)
          have hst := HST.out j
          have HRAj : Hid (∀ x y, (resL m b n' (j + 1))[x]? = some y → RA[(treesTo j).length + x]? = some y) := fun x y hy => by
            unfold resL at hy
            rw [List.getElem?_map, Option.map_eq_some_iff] at hy
            obtain ⟨t, ht, rfl⟩ := hy
            exact HRA.out j x t hlt ht
          have HRLj : Hid ((resL m b n' (j + 1)).length = (Tr.treesL (j + 1)).length) := resL_len m b n' (j + 1)
          have HST1 : Hid ((treesTo (j + 1)).length = (treesTo j).length + (Tr.treesL (j + 1)).length) := hst
          obtain ⟨N5, hN5⟩ : ∃ N, N = (Tr.treesL (j + 1)).length := ⟨_, rfl⟩
          obtain ⟨K5, hK5⟩ : ∃ N, N = (treesTo j).length := ⟨_, rfl⟩
          obtain ⟨R5, hR5⟩ : ∃ R, R = resL m b n' (j + 1) := ⟨_, rfl⟩
          rw [← hN5] at C1 HRLj HST1 hst
          rw [← hK5] at HST1 hst HRAj HI h690 ⊢
          rw [← hR5] at C1 HRAj HRLj
          clear hN5 hK5 hR5 hbx
          have le1 : (j : Int) + 1 ≤ (q : Int) := by omega
          go_wp2_with fail
          refine C1.mono ?_
          rintro e w5 ⟨A5, c5, rfl, own5, b5⟩
          have HR5 := Lib.hid (row_of_own own5)
          have HB5 := Lib.hid (HBB.out.trans (b5.mono hsz))
          clear own5 b5 C1 p0 p1 HBB
          go_wp2_with fail
          go_loop [7, 31] (fun v i => ∃ x : Nat, x ≤ N5 ∧ v = .int .i64 ((K5 + x : Nat) : Int) ∧ i = .int .i64 x ∧ Hid (FP = fnz (RA.drop (K5 + x)) ((K5 + x : Nat) : Int))) (fun _ i => N5 - (intOf i).toNat)
          case atStart => exact ⟨0, Nat.zero_le _, rfl, rfl, HI⟩
          case round =>
            obtain ⟨x, hx, rfl, rfl, HJ⟩ := hrel
            by_cases hxl : x < N5
            · obtain ⟨y, hy⟩ := at_lt (show x < R5.length by rw [HRLj.out]; exact hxl)
              obtain ⟨b6, o6, rfl, _, hc6⟩ := HR5.out x _ (ints_at hy)
              have HY := Lib.hid (HRAj.out x y hy)
              have x0 : (0 : Int) ≤ (x : Int) := Int.natCast_nonneg _
              by_cases hv : y = 0
              · have HI2 : Hid (FP = fnz (RA.drop (K5 + (x + 1))) ((K5 + (x + 1) : Nat) : Int)) := by
                  rw [Hid, HJ.out, fnz_next (by rw [HY.out, hv]), ← Nat.add_assoc, Int.natCast_add (K5 + x) 1, Int.natCast_one]
                have hwr : IntKind.i64.wrap (((K5 + x : Nat) : Int) + 1) = ((K5 + (x + 1) : Nat) : Int) := by rw [IntWalk.i64_in _ (by omega)]; omega
                subst hv
                clear HJ HY hy
                go_wp2
                go_round
                case rel => exact ⟨x + 1, by omega, by go_num, by go_num, HI2⟩
                case measure => simp [intOf]; omega
              · have tv := bne_t hv
                have HI2 : Hid (FP = ((K5 + x : Nat) : Int)) := HJ.out.trans (fnz_stop HY.out hv)
                have GR : Hid (faultA m b (q : Int) = (((K5 + x : Nat) : Int), 0)) := by rw [Hid, G.out, HI2.out, if_neg (by omega)]
                clear HJ HY hy hv
                go_wp2
                go_ret2
                exact ResI.of' GR.out (HB4.out.trans (HB5.out.mono HB4.out.size))
            · obtain rfl : x = N5 := by omega
              have HJ2 : Hid (FP = fnz (RA.drop (treesTo (j + 1)).length) (((treesTo (j + 1)).length : Nat) : Int)) := by rw [HST1.out]; exact HJ.out
              have HEQ : Hid (((K5 + x : Nat) : Int) = (((treesTo (j + 1)).length : Nat) : Int)) := by rw [HST1.out]; rfl
              clear HJ
              go_wp2
              go_roundw
              case rel => exact ⟨j + 1, by omega, by rw [← HEQ.out], by go_num, HJ2, HB5⟩
              case measure => simp [intOf]; omega
        · obtain rfl : j = q := by omega
          have HI2 : Hid (FP = -1) := HI.out.trans (fnz_end (by rw [HRL.out]; exact Nat.le_refl _))
          have GR : Hid (faultA m b (j : Int) = (0, 4)) := by rw [Hid, G.out, HI2.out]; rfl
          have HBF := Lib.hid (HB4.out.trans (HBB.out.mono HB4.out.size))
          have le1 : ¬ (j : Int) + 1 ≤ (j : Int) := by omega
          clear HI HBB
          go_wp2
          go_ret2
          exact ResI.of' GR.out HBF.out
    · have G : Hid (faultA m b k = (0, 2)) := by unfold faultA; rw [Hid, if_pos ht, if_neg hr]
      by_cases hlo : k < 1
      · go_enter Tryz.func17, Tryz.ntmps17
        go_wp2_with fail
        rw [← hW0]
        refine (isTableau_any A D n c n' d B B' m b W0 HL.out HL'.out hn hn' (by omega) (by omega) HM.out HR.out).mono ?_
        rintro e w2 ⟨rfl, b2⟩
        rw [ht]
        have HB2 := Lib.hid (HB.out.trans (b2.mono HB.out.size))
        clear b2 hW0 ht
        go_wp2
        go_ret2
        exact ResI.of' G.out HB2.out
      · have hhi : 6 < k := by omega
        go_enter Tryz.func17, Tryz.ntmps17
        go_wp2_with fail
        rw [← hW0]
        refine (isTableau_any A D n c n' d B B' m b W0 HL.out HL'.out hn hn' (by omega) (by omega) HM.out HR.out).mono ?_
        rintro e w2 ⟨rfl, b2⟩
        rw [ht]
        have HB2 := Lib.hid (HB.out.trans (b2.mono HB.out.size))
        clear b2 hW0 ht
        go_wp2
        go_ret2
        exact ResI.of' G.out HB2.out
end Go.Proofs.YtpngohklicgbjaaGreat
/-
  The exact map, the program's and the model's.
-/
namespace Go.Proofs.YtpngohklicgbjaaGreat
open Go.RowKit Fld
set_option linter.unusedVariables false
set_option linter.unusedSimpArgs false
set_option maxRecDepth 100000

def exactV (t : List Int) : Int := inv (Tr.denM t % 10007)
def exactL : List Int := 1 :: (treesTo 6).map exactV
theorem exactL_length : exactL.length = 38 := by unfold exactL; rw [List.length_cons, List.length_map, to_len]
theorem exactL_num : allNum exactL = true := by
  rw [allNum_iff]
  intro x hx
  unfold exactL at hx
  rw [List.mem_cons, List.mem_map] at hx
  rcases hx with rfl | ⟨t, _, rfl⟩
  · omega
  · exact ⟨inv_lo _, inv_hi _⟩
theorem exactL_at {k : Nat} {t : List Int} (h : (treesTo 6)[k]? = some t) : exactL[k + 1]? = some (exactV t) := by
  unfold exactL; rw [List.getElem?_cons_succ, List.getElem?_map, h]; rfl
theorem mapTx_tree {k : Nat} {t : List Int} (h : (treesTo 6)[k]? = some t) : mapTx[k + 1]? = some (Tr.txt t) := by
  unfold mapTx; rw [List.getElem?_cons_succ, List.getElem?_map, h]; rfl
theorem to_lv {k : Nat} {t : List Int} (h : (treesTo 6)[k]? = some t) : Tr.isLv t = true := by
  have hm := List.mem_of_getElem? h
  unfold treesTo at hm
  rw [List.mem_flatMap] at hm
  obtain ⟨n, hn, ht⟩ := hm
  rw [List.mem_range] at hn
  exact ((trees_all (n := n + 1) (by omega) (by omega)).1 t ht).1
theorem unit_mix : unitL = exactL.take (0 + 1) ++ unitL.drop (0 + 1) := rfl
theorem unitL_at {k : Nat} (h : k < 37) : unitL[k + 1]? = some 0 := by
  unfold unitL; rw [List.getElem?_cons_succ, List.getElem?_replicate, if_pos h]
set_option maxHeartbeats 2000000 in
theorem exactMap_any (w : World) : Calls Tryz.prog 41 #[] w fun e w' => e = .returned (.agg (arrM exactL)) ∧ Below w.heap.size w w' := by
  have EL := Lib.hid exactL_length
  have UL := Lib.hid unitL_length
  go_enter Tryz.func41, Tryz.ntmps41
  go_wp2_with (refine wpList_store_row rfl 73 (.tmp 1) (.tmp 4) rfl (w.heap.size + 1) (arrM unitL) rfl rfl 73 (arrM zero38) (arrM_two w zero38 zero38).2.1 (by rw [arrM_size UL.out]; exact info_arrM) (by rw [arrM_size UL.out]; rfl) (arrM_cells _) ?_)
  refine (mapTrees_any _).mono ?_
  rintro e w2 ⟨A2, c2, rfl, own2, bel2⟩
  have FX0 : ArrM (((w.alloc (.cells (arrM zero38) 73)).alloc (.cells (arrM zero38) 73)).setRow (w.heap.size + 1) (arrM unitL)) (w.heap.size + 1) unitL := setRow_heap _ _ _ _ _ _ (arrM_two w zero38 zero38).2.1
  have FZ0 : ArrM (((w.alloc (.cells (arrM zero38) 73)).alloc (.cells (arrM zero38) 73)).setRow (w.heap.size + 1) (arrM unitL)) w.heap.size zero38 := (setRow_other _ _ _ _ (by omega)).trans (arrM_two w zero38 zero38).1
  have FX : Hid (ArrM w2 (w.heap.size + 1) (exactL.take (0 + 1) ++ unitL.drop (0 + 1))) := FX0.below bel2 (by simp [World.setRow])
  have FZ : Hid (ArrM w2 w.heap.size zero38) := FZ0.below bel2 (by simp [World.setRow]; omega)
  have FB : Hid (Below w.heap.size w w2) := (below_setRow (arrM_two w zero38 zero38).2.2 (by omega) (arrM unitL)).trans (bel2.mono (by simp [World.setRow]; omega))
  obtain ⟨g2, rfl⟩ := own_addr own2 (by omega)
  have hg2 : w.heap.size + 1 < g2 := by have := (own2.lt g2 rfl).1; simp [World.setRow] at this; omega
  have FT := Lib.hid (strs_cell (row_of_own own2))
  have hcap := (own_cap own2).1
  have hc1 : ¬ c2 = 1 := by omega
  clear own2 bel2 FX0 FZ0
  go_wp2_with fail
  go_loopw [8] (fun i wr => ∃ k : Nat, k ≤ 37 ∧ i = .int .i64 k ∧ Hid (ArrM wr (w.heap.size + 1) (exactL.take (k + 1) ++ unitL.drop (k + 1))) ∧ Hid (ArrM wr w.heap.size zero38) ∧ Hid (∀ k t, mapTx[k]? = some t → wr.cell? ⟨g2, k, none⟩ = some (.string ⟨t.toArray⟩)) ∧ Hid (Below w.heap.size w wr)) (fun i _ => 37 - (intOf i).toNat)
  case atStart => exact ⟨0, by omega, rfl, FX, FZ, FT, FB⟩
  case round =>
    obtain ⟨k, hk, rfl, HX, HZ, HT, HB⟩ := hrel
    by_cases hlt : k < 37
    · obtain ⟨t, ht⟩ := at_lt (show k < (treesTo 6).length by rw [to_len]; exact hlt)
      have hlv := to_lv ht
      have hct := HT.out (k + 1) _ (mapTx_tree ht)
      have hc := HX.out.cell (mixP_at (us := exactL) (by rw [EL.out, UL.out]) (unitL_at hlt))
      have hf := HX.out.free (k + 1)
      have C1 := fun w' => density_any (Tr.txt t) w' (Tr.tx_txt hlv)
      rw [(Tr.denM_parts hlv).2] at C1
      obtain ⟨d1, d2⟩ := Tr.denM_bd hlv
      have TA : exactL[k + 1]? = some (inv (Tr.denM t % 10007)) := exactL_at ht
      have k0 : (0 : Int) ≤ (k : Int) + 1 := by omega
      have k1 : (k : Int) + 1 < 38 := by omega
      have kk0 : (0 : Int) ≤ (k : Int) := Int.natCast_nonneg _
      have kk1 : (k : Int) < 37 := by omega
      have ew : IntKind.i64.wrap ((k : Int) + 1) = (k : Int) + 1 := IntWalk.i64_in _ (by omega)
      have en : ((k : Int) + 1).toNat = k + 1 := by omega
      have ek : 1 + k = k + 1 := by omega
      obtain ⟨X, hX⟩ : ∃ X : ByteArray, X = ⟨(Tr.txt t).toArray⟩ := ⟨_, rfl⟩
      rw [← hX] at hct C1
      obtain ⟨D, hD⟩ : ∃ D : Int, D = Tr.denM t := ⟨_, rfl⟩
      rw [← hD] at C1 TA d1 d2
      obtain ⟨V, hV⟩ : ∃ V : Int, V = inv (D % 10007) := ⟨_, rfl⟩
      rw [← hV] at TA
      have C3 := fun w' => inverse_any (D % 10007) w' (by omega) (by omega)
      rw [← hV] at C3
      have HGX : Hid (∀ W : World, ArrM W (w.heap.size + 1) (exactL.take (k + 1) ++ unitL.drop (k + 1)) → ArrM (W.setCell ⟨w.heap.size + 1, k + 1, none⟩ (.int .i64 V)) (w.heap.size + 1) (exactL.take (k + 1 + 1) ++ unitL.drop (k + 1 + 1))) := fun W hW => by
        have := hW.store (k := k + 1) V
        rw [mixP_step (by rw [UL.out]; omega) (by rw [EL.out, UL.out]) TA] at this
        exact this
      have hs1 := HB.out.size
      have hsg : g2 < wr.heap.size := by
        have h9 := hct
        rcases Nat.lt_or_ge g2 wr.heap.size with h8 | h8
        · exact h8
        · exfalso
          unfold World.cell? at h9
          simp [Array.getElem?_eq_none h8] at h9
      clear ht hlv hX hD hV TA FX FZ FT FB hc hf
      go_wp2_with fail
      refine (C1 _).mono ?_
      rintro e w3 ⟨rfl, bel3⟩
      have hx1 : w.heap.size + 1 < wr.heap.size := by omega
      have HX3 := HX.out.below bel3 hx1
      have HZ3 := Lib.hid (HZ.out.below bel3 (by omega))
      have HT3 : Hid (∀ k t, mapTx[k]? = some t → w3.cell? ⟨g2, k, none⟩ = some (.string ⟨t.toArray⟩)) := fun j u hu => (bel3.cell (p := ⟨g2, j, none⟩) hsg).trans (HT.out j u hu)
      have HB3 := Lib.hid (HB.out.trans (bel3.mono hs1))
      have hc3 : ∃ v, w3.cell? ⟨w.heap.size + 1, k + 1, none⟩ = some v := ⟨_, HX3.cell (mixP_at (us := exactL) (by rw [EL.out, UL.out]) (unitL_at hlt))⟩
      obtain ⟨v9, hc3⟩ := hc3
      have hf3 := HX3.free (k + 1)
      have GX := Lib.hid (HGX.out w3 HX3)
      have GZ : Hid (ArrM (w3.setCell ⟨w.heap.size + 1, k + 1, none⟩ (.int .i64 V)) w.heap.size zero38) := HZ3.out.other (by omega) _
      have GT : Hid (∀ j t, mapTx[j]? = some t → (w3.setCell ⟨w.heap.size + 1, k + 1, none⟩ (.int .i64 V)).cell? ⟨g2, j, none⟩ = some (.string ⟨t.toArray⟩)) := fun j t ht => cell_other (HT3.out j t ht) (by omega)
      have GB : Hid (Below w.heap.size w (w3.setCell ⟨w.heap.size + 1, k + 1, none⟩ (.int .i64 V))) := below_set HB3.out (by omega) _
      clear HX HZ HT HB HX3 HZ3 HT3 HB3 bel3 hct C1 HGX
      go_wp2_with fail
      refine (reduced_any D _).mono ?_
      rintro e w' ⟨rfl, rfl⟩
      go_wp2_with fail
      refine (C3 _).mono ?_
      rintro e w' ⟨rfl, rfl⟩
      go_wp2
      go_roundw
      case rel => exact ⟨k + 1, by omega, by go_num, GX, GZ, GT, GB⟩
      case measure => simp [intOf]; omega
    · obtain rfl : k = 37 := by omega
      have GX : Hid (ArrM wr (w.heap.size + 1) exactL) := by
        have := HX.out
        rw [mixP_end EL.out UL.out] at this
        exact this
      clear HX FX FZ FT FB HT
      go_wp2_with (first
        | (refine wpList_load_row rfl 73 (.tmp 1) rfl (w.heap.size + 1) rfl 73 (arrM exactL) (0, 0) _ GX.out Tryz.underlying73 rfl (by rw [arrM_size EL.out]; exact info_arrM) ?_)
        | (refine wpList_store_row rfl 73 (.tmp 0) (.tmp 21) rfl w.heap.size (arrM exactL) rfl rfl 73 (arrM zero38) HZ.out (by rw [arrM_size EL.out]; exact info_arrM) (by rw [arrM_size EL.out]; rfl) (arrM_cells _) ?_))
      refine bodyPost_ret (v := .agg (arrM exactL)) ?_ rfl ⟨rfl, below_setRow HB.out (Nat.le_refl _) _⟩
      exact results_cell_row rfl _ _ w.heap.size 73 _ (0, 0) _ rfl (setRow_heap _ _ _ _ _ _ HZ.out) Tryz.underlying73 rfl (by rw [arrM_size EL.out]; exact info_arrM)
end Go.Proofs.YtpngohklicgbjaaGreat
/-
  Up to which number of nodes maps agree: the program's.
-/
namespace Go.Proofs.YtpngohklicgbjaaGreat
open Go.RowKit Fld
set_option linter.unusedVariables false
set_option linter.unusedSimpArgs false
set_option maxRecDepth 100000

/-- an integer, and only new memory -/
def ResN1 (x : Int) (w : World) (e : Ending) (w' : World) : Prop := e = .returned (.int .i64 x) ∧ Below w.heap.size w w'
set_option maxHeartbeats 1000000 in
theorem agreesTo_any (xs ys : List Int) (w : World) (hl : xs.length = 38) (hl' : ys.length = 38) :
    Calls Tryz.prog 40 #[.agg (arrM xs), .agg (arrM ys)] w (ResN1 (agrA xs ys) w) := by
  have HL := Lib.hid hl
  have HL' := Lib.hid hl'
  have HIF := Lib.hid info_arrM
  clear hl hl'
  have F := Lib.hid (arrM_two w xs ys)
  go_enter Tryz.func40, Tryz.ntmps40
  go_wp2_with fail
  refine (mapTrees_any _).mono ?_
  rintro e w1 ⟨A1, c1, rfl, own1, bel1⟩
  have B1 : Hid (Below w.heap.size w w1) := F.out.2.2.trans (bel1.mono (by simp; omega))
  have FX : Hid (ArrM w1 w.heap.size xs) := F.out.1.below bel1 (by simp; omega)
  have FY : Hid (ArrM w1 (w.heap.size + 1) ys) := F.out.2.1.below bel1 (by simp)
  have FT : Hid (Row w1 w1.heap.size A1 (strs mapTx)) := row_of_own own1
  clear own1 bel1 F
  go_wp2_with fail
  go_loopw [9] (fun i wr => ∃ k d : Nat, k ≤ 38 ∧ i = .int .i64 k ∧ wr = w1.drewN d ∧ Hid (agrA xs ys = agrL (xs.drop k) (ys.drop k) (lens.drop k))) (fun i _ => 38 - (intOf i).toNat)
  case atStart => exact ⟨0, 0, by omega, rfl, rfl, agr_start xs ys⟩
  case round =>
    obtain ⟨k, d, hk, rfl, rfl, HI⟩ := hrel
    by_cases hlt : k < 38
    · obtain ⟨x, hx⟩ := at_lt (show k < xs.length by rw [HL.out]; exact hlt)
      obtain ⟨y, hy⟩ := at_lt (show k < ys.length by rw [HL'.out]; exact hlt)
      obtain ⟨l, hll, l6⟩ := lens_at hlt
      obtain ⟨t, ht, htl⟩ := mapTx_at hll
      obtain ⟨b, o, rfl, hb, hc⟩ := FT.out k _ (strs_at ht)
      have hcx : w1.cell? ⟨w.heap.size, k, none⟩ = some (.int .i64 x) := FX.out.cell hx
      have hcy : w1.cell? ⟨w.heap.size + 1, k, none⟩ = some (.int .i64 y) := FY.out.cell hy
      have hct : w1.cell? ⟨b, o + k, none⟩ = some (.string ⟨t.toArray⟩) := hc
      have k0 : (0 : Int) ≤ (k : Int) := Int.natCast_nonneg _
      have k1 : (k : Int) < 38 := by omega
      by_cases hxy : x = y
      · have G := Lib.hid (HI.out.trans (agr_next hx hy hll hxy))
        have tt : (x != y) = false := bne_f hxy
        obtain ⟨X, hX⟩ : ∃ X : ByteArray, X = ⟨t.toArray⟩ := ⟨_, rfl⟩
        rw [← hX] at hct
        clear hx hy hll ht htl hc HI hxy hX
        go_wp2_with fail
        go_quiet (fail)
        go_wp2
        go_roundw
        case rel => exact ⟨k + 1, _, by omega, by go_num, rfl, G⟩
        case measure => simp [intOf]; omega
      · have G := Lib.hid (HI.out.trans (agr_stop hx hy hll hxy))
        have tt : (x != y) = true := bne_t hxy
        have htl2 : t.length / 2 = l := by omega
        have C1 := fun w' => nodes_any t w' (by omega)
        rw [htl2] at C1
        obtain ⟨X, hX⟩ : ∃ X : ByteArray, X = ⟨t.toArray⟩ := ⟨_, rfl⟩
        rw [← hX] at hct C1
        clear hx hy hll ht htl htl2 hc HI hxy hX
        go_wp2_with fail
        go_quiet (fail)
        go_wp2_with fail
        refine (C1 _).mono ?_
        rintro e w' ⟨rfl, rfl⟩
        go_wp2
        go_ret
        exact ⟨ret_i64 G.out.symm, below_drewN B1.out _⟩
    · obtain rfl : k = 38 := by omega
      have G := Lib.hid (HI.out.trans agr_end)
      clear HI
      go_wp2
      go_ret
      exact ⟨ret_i64 G.out.symm, below_drewN B1.out _⟩
end Go.Proofs.YtpngohklicgbjaaGreat
