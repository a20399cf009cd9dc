/-
  Texts of this seat, joined: what several laws lean on.
-/
import Derived.Test.YtnnihdkhblbdgaaUA1
import Derived.Test.YtnnihdkhblbdgaaTreeN
import Derived.Laws.AppendOwnNone
import Derived.Test.YtnnihdkhblbdgaaTreeC5
import Derived.Test.YtnnihdkhblbdgaaTreeC8
import Derived.Test.YtnnihdkhblbdgaaTreeE
import Derived.Deep.RegionLaw
import Derived.BigQuiet
import Derived.Deep.RegionHeld3
import Derived.Maps.OwnSet
import Derived.Test.YtnnihdkhblbdgaaTreeD
import Derived.Outline
import Derived.Laws.DeepStrings4
import Derived.Laws.Strings2
import Derived.Lib.SliceRun
import Derived.Shelf.RegionOpenPlain
import Derived.Test.YtnnihdkhblbdgaaBase
import Derived.BigRegion
/-
  All trees with so many nodes, the model's.
-/
namespace Go.Proofs.Ytnnihdkhblbdgaa
open Go.RowKit Fld
set_option linter.unusedVariables false
set_option linter.unusedSimpArgs false
set_option maxRecDepth 100000

theorem lv_last {t : List Int} (h : Tr.isLv t = true) : 0 ≤ t.getD (t.length - 1) 0 ∧ t.getD (t.length - 1) 0 ≤ (t.length : Int) - 1 := by
  have h1 := Tr.isLv_iff.1 h
  have h2 := StepsTo.bd (t := t) (n := t.length) (k := t.length - 1) h1.2.2.2 h1.2.2.1 (by have := h1.1; omega) rfl
  have := h1.1
  omega
theorem lv_push {t : List Int} {x : Int} (h : Tr.isLv t = true) (hl : t.length + 1 ≤ 8) (h1 : 1 ≤ x) (h2 : x ≤ t.getD (t.length - 1) 0 + 1) : Tr.isLv (t ++ [x]) = true := by
  have h3 := Tr.isLv_iff.1 h
  have hlt := h3.1
  have hg : ∀ i, i < t.length → (t ++ [x]).getD i 0 = t.getD i 0 := fun i hi => by
    rw [List.getD_eq_getElem?_getD, List.getElem?_append_left hi, ← List.getD_eq_getElem?_getD]
  have hx : (t ++ [x]).getD t.length 0 = x := by
    rw [List.getD_eq_getElem?_getD, List.getElem?_append_right (Nat.le_refl _), Nat.sub_self]; rfl
  refine Tr.isLv_iff.2 ⟨by simp, by simp; omega, by rw [hg 0 hlt]; exact h3.2.2.1, fun i hi h1' => ?_⟩
  rw [List.length_append, List.length_singleton] at hi
  by_cases e : i = t.length
  · subst e
    rw [hx, hg (t.length - 1) (by omega)]
    exact ⟨h1, h2⟩
  · rw [hg i (by omega), hg (i - 1) (by omega)]
    exact h3.2.2.2 i (by omega) h1'
def growTo (f : Nat) (t : List Int) (m : List (List Int)) (k : Nat) : List (List Int) := (List.range k).foldl (fun (o : List (List Int)) (j : Nat) => Tr.growF f (t ++ [t.getD (t.length - 1) 0 + 1 - (j : Int)]) o) m
theorem growTo_step (f : Nat) (t : List Int) (m : List (List Int)) (k : Nat) : growTo f t m (k + 1) = Tr.growF f (t ++ [t.getD (t.length - 1) 0 + 1 - (k : Int)]) (growTo f t m k) := by
  unfold growTo; rw [List.range_succ, List.foldl_append]; rfl
theorem growF_succ (f : Nat) (t : List Int) (m : List (List Int)) : Tr.growF (f + 1) t m = growTo f t m (t.getD (t.length - 1) 0 + 1).toNat := rfl
theorem grow_len : ∀ (f : Nat) (t : List Int) (m : List (List Int)), Tr.isLv t = true → t.length + f ≤ 8 → (Tr.growF f t m).length ≤ m.length + 9 ^ f
  | 0, t, m, _, _ => by
    rw [Tr.growF]; split
    · simp
    · simp
  | f+1, t, m, h, hl => by
    rw [growF_succ]
    have hb := lv_last h
    have key : ∀ k : Nat, (k : Int) ≤ t.getD (t.length - 1) 0 + 1 → (growTo f t m k).length ≤ m.length + k * 9 ^ f := by
      intro k
      induction k with
      | zero => intro _; simp [growTo]
      | succ k ih =>
        intro hk
        rw [growTo_step]
        have h1 := grow_len f (t ++ [t.getD (t.length - 1) 0 + 1 - (k : Int)]) (growTo f t m k) (lv_push h (by omega) (by omega) (by omega)) (by rw [List.length_append]; simp; omega)
        have h2 := ih (by omega)
        have e : (k + 1) * 9 ^ f = k * 9 ^ f + 9 ^ f := by rw [Nat.add_mul, Nat.one_mul]
        omega
    have h1 := key (t.getD (t.length - 1) 0 + 1).toNat (by omega)
    have h2 : (t.getD (t.length - 1) 0 + 1).toNat ≤ 9 := by omega
    have h3 : (t.getD (t.length - 1) 0 + 1).toNat * 9 ^ f ≤ 9 * 9 ^ f := Nat.mul_le_mul_right _ h2
    have e : 9 ^ (f + 1) = 9 * 9 ^ f := by rw [Nat.pow_succ, Nat.mul_comm]
    omega
/-- what was there stands, but for a row that grows -/
theorem grown_chain {a b c : World} {r r' : Option Nat} (h : a.grownBy b r) (k : b.grownBy c r') (hr : r' = r ∨ ∃ g, r' = some g ∧ a.heap.size ≤ g) : a.grownBy c r :=
  ⟨k.os.trans h.os, k.tape.trans h.tape, k.output.trans h.output, Nat.le_trans h.size k.size, fun i hi hne => by
    rw [k.block i (Nat.lt_of_lt_of_le hi h.size) (fun e => by
      rcases hr with hr | ⟨g, hr, hg⟩
      · exact hne (by rw [e, hr])
      · rw [hr] at e; injection e with e; omega)]
    exact h.block i hi hne⟩
theorem below_grown {a b : World} (h : Below a.heap.size a b) : a.grownBy b none := ⟨h.os, h.tape, h.output, h.size, fun i hi _ => h.block i hi⟩
theorem grown_any {a b : World} {r : Option Nat} (h : a.grownBy b none) : a.grownBy b r := ⟨h.os, h.tape, h.output, h.size, fun i hi _ => h.block i hi (by simp)⟩
/-- what l03Grow hands back -/
def Grown (lo : Nat) (v : Value) (m' : List (List Int)) (w : World) (e : Ending) (w' : World) : Prop :=
  ∃ A q c vs, e = .returned (.slice A q c) ∧ OwnMat w' lo w'.heap.size (.slice A q c) q m' vs ∧ w.grownBy w' v.ownBlock ∧ (Value.ownBlock (.slice A q c) = v.ownBlock ∨ ∃ g, Value.ownBlock (.slice A q c) = some g ∧ w.heap.size ≤ g)
def SGrow (f : Nat) : Prop := ∀ (At A : Option Addr) (ct q c n lo lot : Nat) (t : List Int) (m : List (List Int)) (vs : List Value) (w : World), t.length + f = n → n ≤ 8 → Tr.isLv t = true → q + 9 ^ f ≤ 100000000 → lo ≤ w.heap.size →
    w.ownsRow lot 2 1 (.slice At t.length ct) t.length (ints t) → OwnMat w lo w.heap.size (.slice A q c) q m vs →
    Calls Try.prog 111 #[.slice At t.length ct, .int .i64 n, .slice A q c] w (Grown lo (.slice A q c) (Tr.growF f t m) w)
set_option maxHeartbeats 1000000 in
theorem sGrow_zero : SGrow 0 := by
  obtain ⟨j0, hj, hy0, hy1, hy2⟩ := info_parts info_row
  intro At A ct q c n lo lot t m vs w hn hn8 hlv hq hlo ht hm
  have hnt : t.length = n := by omega
  obtain ⟨e1, e2⟩ := lv_can hlv
  have HE : Hid ((Tr.can t).length = n) := by rw [Hid, e2, hnt]
  have HT := Lib.hid ht
  have HM := Lib.hid hm
  have HLV := Lib.hid hlv
  have HN := Lib.hid hnt
  have h1 : 1 ≤ n := by have := (Tr.isLv_iff.1 hlv).1; omega
  have hq' : q ≤ 100000000 := by omega
  rw [hnt] at ht HT ⊢
  obtain ⟨gt, capt, hvt⟩ := own_form ht (by omega)
  injection hvt with hA _ hcap
  subst hA hcap
  clear hn hlv hq e1 e2 hnt hm
  go_enter Try.func111, Try.ntmps111
  go_wp2_with fail
  refine (l03Canon_any _ n ct w.heap.size t _ HN.out HLV.out (Nat.le_refl _) (row_of_own ht)).mono ?_
  rintro e w1 ⟨A1, c1, rfl, own1, bel1⟩
  have hs1 := bel1.size
  have HB1 := Lib.hid bel1
  have HT1 := Lib.hid ((OwnR.of HT.out).below bel1 (Nat.le_refl _))
  have C1 := l01Same_any A1 _ n n c1 ct _ _ (Tr.can t) t w1 HE.out HN.out (by omega) (by omega) (row_of_own own1) HT1.out.row
  clear own1 bel1 ht
  by_cases hct : Tr.can t = t
  · have G : Hid (Tr.growF 0 t m = m ++ [t]) := by rw [Hid, Tr.growF, if_pos hct]
    rw [hct, eqL_self] at C1
    clear hct
    go_wp2_with fail
    refine C1.mono ?_
    rintro e w2 ⟨rfl, m2, rfl⟩
    go_wp2_with fail
    refine (l01Own_any ⟨gt, 0, none⟩ n ct w1.heap.size t _ HN.out (by omega) (by show w1.heap.size ≤ w1.heap.size; omega) ((HT1.out.row.more hs1).drewN m2)).mono ?_
    rintro e w3 ⟨A3, c3, rfl, own3, bel3⟩
    have hs3 : w1.heap.size ≤ w3.heap.size := bel3.size
    have HM3 := Lib.hid ((((HM.out.below HB1.out (Nat.le_refl _)).more (Nat.le_refl _) hs1).drewN m2).below bel3 (Nat.le_refl _))
    have HB3 : Hid (Below w.heap.size w w3) := (below_drewN HB1.out m2).trans (bel3.mono (by show w.heap.size ≤ w1.heap.size; exact hs1))
    have HO3 : Hid (w3.ownsRow w1.heap.size 2 1 (.slice A3 n c3) n (ints t)) := own3
    have hownO := HM3.out.outer.1
    clear own3 bel3
    go_wp2_with (at_builtin; refine wpList_append_lies _ rfl (.tmp 16) (.tmp 19) 22 rfl lo 23 j0 _ 1 24 Try.underlying22 hj hy0 hy1 hy2 rfl (by omega) (.slice A q c) q vs rfl (hownO.alloc _) ⟨w3.heap.size, 0, none⟩ 1 1 [.slice A3 n c3] rfl rfl (World.news_of_block (cs := #[.slice A3 n c3]) (heap_alloc_new _ _)) (by simp [Value.oneCell']) (by omega) (by simp only [maxLen]; omega) (by omega) (by simp; omega) (w3.heap.size + 1) (by simp) ?_; intro g5 cap5 w5 hown5 hgrow5 hat5 hlt5)
    have hs5 : w3.heap.size ≤ w5.heap.size := by have := hgrow5.size; simp at this; omega
    have GG : Hid (Grown lo (.slice A q c) (Tr.growF 0 t m) w (.returned (.slice (some ⟨g5, 0, none⟩) (q + 1) cap5)) w5) := by
      rw [Hid, G.out]
      refine ⟨_, _, _, _, rfl, HM3.out.push (row := t) hs3 HN.out HO3.out (by omega) hown5 hgrow5, ?_, ?_⟩
      · have h1 : w.grownBy (w3.alloc (.cells #[.slice A3 n c3] 23)) none := below_grown (HB3.out.alloc (by omega) _)
        exact grown_chain (grown_any h1) hgrow5 (.inl rfl)
      · rcases hat5 with e | e
        · exact .inl e.symm
        · exact .inr ⟨g5, rfl, by omega⟩
    clear hown5 hgrow5 hat5 hownO
    go_wp2
    go_ret
    exact GG.out
  · have G : Hid (Tr.growF 0 t m = m) := by rw [Hid, Tr.growF, if_neg hct]
    have e : eqL (Tr.can t) t = false := by unfold eqL; exact decide_eq_false hct
    rw [e] at C1
    clear hct e
    go_wp2_with fail
    refine C1.mono ?_
    rintro e w2 ⟨rfl, m2, rfl⟩
    have GG : Hid (Grown lo (.slice A q c) (Tr.growF 0 t m) w (.returned (.slice A q c)) (w1.drewN m2)) := by
      rw [Hid, G.out]
      exact ⟨A, q, c, vs, rfl, ((HM.out.below HB1.out (Nat.le_refl _)).drewN m2).more (Nat.le_refl _) hs1, grown_any (below_grown (below_drewN HB1.out m2)), .inl rfl⟩
    go_wp2
    go_ret
    exact GG.out
set_option maxHeartbeats 2000000 in
theorem sGrow_succ (f : Nat) (IH : SGrow f) : SGrow (f + 1) := by
  obtain ⟨i0, hi, hz0, hz1, hz2⟩ := info_parts info_i64
  intro At A ct q c n lo lot t m vs w hn hn8 hlv hq hlo ht hm
  obtain ⟨nt, hnt⟩ : ∃ nt, nt = t.length := ⟨_, rfl⟩
  have h1 : 1 ≤ nt := by have := (Tr.isLv_iff.1 hlv).1; omega
  have HNT : Hid (t.length = nt) := hnt.symm
  rw [← hnt] at ht ⊢
  obtain ⟨gt, capt, hvt⟩ := own_form ht (by omega)
  injection hvt with hA _ hcap
  subst hA hcap
  obtain ⟨L, hL⟩ : ∃ L, L = t.getD (t.length - 1) 0 := ⟨_, rfl⟩
  have hLb := lv_last hlv
  rw [← hL, ← hnt] at hLb
  have hLc := ht.cellAt (nt - 1) (by omega)
  have hLx : t[nt - 1]? = some L := by
    obtain ⟨x, hx⟩ := at_lt (show nt - 1 < t.length by omega)
    rw [hx, hL, ← hnt, lv_at hx]
  rw [ints_at hLx] at hLc
  have hnlt : nt < n := by omega
  have HFN : Hid (nt + (f + 1) = n) := by rw [Hid, hnt]; exact hn
  have HT : Hid (OwnR w lot w.heap.size 2 (.slice (some ⟨gt, 0, none⟩) nt ct) nt (ints t)) := OwnR.of ht
  have HM := Lib.hid hm
  have HLV := Lib.hid hlv
  have HLL : Hid (t.getD (t.length - 1) 0 = L) := hL.symm
  have HG : Hid (Tr.growF (f + 1) t m = growTo f t m (L + 1).toNat) := by rw [Hid, growF_succ, ← hL]
  have hpow : 9 ^ (f + 1) = 9 * 9 ^ f := by rw [Nat.pow_succ, Nat.mul_comm]
  have HQ : Hid (q + 9 * 9 ^ f ≤ 100000000) := by rw [Hid, ← hpow]; exact hq
  have HML : Hid (m.length = q) := hm.size
  have tn := beq_f (show ¬ (nt : Int) = (n : Int) by omega)
  clear hn hlv hq hpow hL hLx ht hm hnt
  go_enter Try.func111, Try.ntmps111
  go_wp2_with fail
  go_loopw [2, 7] (fun v l wr => ∃ (k q' c' : Nat) (A' : Option Addr) (vs' : List Value), v = .slice A' q' c' ∧ l = .int .i64 (L + 1 - (k : Int)) ∧ (k : Int) ≤ L + 1 ∧ Hid (q' ≤ q + k * 9 ^ f) ∧ Hid (OwnMat wr lo wr.heap.size (.slice A' q' c') q' (growTo f t m k) vs') ∧ Hid (w.grownBy wr (Value.ownBlock (.slice A q c))) ∧ Hid (Value.ownBlock (.slice A' q' c') = Value.ownBlock (.slice A q c) ∨ ∃ g, Value.ownBlock (.slice A' q' c') = some g ∧ w.heap.size ≤ g) ∧ w.heap.size ≤ wr.heap.size) (fun _ l _ => (intOf l).toNat)
  case atStart => exact ⟨0, q, c, A, vs, rfl, by simp, by omega, by rw [Hid]; omega, HM.out, World.grownBy.refl _ _, .inl rfl, Nat.le_refl _⟩
  case round =>
    obtain ⟨k, q', c', A', vs', rfl, rfl, hk, HQ', HM', HGR, HOB, hsz⟩ := hrel
    by_cases hlt : (k : Int) < L + 1
    · have hlev : 1 ≤ L + 1 - (k : Int) := by omega
      obtain ⟨lev, hlv2⟩ : ∃ lev, lev = L + 1 - (k : Int) := ⟨_, rfl⟩
      have hl1 : 1 ≤ lev := by omega
      have hl8 : lev ≤ 9 := by omega
      have HS : Hid (growTo f t m (k + 1) = Tr.growF f (t ++ [lev]) (growTo f t m k)) := by rw [Hid, growTo_step, HLL.out, hlv2]
      have HPL : Hid (Tr.isLv (t ++ [lev]) = true) := lv_push HLV.out (by have := HNT.out; have := HFN.out; omega) hl1 (by rw [HLL.out]; omega)
      have HT' := Lib.hid (HT.out.grown HGR.out (own_types HT.out.1 HM.out.outer.1 (by decide)))
      have hk9 : k + 1 ≤ 9 := by omega
      have HQ2 : Hid (q' + 9 ^ f ≤ 100000000) := by
        have h2 := HQ'.out
        have h3 := HQ.out
        have h4 : (k + 1) * 9 ^ f ≤ 9 * 9 ^ f := Nat.mul_le_mul_right _ hk9
        rw [Nat.add_mul, Nat.one_mul] at h4
        rw [Hid]; omega
      have hrng : L + 1 - (k : Int) = lev := hlv2.symm
      rw [hrng]
      have hlm : lev - 1 = L + 1 - ((k + 1 : Nat) : Int) := by omega
      have HLM := Lib.hid hlm
      clear hrng hlm hlv2
      go_wp2_with fail
      refine (l01Own_any ⟨gt, 0, none⟩ nt ct w.heap.size t _ HNT.out (by omega) hsz HT'.out.row).mono ?_
      rintro e w1 ⟨A1, c1, rfl, own1, bel1⟩
      have hs1 := bel1.size
      have HB1 := Lib.hid bel1
      have HO1 := Lib.hid own1
      clear bel1
      go_wp2_with (at_builtin; refine wpList_append_lies _ rfl (.tmp 34) (.tmp 36) 23 rfl wr.heap.size 2 i0 _ 1 8 Try.underlying23 hi hz0 hz1 hz2 rfl (by omega) (.slice A1 nt c1) nt (ints t) rfl (own1.alloc _) ⟨w1.heap.size, 0, none⟩ 1 1 [.int .i64 lev] rfl rfl (World.news_of_block (cs := #[.int .i64 lev]) (heap_alloc_new _ _)) (by simp [Value.oneCell']) (by omega) (by simp only [maxLen]; omega) (by omega) (by simp; omega) (w1.heap.size + 1) (by simp) ?_; intro g2 c2 w2 hown2 hgrow2 hat2 hlt2)
      have BW2 : Hid (Below wr.heap.size wr w2) := (HB1.out.alloc hs1 _).grown hgrow2 (by simp; omega) (fun q hq => (HO1.out.lt q hq).1)
      have hs2 : wr.heap.size ≤ w2.heap.size := BW2.out.size
      have HLN : Hid ((t ++ [lev]).length = nt + 1) := by rw [Hid, List.length_append, HNT.out]; rfl
      have HM2 : Hid (OwnMat w2 lo w2.heap.size (.slice A' q' c') q' (growTo f t m k) vs') := (HM'.out.below BW2.out (Nat.le_refl _)).more (Nat.le_refl _) hs2
      have C1 := IH (some ⟨g2, 0, none⟩) A' c2 q' c' n lo wr.heap.size (t ++ [lev]) (growTo f t m k) vs' w2 (by rw [HLN.out]; have := HFN.out; omega) hn8 HPL.out HQ2.out (by omega) (by
        have e : ints t ++ [.int .i64 lev] = ints (t ++ [lev]) := by simp [ints, intsK]
        rw [e] at hown2
        rw [HLN.out]; exact hown2) HM2.out
      rw [HLN.out, ← HS.out] at C1
      clear hown2 hgrow2 hat2 own1
      go_wp2_with fail
      refine C1.mono ?_
      rintro e w3 ⟨A3, q3, c3, vs3, rfl, hm3, hg3, hb3⟩
      have HM3 := Lib.hid hm3
      have hs3 : w2.heap.size ≤ w3.heap.size := hg3.size
      have HGR3 : Hid (w.grownBy w3 (Value.ownBlock (.slice A q c))) := grown_chain (grown_chain HGR.out (grown_any (below_grown BW2.out)) (.inl rfl)) hg3 HOB.out
      have HOB3 : Hid (Value.ownBlock (.slice A3 q3 c3) = Value.ownBlock (.slice A q c) ∨ ∃ g, Value.ownBlock (.slice A3 q3 c3) = some g ∧ w.heap.size ≤ g) := by
        rcases hb3 with hb3 | ⟨g, hb3, hg⟩
        · rw [Hid, hb3]; exact HOB.out
        · exact .inr ⟨g, hb3, by omega⟩
      have HQ3 : Hid (q3 ≤ q + (k + 1) * 9 ^ f) := by
        have h1 := HM3.out.size
        rw [HS.out] at h1
        have h2 := grow_len f (t ++ [lev]) (growTo f t m k) HPL.out (by rw [HLN.out]; have := HFN.out; omega)
        have h3 := HM'.out.size
        have h4 := HQ'.out
        rw [Hid, Nat.add_mul, Nat.one_mul]; omega
      clear hm3 hg3 hb3 C1
      go_wp2
      go_roundw
      case rel => exact ⟨k + 1, q3, c3, A3, vs3, rfl, by rw [← HLM.out], by omega, HQ3, HM3, HGR3, HOB3, by omega⟩
      case measure => simp [intOf]; omega
    · have hk2 : (k : Int) = L + 1 := by omega
      have G : Hid (Grown lo (.slice A q c) (Tr.growF (f + 1) t m) w (.returned (.slice A' q' c')) wr) := by
        rw [Hid, HG.out, show (L + 1).toNat = k from by omega]
        exact ⟨A', q', c', vs', rfl, HM'.out, HGR.out, HOB.out⟩
      have e0 : L + 1 - (k : Int) = 0 := by omega
      rw [e0]
      clear hk2 e0
      go_wp2
      go_ret
      exact G.out
theorem sGrow_all : ∀ f, SGrow f
  | 0 => sGrow_zero
  | f+1 => sGrow_succ f (sGrow_all f)
theorem l03Trees_any (n : Nat) (w : World) (h1 : 1 ≤ n) (h8 : n ≤ 8) : Calls Try.prog 87 #[.int .i64 n] w (NewMat (Tr.treesL n).length (Tr.treesL n) w) := by
  have own1 := World.ownsRow_lit (base := w.heap.size) (size := 1) (e := 2) w #[.int .i64 0] 1 (Nat.le_refl _) (by simp [maxLen]) rfl
  have C1 := sGrow_all (n - 1) (some ⟨w.heap.size, 0, none⟩) none 1 0 0 n w.heap.size w.heap.size [0] [] [] (w.alloc (.cells #[.int .i64 0] 2)) (by simp; omega) h8 (by decide) (by
    have : n - 1 ≤ 7 := by omega
    have h2 : 9 ^ (n - 1) ≤ 9 ^ 7 := Nat.pow_le_pow_right (by omega) this
    omega) (by simp) own1 ⟨⟨World.ownsRow_nil _ _ _ _, fun g e => by simp [Value.ownBlock] at e⟩, rfl, fun r row hr => by simp at hr, fun r s u t g _ hu => by simp at hu⟩
  rw [grow_trees h1 h8] at C1
  go_enter Try.func87, Try.ntmps87
  go_wp2_with fail
  refine C1.mono ?_
  rintro e w3 ⟨A3, q3, c3, vs3, rfl, hm3, hg3, hb3⟩
  have e1 : (Tr.treesL n).length = q3 := hm3.size
  have G : Hid (NewMat (Tr.treesL n).length (Tr.treesL n) w (.returned (.slice A3 q3 c3)) w3) := by
    rw [Hid, e1]
    refine ⟨A3, c3, vs3, rfl, hm3, ?_⟩
    exact ((Below.refl _ _).alloc (Nat.le_refl _) _).grown hg3 (by simp) (fun b hb => by simp [Value.ownBlock] at hb)
  clear hm3 hg3 hb3 C1 e1
  go_wp2
  go_ret
  exact G.out
end Go.Proofs.Ytnnihdkhblbdgaa
/-
  A list of lists beside a code, as calls hand it back.
-/
namespace Go.Proofs.Ytnnihdkhblbdgaa
open Go.RowKit Fld
set_option linter.unusedVariables false
set_option linter.unusedSimpArgs false
set_option maxRecDepth 100000

/-- a list of lists that the call owns, beside a code -/
def ResM (r : List (List Int) × Int) (w : World) (e : Ending) (w' : World) : Prop :=
  r.1.length + total r.1 ≤ 1048576 ∧ ∃ A c vs, e = .returned (.tuple #[.slice A r.1.length c, .int .i64 r.2]) ∧ OwnMat w' w.heap.size w'.heap.size (.slice A r.1.length c) r.1.length r.1 vs ∧ Below w.heap.size w w'
theorem OwnMat.nil' (w : World) (lo hi : Nat) : OwnMat w lo hi (.slice none 0 0) 0 [] [] :=
  ⟨⟨World.ownsRow_nil _ _ _ _, fun g e => by simp [Value.ownBlock] at e⟩, rfl, fun r row hr => by simp at hr, fun r s u t g _ hu => by simp at hu⟩
theorem ResM.nil {r : List (List Int) × Int} {w w' : World} {k : Int} (h : r = ([], k)) (hb : Below w.heap.size w w') : ResM r w (.returned (.tuple #[.slice none 0 0, .int .i64 k])) w' := by
  subst h
  exact ⟨by simp [total], none, 0, [], rfl, OwnMat.nil' _ _ _, hb⟩
theorem ResM.of {r : List (List Int) × Int} {w w' : World} {A : Option Addr} {n c : Nat} {m : List (List Int)} {vs : List Value} {k : Int} (h : r = (m, k)) (hn : m.length + total m ≤ 1048576)
    (ho : OwnMat w' w.heap.size w'.heap.size (.slice A n c) n m vs) (hb : Below w.heap.size w w') : ResM r w (.returned (.tuple #[.slice A n c, .int .i64 k])) w' := by
  subst h
  have e := ho.size
  subst e
  exact ⟨hn, A, c, vs, rfl, ho, hb⟩
/-- lists in memory below a bound: the model's -/
def LowMat (w : World) (hi : Nat) (A : Option Addr) (m : List (List Int)) : Prop := Mat w hi A m
theorem LowMat.below {w w' : World} {hi B : Nat} {A : Option Addr} {m : List (List Int)} (h : LowMat w hi A m) (hb : Below B w w') (hB : hi ≤ B) : LowMat w' hi A m := Mat.below h hb hB
theorem LowMat.within {w w' : World} {hi lo' hi' : Nat} {A : Option Addr} {m : List (List Int)} (h : LowMat w hi A m) (hb : Within lo' hi' w w') (hs : hi ≤ w.heap.size) (hd : hi ≤ lo') : LowMat w' hi A m :=
  Mat.keep h fun b o hbb => World.cell?_of_block (hb.block b (by omega) (by omega))
theorem LowMat.mat {w : World} {hi : Nat} {A : Option Addr} {m : List (List Int)} (h : LowMat w hi A m) : Mat w hi A m := h
theorem LowMat.drewN {w : World} {hi : Nat} {A : Option Addr} {m : List (List Int)} (h : LowMat w hi A m) (k : Nat) : LowMat (w.drewN k) hi A m := h
def ResMl (r : List (List Int) × Int) (w : World) (e : Ending) (w' : World) : Prop :=
  r.1.length + total r.1 ≤ 1048576 ∧ ∃ A c, e = .returned (.tuple #[.slice A r.1.length c, .int .i64 r.2]) ∧ LowMat w' w'.heap.size A r.1 ∧ Below w.heap.size w w'
theorem ResMl.nil {r : List (List Int) × Int} {w w' : World} {k : Int} (h : r = ([], k)) (hb : Below w.heap.size w w') : ResMl r w (.returned (.tuple #[.slice none 0 0, .int .i64 k])) w' := by
  subst h
  exact ⟨by simp [total], none, 0, rfl, fun k r hr => by simp at hr, hb⟩
theorem ResMl.of {r : List (List Int) × Int} {w w' : World} {A : Option Addr} {n c : Nat} {m : List (List Int)} {k : Int} (h : r = (m, k)) (hl : m.length = n) (hn : m.length + total m ≤ 1048576)
    (ho : Mat w' w'.heap.size A m) (hb : Below w.heap.size w w') : ResMl r w (.returned (.tuple #[.slice A n c, .int .i64 k])) w' := by
  subst h hl
  exact ⟨hn, A, c, rfl, ho, hb⟩
end Go.Proofs.Ytnnihdkhblbdgaa
/-
  What TreesOf answers, the program's and the model's.
-/
namespace Go.Proofs.Ytnnihdkhblbdgaa
open Go.RowKit Fld
set_option linter.unusedVariables false
set_option linter.unusedSimpArgs false
set_option maxRecDepth 100000

theorem total_bd {q : Nat} : ∀ {m : List (List Int)}, (∀ t ∈ m, t.length ≤ q) → total m ≤ m.length * q
  | [], _ => by simp [total]
  | x :: r, h => by
    have h1 := h x (by simp)
    have h2 := total_bd (fun t ht => h t (by simp [ht]) : ∀ t ∈ r, t.length ≤ q)
    have e : total (x :: r) = x.length + total r := by simp [total]
    rw [e, List.length_cons, Nat.add_mul, Nat.one_mul]; omega
theorem trees_total {n : Nat} (h1 : 1 ≤ n) (h8 : n ≤ 8) : (Tr.treesL n).length + total (Tr.treesL n) ≤ 1048576 := by
  obtain ⟨ha, hl⟩ := trees_all h1 h8
  have := total_bd (q := 8) (m := Tr.treesL n) (fun t ht => by rw [(ha t ht).2]; exact h8)
  omega
def treesOfA (a : Int) : List (List Int) × Int := if 1 ≤ a ∧ a ≤ 8 then (Tr.treesL a.toNat, 0) else ([], 2)
theorem treesOfA_yes {n : Nat} (h1 : 1 ≤ n) (h8 : n ≤ 8) : treesOfA (n : Int) = (Tr.treesL n, 0) := by
  unfold treesOfA; rw [if_pos (by omega)]; rfl
theorem treesOfA_no {a : Int} (h : ¬ (1 ≤ a ∧ a ≤ 8)) : treesOfA a = ([], 2) := if_neg h
theorem pTreesOf_L (a : Int) (w : World) (ha : -9223372036854775808 ≤ a ∧ a ≤ 9223372036854775807) : Calls Try.prog 57 #[.int .i64 a] w (ResM (treesOfA a) w) := by
  by_cases h : 1 ≤ a ∧ a ≤ 8
  · obtain ⟨n, rfl⟩ : ∃ n : Nat, a = (n : Int) := ⟨a.toNat, by omega⟩
    have h1 : 1 ≤ n := by omega
    have h8 : n ≤ 8 := by omega
    have G := Lib.hid (treesOfA_yes h1 h8)
    clear h ha
    go_enter Try.func57, Try.ntmps57
    go_wp2_with fail
    refine (treesWith_any n _ h1 h8).mono ?_
    rintro e w1 ⟨A1, c1, vs1, rfl, own1, bel1⟩
    have HO := Lib.hid own1
    have HB := Lib.hid bel1
    have HT := Lib.hid (trees_total h1 h8)
    clear own1 bel1
    go_wp2
    go_ret2
    exact ResM.of G.out HT.out HO.out HB.out
  · have G := Lib.hid (treesOfA_no h)
    by_cases h1 : a < 1
    · clear h
      go_enter Try.func57, Try.ntmps57
      go_wp2
      go_ret2
      exact ResM.nil G.out (Below.refl _ _)
    · have h8 : 8 < a := by omega
      clear h
      go_enter Try.func57, Try.ntmps57
      go_wp2
      go_ret2
      exact ResM.nil G.out (Below.refl _ _)
end Go.Proofs.Ytnnihdkhblbdgaa
/-
  The list of all trees; what TreeAt answers, the program's and the model's.
-/
namespace Go.Proofs.Ytnnihdkhblbdgaa
open Go.RowKit Fld
set_option linter.unusedVariables false
set_option linter.unusedSimpArgs false
set_option maxRecDepth 100000

/-- rows are added behind the last one -/
theorem OwnMat.pushAll {w w2 : World} {lo hi n n' g cap c' : Nat} {v : Value} {A' : Option Addr} {m m' : List (List Int)} {vs vs' : List Value} (h : OwnMat w lo hi v n m vs) (hs : hi ≤ w.heap.size) (h' : OwnMat w hi w.heap.size (.slice A' n' c') n' m' vs') (hl : lo ≤ hi)
    (h2 : w2.ownsRow lo 23 1 (.slice (some ⟨g, 0, none⟩) (n + n') cap) (n + n') (vs ++ vs')) (hg : w.grownBy w2 v.ownBlock) : OwnMat w2 lo w2.heap.size (.slice (some ⟨g, 0, none⟩) (n + n') cap) (n + n') (m ++ m') (vs ++ vs') := by
  have hz : w.heap.size ≤ w2.heap.size := hg.size
  have carry : ∀ (lo' hi' : Nat) (A2 : Option Addr) (c2 : Nat) (r2 : List Int), OwnR w lo' hi' 2 (.slice A2 r2.length c2) r2.length (ints r2) → OwnR w2 lo' hi' 2 (.slice A2 r2.length c2) r2.length (ints r2) := fun lo' hi' A2 c2 r2 o2 => o2.grown hg (own_types o2.1 h.outer.1 (by decide))
  have side : ∀ (r : Nat) (u : Value) (g' : Nat), (vs ++ vs')[r]? = some u → u.ownBlock = some g' → (r < vs.length ∧ vs[r]? = some u ∧ g' < hi) ∨ (vs.length ≤ r ∧ vs'[r - vs.length]? = some u ∧ hi ≤ g') := by
    intro r u g' hu hb
    rcases Nat.lt_or_ge r vs.length with x | x
    · rw [List.getElem?_append_left x] at hu
      obtain ⟨A2, c2, e2, o2⟩ := h.inner r _ (List.getElem?_eq_getElem (by rw [← h.len]; exact x))
      rw [hu] at e2
      injection e2 with e2
      subst e2
      exact .inl ⟨x, hu, o2.2 g' hb⟩
    · rw [List.getElem?_append_right x] at hu
      have hx : r - vs.length < vs'.length := by
        rcases Nat.lt_or_ge (r - vs.length) vs'.length with y | y
        · exact y
        · rw [List.getElem?_eq_none y] at hu; cases hu
      obtain ⟨A2, c2, e2, o2⟩ := h'.inner _ _ (List.getElem?_eq_getElem (by rw [← h'.len]; exact hx))
      have hu0 := hu
      rw [hu] at e2
      injection e2 with e2
      subst e2
      exact .inr ⟨x, hu0, (o2.1.lt g' hb).1⟩
  refine ⟨OwnR.of h2, by simp [h.len, h'.len], ?_, ?_⟩
  · intro r row hr
    rcases Nat.lt_or_ge r m.length with x | x
    · rw [List.getElem?_append_left x] at hr
      obtain ⟨A2, c2, e2, o2⟩ := h.inner r row hr
      exact ⟨A2, c2, by rw [List.getElem?_append_left (by rw [h.len]; exact x)]; exact e2, (carry _ _ _ _ _ o2).more (Nat.le_refl _) (by omega)⟩
    · rw [List.getElem?_append_right x] at hr
      obtain ⟨A2, c2, e2, o2⟩ := h'.inner _ row hr
      exact ⟨A2, c2, by rw [List.getElem?_append_right (by rw [h.len]; exact x), h.len]; exact e2, (carry _ _ _ _ _ o2).more hl hz⟩
  · intro r s u t g' hne hu ht hb hb'
    rcases side r u g' hu hb with ⟨a1, a2, a3⟩ | ⟨a1, a2, a3⟩ <;> rcases side s t g' ht hb' with ⟨b1, b2, b3⟩ | ⟨b1, b2, b3⟩
    · exact h.apart r s u t g' hne a2 b2 hb hb'
    · omega
    · omega
    · exact h'.apart _ _ u t g' (by omega) a2 b2 hb hb'
def treesTo (k : Nat) : List (List Int) := (List.range k).flatMap fun n => Tr.treesL (n + 1)
theorem treesTo_step (k : Nat) : treesTo (k + 1) = treesTo k ++ Tr.treesL (k + 1) := by
  unfold treesTo; rw [List.range_succ, List.flatMap_append]; simp
theorem treesTo_end : treesTo 8 = Tr.allL := rfl
theorem treesTo_len : ∀ k, k ≤ 8 → (treesTo k).length ≤ k * 115
  | 0, _ => by simp [treesTo]
  | k+1, h => by
    rw [treesTo_step, List.length_append]
    have := treesTo_len k (by omega)
    have := (trees_all (n := k + 1) (by omega) (by omega)).2
    omega
theorem own_addr {w : World} {lo : Nat} {T : TypeId} {A : Option Addr} {n c : Nat} {vs : List Value} (h : w.ownsRow lo T 1 (.slice A n c) n vs) (h1 : 0 < n) : ∃ g, A = some ⟨g, 0, none⟩ := by
  obtain ⟨g, cap, hv⟩ := own_form h h1
  injection hv with hA _ _
  exact ⟨g, hA⟩
theorem vals_one {w : World} {lo hi n : Nat} {v : Value} {m : List (List Int)} {vs : List Value} (h : OwnMat w lo hi v n m vs) : ∀ u ∈ vs, u.oneCell' = true := by
  intro u hu
  obtain ⟨k, hk⟩ := List.mem_iff_getElem?.1 hu
  have hkl : k < m.length := by
    rw [← h.len]
    rcases Nat.lt_or_ge k vs.length with y | y
    · exact y
    · rw [List.getElem?_eq_none y] at hk; cases hk
  obtain ⟨A, c, e, _⟩ := h.inner k _ (List.getElem?_eq_getElem hkl)
  rw [hk] at e
  injection e with e
  subst e
  rfl
theorem trees_pos {n : Nat} (h1 : 1 ≤ n) : 1 ≤ (Tr.treesL n).length := by
  unfold Tr.treesL
  rw [show (116 : Nat) = 115 + 1 from rfl, Tr.treesF]
  simp
set_option maxHeartbeats 1000000 in
theorem allTrees_any (w : World) : Calls Try.prog 108 #[] w (NewMat 200 Tr.allL w) := by
  obtain ⟨j0, hj, hy0, hy1, hy2⟩ := info_parts info_row
  go_enter Try.func108, Try.ntmps108
  go_wp2_with (at_make; refine wpList_make_own _ rfl _ _ 22 rfl w.heap.size 23 j0 (.slice none 0 0) 1 Try.underlying22 hj hy0 hy1 .i64 .i64 _ 200 rfl rfl rfl (by rw [hy2]; omega) (by unfold maxLen; omega) (Nat.le_refl _) ?_; intro w1 hown hg)
  have M0 : Hid (OwnMat w1 w.heap.size w1.heap.size (.slice (some ⟨w.heap.size, 0, none⟩) 0 200) 0 [] []) := ⟨OwnR.of hown, rfl, fun r row hr => by simp at hr, fun r s u t g _ hu => by simp at hu⟩
  have B0 : Hid (Below w.heap.size w w1) := (Below.refl _ _).grown hg (Nat.le_refl _) (fun k hk => by cases hk)
  have hs0 := hg.size
  clear hown hg
  go_wp2_with fail
  go_loopw [1, 2] (fun v i wr => ∃ (k q g cap : Nat) (vs : List Value), k ≤ 8 ∧ v = .slice (some ⟨g, 0, none⟩) q cap ∧ i = .int .i64 ((k : Int) + 1) ∧ Hid (OwnMat wr w.heap.size wr.heap.size (.slice (some ⟨g, 0, none⟩) q cap) q (treesTo k) vs) ∧ Below w.heap.size w wr ∧ w.heap.size ≤ wr.heap.size) (fun _ i _ => 9 - (intOf i).toNat)
  case atStart => exact ⟨0, 0, w.heap.size, 200, [], Nat.zero_le _, rfl, rfl, M0, B0.out, hs0⟩
  case round =>
    obtain ⟨k, q, g, cap, vs, hk, rfl, rfl, HM, HB, hsz⟩ := hrel
    by_cases hlt : k < 8
    · have hq : q ≤ 920 := by
        have h1 := HM.out.size
        have h2 := treesTo_len k hk
        omega
      have HBB := Lib.hid HB
      have C1 := treesWith_any (k + 1) wr (by omega) (by omega)
      have h115 := (trees_all (n := k + 1) (by omega) (by omega)).2
      have hpos := trees_pos (n := k + 1) (by omega)
      obtain ⟨T, hT⟩ : ∃ T, T = Tr.treesL (k + 1) := ⟨_, rfl⟩
      have HS : Hid (treesTo (k + 1) = treesTo k ++ T) := by rw [Hid, hT]; exact treesTo_step k
      rw [← hT] at C1 h115 hpos
      obtain ⟨N, hN⟩ : ∃ N, N = T.length := ⟨_, rfl⟩
      rw [← hN] at C1 h115 hpos
      clear HB hT hN
      go_wp2_with fail
      refine C1.mono ?_
      rintro e w2 ⟨A2, c2, vs2, rfl, own2, bel2⟩
      have hs2 := bel2.size
      have HM2 := Lib.hid (HM.out.below bel2 (Nat.le_refl _))
      have HO2 := Lib.hid own2
      have HB2 := Lib.hid (HBB.out.trans (bel2.mono hsz))
      have hownO := HM2.out.outer.1
      obtain ⟨g2, rfl⟩ := own_addr own2.outer.1 (by omega)
      have HLEN : Hid (vs2.length = N * 1) := by rw [Hid, HO2.out.len, HO2.out.size, Nat.mul_one]
      have HNEW : Hid (∀ j u, vs2[j]? = some u → w2.cell? ((⟨g2, 0, none⟩ : Addr).add j) = some u) := (row_of_own HO2.out.outer.1).news
      have HONE := Lib.hid (vals_one HO2.out)
      clear own2 bel2 C1
      go_wp2_with (at_builtin; refine wpList_append_lies _ rfl (.tmp 8) (.tmp 10) 22 rfl w.heap.size 23 j0 _ 1 24 Try.underlying22 hj hy0 hy1 hy2 rfl (by omega) (.slice (some ⟨g, 0, none⟩) q cap) q vs rfl hownO ⟨g2, 0, none⟩ N c2 vs2 rfl HLEN.out HNEW.out HONE.out (by omega) (by simp only [maxLen]; omega) (by omega) (by omega) w2.heap.size rfl ?_; intro g5 cap5 w5 hown5 hgrow5 hat5 hlt5)
      have GM : Hid (OwnMat w5 w.heap.size w5.heap.size (.slice (some ⟨g5, 0, none⟩) (q + N) cap5) (q + N) (treesTo (k + 1)) (vs ++ vs2)) := by
        rw [Hid, HS.out]
        exact HM2.out.pushAll hs2 HO2.out hsz hown5 hgrow5
      have GB : Hid (Below w.heap.size w w5) := HB2.out.grown hgrow5 (by omega) (fun z hz => (hownO.lt z hz).1)
      have hs5 : w2.heap.size ≤ w5.heap.size := hgrow5.size
      clear hown5 hgrow5 hat5 hownO
      go_wp2
      go_roundw
      case rel => exact ⟨k + 1, q + N, g5, cap5, _, by omega, rfl, by go_num, GM, GB.out, by omega⟩
      case measure => simp [intOf]; omega
    · obtain rfl : k = 8 := by omega
      have e : q = 200 := by have := HM.out.size; rw [treesTo_end, Tr.allL_len] at this; omega
      subst e
      have G : Hid (NewMat 200 Tr.allL w (.returned (.slice (some ⟨g, 0, none⟩) 200 cap)) wr) := ⟨_, _, vs, rfl, HM.out, HB⟩
      clear HB
      go_wp2
      go_ret
      exact G.out
theorem all_split : ∀ k, k ≤ 8 → ∃ rest, Tr.allL = treesTo k ++ rest := by
  intro k hk
  refine ⟨((List.range (8 - k)).map (· + k)).flatMap fun n => Tr.treesL (n + 1), ?_⟩
  rw [← treesTo_end]
  unfold treesTo
  rw [← List.flatMap_append]
  congr 1
  have : ∀ k, k ≤ 8 → List.range 8 = List.range k ++ (List.range (8 - k)).map (· + k) := by decide
  exact this k hk
def treeAtA (a : Int) : List Int × Int := if 0 ≤ a ∧ a ≤ 199 then (Tr.allL.getD a.toNat [], 0) else ([], 2)
theorem treeAtA_no {a : Int} (h : ¬ (0 ≤ a ∧ a ≤ 199)) : treeAtA a = ([], 2) := if_neg h
theorem treeAtA_yes {a : Nat} {t : List Int} (ht : Tr.allL[a]? = some t) (h : a ≤ 199) : treeAtA (a : Int) = (t, 0) := by
  unfold treeAtA
  rw [if_pos (by omega), Int.toNat_natCast, List.getD_eq_getElem?_getD, ht]; rfl
theorem all_len {a : Nat} {t : List Int} (ht : Tr.allL[a]? = some t) : t.length ≤ 8 := by
  have hm := List.mem_of_getElem? ht
  rw [← treesTo_end] at hm
  unfold treesTo at hm
  rw [List.mem_flatMap] at hm
  obtain ⟨n, hn, h⟩ := hm
  rw [List.mem_range] at hn
  rw [((trees_all (n := n + 1) (by omega) (by omega)).1 t h).2]; omega
end Go.Proofs.Ytnnihdkhblbdgaa
/-
  Which lists are maps, plainly.
-/
namespace Go.Proofs.Ytnnihdkhblbdgaa
open Go.RowKit Fld
set_option linter.unusedVariables false
set_option linter.unusedSimpArgs false
set_option maxRecDepth 100000

def isMp (a : List Int) : Bool := decide (a.length = 38) && allNum a
def isChr (a : List Int) : Bool := isMp a && decide (a.getD 0 0 = 1)
def isInf (a : List Int) : Bool := isMp a && decide (a.getD 0 0 = 0)
theorem isMp_num {a : List Int} (h : a.length = 38) : isMp a = allNum a := by unfold isMp; rw [decide_eq_true h, Bool.true_and]
theorem isMp_len {a : List Int} (h : a.length ≠ 38) : isMp a = false := by unfold isMp; rw [decide_eq_false h, Bool.false_and]
theorem isMp_iff {a : List Int} : isMp a = true ↔ a.length = 38 ∧ allNum a = true := by unfold isMp; simp
theorem isMp_parts {a : List Int} {n : Nat} (h : isMp a = true) (hl : a.length = n) : n = 38 ∧ allNum a = true := by
  obtain ⟨h1, h2⟩ := isMp_iff.1 h
  exact ⟨by omega, h2⟩
theorem isChr_no {a : List Int} (h : isMp a = false) : isChr a = false := by unfold isChr; rw [h, Bool.false_and]
theorem isInf_no {a : List Int} (h : isMp a = false) : isInf a = false := by unfold isInf; rw [h, Bool.false_and]
theorem isChr_at {a : List Int} {x : Int} (h : isMp a = true) (hx : a[0]? = some x) : isChr a = decide (x = 1) := by
  unfold isChr; rw [h, Bool.true_and, List.getD_eq_getElem?_getD, hx]; rfl
theorem isInf_at {a : List Int} {x : Int} (h : isMp a = true) (hx : a[0]? = some x) : isInf a = decide (x = 0) := by
  unfold isInf; rw [h, Bool.true_and, List.getD_eq_getElem?_getD, hx]; rfl
def unitL : List Int := 1 :: List.replicate 37 0
def zero38 : List Int := List.replicate 38 0
theorem zero38_at {k : Nat} (h : k < 38) : zero38[k]? = some 0 := by unfold zero38; rw [List.getElem?_replicate, if_pos h]
theorem unitL_length : unitL.length = 38 := rfl
end Go.Proofs.Ytnnihdkhblbdgaa
/-
  Maps of trees, plainly: which lists are maps, the numbers of nodes at their places, and what is made of them.
-/
namespace Go.Proofs.Ytnnihdkhblbdgaa
open Go.RowKit Fld
set_option linter.unusedVariables false
set_option linter.unusedSimpArgs false
set_option maxRecDepth 100000

/-- the numbers of nodes of the trees at the places of a map -/
def lens : List Nat := [0, 1, 2, 3, 3, 4, 4, 4, 4, 5, 5, 5, 5, 5, 5, 5, 5, 5, 6, 6, 6, 6, 6, 6, 6, 6, 6, 6, 6, 6, 6, 6, 6, 6, 6, 6, 6, 6]
theorem lens_len : lens.length = 38 := rfl
theorem lens_bd : ∀ l ∈ lens, l ≤ 6 := by decide
theorem lens_to : lens = 0 :: (treesTo 6).map List.length := by decide +kernel
theorem to_len : (treesTo 6).length = 37 := by
  have := congrArg List.length lens_to
  rw [List.length_cons, List.length_map, lens_len] at this; omega
theorem lens_at {k : Nat} (h : k < 38) : ∃ l, lens[k]? = some l ∧ l ≤ 6 := by
  have h2 : k < lens.length := by rw [lens_len]; exact h
  exact ⟨lens[k], List.getElem?_eq_getElem h2, lens_bd _ (List.getElem_mem h2)⟩
theorem to_at {k : Nat} {t : List Int} (h : (treesTo 6)[k]? = some t) : lens[k + 1]? = some t.length := by
  rw [lens_to, List.getElem?_cons_succ, List.getElem?_map, h]; rfl
/-- the texts of the trees at the places of a map -/
def mapTx : List (List UInt8) := [] :: (treesTo 6).map Tr.txt
theorem mapTx_len : mapTx.length = 38 := by unfold mapTx; rw [List.length_cons, List.length_map, to_len]
theorem mapTx_lens : mapTx.map List.length = lens.map (2 * ·) := by decide +kernel
theorem mapTx_at {k l : Nat} (h : lens[k]? = some l) : ∃ x, mapTx[k]? = some x ∧ x.length = 2 * l := by
  have e : (mapTx.map List.length)[k]? = some (2 * l) := by rw [mapTx_lens, List.getElem?_map, h]; rfl
  rw [List.getElem?_map] at e
  cases hx : mapTx[k]? with
  | none => rw [hx] at e; cases e
  | some x => rw [hx] at e; exact ⟨x, rfl, by simpa using e⟩
/-- up to which number of nodes two maps agree -/
def agrL : List Int → List Int → List Nat → Int
  | x :: xs, y :: ys, l :: ls => if x = y then agrL xs ys ls else (l : Int) - 1
  | _, _, _ => 6
def agrA (a b : List Int) : Int := agrL a b lens
theorem drop_at {α : Type} {L : List α} {k : Nat} {x : α} (h : L[k]? = some x) : L.drop k = x :: L.drop (k + 1) := by
  have hlt : k < L.length := by
    rcases Nat.lt_or_ge k L.length with g | g
    · exact g
    · rw [List.getElem?_eq_none g] at h; cases h
  rw [List.getElem?_eq_getElem hlt] at h
  injection h with h
  rw [List.drop_eq_getElem_cons hlt, h]
theorem agr_next {a b : List Int} {k : Nat} {x y : Int} {l : Nat} (hx : a[k]? = some x) (hy : b[k]? = some y) (hl : lens[k]? = some l) (e : x = y) : agrL (a.drop k) (b.drop k) (lens.drop k) = agrL (a.drop (k + 1)) (b.drop (k + 1)) (lens.drop (k + 1)) := by
  rw [drop_at hx, drop_at hy, drop_at hl, agrL, if_pos e]
theorem agr_stop {a b : List Int} {k : Nat} {x y : Int} {l : Nat} (hx : a[k]? = some x) (hy : b[k]? = some y) (hl : lens[k]? = some l) (e : x ≠ y) : agrL (a.drop k) (b.drop k) (lens.drop k) = (l : Int) - 1 := by
  rw [drop_at hx, drop_at hy, drop_at hl, agrL, if_neg e]
theorem agr_end {a b : List Int} : agrL (a.drop 38) (b.drop 38) (lens.drop 38) = 6 := by
  have e : lens.drop 38 = [] := rfl
  rw [e]
  cases a.drop 38 <;> cases b.drop 38 <;> rfl
theorem agr_start (a b : List Int) : agrA a b = agrL (a.drop 0) (b.drop 0) (lens.drop 0) := rfl
/-- a map with 0 at all trees with more than n nodes -/
def truncL (a : List Int) (n : Int) : List Int := List.zipWith (fun x (l : Nat) => if n < (l : Int) then 0 else x) a lens
theorem truncL_length {a : List Int} (h : a.length = 38) (n : Int) : (truncL a n).length = 38 := by unfold truncL; rw [List.length_zipWith, h, lens_len, Nat.min_self]
theorem truncL_at {a : List Int} {n : Int} {k l : Nat} {x : Int} (hx : a[k]? = some x) (hl : lens[k]? = some l) : (truncL a n)[k]? = some (if n < (l : Int) then 0 else x) := by
  unfold truncL; rw [List.getElem?_zipWith, hx, hl]
def scaleL (a : List Int) (y : Int) : List Int := List.zipWith (fun x l => x * pw y l % 10007) a lens
theorem scaleL_length {a : List Int} (h : a.length = 38) (y : Int) : (scaleL a y).length = 38 := by unfold scaleL; rw [List.length_zipWith, h, lens_len, Nat.min_self]
theorem scaleL_at {a : List Int} {y : Int} {k l : Nat} {x : Int} (hx : a[k]? = some x) (hl : lens[k]? = some l) : (scaleL a y)[k]? = some (x * pw y l % 10007) := by
  unfold scaleL; rw [List.getElem?_zipWith, hx, hl]
/-- the answers -/
def agreeA (a b : List Int) : Int × Int := if isMp a = true ∧ isMp b = true then (agrA a b, 0) else (0, 1)
theorem agreeA_no1 {a b : List Int} (h : isMp a = false) : agreeA a b = (0, 1) := if_neg (by rw [h]; simp)
theorem agreeA_no2 {a b : List Int} (h : isMp b = false) : agreeA a b = (0, 1) := if_neg (by rw [h]; simp)
theorem agreeA_yes {a b : List Int} (h : isMp a = true) (k : isMp b = true) : agreeA a b = (agrA a b, 0) := if_pos ⟨h, k⟩
def truncA (a : List Int) (y : Int) : List Int × Int := if isMp a = true then (if 0 ≤ y ∧ y ≤ 6 then (truncL a y, 0) else ([], 2)) else ([], 1)
theorem truncA_no {a : List Int} {y : Int} (h : isMp a = false) : truncA a y = ([], 1) := if_neg (by rw [h]; simp)
theorem truncA_out {a : List Int} {y : Int} (h : isMp a = true) (hy : ¬ (0 ≤ y ∧ y ≤ 6)) : truncA a y = ([], 2) := by unfold truncA; rw [if_pos h, if_neg hy]
theorem truncA_yes {a : List Int} {y : Int} (h : isMp a = true) (hy : 0 ≤ y ∧ y ≤ 6) : truncA a y = (truncL a y, 0) := by unfold truncA; rw [if_pos h, if_pos hy]
def scaleMA (a : List Int) (y : Int) : List Int × Int := if isMp a = true then (if 0 ≤ y ∧ y < 10007 then (scaleL a y, 0) else ([], 2)) else ([], 1)
theorem scaleMA_no {a : List Int} {y : Int} (h : isMp a = false) : scaleMA a y = ([], 1) := if_neg (by rw [h]; simp)
theorem scaleMA_out {a : List Int} {y : Int} (h : isMp a = true) (hy : ¬ (0 ≤ y ∧ y < 10007)) : scaleMA a y = ([], 2) := by unfold scaleMA; rw [if_pos h, if_neg hy]
theorem scaleMA_yes {a : List Int} {y : Int} (h : isMp a = true) (hy : 0 ≤ y ∧ y < 10007) : scaleMA a y = (scaleL a y, 0) := by unfold scaleMA; rw [if_pos h, if_pos hy]
end Go.Proofs.Ytnnihdkhblbdgaa
/-
  Trees compared: by nodes, then by text.
-/
namespace Go.Proofs.Ytnnihdkhblbdgaa
open Go.RowKit Fld
set_option linter.unusedVariables false
set_option linter.unusedSimpArgs false
set_option maxRecDepth 100000

theorem intNaN_any (x : Int) (w : World) : Calls Try.prog 150 #[.int .i64 x] w fun e w' => e = .returned (.bool false) ∧ w = w' := by
  go_enter Try.func150, Try.ntmps150
  go_wp2
  go_ret
  exact ⟨by simp, rfl⟩
def cmpI (a b : Int) : Int := if a < b then -1 else if b < a then 1 else 0
theorem intCompare_any (a b : Int) (w : World) : Calls Try.prog 135 #[.int .i64 a, .int .i64 b] w fun e w' => e = .returned (.int .i64 (cmpI a b)) ∧ w = w' := by
  rcases Int.lt_trichotomy a b with g | g | g
  · have H : Hid (cmpI a b = -1) := if_pos g
    go_enter Try.func135, Try.ntmps135
    go_wp2_with (go_at_call 150; refine (intNaN_any _ _).mono ?_; rintro e w' ⟨rfl, rfl⟩)
    go_ret
    exact ⟨ret_i64 H.out.symm, rfl⟩
  · have H : Hid (cmpI a b = 0) := by unfold cmpI; rw [Hid, if_neg (by omega), if_neg (by omega)]
    have t1 : ¬ a < b := by omega
    have t2 : ¬ b < a := by omega
    clear g
    go_enter Try.func135, Try.ntmps135
    go_wp2_with (go_at_call 150; refine (intNaN_any _ _).mono ?_; rintro e w' ⟨rfl, rfl⟩)
    go_ret
    exact ⟨ret_i64 H.out.symm, rfl⟩
  · have H : Hid (cmpI a b = 1) := by unfold cmpI; rw [Hid, if_neg (by omega), if_pos g]
    have t1 : ¬ a < b := by omega
    go_enter Try.func135, Try.ntmps135
    go_wp2_with (go_at_call 150; refine (intNaN_any _ _).mono ?_; rintro e w' ⟨rfl, rfl⟩)
    go_ret
    exact ⟨ret_i64 H.out.symm, rfl⟩
def cmpX (x y : List UInt8) : Int := if Tr.ltS x y then -1 else if Tr.ltS y x then 1 else 0
theorem run_gtr_str (x y : List UInt8) (w : World) : Sem.run Try.prog (binOp .gtr 73 (.string ⟨x.toArray⟩) (.string ⟨y.toArray⟩)) w = .ok (.bool (Op.bytesLess y x)) w := by
  have e : (!Op.bytesLess x y && !x == y) = Op.bytesLess y x := by
    rw [less_eq, less_eq, Bool.not_not]
    cases h : Tr.leS x y
    · have h1 := Tr.leS_to h
      have hne : (x == y) = false := by
        rw [beq_eq_false_iff_ne]
        intro e
        subst e
        rw [h1] at h; cases h
      rw [h1, hne]; rfl
    · cases h2 : Tr.leS y x
      · rfl
      · have := Tr.leS_as h h2
        subst this
        simp
  simp [binOp, Op.stringOp, e]
theorem treeCompare_any (x y : List UInt8) (w : World) : Calls Try.prog 136 #[.string ⟨x.toArray⟩, .string ⟨y.toArray⟩] w fun e w' => e = .returned (.int .i64 (cmpX x y)) ∧ w = w' := by
  have l1 : Op.bytesLess x y = Tr.ltS x y := less_eq x y
  have l2 : Op.bytesLess y x = Tr.ltS y x := less_eq y x
  have l3 := run_gtr_str x y
  cases h1 : Tr.ltS x y
  · cases h2 : Tr.ltS y x
    · have H : Hid (cmpX x y = 0) := by unfold cmpX; rw [Hid, h1, h2]; rfl
      rw [h1] at l1
      rw [h2] at l2
      clear h1 h2
      go_enter Try.func136, Try.ntmps136
      go_wp2_with (go_at_call 151; refine (treeNaN_any _ _).mono ?_; rintro e w' ⟨rfl, rfl⟩)
      go_ret
      exact ⟨ret_i64 H.out.symm, rfl⟩
    · have H : Hid (cmpX x y = 1) := by unfold cmpX; rw [Hid, h1, h2]; rfl
      rw [h1] at l1
      rw [h2] at l2
      clear h1 h2
      go_enter Try.func136, Try.ntmps136
      go_wp2_with (go_at_call 151; refine (treeNaN_any _ _).mono ?_; rintro e w' ⟨rfl, rfl⟩)
      go_ret
      exact ⟨ret_i64 H.out.symm, rfl⟩
  · have H : Hid (cmpX x y = -1) := by unfold cmpX; rw [Hid, h1]; rfl
    rw [h1] at l1
    clear h1 l2
    go_enter Try.func136, Try.ntmps136
    go_wp2_with (go_at_call 151; refine (treeNaN_any _ _).mono ?_; rintro e w' ⟨rfl, rfl⟩)
    go_ret
    exact ⟨ret_i64 H.out.symm, rfl⟩
theorem orInt_any (a b : Int) (g : Nat) (w : World) (h0 : w.cell? ⟨g, 0, none⟩ = some (.int .i64 a)) (h1 : w.cell? ⟨g, 1, none⟩ = some (.int .i64 b)) :
    Calls Try.prog 134 #[.slice (some ⟨g, 0, none⟩) 2 2] w fun e w' => e = .returned (.int .i64 (if a ≠ 0 then a else b)) ∧ w = w' := by
  by_cases ha : a = 0
  · subst ha
    have H : Hid ((if (0 : Int) ≠ 0 then (0 : Int) else b) = b) := by rw [Hid]; simp
    by_cases hb : b = 0
    · subst hb
      go_enter Try.func134, Try.ntmps134
      go_wp2_with fail
      go_loop [8] (fun i => ∃ k : Nat, k ≤ 2 ∧ i = .int .i64 k) (fun i => 2 - (intOf i).toNat)
      case atStart => exact ⟨0, by omega, rfl⟩
      case round =>
        obtain ⟨k, hk, rfl⟩ := hrel
        rcases (show k = 0 ∨ k = 1 ∨ k = 2 by omega) with rfl | rfl | rfl
        · go_wp2
          go_round
          case rel => exact ⟨1, by omega, rfl⟩
          case measure => simp [intOf]
        · go_wp2
          go_round
          case rel => exact ⟨2, by omega, rfl⟩
          case measure => simp [intOf]
        · go_wp2
          go_ret
          exact ⟨by simp, rfl⟩
    · have tb := bne_t hb
      go_enter Try.func134, Try.ntmps134
      go_wp2_with fail
      go_loop [8] (fun i => ∃ k : Nat, k ≤ 1 ∧ i = .int .i64 k) (fun i => 2 - (intOf i).toNat)
      case atStart => exact ⟨0, by omega, rfl⟩
      case round =>
        obtain ⟨k, hk, rfl⟩ := hrel
        rcases (show k = 0 ∨ k = 1 by omega) with rfl | rfl
        · go_wp2
          go_round
          case rel => exact ⟨1, by omega, rfl⟩
          case measure => simp [intOf]
        · go_wp2
          go_ret
          exact ⟨ret_i64 H.out.symm, rfl⟩
  · have ta := bne_t ha
    have H : Hid ((if a ≠ 0 then a else b) = a) := if_pos ha
    go_enter Try.func134, Try.ntmps134
    go_wp2_with fail
    go_loop [8] (fun i => i = .int .i64 0) (fun i => 0)
    case atStart => rfl
    case round =>
      obtain rfl := hrel
      go_wp2
      go_ret
      exact ⟨by first | exact ret_i64 H.out.symm | exact ret_i64 rfl, rfl⟩
theorem cmp_or (x y : List UInt8) : (if cmpI ((x.length / 2 : Nat) : Int) ((y.length / 2 : Nat) : Int) ≠ 0 then cmpI ((x.length / 2 : Nat) : Int) ((y.length / 2 : Nat) : Int) else cmpX x y) = Tr.cmpT x y := by
  unfold cmpI cmpX Tr.cmpT
  by_cases h1 : x.length / 2 < y.length / 2
  · have e1 : ((x.length / 2 : Nat) : Int) < ((y.length / 2 : Nat) : Int) := by omega
    rw [if_pos e1, if_pos h1]; rfl
  · have e1 : ¬ ((x.length / 2 : Nat) : Int) < ((y.length / 2 : Nat) : Int) := by omega
    by_cases h2 : y.length / 2 < x.length / 2
    · have e2 : ((y.length / 2 : Nat) : Int) < ((x.length / 2 : Nat) : Int) := by omega
      rw [if_neg e1, if_neg h1, if_pos e2, if_pos h2]; rfl
    · have e2 : ¬ ((y.length / 2 : Nat) : Int) < ((x.length / 2 : Nat) : Int) := by omega
      rw [if_neg e1, if_neg h1, if_neg e2, if_neg h2]; rfl
set_option maxHeartbeats 400000 in
theorem compare_any (x y : List UInt8) (w : World) (hx : x.length ≤ 1048576) (hy : y.length ≤ 1048576) : Calls Try.prog 120 #[.string ⟨x.toArray⟩, .string ⟨y.toArray⟩] w fun e w' => e = .returned (.int .i64 (Tr.cmpT x y)) ∧ Below w.heap.size w w' := by
  have G := Lib.hid (cmp_or x y)
  obtain ⟨a, ha⟩ : ∃ a, a = cmpI ((x.length / 2 : Nat) : Int) ((y.length / 2 : Nat) : Int) := ⟨_, rfl⟩
  have C3 := fun w => intCompare_any ((x.length / 2 : Nat) : Int) ((y.length / 2 : Nat) : Int) w
  rw [← ha] at G
  simp only [← ha] at C3
  have C1 := fun w => nodes_any x w hx
  have C2 := fun w => nodes_any y w hy
  obtain ⟨p, hp⟩ : ∃ p, p = x.length / 2 := ⟨_, rfl⟩
  obtain ⟨q, hq⟩ : ∃ q, q = y.length / 2 := ⟨_, rfl⟩
  rw [← hp] at C1 C3
  rw [← hq] at C2 C3
  clear ha hx hy hp hq
  go_enter Try.func120, Try.ntmps120
  go_wp2_with fail
  refine (C1 _).mono ?_
  rintro e w' ⟨rfl, rfl⟩
  go_wp2_with fail
  refine (C2 _).mono ?_
  rintro e w' ⟨rfl, rfl⟩
  go_wp2_with fail
  refine (C3 _).mono ?_
  rintro e w' ⟨rfl, rfl⟩
  go_wp2_with fail
  refine (treeCompare_any x y _).mono ?_
  rintro e w' ⟨rfl, rfl⟩
  go_wp2_with fail
  have hal : Below w.heap.size w (w.alloc (.cells #[.int .i64 a, .int .i64 (cmpX x y)] 3)) := (Below.refl _ _).alloc (Nat.le_refl _) _
  refine (orInt_any a (cmpX x y) w.heap.size _ (by rw [World.cell?_alloc_at (hn := by simp)]; rfl) (by rw [World.cell?_alloc_at (hn := by simp)]; rfl)).mono ?_
  rintro e w' ⟨rfl, rfl⟩
  rw [G.out]
  go_wp2
  go_ret
  exact ⟨rfl, hal⟩
end Go.Proofs.Ytnnihdkhblbdgaa
/-
  What CompareTrees answers, the program's and the model's.
-/
namespace Go.Proofs.Ytnnihdkhblbdgaa
open Go.RowKit Fld
set_option linter.unusedVariables false
set_option linter.unusedSimpArgs false
set_option maxRecDepth 100000

theorem l03Before_any (A A' : Option Addr) (n n' c c' B B' : Nat) (xs ys : List Int) (w : World) (hl : xs.length = n) (hl' : ys.length = n') (hn : n ≤ 1048576) (hn' : n' ≤ 1048576) (h : Row w B A (ints xs)) (h' : Row w B' A' (ints ys)) :
    Calls Try.prog 129 #[.slice A n c, .slice A' n' c'] w fun e w' => e = .returned (.bool (Tr.beforeL xs ys)) ∧ ∃ m, w' = w.drewN m := by
  by_cases e : n = n'
  · have H : Hid (Tr.beforeL xs ys = Tr.lessL ys xs) := by unfold Tr.beforeL; rw [Hid, if_neg (by rw [hl, hl']; simpa using e)]
    have C1 := l01Less_any A' A n' n c' c B' B ys xs w hl' hl (by omega) (by omega) h' h
    have t : ((n : Int) != (n' : Int)) = false := bne_f (by omega)
    obtain ⟨b, hb⟩ : ∃ b, b = Tr.lessL ys xs := ⟨_, rfl⟩
    rw [← hb] at C1 H
    clear hl hl' e hb
    go_enter Try.func129, Try.ntmps129
    go_wp2_with fail
    refine C1.mono ?_
    rintro e w' ⟨rfl, m, rfl⟩
    go_wp2
    go_ret
    exact ⟨ret_bool H.out.symm, m, rfl⟩
  · have H : Hid (Tr.beforeL xs ys = decide (n < n')) := by unfold Tr.beforeL; rw [Hid, if_pos (by rw [hl, hl']; exact e), hl, hl']
    have t : ((n : Int) != (n' : Int)) = true := bne_t (by omega)
    clear hl hl'
    go_enter Try.func129, Try.ntmps129
    go_wp2
    go_ret
    exact ⟨by rw [H.out]; rfl, 0, rfl⟩
def cmpA (s t : List Int) : Int × Int := if Tr.isLv s = true ∧ Tr.isLv t = true then (Tr.cmpL (Tr.can s) (Tr.can t), 0) else (0, 1)
theorem cmpA_yes {s t : List Int} (h : Tr.isLv s = true) (h' : Tr.isLv t = true) : cmpA s t = (Tr.cmpL (Tr.can s) (Tr.can t), 0) := if_pos ⟨h, h'⟩
theorem cmpA_no1 {s t : List Int} (h : Tr.isLv s = false) : cmpA s t = (0, 1) := if_neg (by rw [h]; simp)
theorem cmpA_no2 {s t : List Int} (h : Tr.isLv t = false) : cmpA s t = (0, 1) := if_neg (by rw [h]; simp)
end Go.Proofs.Ytnnihdkhblbdgaa
/-
  The order of trees by lists and by texts.
-/
namespace Go.Proofs.Ytnnihdkhblbdgaa
open Go.RowKit Fld
set_option linter.unusedVariables false
set_option linter.unusedSimpArgs false
set_option maxRecDepth 100000

theorem lessL_asym : ∀ x y : List Int, Tr.lessL x y = true → Tr.lessL y x = false
  | [], [], _ => rfl
  | [], _ :: _, _ => rfl
  | _ :: _, [], h => by simp [Tr.lessL] at h
  | a :: x, b :: y, h => by
    rw [Tr.lessL] at h ⊢
    by_cases e : a = b
    · subst e
      rw [if_pos rfl] at h ⊢
      exact lessL_asym x y h
    · rw [if_neg e] at h
      rw [if_neg (fun e' => e e'.symm)]
      simp at h ⊢; omega
theorem beforeL_asym {x y : List Int} (h : Tr.beforeL x y = true) : Tr.beforeL y x = false := by
  unfold Tr.beforeL at h ⊢
  by_cases e : x.length = y.length
  · rw [if_neg (by simpa using e)] at h
    rw [if_neg (by simpa using e.symm)]
    exact lessL_asym _ _ h
  · rw [if_pos e] at h
    rw [if_pos (fun e' => e e'.symm)]
    simp at h ⊢; omega
theorem tr_lv {t : List Int} (h : isTr t = true) : Tr.isLv t = true ∧ Tr.can t = t := by
  unfold isTr at h
  rw [Bool.and_eq_true] at h
  have h2 := h.2
  unfold eqL at h2
  exact ⟨h.1, by simpa using h2⟩
theorem cmp_tr {s t : List Int} (hs : isTr s = true) (ht : isTr t = true) : decide (0 < Tr.cmpT (Tr.txt s) (Tr.txt t)) = Tr.beforeL t s := by
  obtain ⟨s1, s2⟩ := tr_lv hs
  obtain ⟨t1, t2⟩ := tr_lv ht
  rw [Tr.cmp_eq s1 t1, s2, t2]
  unfold Tr.cmpL
  cases h1 : Tr.beforeL s t
  · cases h2 : Tr.beforeL t s <;> simp
  · rw [beforeL_asym h1]; simp
theorem cmpT_swap {a b : List UInt8} (h : ¬ Tr.cmpT a b < 0) : Tr.cmpT b a ≤ 0 := by
  unfold Tr.cmpT at *
  by_cases h1 : a.length / 2 < b.length / 2
  · rw [if_pos h1] at h; omega
  · rw [if_neg h1] at h
    by_cases h2 : b.length / 2 < a.length / 2
    · rw [if_pos h2]; omega
    · rw [if_neg h2] at h
      rw [if_neg h2, if_neg h1]
      by_cases h3 : Tr.ltS a b = true
      · rw [if_pos h3] at h; omega
      · rw [if_neg h3] at h
        by_cases h4 : Tr.ltS b a = true
        · rw [if_pos h4]; omega
        · rw [if_neg h4, if_neg h3]; omega
theorem leT_self (a : List UInt8) : Tr.leT a a = true := by
  unfold Tr.leT
  have : Tr.cmpT a a ≤ 0 := by
    by_cases h : Tr.cmpT a a < 0
    · omega
    · exact cmpT_swap h
  exact decide_eq_true this
theorem leT_txt {s t : List Int} (hs : isTr s = true) (ht : isTr t = true) : Tr.leT (Tr.txt s) (Tr.txt t) = !Tr.beforeL t s := by
  rw [← cmp_tr hs ht]
  unfold Tr.leT
  by_cases h : Tr.cmpT (Tr.txt s) (Tr.txt t) ≤ 0
  · rw [decide_eq_true h, decide_eq_false (by omega)]; rfl
  · rw [decide_eq_false h, decide_eq_true (by omega)]; rfl
theorem isTr_of {t : List Int} (h : Tr.isLv t = true) (hc : Tr.can t = t) : isTr t = true := by
  unfold isTr
  rw [h, hc, eqL_self]; rfl
end Go.Proofs.Ytnnihdkhblbdgaa
/-
  Forests: the test, the program's and the model's.
-/
namespace Go.Proofs.Ytnnihdkhblbdgaa
open Go.RowKit Fld
set_option linter.unusedVariables false
set_option linter.unusedSimpArgs false
set_option maxRecDepth 100000

/-- tree k stands where it may -/
def okAt (f : List (List Int)) (k : Nat) : Bool := isTr (f.getD k []) && (decide (k = 0) || !Tr.beforeL (f.getD k []) (f.getD (k - 1) []))
def okTo (f : List (List Int)) (k : Nat) : Bool := (List.range k).all (okAt f)
theorem okTo_step (f : List (List Int)) (k : Nat) : okTo f (k + 1) = (okTo f k && okAt f k) := by
  unfold okTo; rw [List.range_succ, List.all_append]; simp
theorem okTo_no {f : List (List Int)} {k : Nat} (h : okAt f k = false) (hk : k < f.length) : okTo f f.length = false := by
  unfold okTo
  rw [List.all_eq_false]
  exact ⟨k, by rw [List.mem_range]; exact hk, by rw [h]; simp⟩
theorem okTo_at {f : List (List Int)} {k j : Nat} (h : okTo f k = true) (hj : j < k) : okAt f j = true := by
  unfold okTo at h
  exact List.all_eq_true.1 h j (by rw [List.mem_range]; exact hj)
theorem okAt_tr {f : List (List Int)} {k : Nat} {r : List Int} (h : okAt f k = true) (hr : f[k]? = some r) : isTr r = true := by
  unfold okAt at h
  rw [Bool.and_eq_true, List.getD_eq_getElem?_getD, hr] at h
  exact h.1
theorem okAt_false {f : List (List Int)} {k : Nat} {r : List Int} (hr : f[k]? = some r) (h : isTr r = false) : okAt f k = false := by
  unfold okAt
  rw [List.getD_eq_getElem?_getD, hr]
  simp [h]
theorem okAt_zero {f : List (List Int)} {r : List Int} (hr : f[0]? = some r) (h : isTr r = true) : okAt f 0 = true := by
  unfold okAt
  rw [List.getD_eq_getElem?_getD, hr]
  simp [h]
theorem okAt_succ {f : List (List Int)} {k : Nat} {p r : List Int} (hr : f[k + 1]? = some r) (hp : f[k]? = some p) (h : isTr r = true) : okAt f (k + 1) = !Tr.beforeL r p := by
  unfold okAt
  rw [List.getD_eq_getElem?_getD, List.getD_eq_getElem?_getD, hr, Nat.add_sub_cancel, hp]
  simp [h]
def isFor (f : List (List Int)) : Bool := okTo f f.length && decide (total f ≤ 8)
theorem isFor_big {f : List (List Int)} (h : 8 < total f) : isFor f = false := by
  unfold isFor; rw [decide_eq_false (by omega), Bool.and_false]
theorem isFor_no {f : List (List Int)} (h : okTo f f.length = false) : isFor f = false := by
  unfold isFor; rw [h]; rfl
theorem row_total {f : List (List Int)} {k : Nat} {r : List Int} (h : f[k]? = some r) : r.length ≤ total f := by
  have h1 := total_take h
  have h2 := total_le f (k + 1)
  omega
end Go.Proofs.Ytnnihdkhblbdgaa
/-
  Values of maps at trees, plainly.
-/
namespace Go.Proofs.Ytnnihdkhblbdgaa
open Go.RowKit Fld
set_option linter.unusedVariables false
set_option linter.unusedSimpArgs false
set_option maxRecDepth 100000

theorem idx_some {u : List Int} : ∀ {m : List (List Int)} (c : Int), u ∈ m → ∃ i : Nat, Tr.idxL u m c = c + i ∧ m[i]? = some u
  | [], c, h => by cases h
  | x :: r, c, h => by
    by_cases e : x = u
    · exact ⟨0, by unfold Tr.idxL; rw [if_pos e]; omega, by rw [e]; rfl⟩
    · rw [List.mem_cons] at h
      obtain ⟨i, h1, h2⟩ := idx_some (m := r) (c + 1) (h.resolve_left (fun q => e q.symm))
      exact ⟨i + 1, by unfold Tr.idxL; rw [if_neg e, h1]; omega, by rw [List.getElem?_cons_succ]; exact h2⟩
theorem idx_none {u : List Int} : ∀ {m : List (List Int)} (c : Int), u ∉ m → Tr.idxL u m c = -1
  | [], c, h => rfl
  | x :: r, c, h => by
    rw [List.mem_cons, not_or] at h
    unfold Tr.idxL
    rw [if_neg (fun q => h.1 q.symm)]
    exact idx_none (c + 1) h.2
theorem to_mem {r : List Int} : r ∈ treesTo 6 ↔ ∃ n, n < 6 ∧ r ∈ Tr.treesL (n + 1) := by
  unfold treesTo; rw [List.mem_flatMap]
  constructor
  · rintro ⟨n, hn, h⟩; exact ⟨n, List.mem_range.1 hn, h⟩
  · rintro ⟨n, hn, h⟩; exact ⟨n, List.mem_range.2 hn, h⟩
theorem can_mem9 {t : List Int} (h : Tr.isLv t = true) : Tr.can t ∈ Tr.treesL t.length := by
  obtain ⟨h1, h2⟩ := lv_can h
  have h3 := Tr.isLv_iff.1 h1
  have h4 := Tr.isLv_iff.1 h
  have p1 := h4.1
  rw [← grow_trees h4.1 h4.2.1]
  refine Tr.grow_all (t.length - 1) [0] [] (Tr.can t) (by simp) h3 (by show (Tr.can t).length = 1 + (t.length - 1); omega) ?_ (Tr.can_can h).1
  obtain ⟨x, hx⟩ := at_lt (show 0 < (Tr.can t).length by omega)
  have e := h3.2.2.1
  rw [lv_at hx] at e
  subst e
  show (Tr.can t).take 1 = [0]
  rw [List.take_add_one, hx]; rfl
theorem small_idx {r : List Int} (h : isTr r = true) (h6 : r.length ≤ 6) : ∃ i : Nat, i < 37 ∧ Tr.idxL r (treesTo 6) 0 = i ∧ (treesTo 6)[i]? = some r := by
  obtain ⟨hlv, hc⟩ := tr_lv h
  have h1 := (lv_bd hlv).1
  have hm : r ∈ treesTo 6 := to_mem.2 ⟨r.length - 1, by omega, by
    have := can_mem9 hlv
    rw [hc] at this
    rw [show r.length - 1 + 1 = r.length by omega]; exact this⟩
  obtain ⟨i, e1, e2⟩ := idx_some 0 hm
  refine ⟨i, ?_, by omega, e2⟩
  rcases Nat.lt_or_ge i 37 with g | g
  · exact g
  · rw [List.getElem?_eq_none (by rw [to_len]; exact g)] at e2; cases e2
theorem large_idx {r : List Int} (h6 : 6 < r.length) : Tr.idxL r (treesTo 6) 0 = -1 := by
  refine idx_none 0 fun hm => ?_
  obtain ⟨n, hn, h⟩ := to_mem.1 hm
  have := ((trees_all (n := n + 1) (by omega) (by omega)).1 r h).2
  omega
theorem mapTx_nodup : mapTx.Nodup := by decide +kernel
theorem mapTx_inj {i j : Nat} {t u : List Int} (hi : (treesTo 6)[i]? = some t) (hj : (treesTo 6)[j]? = some u) (e : Tr.txt t = Tr.txt u) : i = j := by
  have h1 : mapTx[i + 1]? = some (Tr.txt t) := by unfold mapTx; rw [List.getElem?_cons_succ, List.getElem?_map, hi]; rfl
  have h2 : mapTx[j + 1]? = some (Tr.txt t) := by rw [e]; unfold mapTx; rw [List.getElem?_cons_succ, List.getElem?_map, hj]; rfl
  have hl : i + 1 < mapTx.length := by
    rcases Nat.lt_or_ge (i + 1) mapTx.length with g | g
    · exact g
    · rw [List.getElem?_eq_none g] at h1; cases h1
  have := (List.getElem?_inj hl mapTx_nodup).1 (h1.trans h2.symm)
  omega
theorem all_to {k : Nat} (h : k < 37) : Tr.allL[k]? = (treesTo 6)[k]? := by
  obtain ⟨rest, e⟩ := all_split 6 (by omega)
  rw [e, List.getElem?_append_left (by rw [to_len]; exact h)]
/-- the numbers that stand at texts of trees, the first k of them -/
def valN (xs : List Int) : Nat → List UInt8 → Int
  | 0 => fun _ => 0
  | k+1 => fun y => if y = Tr.txt (Tr.allL.getD k []) then xs.getD k 0 else valN xs k y
theorem valN_at {xs : List Int} {i : Nat} {r : List Int} (hr : (treesTo 6)[i]? = some r) : ∀ k, k ≤ 37 → valN xs k (Tr.txt r) = if i < k then xs.getD i 0 else 0
  | 0, _ => by rw [if_neg (by omega)]; rfl
  | k+1, hk => by
    obtain ⟨t, ht⟩ := at_lt (show k < (treesTo 6).length by rw [to_len]; omega)
    have e : Tr.allL.getD k [] = t := by rw [List.getD_eq_getElem?_getD, all_to (by omega), ht]; rfl
    unfold valN
    rw [e]
    by_cases hik : i = k
    · subst hik
      rw [hr] at ht
      injection ht with ht
      rw [if_pos (by rw [ht]), if_pos (by omega)]
    · rw [if_neg (fun q => hik (mapTx_inj hr ht q)), valN_at hr k (by omega)]
      by_cases hlt : i < k
      · rw [if_pos hlt, if_pos (by omega)]
      · rw [if_neg hlt, if_neg (by omega)]
theorem valN_put {xs : List Int} {k : Nat} {t : List Int} {x : Int} (ht : Tr.allL[k]? = some t) (hx : xs[k]? = some x) : valN xs (k + 1) = fun y => if y = Tr.txt t then x else valN xs k y := by
  have e : Tr.allL.getD k [] = t := by rw [List.getD_eq_getElem?_getD, ht]; rfl
  have e2 : xs.getD k 0 = x := by rw [List.getD_eq_getElem?_getD, hx]; rfl
  funext y
  show (if y = Tr.txt (Tr.allL.getD k []) then xs.getD k 0 else valN xs k y) = _
  rw [e, e2]
/-- the value of a map at a tree, and at the trees of a forest -/
def valT (a : List Int) (r : List Int) : Int := a.getD (Tr.idxL r (treesTo 6) 0 + 1).toNat 0
theorem valT_drop {a r : List Int} (h : isTr r = true) (h6 : r.length ≤ 6) : valN (a.drop 1) 37 (Tr.txt r) = valT a r := by
  obtain ⟨i, i37, e1, e2⟩ := small_idx h h6
  rw [valN_at e2 37 (by omega), if_pos i37]
  unfold valT
  rw [e1, show ((i : Int) + 1).toNat = i + 1 by omega, List.getD_eq_getElem?_getD, List.getD_eq_getElem?_getD, List.getElem?_drop, Nat.add_comm]
theorem valT_num {a r : List Int} (ha : allNum a = true) : 0 ≤ valT a r ∧ valT a r < 10007 := by
  unfold valT
  rw [List.getD_eq_getElem?_getD]
  cases h : a[(Tr.idxL r (treesTo 6) 0 + 1).toNat]? with
  | none => simp
  | some x => exact allNum_iff.1 ha x (List.mem_of_getElem? h)
end Go.Proofs.Ytnnihdkhblbdgaa
/-
  Grafting, cutting and rerooting, as plain functions on texts (the program's) and on lists (the model's); all gone through.
-/
namespace Go.Proofs.Ytnnihdkhblbdgaa.Tr
set_option maxRecDepth 100000

/-! ## the program's -/
/-- the branch that has the place, and the place in it -/
def pick : List (List UInt8) → Nat → Nat × Nat
  | [], p => (0, p)
  | b :: r, p => if p < b.length / 2 then (0, p) else ((pick r (p - b.length / 2)).1 + 1, (pick r (p - b.length / 2)).2)
def bAt (x : List UInt8) (n : Nat) : List UInt8 := (brT x).getD (pick (brT x) n).1 []
def pAt (x : List UInt8) (n : Nat) : Nat := (pick (brT x) n).2
def oAt (x : List UInt8) (n : Nat) : List (List UInt8) := (brT x).eraseIdx (pick (brT x) n).1
def rootT (l : List (List UInt8)) : List UInt8 := wrap (sortS l)
def grfF : Nat → List UInt8 → Nat → List UInt8 → List UInt8
  | 0, _, _, _ => []
  | _+1, x, 0, v => rootT (brT x ++ [v])
  | d+1, x, n+1, v => rootT (oAt x n ++ [grfF d (bAt x n) (pAt x n) v])
def cutF : Nat → List UInt8 → Nat → List UInt8 × List UInt8
  | 0, _, _ => ([], [])
  | _+1, _, 0 => ([], [])
  | d+1, x, n+1 => if pAt x n = 0 then (rootT (oAt x n), bAt x n) else (rootT (oAt x n ++ [(cutF d (bAt x n) (pAt x n)).1]), (cutF d (bAt x n) (pAt x n)).2)
def rerF : Nat → List UInt8 → Nat → List (List UInt8) → List UInt8
  | 0, _, _, _ => []
  | _+1, x, 0, bs => rootT (brT x ++ bs)
  | d+1, x, n+1, bs => rerF d (bAt x n) (pAt x n) [rootT (oAt x n ++ bs)]
/-! ## the model's -/
def endL (t : List Int) (k : Nat) : Nat := k + 1 + ((t.drop (k + 1)).takeWhile (fun y => decide (t.getD k 0 < y))).length
def gl (u : List Int) (k : Nat) (v : List Int) : List Int := u.take (endL u k) ++ (v.map (u.getD k 0 + 1 + ·) ++ u.drop (endL u k))
def trunkL (t : List Int) (k : Nat) : List Int := t.take k ++ t.drop (endL t k)
def branchL (t : List Int) (k : Nat) : List Int := ((t.drop k).take (endL t k - k)).map (· - t.getD k 0)
def parL (t : List Int) (x : Int) : Nat → Nat
  | 0 => 0
  | k+1 => if t.getD k 0 = x then k else parL t x k
def turnF : Nat → List Int → Nat → List Int
  | 0, _, _ => []
  | _+1, t, 0 => can t
  | d+1, t, k+1 => can (gl (branchL t (k + 1)) 0 (turnF d (trunkL t (k + 1)) (parL t (t.getD (k + 1) 0 - 1) (k + 1))))
/-! ## what a branch is found by -/
def chkK (x : List UInt8) : Bool := (List.range (x.length / 2 - 1)).all fun n => decide ((pick (brT x) n).1 < (brT x).length) && isTx (bAt x n) && decide (pAt x n < (bAt x n).length / 2) && decide ((bAt x n).length < x.length) && (oAt x n).all (fun b => isTx b && decide (b.length ≤ 16)) && decide ((oAt x n).length ≤ 7)
theorem chkK_all : allT.all chkK = true := by decide +kernel
theorem pick_parts {x : List UInt8} (h : isTx x = true) {n : Nat} (hn : n + 1 < x.length / 2) : (pick (brT x) n).1 < (brT x).length ∧ isTx (bAt x n) = true ∧ pAt x n < (bAt x n).length / 2 ∧ (bAt x n).length < x.length ∧ (∀ b ∈ oAt x n, isTx b = true ∧ b.length ≤ 16) ∧ (oAt x n).length ≤ 7 := by
  have h1 := tx_of chkK_all h
  unfold chkK at h1
  rw [List.all_eq_true] at h1
  have h2 := h1 n (by rw [List.mem_range]; omega)
  simp only [Bool.and_eq_true, decide_eq_true_eq, List.all_eq_true] at h2
  exact ⟨h2.1.1.1.1.1, h2.1.1.1.1.2, h2.1.1.1.2, h2.1.1.2, h2.1.2, h2.2⟩
/-- the lists that may stand beside one of so many nodes -/
def upTo (k : Nat) (p : List Int → Bool) : Bool := (List.range k).all fun n => (gen n).all p
theorem upTo_of {k : Nat} {p : List Int → Bool} (h : upTo k p = true) {v : List Int} (hv : isLv v = true) (hl : v.length ≤ k) : p v = true := by
  have hv' := isLv_iff.1 hv
  unfold upTo at h
  rw [List.all_eq_true] at h
  have h0 := hv'.1
  have h1 := h (v.length - 1) (by rw [List.mem_range]; omega)
  rw [List.all_eq_true] at h1
  exact h1 v (mem_gen _ v (by omega) hv'.2.2.1 hv'.2.2.2)
theorem gl_length {u v : List Int} {k : Nat} (hk : endL u k ≤ u.length) : (gl u k v).length = u.length + v.length := by
  unfold gl
  simp only [List.length_append, List.length_take, List.length_map, List.length_drop]
  omega
theorem endL_le {t : List Int} {k : Nat} (hk : k < t.length) : k + 1 ≤ endL t k ∧ endL t k ≤ t.length := by
  unfold endL
  have h := (List.takeWhile_sublist (fun y => decide (t.getD k 0 < y)) (l := t.drop (k + 1))).length_le
  rw [List.length_drop] at h
  omega
end Go.Proofs.Ytnnihdkhblbdgaa.Tr
/-
  Grafting at the root, gone through.
-/
namespace Go.Proofs.Ytnnihdkhblbdgaa.Tr
set_option maxRecDepth 100000

def chkH (u : List Int) : Bool := upTo (8 - u.length) fun v => decide (txt (gl u 0 v) = grfF 8 (txt u) 0 (txt v)) && isLv (gl u 0 v)
theorem chkH_all : allLv.all chkH = true := by decide +kernel
theorem graft_root {u v : List Int} (hu : isLv u = true) (hv : isLv v = true) (h8 : u.length + v.length ≤ 8) : txt (gl u 0 v) = grfF 8 (txt u) 0 (txt v) ∧ isLv (gl u 0 v) = true := by
  have h1 := all_of chkH_all (isLv_iff.1 hu)
  unfold chkH at h1
  have h2 := upTo_of h1 hv (by omega)
  simp only [Bool.and_eq_true, decide_eq_true_eq] at h2
  exact h2
end Go.Proofs.Ytnnihdkhblbdgaa.Tr
/-
  Conditions of symplectic characters and of Hamiltonian maps: plain.
-/
namespace Go.Proofs.Ytnnihdkhblbdgaa
open Go.RowKit Fld
set_option linter.unusedVariables false
set_option linter.unusedSimpArgs false
set_option maxRecDepth 100000

/-- the Butcher product -/
def exP (t u : List Int) : List Int := Tr.can (Tr.gl t 0 u)
theorem to_lvT {t : List Int} (h : t ∈ treesTo 6) : Tr.isLv t = true := by
  obtain ⟨q, hq, h9⟩ := to_mem.1 h
  exact ((trees_all (n := q + 1) (by omega) (by omega)).1 _ h9).1
theorem exP_parts {t u : List Int} (ht : Tr.isLv t = true) (hu : Tr.isLv u = true) (h : t.length + u.length ≤ 6) : isTr (exP t u) = true ∧ (exP t u).length = t.length + u.length ∧ Tr.txt (exP t u) = Tr.rootT (Tr.brT (Tr.txt t) ++ [Tr.txt u]) ∧ Tr.isLv (Tr.gl t 0 u) = true := by
  obtain ⟨h1, h2⟩ := Tr.graft_root ht hu (by omega)
  have h3 := lv_can h2
  have h4 := (lv_bd ht).1
  refine ⟨?_, ?_, ?_, h2⟩
  · unfold isTr eqL exP
    rw [h3.1, (Tr.can_can h2).1]; simp
  · unfold exP
    rw [h3.2, Tr.gl_length (Tr.endL_le (by omega)).2]
  · unfold exP
    rw [(Tr.can_can h2).2, h1, Tr.grfF]
theorem val_at {a t : List Int} {i : Nat} (ht : (treesTo 6)[i]? = some t) : valT a t = a.getD (i + 1) 0 := by
  obtain ⟨j, e1, e2⟩ := idx_some 0 (List.mem_of_getElem? ht)
  obtain rfl := mapTx_inj e2 ht rfl
  unfold valT
  rw [e1, show ((0 : Int) + (j : Int) + 1).toNat = j + 1 by omega]
theorem exP_at {a t u : List Int} (ht : Tr.isLv t = true) (hu : Tr.isLv u = true) (h : t.length + u.length ≤ 6) : ∃ p : Nat, p < 37 ∧ Tr.idxL (exP t u) (treesTo 6) 0 = p ∧ valT a (exP t u) = a.getD (p + 1) 0 := by
  obtain ⟨h1, h2, _, _⟩ := exP_parts ht hu h
  obtain ⟨p, p37, e1, e2⟩ := small_idx h1 (by omega)
  exact ⟨p, p37, e1, val_at e2⟩
/-- the condition for two trees -/
def exOk (a t u : List Int) : Prop := (valT a (exP t u) + valT a (exP u t)) % 10007 = a.getD 0 0 * (valT a t * valT a u % 10007) % 10007
/-- two trees by their places, with so many nodes -/
def exAt (a : List Int) (i k n : Nat) : Prop := ∀ t u, (treesTo 6)[i]? = some t → (treesTo 6)[k]? = some u → t.length + u.length = n → exOk a t u
/-- the greatest number up to which the conditions hold -/
def IsLim (a : List Int) (L : Int) : Prop :=
  1 ≤ L ∧ L ≤ 6 ∧ (∀ i k (n : Nat), (n : Int) ≤ L → exAt a i k n) ∧ (L = 6 ∨ ∃ i k, ∃ n : Nat, (n : Int) = L + 1 ∧ ¬ exAt a i k n)
theorem IsLim.eq {a : List Int} {L L' : Int} (h : IsLim a L) (h' : IsLim a L') : L = L' := by
  obtain ⟨h1, h2, h3, h4⟩ := h
  obtain ⟨g1, g2, g3, g4⟩ := h'
  have x : ¬ L < L' := fun q => by
    rcases h4 with h4 | ⟨i, k, n, e, h5⟩
    · omega
    · exact h5 (g3 i k n (by omega))
  have y : ¬ L' < L := fun q => by
    rcases g4 with g4 | ⟨i, k, n, e, g5⟩
    · omega
    · exact g5 (h3 i k n (by omega))
  omega
noncomputable def limOf (a : List Int) : Int := @dite _ (∃ L, IsLim a L) (Classical.propDecidable _) (fun h => Classical.choose h) (fun _ => 0)
theorem IsLim.of {a : List Int} {L : Int} (h : IsLim a L) : limOf a = L := by
  unfold limOf
  rw [dif_pos ⟨L, h⟩]
  exact (Classical.choose_spec (⟨L, h⟩ : ∃ L, IsLim a L)).eq h
/-! the program's search: pairs before (i, k), which either hold or have more nodes than the limit -/
def PLim (a : List Int) (i k : Nat) (L : Int) : Prop :=
  1 ≤ L ∧ L ≤ 6 ∧ (∀ j l (n : Nat), (j < i ∨ (j = i ∧ l < k)) → (n : Int) ≤ L → exAt a j l n) ∧ (L = 6 ∨ ∃ i k, ∃ n : Nat, (n : Int) = L + 1 ∧ ¬ exAt a i k n)
theorem PLim.start (a : List Int) : PLim a 0 0 6 := ⟨by omega, by omega, fun j l n h => by omega, .inl rfl⟩
theorem PLim.over {a : List Int} {i k : Nat} {L : Int} {t u : List Int} (h : PLim a i k L) (ht : (treesTo 6)[i]? = some t) (hu : (treesTo 6)[k]? = some u) (hn : L < (t.length : Int) + (u.length : Int)) : PLim a i (k + 1) L := by
  obtain ⟨h1, h2, h3, h4⟩ := h
  refine ⟨h1, h2, fun j l n hj hnL => ?_, h4⟩
  by_cases e : j = i ∧ l = k
  · obtain ⟨rfl, rfl⟩ := e
    intro t' u' ht' hu' he
    rw [ht] at ht'; rw [hu] at hu'
    obtain rfl := Option.some.inj ht'
    obtain rfl := Option.some.inj hu'
    omega
  · exact h3 j l n (by omega) hnL
theorem PLim.good {a : List Int} {i k : Nat} {L : Int} {t u : List Int} (h : PLim a i k L) (ht : (treesTo 6)[i]? = some t) (hu : (treesTo 6)[k]? = some u) (hg : exOk a t u) : PLim a i (k + 1) L := by
  obtain ⟨h1, h2, h3, h4⟩ := h
  refine ⟨h1, h2, fun j l n hj hnL => ?_, h4⟩
  by_cases e : j = i ∧ l = k
  · obtain ⟨rfl, rfl⟩ := e
    intro t' u' ht' hu' he
    rw [ht] at ht'; rw [hu] at hu'
    obtain rfl := Option.some.inj ht'
    obtain rfl := Option.some.inj hu'
    exact hg
  · exact h3 j l n (by omega) hnL
theorem PLim.bad {a : List Int} {i k : Nat} {L : Int} {t u : List Int} (h : PLim a i k L) (ht : (treesTo 6)[i]? = some t) (hu : (treesTo 6)[k]? = some u) (hn : (t.length : Int) + (u.length : Int) ≤ L) (hb : ¬ exOk a t u) : PLim a i (k + 1) ((t.length : Int) + (u.length : Int) - 1) := by
  obtain ⟨h1, h2, h3, h4⟩ := h
  have b1 := (lv_bd (to_lvT (List.mem_of_getElem? ht))).1
  have b2 := (lv_bd (to_lvT (List.mem_of_getElem? hu))).1
  refine ⟨by omega, by omega, fun j l n hj hnL => ?_, .inr ⟨i, k, t.length + u.length, by omega, fun g => hb (g t u ht hu rfl)⟩⟩
  by_cases e : j = i ∧ l = k
  · obtain ⟨rfl, rfl⟩ := e
    intro t' u' ht' hu' he
    rw [ht] at ht'; rw [hu] at hu'
    obtain rfl := Option.some.inj ht'
    obtain rfl := Option.some.inj hu'
    omega
  · exact h3 j l n (by omega) (by omega)
theorem PLim.leave {a : List Int} {i : Nat} {L : Int} (h : PLim a i 37 L) : PLim a (i + 1) 0 L := by
  obtain ⟨h1, h2, h3, h4⟩ := h
  refine ⟨h1, h2, fun j l n hj hnL => ?_, h4⟩
  by_cases e : j < i ∨ l < 37
  · exact h3 j l n (by omega) hnL
  · intro t' u' ht' hu' he
    rw [List.getElem?_eq_none (by rw [to_len]; omega)] at hu'; cases hu'
theorem PLim.done {a : List Int} {L : Int} (h : PLim a 37 0 L) : IsLim a L := by
  obtain ⟨h1, h2, h3, h4⟩ := h
  refine ⟨h1, h2, fun i k n hnL => ?_, h4⟩
  by_cases e : i < 37
  · exact h3 i k n (by omega) hnL
  · intro t' u' ht' hu' he
    rw [List.getElem?_eq_none (by rw [to_len]; omega)] at ht'; cases ht'
/-! the model's: all pairs with fewer nodes, and those with n nodes before (i, k) -/
def MLim (a : List Int) (n i k : Nat) : Prop := 2 ≤ n ∧ n ≤ 7 ∧ (∀ j l q, q < n → exAt a j l q) ∧ ∀ j l, (j < i ∨ (j = i ∧ l < k)) → exAt a j l n
theorem MLim.start (a : List Int) : MLim a 2 0 0 := ⟨by omega, by omega, fun j l q hq t u ht hu he => by
  have b1 := (lv_bd (to_lvT (List.mem_of_getElem? ht))).1
  have b2 := (lv_bd (to_lvT (List.mem_of_getElem? hu))).1
  omega, fun j l h => by omega⟩
theorem MLim.step {a : List Int} {n i k : Nat} (h : MLim a n i k) (g : exAt a i k n) : MLim a n i (k + 1) := by
  obtain ⟨h1, h2, h3, h4⟩ := h
  refine ⟨h1, h2, h3, fun j l hj => ?_⟩
  by_cases e : j = i ∧ l = k
  · obtain ⟨rfl, rfl⟩ := e; exact g
  · exact h4 j l (by omega)
theorem exAt_other {a : List Int} {i k n : Nat} {t u : List Int} (ht : (treesTo 6)[i]? = some t) (hu : (treesTo 6)[k]? = some u) (hn : t.length + u.length ≠ n) : exAt a i k n := fun t' u' ht' hu' he => by
  rw [ht] at ht'; rw [hu] at hu'
  obtain rfl := Option.some.inj ht'
  obtain rfl := Option.some.inj hu'
  omega
theorem exAt_good {a : List Int} {i k n : Nat} {t u : List Int} (ht : (treesTo 6)[i]? = some t) (hu : (treesTo 6)[k]? = some u) (hg : exOk a t u) : exAt a i k n := fun t' u' ht' hu' he => by
  rw [ht] at ht'; rw [hu] at hu'
  obtain rfl := Option.some.inj ht'
  obtain rfl := Option.some.inj hu'
  exact hg
theorem MLim.leave {a : List Int} {n i : Nat} (h : MLim a n i 37) : MLim a n (i + 1) 0 := by
  obtain ⟨h1, h2, h3, h4⟩ := h
  refine ⟨h1, h2, h3, fun j l hj => ?_⟩
  by_cases e : j < i ∨ l < 37
  · exact h4 j l (by omega)
  · intro t' u' ht' hu' he
    rw [List.getElem?_eq_none (by rw [to_len]; omega)] at hu'; cases hu'
theorem MLim.next {a : List Int} {n : Nat} (h : MLim a n 37 0) (h6 : n ≤ 6) : MLim a (n + 1) 0 0 := by
  obtain ⟨h1, h2, h3, h4⟩ := h
  refine ⟨by omega, by omega, fun j l q hq => ?_, fun j l hj => by omega⟩
  by_cases e : q < n
  · exact h3 j l q e
  · obtain rfl : q = n := by omega
    by_cases e : j < 37
    · exact h4 j l (by omega)
    · intro t' u' ht' hu' he
      rw [List.getElem?_eq_none (by rw [to_len]; omega)] at ht'; cases ht'
theorem MLim.done {a : List Int} (h : MLim a 7 0 0) : IsLim a 6 := ⟨by omega, by omega, fun i k n hn => h.2.2.1 i k n (by omega), .inl rfl⟩
theorem MLim.bad {a : List Int} {n i k : Nat} {t u : List Int} (h : MLim a n i k) (ht : (treesTo 6)[i]? = some t) (hu : (treesTo 6)[k]? = some u) (hn : t.length + u.length = n) (h6 : n ≤ 6) (hb : ¬ exOk a t u) : IsLim a ((n : Int) - 1) := by
  have := h.1
  exact ⟨by omega, by omega, fun j l q hq => h.2.2.1 j l q (by omega), .inr ⟨i, k, n, by omega, fun g => hb (g t u ht hu hn)⟩⟩
noncomputable def symToA (a : List Int) : Int × Int := if isMp a = true then (if a.getD 0 0 = 1 then (limOf a, 0) else (0, 5)) else (0, 1)
noncomputable def hamToA (a : List Int) : Int × Int := if isMp a = true then (if a.getD 0 0 = 0 then (limOf a, 0) else (0, 5)) else (0, 1)
end Go.Proofs.Ytnnihdkhblbdgaa
/-
  The place of a list in a list of lists, the model's.
-/
namespace Go.Proofs.Ytnnihdkhblbdgaa
open Go.RowKit Fld
set_option linter.unusedVariables false
set_option linter.unusedSimpArgs false
set_option maxRecDepth 100000

set_option maxHeartbeats 1000000 in
theorem l03Find_any (A Au : Option Addr) (n c nu cu B Bu : Nat) (m : List (List Int)) (u : List Int) (w : World) (hl : m.length = n) (hn : n ≤ 1048576) (hr : ∀ r ∈ m, r.length ≤ 1048576) (hu : u.length = nu) (hnu : nu ≤ 1048576) (h : Mat w B A m) (h' : Row w Bu Au (ints u)) :
    Calls Try.prog 79 #[.slice A n c, .slice Au nu cu] w fun e w' => e = .returned (.int .i64 (Tr.idxL u m 0)) ∧ ∃ k, w' = w.drewN k := by
  have HL := Lib.hid hl
  have HR := Lib.hid hr
  clear hl hr
  go_enter Try.func79, Try.ntmps79
  go_wp2_with fail
  go_loopw [5] (fun i wr => ∃ k d : Nat, k ≤ n ∧ i = .int .i64 k ∧ wr = w.drewN d ∧ Hid (Tr.idxL u m 0 = Tr.idxL u (m.drop k) k)) (fun i _ => n - (intOf i).toNat)
  case atStart => exact ⟨0, 0, Nat.zero_le _, rfl, rfl, rfl⟩
  case round =>
    obtain ⟨k, d, hk, rfl, rfl, HI⟩ := hrel
    by_cases hlt : k < n
    · obtain ⟨r, hr⟩ := at_lt (show k < m.length by rw [HL.out]; exact hlt)
      obtain ⟨b, o, Ak, ck, rfl, _, hca, _, _, hrow⟩ := (Mat.drewN h d) k r hr
      have HRL : Hid (r.length ≤ 1048576) := HR.out r (List.mem_of_getElem? hr)
      obtain ⟨N1, N2⟩ := Tr.idx_next HI.out hr
      have C1 := l01Same_any Ak Au r.length nu ck cu B Bu r u (w.drewN d) rfl hu (by have := HRL.out; omega) (by omega) hrow (h'.drewN d)
      clear hr HI hrow
      by_cases hru : r = u
      · have G := Lib.hid (N1 hru)
        rw [hru, eqL_self, ← hru] at C1
        clear N1 N2 hru
        go_wp2_with (go_at_call 88; refine C1.mono ?_; rintro e w' ⟨rfl, d2, rfl⟩)
        go_ret
        exact ⟨by rw [G.out]; rfl, _, rfl⟩
      · have G := Lib.hid (N2 hru)
        have e : eqL r u = false := by unfold eqL; exact decide_eq_false hru
        rw [e] at C1
        clear N1 N2 hru e
        go_wp2_with (go_at_call 88; refine C1.mono ?_; rintro e w' ⟨rfl, d2, rfl⟩)
        go_roundw
        case rel => exact ⟨k + 1, _, by omega, by go_num, rfl, G⟩
        case measure => simp [intOf]; omega
    · have G := Lib.hid (Tr.idx_end HI.out (by rw [HL.out]; omega))
      clear HI
      go_wp2
      go_ret
      exact ⟨by rw [G.out]; rfl, _, rfl⟩
end Go.Proofs.Ytnnihdkhblbdgaa
/-
  The model's grafting on lists.
-/
namespace Go.Proofs.Ytnnihdkhblbdgaa
open Go.RowKit Fld
set_option linter.unusedVariables false
set_option linter.unusedSimpArgs false
set_option maxRecDepth 100000

theorem tw_step (p : Int → Bool) : ∀ (s : List Int) (j : Nat), j ≤ (s.takeWhile p).length → (j < (s.takeWhile p).length ↔ ∃ x, s[j]? = some x ∧ p x = true)
  | [], j, h => by simp
  | a :: s, j, h => by
    rw [List.takeWhile_cons] at h ⊢
    by_cases hp : p a = true
    · rw [if_pos hp] at h ⊢
      cases j with
      | zero => simp [hp]
      | succ j =>
        have ih := tw_step p s j (by simpa using h)
        simpa using ih
    · rw [if_neg hp] at h ⊢
      have h0 : j = 0 := by simpa using h
      subst h0
      simp [hp]
theorem end_step {t : List Int} {k q : Nat} (h1 : k + 1 ≤ q) (hq : q ≤ Tr.endL t k) : q < Tr.endL t k ↔ ∃ x, t[q]? = some x ∧ t.getD k 0 < x := by
  unfold Tr.endL at *
  have h2 := tw_step (fun y => decide (t.getD k 0 < y)) (t.drop (k + 1)) (q - (k + 1)) (by omega)
  rw [List.getElem?_drop, show k + 1 + (q - (k + 1)) = q from by omega] at h2
  simp only [decide_eq_true_eq] at h2
  rw [← h2]; omega
theorem l04End_any (A : Option Addr) (n c B k : Nat) (t : List Int) (w : World) (hl : t.length = n) (hn : n ≤ 1048576) (hk : k < n) (h : Row w B A (ints t)) :
    Calls Try.prog 105 #[.slice A n c, .int .i64 k] w fun e w' => e = .returned (.int .i64 ((Tr.endL t k : Nat) : Int)) ∧ ∃ m, w' = w.drewN m := by
  have HL := Lib.hid hl
  obtain ⟨y, hy⟩ := at_lt (show k < t.length by omega)
  have HY : Hid (t.getD k 0 = y) := by rw [Hid, List.getD_eq_getElem?_getD, hy]; rfl
  obtain ⟨b, o, rfl, hbB, hcy⟩ := h k _ (ints_at hy)
  have hE := Tr.endL_le (t := t) (k := k) (by omega)
  rw [hl] at hE
  obtain ⟨en, hen⟩ : ∃ en, en = Tr.endL t k := ⟨_, rfl⟩
  have HEN := Lib.hid hen
  rw [← hen] at hE ⊢
  clear hl hy hen
  go_enter Try.func105, Try.ntmps105
  go_wp2_with fail
  go_loopw [5] (fun e wr => ∃ (q m : Nat), k + 1 ≤ q ∧ q ≤ en ∧ e = .int .i64 q ∧ wr = w.drewN m) (fun e _ => en - (intOf e).toNat)
  case atStart => exact ⟨k + 1, 0, Nat.le_refl _, hE.1, by go_num, rfl⟩
  case round =>
    obtain ⟨q, m, h1, hq, rfl, rfl⟩ := hrel
    have HS := Lib.hid (end_step (t := t) h1 (by rw [← HEN.out]; exact hq))
    have hk0 : (0 : Int) ≤ (k : Int) := Int.natCast_nonneg _
    have hq0 : (0 : Int) ≤ (q : Int) := Int.natCast_nonneg _
    have hkn : (k : Int) < (n : Int) := by omega
    by_cases hqn : q < n
    · obtain ⟨x, hx⟩ := at_lt (show q < t.length by rw [HL.out]; exact hqn)
      obtain ⟨_, _, e1, _, hcx⟩ := h q _ (ints_at hx)
      cases e1
      have hqi : (q : Int) < (n : Int) := by omega
      have hd : decide ((q : Int) < (n : Int)) = true := decide_eq_true hqi
      by_cases hlt : y < x
      · have hqe : q < en := by
          rw [HEN.out]; refine HS.out.2 ⟨x, hx, ?_⟩
          rw [HY.out]; exact hlt
        have hd2 : decide (y < x) = true := decide_eq_true hlt
        clear hx HS
        go_wp2_with fail
        go_quiet (fail)
        go_wp2
        go_roundw
        case rel => exact ⟨q + 1, _, by omega, by omega, by go_num, rfl⟩
        case measure => simp [intOf]; omega
      · have hqe : q = en := by
          rcases Nat.lt_or_ge q en with g | g
          · rw [HEN.out] at g
            obtain ⟨x', hx', hlt'⟩ := HS.out.1 g
            rw [hx] at hx'; injection hx' with hx'
            rw [HY.out] at hlt'
            omega
          · omega
        have hd2 : decide (y < x) = false := decide_eq_false hlt
        clear hx HS
        subst hqe
        go_wp2_with fail
        go_quiet (fail)
        go_wp2
        go_ret
        exact ⟨rfl, m + nq, World.drewN_drewN ..⟩
    · have hqe : q = en := by omega
      have hqn2 : q = n := by omega
      have hd : decide ((q : Int) < (n : Int)) = false := decide_eq_false (by omega)
      clear HS
      subst hqe
      go_wp2_with fail
      go_quiet (fail)
      go_wp2
      go_ret
      exact ⟨rfl, m + nq, World.drewN_drewN ..⟩
theorem grf_take {u v : List Int} {en j : Nat} {x z : Int} (h : v[j]? = some x) : (u.take en ++ (v.take (j + 1)).map (z + ·)) = (u.take en ++ (v.take j).map (z + ·)) ++ [z + x] := by
  rw [List.take_add_one, h, Option.toList_some, List.map_append, List.append_assoc]; rfl
theorem ints_snoc' (l : List Int) (x : Int) : ints l ++ [.int .i64 x] = ints (l ++ [x]) := by simp [ints, intsK]
theorem ints_app (x y : List Int) : ints (x ++ y) = ints x ++ ints y := by unfold ints intsK; rw [List.map_append]
set_option maxHeartbeats 2000000 in
theorem l04Graft_any (A A' : Option Addr) (n n' c c' B B' k : Nat) (u v : List Int) (w : World) (hl : u.length = n) (hl' : v.length = n') (hn : n ≤ 8) (hn' : n' ≤ 8) (hk : k < n) (hc : n ≤ c) (hu : Tr.isLv u = true) (hv : Tr.isLv v = true) (hlv : Tr.isLv (Tr.gl u k v) = true) (hB : B ≤ w.heap.size) (hB' : B' ≤ w.heap.size) (h : Row w B A (ints u)) (h' : Row w B' A' (ints v)) :
    Calls Try.prog 80 #[.slice A n c, .int .i64 k, .slice A' n' c'] w (NewRow 2 (n + n') (ints (Tr.can (Tr.gl u k v))) w) := by
  obtain ⟨i0, hi, hz0, hz1, hz2⟩ := info_parts info_i64
  have HL := Lib.hid hl
  have HL' := Lib.hid hl'
  obtain ⟨y, hy⟩ := at_lt (show k < u.length by omega)
  have hyb := lv_el hu hy
  have HY : Hid (u.getD k 0 = y) := by rw [Hid, List.getD_eq_getElem?_getD, hy]; rfl
  obtain ⟨b, o, rfl, hbB, hcy⟩ := h k _ (ints_at hy)
  have hE := Tr.endL_le (t := u) (k := k) (by omega)
  rw [hl] at hE
  have C0 := l04End_any (some ⟨b, o, none⟩) n c B k u w hl (by omega) hk h
  obtain ⟨en, hen⟩ : ∃ en, en = Tr.endL u k := ⟨_, rfl⟩
  have HGL : Hid (Tr.gl u k v = u.take en ++ v.map (y + 1 + ·) ++ u.drop en) := by
    rw [Hid]; unfold Tr.gl; rw [← hen, HY.out, List.append_assoc]
  have HGN : Hid ((Tr.gl u k v).length = n + n') := by rw [Hid, Tr.gl_length (by rw [← hen, hl]; rw [← hen] at hE; exact hE.2), hl, hl']
  rw [← hen] at hE C0
  have HV := Lib.hid hv
  have HG := Lib.hid hlv
  have HTK : Hid ((u.take en).length = en) := by rw [Hid, List.length_take, hl]; omega
  have hen8 : en ≤ 8 := by omega
  have henc : (en : Int) ≤ (c : Int) := by omega
  have hen0 : (0 : Int) ≤ (en : Int) := Int.natCast_nonneg _
  clear hl hl' hy hen hu hv hlv
  go_enter Try.func80, Try.ntmps80
  go_wp2_with fail
  refine C0.mono ?_
  rintro e w1 ⟨rfl, m1, rfl⟩
  go_wp2_with fail
  refine (l01Own_any ⟨b, o, none⟩ en c B (u.take en) _ HTK.out (by omega) (by exact hB) (by
    have := Row.takeA (h.drewN m1) en
    unfold ints intsK at *
    rwa [← List.map_take] at this)).mono ?_
  rintro e w2 ⟨A2, c2, rfl, own2, bel2'⟩
  have bel2 : Below w.heap.size w w2 := below_undrew' bel2'
  have own2' : w2.ownsRow w.heap.size 2 1 (.slice A2 en c2) en (ints (u.take en)) := own2
  obtain ⟨g2, cap2, hv2⟩ := own_form own2' (by omega)
  injection hv2 with hA _ hcp
  subst hA hcp
  have F0 : Hid (Growing w 2 g2 (en + 0) c2 (ints (u.take en ++ (v.take 0).map (y + 1 + ·))) w2) := by
    rw [Hid, List.take_zero, List.map_nil, List.append_nil]; exact ⟨own2', bel2⟩
  clear own2 own2' bel2 bel2' C0
  go_wp2_with fail
  go_loopw [8, 9] (fun s i W => ∃ (j g cap : Nat), j ≤ n' ∧ s = .slice (some ⟨g, 0, none⟩) (en + j) cap ∧ i = .int .i64 j ∧ Growing w 2 g (en + j) cap (ints (u.take en ++ (v.take j).map (y + 1 + ·))) W) (fun _ i _ => n' - (intOf i).toNat)
  case atStart => exact ⟨0, g2, c2, Nat.zero_le _, rfl, rfl, F0.out⟩
  case round =>
    obtain ⟨j, g, cap, hj, rfl, rfl, HGr⟩ := hrel
    have hsz := HGr.2.size
    by_cases hlt : j < n'
    · obtain ⟨x, hx⟩ := at_lt (show j < v.length by rw [HL'.out]; exact hlt)
      obtain ⟨b', o', rfl, hb', hcx⟩ := (h'.below HGr.2 hB') j _ (ints_at hx)
      obtain ⟨x0, x8⟩ := lv_el HV.out hx
      have hcy2 : wr.cell? ⟨b, o + k, none⟩ = some (.int .i64 y) := (HGr.2.cell (p := ⟨b, o + k, none⟩) (by show b < w.heap.size; omega)).trans hcy
      have HXS := Lib.hid (grf_take (u := u) (en := en) (z := y + 1) hx)
      have HG' := Lib.hid HGr
      have hown : wr.drew.ownsRow w.heap.size 2 1 (.slice (some ⟨g, 0, none⟩) (en + j) cap) (en + j) (ints (u.take en ++ (v.take j).map (y + 1 + ·))) := ((OwnR.of HGr.1).keep (w' := wr.drew) fun _ _ _ => rfl).1
      have hy0 := hyb.1
      have hy8 := hyb.2
      have hcx' : wr.drew.cell? ⟨b', o' + j, none⟩ = some (.int .i64 x) := hcx
      have hcy' : wr.drew.cell? ⟨b, o + k, none⟩ = some (.int .i64 y) := hcy2
      have hwd : w.heap.size ≤ wr.drew.heap.size := hsz
      have hw1 : IntKind.i64.wrap (y + 1) = y + 1 := IntWalk.i64_in _ (by omega)
      have hw2 : IntKind.i64.wrap (y + 1 + x) = y + 1 + x := IntWalk.i64_in _ (by omega)
      have s0 : (0 : Int) ≤ (k : Int) := Int.natCast_nonneg _
      have s1 : (k : Int) < (n : Int) := by omega
      have s2 : (0 : Int) ≤ (j : Int) := Int.natCast_nonneg _
      have s3 : (j : Int) < (n' : Int) := by omega
      have HG : Hid (∀ (ob : Obj) (W2 : World) (g5 cap5 : Nat), W2.ownsRow w.heap.size 2 1 (.slice (some ⟨g5, 0, none⟩) (en + j + 1) cap5) (en + j + 1) (ints (u.take en ++ (v.take j).map (y + 1 + ·)) ++ [.int .i64 (y + 1 + x)]) → (wr.drew.alloc ob).grownBy W2 (Value.ownBlock (.slice (some ⟨g, 0, none⟩) (en + j) cap)) → Growing w 2 g5 (en + j + 1) cap5 (ints (u.take en ++ (v.take (j + 1)).map (y + 1 + ·))) W2) := fun ob W2 g5 cap5 hown5 hgrow5 => by
        rw [ints_snoc', ← HXS.out] at hown5
        exact HG'.out.step (show Below wr.heap.size wr (wr.drew.alloc ob) from (below_drew' (Below.refl _ _)).alloc (Nat.le_refl _) _) hown5 hgrow5
      clear hx HGr
      go_wp2_with fail
      go_region_law (first | (go_loud (refine step_append_lies _ (by rfl) _ _ 23 (by rfl) w.heap.size 2 i0 _ 1 8 Try.underlying23 hi hz0 hz1 hz2 rfl (by omega) (.slice (some ⟨g, 0, none⟩) (en + j) cap) (en + j) (ints (u.take en ++ (v.take j).map (y + 1 + ·))) rfl (hown.alloc _) ⟨wr.drew.heap.size, 0, none⟩ 1 1 [.int .i64 (y + 1 + x)] rfl rfl (World.news_of_block (cs := #[.int .i64 (y + 1 + x)]) (heap_alloc_new _ _)) (by simp [Value.oneCell']) (by omega) (by simp only [maxLen]; omega) (by omega) (by simp; omega) (wr.drew.heap.size + 1) (by simp) ?_); intro g4 cap4 w4 hown4 hgrow4 hat4 hlt4))
      all_goals
        have G := Lib.hid (HG.out _ _ _ _ hown4 hgrow4)
        clear hown4 hgrow4 hat4 hown
        go_wp2
        go_roundw
        case rel => exact ⟨j + 1, g4, cap4, by omega, rfl, by go_num, G.out⟩
        case measure => simp [intOf]; omega
    · obtain rfl : j = n' := by omega
      rw [show v.take j = v from List.take_of_length_le (by rw [HL'.out]; exact Nat.le_refl _)] at HGr
      have HB1 := Lib.hid HGr.2
      have hown := HGr.1
      have HOWN := Lib.hid hown
      have HROW := Lib.hid (h.below HGr.2 hB)
      have HDL : Hid ((ints (u.drop en)).length = (n - en) * 1) := by rw [Hid, ints_length, List.length_drop, HL.out]; omega
      have HON := Lib.hid (ints_cells (u.drop en))
      have HSUM : Hid (en + j + (n - en) = n + j) := by rw [Hid]; omega
      clear HGr
      have fin : ∀ (A9 : Option Addr) (c9 : Nat) (w9 : World), w9.ownsRow w.heap.size 2 1 (.slice A9 (n + j) c9) (n + j) (ints (Tr.gl u k v)) → Below w.heap.size w w9 → Calls Try.prog 107 #[.slice A9 (n + j) c9] w9 (NewRow 2 (n + j) (ints (Tr.can (Tr.gl u k v))) w) := by
        intro A9 c9 w9 ho hb
        refine (l03Canon_any A9 (n + j) c9 w9.heap.size (Tr.gl u k v) w9 HGN.out HG.out (Nat.le_refl _) (row_of_own ho)).mono ?_
        rintro e w10 ⟨A10, c10, rfl, own10, bel10⟩
        exact ⟨A10, c10, rfl, ((OwnR.of own10).more hb.size (Nat.le_refl _)).1, hb.trans (bel10.mono hb.size)⟩
      have HFIN := Lib.hid fin
      clear fin
      by_cases hec : en = c
      · have hz : n - en = 0 := by omega
        have HDZ : Hid ((ints (u.drop en)).length = 0 * 1) := by rw [Hid, HDL.out, hz]
        have HSZ : Hid (en + j + 0 = n + j) := by rw [Hid]; omega
        have HNW : Hid (∀ q z, (ints (u.drop en))[q]? = some z → wr.cell? ((⟨b, o, none⟩ : Addr).add q) = some z) := fun q z hz' => by
          have := HDL.out
          rw [hz, Nat.zero_mul] at this
          rw [List.length_eq_zero_iff.1 this] at hz'; simp at hz'
        go_wp2_with (at_builtin; go_loud (refine wpList_append_own _ rfl (.tmp 36) (.tmp 39) 23 rfl w.heap.size 2 i0 _ 1 8 Try.underlying23 hi hz0 hz1 hz2 rfl (by omega) (.slice (some ⟨g, 0, none⟩) (en + j) cap) (en + j) (ints (u.take en ++ v.map (y + 1 + ·))) rfl hown ⟨b, o, none⟩ 0 0 (ints (u.drop en)) rfl HDZ.out HNW.out HON.out (by simp only [maxLen]; omega) (by omega) (by omega) ?_); intro v5 w5 own5 hgrow5 _; rw [HSZ.out] at own5; obtain ⟨A5, c5, rfl⟩ := own_shape' own5)
        rw [← ints_app, ← HGL.out] at own5
        have GB : Hid (Below w.heap.size w w5) := HB1.out.grown hgrow5 (by omega) (fun z hz => (HOWN.out.lt z hz).1)
        have GO := Lib.hid own5
        clear own5 hgrow5 hown
        go_wp2_with fail
        refine (HFIN.out A5 c5 w5 GO.out GB.out).mono ?_
        rintro e w6 ⟨A6, c6, rfl, own6, bel6⟩
        have GF : Hid (NewRow 2 (n + j) (ints (Tr.can (Tr.gl u k v))) w (.returned (.slice A6 (n + j) c6)) w6) := ⟨_, _, rfl, own6, bel6⟩
        clear own6 bel6
        go_wp2
        go_ret
        exact GF.out
      · have HNW : Hid (∀ q z, (ints (u.drop en))[q]? = some z → wr.cell? ((⟨b, o + en, none⟩ : Addr).add q) = some z) := by
          have := Row.dropA (k := en) HROW.out
          have h9 := row_news this
          unfold ints intsK at *
          rwa [← List.map_drop] at h9
        go_wp2_with (at_builtin; go_loud (refine wpList_append_own _ rfl (.tmp 36) (.tmp 39) 23 rfl w.heap.size 2 i0 _ 1 8 Try.underlying23 hi hz0 hz1 hz2 rfl (by omega) (.slice (some ⟨g, 0, none⟩) (en + j) cap) (en + j) (ints (u.take en ++ v.map (y + 1 + ·))) rfl hown ⟨b, o + en, none⟩ (n - en) (c - en) (ints (u.drop en)) rfl HDL.out HNW.out HON.out (by simp only [maxLen]; omega) (by omega) (by omega) ?_); intro v5 w5 own5 hgrow5 _; rw [HSUM.out] at own5; obtain ⟨A5, c5, rfl⟩ := own_shape' own5)
        rw [← ints_app, ← HGL.out] at own5
        have GB : Hid (Below w.heap.size w w5) := HB1.out.grown hgrow5 (by omega) (fun z hz => (HOWN.out.lt z hz).1)
        have GO := Lib.hid own5
        clear own5 hgrow5 hown
        go_wp2_with fail
        refine (HFIN.out A5 c5 w5 GO.out GB.out).mono ?_
        rintro e w6 ⟨A6, c6, rfl, own6, bel6⟩
        have GF : Hid (NewRow 2 (n + j) (ints (Tr.can (Tr.gl u k v))) w (.returned (.slice A6 (n + j) c6)) w6) := ⟨_, _, rfl, own6, bel6⟩
        clear own6 bel6
        go_wp2
        go_ret
        exact GF.out
end Go.Proofs.Ytnnihdkhblbdgaa
/-
  A result beside a code, handed back.
-/
namespace Go.Proofs.Ytnnihdkhblbdgaa
open Go.RowKit Fld
set_option linter.unusedVariables false

theorem ResI.of' {r : Int × Int} {w w' : World} {x k : Int} (h : r = (x, k)) (hb : Below w.heap.size w w') : ResI r w (.returned (.tuple #[.int .i64 x, .int .i64 k])) w' := by
  subst h; exact ⟨rfl, hb⟩
end Go.Proofs.Ytnnihdkhblbdgaa
/-
  The model's list of all trees with so many nodes and fewer.
-/
namespace Go.Proofs.Ytnnihdkhblbdgaa
open Go.RowKit Fld
set_option linter.unusedVariables false
set_option linter.unusedSimpArgs false
set_option maxRecDepth 100000

set_option maxHeartbeats 1000000 in
theorem l03All_any (n : Nat) (w : World) (h1 : 1 ≤ n) (h8 : n ≤ 8) : Calls Try.prog 78 #[.int .i64 n] w (NewMat (treesTo n).length (treesTo n) w) := by
  obtain ⟨j0, hj, hy0, hy1, hy2⟩ := info_parts info_row
  go_enter Try.func78, Try.ntmps78
  go_wp2_with fail
  go_loopw [3, 4] (fun v i wr => ∃ (k q g cap : Nat) (vs : List Value), k ≤ n ∧ v = .slice (some ⟨g, 0, none⟩) q cap ∧ i = .int .i64 ((k : Int) + 1) ∧ Hid (OwnMat wr w.heap.size wr.heap.size (.slice (some ⟨g, 0, none⟩) q cap) q (treesTo k) vs) ∧ Below w.heap.size w wr ∧ w.heap.size ≤ wr.heap.size) (fun _ i _ => 9 - (intOf i).toNat)
  case atStart => exact ⟨0, 0, w.heap.size, 0, [], Nat.zero_le _, rfl, rfl, by rw [Hid]; have := OwnMat.empty w; simpa [treesTo] using this, (Below.refl _ _).alloc (Nat.le_refl _) _, by simp⟩
  case round =>
    obtain ⟨k, q, g, cap, vs, hk, rfl, rfl, HM, HB, hsz⟩ := hrel
    by_cases hlt : k < n
    · have hq : q ≤ 920 := by
        have h1 := HM.out.size
        have h2 := treesTo_len k (by omega)
        omega
      have HBB := Lib.hid HB
      have C1 := l03Trees_any (k + 1) wr (by omega) (by omega)
      have h115 := (trees_all (n := k + 1) (by omega) (by omega)).2
      have hpos := trees_pos (n := k + 1) (by omega)
      obtain ⟨T, hT⟩ : ∃ T, T = Tr.treesL (k + 1) := ⟨_, rfl⟩
      have HS : Hid (treesTo (k + 1) = treesTo k ++ T) := by rw [Hid, hT]; exact treesTo_step k
      rw [← hT] at C1 h115 hpos
      obtain ⟨N, hN⟩ : ∃ N, N = T.length := ⟨_, rfl⟩
      rw [← hN] at C1 h115 hpos
      clear HB hT hN
      go_wp2_with fail
      refine C1.mono ?_
      rintro e w2 ⟨A2, c2, vs2, rfl, own2, bel2⟩
      have hs2 := bel2.size
      have HM2 := Lib.hid (HM.out.below bel2 (Nat.le_refl _))
      have HO2 := Lib.hid own2
      have HB2 := Lib.hid (HBB.out.trans (bel2.mono hsz))
      have hownO := HM2.out.outer.1
      obtain ⟨g2, rfl⟩ := own_addr own2.outer.1 (by omega)
      have HLEN : Hid (vs2.length = N * 1) := by rw [Hid, HO2.out.len, HO2.out.size, Nat.mul_one]
      have HNEW : Hid (∀ j u, vs2[j]? = some u → w2.cell? ((⟨g2, 0, none⟩ : Addr).add j) = some u) := (row_of_own HO2.out.outer.1).news
      have HONE := Lib.hid (vals_one HO2.out)
      clear own2 bel2 C1
      go_wp2_with (at_builtin; refine wpList_append_lies _ rfl (.tmp 11) (.tmp 13) 22 rfl w.heap.size 23 j0 _ 1 24 Try.underlying22 hj hy0 hy1 hy2 rfl (by omega) (.slice (some ⟨g, 0, none⟩) q cap) q vs rfl hownO ⟨g2, 0, none⟩ N c2 vs2 rfl HLEN.out HNEW.out HONE.out (by omega) (by simp only [maxLen]; omega) (by omega) (by omega) w2.heap.size rfl ?_; intro g5 cap5 w5 hown5 hgrow5 hat5 hlt5)
      have GM : Hid (OwnMat w5 w.heap.size w5.heap.size (.slice (some ⟨g5, 0, none⟩) (q + N) cap5) (q + N) (treesTo (k + 1)) (vs ++ vs2)) := by
        rw [Hid, HS.out]
        exact HM2.out.pushAll hs2 HO2.out hsz hown5 hgrow5
      have GB : Hid (Below w.heap.size w w5) := HB2.out.grown hgrow5 (by omega) (fun z hz => (hownO.lt z hz).1)
      have hs5 : w2.heap.size ≤ w5.heap.size := hgrow5.size
      clear hown5 hgrow5 hat5 hownO
      go_wp2
      go_roundw
      case rel => exact ⟨k + 1, q + N, g5, cap5, _, by omega, rfl, by go_num, GM, GB.out, by omega⟩
      case measure => simp [intOf]; omega
    · obtain rfl : k = n := by omega
      have e : (treesTo k).length = q := HM.out.size
      have G : Hid (NewMat (treesTo k).length (treesTo k) w (.returned (.slice (some ⟨g, 0, none⟩) q cap)) wr) := by
        rw [Hid, e]; exact ⟨_, _, vs, rfl, HM.out, HB⟩
      clear HB e
      go_wp2
      go_ret
      exact G.out
end Go.Proofs.Ytnnihdkhblbdgaa
/-
  The limit of conditions of maps, the model's.
-/
namespace Go.Proofs.Ytnnihdkhblbdgaa
open Go.RowKit Fld
set_option linter.unusedVariables false
set_option linter.unusedSimpArgs false
set_option maxRecDepth 100000

theorem addr_eqE {b o b' o' : Nat} (h : (some (⟨b, o, none⟩ : Addr)) = some ⟨b', o', none⟩) : b = b' ∧ o = o' := by
  injection h with e; injection e with e1 e2; exact ⟨e1, e2⟩
set_option maxHeartbeats 4000000 in
theorem l12To_any (A : Option Addr) (c B : Nat) (xs : List Int) (w : World) (hl : xs.length = 38) (hx : allNum xs = true) (hB : B ≤ w.heap.size) (h : Row w B A (ints xs)) :
    Calls Try.prog 47 #[.slice A 38 c] w fun e w' => e = .returned (.int .i64 (limOf xs)) ∧ Below w.heap.size w w' := by
  have HL := Lib.hid hl
  have HN := Lib.hid hx
  have C0 := fun w' => l03All_any 6 w' (by omega) (by omega)
  rw [to_len] at C0
  clear hl hx
  go_enter Try.func47, Try.ntmps47
  go_wp2_with fail
  refine (C0 _).mono ?_
  rintro e w1 ⟨A1, c1, vs1, rfl, own1, bel1⟩
  have B1 := Lib.hid bel1
  have FM : Hid (Mat w1 w1.heap.size A1 (treesTo 6)) := own1.mat
  have FX : Hid (Row w1 B A (ints xs)) := h.below B1.out hB
  have hs1 := B1.out.size
  obtain ⟨t0, ht0⟩ := at_lt (show 0 < (treesTo 6).length by rw [to_len]; omega)
  obtain ⟨b1, o1, _, _, rfl, hb1, _, _, _, _⟩ := FM.out 0 t0 ht0
  obtain ⟨x0, hx0⟩ := at_lt (show 0 < xs.length by rw [HL.out]; omega)
  obtain ⟨ba, oa, rfl, hba, _⟩ := FX.out 0 _ (ints_at hx0)
  clear own1 bel1 C0 ht0 hx0 h
  go_wp2_with fail
  go_loopw [4] (fun v wr => ∃ n : Nat, v = .int .i64 n ∧ Hid (MLim xs n 0 0) ∧ Hid (Below w1.heap.size w1 wr)) (fun v _ => 7 - (intOf v).toNat)
  case atStart => exact ⟨2, rfl, MLim.start xs, Below.refl _ _⟩
  case round =>
    obtain ⟨n, rfl, HT, HW⟩ := hrel
    have n2 := HT.out.1
    have n7 := HT.out.2.1
    by_cases hn6 : n ≤ 6
    · have hn6i : (n : Int) ≤ 6 := by omega
      go_wp2_with fail
      go_loopw [5] (fun v wr => ∃ i : Nat, i ≤ 37 ∧ v = .int .i64 i ∧ Hid (MLim xs n i 0) ∧ Hid (Below w1.heap.size w1 wr)) (fun v _ => 37 - (intOf v).toNat)
      case atStart => exact ⟨0, Nat.zero_le _, rfl, HT, HW⟩
      case round =>
        clear HT HW
        obtain ⟨i, hi, rfl, HT, HW⟩ := hrel
        by_cases hi37 : i < 37
        · have hi37i : (i : Int) < 37 := by omega
          go_wp2_with fail
          go_loopw [6] (fun v wr => ∃ k : Nat, k ≤ 37 ∧ v = .int .i64 k ∧ Hid (MLim xs n i k) ∧ Hid (Below w1.heap.size w1 wr)) (fun v _ => 37 - (intOf v).toNat)
          case atStart => exact ⟨0, Nat.zero_le _, rfl, HT, HW⟩
          case round =>
            clear HT HW
            obtain ⟨k, hk, rfl, HT, HW⟩ := hrel
            by_cases hk37 : k < 37
            · obtain ⟨t, ht⟩ := at_lt (show i < (treesTo 6).length by rw [to_len]; exact hi37)
              obtain ⟨u, hu⟩ := at_lt (show k < (treesTo 6).length by rw [to_len]; exact hk37)
              have lt_ := to_lvT (List.mem_of_getElem? ht)
              have lu_ := to_lvT (List.mem_of_getElem? hu)
              obtain ⟨t1, t8⟩ := lv_bd lt_
              obtain ⟨u1, u8⟩ := lv_bd lu_
              have HM := (FM.out.below HW.out (Nat.le_refl _))
              obtain ⟨bi, oi, Ai, ci, eA, hbi, hci, hlci, hcmi, rowi⟩ := HM i t ht
              obtain ⟨rfl, rfl⟩ := addr_eqE eA
              obtain ⟨bk, ok, Ak, ck, eA2, hbk, hck, hlck, hcmk, rowk⟩ := HM k u hu
              obtain ⟨rfl, rfl⟩ := addr_eqE eA2
              have i0 : (0 : Int) ≤ (i : Int) := Int.natCast_nonneg _
              have i1 : (i : Int) < 37 := by omega
              have k0 : (0 : Int) ≤ (k : Int) := Int.natCast_nonneg _
              have k1 : (k : Int) < 37 := by omega
              have HTT := Lib.hid ht
              have HUU := Lib.hid hu
              have HLT := Lib.hid lt_
              have HLU := Lib.hid lu_
              have hwz := HW.out.size
              have RI := Lib.hid rowi
              have RK := Lib.hid rowk
              obtain ⟨nt, hnt⟩ : ∃ nt, nt = t.length := ⟨_, rfl⟩
              obtain ⟨nu, hnu⟩ : ∃ nu, nu = u.length := ⟨_, rfl⟩
              have HNT := Lib.hid hnt.symm
              have HNU := Lib.hid hnu.symm
              rw [← hnt] at hci hlci t1 t8
              rw [← hnu] at hck hlck u1 u8
              have hwr : IntKind.i64.wrap ((nt : Int) + (nu : Int)) = ((nt + nu : Nat) : Int) := by rw [IntWalk.i64_in _ (by omega)]; omega
              clear ht hu lt_ lu_ eA eA2 rowi rowk hnt hnu HM
              by_cases hsum : nt + nu = n
              · have tt : (((nt + nu : Nat) : Int) != (n : Int)) = false := bne_f (by omega)
                have HSUM := Lib.hid hsum
                have hn6' : nt + nu ≤ 6 := by omega
                clear hsum
                obtain ⟨_, pl, _, pg⟩ := exP_parts HLT.out HLU.out (show t.length + u.length ≤ 6 by rw [HNT.out, HNU.out]; omega)
                obtain ⟨_, ql, _, qg⟩ := exP_parts HLU.out HLT.out (show u.length + t.length ≤ 6 by rw [HNT.out, HNU.out]; omega)
                obtain ⟨p, p37, ep, vp⟩ := exP_at (a := xs) HLT.out HLU.out (show t.length + u.length ≤ 6 by rw [HNT.out, HNU.out]; omega)
                obtain ⟨q, q37, eq_, vq⟩ := exP_at (a := xs) HLU.out HLT.out (show u.length + t.length ≤ 6 by rw [HNT.out, HNU.out]; omega)
                have vt := val_at (a := xs) HTT.out
                have vu := val_at (a := xs) HUU.out
                rw [HNT.out, HNU.out] at pl ql
                have HRL : Hid (∀ r ∈ treesTo 6, r.length ≤ 1048576) := fun r hr => by have := (lv_bd (to_lvT hr)).2; omega
                have KK : Hid (∀ V, Below wr.heap.size wr V → V.cell? ⟨b1, o1 + i, none⟩ = some (.slice Ai nt ci) ∧ V.cell? ⟨b1, o1 + k, none⟩ = some (.slice Ak nu ck)) := fun V hV => ⟨(hV.cell (p := ⟨b1, o1 + i, none⟩) (by show b1 < wr.heap.size; omega)).trans hci, (hV.cell (p := ⟨b1, o1 + k, none⟩) (by show b1 < wr.heap.size; omega)).trans hck⟩
                have CG1 : ∀ V, Below wr.heap.size wr V → Calls Try.prog 80 #[.slice Ai nt ci, .int .i64 0, .slice Ak nu ck] V (NewRow 2 (nt + nu) (ints (exP t u)) V) := fun V hV => l04Graft_any Ai Ak nt nu ci ck w1.heap.size w1.heap.size 0 t u V HNT.out HNU.out (by omega) (by omega) (by omega) hlci HLT.out HLU.out pg (by have := hV.size; omega) (by have := hV.size; omega) (RI.out.below hV hwz) (RK.out.below hV hwz)
                have CG2 : ∀ V, Below wr.heap.size wr V → Calls Try.prog 80 #[.slice Ak nu ck, .int .i64 0, .slice Ai nt ci] V (NewRow 2 (nu + nt) (ints (exP u t)) V) := fun V hV => l04Graft_any Ak Ai nu nt ck ci w1.heap.size w1.heap.size 0 u t V HNU.out HNT.out (by omega) (by omega) (by omega) hlck HLU.out HLT.out qg (by have := hV.size; omega) (by have := hV.size; omega) (RK.out.below hV hwz) (RI.out.below hV hwz)
                have CF1 := fun V A9 c9 (hV : Below wr.heap.size wr V) (r : Row V V.heap.size A9 (ints (exP t u))) => l03Find_any (some ⟨b1, o1, none⟩) A9 37 c1 (nt + nu) c9 w1.heap.size V.heap.size (treesTo 6) (exP t u) V to_len (by omega) HRL.out pl (by omega) (FM.out.below (HW.out.trans (hV.mono hwz)) (Nat.le_refl _)) r
                have CF2 := fun V A9 c9 (hV : Below wr.heap.size wr V) (r : Row V V.heap.size A9 (ints (exP u t))) => l03Find_any (some ⟨b1, o1, none⟩) A9 37 c1 (nu + nt) c9 w1.heap.size V.heap.size (treesTo 6) (exP u t) V to_len (by omega) HRL.out ql (by omega) (FM.out.below (HW.out.trans (hV.mono hwz)) (Nat.le_refl _)) r
                simp only [ep] at CF1
                simp only [eq_] at CF2
                obtain ⟨a0, ha0⟩ := at_lt (show 0 < xs.length by rw [HL.out]; omega)
                obtain ⟨at_, hat⟩ := at_lt (show i + 1 < xs.length by rw [HL.out]; omega)
                obtain ⟨au, hau⟩ := at_lt (show k + 1 < xs.length by rw [HL.out]; omega)
                obtain ⟨ap, hap⟩ := at_lt (show p + 1 < xs.length by rw [HL.out]; omega)
                obtain ⟨aq, haq⟩ := at_lt (show q + 1 < xs.length by rw [HL.out]; omega)
                have gd : ∀ {j : Nat} {x : Int}, xs[j]? = some x → xs.getD j 0 = x := fun h => by rw [List.getD_eq_getElem?_getD, h]; rfl
                rw [gd hat] at vt
                rw [gd hau] at vu
                rw [gd hap] at vp
                rw [gd haq] at vq
                obtain ⟨a00, a01⟩ := num_at HN.out ha0
                obtain ⟨t00, t01⟩ := num_at HN.out hat
                obtain ⟨u00, u01⟩ := num_at HN.out hau
                obtain ⟨p00, p01⟩ := num_at HN.out hap
                obtain ⟨q00, q01⟩ := num_at HN.out haq
                have XC : Hid (∀ V, Below w1.heap.size w1 V → V.cell? ⟨ba, oa, none⟩ = some (.int .i64 a0) ∧ V.cell? ⟨ba, oa + (i + 1), none⟩ = some (.int .i64 at_) ∧ V.cell? ⟨ba, oa + (k + 1), none⟩ = some (.int .i64 au) ∧ V.cell? ⟨ba, oa + (p + 1), none⟩ = some (.int .i64 ap) ∧ V.cell? ⟨ba, oa + (q + 1), none⟩ = some (.int .i64 aq)) := fun V hV => by
                  have HXV := FX.out.below hV (by omega)
                  obtain ⟨_, _, e0, _, c0⟩ := HXV 0 _ (ints_at ha0)
                  obtain ⟨rfl, rfl⟩ := addr_eqE e0
                  obtain ⟨_, _, e0, _, c1⟩ := HXV (i + 1) _ (ints_at hat)
                  obtain ⟨rfl, rfl⟩ := addr_eqE e0
                  obtain ⟨_, _, e0, _, c2⟩ := HXV (k + 1) _ (ints_at hau)
                  obtain ⟨rfl, rfl⟩ := addr_eqE e0
                  obtain ⟨_, _, e0, _, c3⟩ := HXV (p + 1) _ (ints_at hap)
                  obtain ⟨rfl, rfl⟩ := addr_eqE e0
                  obtain ⟨_, _, e0, _, c4⟩ := HXV (q + 1) _ (ints_at haq)
                  obtain ⟨rfl, rfl⟩ := addr_eqE e0
                  exact ⟨by rw [Nat.add_zero] at c0; exact c0, c1, c2, c3, c4⟩
                have CM1 := fun V => l01Mul_any at_ au V t00 t01 u00 u01
                obtain ⟨m1, hm1⟩ : ∃ m1, m1 = at_ * au % 10007 := ⟨_, rfl⟩
                have CM2 := fun V => l01Mul_any a0 m1 V a00 a01 (by omega) (by omega)
                obtain ⟨m2, hm2⟩ : ∃ m2, m2 = a0 * m1 % 10007 := ⟨_, rfl⟩
                have CA := fun V => l01Add_any ap aq V p00 p01 q00 q01
                obtain ⟨m3, hm3⟩ : ∃ m3, m3 = (ap + aq) % 10007 := ⟨_, rfl⟩
                have GOK : Hid (exOk xs t u ↔ m3 = m2) := by unfold exOk; rw [Hid, vp, vq, vt, vu, gd ha0, hm3, hm2, hm1]
                simp only [← hm1] at CM1
                simp only [← hm2] at CM2
                simp only [← hm3] at CA
                have wi : IntKind.i64.wrap ((i : Int) + 1) = ((i + 1 : Nat) : Int) := by rw [IntWalk.i64_in _ (by omega)]; omega
                have wk : IntKind.i64.wrap ((k : Int) + 1) = ((k + 1 : Nat) : Int) := by rw [IntWalk.i64_in _ (by omega)]; omega
                have wp : IntKind.i64.wrap ((p : Int) + 1) = ((p + 1 : Nat) : Int) := by rw [IntWalk.i64_in _ (by omega)]; omega
                have wq : IntKind.i64.wrap ((q : Int) + 1) = ((q + 1 : Nat) : Int) := by rw [IntWalk.i64_in _ (by omega)]; omega
                have q0 := (KK.out wr (Below.refl _ _)).1
                have q1 := (KK.out wr (Below.refl _ _)).2
                clear hm1 hm2 hm3 vp vq vt vu gd ha0 hat hau hap haq a00 a01 t00 t01 u00 u01 p00 p01 q00 q01 pg qg pl ql ep eq_ hci hck
                go_wp2_with fail
                go_quiet (fail)
                go_wp2_with fail
                generalize hW4 : wr.drewN _ = W4
                have BQ : Hid (Below wr.heap.size wr W4) := by rw [← hW4]; exact below_drewN (Below.refl _ _) _
                clear hW4 q0 q1
                go_region_held3 (fun V => V.cell? ⟨b1, o1 + i, none⟩ = some (.slice Ai nt ci) ∧ V.cell? ⟨b1, o1 + k, none⟩ = some (.slice Ak nu ck))
                  (first | exact KK.out _ BQ.out | exact KK.out _ BQ.out.drew | exact KK.out _ (below_drewN BQ.out _) | exact KK.out _ (below_drewN BQ.out _).drew | exact KK.out _ b92 | exact KK.out _ (below_drewN b92 _))
                  (first
                    | (go_at_call 80; refine (CG1 _ (by first | exact BQ.out | exact BQ.out.drew | exact below_drewN BQ.out _)).mono ?_; rintro e w2 ⟨A9, c9, rfl, own9, be9⟩; have b92 : Below wr.heap.size wr w2 := (show Below wr.heap.size wr W4 from BQ.out).trans (Below.mono ⟨be9.os, be9.tape, be9.output, be9.size, be9.block⟩ BQ.out.size))
                    | (go_at_call 79; refine (CF1 _ A9 c9 b92 (row_of_own own9)).mono ?_; rintro e w3 ⟨rfl, d3, rfl⟩))
                have BR := Lib.hid (below_drewN b92 d3)
                clear own9 be9
                go_wp2_with fail
                generalize hW5 : w2.drewN d3 = W5 at BR ⊢
                have GBR : Hid (∀ V, Below W5.heap.size W5 V → Below wr.heap.size wr V) := fun V hV => BR.out.trans (hV.mono BR.out.size)
                have hz5 := BR.out.size
                clear hW5 b92
                go_region_held3 (fun V => V.cell? ⟨b1, o1 + i, none⟩ = some (.slice Ai nt ci) ∧ V.cell? ⟨b1, o1 + k, none⟩ = some (.slice Ak nu ck))
                  (first | exact KK.out _ BR.out | exact KK.out _ BR.out.drew | exact KK.out _ (below_drewN BR.out _) | exact KK.out _ (below_drewN BR.out _).drew | exact KK.out _ b82 | exact KK.out _ (below_drewN b82 _))
                  (first
                    | (go_at_call 80; refine (CG2 _ (by first | exact BR.out | exact BR.out.drew | exact below_drewN BR.out _)).mono ?_; rintro e w6 ⟨A8, c8, rfl, own8, be8⟩; have b82 : Below wr.heap.size wr w6 := GBR.out w6 ⟨be8.os, be8.tape, be8.output, be8.size, be8.block⟩)
                    | (go_at_call 79; refine (CF2 _ A8 c8 b82 (row_of_own own8)).mono ?_; rintro e w7 ⟨rfl, d7, rfl⟩))
                have BS := Lib.hid (below_drewN b82 d7)
                clear own8 be8 CG1 CG2 CF1 CF2 BR GBR hz5
                go_wp2_with fail
                generalize hW6 : w6.drewN d7 = W6 at BS ⊢
                clear hW6 b82
                obtain ⟨x0, x1, x2, x3, x4⟩ := XC.out W6 (HW.out.trans (BS.out.mono hwz))
                have GB : Hid (∀ d, Below w1.heap.size w1 (W6.drewN d)) := fun d => below_drewN (HW.out.trans (BS.out.mono hwz)) d
                go_quiet ((go_at_call 81; first | exact quietL (CM1 _) | exact quietL (CM2 _) | exact quietL2 (CM1 _) | exact quietL2 (CM2 _)))
                go_wp2_with fail
                by_cases hok : m3 = m2
                · have tb : (m3 != m2) = false := bne_f hok
                  have G := Lib.hid (HT.out.step (exAt_good HTT.out HUU.out (GOK.out.2 hok)))
                  clear hok HT GOK
                  go_quiet ((go_at_call 44; first | exact quietL (CA _) | exact quietL2 (CA _)))
                  go_wp2
                  go_roundw
                  case rel => exact ⟨k + 1, by omega, by go_num, G, by first | exact GB.out _ | exact below_drewN (GB.out _) _⟩
                  case measure => simp [intOf]; omega
                · have tb : (m3 != m2) = true := bne_t hok
                  have G : Hid (limOf xs = (n : Int) - 1) := IsLim.of (HT.out.bad HTT.out HUU.out (by rw [HNT.out, HNU.out]; exact HSUM.out) hn6 (fun g => hok (GOK.out.1 g)))
                  have wn : IntKind.i64.wrap ((n : Int) - 1) = (n : Int) - 1 := IntWalk.i64_in _ (by omega)
                  clear hok HT GOK
                  go_quiet ((go_at_call 44; first | exact quietL (CA _) | exact quietL2 (CA _)))
                  go_wp2
                  go_ret
                  exact ⟨ret_i64 G.out.symm, B1.out.trans (Below.mono (by first | exact GB.out _ | exact below_drewN (GB.out _) _) hs1)⟩
              · have tt : (((nt + nu : Nat) : Int) != (n : Int)) = true := bne_t (by omega)
                have G := Lib.hid (HT.out.step (exAt_other HTT.out HUU.out (by rw [HNT.out, HNU.out]; exact hsum)))
                have GB : Hid (∀ d, Below w1.heap.size w1 (wr.drewN d)) := fun d => below_drewN HW.out d
                clear HT HW RI RK
                go_wp2_with fail
                go_quiet (fail)
                go_wp2
                go_roundw
                case rel => exact ⟨k + 1, by omega, by go_num, G, GB.out _⟩
                case measure => simp [intOf]; omega
            · obtain rfl : k = 37 := by omega
              have G := Lib.hid HT.out.leave
              clear HT
              go_wp2
              go_roundw
              case rel => exact ⟨i + 1, by omega, by go_num, G, HW⟩
              case measure => simp [intOf]; omega
        · obtain rfl : i = 37 := by omega
          have G := Lib.hid (HT.out.next hn6)
          clear HT
          go_wp2
          go_roundw
          case rel => exact ⟨n + 1, by go_num, G, HW⟩
          case measure => simp [intOf]; omega
    · have e7 : n = 7 := by omega
      have G : Hid (limOf xs = 6) := IsLim.of (by have := HT.out; rw [e7] at this; exact this.done)
      have GB : Hid (Below w.heap.size w wr) := B1.out.trans (HW.out.mono hs1)
      have h7 : ¬ ((n : Int) ≤ 6) := by omega
      clear HT
      go_wp2
      go_ret
      exact ⟨ret_i64 G.out.symm, GB.out⟩
end Go.Proofs.Ytnnihdkhblbdgaa
/-
  What the tests on maps answer, the program's and the model's alike.
-/
namespace Go.Proofs.Ytnnihdkhblbdgaa
open Go.RowKit Fld
set_option linter.unusedVariables false
set_option linter.unusedSimpArgs false
set_option maxRecDepth 100000

theorem isMap_any (A : Option Addr) (n c B : Nat) (xs : List Int) (w : World) (hl : xs.length = n) (hn : n ≤ 9223372036854775807) (h : Row w B A (ints xs)) :
    Calls Try.prog 48 #[.slice A n c] w fun e w' => e = .returned (.bool (isMp xs)) ∧ w = w' := by
  have HL := Lib.hid hl
  by_cases h0 : n = 38
  · have H := Lib.hid (isMp_num (a := xs) (by omega))
    have t : ((n : Int) == 38) = true := beq_t (by omega)
    clear hl h0
    go_enter Try.func48, Try.ntmps48
    go_wp2_with (go_at_call 64; refine (areNumbers_any _ _ _ B xs _ HL.out hn h).mono ?_; rintro e w' ⟨rfl, rfl⟩)
    go_ret
    exact ⟨ret_bool H.out.symm, rfl⟩
  · have H := Lib.hid (isMp_len (a := xs) (by omega))
    have t : ((n : Int) == 38) = false := beq_f (by omega)
    clear hl h0
    go_enter Try.func48, Try.ntmps48
    go_wp2
    go_ret
    exact ⟨ret_bool H.out.symm, rfl⟩
theorem l07Is_any (A : Option Addr) (n c B : Nat) (xs : List Int) (w : World) (hl : xs.length = n) (hn : n ≤ 9223372036854775807) (h : Row w B A (ints xs)) :
    Calls Try.prog 77 #[.slice A n c] w fun e w' => e = .returned (.bool (isMp xs)) ∧ w = w' := by
  have HL := Lib.hid hl
  by_cases h0 : n = 38
  · have H := Lib.hid (isMp_num (a := xs) (by omega))
    have t : ((n : Int) == 38) = true := beq_t (by omega)
    clear hl h0
    go_enter Try.func77, Try.ntmps77
    go_wp2_with (go_at_call 62; refine (l01Numbers_any _ _ _ B xs _ HL.out hn h).mono ?_; rintro e w' ⟨rfl, rfl⟩)
    go_ret
    exact ⟨ret_bool H.out.symm, rfl⟩
  · have H := Lib.hid (isMp_len (a := xs) (by omega))
    have t : ((n : Int) == 38) = false := beq_f (by omega)
    clear hl h0
    go_enter Try.func77, Try.ntmps77
    go_wp2
    go_ret
    exact ⟨ret_bool H.out.symm, rfl⟩
theorem map_first {A : Option Addr} {n B : Nat} {a : List Int} {w : World} (hm : isMp a = true) (hl : a.length = n) (h : Row w B A (ints a)) : ∃ x b o, a[0]? = some x ∧ A = some ⟨b, o, none⟩ ∧ w.cell? ⟨b, o, none⟩ = some (.int .i64 x) ∧ 1 ≤ n ∧ 0 ≤ x ∧ x < 10007 := by
  obtain ⟨h1, h2⟩ := isMp_parts hm hl
  obtain ⟨x, hx⟩ := at_lt (show 0 < a.length by omega)
  obtain ⟨b, o, e, _, hc⟩ := h 0 _ (ints_at hx)
  rw [Nat.add_zero] at hc
  obtain ⟨x0, x1⟩ := num_at h2 hx
  exact ⟨x, b, o, hx, e, hc, by omega, x0, x1⟩
theorem isCharacter_any (A : Option Addr) (n c B : Nat) (xs : List Int) (w : World) (hl : xs.length = n) (hn : n ≤ 9223372036854775807) (h : Row w B A (ints xs)) :
    Calls Try.prog 49 #[.slice A n c] w fun e w' => e = .returned (.bool (isChr xs)) ∧ w = w' := by
  have C0 := isMap_any A n c B xs w hl hn h
  cases hm : isMp xs
  · have H := Lib.hid (isChr_no hm)
    rw [hm] at C0
    clear hl
    go_enter Try.func49, Try.ntmps49
    go_wp2_with fail
    refine C0.mono ?_
    rintro e w' ⟨rfl, rfl⟩
    go_wp2
    go_ret
    exact ⟨ret_bool H.out.symm, rfl⟩
  · obtain ⟨x, b, o, hx, rfl, hc, p1, x0, x1⟩ := map_first hm hl h
    have H := Lib.hid (isChr_at hm hx)
    rw [hm] at C0
    clear hl hx
    by_cases hx1 : x = 1
    · have t : (x == 1) = true := beq_t hx1
      have D : Hid (decide (x = 1) = true) := decide_eq_true hx1
      clear hx1
      go_enter Try.func49, Try.ntmps49
      go_wp2_with fail
      refine C0.mono ?_
      rintro e w' ⟨rfl, rfl⟩
      go_wp2
      go_ret
      exact ⟨ret_bool (H.out.trans D.out).symm, rfl⟩
    · have t : (x == 1) = false := beq_f hx1
      have D : Hid (decide (x = 1) = false) := decide_eq_false hx1
      clear hx1
      go_enter Try.func49, Try.ntmps49
      go_wp2_with fail
      refine C0.mono ?_
      rintro e w' ⟨rfl, rfl⟩
      go_wp2
      go_ret
      exact ⟨ret_bool (H.out.trans D.out).symm, rfl⟩
theorem isInfinitesimal_any (A : Option Addr) (n c B : Nat) (xs : List Int) (w : World) (hl : xs.length = n) (hn : n ≤ 9223372036854775807) (h : Row w B A (ints xs)) :
    Calls Try.prog 53 #[.slice A n c] w fun e w' => e = .returned (.bool (isInf xs)) ∧ w = w' := by
  have C0 := isMap_any A n c B xs w hl hn h
  cases hm : isMp xs
  · have H := Lib.hid (isInf_no hm)
    rw [hm] at C0
    clear hl
    go_enter Try.func53, Try.ntmps53
    go_wp2_with fail
    refine C0.mono ?_
    rintro e w' ⟨rfl, rfl⟩
    go_wp2
    go_ret
    exact ⟨ret_bool H.out.symm, rfl⟩
  · obtain ⟨x, b, o, hx, rfl, hc, p1, x0, x1⟩ := map_first hm hl h
    have H := Lib.hid (isInf_at hm hx)
    rw [hm] at C0
    clear hl hx
    by_cases hx1 : x = 0
    · have t : (x == 0) = true := beq_t hx1
      have D : Hid (decide (x = 0) = true) := decide_eq_true hx1
      clear hx1
      go_enter Try.func53, Try.ntmps53
      go_wp2_with fail
      refine C0.mono ?_
      rintro e w' ⟨rfl, rfl⟩
      go_wp2
      go_ret
      exact ⟨ret_bool (H.out.trans D.out).symm, rfl⟩
    · have t : (x == 0) = false := beq_f hx1
      have D : Hid (decide (x = 0) = false) := decide_eq_false hx1
      clear hx1
      go_enter Try.func53, Try.ntmps53
      go_wp2_with fail
      refine C0.mono ?_
      rintro e w' ⟨rfl, rfl⟩
      go_wp2
      go_ret
      exact ⟨ret_bool (H.out.trans D.out).symm, rfl⟩
end Go.Proofs.Ytnnihdkhblbdgaa
/-
  A map of trees by their texts: valuesOf.
-/
namespace Go.Proofs.Ytnnihdkhblbdgaa
open Go.RowKit Fld Go.Maps
set_option linter.unusedVariables false
set_option linter.unusedSimpArgs false
set_option maxRecDepth 100000

theorem keyedV : Keyed Try.prog 73 := Maps.string_keyed Try.underlying73
theorem zeroNum (w : World) : (zeroValue 51).run Try.prog w = .ok (.int .i64 0) w := by kernel_rfl
theorem keyTxV {x : List UInt8} (h : x.length ≤ 1048576) : keyOf Try.prog 73 (.string ⟨x.toArray⟩) = some (.string x) := by
  have h1 := Go.WideMaps.keyOf_string_mk (P := Try.prog) (k := 73) Try.underlying73 (s := ⟨x.toArray⟩) (by simp [ByteArray.size, maxLen]; omega)
  simpa using h1
theorem keyLitV {x : List UInt8} : WideAt.IsKeyLit (.string x) := by simp [WideAt.IsKeyLit]
/-- block b is a map that holds the numbers f -/
def HoldsV (D : DataW Unit) (f : List UInt8 → Int) : Prop := ∀ x, D.atKey (.string x) (.lit (.int .i64 0)) = .lit (.int .i64 (f x))
def MapV (w : World) (b n : Nat) (f : List UInt8 → Int) : Prop :=
  ∃ D : DataW Unit, w.ownsMap Try.prog 73 (plainElem Try.prog 51) b n D ∧ HoldsV D f
theorem MapV.made (w : World) : MapV (w.alloc (.map #[] 0)) w.heap.size 0 (fun _ => 0) :=
  ⟨.map [], World.ownsMap_made _ _ _ _, fun x => by simp [DataW.atKey]⟩
theorem MapV.lt {w : World} {b n : Nat} {f : List UInt8 → Int} (h : MapV w b n f) : b < w.heap.size := by
  obtain ⟨D, h1, _⟩ := h
  exact h1.lt
theorem MapV.below {w w' : World} {b n B : Nat} {f : List UInt8 → Int} (h : MapV w b n f) (hb : Below B w w') (hB : b < B) : MapV w' b n f := by
  obtain ⟨D, ⟨es, clock, h1, r⟩, h2⟩ := h
  exact ⟨D, ⟨es, clock, (hb.block b hB).trans h1, r⟩, h2⟩
theorem ownsMap_below {w w' : World} {b n B : Nat} {D : DataW Unit} (h : w.ownsMap Try.prog 73 (plainElem Try.prog 51) b n D) (hb : Below B w w') (hB : b < B) : w'.ownsMap Try.prog 73 (plainElem Try.prog 51) b n D := by
  obtain ⟨es, clock, h1, r⟩ := h
  exact ⟨es, clock, (hb.block b hB).trans h1, r⟩
theorem MapV.next {w w' : World} {b n : Nat} {f : List UInt8 → Int} (h : MapV w b n f) (hb : Below w.heap.size w w') : MapV w' b n f := h.below hb h.lt
theorem HoldsV.put {D : DataW Unit} {f : List UInt8 → Int} {x : List UInt8} {c : Int} (h : HoldsV D f) (hm : IsMap D) : HoldsV (D.put (.string x) (.lit (.int .i64 c))) (fun y => if y = x then c else f y) := fun y => by
  show _ = DataW.lit (.int .i64 (if y = x then c else f y))
  by_cases e : y = x
  · subst e
    rw [if_pos rfl, Maps.atKey_put_same hm keyLitV]
  · rw [if_neg e, Maps.atKey_put_other (fun q => e (by injection q))]; exact h y
def ResV (n : Nat) (f : List UInt8 → Int) (w : World) (e : Ending) (w' : World) : Prop := ∃ b, e = .returned (.map (some b)) ∧ MapV w' b n f ∧ Below w.heap.size w w'
set_option maxHeartbeats 4000000 in
theorem valuesOf_any (A : Option Addr) (n c B : Nat) (xs : List Int) (w : World) (hl : xs.length = n) (hn : n ≤ 37) (ha : allNum xs = true) (hB : B ≤ w.heap.size) (h : Row w B A (ints xs)) :
    Calls Try.prog 82 #[.slice A n c] w (ResV n (valN xs n) w) := by
  have HL := Lib.hid hl
  have NA := Lib.hid ha
  have hB1 : B ≤ (w.alloc (.map #[] 0)).heap.size := by simp; omega
  have M0 := MapV.made w
  have B0 : Below w.heap.size w (w.alloc (.map #[] 0)) := (Below.refl _ _).alloc (Nat.le_refl _) _
  have hmm := @run_makeMap Try.prog
  clear hl ha
  go_enter Try.func82, Try.ntmps82
  go_wp2_with fail
  refine (allTrees_any _).mono ?_
  rintro e w1 ⟨A1, c1, vs1, rfl, own1, bel1⟩
  have M1 := Lib.hid (M0.next bel1)
  have B1 := Lib.hid (B0.trans (bel1.mono (by simp)))
  have O1 := Lib.hid own1
  have hcap := (own_cap own1.outer.1).1
  have hlo : (w.alloc (.map #[] 0)).heap.size = w.heap.size + 1 := by simp
  have hlo2 := Lib.hid hlo
  clear M0 B0 own1 bel1 hlo
  have hb0 := M1.out.lt
  have OWN : Hid (∃ lo, w.heap.size < lo ∧ OwnMat w1 lo w1.heap.size (.slice A1 200 c1) 200 Tr.allL vs1) := ⟨_, by rw [hlo2.out]; omega, O1.out⟩
  clear O1 hlo2
  go_wp2_with fail
  go_loopw [12] (fun i wr => ∃ k : Nat, k ≤ n ∧ i = .int .i64 k ∧ Hid (MapV wr w.heap.size k (valN xs k)) ∧ Hid (∃ lo, w.heap.size < lo ∧ OwnMat wr lo wr.heap.size (.slice A1 200 c1) 200 Tr.allL vs1) ∧ Hid (Below w.heap.size w wr)) (fun i _ => n - (intOf i).toNat)
  case atStart => exact ⟨0, Nat.zero_le _, rfl, M1, OWN, B1⟩
  case round =>
    clear M1 OWN B1
    obtain ⟨k, hk, rfl, HM, HO, HB⟩ := hrel
    have HR := Lib.hid (h.below HB.out hB)
    by_cases hlt : k < n
    · obtain ⟨x, hx⟩ := at_lt (show k < xs.length by rw [HL.out]; exact hlt)
      obtain ⟨t, ht⟩ := at_lt (show k < Tr.allL.length by rw [Tr.allL_len]; omega)
      obtain ⟨lo, hlo, hO⟩ := HO.out
      have hlv : Tr.isLv t = true := by
        obtain ⟨j, hj⟩ : ∃ j, (treesTo 6)[k]? = some j := ⟨t, by rw [← all_to (by omega)]; exact ht⟩
        have e : j = t := by rw [all_to (by omega), hj] at ht; injection ht
        subst e
        have hm := List.mem_of_getElem? hj
        obtain ⟨q, hq, h9⟩ := to_mem.1 hm
        exact ((trees_all (n := q + 1) (by omega) (by omega)).1 _ h9).1
      obtain ⟨r1, r8⟩ := lv_bd hlv
      obtain ⟨b1, o1, Ak, ck, eA, _, hct, hrc, hcm, hrow⟩ := hO.mat k t ht
      subst eA
      obtain ⟨bx, ox, rfl, hbx, hcx⟩ := HR.out k _ (ints_at hx)
      obtain ⟨x0, x1⟩ := num_at NA.out hx
      have hwf : (Lit.int .i64 x).wf = true := by simp [Lit.wf, IntKind.min, IntKind.max, IntKind.signed, IntKind.bits]; omega
      have hsz := HB.out.size
      obtain ⟨D, hown, hD⟩ := HM.out
      have hbw := hown.lt
      have hmap := hown.isMap
      have HDP := Lib.hid (HoldsV.put (x := Tr.txt t) (c := x) hD hmap)
      have HDW : Hid (∀ W' : World, Below wr.heap.size wr W' → W'.ownsMap Try.prog 73 (plainElem Try.prog 51) w.heap.size k D) := fun W' hb => ownsMap_below hown hb hbw
      have C1 := fun d => treeOf_any Ak t.length ck wr.heap.size t (wr.drewN d) rfl r1 r8 hrc (Nat.le_refl _) (hrow.drewN d)
      have htl := (lv_txt hlv).2.2.2
      have hkey := keyTxV (x := Tr.txt t) (by omega)
      have HPUT := Lib.hid (valN_put ht hx)
      obtain ⟨T, hT⟩ : ∃ T, T = Tr.txt t := ⟨_, rfl⟩
      rw [← hT] at C1 hkey HPUT HDP
      obtain ⟨X, hX⟩ : ∃ X : ByteArray, X = ⟨T.toArray⟩ := ⟨_, rfl⟩
      rw [← hX] at C1 hkey
      have HK : Hid (∀ W' : World, Below wr.heap.size wr W' → W'.cell? ⟨bx, ox + k, none⟩ = some (.int .i64 x)) := fun W' hb => (hb.cell (p := ⟨bx, ox + k, none⟩) (World.block_lt_of_cell? wr _ hcx)).trans hcx
      have HOO := Lib.hid hO
      have k0 : (0 : Int) ≤ (k : Int) := Int.natCast_nonneg _
      have k1 : (k : Int) < (n : Int) := by omega
      have HNE : Hid (some bx ≠ some w.heap.size) := fun e => by have := Option.some.inj e; omega
      clear hx ht hlv hT hX hrow htl hO HO hown hD hmap HM
      go_wp2_with fail
      go_region_held3 (fun w' => w'.cell? ⟨bx, ox + k, none⟩ = some (.int .i64 x)) (first | go_keep | exact HK.out _ (below_undrew' bel2) | exact World.grownBy.cell hgrow3 (HK.out _ (below_undrew' bel2)) HNE.out)
        (first
          | (go_at_call 59; refine (C1 1).mono ?_; rintro e w2 ⟨rfl, bel2⟩)
          | (obtain ⟨w3, hrun, hown3, hgrow3⟩ := World.ownsMap.update (HDW.out w2 (below_undrew' bel2)) keyedV Try.underlying89 (by unfold maxLen; omega) hkey (plainElem_int Try.underlying51 hwf); rw [hrun]; go_simp))
      have bel2' := below_undrew' bel2
      have hs2 := bel2'.size
      have hs3 := hgrow3.size
      have GM : Hid (MapV w3 w.heap.size (k + 1) (valN xs (k + 1))) := ⟨_, hown3, by rw [HPUT.out]; exact HDP.out⟩
      have hWI : Within w.heap.size (w.heap.size + 1) w2 w3 := Within.grown hgrow3 (fun g' e => by injection e with e; omega)
      have GO : Hid (∃ lo, w.heap.size < lo ∧ OwnMat w3 lo w3.heap.size (.slice (some ⟨b1, o1, none⟩) 200 c1) 200 Tr.allL vs1) := ⟨lo, hlo, ((HOO.out.below bel2' (Nat.le_refl _)).within hWI (by omega) (.inr (by omega))).more (Nat.le_refl _) (by omega)⟩
      have GB : Hid (Below w.heap.size w w3) := (HB.out.trans (bel2'.mono hsz)).grown hgrow3 (by omega) (fun z hz => by injection hz with hz; omega)
      clear hown3 hgrow3 hrun bel2 bel2' hWI HB HR HOO HDW HDP
      go_wp2
      go_roundw
      case rel => exact ⟨k + 1, by omega, by go_num, GM, GO, GB⟩
      case measure => simp [intOf]; omega
    · obtain rfl : k = n := by omega
      have HD : Hid (ResV k (valN xs k) w (.returned (.map (some w.heap.size))) wr) := ⟨_, rfl, HM.out, HB.out⟩
      clear HM HO HB HR
      go_wp2
      go_ret
      exact HD.out
end Go.Proofs.Ytnnihdkhblbdgaa
/-
  Texts filled in one after another.
-/
namespace Go.Proofs.Ytnnihdkhblbdgaa
open Go.RowKit Fld
set_option linter.unusedVariables false
set_option linter.unusedSimpArgs false
set_option maxRecDepth 100000

/-- texts filled in one after another -/
def FillT (w : World) (n : Nat) (ss : List (List UInt8)) (k : Nat) (wr : World) : Prop :=
  wr.ownsRow w.heap.size 73 1 (.slice (some ⟨w.heap.size, 0, none⟩) n n) n ((strs ss).take k ++ List.replicate (n - k) (.string ⟨#[]⟩)) ∧ Below w.heap.size w wr
theorem FillT.below {w wr w2 : World} {n k : Nat} {ss : List (List UInt8)} (h : FillT w n ss k wr) (hb : Below wr.heap.size wr w2) : FillT w n ss k w2 :=
  ⟨((OwnR.of h.1).below hb (Nat.le_refl _)).1, h.2.trans (hb.mono h.2.size)⟩
theorem FillT.step {w wr : World} {n k : Nat} {ss : List (List UInt8)} {s : List UInt8} (h : FillT w n ss k wr) (hl : ss.length = n) (hs : ss[k]? = some s) : FillT w n ss (k + 1) (wr.setCell ⟨w.heap.size, k, none⟩ (.string ⟨s.toArray⟩)) := by
  obtain ⟨h1, h2⟩ := h
  refine ⟨?_, below_set h2 (Nat.le_refl _) _⟩
  have := (h1.stored k (.string ⟨s.toArray⟩)).1
  rw [fill_step (by rw [strs_length]; exact hl) (strs_at hs)] at this
  exact this
theorem FillT.start {w w1 : World} {n : Nat} {ss : List (List UInt8)} (h : w1.ownsRow w.heap.size 73 1 (.slice (some ⟨w.heap.size, 0, none⟩) n n) n (madeCells (Value.string ⟨#[]⟩).cells (n * 1)).toList) (hg : w.grownBy w1 none) : FillT w n ss 0 w1 := by
  refine ⟨?_, (Below.refl _ _).grown hg (Nat.le_refl _) (fun k hk => by cases hk)⟩
  have e : (madeCells (Value.string ⟨#[]⟩).cells (n * 1)).toList = (strs ss).take 0 ++ List.replicate (n - 0) (.string ⟨#[]⟩) := by
    rw [← fill_start, Nat.mul_one]; exact toList_madeCells_one _ _
  rw [e] at h
  exact h
end Go.Proofs.Ytnnihdkhblbdgaa
/-
  The texts of the trees of a list of level lists: the walk.
-/
namespace Go.Proofs.Ytnnihdkhblbdgaa
open Go.RowKit Fld
set_option linter.unusedVariables false
set_option linter.unusedSimpArgs false
set_option maxRecDepth 100000

set_option maxHeartbeats 1000000 in
theorem treesOf_any (A : Option Addr) (n c B : Nat) (f : List (List Int)) (w : World) (hl : f.length = n) (hn : n ≤ 1048576) (hr : ∀ r ∈ f, Tr.isLv r = true) (hB : B ≤ w.heap.size) (h : Mat w B A f) :
    Calls Try.prog 109 #[.slice A n c] w fun e w' => e = .returned (.slice (some ⟨w.heap.size, 0, none⟩) n n) ∧ w'.ownsRow w.heap.size 73 1 (.slice (some ⟨w.heap.size, 0, none⟩) n n) n (strs (f.map Tr.txt)) ∧ Below w.heap.size w w' := by
  obtain ⟨i0, hi, hz0, hz1, hz2⟩ := info_parts info_tree
  have HL := Lib.hid hl
  have HR := Lib.hid hr
  have HSL : Hid ((f.map Tr.txt).length = n) := by rw [Hid, List.length_map]; exact hl
  clear hl hr
  go_enter Try.func109, Try.ntmps109
  go_wp2_with (at_make; refine wpList_make_full _ rfl (.tmp 7) (.tmp 7) 91 rfl w.heap.size 73 i0 _ 1 Try.underlying91 hi hz0 hz1 .i64 .i64 _ _ n rfl rfl rfl rfl (by rw [hz2]; omega) (by simp only [maxLen]; omega) (Nat.le_refl _) ?_; intro w1 hown hg)
  have F0 := FillT.start (ss := f.map Tr.txt) hown hg
  clear hown hg hz0 hz1 hz2 hi
  go_wp2_with fail
  go_loopw [11] (fun i wr => ∃ k : Nat, k ≤ n ∧ i = .int .i64 k ∧ FillT w n (f.map Tr.txt) k wr) (fun i _ => n - (intOf i).toNat)
  case atStart => exact ⟨0, Nat.zero_le _, rfl, F0⟩
  case round =>
    obtain ⟨k, hk, rfl, HF⟩ := hrel
    by_cases hlt : k < n
    · obtain ⟨r, hr⟩ := at_lt (show k < f.length by rw [HL.out]; exact hlt)
      obtain ⟨b, o, Ak, ck, rfl, hb, hc, hrc, hcm, hrow⟩ := (h.below HF.2 hB) k r hr
      obtain ⟨r1, r8⟩ := lv_bd (HR.out r (List.mem_of_getElem? hr))
      have hsz := HF.2.size
      have hst : (f.map Tr.txt)[k]? = some (Tr.txt r) := by rw [List.getElem?_map, hr]; rfl
      have HST := Lib.hid hst
      have HFF := Lib.hid HF
      clear hr hst F0 HF
      go_wp2_with fail
      refine (treeOf_any Ak r.length ck B r wr rfl r1 r8 hrc (by omega) hrow).mono ?_
      rintro e w2 ⟨rfl, bel2⟩
      have HF2 := HFF.out.below bel2
      have hf := HF2.1.frozenAt k
      have ho := HF2.1.cellAt k (by omega)
      rw [fill_at (by rw [strs_length]; exact HSL.out) hlt] at ho
      have G := Lib.hid (HF2.step HSL.out HST.out)
      obtain ⟨X, hX⟩ : ∃ X : ByteArray, X = ⟨(Tr.txt r).toArray⟩ := ⟨_, rfl⟩
      rw [← hX] at G ⊢
      clear bel2 HF2 hc hrow hX
      go_wp2
      go_roundw
      case rel => exact ⟨k + 1, by omega, by go_num, G.out⟩
      case measure => simp [intOf]; omega
    · obtain rfl : k = n := by omega
      have G : Hid (wr.ownsRow w.heap.size 73 1 (.slice (some ⟨w.heap.size, 0, none⟩) k k) k (strs (f.map Tr.txt)) ∧ Below w.heap.size w wr) := by
        obtain ⟨h1, h2⟩ := HF
        rw [fill_end _ (by rw [strs_length]; exact HSL.out)] at h1
        exact ⟨h1, h2⟩
      clear HF F0
      go_wp2
      go_ret
      exact ⟨rfl, G.out⟩
end Go.Proofs.Ytnnihdkhblbdgaa
/-
  The trees at the places of maps: the program's texts and the model's lists.
-/
namespace Go.Proofs.Ytnnihdkhblbdgaa
open Go.RowKit Fld
set_option linter.unusedVariables false
set_option linter.unusedSimpArgs false
set_option maxRecDepth 100000

def mapTo (k : Nat) : List (List UInt8) := [] :: (treesTo k).map Tr.txt
theorem mapTo_step (k : Nat) : mapTo (k + 1) = mapTo k ++ (Tr.treesL (k + 1)).map Tr.txt := by
  unfold mapTo; rw [treesTo_step, List.map_append, List.cons_append]
theorem mapTo_len (k : Nat) : (mapTo k).length = 1 + (treesTo k).length := by unfold mapTo; rw [List.length_cons, List.length_map]; omega
theorem strs_app9 (a b : List (List UInt8)) : strs a ++ strs b = strs (a ++ b) := by simp [strs]
theorem strs_one9 (l : List (List UInt8)) : ∀ u ∈ strs l, u.oneCell' = true := fun u hu => by
  unfold strs at hu
  rw [List.mem_map] at hu
  obtain ⟨x, _, rfl⟩ := hu
  rfl
set_option maxHeartbeats 2000000 in
theorem mapTrees_any (w : World) : Calls Try.prog 83 #[] w (NewRow 73 38 (strs mapTx) w) := by
  obtain ⟨i0, hi, hz0, hz1, hz2⟩ := info_parts info_tree
  go_enter Try.func83, Try.ntmps83
  go_wp2_with fail
  go_loopw [1, 2] (fun v i wr => ∃ (k q g cap : Nat), k ≤ 6 ∧ v = .slice (some ⟨g, 0, none⟩) q cap ∧ i = .int .i64 ((k : Int) + 1) ∧ Hid (q = (mapTo k).length) ∧ Hid (wr.ownsRow w.heap.size 73 1 (.slice (some ⟨g, 0, none⟩) q cap) q (strs (mapTo k))) ∧ Below w.heap.size w wr ∧ w.heap.size ≤ wr.heap.size) (fun _ i _ => 7 - (intOf i).toNat)
  case atStart => exact ⟨0, 1, w.heap.size, 1, Nat.zero_le _, rfl, rfl, rfl, World.ownsRow_lit (base := w.heap.size) (size := 1) (e := 73) w #[.string ⟨#[]⟩] 1 (Nat.le_refl _) (by simp [maxLen]) rfl, (Below.refl _ _).alloc (Nat.le_refl _) _, by simp⟩
  case round =>
    obtain ⟨k, q, g, cap, hk, rfl, rfl, HQ, HO, HB, hsz⟩ := hrel
    by_cases hlt : k < 6
    · have hq : q ≤ 921 := by
        have h1 := HQ.out
        have h2 := treesTo_len k (by omega)
        rw [mapTo_len] at h1
        omega
      have HBB := Lib.hid HB
      have C1 := treesWith_any (k + 1) wr (by omega) (by omega)
      obtain ⟨ha, h115⟩ := trees_all (n := k + 1) (by omega) (by omega)
      obtain ⟨T, hT⟩ : ∃ T, T = Tr.treesL (k + 1) := ⟨_, rfl⟩
      have HS : Hid (mapTo (k + 1) = mapTo k ++ T.map Tr.txt) := by rw [Hid, hT]; exact mapTo_step k
      rw [← hT] at C1 h115 ha
      have HLV : Hid (∀ r ∈ T, Tr.isLv r = true) := fun r hr => (ha r hr).1
      obtain ⟨N, hN⟩ : ∃ N, N = T.length := ⟨_, rfl⟩
      rw [← hN] at C1 h115
      have HN : Hid (T.length = N) := hN.symm
      have HSL : Hid ((strs (T.map Tr.txt)).length = N * 1) := by rw [Hid, strs_length, List.length_map, Nat.mul_one]; exact hN.symm
      have HQ2 : Hid (q + N = (mapTo (k + 1)).length) := by rw [Hid, HS.out, List.length_append, List.length_map, ← HQ.out, hN]
      clear HB hT hN ha HQ
      go_wp2_with fail
      refine C1.mono ?_
      rintro e w2 ⟨A2, c2, vs2, rfl, own2, bel2⟩
      have hs2 := bel2.size
      have HO2 : Hid (w2.ownsRow w.heap.size 73 1 (.slice (some ⟨g, 0, none⟩) q cap) q (strs (mapTo k))) := ((OwnR.of HO.out).below bel2 (Nat.le_refl _)).1
      have HM2 : Hid (Mat w2 w2.heap.size A2 T) := own2.mat
      have HB2 := Lib.hid (HBB.out.trans (bel2.mono hsz))
      clear own2 bel2 C1 HO
      go_wp2_with fail
      refine (treesOf_any A2 N c2 w2.heap.size T _ HN.out (by omega) HLV.out (Nat.le_refl _) HM2.out).mono ?_
      rintro e w3 ⟨rfl, own3, bel3⟩
      have hs3 := bel3.size
      have hown : w3.ownsRow w.heap.size 73 1 (.slice (some ⟨g, 0, none⟩) q cap) q (strs (mapTo k)) := ((OwnR.of HO2.out).below bel3 (Nat.le_refl _)).1
      have HB3 := Lib.hid (HB2.out.trans (bel3.mono (by omega)))
      have HNEW : Hid (∀ j u, (strs (T.map Tr.txt))[j]? = some u → w3.cell? ((⟨w2.heap.size, 0, none⟩ : Addr).add j) = some u) := row_news (row_of_own own3)
      have HONE := Lib.hid (strs_one9 (T.map Tr.txt))
      obtain ⟨vs, hvs⟩ : ∃ vs, vs = strs (T.map Tr.txt) := ⟨_, rfl⟩
      have HVS := Lib.hid hvs
      rw [← hvs] at HNEW HONE HSL
      clear own3 bel3 HO2 HM2 HB2 hvs
      go_wp2_with (at_builtin; refine wpList_append_own _ rfl (.tmp 8) (.tmp 11) 91 rfl w.heap.size 73 i0 _ 1 16 Try.underlying91 hi hz0 hz1 hz2 rfl (by omega) (.slice (some ⟨g, 0, none⟩) q cap) q (strs (mapTo k)) rfl hown ⟨w2.heap.size, 0, none⟩ N N vs rfl HSL.out HNEW.out HONE.out (by simp only [maxLen]; omega) (by omega) (by omega) ?_; intro v5 w5 own5 hgrow5 _; obtain ⟨g5, c5, rfl⟩ := own_form own5 (by have := HQ2.out; have := mapTo_len (k + 1); omega))
      have e1 : strs (mapTo k) ++ vs = strs (mapTo (k + 1)) := by rw [HVS.out, strs_app9, HS.out]
      rw [e1] at own5
      have GO := Lib.hid own5
      have GB : Hid (Below w.heap.size w w5) := HB3.out.grown hgrow5 (by omega) (fun z hz => (hown.lt z hz).1)
      have hs5 : w.heap.size ≤ w5.heap.size := by have := hgrow5.size; omega
      clear own5 hgrow5 hown e1
      go_wp2
      go_roundw
      case rel => exact ⟨k + 1, q + N, g5, c5, by omega, rfl, by go_num, HQ2, GO, GB.out, hs5⟩
      case measure => simp [intOf]; omega
    · obtain rfl : k = 6 := by omega
      have e : q = 38 := by have := HQ.out; rw [mapTo_len, to_len] at this; exact this
      subst e
      have G : Hid (NewRow 73 38 (strs mapTx) w (.returned (.slice (some ⟨g, 0, none⟩) 38 cap)) wr) := ⟨_, _, rfl, HO.out, HB⟩
      clear HB HQ
      go_wp2
      go_ret
      exact G.out
theorem strs_cell {w : World} {B b : Nat} {l : List (List UInt8)} (h : Row w B (some ⟨b, 0, none⟩) (strs l)) : ∀ k t, l[k]? = some t → w.cell? ⟨b, k, none⟩ = some (.string ⟨t.toArray⟩) := fun k t ht => by
  obtain ⟨b', o', e, _, hc⟩ := h k _ (strs_at ht)
  injection e with e
  injection e with e1 e2 _
  subst e1 e2
  rw [Nat.zero_add] at hc
  exact hc
end Go.Proofs.Ytnnihdkhblbdgaa
/-
  A text is split into those of trees.
-/
namespace Go.Proofs.Ytnnihdkhblbdgaa
open Go.RowKit Fld
set_option linter.unusedVariables false
set_option linter.unusedSimpArgs false
set_option maxRecDepth 100000

theorem extract_S (s : List UInt8) (a b : Nat) : (⟨s.toArray⟩ : ByteArray).extract a b = ⟨((s.drop a).take (b - a)).toArray⟩ := by
  apply ByteArray.ext
  simp [ByteArray.data_extract]
theorem tr_open {cur : List UInt8} {o : Nat} {acc : List (List UInt8)} {s : List UInt8} {p : Nat} (h : s[p]? = some 91) : Tr.trF cur o acc (s.drop p) = Tr.trF (cur ++ [91]) (o + 1) acc (s.drop (p + 1)) := by
  have hlt : p < s.length := by
    rcases Nat.lt_or_ge p s.length with g | g
    · exact g
    · rw [List.getElem?_eq_none g] at h; cases h
  rw [List.getElem?_eq_getElem hlt] at h
  injection h with h
  rw [List.drop_eq_getElem_cons hlt, h, Tr.trF, if_pos rfl]
theorem tr_close {cur : List UInt8} {o : Nat} {acc : List (List UInt8)} {s : List UInt8} {p : Nat} (h : s[p]? = some 93) : Tr.trF cur o acc (s.drop p) = if o = 0 then ([], false) else if o = 1 then Tr.trF [] 0 (acc ++ [cur ++ [93]]) (s.drop (p + 1)) else Tr.trF (cur ++ [93]) (o - 1) acc (s.drop (p + 1)) := by
  have hlt : p < s.length := by
    rcases Nat.lt_or_ge p s.length with g | g
    · exact g
    · rw [List.getElem?_eq_none g] at h; cases h
  rw [List.getElem?_eq_getElem hlt] at h
  injection h with h
  rw [List.drop_eq_getElem_cons hlt, h, Tr.trF, if_neg (by decide), if_pos rfl]
theorem tr_other {cur : List UInt8} {o : Nat} {acc : List (List UInt8)} {s : List UInt8} {p : Nat} {c : UInt8} (h : s[p]? = some c) (h1 : c ≠ 91) (h2 : c ≠ 93) : Tr.trF cur o acc (s.drop p) = ([], false) := by
  have hlt : p < s.length := by
    rcases Nat.lt_or_ge p s.length with g | g
    · exact g
    · rw [List.getElem?_eq_none g] at h; cases h
  rw [List.getElem?_eq_getElem hlt] at h
  injection h with h
  rw [List.drop_eq_getElem_cons hlt, h, Tr.trF, if_neg h1, if_neg h2]
theorem cut_step {s : List UInt8} {a p : Nat} {c : UInt8} (h : s[p]? = some c) (ha : a ≤ p) : (s.drop a).take (p + 1 - a) = (s.drop a).take (p - a) ++ [c] := by
  rw [show p + 1 - a = p - a + 1 from by omega, List.take_add_one, List.getElem?_drop, show a + (p - a) = p from by omega, h]; rfl
/-- the texts of trees, and whether there are no others -/
def ResT (r : List (List UInt8) × Bool) (w : World) (e : Ending) (w' : World) : Prop :=
  ∃ A q c, e = .returned (.tuple #[.slice A q c, .bool r.2]) ∧ w'.ownsRow w.heap.size 73 1 (.slice A q c) q (strs r.1) ∧ Below w.heap.size w w'
theorem ResT.none {r : List (List UInt8) × Bool} {w w' : World} (h : r = ([], false)) (hb : Below w.heap.size w w') : ResT r w (.returned (.tuple #[.slice none 0 0, .bool false])) w' := by
  subst h; exact ⟨_, _, _, rfl, World.ownsRow_nil .., hb⟩
set_option maxHeartbeats 2000000 in
theorem treesIn_any (s : List UInt8) (w : World) (hn : s.length ≤ 1048576) :
    Calls Try.prog 128 #[.string ⟨s.toArray⟩] w (ResT (Tr.trF [] 0 [] s) w) := by
  obtain ⟨i0, hi, hz0, hz1, hz2⟩ := info_parts info_tree
  have HN := Lib.hid hn
  obtain ⟨S, hS⟩ : ∃ S : ByteArray, S = ⟨s.toArray⟩ := ⟨_, rfl⟩
  have HSZ : Hid (S.size = s.length) := by rw [Hid, hS]; exact size_S s
  have HS := Lib.hid hS
  rw [← hS]
  have hs20 : S.size ≤ 1048576 := by rw [HSZ.out]; exact hn
  clear hS hn
  go_enter Try.func128, Try.ntmps128
  go_wp2_with fail
  go_loopw [4, 5, 6] (fun v a o wr => ∃ (p st op q cv : Nat) (Av : Option Addr) (acc : List (List UInt8)), p ≤ S.size ∧ st ≤ p ∧ op ≤ p ∧ q ≤ p ∧ v = .slice Av q cv ∧ a = .int .i64 st ∧ o = .int .i64 op ∧ wr.heap[w.heap.size]? = some (.stringIter S p) ∧ Hid (Tr.trF [] 0 [] s = Tr.trF ((s.drop st).take (p - st)) op acc (s.drop p)) ∧ Hid (wr.ownsRow w.heap.size 73 1 (.slice Av q cv) q (strs acc)) ∧ Below w.heap.size w wr) (fun _ _ _ wr => S.size - wr.iterPos w.heap.size)
  case atStart => exact ⟨0, 0, 0, 0, 0, none, [], Nat.zero_le _, Nat.le_refl _, Nat.le_refl _, Nat.le_refl _, rfl, rfl, rfl, World.iter_heap w S 0, by simp [Hid], World.ownsRow_nil .., (Below.refl _ _).alloc (Nat.le_refl _) _⟩
  case round =>
    obtain ⟨p, st, op, q, cv, Av, acc, hp, hst, hop, hq, rfl, rfl, rfl, hit, HE, HO, HBw⟩ := hrel
    have hlt := (Array.getElem?_eq_some_iff.1 hit).1
    by_cases hps : p < S.size
    · obtain ⟨c, hc⟩ := at_lt (show p < s.length by rw [← HSZ.out]; exact hps)
      have hbyte : S[p]'hps = c := by
        have hS := HS.out
        subst hS
        exact byte_at hc hps
      have HIT := Lib.hid hit
      by_cases hasc : c.toNat < 128
      · have hnx : ∀ ty, (Instr.next (.pointer (some ⟨w.heap.size, 0, none⟩)) true ty).run Try.prog wr = _ := fun ty => Lib.run_next_ascii_at wr w.heap.size S p ty hit hps (by rw [hbyte]; exact hasc)
        rw [hbyte] at hnx
        have hit2 := Lib.iterAt_heap wr w.heap.size S p (p + 1) hit
        have HO2 := Lib.hid (own_iterAt (p' := p + 1) HO.out hit)
        have HB2 := Lib.hid (Lib.below_iterAt HBw (k := w.heap.size) (Nat.le_refl _) S (p + 1))
        have hsz2 : (wr.iterAt w.heap.size S (p + 1)).heap.size = wr.heap.size := Lib.iterAt_size ..
        have hW1 : w.heap.size < (wr.iterAt w.heap.size S (p + 1)).heap.size := by rw [hsz2]; exact hlt
        by_cases h91 : c = 91
        · subst h91
          have e91 : ((91 : UInt8).toNat : Int) = 91 := rfl
          rw [e91] at hnx
          have HE2 : Hid (Tr.trF [] 0 [] s = Tr.trF ((s.drop st).take (p + 1 - st)) (op + 1) acc (s.drop (p + 1))) := by rw [Hid, HE.out, tr_open hc, cut_step hc hst]
          generalize hW : wr.iterAt w.heap.size S (p + 1) = W at *
          have HH2 := Lib.hid hit2
          have t0 : ((op : Int) + 1 == 0) = false := beq_f (by omega)
          clear hc hbyte hasc HE HBw HO hit hW hit2 hsz2
          go_wp2
          go_roundw
          case rel => exact ⟨p + 1, st, op + 1, q, cv, Av, acc, by omega, by omega, by omega, by omega, rfl, rfl, by go_num, HH2.out, HE2, HO2, HB2.out⟩
          case measure =>
            simp only [World.iterPos, HH2.out, HIT.out]
            omega
        · by_cases h93 : c = 93
          · subst h93
            have e93 : ((93 : UInt8).toNat : Int) = 93 := rfl
            rw [e93] at hnx
            have HTC := Lib.hid (HE.out.trans (tr_close hc))
            have HCUT : Hid ((s.drop st).take (p + 1 - st) = (s.drop st).take (p - st) ++ [93]) := cut_step hc hst
            generalize hW : wr.iterAt w.heap.size S (p + 1) = W at *
            have HH2 := Lib.hid hit2
            clear hc hbyte hasc HE HBw HO hit hW hit2 hsz2
            rcases (show op = 0 ∨ op = 1 ∨ 2 ≤ op by omega) with rfl | rfl | h2
            · have G : Hid (Tr.trF [] 0 [] s = ([], false)) := by rw [Hid, HTC.out, if_pos rfl]
              clear HTC
              go_wp2
              go_ret2
              exact ResT.none G.out HB2.out
            · have HE2 : Hid (Tr.trF [] 0 [] s = Tr.trF ((s.drop (p + 1)).take (p + 1 - (p + 1))) 0 (acc ++ [(s.drop st).take (p + 1 - st)]) (s.drop (p + 1))) := by
                rw [Hid, HTC.out, if_neg (by decide), if_pos rfl, Nat.sub_self, List.take_zero, HCUT.out]
              have HX : Hid (S.extract st (p + 1) = ⟨((s.drop st).take (p + 1 - st)).toArray⟩) := by rw [Hid, HS.out]; exact extract_S s st (p + 1)
              obtain ⟨X, hX⟩ : ∃ X, X = S.extract st (p + 1) := ⟨_, rfl⟩
              have HXX : Hid (S.extract st (p + 1) = X) := hX.symm
              have hown2 := HO2.out
              have hp1 : p + 1 ≤ S.size := hps
              clear HTC
              have hsl : ∀ W, (Instr.slice 9 (.string S) (some (.int .i64 (st : Int))) (some (.int .i64 ((p : Int) + 1))) none).run Try.prog W = .ok (.string X) W := fun W => by
                rw [run_slice_string W 9 S .i64 .i64 st ((p : Int) + 1) Try.underlying9 (by omega) (by omega) (by omega)]
                rw [← HXX.out]
                congr 3
              clear hX
              go_wp2_with (at_builtin; (refine wpList_append_lies _ rfl (.tmp 28) (.tmp 34) 91 rfl w.heap.size 73 i0 _ 1 16 Try.underlying91 hi hz0 hz1 hz2 rfl (by omega) (.slice Av q cv) q (strs acc) rfl (hown2.alloc _) ⟨W.heap.size, 0, none⟩ 1 1 [.string X] rfl rfl (World.news_of_block (cs := #[.string X]) (heap_alloc_new _ _)) (by simp [Value.oneCell']) (by omega) (by simp only [maxLen]; omega) (by omega) (by simp; omega) (W.heap.size + 1) (by simp) ?_); intro g2 cap2 w3 hown3 hgrow3 hat3 hlt3)
              have e1 : strs acc ++ [Value.string X] = strs (acc ++ [(s.drop st).take (p + 1 - st)]) := by rw [← HXX.out, HX.out]; simp [strs]
              rw [e1] at hown3
              have GI : Hid (w3.heap[w.heap.size]? = some (.stringIter S (p + 1))) := by
                rw [Hid, hgrow3.block _ (by simp; omega) (own_ne_iter HO2.out HH2.out), Lib.alloc_old _ _ _ hW1]
                exact HH2.out
              have G3 := Lib.hid hown3
              have GB3 : Hid (Below w.heap.size w w3) := (HB2.out.alloc (by omega) _).grown hgrow3 (by simp; omega) (fun z hz => (HO2.out.lt z hz).1)
              clear hown3 hgrow3 hat3 hown2 e1 hsl
              go_wp2
              go_roundw
              case rel => exact ⟨p + 1, p + 1, 0, q + 1, cap2, _, _, by omega, by omega, by omega, by omega, rfl, by go_num, rfl, GI.out, HE2, G3, GB3.out⟩
              case measure =>
                simp only [World.iterPos, GI.out, HIT.out]
                omega
            · have HE2 : Hid (Tr.trF [] 0 [] s = Tr.trF ((s.drop st).take (p + 1 - st)) (op - 1) acc (s.drop (p + 1))) := by
                rw [Hid, HTC.out, if_neg (by omega), if_neg (by omega), HCUT.out]
              have t0 : ((op : Int) - 1 == 0) = false := beq_f (by omega)
              clear HTC
              go_wp2
              go_roundw
              case rel => exact ⟨p + 1, st, op - 1, q, cv, Av, acc, by omega, by omega, by omega, by omega, rfl, rfl, by go_num, HH2.out, HE2, HO2, HB2.out⟩
              case measure =>
                simp only [World.iterPos, HH2.out, HIT.out]
                omega
          · have G : Hid (Tr.trF [] 0 [] s = ([], false)) := by rw [Hid, HE.out]; exact tr_other hc h91 h93
            have t1 : ((c.toNat : Int) == 91) = false := beq_f (fun e => h91 (UInt8.toNat_inj.1 (by simp; omega)))
            have t2 : ((c.toNat : Int) == 93) = false := beq_f (fun e => h93 (UInt8.toNat_inj.1 (by simp; omega)))
            generalize hW : wr.iterAt w.heap.size S (p + 1) = W at *
            clear hc hbyte hasc HE HBw HO hit hW hit2 hsz2 h91 h93
            go_wp2
            go_ret2
            exact ResT.none G.out HB2.out
      · have hd := decode_high S p hps (by rw [hbyte]; omega)
        have hnx : ∀ ty, (Instr.next (.pointer (some ⟨w.heap.size, 0, none⟩)) true ty).run Try.prog wr = _ := fun ty => Lib.run_next_any_at wr w.heap.size S p ty hit hps
        have h91 : c ≠ 91 := fun e => by subst e; exact hasc (by decide)
        have h93 : c ≠ 93 := fun e => by subst e; exact hasc (by decide)
        have G : Hid (Tr.trF [] 0 [] s = ([], false)) := by rw [Hid, HE.out]; exact tr_other hc h91 h93
        have HB2 := Lib.hid (Lib.below_iterAt HBw (k := w.heap.size) (Nat.le_refl _) S (p + (Utf8.decode S p).2))
        generalize hW : wr.iterAt w.heap.size S (p + (Utf8.decode S p).2) = W at *
        obtain ⟨rn, hrn⟩ : ∃ rn, rn = (Utf8.decode S p).1 := ⟨_, rfl⟩
        rw [← hrn] at hnx hd
        have t1 : ((rn : Int) == 91) = false := beq_f (by have := hd.1; omega)
        have t2 : ((rn : Int) == 93) = false := beq_f (by have := hd.1; omega)
        clear hc hbyte hasc HE HBw HO hit hW h91 h93 hrn hd
        go_wp2
        go_ret2
        exact ResT.none G.out HB2.out
    · have hnx : ∀ ty, (Instr.next (.pointer (some ⟨w.heap.size, 0, none⟩)) true ty).run Try.prog wr = _ := fun ty => Lib.run_next_end_at wr w.heap.size S p ty hit hps
      have e : Tr.trF [] 0 [] s = (acc, op == 0) := by
        have hl : s.length ≤ p := by have := HSZ.out; unfold Hid at this; omega
        have := HE.out
        rw [List.drop_of_length_le hl] at this
        rw [this]
        simp [Tr.trF]
      have G : Hid (ResT (Tr.trF [] 0 [] s) w (.returned (.tuple #[.slice Av q cv, .bool (op == 0)])) wr) := by
        rw [Hid, e]; exact ⟨Av, q, cv, rfl, HO.out, HBw⟩
      by_cases h0 : op = 0
      · subst h0
        clear HBw HE e hit
        go_wp2
        go_ret2
        exact G.out
      · have t0 : ((op : Int) == 0) = false := beq_f (by omega)
        have t1 : (op == 0) = false := by simp [h0]
        rw [t1] at G
        clear HBw HE e hit h0 t1
        go_wp2
        go_ret2
        exact G.out
end Go.Proofs.Ytnnihdkhblbdgaa
/-
  The branches of a tree by its text.
-/
namespace Go.Proofs.Ytnnihdkhblbdgaa
open Go.RowKit Fld
set_option linter.unusedVariables false
set_option linter.unusedSimpArgs false
set_option maxRecDepth 100000

/-- texts of the call's own -/
def ResTs (l : List (List UInt8)) (w : World) (e : Ending) (w' : World) : Prop :=
  ∃ A q c, e = .returned (.slice A q c) ∧ q = l.length ∧ w'.ownsRow w.heap.size 73 1 (.slice A q c) q (strs l) ∧ Below w.heap.size w w'
theorem branches_any (x : List UInt8) (w : World) (hx : Tr.isTx x = true) :
    Calls Try.prog 110 #[.string ⟨x.toArray⟩] w (ResTs (Tr.brT x) w) := by
  obtain ⟨⟨h2, h16⟩, _, _⟩ := Tr.br_parts hx
  obtain ⟨S, hS⟩ : ∃ S : ByteArray, S = ⟨x.toArray⟩ := ⟨_, rfl⟩
  have hsz : S.size = x.length := by rw [hS]; exact size_S x
  have HX : Hid (S.extract 1 (x.length - 1) = ⟨(Tr.inner x).toArray⟩) := by
    rw [Hid, hS, extract_S]; unfold Tr.inner; rw [show x.length - 1 - 1 = x.length - 2 from by omega]
  obtain ⟨X, hX⟩ : ∃ X, X = S.extract 1 (x.length - 1) := ⟨_, rfl⟩
  have hXX : X = ⟨(Tr.inner x).toArray⟩ := by rw [hX]; exact HX.out
  have HXX : Hid (S.extract 1 (x.length - 1) = X) := hX.symm
  have hil : (Tr.inner x).length ≤ 1048576 := by unfold Tr.inner; rw [List.length_take]; omega
  have C0 := treesIn_any (Tr.inner x) w hil
  rw [← hXX] at C0
  have hsl : ∀ W, (Instr.slice 73 (.string S) (some (.int .i64 1)) (some (.int .i64 ((S.size : Int) - 1))) none).run Try.prog W = .ok (.string X) W := fun W => by
    have h9 := run_slice_string W 73 S .i64 .i64 1 ((S.size : Int) - 1) Try.underlying73 (by omega) (by omega) (by omega)
    rw [show (S.size : Int) - 1 = ((x.length - 1 : Nat) : Int) from by omega] at h9 ⊢
    rw [h9, ← HXX.out]
    congr 3
  rw [← hS]
  have hs2 : 2 ≤ S.size := by omega
  have hs16 : S.size ≤ 16 := by omega
  clear hX hXX hS hsz h2 h16 hil hx
  go_enter Try.func110, Try.ntmps110
  go_wp2_with fail
  refine C0.mono ?_
  rintro e w1 ⟨A, q, c, rfl, own1, bel1⟩
  have G : Hid (ResTs (Tr.brT x) w (.returned (.slice A q c)) w1) := by
    refine ⟨A, q, c, rfl, ?_, own1, bel1⟩
    have := own_len own1
    rw [strs_length] at this
    exact this.symm
  clear own1 bel1
  go_wp2
  go_ret
  exact G.out
end Go.Proofs.Ytnnihdkhblbdgaa
/-
  A text is taken out of a row of the call's own.
-/
namespace Go.Proofs.Ytnnihdkhblbdgaa
open Go.RowKit Fld
set_option linter.unusedVariables false
set_option linter.unusedSimpArgs false
set_option maxRecDepth 100000

theorem own_prefix {w : World} {base g n k cap : Nat} {T : TypeId} {xs : List Value} (h : w.ownsRow base T 1 (.slice (some ⟨g, 0, none⟩) n cap) n xs) (hk : k ≤ n) : w.ownsRow base T 1 (.slice (some ⟨g, 0, none⟩) k cap) k (xs.take k) := by
  obtain ⟨hl, h⟩ := h
  refine ⟨by rw [List.length_take, hl]; omega, ?_⟩
  rcases h with ⟨e, _⟩ | ⟨g', cap', cur, e, hb, hh, h1, h2, h3, h4⟩
  · cases e
  · cases e
    refine .inr ⟨g, cap, cur, rfl, hb, hh, by omega, h2, h3, ?_⟩
    rw [← h4, List.take_take]
    congr 1; omega
def putL : List Value → Nat → List Value → List Value
  | xs, _, [] => xs
  | xs, o, v :: r => putL (xs.set o v) (o + 1) r
theorem own_sets {base g n cap : Nat} {T : TypeId} : ∀ (vs : List Value) (o : Nat) (w : World) (xs : List Value), w.ownsRow base T 1 (.slice (some ⟨g, 0, none⟩) n cap) n xs → (w.setCells g o vs).ownsRow base T 1 (.slice (some ⟨g, 0, none⟩) n cap) n (putL xs o vs)
  | [], _, _, _, h => h
  | v :: r, o, w, xs, h => own_sets r (o + 1) _ _ (h.stored o v).1
theorem below_sets {B g : Nat} (hg : B ≤ g) {a : World} : ∀ (vs : List Value) (o : Nat) (w : World), Below B a w → Below B a (w.setCells g o vs)
  | [], _, _, h => h
  | v :: r, o, w, h => below_sets hg r (o + 1) _ (below_set h hg v)
theorem putL_eq : ∀ (vs : List Value) (xs : List Value) (o : Nat), o + vs.length ≤ xs.length → putL xs o vs = xs.take o ++ vs ++ xs.drop (o + vs.length)
  | [], xs, o, _ => by simp [putL]
  | v :: r, xs, o, h => by
    rw [List.length_cons] at h
    rw [putL, putL_eq r _ _ (by rw [List.length_set]; omega)]
    apply List.ext_getElem?
    intro k
    rw [List.length_cons]
    simp only [List.getElem?_append, List.length_append, List.length_take, List.length_set, List.getElem?_take, List.getElem?_drop, List.getElem?_set, List.length_cons]
    rw [Nat.min_eq_left (by omega), Nat.min_eq_left (by omega)]
    rcases Nat.lt_trichotomy k o with g | g | g
    · rw [if_pos (show k < o + 1 + r.length by omega), if_pos (show k < o + 1 by omega), if_pos (show k < o + 1 by omega), if_neg (by omega), if_pos (show k < o + (r.length + 1) by omega), if_pos g, if_pos g]
    · subst g
      rw [if_pos (show k < k + 1 + r.length by omega), if_pos (show k < k + 1 by omega), if_pos (show k < k + 1 by omega), if_pos rfl, if_pos (show k < xs.length by omega), if_pos (show k < k + (r.length + 1) by omega), if_neg (by omega), Nat.sub_self]; rfl
    · by_cases g2 : k < o + 1 + r.length
      · rw [if_pos g2, if_neg (by omega), if_pos (show k < o + (r.length + 1) by omega), if_neg (by omega), show k - o = (k - (o + 1)) + 1 from by omega, List.getElem?_cons_succ]
      · rw [if_neg g2, if_neg (show ¬ k < o + (r.length + 1) by omega), if_neg (by omega), show o + 1 + r.length + (k - (o + 1 + r.length)) = o + (r.length + 1) + (k - (o + (r.length + 1))) from by omega]
/-- what is left when one is taken out -/
theorem del_list (ss : List (List UInt8)) {i n : Nat} (hl : ss.length = n) (hi : i < n) (e : Value) : (putL (putL (strs ss) i (strs (ss.drop (i + 1)))) (n - 1) [e]).take (n - 1) = strs (ss.eraseIdx i) := by
  have h0 : (strs ss).length = n := by rw [strs_length, hl]
  have h1 : (strs (ss.drop (i + 1))).length = n - (i + 1) := by rw [strs_length, List.length_drop, hl]
  have e1 := putL_eq (strs (ss.drop (i + 1))) (strs ss) i (by omega)
  have h2 : (putL (strs ss) i (strs (ss.drop (i + 1)))).length = n := by
    rw [e1]; simp only [List.length_append, List.length_take, List.length_drop]; omega
  rw [putL_eq _ _ _ (by rw [h2]; simp; omega)]
  rw [List.append_assoc, List.take_append_of_le_length (by rw [List.length_take, h2]; omega), List.take_take, Nat.min_self, e1]
  rw [List.take_append_of_le_length (by simp only [List.length_append, List.length_take]; omega), List.take_of_length_le (by simp only [List.length_append, List.length_take]; omega)]
  rw [List.eraseIdx_eq_take_drop_succ]
  unfold strs
  rw [List.map_append, List.map_take]
set_option maxHeartbeats 4000000 in
theorem delete_raw (g off i j n c : Nat) (news : List Value) (A : Addr) (w W1 : World) (hij : i < j) (hjn : j ≤ n) (hnc : n ≤ c) (hc : c ≤ 9223372036854775807)
    (hA : (if c = j then (some ⟨g, off, none⟩ : Option Addr) else some ⟨g, off + j, none⟩) = some A) (hsrc : Hid (∀ t u, news[t]? = some u → w.drew.cell? (A.add t) = some u))
    (s1 : Hid (news.length = (n - j) * 1)) (s2 : Hid (∀ u ∈ news, u.oneCell' = true)) (s3 : Hid (∀ t, t < news.length → (w.drew.cell? ⟨g, off + i * 1 + t, none⟩).isSome = true ∧ w.drew.frozen? ⟨g, off + i * 1 + t, none⟩ = false))
    (hW : Hid (W1 = w.drew.setCells g (off + i * 1) news))
    (hcl : ∀ ty, (Builtin.clear_ #[91] ty #[.slice (some ⟨g, off + (i + (n - j)), none⟩) (n - (i + (n - j))) (c - (i + (n - j)))]).run Try.prog W1 = .ok (.tuple #[]) (W1.setCells g (off + (i + (n - j))) (List.replicate (n - (i + (n - j))) (.string ⟨#[]⟩)))) :
    Calls Try.prog 152 #[.slice (some ⟨g, off, none⟩) n c, .int .i64 i, .int .i64 j] w fun e w' => e = .returned (.slice (some ⟨g, off, none⟩) (i + (n - j)) c) ∧ w' = W1.setCells g (off + (i + (n - j))) (List.replicate (n - (i + (n - j))) (.string ⟨#[]⟩)) := by
  obtain ⟨i0, hi0, hz0, hz1, hz2⟩ := info_parts info_tree
  have hic : i ≤ c := by omega
  have hjc : j ≤ c := by omega
  have mixed : Try.prog.follows Departure.mixedOrders = true := by kernel_rfl
  go_enter Try.func152, Try.ntmps152
  go_wp2_with fail
  go_region_law_o (refine step_append_room rfl (.tmp 22) (.tmp 25) 91 rfl 73 i0 1 Try.underlying91 hi0 hz1 g off i c (by simp [Act.eval, Act.put]) A (n - j) (c - j) news (by simp [Act.eval, Act.put]) s1.out hsrc.out s2.out (by omega) s3.out ?_; rw [← hW.out])
  go_wp2
  go_ret
  exact ⟨rfl, rfl⟩
set_option maxHeartbeats 2000000 in
theorem delete_any (base g i j n c : Nat) (ss : List (List UInt8)) (w : World) (hl : ss.length = n) (hi : i < n) (hj : j = i + 1) (hn : n ≤ 12) (hbase : base ≤ w.heap.size) (h : w.ownsRow base 73 1 (.slice (some ⟨g, 0, none⟩) n c) n (strs ss)) :
    Calls Try.prog 152 #[.slice (some ⟨g, 0, none⟩) n c, .int .i64 i, .int .i64 j] w fun e w' => e = .returned (.slice (some ⟨g, 0, none⟩) (n - 1) c) ∧ w'.ownsRow base 73 1 (.slice (some ⟨g, 0, none⟩) (n - 1) c) (n - 1) (strs (ss.eraseIdx i)) ∧ Below base w w' ∧ base ≤ w'.heap.size := by
  have hcap := own_cap h
  have HB : Hid (base ≤ g) := (h.lt g rfl).1
  have HL := Lib.hid hl
  have hlen : (strs (ss.drop j)).length = n - j := by rw [strs_length, List.length_drop, hl]
  have s1 : Hid ((strs (ss.drop j)).length = (n - j) * 1) := by rw [Hid, Nat.mul_one]; exact hlen
  have s2 : Hid (∀ u ∈ strs (ss.drop j), u.oneCell' = true) := fun u hu => by
    unfold strs at hu
    rw [List.mem_map] at hu
    obtain ⟨x, _, rfl⟩ := hu
    rfl
  have hcell : ∀ k, k < n → ∃ u, w.cell? ⟨g, k, none⟩ = some u ∧ (strs ss)[k]? = some u := fun k hk => by
    obtain ⟨x, hx⟩ := at_lt (show k < ss.length by omega)
    have := h.cellAt k (by omega)
    rw [strs_at hx] at this
    exact ⟨_, this, strs_at hx⟩
  have s3 : Hid (∀ t, t < (strs (ss.drop j)).length → (w.drew.cell? ⟨g, 0 + i * 1 + t, none⟩).isSome = true ∧ w.drew.frozen? ⟨g, 0 + i * 1 + t, none⟩ = false) := fun t ht => by
    rw [hlen] at ht
    rw [Nat.mul_one, Nat.zero_add]
    obtain ⟨u, hu, _⟩ := hcell (i + t) (by omega)
    exact ⟨by show (w.cell? _).isSome = true; rw [hu]; rfl, h.frozenAt (i + t)⟩
  obtain ⟨A, hA, hsrc⟩ : ∃ A : Addr, (if c = j then some (⟨g, 0, none⟩ : Addr) else some ⟨g, j, none⟩) = some A ∧ Hid (∀ t u, (strs (ss.drop j))[t]? = some u → w.drew.cell? (A.add t) = some u) := by
    by_cases hc : c = j
    · refine ⟨⟨g, 0, none⟩, by simp [hc], fun t u hu => ?_⟩
      have h0 : (strs (ss.drop j)).length = 0 := by rw [hlen]; omega
      rw [List.length_eq_zero_iff.1 h0] at hu
      simp at hu
    · refine ⟨⟨g, j, none⟩, by simp [hc], fun t u hu => ?_⟩
      have ht : t < n - j := by
        have := (List.getElem?_eq_some_iff.1 hu).1
        rwa [hlen] at this
      obtain ⟨v, hv, hv2⟩ := hcell (j + t) (by omega)
      rw [show (⟨g, j, none⟩ : Addr).add t = ⟨g, j + t, none⟩ from by unfold Addr.add; split <;> simp_all]
      unfold strs at hu hv2
      rw [List.map_drop, List.getElem?_drop, hv2] at hu
      injection hu with hu
      rw [← hu]; exact hv
  obtain ⟨W1, hW1⟩ : ∃ W1, W1 = w.drew.setCells g (0 + i * 1) (strs (ss.drop j)) := ⟨_, rfl⟩
  have HW := Lib.hid hW1
  have hO1 : W1.ownsRow base 73 1 (.slice (some ⟨g, 0, none⟩) n c) n (putL (strs ss) i (strs (ss.drop j))) := by
    rw [hW1, Nat.mul_one, Nat.zero_add]
    exact own_sets _ _ _ _ (by exact (OwnR.of h).drewN 1 |>.1)
  have HO1 := Lib.hid hO1
  have HB1 : Hid (Below base w W1) := by rw [Hid, hW1]; exact below_sets HB.out _ _ _ (below_drewN (Below.refl _ _) 1)
  have hcell1 : ∀ k, k < n → (W1.cell? ⟨g, k, none⟩).isSome = true ∧ W1.frozen? ⟨g, k, none⟩ = false := fun k hk => by
    have h9 := hO1.cellAt k (by omega)
    have h8 : k < (putL (strs ss) i (strs (ss.drop j))).length := by rw [own_len hO1]; exact hk
    rw [List.getElem?_eq_getElem h8] at h9
    exact ⟨by rw [h9]; rfl, hO1.frozenAt k⟩
  have e1 : i + (n - j) = n - 1 := by omega
  have e2 : n - (n - 1) = 1 := by omega
  have hcl : ∀ ty, (Builtin.clear_ #[91] ty #[.slice (some ⟨g, 0 + (i + (n - j)), none⟩) (n - (i + (n - j))) (c - (i + (n - j)))]).run Try.prog W1 = .ok (.tuple #[]) (W1.setCells g (0 + (i + (n - j))) (List.replicate (n - (i + (n - j))) (.string ⟨#[]⟩))) := fun ty =>
    Lib.run_clear_slice W1 _ _ ty (.string ⟨#[]⟩) Try.underlying91 (fun w => by rfl) rfl rfl g (0 + (i + (n - j))) _ _ (by omega) (fun t ht => by rw [Nat.zero_add, e1]; exact (hcell1 (n - 1 + t) (by omega)).1) (fun t ht => by rw [Nat.zero_add, e1]; exact (hcell1 (n - 1 + t) (by omega)).2)
  have G : Hid ((W1.setCells g (n - 1) [.string ⟨#[]⟩]).ownsRow base 73 1 (.slice (some ⟨g, 0, none⟩) (n - 1) c) (n - 1) (strs (ss.eraseIdx i)) ∧ Below base w (W1.setCells g (n - 1) [.string ⟨#[]⟩]) ∧ base ≤ (W1.setCells g (n - 1) [.string ⟨#[]⟩]).heap.size) := by
    have h7 := own_prefix (own_sets [.string ⟨#[]⟩] (n - 1) W1 _ HO1.out) (show n - 1 ≤ n by omega)
    subst hj
    rw [del_list ss HL.out hi] at h7
    have h6 := below_sets HB.out [.string ⟨#[]⟩] (n - 1) W1 HB1.out
    exact ⟨h7, h6, Nat.le_trans hbase h6.size⟩
  have C0 := delete_raw g 0 i j n c _ A w W1 (by omega) (by omega) hcap.1 hcap.2 (by rw [Nat.zero_add]; exact hA) hsrc s1 s2 s3 HW hcl
  refine C0.mono ?_
  rintro e w' ⟨rfl, rfl⟩
  rw [Nat.zero_add, e1, e2]
  exact ⟨rfl, G.out⟩
end Go.Proofs.Ytnnihdkhblbdgaa
/-
  The branch with a node, and the others.
-/
namespace Go.Proofs.Ytnnihdkhblbdgaa
open Go.RowKit Fld
set_option linter.unusedVariables false
set_option linter.unusedSimpArgs false
set_option maxRecDepth 100000

theorem tx_brk' {x : List UInt8} (h : Tr.isTx x = true) : Brk x := by
  unfold Tr.isTx at h
  simp only [Bool.and_eq_true, beq_iff_eq] at h
  rw [← h.2]; exact txt_brk _ _
theorem tx_even {x : List UInt8} (h : Tr.isTx x = true) : x.length = 2 * (x.length / 2) := by
  unfold Tr.isTx at h
  simp only [Bool.and_eq_true, beq_iff_eq] at h
  have := (lv_txt h.1).2.2.2
  rw [h.2] at this
  omega
theorem pick_drop {bs : List (List UInt8)} {k p : Nat} {b : List UInt8} (h : bs[k]? = some b) : Tr.pick (bs.drop k) p = if p < b.length / 2 then (0, p) else ((Tr.pick (bs.drop (k + 1)) (p - b.length / 2)).1 + 1, (Tr.pick (bs.drop (k + 1)) (p - b.length / 2)).2) := by
  have hlt : k < bs.length := by
    rcases Nat.lt_or_ge k bs.length with g | g
    · exact g
    · rw [List.getElem?_eq_none g] at h; cases h
  rw [List.getElem?_eq_getElem hlt] at h
  injection h with h
  rw [List.drop_eq_getElem_cons hlt, h, Tr.pick]
set_option maxHeartbeats 2000000 in
theorem branchWith_any (x : List UInt8) (n : Nat) (w : World) (hx : Tr.isTx x = true) (hn : n + 1 < x.length / 2) :
    Calls Try.prog 137 #[.string ⟨x.toArray⟩, .int .i64 ((n + 1 : Nat) : Int)] w fun e w' => ∃ g c q, e = .returned (.tuple #[.string ⟨(Tr.bAt x n).toArray⟩, .int .i64 ((Tr.pAt x n : Nat) : Int), .slice (some ⟨g, 0, none⟩) q c]) ∧ q = (Tr.oAt x n).length ∧ w'.ownsRow w.heap.size 73 1 (.slice (some ⟨g, 0, none⟩) q c) q (strs (Tr.oAt x n)) ∧ Below w.heap.size w w' := by
  have hx16 := (Tr.br_parts hx).1.2
  have hb7 := (Tr.br_parts hx).2.2
  have hbb := (Tr.br_parts hx).2.1
  have HPK := Lib.hid (Tr.pick_parts hx hn).1
  have C0 := branches_any x w hx
  obtain ⟨bs, hbs⟩ : ∃ bs, bs = Tr.brT x := ⟨_, rfl⟩
  have HBA : Hid (Tr.bAt x n = bs.getD (Tr.pick bs n).1 []) := by rw [Hid, hbs]; rfl
  have HPA : Hid (Tr.pAt x n = (Tr.pick bs n).2) := by rw [Hid, hbs]; rfl
  have HOA : Hid (Tr.oAt x n = bs.eraseIdx (Tr.pick bs n).1) := by rw [Hid, hbs]; rfl
  rw [← hbs] at hb7 hbb HPK C0
  have HBB : Hid (∀ b ∈ bs, b.length ≤ 16) := fun b hb => by have := (hbb b hb).2; omega
  have hnr : n ≤ 8 := by omega
  have hn1 : ((n + 1 : Nat) : Int) - 1 = (n : Int) := by omega
  clear hbs hbb hx hn
  go_enter Try.func137, Try.ntmps137
  go_wp2_with fail
  refine C0.mono ?_
  rintro e w1 ⟨A1, q1, c1, rfl, hq1, own1, bel1⟩
  have HO1 := Lib.hid own1
  have HB1 := Lib.hid bel1
  have hq0 : 0 < q1 := by have := HPK.out; omega
  obtain ⟨g, cap, hv⟩ := own_form own1 hq0
  injection hv with hA _ hcap
  subst hA hcap
  have HQ := Lib.hid hq1
  have hq7 : q1 ≤ 7 := by omega
  clear own1 bel1 hq1 C0
  go_wp2_with fail
  go_loopw [8, 9] (fun pl i wr => ∃ (k p : Nat), k < q1 ∧ p ≤ n ∧ pl = .int .i64 p ∧ i = .int .i64 k ∧ wr = w1 ∧ Hid (Tr.pick bs n = (k + (Tr.pick (bs.drop k) p).1, (Tr.pick (bs.drop k) p).2))) (fun _ i _ => q1 - (intOf i).toNat)
  case atStart => exact ⟨0, n, hq0, Nat.le_refl _, by go_num, rfl, rfl, by rw [Hid, List.drop_zero]; simp⟩
  case round =>
    obtain ⟨k, p, hk, hp, rfl, rfl, rfl, HK⟩ := hrel
    obtain ⟨b, hb⟩ := at_lt (show k < bs.length by have := HQ.out; omega)
    have hb16 := HBB.out b (List.mem_of_getElem? hb)
    have hcell := HO1.out.cellAt k (by omega)
    rw [strs_at hb] at hcell
    have HPD := Lib.hid (pick_drop (p := p) hb)
    have C1 := fun w => nodes_any b w (by omega)
    obtain ⟨nb, hnb⟩ : ∃ nb, nb = b.length / 2 := ⟨_, rfl⟩
    rw [← hnb] at HPD
    simp only [← hnb] at C1
    have hnb8 : nb ≤ 8 := by omega
    have HBK := Lib.hid hb
    obtain ⟨X, hX⟩ : ∃ X : ByteArray, X = ⟨b.toArray⟩ := ⟨_, rfl⟩
    have HX := Lib.hid hX
    rw [← hX] at hcell
    simp only [← hX] at C1
    clear hb hnb hX
    by_cases hpb : p < nb
    · have HE : Hid (Tr.pick bs n = (k, p)) := by rw [Hid, HK.out, HPD.out, if_pos hpb]; rfl
      have C2 := delete_any w.heap.size g k (k + 1) q1 c1 bs wr HQ.out.symm hk rfl (by omega) HB1.out.size HO1.out
      rw [show ((k + 1 : Nat) : Int) = (k : Int) + 1 from rfl] at C2
      have GB : Hid (Tr.bAt x n = b) := by
        rw [Hid, HBA.out, HE.out]
        show bs.getD k [] = b
        rw [List.getD_eq_getElem?_getD, HBK.out]; rfl
      have GP : Hid (Tr.pAt x n = p) := by rw [Hid, HPA.out, HE.out]
      have GO : Hid (Tr.oAt x n = bs.eraseIdx k) := by rw [Hid, HOA.out, HE.out]
      have hpb' : ¬ (nb : Int) ≤ (p : Int) := by omega
      clear HPD HK
      go_wp2_with fail
      refine (C1 _).mono ?_
      rintro e w2 ⟨rfl, rfl⟩
      go_wp2_with fail
      refine C2.mono ?_
      rintro e w3 ⟨rfl, own3, bel3, hs3⟩
      have G3 : Hid (w3.ownsRow w.heap.size 73 1 (.slice (some ⟨g, 0, none⟩) (q1 - 1) c1) (q1 - 1) (strs (Tr.oAt x n))) := by rw [Hid, GO.out]; exact own3
      have GB3 := Lib.hid (HB1.out.trans bel3)
      have GL : Hid (q1 - 1 = (Tr.oAt x n).length) := by rw [Hid, GO.out, List.length_eraseIdx, if_pos (by have := HQ.out; omega), ← HQ.out]
      clear own3 bel3 C1 C2 hcell
      go_wp2
      go_ret3
      exact ⟨g, c1, q1 - 1, by rw [GB.out, GP.out, ← HX.out]; rfl, GL.out, G3.out, GB3.out⟩
    · have HE : Hid (Tr.pick bs n = (k + 1 + (Tr.pick (bs.drop (k + 1)) (p - nb)).1, (Tr.pick (bs.drop (k + 1)) (p - nb)).2)) := by
        rw [Hid, HK.out, HPD.out, if_neg hpb]
        simp only [Prod.mk.injEq, and_true]; omega
      have hk1 : k + 1 < q1 := by
        have h1 := HPK.out
        rw [HE.out] at h1
        have := HQ.out; simp only at h1; omega
      have hpb' : (nb : Int) ≤ (p : Int) := by omega
      clear HPD HK hpb
      go_wp2_with fail
      refine (C1 _).mono ?_
      rintro e w2 ⟨rfl, rfl⟩
      go_wp2_with fail
      refine (C1 _).mono ?_
      rintro e w2 ⟨rfl, rfl⟩
      go_wp2
      go_roundw
      case rel => exact ⟨k + 1, p - nb, by omega, by omega, by go_num, by go_num, by first | rfl | trivial, HE⟩
      case measure => simp [intOf]; omega
end Go.Proofs.Ytnnihdkhblbdgaa
/-
  The program's grafting on texts.
-/
namespace Go.Proofs.Ytnnihdkhblbdgaa
open Go.RowKit Fld
set_option linter.unusedVariables false
set_option linter.unusedSimpArgs false
set_option maxRecDepth 100000

theorem flat_small : ∀ {l : List (List UInt8)} {m : Nat}, (∀ b ∈ l, b.length ≤ m) → l.flatten.length ≤ l.length * m
  | [], m, _ => by simp
  | b :: l, m, h => by
    have h1 := flat_small (l := l) (fun x hx => h x (by simp [hx]))
    have h2 := h b (by simp)
    rw [List.flatten_cons, List.length_append, List.length_cons, Nat.add_mul, Nat.one_mul]; omega
theorem rootT_len (l : List (List UInt8)) : (Tr.rootT l).length = l.flatten.length + 2 := by
  unfold Tr.rootT Tr.wrap
  rw [List.length_cons, List.length_append, flat_sorted]; rfl
theorem flat_snoc (l : List (List UInt8)) (b : List UInt8) : (l ++ [b]).flatten.length = l.flatten.length + b.length := by simp
theorem brT_small {x : List UInt8} (h : Tr.isTx x = true) : (Tr.brT x).flatten.length ≤ 112 := by
  obtain ⟨⟨_, h16⟩, hb, h7⟩ := Tr.br_parts h
  have := flat_small (l := Tr.brT x) (m := 16) (fun b hb' => by have := (hb b hb').2; omega)
  omega
theorem oAt_small {x : List UInt8} (h : Tr.isTx x = true) {n : Nat} (hn : n + 1 < x.length / 2) : (Tr.oAt x n).flatten.length ≤ 112 := by
  obtain ⟨_, _, _, _, hb, h7⟩ := Tr.pick_parts h hn
  have := flat_small (l := Tr.oAt x n) (m := 16) (fun b hb' => (hb b hb').2)
  omega
theorem bAt_less {x : List UInt8} (h : Tr.isTx x = true) {n d : Nat} (hn : n + 1 < x.length / 2) (hd : x.length / 2 ≤ d + 1) : (Tr.bAt x n).length / 2 ≤ d := by
  have h1 := tx_even h
  obtain ⟨_, h2, _, h3, _⟩ := Tr.pick_parts h hn
  have h4 := tx_even h2
  omega
theorem grf_len : ∀ (d : Nat) (x : List UInt8) (k : Nat) (v : List UInt8), Tr.isTx x = true → k < x.length / 2 → x.length / 2 ≤ d → (Tr.grfF d x k v).length ≤ 200 * d + v.length
  | 0, x, k, v, h, hk, hd => by simp [Tr.grfF]
  | d+1, x, 0, v, h, hk, hd => by
    rw [Tr.grfF, rootT_len, flat_snoc]
    have := brT_small h
    omega
  | d+1, x, n+1, v, h, hk, hd => by
    rw [Tr.grfF, rootT_len, flat_snoc]
    obtain ⟨_, h2, h3, _⟩ := Tr.pick_parts h hk
    have h1 := grf_len d (Tr.bAt x n) (Tr.pAt x n) v h2 h3 (bAt_less h hk hd)
    have := oAt_small h hk
    omega
theorem strs_snoc (l : List (List UInt8)) (b : List UInt8) : strs l ++ [.string ⟨b.toArray⟩] = strs (l ++ [b]) := by simp [strs]
theorem tTimes_any (x v : List UInt8) (w : World) (hx : Tr.isTx x = true) (hv : v.length ≤ 100000) :
    Calls Try.prog 85 #[.string ⟨x.toArray⟩, .string ⟨v.toArray⟩] w fun e w' => e = .returned (.string ⟨(Tr.rootT (Tr.brT x ++ [v])).toArray⟩) ∧ Below w.heap.size w w' := by
  obtain ⟨i0, hi, hz0, hz1, hz2⟩ := info_parts info_tree
  have h7 := (Tr.br_parts hx).2.2
  have HF : Hid ((Tr.brT x ++ [v]).flatten.length ≤ 1048574) := by rw [Hid, flat_snoc]; have := brT_small hx; omega
  have C0 := branches_any x w hx
  have HS := Lib.hid (strs_snoc (Tr.brT x) v)
  obtain ⟨V, hV⟩ : ∃ V : ByteArray, V = ⟨v.toArray⟩ := ⟨_, rfl⟩
  rw [← hV] at HS ⊢
  clear hV hx
  go_enter Try.func85, Try.ntmps85
  go_wp2_with fail
  refine C0.mono ?_
  rintro e w1 ⟨A, q, c, rfl, hq, own1, bel1⟩
  have hs1 := bel1.size
  have HB1 := Lib.hid bel1
  have HO1 := Lib.hid own1
  have hq7 : q ≤ 7 := by omega
  clear bel1 hq C0
  go_wp2_with (at_builtin; (refine wpList_append_lies _ rfl (.tmp 6) (.tmp 8) 91 rfl w.heap.size 73 i0 _ 1 16 Try.underlying91 hi hz0 hz1 hz2 rfl (by omega) (.slice A q c) q (strs (Tr.brT x)) rfl (own1.alloc _) ⟨w1.heap.size, 0, none⟩ 1 1 [.string V] rfl rfl (World.news_of_block (cs := #[.string V]) (heap_alloc_new _ _)) (by simp [Value.oneCell']) (by omega) (by simp only [maxLen]; omega) (by omega) (by simp; omega) (w1.heap.size + 1) (by simp) ?_); intro g2 cap2 w3 hown3 hgrow3 hat3 hlt3)
  rw [HS.out] at hown3
  have HB3 : Hid (Below w.heap.size w w3) := (HB1.out.alloc (by omega) _).grown hgrow3 (by simp; omega) (fun z hz => (HO1.out.lt z hz).1)
  have HO3 := Lib.hid hown3
  clear hown3 hgrow3 hat3 own1
  go_wp2_with fail
  refine (rootOn_any _ w.heap.size _ _ _ _ (by omega) HF.out HB3.out.size HO3.out).mono ?_
  rintro e w4 ⟨rfl, bel4⟩
  have GB := Lib.hid (HB3.out.trans bel4)
  obtain ⟨Z, hZ⟩ : ∃ Z : ByteArray, Z = ⟨(Tr.wrap (Tr.sortS (Tr.brT x ++ [v]))).toArray⟩ := ⟨_, rfl⟩
  have HZ : Hid (Z = ⟨(Tr.rootT (Tr.brT x ++ [v])).toArray⟩) := hZ
  rw [← hZ]
  clear bel4 hZ
  go_wp2
  go_ret
  exact ⟨by rw [← HZ.out]; rfl, GB.out⟩
end Go.Proofs.Ytnnihdkhblbdgaa
/-
  A region that draws its order: operations that their guards pass over, taken at once.
-/
namespace Go.Proofs.Ytnnihdkhblbdgaa
open Go.RowKit
set_option linter.unusedVariables false
set_option maxRecDepth 100000

def skip1 (md : Region.Mode) (ops : Array Oper) (i d : Nat) (listed : Array Bool) (a : Act) : Bool :=
  (match ops[i]? with
    | some o => (match o.dst with | some d' => d' == d | none => false) && !Region.wanted o (yielded ops a.tmps)
    | none => false) && Region.noSelect ops && Region.free md ops listed i && (Region.ready md ops listed).contains i
theorem wpAnyH_skip1 {P : Program} {md : Region.Mode} {ops : Array Oper} {Q : Exit → Act → World → Prop} {S : World → Prop} {i d fuel : Nat} {listed : Array Bool} {a : Act} {w : World}
    (hc : skip1 md ops i d listed a = true) (hS : S w)
    (h : wpAnyH P md ops (NoPanic Q) S fuel (listed.setIfInBounds i true) (a.put (some d) undef) w) : wpAnyH P md ops (NoPanic Q) S (fuel + 1) listed a w := by
  unfold skip1 at hc
  simp only [Bool.and_eq_true] at hc
  obtain ⟨⟨⟨h1, h2⟩, h3⟩, h4⟩ := hc
  cases ho : ops[i]? with
  | none => rw [ho] at h1; simp at h1
  | some o =>
    rw [ho] at h1
    simp only [Bool.and_eq_true, Bool.not_eq_true'] at h1
    obtain ⟨hd, hw⟩ := h1
    cases hdd : o.dst with
    | none => rw [hdd] at hd; simp at hd
    | some d' =>
      rw [hdd] at hd
      have e : d' = d := by simpa using hd
      subst e
      exact wpAnyH_take (i := i) (oi := o) (v := undef) ho h2 h3 h4 (fun _ _ _ h => h) (.inr ⟨hw, rfl⟩) hS (by rw [hdd]; exact h)
def skipN (md : Region.Mode) (ops : Array Oper) : List (Nat × Nat) → Array Bool → Act → Bool
  | [], _, _ => true
  | (i, d) :: l, listed, a => skip1 md ops i d listed a && skipN md ops l (listed.setIfInBounds i true) (a.put (some d) undef)
theorem wpAnyH_skipN {P : Program} {md : Region.Mode} {ops : Array Oper} {Q : Exit → Act → World → Prop} {S : World → Prop} {w : World} (hS : S w) : ∀ (l : List (Nat × Nat)) (fuel : Nat) (listed : Array Bool) (a : Act),
    skipN md ops l listed a = true → wpAnyH P md ops (NoPanic Q) S fuel (l.foldl (fun x p => x.setIfInBounds p.1 true) listed) (l.foldl (fun a p => a.put (some p.2) undef) a) w → wpAnyH P md ops (NoPanic Q) S (fuel + l.length) listed a w
  | [], _, _, _, _, h => h
  | (i, d) :: l, fuel, listed, a, hc, h => by
    rw [skipN, Bool.and_eq_true] at hc
    exact wpAnyH_skip1 hc.1 hS (wpAnyH_skipN hS l fuel _ _ hc.2 h)
end Go.Proofs.Ytnnihdkhblbdgaa
