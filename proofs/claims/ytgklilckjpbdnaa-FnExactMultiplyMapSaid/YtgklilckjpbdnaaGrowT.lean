/-
  All trees with so many nodes, the model's.
-/
import Derived.Test.YtgklilckjpbdnaaGrowP
import Derived.Test.YtgklilckjpbdnaaTreeX
import Derived.Test.YtgklilckjpbdnaaTreeN
import Derived.Test.YtgklilckjpbdnaaOwn1
import Derived.Test.YtgklilckjpbdnaaMarks
import Derived.Laws.AppendOwnNone
namespace Go.Proofs.Ytgklilckjpbdnaa
open Go.RowKit Fld
set_option linter.unusedVariables false
set_option linter.unusedSimpArgs false
set_option maxRecDepth 100000

theorem lv_last {t : List Int} (h : Tr.isLv t = true) : 0 ≤ t.getD (t.length - 1) 0 ∧ t.getD (t.length - 1) 0 ≤ (t.length : Int) - 1 := by
  have h1 := Tr.isLv_iff.1 h
  have h2 := StepsTo.bd (t := t) (n := t.length) (k := t.length - 1) h1.2.2.2 h1.2.2.1 (by have := h1.1; omega) rfl
  have := h1.1
  omega
theorem lv_push {t : List Int} {x : Int} (h : Tr.isLv t = true) (hl : t.length + 1 ≤ 8) (h1 : 1 ≤ x) (h2 : x ≤ t.getD (t.length - 1) 0 + 1) : Tr.isLv (t ++ [x]) = true := by
  have h3 := Tr.isLv_iff.1 h
  have hlt := h3.1
  have hg : ∀ i, i < t.length → (t ++ [x]).getD i 0 = t.getD i 0 := fun i hi => by
    rw [List.getD_eq_getElem?_getD, List.getElem?_append_left hi, ← List.getD_eq_getElem?_getD]
  have hx : (t ++ [x]).getD t.length 0 = x := by
    rw [List.getD_eq_getElem?_getD, List.getElem?_append_right (Nat.le_refl _), Nat.sub_self]; rfl
  refine Tr.isLv_iff.2 ⟨by simp, by simp; omega, by rw [hg 0 hlt]; exact h3.2.2.1, fun i hi h1' => ?_⟩
  rw [List.length_append, List.length_singleton] at hi
  by_cases e : i = t.length
  · subst e
    rw [hx, hg (t.length - 1) (by omega)]
    exact ⟨h1, h2⟩
  · rw [hg i (by omega), hg (i - 1) (by omega)]
    exact h3.2.2.2 i (by omega) h1'
def growTo (f : Nat) (t : List Int) (m : List (List Int)) (k : Nat) : List (List Int) := (List.range k).foldl (fun (o : List (List Int)) (j : Nat) => Tr.growF f (t ++ [t.getD (t.length - 1) 0 + 1 - (j : Int)]) o) m
theorem growTo_step (f : Nat) (t : List Int) (m : List (List Int)) (k : Nat) : growTo f t m (k + 1) = Tr.growF f (t ++ [t.getD (t.length - 1) 0 + 1 - (k : Int)]) (growTo f t m k) := by
  unfold growTo; rw [List.range_succ, List.foldl_append]; rfl
theorem growF_succ (f : Nat) (t : List Int) (m : List (List Int)) : Tr.growF (f + 1) t m = growTo f t m (t.getD (t.length - 1) 0 + 1).toNat := rfl
theorem grow_len : ∀ (f : Nat) (t : List Int) (m : List (List Int)), Tr.isLv t = true → t.length + f ≤ 8 → (Tr.growF f t m).length ≤ m.length + 9 ^ f
  | 0, t, m, _, _ => by
    rw [Tr.growF]; split
    · simp
    · simp
  | f+1, t, m, h, hl => by
    rw [growF_succ]
    have hb := lv_last h
    have key : ∀ k : Nat, (k : Int) ≤ t.getD (t.length - 1) 0 + 1 → (growTo f t m k).length ≤ m.length + k * 9 ^ f := by
      intro k
      induction k with
      | zero => intro _; simp [growTo]
      | succ k ih =>
        intro hk
        rw [growTo_step]
        have h1 := grow_len f (t ++ [t.getD (t.length - 1) 0 + 1 - (k : Int)]) (growTo f t m k) (lv_push h (by omega) (by omega) (by omega)) (by rw [List.length_append]; simp; omega)
        have h2 := ih (by omega)
        have e : (k + 1) * 9 ^ f = k * 9 ^ f + 9 ^ f := by rw [Nat.add_mul, Nat.one_mul]
        omega
    have h1 := key (t.getD (t.length - 1) 0 + 1).toNat (by omega)
    have h2 : (t.getD (t.length - 1) 0 + 1).toNat ≤ 9 := by omega
    have h3 : (t.getD (t.length - 1) 0 + 1).toNat * 9 ^ f ≤ 9 * 9 ^ f := Nat.mul_le_mul_right _ h2
    have e : 9 ^ (f + 1) = 9 * 9 ^ f := by rw [Nat.pow_succ, Nat.mul_comm]
    omega
/-- what was there stands, but for a row that grows -/
theorem grown_chain {a b c : World} {r r' : Option Nat} (h : a.grownBy b r) (k : b.grownBy c r') (hr : r' = r ∨ ∃ g, r' = some g ∧ a.heap.size ≤ g) : a.grownBy c r :=
  ⟨k.os.trans h.os, k.tape.trans h.tape, k.output.trans h.output, Nat.le_trans h.size k.size, fun i hi hne => by
    rw [k.block i (Nat.lt_of_lt_of_le hi h.size) (fun e => by
      rcases hr with hr | ⟨g, hr, hg⟩
      · exact hne (by rw [e, hr])
      · rw [hr] at e; injection e with e; omega)]
    exact h.block i hi hne⟩
theorem below_grown {a b : World} (h : Below a.heap.size a b) : a.grownBy b none := ⟨h.os, h.tape, h.output, h.size, fun i hi _ => h.block i hi⟩
theorem grown_any {a b : World} {r : Option Nat} (h : a.grownBy b none) : a.grownBy b r := ⟨h.os, h.tape, h.output, h.size, fun i hi _ => h.block i hi (by simp)⟩
/-- what l03Grow hands back -/
def Grown (lo : Nat) (v : Value) (m' : List (List Int)) (w : World) (e : Ending) (w' : World) : Prop :=
  ∃ A q c vs, e = .returned (.slice A q c) ∧ OwnMat w' lo w'.heap.size (.slice A q c) q m' vs ∧ w.grownBy w' v.ownBlock ∧ (Value.ownBlock (.slice A q c) = v.ownBlock ∨ ∃ g, Value.ownBlock (.slice A q c) = some g ∧ w.heap.size ≤ g)
def SGrow (f : Nat) : Prop := ∀ (At A : Option Addr) (ct q c n lo lot : Nat) (t : List Int) (m : List (List Int)) (vs : List Value) (w : World), t.length + f = n → n ≤ 8 → Tr.isLv t = true → q + 9 ^ f ≤ 100000000 → lo ≤ w.heap.size →
    w.ownsRow lot 2 1 (.slice At t.length ct) t.length (ints t) → OwnMat w lo w.heap.size (.slice A q c) q m vs →
    Calls Try.prog 71 #[.slice At t.length ct, .int .i64 n, .slice A q c] w (Grown lo (.slice A q c) (Tr.growF f t m) w)
set_option maxHeartbeats 1000000 in
theorem sGrow_zero : SGrow 0 := by
  obtain ⟨j0, hj, hy0, hy1, hy2⟩ := info_parts info_row
  intro At A ct q c n lo lot t m vs w hn hn8 hlv hq hlo ht hm
  have hnt : t.length = n := by omega
  obtain ⟨e1, e2⟩ := lv_can hlv
  have HE : Hid ((Tr.can t).length = n) := by rw [Hid, e2, hnt]
  have HT := Lib.hid ht
  have HM := Lib.hid hm
  have HLV := Lib.hid hlv
  have HN := Lib.hid hnt
  have h1 : 1 ≤ n := by have := (Tr.isLv_iff.1 hlv).1; omega
  have hq' : q ≤ 100000000 := by omega
  rw [hnt] at ht HT ⊢
  obtain ⟨gt, capt, hvt⟩ := own_form ht (by omega)
  injection hvt with hA _ hcap
  subst hA hcap
  clear hn hlv hq e1 e2 hnt hm
  go_enter Try.func71, Try.ntmps71
  go_wp2_with fail
  refine (l03Canon_any _ n ct w.heap.size t _ HN.out HLV.out (Nat.le_refl _) (row_of_own ht)).mono ?_
  rintro e w1 ⟨A1, c1, rfl, own1, bel1⟩
  have hs1 := bel1.size
  have HB1 := Lib.hid bel1
  have HT1 := Lib.hid ((OwnR.of HT.out).below bel1 (Nat.le_refl _))
  have C1 := l01Same_any A1 _ n n c1 ct _ _ (Tr.can t) t w1 HE.out HN.out (by omega) (by omega) (row_of_own own1) HT1.out.row
  clear own1 bel1 ht
  by_cases hct : Tr.can t = t
  · have G : Hid (Tr.growF 0 t m = m ++ [t]) := by rw [Hid, Tr.growF, if_pos hct]
    rw [hct, eqL_self] at C1
    clear hct
    go_wp2_with fail
    refine C1.mono ?_
    rintro e w2 ⟨rfl, m2, rfl⟩
    go_wp2_with fail
    refine (l01Own_any ⟨gt, 0, none⟩ n ct w1.heap.size t _ HN.out (by omega) (by show w1.heap.size ≤ w1.heap.size; omega) ((HT1.out.row.more hs1).drewN m2)).mono ?_
    rintro e w3 ⟨A3, c3, rfl, own3, bel3⟩
    have hs3 : w1.heap.size ≤ w3.heap.size := bel3.size
    have HM3 := Lib.hid ((((HM.out.below HB1.out (Nat.le_refl _)).more (Nat.le_refl _) hs1).drewN m2).below bel3 (Nat.le_refl _))
    have HB3 : Hid (Below w.heap.size w w3) := (below_drewN HB1.out m2).trans (bel3.mono (by show w.heap.size ≤ w1.heap.size; exact hs1))
    have HO3 : Hid (w3.ownsRow w1.heap.size 2 1 (.slice A3 n c3) n (ints t)) := own3
    have hownO := HM3.out.outer.1
    clear own3 bel3
    go_wp2_with (at_builtin; refine wpList_append_lies _ rfl (.tmp 16) (.tmp 19) 35 rfl lo 22 j0 _ 1 24 Try.underlying35 hj hy0 hy1 hy2 rfl (by omega) (.slice A q c) q vs rfl (hownO.alloc _) ⟨w3.heap.size, 0, none⟩ 1 1 [.slice A3 n c3] rfl rfl (World.news_of_block (cs := #[.slice A3 n c3]) (heap_alloc_new _ _)) (by simp [Value.oneCell']) (by omega) (by simp only [maxLen]; omega) (by omega) (by simp; omega) (w3.heap.size + 1) (by simp) ?_; intro g5 cap5 w5 hown5 hgrow5 hat5 hlt5)
    have hs5 : w3.heap.size ≤ w5.heap.size := by have := hgrow5.size; simp at this; omega
    have GG : Hid (Grown lo (.slice A q c) (Tr.growF 0 t m) w (.returned (.slice (some ⟨g5, 0, none⟩) (q + 1) cap5)) w5) := by
      rw [Hid, G.out]
      refine ⟨_, _, _, _, rfl, HM3.out.push (row := t) hs3 HN.out HO3.out (by omega) hown5 hgrow5, ?_, ?_⟩
      · have h1 : w.grownBy (w3.alloc (.cells #[.slice A3 n c3] 22)) none := below_grown (HB3.out.alloc (by omega) _)
        exact grown_chain (grown_any h1) hgrow5 (.inl rfl)
      · rcases hat5 with e | e
        · exact .inl e.symm
        · exact .inr ⟨g5, rfl, by omega⟩
    clear hown5 hgrow5 hat5 hownO
    go_wp2
    go_ret
    exact GG.out
  · have G : Hid (Tr.growF 0 t m = m) := by rw [Hid, Tr.growF, if_neg hct]
    have e : eqL (Tr.can t) t = false := by unfold eqL; exact decide_eq_false hct
    rw [e] at C1
    clear hct e
    go_wp2_with fail
    refine C1.mono ?_
    rintro e w2 ⟨rfl, m2, rfl⟩
    have GG : Hid (Grown lo (.slice A q c) (Tr.growF 0 t m) w (.returned (.slice A q c)) (w1.drewN m2)) := by
      rw [Hid, G.out]
      exact ⟨A, q, c, vs, rfl, ((HM.out.below HB1.out (Nat.le_refl _)).drewN m2).more (Nat.le_refl _) hs1, grown_any (below_grown (below_drewN HB1.out m2)), .inl rfl⟩
    go_wp2
    go_ret
    exact GG.out
set_option maxHeartbeats 2000000 in
theorem sGrow_succ (f : Nat) (IH : SGrow f) : SGrow (f + 1) := by
  obtain ⟨i0, hi, hz0, hz1, hz2⟩ := info_parts info_i64
  intro At A ct q c n lo lot t m vs w hn hn8 hlv hq hlo ht hm
  obtain ⟨nt, hnt⟩ : ∃ nt, nt = t.length := ⟨_, rfl⟩
  have h1 : 1 ≤ nt := by have := (Tr.isLv_iff.1 hlv).1; omega
  have HNT : Hid (t.length = nt) := hnt.symm
  rw [← hnt] at ht ⊢
  obtain ⟨gt, capt, hvt⟩ := own_form ht (by omega)
  injection hvt with hA _ hcap
  subst hA hcap
  obtain ⟨L, hL⟩ : ∃ L, L = t.getD (t.length - 1) 0 := ⟨_, rfl⟩
  have hLb := lv_last hlv
  rw [← hL, ← hnt] at hLb
  have hLc := ht.cellAt (nt - 1) (by omega)
  have hLx : t[nt - 1]? = some L := by
    obtain ⟨x, hx⟩ := at_lt (show nt - 1 < t.length by omega)
    rw [hx, hL, ← hnt, lv_at hx]
  rw [ints_at hLx] at hLc
  have hnlt : nt < n := by omega
  have HFN : Hid (nt + (f + 1) = n) := by rw [Hid, hnt]; exact hn
  have HT : Hid (OwnR w lot w.heap.size 2 (.slice (some ⟨gt, 0, none⟩) nt ct) nt (ints t)) := OwnR.of ht
  have HM := Lib.hid hm
  have HLV := Lib.hid hlv
  have HLL : Hid (t.getD (t.length - 1) 0 = L) := hL.symm
  have HG : Hid (Tr.growF (f + 1) t m = growTo f t m (L + 1).toNat) := by rw [Hid, growF_succ, ← hL]
  have hpow : 9 ^ (f + 1) = 9 * 9 ^ f := by rw [Nat.pow_succ, Nat.mul_comm]
  have HQ : Hid (q + 9 * 9 ^ f ≤ 100000000) := by rw [Hid, ← hpow]; exact hq
  have HML : Hid (m.length = q) := hm.size
  have tn := beq_f (show ¬ (nt : Int) = (n : Int) by omega)
  clear hn hlv hq hpow hL hLx ht hm hnt
  go_enter Try.func71, Try.ntmps71
  go_wp2_with fail
  go_loopw [2, 7] (fun v l wr => ∃ (k q' c' : Nat) (A' : Option Addr) (vs' : List Value), v = .slice A' q' c' ∧ l = .int .i64 (L + 1 - (k : Int)) ∧ (k : Int) ≤ L + 1 ∧ Hid (q' ≤ q + k * 9 ^ f) ∧ Hid (OwnMat wr lo wr.heap.size (.slice A' q' c') q' (growTo f t m k) vs') ∧ Hid (w.grownBy wr (Value.ownBlock (.slice A q c))) ∧ Hid (Value.ownBlock (.slice A' q' c') = Value.ownBlock (.slice A q c) ∨ ∃ g, Value.ownBlock (.slice A' q' c') = some g ∧ w.heap.size ≤ g) ∧ w.heap.size ≤ wr.heap.size) (fun _ l _ => (intOf l).toNat)
  case atStart => exact ⟨0, q, c, A, vs, rfl, by simp, by omega, by rw [Hid]; omega, HM.out, World.grownBy.refl _ _, .inl rfl, Nat.le_refl _⟩
  case round =>
    obtain ⟨k, q', c', A', vs', rfl, rfl, hk, HQ', HM', HGR, HOB, hsz⟩ := hrel
    by_cases hlt : (k : Int) < L + 1
    · have hlev : 1 ≤ L + 1 - (k : Int) := by omega
      obtain ⟨lev, hlv2⟩ : ∃ lev, lev = L + 1 - (k : Int) := ⟨_, rfl⟩
      have hl1 : 1 ≤ lev := by omega
      have hl8 : lev ≤ 9 := by omega
      have HS : Hid (growTo f t m (k + 1) = Tr.growF f (t ++ [lev]) (growTo f t m k)) := by rw [Hid, growTo_step, HLL.out, hlv2]
      have HPL : Hid (Tr.isLv (t ++ [lev]) = true) := lv_push HLV.out (by have := HNT.out; have := HFN.out; omega) hl1 (by rw [HLL.out]; omega)
      have HT' := Lib.hid (HT.out.grown HGR.out (own_types HT.out.1 HM.out.outer.1 (by decide)))
      have hk9 : k + 1 ≤ 9 := by omega
      have HQ2 : Hid (q' + 9 ^ f ≤ 100000000) := by
        have h2 := HQ'.out
        have h3 := HQ.out
        have h4 : (k + 1) * 9 ^ f ≤ 9 * 9 ^ f := Nat.mul_le_mul_right _ hk9
        rw [Nat.add_mul, Nat.one_mul] at h4
        rw [Hid]; omega
      have hrng : L + 1 - (k : Int) = lev := hlv2.symm
      rw [hrng]
      have hlm : lev - 1 = L + 1 - ((k + 1 : Nat) : Int) := by omega
      have HLM := Lib.hid hlm
      clear hrng hlm hlv2
      go_wp2_with fail
      refine (l01Own_any ⟨gt, 0, none⟩ nt ct w.heap.size t _ HNT.out (by omega) hsz HT'.out.row).mono ?_
      rintro e w1 ⟨A1, c1, rfl, own1, bel1⟩
      have hs1 := bel1.size
      have HB1 := Lib.hid bel1
      have HO1 := Lib.hid own1
      clear bel1
      go_wp2_with (at_builtin; refine wpList_append_lies _ rfl (.tmp 34) (.tmp 36) 22 rfl wr.heap.size 2 i0 _ 1 8 Try.underlying22 hi hz0 hz1 hz2 rfl (by omega) (.slice A1 nt c1) nt (ints t) rfl (own1.alloc _) ⟨w1.heap.size, 0, none⟩ 1 1 [.int .i64 lev] rfl rfl (World.news_of_block (cs := #[.int .i64 lev]) (heap_alloc_new _ _)) (by simp [Value.oneCell']) (by omega) (by simp only [maxLen]; omega) (by omega) (by simp; omega) (w1.heap.size + 1) (by simp) ?_; intro g2 c2 w2 hown2 hgrow2 hat2 hlt2)
      have BW2 : Hid (Below wr.heap.size wr w2) := (HB1.out.alloc hs1 _).grown hgrow2 (by simp; omega) (fun q hq => (HO1.out.lt q hq).1)
      have hs2 : wr.heap.size ≤ w2.heap.size := BW2.out.size
      have HLN : Hid ((t ++ [lev]).length = nt + 1) := by rw [Hid, List.length_append, HNT.out]; rfl
      have HM2 : Hid (OwnMat w2 lo w2.heap.size (.slice A' q' c') q' (growTo f t m k) vs') := (HM'.out.below BW2.out (Nat.le_refl _)).more (Nat.le_refl _) hs2
      have C1 := IH (some ⟨g2, 0, none⟩) A' c2 q' c' n lo wr.heap.size (t ++ [lev]) (growTo f t m k) vs' w2 (by rw [HLN.out]; have := HFN.out; omega) hn8 HPL.out HQ2.out (by omega) (by
        have e : ints t ++ [.int .i64 lev] = ints (t ++ [lev]) := by simp [ints, intsK]
        rw [e] at hown2
        rw [HLN.out]; exact hown2) HM2.out
      rw [HLN.out, ← HS.out] at C1
      clear hown2 hgrow2 hat2 own1
      go_wp2_with fail
      refine C1.mono ?_
      rintro e w3 ⟨A3, q3, c3, vs3, rfl, hm3, hg3, hb3⟩
      have HM3 := Lib.hid hm3
      have hs3 : w2.heap.size ≤ w3.heap.size := hg3.size
      have HGR3 : Hid (w.grownBy w3 (Value.ownBlock (.slice A q c))) := grown_chain (grown_chain HGR.out (grown_any (below_grown BW2.out)) (.inl rfl)) hg3 HOB.out
      have HOB3 : Hid (Value.ownBlock (.slice A3 q3 c3) = Value.ownBlock (.slice A q c) ∨ ∃ g, Value.ownBlock (.slice A3 q3 c3) = some g ∧ w.heap.size ≤ g) := by
        rcases hb3 with hb3 | ⟨g, hb3, hg⟩
        · rw [Hid, hb3]; exact HOB.out
        · exact .inr ⟨g, hb3, by omega⟩
      have HQ3 : Hid (q3 ≤ q + (k + 1) * 9 ^ f) := by
        have h1 := HM3.out.size
        rw [HS.out] at h1
        have h2 := grow_len f (t ++ [lev]) (growTo f t m k) HPL.out (by rw [HLN.out]; have := HFN.out; omega)
        have h3 := HM'.out.size
        have h4 := HQ'.out
        rw [Hid, Nat.add_mul, Nat.one_mul]; omega
      clear hm3 hg3 hb3 C1
      go_wp2
      go_roundw
      case rel => exact ⟨k + 1, q3, c3, A3, vs3, rfl, by rw [← HLM.out], by omega, HQ3, HM3, HGR3, HOB3, by omega⟩
      case measure => simp [intOf]; omega
    · have hk2 : (k : Int) = L + 1 := by omega
      have G : Hid (Grown lo (.slice A q c) (Tr.growF (f + 1) t m) w (.returned (.slice A' q' c')) wr) := by
        rw [Hid, HG.out, show (L + 1).toNat = k from by omega]
        exact ⟨A', q', c', vs', rfl, HM'.out, HGR.out, HOB.out⟩
      have e0 : L + 1 - (k : Int) = 0 := by omega
      rw [e0]
      clear hk2 e0
      go_wp2
      go_ret
      exact G.out
theorem sGrow_all : ∀ f, SGrow f
  | 0 => sGrow_zero
  | f+1 => sGrow_succ f (sGrow_all f)
theorem l03Trees_any (n : Nat) (w : World) (h1 : 1 ≤ n) (h8 : n ≤ 8) : Calls Try.prog 56 #[.int .i64 n] w (NewMat (Tr.treesL n).length (Tr.treesL n) w) := by
  have own1 := World.ownsRow_lit (base := w.heap.size) (size := 1) (e := 2) w #[.int .i64 0] 1 (Nat.le_refl _) (by simp [maxLen]) rfl
  have C1 := sGrow_all (n - 1) (some ⟨w.heap.size, 0, none⟩) none 1 0 0 n w.heap.size w.heap.size [0] [] [] (w.alloc (.cells #[.int .i64 0] 2)) (by simp; omega) h8 (by decide) (by
    have : n - 1 ≤ 7 := by omega
    have h2 : 9 ^ (n - 1) ≤ 9 ^ 7 := Nat.pow_le_pow_right (by omega) this
    omega) (by simp) own1 ⟨⟨World.ownsRow_nil _ _ _ _, fun g e => by simp [Value.ownBlock] at e⟩, rfl, fun r row hr => by simp at hr, fun r s u t g _ hu => by simp at hu⟩
  rw [grow_trees h1 h8] at C1
  go_enter Try.func56, Try.ntmps56
  go_wp2_with fail
  refine C1.mono ?_
  rintro e w3 ⟨A3, q3, c3, vs3, rfl, hm3, hg3, hb3⟩
  have e1 : (Tr.treesL n).length = q3 := hm3.size
  have G : Hid (NewMat (Tr.treesL n).length (Tr.treesL n) w (.returned (.slice A3 q3 c3)) w3) := by
    rw [Hid, e1]
    refine ⟨A3, c3, vs3, rfl, hm3, ?_⟩
    exact ((Below.refl _ _).alloc (Nat.le_refl _) _).grown hg3 (by simp) (fun b hb => by simp [Value.ownBlock] at hb)
  clear hm3 hg3 hb3 C1 e1
  go_wp2
  go_ret
  exact G.out
end Go.Proofs.Ytgklilckjpbdnaa
