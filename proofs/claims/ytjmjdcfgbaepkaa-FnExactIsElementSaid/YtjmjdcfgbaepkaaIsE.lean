/-
  What an element is: the program's order of forests is the model's; the program's test.
-/
import Derived.Test.YtjmjdcfgbaepkaaFrc
import Derived.Test.YtjmjdcfgbaepkaaOrdS
import Derived.Test.YtjmjdcfgbaepkaaForTr
import Derived.Test.YtjmjdcfgbaepkaaTreesOfT
import Derived.Test.YtjmjdcfgbaepkaaTreeE
import Derived.Test.YtjmjdcfgbaepkaaPrtC
import Derived.Test.YtjmjdcfgbaepkaaForestS
import Derived.Test.YtjmjdcfgbaepkaaTests
import Derived.Test.YtjmjdcfgbaepkaaRes1
namespace Go.Proofs.Ytjmjdcfgbaepkaa
open Go.RowKit Fld
set_option linter.unusedVariables false
set_option linter.unusedSimpArgs false
set_option maxRecDepth 100000

/-- two forests' texts in the program's order -/
def forC (x y : List UInt8) : Int := orL [cmpI (x.length : Int) (y.length : Int), cmpI ((Tr.trF [] 0 [] x).1.length : Int) ((Tr.trF [] 0 [] y).1.length : Int), cmpTs (Tr.trF [] 0 [] x).1 (Tr.trF [] 0 [] y).1]
/-- a text that comes back to depth 0 at its end alone -/
def go1 : Nat → List UInt8 → Bool
  | _, [] => false
  | o, [c] => decide (c = 93) && decide (o = 1)
  | o, c :: d :: r => if c = 91 then go1 (o + 1) (d :: r) else decide (c = 93) && decide (1 < o) && go1 (o - 1) (d :: r)
theorem go1_read : ∀ (x : List UInt8) (o : Nat) (cur : List UInt8) (acc : List (List UInt8)) (r : List UInt8), go1 o x = true → Tr.trF cur o acc (x ++ r) = Tr.trF [] 0 (acc ++ [cur ++ x]) r
  | [], _, _, _, _, h => by simp [go1] at h
  | [c], o, cur, acc, r, h => by
    simp only [go1, Bool.and_eq_true, decide_eq_true_eq] at h
    obtain ⟨rfl, rfl⟩ := h
    rw [List.singleton_append, Tr.trF, if_neg (by decide), if_pos rfl, if_neg (by decide), if_pos rfl]
  | c :: d :: t, o, cur, acc, r, h => by
    rw [go1] at h
    split at h
    · rename_i hc
      rw [List.cons_append, Tr.trF, if_pos hc, go1_read (d :: t) (o + 1) _ _ _ h, List.append_assoc, List.singleton_append]
    · rename_i hc
      simp only [Bool.and_eq_true, decide_eq_true_eq] at h
      obtain ⟨⟨h1, h2⟩, h3⟩ := h
      rw [List.cons_append, Tr.trF, if_neg hc, if_pos h1, if_neg (by omega), if_neg (by omega), go1_read (d :: t) (o - 1) _ _ _ h3, List.append_assoc, List.singleton_append]
theorem go1_all : Tr.allT.all (go1 0) = true := by decide +kernel
theorem tr_flat : ∀ (ss acc : List (List UInt8)), (∀ x ∈ ss, Tr.isTx x = true) → Tr.trF [] 0 acc ss.flatten = (acc ++ ss, true)
  | [], acc, _ => by simp [Tr.trF]
  | x :: ss, acc, h => by
    rw [List.flatten_cons, go1_read x 0 [] acc _ (Tr.tx_of go1_all (h x (by simp))), List.nil_append, tr_flat ss (acc ++ [x]) (fun y hy => h y (by simp [hy])), List.append_assoc, List.singleton_append]
/-- the trees of a forest are trees, in order -/
theorem for_parts {f : List (List Int)} (h : isFor f = true) : (∀ t ∈ f, isTr t = true) ∧ total f ≤ 8 ∧ f.length ≤ total f ∧ Tr.sortT (f.map Tr.txt) = f.map Tr.txt := by
  unfold isFor at h
  rw [Bool.and_eq_true, decide_eq_true_eq] at h
  obtain ⟨h1, h2⟩ := h
  have ht : ∀ k r, f[k]? = some r → isTr r = true := fun k r hr => okAt_tr (okTo_at h1 (List.getElem?_eq_some_iff.1 hr).1) hr
  have hm : ∀ t ∈ f, isTr t = true := fun t hm => by obtain ⟨k, hk⟩ := List.mem_iff_getElem?.1 hm; exact ht k t hk
  refine ⟨hm, h2, len_total (f := f) (fun r hr => (lv_bd (tr_lv (hm r hr)).1).1), ?_⟩
  have adj : ∀ k p r, f[k]? = some p → f[k + 1]? = some r → Tr.leT (Tr.txt p) (Tr.txt r) = true := fun k p r hp hr => by
    have h3 := okTo_at h1 (List.getElem?_eq_some_iff.1 hr).1
    rw [okAt_succ hr hp (ht _ _ hr)] at h3
    rw [leT_txt (ht _ _ hp) (ht _ _ hr)]; exact h3
  have far : ∀ d k p r, f[k]? = some p → f[k + d + 1]? = some r → Tr.leT (Tr.txt p) (Tr.txt r) = true := fun d => by
    induction d with
    | zero => intro k p r hp hr; exact adj k p r hp hr
    | succ d ih =>
      intro k p r hp hr
      obtain ⟨q, hq⟩ := at_lt (show k + d + 1 < f.length by have := (List.getElem?_eq_some_iff.1 hr).1; omega)
      exact Tr.leT_tr (ih k p q hp hq) (adj (k + d + 1) q r hq (by rw [← hr]; congr 1))
  refine (List.Perm.eq_of_pairwise (le := fun a b => Tr.leT a b = true) (fun a b _ _ h k => Tr.leT_as h k) (sortT_sorted _) ?_ (sortT_perm _))
  rw [List.pairwise_map, List.pairwise_iff_getElem]
  intro i j hi hj hij
  exact far (j - i - 1) i _ _ (List.getElem?_eq_getElem hi) (by rw [show i + (j - i - 1) + 1 = j by omega]; exact List.getElem?_eq_getElem hj)
/-- the text of a forest -/
def txtS (f : List (List Int)) : List UInt8 := (Tr.sortT (f.map Tr.txt)).flatten
theorem txtS_parts {f : List (List Int)} (h : isFor f = true) : (txtS f).length = 2 * total f ∧ Tr.trF [] 0 [] (txtS f) = (f.map Tr.txt, true) ∧ (txtS f).length ≤ 16 := by
  obtain ⟨h1, h2, h3, h4⟩ := for_parts h
  have hl : ∀ g : List (List Int), (∀ t ∈ g, isTr t = true) → ((g.map Tr.txt).flatten).length = 2 * total g := fun g => by
    induction g with
    | nil => intro _; simp [total]
    | cons a r ih =>
      intro hg
      have e := (lv_txt (tr_lv (hg a (by simp))).1).2.2.2
      have e2 : total (a :: r) = a.length + total r := by simp [total]
      rw [List.map_cons, List.flatten_cons, List.length_append, ih (fun t ht => hg t (by simp [ht])), e, e2]; omega
  unfold txtS
  rw [h4]
  refine ⟨hl f h1, ?_, by rw [hl f h1]; omega⟩
  rw [tr_flat _ _ (fun x hx => by
    rw [List.mem_map] at hx
    obtain ⟨t, ht, rfl⟩ := hx
    exact Tr.tx_txt (tr_lv (h1 t ht)).1), List.nil_append]
theorem cmpTs_eq : ∀ (f g : List (List Int)), (∀ t ∈ f, isTr t = true) → (∀ t ∈ g, isTr t = true) → f.length = g.length → cmpTs (f.map Tr.txt) (g.map Tr.txt) = cmpLs f g
  | [], [], _, _, _ => rfl
  | [], _ :: _, _, _, h => by simp at h
  | _ :: _, [], _, _, h => by simp at h
  | a :: f, b :: g, hf, hg, hl => by
    have ha := tr_lv (hf a (by simp))
    have hb := tr_lv (hg b (by simp))
    have ih := cmpTs_eq f g (fun t ht => hf t (by simp [ht])) (fun t ht => hg t (by simp [ht])) (by simpa using hl)
    rw [List.map_cons, List.map_cons, cmpTs, cmpLs, ih, Tr.cmp_eq ha.1 hb.1, ha.2, hb.2]
    unfold Tr.cmpL
    cases Tr.beforeL a b <;> cases Tr.beforeL b a <;> simp
/-- the two orders are one -/
theorem forC_eq {f g : List (List Int)} (hf : isFor f = true) (hg : isFor g = true) : forC (txtS f) (txtS g) = ord6 f g := by
  obtain ⟨f1, _, _, _⟩ := for_parts hf
  obtain ⟨g1, _, _, _⟩ := for_parts hg
  obtain ⟨a1, a2, _⟩ := txtS_parts hf
  obtain ⟨b1, b2, _⟩ := txtS_parts hg
  unfold forC ord6 ord5
  rw [a2, b2, a1, b1, List.length_map, List.length_map]
  simp only [orL]
  rcases Nat.lt_trichotomy (total f) (total g) with q | q | q
  · have e : cmpI ((2 * total f : Nat) : Int) ((2 * total g : Nat) : Int) = -1 := if_pos (by omega)
    rw [e, if_neg (by decide), if_neg (by omega), if_pos q]
  · have e : cmpI ((2 * total f : Nat) : Int) ((2 * total g : Nat) : Int) = 0 := by unfold cmpI; rw [if_neg (by omega), if_neg (by omega)]
    rw [e, if_pos rfl, if_pos q]
    rcases Nat.lt_trichotomy f.length g.length with p | p | p
    · have e : cmpI (f.length : Int) (g.length : Int) = -1 := if_pos (by omega)
      rw [e, if_neg (by decide), if_neg (by omega), if_pos p]
    · have e : cmpI (f.length : Int) (g.length : Int) = 0 := by unfold cmpI; rw [if_neg (by omega), if_neg (by omega)]
      rw [e, if_pos rfl, if_pos p, cmpTs_eq f g f1 g1 p]
      split <;> simp_all
    · have e : cmpI (f.length : Int) (g.length : Int) = 1 := by unfold cmpI; rw [if_neg (by omega), if_pos (by omega)]
      rw [e, if_neg (by decide), if_neg (by omega), if_neg (by omega)]
  · have e : cmpI ((2 * total f : Nat) : Int) ((2 * total g : Nat) : Int) = 1 := by unfold cmpI; rw [if_neg (by omega), if_pos (by omega)]
    rw [e, if_neg (by decide), if_neg (by omega), if_neg (by omega)]

set_option maxHeartbeats 1000000 in
theorem forestCompare_any (x y : List UInt8) (w : World) (hx : x.length ≤ 1048576) (hy : y.length ≤ 1048576) (lx : (Tr.trF [] 0 [] x).1.length ≤ 1048576) (ly : (Tr.trF [] 0 [] y).1.length ≤ 1048576) (sx : ∀ s ∈ (Tr.trF [] 0 [] x).1, s.length ≤ 1048576) (sy : ∀ s ∈ (Tr.trF [] 0 [] y).1, s.length ≤ 1048576) :
    Calls Try.prog 107 #[.string ⟨x.toArray⟩, .string ⟨y.toArray⟩] w fun e w' => e = .returned (.int .i64 (forC x y)) ∧ Below w.heap.size w w' := by
  have C1 := fun W => forestTrees_any x W hx
  have C2 := fun W => forestTrees_any y W hy
  have HF : Hid (forC x y = orL [cmpI (x.length : Int) (y.length : Int), cmpI ((Tr.trF [] 0 [] x).1.length : Int) ((Tr.trF [] 0 [] y).1.length : Int), cmpTs (Tr.trF [] 0 [] x).1 (Tr.trF [] 0 [] y).1]) := rfl
  obtain ⟨ss, hss⟩ : ∃ ss, ss = (Tr.trF [] 0 [] x).1 := ⟨_, rfl⟩
  obtain ⟨tt, htt⟩ : ∃ tt, tt = (Tr.trF [] 0 [] y).1 := ⟨_, rfl⟩
  simp only [← hss] at C1
  simp only [← htt] at C2
  rw [← hss, ← htt] at HF
  rw [← hss] at lx sx
  rw [← htt] at ly sy
  obtain ⟨X, hX⟩ : ∃ X : ByteArray, X = ⟨x.toArray⟩ := ⟨_, rfl⟩
  obtain ⟨Y, hY⟩ : ∃ Y : ByteArray, Y = ⟨y.toArray⟩ := ⟨_, rfl⟩
  have zx : X.size = x.length := by rw [hX]; exact size_S x
  have zy : Y.size = y.length := by rw [hY]; exact size_S y
  obtain ⟨nx, hnx⟩ : ∃ n, n = x.length := ⟨_, rfl⟩
  obtain ⟨ny, hny⟩ : ∃ n, n = y.length := ⟨_, rfl⟩
  rw [← hnx] at zx HF
  rw [← hny] at zy HF
  simp only [← hX] at C1
  simp only [← hY] at C2
  rw [← hX, ← hY]
  obtain ⟨p, hp⟩ : ∃ n, n = ss.length := ⟨_, rfl⟩
  obtain ⟨q, hq⟩ : ∃ n, n = tt.length := ⟨_, rfl⟩
  rw [← hp] at lx HF
  rw [← hq] at ly HF
  have HP := Lib.hid hp
  have HQ := Lib.hid hq
  have SX := Lib.hid sx
  have SY := Lib.hid sy
  clear hss htt hX hY hnx hny hp hq sx sy hx hy
  go_enter Try.func107, Try.ntmps107
  go_wp2_with fail
  refine (C1 _).mono ?_
  rintro e w1 ⟨A1, q1, c1, rfl, own1, bel1⟩
  obtain rfl : q1 = p := by have := own_len own1; rw [strs_length] at this; rw [HP.out]; exact this.symm
  have R1 := Lib.hid (row_of_own own1)
  have B1 := Lib.hid bel1
  clear own1 bel1 C1
  go_wp2_with fail
  refine (C2 _).mono ?_
  rintro e w2 ⟨A2, q2, c2, rfl, own2, bel2⟩
  obtain rfl : q2 = q := by have := own_len own2; rw [strs_length] at this; rw [HQ.out]; exact this.symm
  have R2 := Lib.hid (row_of_own own2)
  have R1' : Hid (Row w2 w2.heap.size A1 (strs ss)) := (Row.below R1.out bel2 (Nat.le_refl _)).more bel2.size
  have B2 := Lib.hid (B1.out.trans (bel2.mono B1.out.size))
  clear own2 bel2 C2 R1 B1
  go_wp2_with fail
  refine (intCompare_any _ _ _).mono ?_
  rintro e w' ⟨rfl, rfl⟩
  go_wp2_with fail
  refine (intCompare_any _ _ _).mono ?_
  rintro e w' ⟨rfl, rfl⟩
  go_wp2_with fail
  refine (compareFunc_any A1 A2 _ _ c1 c2 _ _ ss tt _ HP.out.symm HQ.out.symm lx ly SX.out SY.out (Nat.le_refl _) (Nat.le_refl _) R1'.out R2.out).mono ?_
  rintro e w3 ⟨rfl, y3⟩
  have B3 := Lib.hid (B2.out.trans (y3.mono B2.out.size))
  clear y3 R1' R2 B2
  obtain ⟨v1, hv1⟩ : ∃ v, v = cmpI (nx : Int) (ny : Int) := ⟨_, rfl⟩
  obtain ⟨v2, hv2⟩ : ∃ v, v = cmpI (q1 : Int) (q2 : Int) := ⟨_, rfl⟩
  obtain ⟨v3, hv3⟩ : ∃ v, v = cmpTs ss tt := ⟨_, rfl⟩
  rw [← hv1, ← hv2, ← hv3] at HF
  rw [← hv1, ← hv2, ← hv3]
  clear hv1 hv2 hv3
  go_wp2_with fail
  refine (orInts_any _ 3 3 _ [v1, v2, v3] _ rfl (by omega) (Row.new w3 _ (ints [v1, v2, v3]))).mono ?_
  rintro e w4 ⟨rfl, rfl⟩
  rw [← HF.out]
  have B4 := Lib.hid (B3.out.alloc B3.out.size (.cells (ints [v1, v2, v3]).toArray 3))
  go_wp2
  go_ret
  exact ⟨rfl, B4.out⟩

/-- part k is as it should be -/
def okE (ps : List (Int × List (List Int))) (k : Nat) : Bool := decide (1 ≤ (ps.getD k (0, [])).1 ∧ (ps.getD k (0, [])).1 ≤ 10006) && isFor (ps.getD k (0, [])).2 && (decide (k = 0) || decide (ord6 (ps.getD (k - 1) (0, [])).2 (ps.getD k (0, [])).2 < 0))
def okETo (ps : List (Int × List (List Int))) (k : Nat) : Bool := (List.range k).all (okE ps)
def isE (ps : List (Int × List (List Int))) : Bool := okETo ps ps.length && decide (ps.length ≤ 300)
theorem okETo_step (ps : List (Int × List (List Int))) (k : Nat) : okETo ps (k + 1) = (okETo ps k && okE ps k) := by
  unfold okETo; rw [List.range_succ, List.all_append]; simp
theorem okETo_at {ps : List (Int × List (List Int))} {k j : Nat} (h : okETo ps k = true) (hj : j < k) : okE ps j = true := by
  unfold okETo at h
  exact List.all_eq_true.1 h j (by rw [List.mem_range]; exact hj)
theorem isE_no {ps : List (Int × List (List Int))} {k : Nat} (h : okE ps k = false) (hk : k < ps.length) : isE ps = false := by
  unfold isE okETo
  have : (List.range ps.length).all (okE ps) = false := by
    rw [List.all_eq_false]
    exact ⟨k, by rw [List.mem_range]; exact hk, by rw [h]; simp⟩
  rw [this]; rfl
theorem isE_big {ps : List (Int × List (List Int))} (h : 300 < ps.length) : isE ps = false := by
  unfold isE; rw [decide_eq_false (by omega), Bool.and_false]
theorem isE_yes {ps : List (Int × List (List Int))} (h : okETo ps ps.length = true) (h2 : ps.length ≤ 300) : isE ps = true := by
  unfold isE; rw [h, decide_eq_true h2]; rfl
theorem getD_at {ps : List (Int × List (List Int))} {k : Nat} {p : Int × List (List Int)} (h : ps[k]? = some p) : ps.getD k (0, []) = p := by
  rw [List.getD_eq_getElem?_getD, h]; rfl
theorem okE_num {ps : List (Int × List (List Int))} {k : Nat} {x : Int} {f : List (List Int)} (h : ps[k]? = some (x, f)) (hx : ¬ (1 ≤ x ∧ x ≤ 10006)) : okE ps k = false := by
  unfold okE; rw [getD_at h, decide_eq_false hx]; rfl
theorem okE_for {ps : List (Int × List (List Int))} {k : Nat} {x : Int} {f : List (List Int)} (h : ps[k]? = some (x, f)) (hf : isFor f = false) : okE ps k = false := by
  unfold okE; rw [getD_at h, hf]; simp
theorem okE_zero {ps : List (Int × List (List Int))} {x : Int} {f : List (List Int)} (h : ps[0]? = some (x, f)) (hx : 1 ≤ x ∧ x ≤ 10006) (hf : isFor f = true) : okE ps 0 = true := by
  unfold okE; rw [getD_at h, decide_eq_true hx, hf]; rfl
theorem okE_succ {ps : List (Int × List (List Int))} {k : Nat} {x y : Int} {f g : List (List Int)} (h : ps[k + 1]? = some (x, f)) (h' : ps[k]? = some (y, g)) (hx : 1 ≤ x ∧ x ≤ 10006) (hf : isFor f = true) : okE ps (k + 1) = decide (ord6 g f < 0) := by
  unfold okE; rw [getD_at h, Nat.add_sub_cancel, getD_at h', decide_eq_true hx, hf]; simp
theorem okE_isFor {ps : List (Int × List (List Int))} {k : Nat} {x : Int} {f : List (List Int)} (h : ps[k]? = some (x, f)) (hk : okE ps k = true) : isFor f = true := by
  unfold okE at hk
  rw [getD_at h] at hk
  simp only [Bool.and_eq_true] at hk
  exact hk.1.2
/-- the text of the last forest -/
def lastT (ps : List (Int × List (List Int))) : Nat → List UInt8
  | 0 => []
  | k+1 => txtS (ps.getD k (0, [])).2
set_option maxHeartbeats 4000000 in
theorem isElement_any (A : Option Addr) (n c B : Nat) (ps : List (Int × List (List Int))) (w : World) (hl : ps.length = n) (hn : n ≤ 1048576) (ht : szP ps ≤ 1048576) (hB : B ≤ w.heap.size) (h : Prts w B A ps) :
    Calls Try.prog 54 #[.slice A n c] w (ResB (isE ps) w) := by
  have HL := Lib.hid hl
  by_cases hbig : 300 < n
  · have G := Lib.hid (isE_big (ps := ps) (by rw [hl]; exact hbig))
    clear hl
    go_enter Try.func54, Try.ntmps54
    go_wp2
    go_ret
    exact ⟨ret_bool G.out.symm, Below.refl _ _⟩
  · clear hl
    go_enter Try.func54, Try.ntmps54
    go_wp2_with fail
    go_loopw [3, 12] (fun l i wr => ∃ k : Nat, k ≤ n ∧ l = .string ⟨(lastT ps k).toArray⟩ ∧ i = .int .i64 k ∧ Hid (okETo ps k = true) ∧ Hid (Below w.heap.size w wr)) (fun _ i _ => n - (intOf i).toNat)
    case atStart => exact ⟨0, Nat.zero_le _, rfl, rfl, rfl, Below.refl _ _⟩
    case round =>
      obtain ⟨k, hk, rfl, rfl, HK, HB⟩ := hrel
      have hwr := HB.out.size
      by_cases hlt : k < n
      · obtain ⟨⟨x, f⟩, hx⟩ := at_lt (show k < ps.length by rw [HL.out]; exact hlt)
        obtain ⟨b, o, Ak, ck, rfl, hb, hc0, hc1, hlc, hcm, hM⟩ := (h.below HB.out hB) k x f hx
        have hle1 := szTo_step hx
        have hle2 := szTo_le ps (k + 1)
        have htot : tot f = f.length + total f := rfl
        have hfl : f.length + total f ≤ 1048576 := by omega
        have HM := Lib.hid hM
        have HX := Lib.hid hx
        clear hle1 hle2 htot hM hx
        obtain ⟨ls, hls⟩ : ∃ ls : ByteArray, ls = ⟨(lastT ps k).toArray⟩ := ⟨_, rfl⟩
        rw [← hls]
        have HLS := Lib.hid hls
        clear hls
        have HB1 : Hid (Below wr.heap.size wr (wr.alloc (.cells #[.int .i64 x, .slice Ak f.length ck] 116))) := (Below.refl _ _).alloc (Nat.le_refl _) _
        have HB2 : Hid (Below w.heap.size w (wr.alloc (.cells #[.int .i64 x, .slice Ak f.length ck] 116))) := HB.out.trans (HB1.out.mono hwr)
        by_cases hr : 1 ≤ x ∧ x ≤ 10006
        · have HR := Lib.hid hr
          have hnum : isNum x = true := isNum_iff.2 ⟨by omega, by omega⟩
          have hx0 := beq_f (show ¬ x = 0 by omega)
          have HM1 : Hid (Mat (wr.alloc (.cells #[.int .i64 x, .slice Ak f.length ck] 116)) B Ak f) := HM.out.below HB1.out (by omega)
          clear hr HM
          go_wp2_with fail
          refine (isNumber_any x _).mono ?_
          rintro e w' ⟨rfl, rfl⟩
          rw [hnum]
          go_wp2_with fail
          refine (isForest_any Ak f.length ck B f _ rfl hfl (by simp; omega) HM1.out).mono ?_
          rintro e w2 ⟨rfl, y⟩
          have hq1 : w2.cell? ⟨wr.heap.size, 1, none⟩ = some (.slice Ak f.length ck) := by
            rw [y.cell (p := ⟨wr.heap.size, 1, none⟩) (by show wr.heap.size < _; simp), World.cell?_alloc_at (hn := by simp)]; rfl
          have HM2 : Hid (Mat w2 B Ak f) := HM1.out.below y (by simp; omega)
          have HB3 := Lib.hid (HB2.out.trans (y.mono HB2.out.size))
          clear y HM1 HB1 HB2
          cases hf : isFor f
          · have G := Lib.hid (isE_no (okE_for HX.out hf) (by rw [HL.out]; exact hlt))
            clear hf
            go_wp2
            go_ret
            exact ⟨ret_bool G.out.symm, HB3.out⟩
          · have HF := Lib.hid hf
            obtain ⟨t1, t2, t3, t4⟩ := for_parts hf
            have HT1 := Lib.hid t1
            have hB3 := HB3.out.size
            clear hf t1 t4
            go_wp2_with fail
            refine (treesOf_any Ak f.length ck B f w2 rfl (by omega) (fun r hr => (tr_lv (HT1.out r hr)).1) (by omega) HM2.out).mono ?_
            rintro e w3 ⟨rfl, own3, y3⟩
            have HB4 := Lib.hid (HB3.out.trans (y3.mono hB3))
            have OW3 := Lib.hid own3
            have hs3 := y3.size
            clear own3 y3 HM2 hq1
            go_wp2_with fail
            refine (productOf_any _ w2.heap.size f.length _ (f.map Tr.txt) w3 (by omega) (fun s hs => by
              rw [List.mem_map] at hs
              obtain ⟨t, ht, rfl⟩ := hs
              have q1 := tr_lv (HT1.out t ht)
              have q2 := (lv_txt q1.1).2.2.2
              have q3 := (lv_bd q1.1).2
              omega) hs3 OW3.out).mono ?_
            rintro e w4 ⟨rfl, y4⟩
            have HB5 : Hid (Below w.heap.size w w4) := by
              have := HB4.out
              exact ⟨(y4.os).trans this.os, y4.tape.trans this.tape, y4.output.trans this.output, Nat.le_trans hB3 (Nat.le_trans hs3 y4.size), fun g hg => (y4.block g (by omega)).trans (this.block g hg)⟩
            have HTX : Hid ((Tr.sortT (f.map Tr.txt)).flatten = txtS f) := rfl
            rw [HTX.out]
            clear y4 OW3 HB4 HB3
            rcases Nat.eq_zero_or_pos k with h0 | h0
            · subst h0
              have GK : Hid (okETo ps (0 + 1) = true) := by rw [Hid, okETo_step, HK.out, okE_zero HX.out HR.out HF.out]; rfl
              have GL : Hid (lastT ps (0 + 1) = txtS f) := show txtS (ps.getD 0 (0, [])).2 = txtS f from by rw [getD_at HX.out]
              clear HK
              go_wp2
              go_roundw
              case rel => exact ⟨0 + 1, by omega, by rw [GL.out], by go_num, GK, HB5⟩
              case measure => simp [intOf]; omega
            · obtain ⟨k, rfl⟩ : ∃ j, k = j + 1 := ⟨k - 1, by omega⟩
              obtain ⟨⟨y, g⟩, hy⟩ := at_lt (show k < ps.length by rw [HL.out]; omega)
              have hg := okE_isFor hy (okETo_at HK.out (show k < k + 1 by omega))
              have HLL : Hid (lastT ps (k + 1) = txtS g) := show txtS (ps.getD k (0, [])).2 = txtS g from by rw [getD_at hy]
              obtain ⟨a1, a2, a3⟩ := txtS_parts hg
              obtain ⟨b1, b2, b3⟩ := txtS_parts HF.out
              obtain ⟨g1, g2, g3, _⟩ := for_parts hg
              have ln : ∀ (q : List (List Int)), (∀ t ∈ q, isTr t = true) → ∀ s ∈ q.map Tr.txt, s.length ≤ 1048576 := fun q hq s hs => by
                rw [List.mem_map] at hs
                obtain ⟨t, ht, rfl⟩ := hs
                have q1 := tr_lv (hq t ht)
                have q2 := (lv_txt q1.1).2.2.2
                have q3 := (lv_bd q1.1).2
                omega
              have C0 := fun W => forestCompare_any (txtS g) (txtS f) W (by omega) (by omega) (by rw [a2, List.length_map]; omega) (by rw [b2, List.length_map]; omega) (by rw [a2]; exact ln g g1) (by rw [b2]; exact ln f HT1.out)
              rw [forC_eq hg HF.out] at C0
              have HO := Lib.hid (okE_succ HX.out hy HR.out HF.out)
              obtain ⟨v, hv⟩ : ∃ v, v = ord6 g f := ⟨_, rfl⟩
              rw [← hv] at HO
              simp only [← hv] at C0
              have hk0 : decide ((0 : Int) < ((k + 1 : Nat) : Int)) = true := decide_eq_true (by omega)
              have els : ls = ⟨(txtS g).toArray⟩ := by rw [HLS.out, HLL.out]
              subst els
              clear hy a1 a2 a3 b1 b2 b3 g1 g2 g3 ln hv HLL hg
              go_wp2_with fail
              refine (C0 _).mono ?_
              rintro e w5 ⟨rfl, y5⟩
              have HB6 := Lib.hid (HB5.out.trans (y5.mono HB5.out.size))
              clear y5 C0 HB5
              by_cases hvz : v < 0
              · have GK : Hid (okETo ps (k + 1 + 1) = true) := by rw [Hid, okETo_step, HK.out, HO.out, decide_eq_true hvz]; rfl
                have GL : Hid (lastT ps (k + 1 + 1) = txtS f) := show txtS (ps.getD (k + 1) (0, [])).2 = txtS f from by rw [getD_at HX.out]
                have hd : decide (0 ≤ v) = false := decide_eq_false (by omega)
                clear HK HO
                go_wp2
                go_roundw
                case rel => exact ⟨k + 1 + 1, by omega, by rw [GL.out], by go_num, GK, HB6⟩
                case measure => simp [intOf]; omega
              · have G := Lib.hid (isE_no (k := k + 1) (by rw [HO.out]; exact decide_eq_false hvz) (by rw [HL.out]; exact hlt))
                have hd : decide (0 ≤ v) = true := decide_eq_true (by omega)
                clear HK HO
                go_wp2
                go_ret
                exact ⟨ret_bool G.out.symm, HB6.out⟩
        · have G := Lib.hid (isE_no (okE_num HX.out hr) (by rw [HL.out]; exact hlt))
          cases hnum : isNum x
          · clear HK hr
            go_wp2_with fail
            refine (isNumber_any x _).mono ?_
            rintro e w' ⟨rfl, rfl⟩
            rw [hnum]
            go_wp2
            go_ret
            exact ⟨ret_bool G.out.symm, HB2.out⟩
          · have h0 := isNum_iff.1 hnum
            obtain rfl : x = 0 := by omega
            clear HK hr
            go_wp2_with fail
            refine (isNumber_any 0 _).mono ?_
            rintro e w' ⟨rfl, rfl⟩
            rw [hnum]
            go_wp2
            go_ret
            exact ⟨ret_bool G.out.symm, HB2.out⟩
      · obtain rfl : k = n := by omega
        have G := Lib.hid (isE_yes (by rw [HL.out]; exact HK.out) (by rw [HL.out]; omega))
        clear HK
        go_wp2
        go_ret
        exact ⟨ret_bool G.out.symm, HB.out⟩
end Go.Proofs.Ytjmjdcfgbaepkaa
