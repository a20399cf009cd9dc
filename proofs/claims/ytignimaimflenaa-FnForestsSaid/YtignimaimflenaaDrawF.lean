/-
  Draws of forests.
-/
import Derived.Test.YtignimaimflenaaDrawT
import Derived.Test.YtignimaimflenaaSort
import Derived.Test.YtignimaimflenaaSCan
import Derived.Test.YtignimaimflenaaOwn1
import Derived.Test.YtignimaimflenaaPush
import Derived.Test.YtignimaimflenaaSortO
import Derived.Test.YtignimaimflenaaTreesOfT
import Derived.Test.YtignimaimflenaaForTr
namespace Go.Proofs.Ytignimaimflenaa
open Go.RowKit Fld
set_option linter.unusedVariables false
set_option linter.unusedSimpArgs false
set_option maxRecDepth 100000

/-- a level list, but for its length -/
def LvU (ys : List Int) : Prop := ys.getD 0 0 = 0 ∧ ∀ i, i < ys.length → 1 ≤ i → 1 ≤ ys.getD i 0 ∧ ys.getD i 0 ≤ ys.getD (i - 1) 0 + 1
theorem LvU.lv {ys : List Int} (h : LvU ys) (h1 : 1 ≤ ys.length) (h8 : ys.length ≤ 8) : Tr.isLv ys = true := Tr.isLv_iff.2 ⟨h1, h8, h.1, h.2⟩
theorem UpTo.zero : UpTo [0] 0 := fun y hy => by
  obtain rfl : y = 0 := by simpa using hy
  omega
theorem LvU.snoc {ys : List Int} {j : Nat} {y z : Int} (h : LvU ys) (hl : ys.length = j + 1) (hy : ys[j]? = some y) (h0 : 1 ≤ z) (h1 : z ≤ y + 1) : LvU (ys ++ [z]) := by
  refine ⟨?_, fun i hi hi1 => ?_⟩
  · have := h.1
    rw [List.getD_eq_getElem?_getD] at this ⊢
    rw [List.getElem?_append_left (by omega)]; exact this
  · rw [List.length_append, List.length_singleton] at hi
    by_cases e : i = j + 1
    · subst e
      have q1 : (ys ++ [z]).getD (j + 1) 0 = z := by rw [List.getD_eq_getElem?_getD, List.getElem?_append_right (by omega), hl, Nat.sub_self]; rfl
      have q2 : (ys ++ [z]).getD (j + 1 - 1) 0 = y := by rw [Nat.add_sub_cancel, List.getD_eq_getElem?_getD, List.getElem?_append_left (by omega), hy]; rfl
      rw [q1, q2]; exact ⟨h0, h1⟩
    · have q := h.2 i (by omega) hi1
      rw [List.getD_eq_getElem?_getD, List.getD_eq_getElem?_getD] at q ⊢
      rw [List.getElem?_append_left (by omega), List.getElem?_append_left (by omega)]; exact q
set_option maxHeartbeats 1000000 in
theorem l03DrawLv_any (G B : Nat) (xs : List Int) (n : Nat) (w : World) (h1 : 1 ≤ n) (hn : n ≤ 64) (s : Src w 96 G B xs) :
    Calls Try.prog 100 #[.pointer (some ⟨G, 0, none⟩), .int .i64 n] w (DrawnL (fun ys => LvU ys ∧ 1 ≤ ys.length ∧ ys.length ≤ n) 96 G B xs w) := by
  obtain ⟨i0, hi, hz0, hz1, hz2⟩ := info_parts info_i64
  have HG := s.lt
  have S0 := Lib.hid (s.alloc (.cells #[.int .i64 0] 2))
  have O0 : Hid ((w.alloc (.cells #[.int .i64 0] 2)).ownsRow w.heap.size 2 1 (.slice (some ⟨w.heap.size, 0, none⟩) 1 1) 1 (ints [0])) := World.ownsRow_lit w #[.int .i64 0] 1 (Nat.le_refl _) (by decide) rfl
  have U0 : Hid (LvU [0]) := ⟨rfl, fun i hi h1 => by simp at hi; omega⟩
  clear s
  go_enter Try.func100, Try.ntmps100
  go_wp2_with fail
  refine (l01Next_any G B xs _ _ (by omega) S0.out).mono ?_
  rintro e w1 ⟨r, rfl, r0, r1, s1, o1⟩
  obtain ⟨rn, rfl⟩ : ∃ rn : Nat, r = (rn : Int) := ⟨r.toNat, by omega⟩
  have O1 := Lib.hid (own_pastv O0.out HG o1)
  have G1 := Lib.hid (only_trans (World.grownBy_alloc w (.cells #[.int .i64 0] 2) (some G)) o1)
  have S1 := Lib.hid s1
  clear O0 S0 s1 o1
  go_wp2_with fail
  go_loopw [5, 6] (fun v q wr => ∃ j g cap : Nat, ∃ ys : List Int, j ≤ rn ∧ v = .slice (some ⟨g, 0, none⟩) (j + 1) cap ∧ q = .int .i64 ((rn : Int) - j) ∧ ys.length = j + 1 ∧ Hid (LvU ys ∧ UpTo ys j) ∧ wr.ownsRow w.heap.size 2 1 (.slice (some ⟨g, 0, none⟩) (j + 1) cap) (j + 1) (ints ys) ∧ Src wr 96 G B xs ∧ w.grownBy wr (some G)) (fun _ q _ => (intOf q).toNat)
  case atStart => exact ⟨0, _, _, [0], by omega, rfl, by simp, rfl, ⟨U0.out, UpTo.zero⟩, O1.out, S1.out, G1.out⟩
  case round =>
    obtain ⟨j, g, cap, ys, hj, rfl, rfl, hy1, HU, hown, hs, ho⟩ := hrel
    by_cases hlt : j < rn
    · have h0 : (0 : Int) < (rn : Int) - j := by omega
      have hg := (hown.lt g rfl).1
      obtain ⟨y, hy, hm⟩ := at_lastT hy1
      have hy2 := HU.out.2 y hm
      have hyk := Lib.hid hy
      have hc := hown.cellAt j (by omega)
      rw [ints_at hy] at hc
      have HY1 := Lib.hid hy1
      have HO := Lib.hid hown
      have HGR := Lib.hid ho
      have hsz := ho.size
      clear hown hy1 ho hy hm O1 S1 G1 U0
      go_wp2_with fail
      refine (l01Next_any G B xs _ _ (by omega) hs).mono ?_
      rintro e w1 ⟨r, rfl, q0, q1, s1, o1⟩
      have own1 := own_pastv HO.out HG o1
      have hsz1 := o1.size
      have HR : Hid (LvU (ys ++ [1 + r]) ∧ UpTo (ys ++ [1 + r]) (j + 1)) := ⟨HU.out.1.snoc HY1.out hyk.out (by omega) (by omega), HU.out.2.snoc (by omega) (by omega)⟩
      have HR' := Lib.hid (ints_snocT ys (1 + r))
      have O1 := Lib.hid o1
      clear hs o1 HU
      go_wp2_with (at_builtin; refine wpList_append_lies _ rfl (.tmp 15) (.tmp 26) 22 rfl w.heap.size 2 i0 _ 1 8 Try.underlying22 hi hz0 hz1 hz2 rfl (by omega) (.slice (some ⟨g, 0, none⟩) (j + 1) cap) (j + 1) (ints ys) rfl (own1.alloc _) ⟨w1.heap.size, 0, none⟩ 1 1 [.int .i64 (1 + r)] rfl rfl (World.news_of_block (cs := #[.int .i64 (1 + r)]) (heap_alloc_new _ _)) (by simp [Value.oneCell']) (by omega) (by simp only [maxLen]; omega) (by omega) (by simp; omega) (w1.heap.size + 1) (by simp) ?_; intro g2 cap2 w2 hown2 hgrow2 hat2 hlt2)
      rw [HR'.out] at hown2
      have s2 := (s1.alloc (.cells #[.int .i64 (1 + r)] 2)).only (g := g) hgrow2 (by omega) (by obtain ⟨_, _, _, _, _, _, h3, _⟩ := s1; omega)
      have G2 := Lib.hid (only_row (only_alloc (only_trans HGR.out O1.out) _) hgrow2 hg)
      have S2 := Lib.hid s2
      have OW2 := Lib.hid hown2
      clear hown2 hgrow2 hat2 s1 s2 own1
      go_wp2
      go_roundw
      case rel => exact ⟨j + 1, _, _, ys ++ [1 + r], by omega, rfl, by go_num, by simp [HY1.out], HR, OW2.out, S2.out, G2.out⟩
      case measure => simp [intOf]; omega
    · obtain rfl : j = rn := by omega
      have HD : Hid (DrawnL (fun ys => LvU ys ∧ 1 ≤ ys.length ∧ ys.length ≤ n) 96 G B xs w (.returned (.slice (some ⟨g, 0, none⟩) (j + 1) cap)) wr) := ⟨g, cap, j + 1, ys, rfl, hy1, ⟨HU.out.1, by omega, by omega⟩, hown, hs, ho⟩
      have h0 : ¬ (0 : Int) < (j : Int) - j := by omega
      clear hown hs ho hy1 HU O1 S1 G1 U0
      go_wp2
      go_ret
      exact HD.out
theorem ownMat_draw {w w' : World} {lo hi n G : Nat} {v : Value} {m : List (List Int)} {vs : List Value} (h : OwnMat w lo hi v n m vs) (o : w.grownBy w' (some G)) (hG : G < lo) (hhi : hi ≤ w.heap.size) : OwnMat w' lo hi v n m vs :=
  h.keep fun g h1 h2 => o.block g (by omega) (fun e => by have := Option.some.inj e; omega)
/-! forests -/
theorem only_below {w a b : World} {G : Nat} (h : w.grownBy a (some G)) (k : Below a.heap.size a b) : w.grownBy b (some G) :=
  ⟨k.os.trans h.os, k.tape.trans h.tape, k.output.trans h.output, Nat.le_trans h.size k.size, fun i hi hne => (k.block i (Nat.lt_of_lt_of_le hi h.size)).trans (h.block i hi hne)⟩
theorem total_push (m : List (List Int)) (r : List Int) : total (m ++ [r]) = total m + r.length := by unfold total; simp
theorem RwO.lo {lo lo' : Nat} {w : World} {b o k cap : Nat} {m : List (List Int)} (h : RwO lo w b o k cap m) (hl : lo' ≤ lo) : RwO lo' w b o k cap m := by
  obtain ⟨vs, s, h1, h2, h3, h4, h5⟩ := h
  exact ⟨vs, s, by omega, h2, h3, h4, fun v hv z hz => Nat.le_trans hl (h5 v hv z hz)⟩
theorem isTr_can {t : List Int} (h : Tr.isLv t = true) : isTr (Tr.can t) = true := by
  unfold isTr eqL
  rw [(lv_can h).1, (Tr.can_can h).1]; simp
/-- a forest that was drawn: trees in order, few nodes -/
def DrawnF (most : Nat) (T : TypeId) (G B : Nat) (xs : List Int) (w : World) (e : Ending) (w' : World) : Prop :=
  ∃ b o c, ∃ L : List (List Int), e = .returned (.slice (some ⟨b, o, none⟩) (Tr.sortL L).length c) ∧ (Tr.sortL L).length ≤ c ∧ (∀ t ∈ L, isTr t = true) ∧ total L ≤ most ∧ RwO w.heap.size w' b o (Tr.sortL L).length c (Tr.sortL L) ∧ Src w' T G B xs ∧ w.grownBy w' (some G)
set_option maxHeartbeats 4000000 in
theorem l03DrawForest_any (G B : Nat) (xs : List Int) (most : Nat) (w : World) (hm8 : most ≤ 8) (s : Src w 96 G B xs) :
    Calls Try.prog 84 #[.pointer (some ⟨G, 0, none⟩), .int .i64 most] w (DrawnF most 96 G B xs w) := by
  obtain ⟨j0, hj, hy0, hy1, hy2⟩ := info_parts info_row
  have HG := s.lt
  have S0 := Lib.hid (s.alloc (.cells #[] 22))
  have O0 := Lib.hid (OwnMat.empty w)
  clear s
  go_enter Try.func84, Try.ntmps84
  go_wp2_with fail
  refine (l01Next_any G B xs _ _ (by omega) S0.out).mono ?_
  rintro e w1 ⟨r, rfl, r0, r1, s1, o1⟩
  obtain ⟨rn, rfl⟩ : ∃ rn : Nat, r = (rn : Int) := ⟨r.toNat, by omega⟩
  have hz1 : w.heap.size + 1 ≤ w1.heap.size := by have := o1.size; simpa using this
  have O1 : Hid (OwnMat w1 w.heap.size w1.heap.size (.slice (some ⟨w.heap.size, 0, none⟩) 0 0) 0 [] []) := (ownMat_draw O0.out o1 HG (by simp)).more (Nat.le_refl _) hz1
  have G1 := Lib.hid (only_trans (World.grownBy_alloc w (.cells #[] 22) (some G)) o1)
  have S1 := Lib.hid s1
  clear O0 S0 s1 o1
  go_wp2_with fail
  go_loopw [5, 6] (fun v q wr => ∃ (ln k g cap : Nat) (m : List (List Int)) (vs : List Value), ln ≤ 8 ∧ v = .slice (some ⟨g, 0, none⟩) k cap ∧ q = .int .i64 ln ∧ Hid (OwnMat wr w.heap.size wr.heap.size (.slice (some ⟨g, 0, none⟩) k cap) k m vs) ∧ (∀ t ∈ m, isTr t = true) ∧ total m + ln ≤ most ∧ Hid (Src wr 96 G B xs) ∧ Hid (w.grownBy wr (some G))) (fun _ q _ => (intOf q).toNat)
  case atStart => exact ⟨rn, 0, w.heap.size, 0, [], [], by omega, rfl, rfl, O1, (by simp), (by simp [total]; omega), S1, G1⟩
  case round =>
    clear O1 S1 G1 r0 r1 hz1
    obtain ⟨ln, k, g, cap, m, vs, hln, rfl, rfl, HO, HTR, hto, HS, HGR⟩ := hrel
    have hmk : m.length = k := HO.out.size
    have hmt := len_total (f := m) (fun r hr => (lv_bd (tr_lv (HTR r hr)).1).1)
    have HTR := Lib.hid HTR
    have HMK := Lib.hid hmk
    have hk8 : k ≤ 8 := by omega
    have hGw := HGR.out.size
    clear hmk hmt
    rcases Nat.eq_zero_or_pos ln with hl0 | hl0
    · subst hl0
      have hM := Lib.hid HO.out.mat
      clear HO
      go_wp2_with fail
      refine (l03SortO_any _ k cap wr.heap.size m wr HMK.out hk8 (fun r hr => (tr_lv (HTR.out r hr)).1) (Nat.le_refl _) hM.out).mono ?_
      rintro e w2 ⟨b, o, c, rfl, hc, rws, y⟩
      have HD : Hid (DrawnF most 96 G B xs w (.returned (.slice (some ⟨b, o, none⟩) (Tr.sortL m).length c)) w2) := ⟨b, o, c, m, rfl, hc, HTR.out, by omega, rws.lo hGw, HS.out.below y, only_below HGR.out y⟩
      clear hc rws y HS HGR HTR
      go_wp2
      go_ret
      exact HD.out
    · have hl1 : (0 : Int) < (ln : Int) := by omega
      have HS1 := HS.out
      clear HS
      go_wp2_with fail
      refine (l03DrawLv_any G B xs ln _ hl0 (by omega) HS1).mono ?_
      rintro e w2 ⟨g2, c2, n2, ys, rfl, hy, ⟨hlv, hy1', hy2'⟩, own2, s2, o2⟩
      rw [hy] at hy1' hy2'
      have hlv2 := hlv.lv (by omega) (by omega)
      have HO2 := Lib.hid (ownMat_draw HO.out o2 HG (Nat.le_refl _))
      have G2 := Lib.hid (only_trans HGR.out o2)
      have hz2 := o2.size
      have HY := Lib.hid hy
      have HLV := Lib.hid hlv2
      have R2 := Lib.hid (row_of_own own2)
      clear HO HGR own2 o2 hy hlv hlv2 HS1
      go_wp2_with fail
      refine (l03Canon_any _ n2 c2 w2.heap.size ys w2 HY.out HLV.out (Nat.le_refl _) R2.out).mono ?_
      rintro e w3 ⟨A3, c3, rfl, own3, b3⟩
      have HO3 := Lib.hid (HO2.out.below b3 hz2)
      have S3 := Lib.hid (s2.below b3)
      have G3 := Lib.hid (only_below G2.out b3)
      have OW3 := Lib.hid own3
      have hz3 := b3.size
      have HCL : Hid ((Tr.can ys).length = n2) := by rw [Hid, (lv_can HLV.out).2, HY.out]
      have HTC := Lib.hid (isTr_can HLV.out)
      have hcp3 := own_room own3
      clear own3 b3 s2 HO2 G2 R2
      have hGw3 : w.heap.size ≤ w3.heap.size := by omega
      have GT : Hid (∀ t ∈ m ++ [Tr.can ys], isTr t = true) := fun t ht => by
        rcases List.mem_append.1 ht with q | q
        · exact HTR.out t q
        · rw [List.mem_singleton] at q; rw [q]; exact HTC.out
      rcases Nat.eq_zero_or_pos k with hk0 | hk0
      · have z0 : decide ((0 : Int) < (k : Int)) = false := decide_eq_false (by omega)
        have z1 : ¬ (0 : Int) < (k : Int) := by omega
        have S9 := S3
        have G9 := G3
        have hh9 : w2.heap.size ≤ w3.heap.size := hz3
        have hl9 : w.heap.size ≤ w2.heap.size := by omega
        clear S3 G3 hk0
        have HOM := Lib.hid (HO3.out.more (Nat.le_refl _) hz2)
        have HOW := Lib.hid (OW3.out)
        have hOO := HOM.out.outer.1
        have hgG := (hOO.lt g rfl).1
        have hBG2 : B ≤ G := by obtain ⟨_, _, _, _, _, _, h, _⟩ := S9.out; exact h
        have HVL : Hid (vs.length = k) := by have := own_len hOO; exact this
        go_wp2_with (at_builtin; refine wpList_append_lies _ rfl (.tmp 54) (.tmp 56) 37 rfl w.heap.size 22 j0 _ 1 24 Try.underlying37 hj hy0 hy1 hy2 rfl (by omega) (.slice (some ⟨g, 0, none⟩) k cap) k vs rfl (hOO.alloc _) ⟨w3.heap.size, 0, none⟩ 1 1 [.slice A3 n2 c3] rfl rfl (World.news_of_block (cs := #[.slice A3 n2 c3]) (heap_alloc_new _ _)) (by simp [Value.oneCell']) (by omega) (by simp only [maxLen]; omega) (by omega) (by simp; omega) (w3.heap.size + 1) (by simp) ?_; intro g5 cap5 w5 hown5 hgrow5 hat5 hlt5; have hc5 : w5.cell? ⟨g5, k, none⟩ = some (.slice A3 n2 c3) := by rw [hown5.cellAt k (by omega), List.getElem?_append_right (by rw [HVL.out]; exact Nat.le_refl _), HVL.out, Nat.sub_self]; rfl)
        have HPU := Lib.hid (OwnMat.push HOM.out hh9 HCL.out HOW.out hl9 hown5 hgrow5)
        have S5 := Lib.hid ((S9.out.alloc (.cells #[.slice A3 n2 c3] 22)).only (g := g) hgrow5 (by omega) (by omega))
        have G5 := Lib.hid (only_row (only_alloc G9.out _) hgrow5 hgG)
        have HML : Hid (total (m ++ [(Tr.can ys)]) = total m + n2) := by have h9 := HCL.out; have h8 := total_push m (Tr.can ys); unfold Hid; omega
        clear hown5 hgrow5 hat5 HOM HOW hOO S9 G9
        go_wp2
        go_roundw
        case rel => exact ⟨ln - n2, k + 1, g5, cap5, m ++ [(Tr.can ys)], _, by omega, rfl, by go_num, HPU, (GT.out), by rw [HML.out]; omega, S5, G5⟩
        case measure => simp [intOf]; omega
      · obtain ⟨j, rfl⟩ : ∃ j, k = j + 1 := ⟨k - 1, by omega⟩
        obtain ⟨rw9, hrw⟩ := at_lt (show j < m.length by rw [HMK.out]; omega)
        have hr1 : 1 ≤ rw9.length := (lv_bd (tr_lv (HTR.out rw9 (List.mem_of_getElem? hrw))).1).1
        have GT2 : Hid (∀ t ∈ m ++ [rw9], isTr t = true) := fun t ht => by
          rcases List.mem_append.1 ht with q | q
          · exact HTR.out t q
          · rw [List.mem_singleton] at q; rw [q]; exact HTR.out _ (List.mem_of_getElem? hrw)
        obtain ⟨b9, o9, A9, c9, e9, hb9, hc9, hl9c, _, hr9⟩ := HO3.out.mat j rw9 hrw
        injection e9 with e9
        injection e9 with e9 e9'
        subst e9 e9'
        rw [Nat.zero_add] at hc9
        obtain ⟨bA, oA, rfl, hbA, _⟩ := hr9 0 _ (ints_at (List.getElem?_eq_getElem hr1))
        have HRW := Lib.hid hr9
        have hr8 : rw9.length ≤ 8 := (lv_bd (tr_lv (HTR.out rw9 (List.mem_of_getElem? hrw))).1).2
        have z0 : decide ((0 : Int) < (j : Int) + 1) = true := decide_eq_true (by omega)
        have z1 : (0 : Int) < (j : Int) + 1 := by omega
        have hGw2 : G < w2.heap.size := by omega
        have HRJ := Lib.hid hrw
        clear hrw hr9 hk0
        by_cases hle : rw9.length ≤ ln
        · have y0 : decide ((rw9.length : Int) ≤ (ln : Int)) = true := decide_eq_true (by omega)
          have y1 : (rw9.length : Int) ≤ (ln : Int) := by omega
          have S3' := S3.out
          clear S3
          go_wp2_with fail
          refine (l01Next_any G B xs _ _ (by omega) S3').mono ?_
          rintro e w4 ⟨r, rfl, q0, q1, s4, o4⟩
          have HO4 := Lib.hid (ownMat_draw HO3.out o4 HG (show wr.heap.size ≤ w3.heap.size by omega))
          have OW4 := Lib.hid (own_pastv OW3.out hGw2 o4)
          have G4 := Lib.hid (only_trans G3.out o4)
          have S4 := Lib.hid s4
          have hz4 := o4.size
          clear S3' HO3 OW3 G3 s4 o4 hc9
          by_cases hr0 : r = 0
          · subst hr0
            obtain ⟨b9, o9, A9, c9, e9, hb9, hc9, hl9c, _, hr9⟩ := HO4.out.mat j rw9 HRJ.out
            injection e9 with e9
            injection e9 with e9 e9'
            subst e9 e9'
            rw [Nat.zero_add] at hc9
            obtain ⟨bA, oA, rfl, hbA, _⟩ := hr9 0 _ (ints_at (List.getElem?_eq_getElem hr1))
            have HRW := Lib.hid hr9
            have S4' := S4
            clear hr9 q0 q1
            go_wp2_with fail
            refine (l01Own_any ⟨bA, oA, none⟩ rw9.length c9 wr.heap.size rw9 _ rfl (by omega) (by omega) HRW.out).mono ?_
            rintro e w6 ⟨A6, c6, rfl, own6, b6⟩
            have HO6 := Lib.hid (HO4.out.below b6 (show wr.heap.size ≤ w4.heap.size by omega))
            have S9 := Lib.hid (S4.out.below b6)
            have G9 := Lib.hid (only_below G4.out b6)
            have OW6 := Lib.hid own6
            have hh9 := b6.size
            have hl9 : w.heap.size ≤ w4.heap.size := by omega
            have hcp6 := own_room own6
            clear own6 b6 HO4 S4 S4' G4 OW4 hc9 HRW
            have HOM := Lib.hid (HO6.out.more (Nat.le_refl _) (show wr.heap.size ≤ w4.heap.size by omega))
            have HOW := Lib.hid (OW6.out)
            have hOO := HOM.out.outer.1
            have hgG := (hOO.lt g rfl).1
            have hBG2 : B ≤ G := by obtain ⟨_, _, _, _, _, _, h, _⟩ := S9.out; exact h
            have HVL : Hid (vs.length = (j + 1)) := by have := own_len hOO; exact this
            go_wp2_with (at_builtin; refine wpList_append_lies _ rfl (.tmp 54) (.tmp 56) 37 rfl w.heap.size 22 j0 _ 1 24 Try.underlying37 hj hy0 hy1 hy2 rfl (by omega) (.slice (some ⟨g, 0, none⟩) (j + 1) cap) (j + 1) vs rfl (hOO.alloc _) ⟨w6.heap.size, 0, none⟩ 1 1 [.slice A6 rw9.length c6] rfl rfl (World.news_of_block (cs := #[.slice A6 rw9.length c6]) (heap_alloc_new _ _)) (by simp [Value.oneCell']) (by omega) (by simp only [maxLen]; omega) (by omega) (by simp; omega) (w6.heap.size + 1) (by simp) ?_; intro g5 cap5 w5 hown5 hgrow5 hat5 hlt5; have hc5 : w5.cell? ⟨g5, (j + 1), none⟩ = some (.slice A6 rw9.length c6) := by rw [hown5.cellAt (j + 1) (by omega), List.getElem?_append_right (by rw [HVL.out]; exact Nat.le_refl _), HVL.out, Nat.sub_self]; rfl)
            have HPU := Lib.hid (OwnMat.push HOM.out hh9 (Eq.refl rw9.length) HOW.out hl9 hown5 hgrow5)
            have S5 := Lib.hid ((S9.out.alloc (.cells #[.slice A6 rw9.length c6] 22)).only (g := g) hgrow5 (by omega) (by omega))
            have G5 := Lib.hid (only_row (only_alloc G9.out _) hgrow5 hgG)
            have HML : Hid (total (m ++ [rw9]) = total m + rw9.length) := by have h9 := (Eq.refl rw9.length); have h8 := total_push m rw9; unfold Hid; omega
            clear hown5 hgrow5 hat5 HOM HOW hOO S9 G9
            go_wp2
            go_roundw
            case rel => exact ⟨ln - rw9.length, (j + 1) + 1, g5, cap5, m ++ [rw9], _, by omega, rfl, by go_num, HPU, (GT2.out), by rw [HML.out]; omega, S5, G5⟩
            case measure => simp [intOf]; omega
          · have S9 := S4
            have G9 := G4
            have hh9 : w2.heap.size ≤ w4.heap.size := by omega
            have hl9 : w.heap.size ≤ w2.heap.size := by omega
            clear S4 G4
            have HOM := Lib.hid (HO4.out.more (Nat.le_refl _) hz2)
            have HOW := Lib.hid (OW4.out)
            have hOO := HOM.out.outer.1
            have hgG := (hOO.lt g rfl).1
            have hBG2 : B ≤ G := by obtain ⟨_, _, _, _, _, _, h, _⟩ := S9.out; exact h
            have HVL : Hid (vs.length = (j + 1)) := by have := own_len hOO; exact this
            go_wp2_with (at_builtin; refine wpList_append_lies _ rfl (.tmp 54) (.tmp 56) 37 rfl w.heap.size 22 j0 _ 1 24 Try.underlying37 hj hy0 hy1 hy2 rfl (by omega) (.slice (some ⟨g, 0, none⟩) (j + 1) cap) (j + 1) vs rfl (hOO.alloc _) ⟨w4.heap.size, 0, none⟩ 1 1 [.slice A3 n2 c3] rfl rfl (World.news_of_block (cs := #[.slice A3 n2 c3]) (heap_alloc_new _ _)) (by simp [Value.oneCell']) (by omega) (by simp only [maxLen]; omega) (by omega) (by simp; omega) (w4.heap.size + 1) (by simp) ?_; intro g5 cap5 w5 hown5 hgrow5 hat5 hlt5; have hc5 : w5.cell? ⟨g5, (j + 1), none⟩ = some (.slice A3 n2 c3) := by rw [hown5.cellAt (j + 1) (by omega), List.getElem?_append_right (by rw [HVL.out]; exact Nat.le_refl _), HVL.out, Nat.sub_self]; rfl)
            have HPU := Lib.hid (OwnMat.push HOM.out hh9 HCL.out HOW.out hl9 hown5 hgrow5)
            have S5 := Lib.hid ((S9.out.alloc (.cells #[.slice A3 n2 c3] 22)).only (g := g) hgrow5 (by omega) (by omega))
            have G5 := Lib.hid (only_row (only_alloc G9.out _) hgrow5 hgG)
            have HML : Hid (total (m ++ [(Tr.can ys)]) = total m + n2) := by have h9 := HCL.out; have h8 := total_push m (Tr.can ys); unfold Hid; omega
            clear hown5 hgrow5 hat5 HOM HOW hOO S9 G9
            go_wp2
            go_roundw
            case rel => exact ⟨ln - n2, (j + 1) + 1, g5, cap5, m ++ [(Tr.can ys)], _, by omega, rfl, by go_num, HPU, (GT.out), by rw [HML.out]; omega, S5, G5⟩
            case measure => simp [intOf]; omega
        · have y0 : decide ((rw9.length : Int) ≤ (ln : Int)) = false := decide_eq_false (by omega)
          have y1 : ¬ (rw9.length : Int) ≤ (ln : Int) := by omega
          have S9 := S3
          have G9 := G3
          have hh9 : w2.heap.size ≤ w3.heap.size := hz3
          have hl9 : w.heap.size ≤ w2.heap.size := by omega
          clear S3 G3
          have HOM := Lib.hid (HO3.out.more (Nat.le_refl _) hz2)
          have HOW := Lib.hid (OW3.out)
          have hOO := HOM.out.outer.1
          have hgG := (hOO.lt g rfl).1
          have hBG2 : B ≤ G := by obtain ⟨_, _, _, _, _, _, h, _⟩ := S9.out; exact h
          have HVL : Hid (vs.length = (j + 1)) := by have := own_len hOO; exact this
          go_wp2_with (at_builtin; refine wpList_append_lies _ rfl (.tmp 54) (.tmp 56) 37 rfl w.heap.size 22 j0 _ 1 24 Try.underlying37 hj hy0 hy1 hy2 rfl (by omega) (.slice (some ⟨g, 0, none⟩) (j + 1) cap) (j + 1) vs rfl (hOO.alloc _) ⟨w3.heap.size, 0, none⟩ 1 1 [.slice A3 n2 c3] rfl rfl (World.news_of_block (cs := #[.slice A3 n2 c3]) (heap_alloc_new _ _)) (by simp [Value.oneCell']) (by omega) (by simp only [maxLen]; omega) (by omega) (by simp; omega) (w3.heap.size + 1) (by simp) ?_; intro g5 cap5 w5 hown5 hgrow5 hat5 hlt5; have hc5 : w5.cell? ⟨g5, (j + 1), none⟩ = some (.slice A3 n2 c3) := by rw [hown5.cellAt (j + 1) (by omega), List.getElem?_append_right (by rw [HVL.out]; exact Nat.le_refl _), HVL.out, Nat.sub_self]; rfl)
          have HPU := Lib.hid (OwnMat.push HOM.out hh9 HCL.out HOW.out hl9 hown5 hgrow5)
          have S5 := Lib.hid ((S9.out.alloc (.cells #[.slice A3 n2 c3] 22)).only (g := g) hgrow5 (by omega) (by omega))
          have G5 := Lib.hid (only_row (only_alloc G9.out _) hgrow5 hgG)
          have HML : Hid (total (m ++ [(Tr.can ys)]) = total m + n2) := by have h9 := HCL.out; have h8 := total_push m (Tr.can ys); unfold Hid; omega
          clear hown5 hgrow5 hat5 HOM HOW hOO S9 G9
          go_wp2
          go_roundw
          case rel => exact ⟨ln - n2, (j + 1) + 1, g5, cap5, m ++ [(Tr.can ys)], _, by omega, rfl, by go_num, HPU, (GT.out), by rw [HML.out]; omega, S5, G5⟩
          case measure => simp [intOf]; omega
end Go.Proofs.Ytignimaimflenaa
