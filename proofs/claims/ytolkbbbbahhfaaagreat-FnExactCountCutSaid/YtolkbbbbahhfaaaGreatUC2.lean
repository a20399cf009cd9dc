/-
  Texts of this seat, joined: what several laws lean on.
-/
import Derived.Test.YtolkbbbbahhfaaaGreatUC1
import Derived.Test.YtolkbbbbahhfaaaGreatForTr
import Derived.Test.YtolkbbbbahhfaaaGreatTreesOfT
import Derived.Test.YtolkbbbbahhfaaaGreatSame
import Derived.Test.YtolkbbbbahhfaaaGreatForest
import Derived.Test.YtolkbbbbahhfaaaGreatSCan
import Derived.Test.YtolkbbbbahhfaaaGreatLev
import Derived.Test.YtolkbbbbahhfaaaGreatForestS
import Derived.Test.YtolkbbbbahhfaaaGreatNestc
import Derived.Test.YtolkbbbbahhfaaaGreatMark1
/-
  The model's cuts of forests and trees.
-/
namespace Go.Proofs.YtolkbbbbahhfaaaGreat
open Go.RowKit Fld
set_option linter.unusedVariables false
set_option linter.unusedSimpArgs false
set_option maxRecDepth 100000

theorem pow_pos2 (n : Nat) : (1 : Int) ≤ 2 ^ n := by
  induction n with
  | zero => simp
  | succ n ih => rw [Int.pow_succ]; omega
theorem foldC_le (f : List Int → Int) : ∀ (ts : List (List Int)) (x : Int), 0 ≤ x → (∀ b ∈ ts, 0 ≤ f b ∧ f b ≤ 2 ^ b.length) → 0 ≤ ts.foldl (fun a b => a * f b) x ∧ ts.foldl (fun a b => a * f b) x ≤ x * 2 ^ total ts
  | [], x, h0, _ => by simp [total, h0]
  | b :: r, x, h0, h => by
    rw [List.foldl_cons, total_cons, Int.pow_add]
    have hb := h b (by simp)
    have g1 := Int.mul_nonneg h0 hb.1
    have ih := foldC_le f r (x * f b) g1 (fun b hb => h b (by simp [hb]))
    refine ⟨ih.1, Int.le_trans ih.2 ?_⟩
    have g2 := Int.mul_le_mul_of_nonneg_left hb.2 h0
    have g3 := Int.mul_le_mul_of_nonneg_right g2 (show (0 : Int) ≤ 2 ^ total r by have := pow_pos2 (total r); omega)
    exact Int.le_trans g3 (by rw [Int.mul_assoc]; exact Int.le_refl _)
theorem cntS_le : ∀ (k : Nat) (t : List Int), Tr.isLv t = true → 0 ≤ cntS k t ∧ cntS k t ≤ 2 ^ t.length
  | 0, t, _ => ⟨Int.le_refl _, by have := pow_pos2 t.length; show (0 : Int) ≤ _; omega⟩
  | k+1, t, h => by
    obtain ⟨hb, ht, _⟩ := branL_parts h
    have := foldC_le (cntS k) (Tr.branL t) 1 (by omega) (fun b h => cntS_le k b (hb b h).1)
    rw [cntS, ← ht, Int.pow_succ]
    have g := pow_pos2 (total (Tr.branL t))
    omega
theorem foldT_sum (k : Nat) : ∀ (ts : List (List Int)) (acc : List Spl), sumC (ts.foldl (fun acc b => timesS acc (spF k b)) acc) = ts.foldl (fun a b => a * cntS k b) (sumC acc)
  | [], acc => by rw [List.foldl_nil, List.foldl_nil]
  | a :: r, acc => by rw [List.foldl_cons, List.foldl_cons, foldT_sum k r, timesS_sum, spF_sum k a]
/-- the cuts of a forest -/
def spFs (k : Nat) (f : List (List Int)) : List Spl := f.foldl (fun acc b => timesS acc (spF k b)) [([], [], 1)]
theorem spFs_snoc (k : Nat) (f : List (List Int)) (t : List Int) : spFs k (f ++ [t]) = timesS (spFs k f) (spF k t) := by unfold spFs; rw [List.foldl_append, List.foldl_cons, List.foldl_nil]
theorem pow7 {n : Nat} (h : n ≤ 7) : (2 : Int) ^ n ≤ 128 := by
  have : n = 0 ∨ n = 1 ∨ n = 2 ∨ n = 3 ∨ n = 4 ∨ n = 5 ∨ n = 6 ∨ n = 7 := by omega
  rcases this with rfl | rfl | rfl | rfl | rfl | rfl | rfl | rfl <;> decide
theorem spFs_sum {k : Nat} {f : List (List Int)} (h : ∀ r ∈ f, Tr.isLv r = true) (h7 : total f ≤ 7) : sumC (spFs k f) ≤ 128 := by
  unfold spFs
  rw [foldT_sum, show sumC [(([] : List (List Int)), ([] : List (List Int)), (1 : Int))] = 1 from rfl]
  have := (foldC_le (cntS k) f 1 (by omega) (fun b hb => cntS_le k b (h b hb))).2
  have := pow7 h7
  omega
theorem spFs_ok {k : Nat} {f : List (List Int)} (h : ∀ r ∈ f, Tr.isLv r = true ∧ r.length ≤ k) : ∀ s ∈ spFs k f, OkSp (total f) s := by
  have := fold_okS (spF k) f [([], [], 1)] 0 (fun b hb s hs => spF_ok k b (h b hb).1 (h b hb).2 s hs) one_okS
  rw [Nat.zero_add] at this
  exact this
theorem total_take_le (f : List (List Int)) (k : Nat) : total (f.take k) ≤ total f := by
  have e : total f = total (f.take k) + total (f.drop k) := by rw [← total_app, List.take_append_drop]
  omega
theorem BldS.one (W : World) : BldS W [([], [], 1)] (.slice (some ⟨W.heap.size, 0, none⟩) 1 1) (W.alloc (.cells #[.slice none 0 0, .slice none 0 0, .int .i64 1] 116)) := by
  refine ⟨_, 1, rfl, Nat.le_refl _, by simp [maxLen], fun k s hs => ?_, (Below.refl _ _).alloc (Nat.le_refl _) _⟩
  obtain rfl : k = 0 := by
    have := (List.getElem?_eq_some_iff.1 hs).1
    simp at this; omega
  simp only [List.getElem?_cons_zero, Option.some.injEq] at hs
  subst hs
  refine ⟨W.heap.size, 0, ⟨none, 0, none, 0⟩, rfl, by simp, fun j v hv => ?_, Nat.le_refl _, (fun _ => rfl), (fun k r hr => by simp at hr), Nat.le_refl _, (fun _ => rfl), (fun k r hr => by simp at hr)⟩
  rw [cell_of_row _ _ _ _ _ _ (heap_alloc_new W _)]
  have : j = 0 ∨ j = 1 ∨ j = 2 := by have := (List.getElem?_eq_some_iff.1 hv).1; simp [spC] at this; omega
  rcases this with rfl | rfl | rfl <;> exact hv
set_option maxHeartbeats 4000000 in
theorem l05Forest_upto (K : Nat) (IH : ∀ (ad : Addr) (n c B : Nat) (t : List Int) (w : World), t.length = n → Tr.isLv t = true → n ≤ K → B ≤ w.heap.size → Row w B (some ad) (ints t) → Calls Tryz.prog 87 #[.slice (some ad) n c] w (ResSp (spF K t) w)) (A : Option Addr) (n c B : Nat) (f : List (List Int)) (w : World) (hl : f.length = n) (hn : n ≤ 8) (hf : ∀ r ∈ f, Tr.isLv r = true ∧ r.length ≤ K) (h7 : total f ≤ 7) (hB : B ≤ w.heap.size) (h : Mat w B A f) :
    Calls Tryz.prog 115 #[.slice A n c] w (ResSp (spFs K f) w) := by
  have HL := Lib.hid hl
  have HF := Lib.hid hf
  have HIH := Lib.hid IH
  have HM := Lib.hid h
  clear hl hf IH h
  go_enter Tryz.func115, Tryz.ntmps115
  go_wp2_with fail
  go_loopw [3, 4] (fun v i wr => ∃ (k : Nat), k ≤ n ∧ i = .int .i64 k ∧ Hid (BldS w (spFs K (f.take k)) v wr)) (fun _ i _ => n - (intOf i).toNat)
  case atStart => exact ⟨0, by omega, rfl, BldS.one w⟩
  case round =>
    obtain ⟨k, hk, rfl, HBK⟩ := hrel
    by_cases hlt : k < n
    · obtain ⟨r, hr⟩ := at_lt (show k < f.length by rw [HL.out]; exact hlt)
      obtain ⟨Ao, co, rfl, hco, hcm, hSp, hBel⟩ := HBK.out
      have hz1 := hBel.size
      obtain ⟨b, o, Ak, ck, rfl, hb, hc, hrc, hcm2, hrow⟩ := (HM.out.below hBel hB) k r hr
      have hrm := List.mem_of_getElem? hr
      have hrf := HF.out r hrm
      have hr1 := (lv_bd hrf.1).1
      obtain ⟨x0, hx0⟩ := at_lt (show 0 < r.length by omega)
      obtain ⟨br, orr, rfl, _, _⟩ := hrow 0 _ (ints_at hx0)
      have hts := take_snoc hr
      have htt := total_take_le f (k + 1)
      have hlt' : ∀ r ∈ f.take (k + 1), Tr.isLv r = true := fun r hr => (HF.out r (List.mem_of_mem_take hr)).1
      have hle : sumC (spFs K (f.take k)) * sumC (spF K r) ≤ 128 := by
        have := spFs_sum (k := K) hlt' (by omega)
        rw [hts, spFs_snoc, timesS_sum] at this
        exact this
      have hO1 := spFs_ok (k := K) (f := f.take k) (fun r hr => HF.out r (List.mem_of_mem_take hr))
      have hO2 := spF_ok K r hrf.1 hrf.2
      have hlen1 := len_sumC hO1
      have hlen2 := len_sumC hO2
      have hs1 := spFs_sum (k := K) (f := f.take k) (fun r hr => (HF.out r (List.mem_of_mem_take hr)).1) (by have := total_take_le f k; omega)
      have hs2 : sumC (spF K r) ≤ 1000 := by
        rw [spF_sum]
        have h1 := (cntS_le K r hrf.1).2
        have h2 := (lv_bd hrf.1).2
        have h3 : total f ≥ r.length := row_le_total r hrm
        have := pow7 (n := r.length) (by omega)
        omega
      have htot : total (f.take k) + r.length ≤ 8 := by
        rw [hts, total_app, total_cons] at htt
        omega
      obtain ⟨S, hS⟩ : ∃ S, S = spFs K (f.take k) := ⟨_, rfl⟩
      obtain ⟨T, hT⟩ : ∃ S, S = spF K r := ⟨_, rfl⟩
      have C1 := fun W (hW : Below wr.heap.size wr W) => HIH.out ⟨br, orr, none⟩ r.length ck B r W rfl hrf.1 hrf.2 (by have := hW.size; omega) (hrow.below hW (by omega))
      rw [← hT] at C1
      rw [← hS, ← hT] at hle
      rw [← hS] at hO1 hlen1 hs1 hSp hco ⊢
      rw [← hT] at hO2 hlen2 hs2
      have C2 := fun (A9 : Option Addr) (c9 : Nat) (W : World) (hW : Below wr.heap.size wr W) (hT9 : Spls W W.heap.size A9 T) => l05Times_any Ao A9 S.length co T.length c9 S T W rfl rfl (by omega) (by omega) hO1 hO2 htot (by omega) ((hSp.below hW (Nat.le_refl _)).more hW.size) hT9
      obtain ⟨q, hq⟩ : ∃ q, q = S.length := ⟨_, rfl⟩
      obtain ⟨q2, hq2⟩ : ∃ q, q = T.length := ⟨_, rfl⟩
      have C1' : Hid (∀ W, Below wr.heap.size wr W → Calls Tryz.prog 87 #[.slice (some ⟨br, orr, none⟩) r.length ck] W fun e w' => ∃ A c, e = .returned (.slice A q2 c) ∧ Spls w' w'.heap.size A T ∧ Below W.heap.size W w') := fun W hW => by
        rw [hq2]
        refine (C1 W hW).mono ?_
        rintro e w' ⟨A9, c9, e1, _, _, e4, e5⟩
        exact ⟨A9, c9, e1, e4, e5⟩
      rw [← hq, ← hq2] at C2
      rw [← hq]
      have E : Hid (spFs K (f.take (k + 1)) = timesS S T) := by rw [Hid, hts, spFs_snoc, hS, hT]
      have HBEL := Lib.hid hBel
      have HC2 := Lib.hid C2
      clear C2 C1 hq hq2 hS hT hO1 hO2 hlen1 hlen2 hs1 hs2 hle htot hlt' htt hts hrm hrf hx0 hr hrow hSp hBel HBK
      go_wp2_with fail
      refine (C1'.out _ (Below.refl _ _)).mono ?_
      rintro e w2 ⟨A9, c9, rfl, e4, e5⟩
      go_wp2_with fail
      refine (HC2.out A9 c9 w2 e5 e4).mono ?_
      rintro e w3 ⟨A8, c8, rfl, d1, d2, d3, d4⟩
      have G4 : Hid (BldS w (spFs K (f.take (k + 1))) (.slice A8 (timesS S T).length c8) w3) := by
        rw [Hid, E.out]
        exact ⟨A8, c8, rfl, d1, d2, d3, HBEL.out.trans ((e5.trans (d4.mono e5.size)).mono hz1)⟩
      clear e4 e5 d1 d2 d3 d4
      go_wp2
      go_roundw
      case rel => exact ⟨k + 1, by omega, by go_num, G4⟩
      case measure => simp [intOf]; omega
    · obtain rfl : k = n := by omega
      have G4 : Hid (BldS w (spFs K f) u3 wr) := by
        have := HBK.out
        rw [List.take_of_length_le (by rw [HL.out]; exact Nat.le_refl _)] at this
        exact this
      clear HBK
      obtain ⟨A9, c9, rfl, h1, h2, h3, h4⟩ := G4.out
      have H3 := Lib.hid h3
      have H4 := Lib.hid h4
      clear h3 h4 G4
      go_wp2
      go_ret
      exact ⟨A9, c9, rfl, h1, h2, H3.out, H4.out⟩
theorem mat_one {w : World} {B g c : Nat} {A : Option Addr} {r : List Int} (hc : w.cell? ⟨g, 0, none⟩ = some (.slice A r.length c)) (hg : g < B) (h1 : r.length ≤ c) (h2 : c ≤ maxLen) (hr : Row w B A (ints r)) : Mat w B (some ⟨g, 0, none⟩) [r] := fun k t ht => by
  obtain rfl : k = 0 := by
    have := (List.getElem?_eq_some_iff.1 ht).1
    simp at this; omega
  simp only [List.getElem?_cons_zero, Option.some.injEq] at ht
  subst ht
  exact ⟨g, 0, A, c, rfl, hg, hc, h1, h2, hr⟩
theorem BldS.self {W wr : World} {t : List Int} {A : Option Addr} {c : Nat} (hb : Below W.heap.size W wr) (h1 : t.length ≤ c) (h2 : c ≤ maxLen) (hr : Row wr wr.heap.size A (ints t)) : BldS W [([t], [], 1)] (.slice (some ⟨wr.heap.size + 1, 0, none⟩) 1 1) ((wr.alloc (.cells #[.slice A t.length c] 23)).alloc (.cells #[.slice (some ⟨wr.heap.size, 0, none⟩) 1 1, .slice none 0 0, .int .i64 1] 116)) := by
  have b1 : Below wr.heap.size wr ((wr.alloc (.cells #[.slice A t.length c] 23)).alloc (.cells #[.slice (some ⟨wr.heap.size, 0, none⟩) 1 1, .slice none 0 0, .int .i64 1] 116)) := ((Below.refl _ _).alloc (Nat.le_refl _) _).alloc (by simp) _
  refine ⟨_, 1, rfl, Nat.le_refl _, by simp [maxLen], fun k s hs => ?_, hb.trans (b1.mono hb.size)⟩
  obtain rfl : k = 0 := by
    have := (List.getElem?_eq_some_iff.1 hs).1
    simp at this; omega
  simp only [List.getElem?_cons_zero, Option.some.injEq] at hs
  subst hs
  refine ⟨wr.heap.size + 1, 0, ⟨some ⟨wr.heap.size, 0, none⟩, 1, none, 0⟩, rfl, by simp, fun j v hv => ?_, Nat.le_refl _, (fun h => by cases h), mat_one ?_ (by simp; omega) h1 h2 ((hr.below b1 (Nat.le_refl _)).more (by simp; omega)), Nat.le_refl _, (fun _ => rfl), (fun k r hr => by simp at hr)⟩
  · rw [cell_of_row _ _ _ _ _ _ (heap_alloc2_new wr _ _)]
    have : j = 0 ∨ j = 1 ∨ j = 2 := by have := (List.getElem?_eq_some_iff.1 hv).1; simp [spC] at this; omega
    rcases this with rfl | rfl | rfl <;> exact hv
  · rw [cell_of_row _ _ _ _ _ _ (heap_alloc2_old wr _ _)]; rfl
theorem rootF_snoc (L out : List Spl) (b : Spl) : (L ++ [b]).foldl (fun out b => putSp out (rootSp b)) out = putSp (L.foldl (fun out b => putSp out (rootSp b)) out) (rootSp b) := by rw [List.foldl_append, List.foldl_cons, List.foldl_nil]
set_option maxHeartbeats 8000000 in
theorem l05Tree_step (K : Nat) (IH : ∀ (ad : Addr) (n c B : Nat) (t : List Int) (w : World), t.length = n → Tr.isLv t = true → n ≤ K → B ≤ w.heap.size → Row w B (some ad) (ints t) → Calls Tryz.prog 87 #[.slice (some ad) n c] w (ResSp (spF K t) w)) (ad : Addr) (n c B : Nat) (t : List Int) (w : World) (hl : t.length = n) (hlv : Tr.isLv t = true) (hn : n ≤ K + 1) (hB : B ≤ w.heap.size) (h : Row w B (some ad) (ints t)) :
    Calls Tryz.prog 87 #[.slice (some ad) n c] w (ResSp (spF (K + 1) t) w) := by
  obtain ⟨hbr, htt, hbl⟩ := branL_parts hlv
  have h8 := (lv_bd hlv).2
  have hn8 : n ≤ 8 := by omega
  have HL := Lib.hid hl
  have C1 := l03Branches_any (some ad) n c B t w hl hlv hB h
  have HR := Lib.hid h
  have HLV := Lib.hid hlv
  have HFO : Hid (∀ (b o cap : Nat) (W : World), Rws W (some ⟨b, o, none⟩) (Tr.branL t) → Calls Tryz.prog 115 #[.slice (some ⟨b, o, none⟩) (Tr.branL t).length cap] W (ResSp (spFs K (Tr.branL t)) W)) := fun b o cap W hR =>
    l05Forest_upto K IH (some ⟨b, o, none⟩) (Tr.branL t).length cap W.heap.size (Tr.branL t) W rfl (by omega) (fun r hr => ⟨(hbr r hr).1, by have := (hbr r hr).2.2; omega⟩) (by omega) (Nat.le_refl _) hR.mat
  obtain ⟨M, hM⟩ : ∃ m, m = total (Tr.branL t) := ⟨_, rfl⟩
  have hM7 : M ≤ 7 := by omega
  have HOK : Hid (∀ s ∈ spFs K (Tr.branL t), OkSp M s) := by
    rw [hM]
    exact spFs_ok (fun r hr => ⟨(hbr r hr).1, by have := (hbr r hr).2.2; omega⟩)
  have HSL : Hid (∀ s ∈ ([([t], [], 1)] : List Spl), OkSp (M + 1) s) := by rw [hM, htt]; exact self_okS hlv
  have HSU : Hid (sumC (spFs K (Tr.branL t)) ≤ 128) := spFs_sum (fun r hr => (hbr r hr).1) (by omega)
  have HE : Hid (spF (K + 1) t = (spFs K (Tr.branL t)).foldl (fun out b => putSp out (rootSp b)) [([t], [], 1)]) := spF_succ K t
  obtain ⟨S0, hS0⟩ : ∃ s, s = spFs K (Tr.branL t) := ⟨_, rfl⟩
  obtain ⟨L, hL⟩ : ∃ s, s = Tr.branL t := ⟨_, rfl⟩
  rw [← hS0] at HOK HSU HE
  have HFO' : Hid (∀ (b o cap : Nat) (W : World), Rws W (some ⟨b, o, none⟩) L → Calls Tryz.prog 115 #[.slice (some ⟨b, o, none⟩) L.length cap] W (ResSp S0 W)) := by rw [hL, hS0]; exact HFO
  rw [← hL] at C1
  clear hL hS0 HFO hM htt hbl hbr h8 hl h hlv IH
  go_enter Tryz.func87, Tryz.ntmps87
  go_wp2_with fail
  refine C1.mono ?_
  rintro e w1 ⟨b1, o1, cap1, rfl, _, hR1, bel1⟩
  clear C1
  go_wp2_with fail
  refine (HFO'.out b1 o1 cap1 w1 hR1).mono ?_
  rintro e w2 ⟨A2, c2, rfl, d1, d2, hSp, bel2⟩
  have B2 : Below w.heap.size w w2 := bel1.trans (bel2.mono bel1.size)
  have hz2 := B2.size
  clear hR1 bel1 bel2 HFO'
  go_wp2_with fail
  refine (l01Own_any ad n c B t w2 HL.out (by omega) (by omega) (HR.out.below B2 (by omega))).mono ?_
  rintro e w3 ⟨A3, c3, rfl, own3, bel3⟩
  have hz3 := bel3.size
  have B3 : Below w.heap.size w w3 := B2.trans (bel3.mono hz2)
  have G0 : Hid (BldS w [([t], [], 1)] (.slice (some ⟨w3.heap.size + 1, 0, none⟩) 1 1) ((w3.alloc (.cells #[.slice A3 n c3] 23)).alloc (.cells #[.slice (some ⟨w3.heap.size, 0, none⟩) 1 1, .slice none 0 0, .int .i64 1] 116))) := by
    have hq := own_cap own3
    have hrr := row_of_own own3
    rw [← HL.out] at hq ⊢
    exact BldS.self B3 hq.1 hq.2 hrr
  obtain ⟨W4, hW4⟩ : ∃ W4, W4 = (w3.alloc (.cells #[.slice A3 n c3] 23)).alloc (.cells #[.slice (some ⟨w3.heap.size, 0, none⟩) 1 1, .slice none 0 0, .int .i64 1] 116) := ⟨_, rfl⟩
  have B4 : Hid (Below w2.heap.size w2 W4) := by rw [hW4]; exact (bel3.alloc hz3 _).alloc (by simp; omega) _
  rw [← hW4] at G0
  have HSP := Lib.hid hSp
  have HB2 := Lib.hid B2
  have HW4 := Lib.hid hW4
  clear own3 bel3 B3 hSp B2 hW4 HR
  obtain ⟨q0, hq0⟩ : ∃ q, q = S0.length := ⟨_, rfl⟩
  have hq128 : q0 ≤ 128 := by have h1 := len_sumC HOK.out; have h2 := HSU.out; omega
  have HQ0 := Lib.hid hq0
  rw [← hq0]
  clear hq0
  go_wp2_with fail
  rw [← HW4.out]
  clear HW4
  go_loopw [4, 5] (fun v i wr => ∃ (k : Nat), k ≤ q0 ∧ i = .int .i64 k ∧ Hid (BldS w ((S0.take k).foldl (fun out b => putSp out (rootSp b)) [([t], [], 1)]) v wr) ∧ Hid (Below w2.heap.size w2 wr)) (fun _ i _ => q0 - (intOf i).toNat)
  case atStart => exact ⟨0, by omega, rfl, G0, B4⟩
  case round =>
    obtain ⟨k, hk, rfl, HBK, HBE⟩ := hrel
    by_cases hlt : k < q0
    · obtain ⟨a, ha⟩ := at_lt (show k < S0.length by rw [← HQ0.out]; exact hlt)
      obtain ⟨ba, oa, ⟨A1, c1, A1', c1'⟩, rfl, hba, hra, hia⟩ := HSP.out k a ha
      have HRA := Lib.hid hra
      have HIA := Lib.hid hia
      have hts := take_snoc ha
      have hOa := HOK.out a (List.mem_of_getElem? ha)
      have hsu : sumC (S0.take (k + 1)) ≤ 128 := by have := sumC_take HOK.out (k + 1); have := HSU.out; omega
      rw [hts, sumC_app, show sumC [a] = a.2.2 by simp [sumC]] at hsu
      obtain ⟨S, hS⟩ : ∃ S, S = (S0.take k).foldl (fun out b => putSp out (rootSp b)) [([t], [], 1)] := ⟨_, rfl⟩
      have HOS : Hid (∀ s ∈ S, OkSp (M + 1) s) := by rw [hS]; exact rootFold_ok hM7 (fun s hs => HOK.out s (List.mem_of_mem_take hs)) HSL.out
      have hss : sumC S = 1 + sumC (S0.take k) := by rw [hS, rootFold_sum]; rfl
      have hns := len_sumC HOS.out
      have hOm := root_ok hOa hM7
      have hm1 : 1 ≤ a.2.2 := hOa.2.2.2
      have HTS : Hid ((S0.take (k + 1)).foldl (fun out b => putSp out (rootSp b)) [([t], [], 1)] = putSp S (rootSp a)) := by rw [Hid, hts, rootF_snoc, hS]
      rw [← hS] at HBK
      obtain ⟨Ao, co, rfl, hco, hcm, hSo, hBel⟩ := HBK.out
      have hz1 := hBel.size
      have hzz := HBE.out.size
      obtain ⟨q, hq⟩ : ∃ q, q = S.length := ⟨_, rfl⟩
      obtain ⟨R, hR⟩ : ∃ r, r = Tr.can (Tr.up a.2.1) := ⟨_, rfl⟩
      obtain ⟨qr, hqr⟩ : ∃ r, r = total a.2.1 + 1 := ⟨_, rfl⟩
      have hlr : R.length = qr := by
        rw [hR, hqr, (lv_can (up_lv hOa.2.1 (by have := hOa.2.2.1; omega))).2]
        unfold Tr.up; rw [List.length_cons, List.length_map, flat_total]
      obtain ⟨S', hS'⟩ : ∃ z, z = putSp S (rootSp a) := ⟨_, rfl⟩
      have T1 : ∀ W, Below wr.heap.size wr W → Calls Tryz.prog 118 #[.slice A1' a.2.1.length c1'] W fun e w' => ∃ A c, e = .returned (.slice A qr c) ∧ qr ≤ c ∧ c ≤ maxLen ∧ Row w' w'.heap.size A (ints R) ∧ Below W.heap.size W w' := by
        intro W hW
        rw [hqr, hR]
        have hB1 := HBE.out.trans (hW.mono hzz)
        refine (l03Root_any A1' a.2.1.length c1' w2.heap.size a.2.1 W rfl hOa.2.1 (by have := hOa.2.2.1; omega) hB1.size (HIA.out.2.2.2.2.2.below hB1 (Nat.le_refl _))).mono ?_
        rintro e w' ⟨A5, c5, rfl, own5, bel5⟩
        exact ⟨A5, c5, rfl, (own_cap own5).1, (own_cap own5).2, row_of_own own5, bel5⟩
      have T3 : ∀ (W : World) (A5 : Option Addr) (c5 : Nat), qr ≤ c5 → c5 ≤ maxLen → Row W W.heap.size A5 (ints R) → Below wr.heap.size wr W → Calls Tryz.prog 117 #[.slice Ao q co, .agg #[.slice A1 a.1.length c1, .slice (some ⟨W.heap.size, 0, none⟩) 1 1, .int .i64 a.2.2]] (W.alloc (.cells #[.slice A5 qr c5] 23)) fun e w' => ∃ A c, e = .returned (.slice A S'.length c) ∧ S'.length ≤ c ∧ c ≤ maxLen ∧ Spls w' w'.heap.size A S' ∧ Below W.heap.size W w' := by
        intro W A5 c5 e1 e2 e3 e4
        have b1 : Below W.heap.size W (W.alloc (.cells #[.slice A5 qr c5] 23)) := (Below.refl _ _).alloc (Nat.le_refl _) _
        have b2 : Below wr.heap.size wr (W.alloc (.cells #[.slice A5 qr c5] 23)) := e4.trans (b1.mono e4.size)
        have hB1 := HBE.out.trans (b2.mono hzz)
        have hm : Mat (W.alloc (.cells #[.slice A5 qr c5] 23)) (W.alloc (.cells #[.slice A5 qr c5] 23)).heap.size (some ⟨W.heap.size, 0, none⟩) [R] := by
          refine mat_one (A := A5) (c := c5) ?_ (by simp) (by omega) e2 ((e3.below b1 (Nat.le_refl _)).more b1.size)
          rw [hlr, cell_of_row _ _ _ _ _ _ (heap_alloc_new W _)]; rfl
        rw [hq, hS']
        refine (l05Put_any Ao S.length co S (rootSp a) ⟨A1, c1, some ⟨W.heap.size, 0, none⟩, 1⟩ _ rfl (by omega) HOS.out (by show sumC S + a.2.2 ≤ _; omega) hOm (by omega) ((hSo.below b2 (Nat.le_refl _)).more b2.size) ⟨HIA.out.1, HIA.out.2.1, (HIA.out.2.2.1.below hB1 (Nat.le_refl _)).more hB1.size, Nat.le_refl _, (fun h => by cases h), by rw [hR] at hm; exact hm⟩).mono ?_
        rintro e w' ⟨A9, c9, rfl, f1, f2, f3, f4⟩
        exact ⟨A9, c9, rfl, f1, f2, f3, b1.trans (f4.mono b1.size)⟩
      obtain ⟨l1, hl1⟩ : ∃ q, q = a.1.length := ⟨_, rfl⟩
      obtain ⟨l2, hl2⟩ : ∃ q, q = a.2.1.length := ⟨_, rfl⟩
      obtain ⟨x, hx⟩ : ∃ q, q = a.2.2 := ⟨_, rfl⟩
      have KK : Hid (∀ V, Below wr.heap.size wr V → V.cell? ⟨ba, oa + k * 3, none⟩ = some (.slice A1 l1 c1) ∧ V.cell? ⟨ba, oa + k * 3 + 1, none⟩ = some (.slice A1' l2 c1') ∧ V.cell? ⟨ba, oa + k * 3 + 2, none⟩ = some (.int .i64 x)) := fun V hV => by
        have hB1 := HBE.out.trans (hV.mono hzz)
        have r1 := range_below HRA.out hB1 hba
        rw [hl1, hl2, hx]
        exact ⟨r1 0 _ rfl, r1 1 _ rfl, r1 2 _ rfl⟩
      rw [← hl2] at T1
      rw [← hl1, ← hx] at T3
      rw [← hq]
      have HBEL := Lib.hid hBel
      have HT := Lib.hid hS'
      clear hl1 hl2 hx hR hq hqr hS' hm1 hOm hOa hns hss hS hSo hBel HBK hsu hts hra hia ha hlr
      go_wp2_with fail
      go_region_held3 (fun V => V.cell? ⟨ba, oa + k * 3, none⟩ = some (.slice A1 l1 c1) ∧ V.cell? ⟨ba, oa + k * 3 + 1, none⟩ = some (.slice A1' l2 c1') ∧ V.cell? ⟨ba, oa + k * 3 + 2, none⟩ = some (.int .i64 x))
        (first | exact KK.out _ (Below.refl _ _).drew | exact KK.out _ (below_drewN (Below.refl _ _) _) | exact KK.out _ (below_undrew' (a := 1) bel5) | exact KK.out _ ((below_undrew' (a := 1) bel5).alloc (below_undrew' (a := 1) bel5).size _) | exact KK.out _ ((below_undrew' (a := 1) bel5).trans (bel6.mono (below_undrew' (a := 1) bel5).size)))
        (first
          | (go_at_call 118; refine (T1 _ (by first | exact (Below.refl _ _).drew | exact below_drewN (Below.refl _ _) _)).mono ?_; clear T1; rintro e w5 ⟨A5, c5, rfl, hk5, hm5, hR5, bel5⟩)
          | (go_at_call 117; refine (T3 w5 A5 c5 hk5 hm5 hR5 (below_undrew' (a := 1) bel5)).mono ?_; rintro e w6 ⟨A6, c6, rfl, z1, z2, z3, bel6⟩))
      have B9 : Below wr.heap.size wr w6 := (below_undrew' (a := 1) bel5).trans (bel6.mono (below_undrew' (a := 1) bel5).size)
      have G4 : Hid (BldS w ((S0.take (k + 1)).foldl (fun out b => putSp out (rootSp b)) [([t], [], 1)]) (.slice A6 S'.length c6) w6) := by
        rw [Hid, HTS.out, ← HT.out]
        exact ⟨A6, c6, rfl, z1, z2, z3, HBEL.out.trans (B9.mono hz1)⟩
      have G5 : Hid (Below w2.heap.size w2 w6) := HBE.out.trans (B9.mono hzz)
      clear B9 bel5 bel6 hR5 z1 z2 z3 T3 KK HTS
      go_wp2
      go_roundw
      case rel => exact ⟨k + 1, by omega, by go_num, G4, G5⟩
      case measure => simp [intOf]; omega
    · obtain rfl : k = q0 := by omega
      have G4 : Hid (BldS w (spF (K + 1) t) u4 wr) := by
        rw [Hid, HE.out]
        have := HBK.out
        rwa [List.take_of_length_le (by rw [← HQ0.out]; exact Nat.le_refl _)] at this
      clear HBK
      obtain ⟨A9, c9, rfl, h1, h2, h3, h4⟩ := G4.out
      have H3 := Lib.hid h3
      have H4 := Lib.hid h4
      clear h3 h4 G4 HE
      go_wp2
      go_ret
      exact ⟨A9, c9, rfl, h1, h2, H3.out, H4.out⟩
theorem l05Tree_any : ∀ (K : Nat) (ad : Addr) (n c B : Nat) (t : List Int) (w : World), t.length = n → Tr.isLv t = true → n ≤ K → B ≤ w.heap.size → Row w B (some ad) (ints t) → Calls Tryz.prog 87 #[.slice (some ad) n c] w (ResSp (spF K t) w)
  | 0, ad, n, c, B, t, w, hl, hlv, hn, hB, h => by have := (lv_bd hlv).1; omega
  | K + 1, ad, n, c, B, t, w, hl, hlv, hn, hB, h => l05Tree_step K (l05Tree_any K) ad n c B t w hl hlv hn hB h
end Go.Proofs.YtolkbbbbahhfaaaGreat
/-
  The model's cuts, handed out: their counts.
-/
namespace Go.Proofs.YtolkbbbbahhfaaaGreat
open Go.RowKit Fld
set_option linter.unusedVariables false
set_option linter.unusedSimpArgs false
set_option maxRecDepth 100000

theorem info_cut : (Tryz.prog.info? 73).map (fun i => (i.zero, i.size, i.bytes)) = some (some (.agg #[.slice none 0 0, .slice none 0 0, .int .i64 0]), 3, 56) := by kernel_rfl
/-- cells of cuts: two lists and a count each -/
def ctCs (S : List (Value × Value × Int)) : List Value := (S.map fun e => [e.1, e.2.1, .int .i64 e.2.2]).flatten
theorem ctCs_snoc (S : List (Value × Value × Int)) (a b : Value) (x : Int) : ctCs (S ++ [(a, b, x)]) = ctCs S ++ [a, b, .int .i64 x] := by simp [ctCs]
theorem ctCs_at {S : List (Value × Value × Int)} {k : Nat} {e : Value × Value × Int} (h : S[k]? = some e) : (ctCs S)[k * 3 + 2]? = some (.int .i64 e.2.2) := by
  induction S generalizing k with
  | nil => simp at h
  | cons a r ih =>
    have e1 : ctCs (a :: r) = [a.1, a.2.1, .int .i64 a.2.2] ++ ctCs r := by simp [ctCs]
    cases k with
    | zero =>
      simp only [List.getElem?_cons_zero, Option.some.injEq] at h
      subst h
      rw [e1]; rfl
    | succ k =>
      simp only [List.getElem?_cons_succ] at h
      rw [e1, List.getElem?_append_right (by simp; omega), show (k + 1) * 3 + 2 - [a.1, a.2.1, Value.int .i64 a.2.2].length = k * 3 + 2 by simp; omega]
      exact ih h
/-- what l05Cuts hands back: the counts -/
def ResCt (S : List Int) (w : World) (e : Ending) (w' : World) : Prop := ∃ g c, e = .returned (.slice (some ⟨g, 0, none⟩) S.length c) ∧ S.length ≤ c ∧ c ≤ maxLen ∧ g < w'.heap.size ∧ (∀ (k : Nat) (x : Int), S[k]? = some x → w'.cell? ⟨g, k * 3 + 2, none⟩ = some (.int .i64 x)) ∧ Below w.heap.size w w'
/-- the list so far -/
def OutT (W : World) (S : List Int) (g q cap : Nat) (wr : World) : Prop := ∃ P : List (Value × Value × Int), P.map (·.2.2) = S ∧ P.length = q ∧ wr.ownsRow W.heap.size 73 3 (.slice (some ⟨g, 0, none⟩) q cap) q (ctCs P)
theorem OutT.start (W : World) : OutT W [] W.heap.size 0 0 (W.alloc (.cells #[] 73)) :=
  ⟨[], rfl, rfl, World.ownsRow_lit (base := W.heap.size) (size := 3) (e := 73) W #[] 0 (Nat.le_refl _) (Nat.zero_le _) rfl⟩
theorem owns_below {wr w2 : World} {e : TypeId} {k : Nat} {v : Value} {n : Nat} {xs : List Value} {B : Nat} (h1 : wr.ownsRow B e k v n xs) (hb : Below wr.heap.size wr w2) : w2.ownsRow B e k v n xs := by
  refine ⟨h1.1, ?_⟩
  rcases h1.2 with h | ⟨g', cap', cur, e, hb', hg, r⟩
  · exact .inl h
  · exact .inr ⟨g', cap', cur, e, hb', (hb.block g' (Array.getElem?_eq_some_iff.1 hg).1).trans hg, r⟩
theorem OutT.below {W wr w2 : World} {S : List Int} {g q cap : Nat} (h : OutT W S g q cap wr) (hb : Below wr.heap.size wr w2) : OutT W S g q cap w2 := by
  obtain ⟨P, e1, e2, h1⟩ := h
  exact ⟨P, e1, e2, owns_below h1 hb⟩
theorem OutT.res {W0 W wr : World} {S : List Int} {g q cap : Nat} (h : OutT W S g q cap wr) (hb : Below W0.heap.size W0 wr) : ResCt S W0 (.returned (.slice (some ⟨g, 0, none⟩) q cap)) wr := by
  obtain ⟨P, e1, e2, h1⟩ := h
  have hc : q ≤ cap ∧ cap ≤ maxLen := by
    rcases h1.2 with ⟨hv, _⟩ | ⟨g', cap', cur, e, _, _, h3, h4, _⟩
    · cases hv
    · injection e with _ _ ec; subst ec; exact ⟨h3, h4⟩
  have hl : S.length = q := by rw [← e1, List.length_map]; exact e2
  refine ⟨g, cap, by rw [hl], by omega, hc.2, (h1.lt g rfl).2, fun k s hs => ?_, hb⟩
  have hk : k < q := by rw [← hl]; exact (List.getElem?_eq_some_iff.1 hs).1
  rw [← e1, List.getElem?_map, Option.map_eq_some_iff] at hs
  obtain ⟨e, he, rfl⟩ := hs
  exact (h1.cellAt (k * 3 + 2) (by omega)).trans (ctCs_at he)
theorem OutT.push {W w4 : World} {P : List (Value × Value × Int)} {q g4 cap4 : Nat} {S : List Int} {a b : Value} {x : Int} (e1 : P.map (·.2.2) = S) (e2 : P.length = q) (hown : w4.ownsRow W.heap.size 73 3 (.slice (some ⟨g4, 0, none⟩) (q + 1) cap4) (q + 1) (ctCs P ++ [a, b, .int .i64 x])) : OutT W (S ++ [x]) g4 (q + 1) cap4 w4 :=
  ⟨P ++ [(a, b, x)], by simp [e1], by simp [e2], by rw [ctCs_snoc]; exact hown⟩
set_option maxHeartbeats 8000000 in
theorem l05Cuts_any (ad : Addr) (n c B : Nat) (t : List Int) (w : World) (hl : t.length = n) (hlv : Tr.isLv t = true) (hB : B ≤ w.heap.size) (h : Row w B (some ad) (ints t)) :
    Calls Tryz.prog 49 #[.slice (some ad) n c] w (ResCt ((spF 8 t).map (·.2.2)) w) := by
  obtain ⟨i0, hi, hz0, hz1, hz2⟩ := info_parts info_cut
  have h8 := (lv_bd hlv).2
  have C1 := l05Tree_any 8 ad n c B t w hl hlv (by omega) hB h
  have HOK : Hid (∀ s ∈ spF 8 t, OkSp t.length s) := spF_ok 8 t hlv h8
  have h256 : sumC (spF 8 t) ≤ 256 := by
    rw [spF_sum]
    have h1 := (cntS_le 8 t hlv).2
    have : t.length = 8 ∨ t.length ≤ 7 := by omega
    rcases this with h | h
    · rw [h] at h1; exact Int.le_trans h1 (by decide)
    · have := pow7 h; omega
  have hq256 := len_sumC HOK.out
  obtain ⟨S, hS⟩ : ∃ s, s = spF 8 t := ⟨_, rfl⟩
  rw [← hS] at C1 HOK h256 hq256 ⊢
  obtain ⟨m, hm⟩ : ∃ m, m = t.length := ⟨_, rfl⟩
  rw [← hm] at HOK
  have hm8 : m ≤ 8 := by omega
  clear hS hlv hl h h8 hm
  go_enter Tryz.func49, Tryz.ntmps49
  go_wp2_with fail
  refine C1.mono ?_
  rintro e w2 ⟨A2, c2, rfl, d1, d2, hSp, bel2⟩
  clear C1
  have HSP := Lib.hid hSp
  have HB2 := Lib.hid bel2
  have hz2' := bel2.size
  clear hSp bel2
  obtain ⟨q0, hq0⟩ : ∃ q, q = S.length := ⟨_, rfl⟩
  have hq128 : q0 ≤ 256 := by omega
  have HQ0 := Lib.hid hq0
  rw [← hq0]
  have HO0 := Lib.hid (OutT.start w2)
  clear hq0 hq256 h256 d1
  go_wp2_with fail
  go_loopw [4, 5] (fun v i wr => ∃ (k g q cap : Nat), k ≤ q0 ∧ q = k ∧ v = .slice (some ⟨g, 0, none⟩) q cap ∧ i = .int .i64 k ∧ Hid (OutT w2 ((S.take k).map (·.2.2)) g q cap wr) ∧ Hid (Below w2.heap.size w2 wr)) (fun _ i _ => q0 - (intOf i).toNat)
  case atStart => exact ⟨0, _, 0, 0, by omega, rfl, rfl, rfl, HO0.out, (Below.refl _ _).alloc (Nat.le_refl _) _⟩
  case round =>
    obtain ⟨k, g, q, cap, hk, hqk, rfl, rfl, HO, HBE⟩ := hrel
    have hzz := HBE.out.size
    have hqm : q ≤ 256 := by omega
    have HQK := Lib.hid hqk
    clear hqk
    by_cases hlt : k < q0
    · obtain ⟨a, ha⟩ := at_lt (show k < S.length by rw [← HQ0.out]; exact hlt)
      obtain ⟨ba, oa, ⟨A1, c1, A1', c1'⟩, rfl, hba, hra, hia⟩ := HSP.out k a ha
      have HRA := Lib.hid hra
      have HIA := Lib.hid hia
      have HTS : Hid ((S.take (k + 1)).map (·.2.2) = (S.take k).map (·.2.2) ++ [a.2.2]) := by rw [Hid, take_snoc ha, List.map_append]; rfl
      have hOa := HOK.out a (List.mem_of_getElem? ha)
      have hlen := okSp_len hOa
      have hT2 : ∀ W, Below w2.heap.size w2 W → Calls Tryz.prog 89 #[.slice A1 a.1.length c1] W fun e w' => ∃ A c, e = .returned (.slice A a.1.length c) ∧ Below W.heap.size W w' := by
        intro W hW
        refine (l01Own2_any A1 a.1.length c1 w2.heap.size a.1 W rfl (by have := hOa.2.2.1; omega) (fun r hr => (lv_bd (hOa.1 r hr)).1) hW.size (hia.2.2.1.below hW (Nat.le_refl _))).mono ?_
        rintro e w' ⟨A5, c5, vs, rfl, own5, bel5⟩
        exact ⟨A5, c5, rfl, bel5⟩
      obtain ⟨l1, hl1⟩ : ∃ q, q = a.1.length := ⟨_, rfl⟩
      obtain ⟨x, hx⟩ : ∃ q, q = a.2.2 := ⟨_, rfl⟩
      rw [← hl1] at hT2
      rw [← hx] at HTS
      have hcell : ∀ V, Below w2.heap.size w2 V → V.cell? ⟨ba, oa + k * 3, none⟩ = some (.slice A1 l1 c1) ∧ V.cell? ⟨ba, oa + k * 3 + 1, none⟩ = some (.slice A1' a.2.1.length c1') ∧ V.cell? ⟨ba, oa + k * 3 + 2, none⟩ = some (.int .i64 x) := fun V hV => by
        have r1 := range_below HRA.out hV hba
        rw [hl1, hx]
        exact ⟨r1 0 _ rfl, r1 1 _ rfl, r1 2 _ rfl⟩
      clear hra ha hl1 hx
      cases htr : a.2.1 with
      | nil =>
        rw [htr, List.length_nil] at hcell
        have KK := Lib.hid hcell
        have HT2 := Lib.hid hT2
        obtain ⟨k0, k1, k2⟩ := KK.out _ (HBE.out.alloc hzz (.cells #[] 2))
        clear hcell hT2 hia htr hOa hlen
        obtain ⟨w5, hw5⟩ : ∃ w5, w5 = wr.alloc (.cells #[] 2) := ⟨_, rfl⟩
        have hb5 : Below wr.heap.size wr w5 := by rw [hw5]; exact (Below.refl _ _).alloc (Nat.le_refl _) _
        have B5 : Hid (Below w2.heap.size w2 w5) := HBE.out.trans (hb5.mono hzz)
        have hz5 : w2.heap.size ≤ w5.heap.size := B5.out.size
        go_wp2_with fail
        rw [← hw5]
        clear hw5
        have HO5 := HO.out.below hb5
        obtain ⟨P, e1, e2, own⟩ := HO5
        have E1 := Lib.hid e1
        have E2 := Lib.hid e2
        have HOWN : Hid (∀ V, Below w5.heap.size w5 V → V.ownsRow w2.heap.size 73 3 (.slice (some ⟨g, 0, none⟩) q cap) q (ctCs P)) := fun V hV => owns_below own hV
        have hlo := fun q' hq => (own.lt q' hq).1
        have HLO := Lib.hid hlo
        clear own hlo e1 e2 hb5 k0 k1 k2
        go_region_held3 (fun V => V.cell? ⟨ba, oa + k * 3, none⟩ = some (.slice A1 l1 c1) ∧ V.cell? ⟨ba, oa + k * 3 + 1, none⟩ = some (.slice A1' 0 c1') ∧ V.cell? ⟨ba, oa + k * 3 + 2, none⟩ = some (.int .i64 x))
          (first | exact KK.out _ B5.out.drew | exact KK.out _ (below_drewN B5.out _) | exact KK.out _ (B5.out.trans ((below_undrew' (a := 1) bel6).mono hz5)) | exact KK.out _ ((B5.out.trans ((below_undrew' (a := 1) bel6).mono hz5)).alloc (by omega) _) | exact KK.out _ (((B5.out.trans ((below_undrew' (a := 1) bel6).mono hz5)).alloc (by omega) _).grown hgrow3 (by simp; omega) HLO.out))
          (first
            | (go_at_call 89; refine (HT2.out _ (by first | exact B5.out.drew | exact below_drewN B5.out _)).mono ?_; rintro e w6 ⟨A7, c7, rfl, bel6⟩; have hz6 := (below_undrew' (a := 1) bel6).size)
            | (refine step_append_lies _ (by rfl) _ _ _ (by rfl) w2.heap.size 73 i0 _ 3 56 Tryz.underlying70 hi hz0 hz1 hz2 rfl (by omega) (.slice (some ⟨g, 0, none⟩) q cap) q (ctCs P) (by rfl) (HOWN.out _ (by exact (below_undrew' (a := 1) bel6).alloc (below_undrew' (a := 1) bel6).size _)) ⟨w6.heap.size, 0, none⟩ 1 1 [.slice A7 l1 c7, (.slice (some ⟨wr.heap.size, 0, none⟩) 0 0), .int .i64 x] (by rfl) (by rfl) (World.news_of_block (cs := #[.slice A7 l1 c7, (.slice (some ⟨wr.heap.size, 0, none⟩) 0 0), .int .i64 x]) (heap_alloc_new _ _)) (by simp [Value.oneCell']) (by omega) (by simp only [maxLen]; omega) (by omega) (by simp; omega) (w6.heap.size + 1) (by simp) ?_; intro g3 cap3 w3 hown3 hgrow3 hat3 hlt3))
        have GB : Hid (Below w2.heap.size w2 w3) := ((B5.out.trans ((below_undrew' (a := 1) bel6).mono hz5)).alloc (by omega) _).grown hgrow3 (by simp; omega) HLO.out
        have GO : Hid (OutT w2 ((S.take (k + 1)).map (·.2.2)) g3 (q + 1) cap3 w3) := by
          rw [Hid, HTS.out]
          exact OutT.push E1.out E2.out hown3
        clear hown3 hgrow3 hat3 bel6 KK HTS
        go_wp2
        go_roundw
        case rel => exact ⟨k + 1, g3, q + 1, cap3, by omega, by rw [HQK.out], rfl, by go_num, GO, GB⟩
        case measure => simp [intOf]; omega
      | cons r rs =>
        have hrl : Tr.isLv r = true := hOa.2.1 r (by rw [htr]; simp)
        have hia2 : Mat w2 w2.heap.size A1' (r :: rs) := by rw [← htr]; exact hia.2.2.2.2.2
        rw [htr] at hcell
        obtain ⟨br, orr, Ak, ck, e9, hbr, hcr, hrc, hcm2, hrow⟩ := hia2 0 r rfl
        obtain rfl := e9
        have hr1 := (lv_bd hrl)
        obtain ⟨x0, hx0⟩ := at_lt (show 0 < r.length by omega)
        obtain ⟨b9, o9, rfl, _, _⟩ := hrow 0 _ (ints_at hx0)
        have KK := Lib.hid hcell
        have HT2 := Lib.hid hT2
        have HRW := Lib.hid hrow
        obtain ⟨k0, k1, k2⟩ := KK.out _ (HBE.out.alloc hzz (.cells #[] 2))
        have k3 : (wr.alloc (.cells #[] 2)).cell? ⟨br, orr + 0, none⟩ = some (.slice (some ⟨b9, o9, none⟩) r.length ck) := ((HBE.out.alloc hzz (.cells #[] 2)).cell (p := ⟨br, orr + 0, none⟩) hbr).trans hcr
        rw [Nat.add_zero] at k3
        obtain ⟨l3, hl3⟩ : ∃ l, l = rs.length + 1 := ⟨_, rfl⟩
        have hl30 : 0 < l3 := by omega
        rw [List.length_cons, ← hl3] at KK k1
        clear hcell hT2 hia hia2 htr hOa hlen hcr hrow hl3 hx0
        have b5 : Below wr.heap.size wr (wr.alloc (.cells #[] 2)) := (Below.refl _ _).alloc (Nat.le_refl _) _
        have HRW5 := HRW.out.below (HBE.out.alloc hzz (.cells #[] 2)) (Nat.le_refl _)
        have HB5 := Lib.hid b5
        have HR5 := Lib.hid HRW5
        have hrb : r.length ≤ 8 := hr1.2
        clear b5 HRW5 hr1
        go_wp2_with fail
        refine (l01Own_any ⟨b9, o9, none⟩ r.length ck w2.heap.size r _ rfl (by omega) (by simp; omega) HR5.out).mono ?_
        rintro e w5 ⟨A6, c6, rfl, own5, bel5⟩
        have hb5 : Below wr.heap.size wr w5 := HB5.out.trans (bel5.mono HB5.out.size)
        have B5 : Hid (Below w2.heap.size w2 w5) := HBE.out.trans (hb5.mono hzz)
        have hz5 : w2.heap.size ≤ w5.heap.size := B5.out.size
        clear own5 bel5
        have HO5 := HO.out.below hb5
        obtain ⟨P, e1, e2, own⟩ := HO5
        have E1 := Lib.hid e1
        have E2 := Lib.hid e2
        have HOWN : Hid (∀ V, Below w5.heap.size w5 V → V.ownsRow w2.heap.size 73 3 (.slice (some ⟨g, 0, none⟩) q cap) q (ctCs P)) := fun V hV => owns_below own hV
        have hlo := fun q' hq => (own.lt q' hq).1
        have HLO := Lib.hid hlo
        clear own hlo e1 e2 hb5 k0 k1 k2 k3
        go_wp2_with fail
        go_region_held3 (fun V => V.cell? ⟨ba, oa + k * 3, none⟩ = some (.slice A1 l1 c1) ∧ V.cell? ⟨ba, oa + k * 3 + 1, none⟩ = some (.slice (some ⟨br, orr, none⟩) l3 c1') ∧ V.cell? ⟨ba, oa + k * 3 + 2, none⟩ = some (.int .i64 x))
          (first | exact KK.out _ B5.out.drew | exact KK.out _ (below_drewN B5.out _) | exact KK.out _ (B5.out.trans ((below_undrew' (a := 1) bel6).mono hz5)) | exact KK.out _ ((B5.out.trans ((below_undrew' (a := 1) bel6).mono hz5)).alloc (by omega) _) | exact KK.out _ (((B5.out.trans ((below_undrew' (a := 1) bel6).mono hz5)).alloc (by omega) _).grown hgrow3 (by simp; omega) HLO.out))
          (first
            | (go_at_call 89; refine (HT2.out _ (by first | exact B5.out.drew | exact below_drewN B5.out _)).mono ?_; rintro e w6 ⟨A7, c7, rfl, bel6⟩; have hz6 := (below_undrew' (a := 1) bel6).size)
            | (refine step_append_lies _ (by rfl) _ _ _ (by rfl) w2.heap.size 73 i0 _ 3 56 Tryz.underlying70 hi hz0 hz1 hz2 rfl (by omega) (.slice (some ⟨g, 0, none⟩) q cap) q (ctCs P) (by rfl) (HOWN.out _ (by exact (below_undrew' (a := 1) bel6).alloc (below_undrew' (a := 1) bel6).size _)) ⟨w6.heap.size, 0, none⟩ 1 1 [.slice A7 l1 c7, (.slice A6 r.length c6), .int .i64 x] (by rfl) (by rfl) (World.news_of_block (cs := #[.slice A7 l1 c7, (.slice A6 r.length c6), .int .i64 x]) (heap_alloc_new _ _)) (by simp [Value.oneCell']) (by omega) (by simp only [maxLen]; omega) (by omega) (by simp; omega) (w6.heap.size + 1) (by simp) ?_; intro g3 cap3 w3 hown3 hgrow3 hat3 hlt3))
        have GB : Hid (Below w2.heap.size w2 w3) := ((B5.out.trans ((below_undrew' (a := 1) bel6).mono hz5)).alloc (by omega) _).grown hgrow3 (by simp; omega) HLO.out
        have GO : Hid (OutT w2 ((S.take (k + 1)).map (·.2.2)) g3 (q + 1) cap3 w3) := by
          rw [Hid, HTS.out]
          exact OutT.push E1.out E2.out hown3
        clear hown3 hgrow3 hat3 bel6 KK HTS
        go_wp2
        go_roundw
        case rel => exact ⟨k + 1, g3, q + 1, cap3, by omega, by rw [HQK.out], rfl, by go_num, GO, GB⟩
        case measure => simp [intOf]; omega
    · obtain rfl : k = q0 := by omega
      have G : Hid (OutT w2 (S.map (·.2.2)) g q cap wr) := by
        have := HO.out
        rwa [List.take_of_length_le (by rw [← HQ0.out]; exact Nat.le_refl _)] at this
      clear HO
      go_wp2
      go_ret
      exact G.out.res (HB2.out.trans (HBE.out.mono hz2'))
end Go.Proofs.YtolkbbbbahhfaaaGreat
/-
  The model's cuts, handed out: what they hold.
-/
namespace Go.Proofs.YtolkbbbbahhfaaaGreat
open Go.RowKit Fld
set_option linter.unusedVariables false
set_option linter.unusedSimpArgs false
set_option maxRecDepth 100000

/-- the trunk of a cut: a tree or nothing -/
def trk (s : Spl) : List Int := s.2.1.headD []
def ctC (s : Spl) (p : SpAt) : List Value := [.slice p.A s.1.length p.c, .slice p.A' (trk s).length p.c', .int .i64 s.2.2]
def IsCt (w : World) (B : Nat) (s : Spl) (p : SpAt) : Prop := s.1.length ≤ p.c ∧ Mat w B p.A s.1 ∧ (trk s).length ≤ p.c' ∧ Row w B p.A' (ints (trk s))
theorem IsCt.more {w : World} {B B' : Nat} {s : Spl} {p : SpAt} (h : IsCt w B s p) (hB : B ≤ B') : IsCt w B' s p := ⟨h.1, h.2.1.more hB, h.2.2.1, h.2.2.2.more hB⟩
/-- w' has the blocks of w below B, g set aside -/
def Off (g B : Nat) (w w' : World) : Prop := ∀ b, b < B → b ≠ g → w'.heap[b]? = w.heap[b]?
/-- a cut that lies in blocks other than g -/
def CtX (g : Nat) (w : World) (s : Spl) (p : SpAt) : Prop := ∀ w', Off g w.heap.size w w' → w.heap.size ≤ w'.heap.size → IsCt w' w.heap.size s p
theorem CtX.self {g : Nat} {w : World} {s : Spl} {p : SpAt} (h : CtX g w s p) : IsCt w w.heap.size s p := h w (fun _ _ _ => rfl) (Nat.le_refl _)
theorem CtX.below {g : Nat} {w w2 : World} {s : Spl} {p : SpAt} (h : CtX g w s p) (hb : Below w.heap.size w w2) : CtX g w2 s p := fun w' ho hs =>
  (h w' (fun b h1 h2 => (ho b (by have := hb.size; omega) h2).trans (hb.block b h1)) (by have := hb.size; omega)).more hb.size
theorem CtX.grown {g g3 : Nat} {w w2 : World} {s : Spl} {p : SpAt} (h : CtX g w s p) (hg : w.grownBy w2 (some g)) (ha : some g = some g3 ∨ g3 = w.heap.size) : CtX g3 w2 s p := fun w' ho hs =>
  (h w' (fun b h1 h2 => (ho b (by have := hg.size; omega) (by rcases ha with ha | ha; (· injection ha with ha; subst ha; exact h2); (· omega))).trans (hg.block b h1 (fun e => h2 (by injection e)))) (by have := hg.size; omega)).more hg.size
def ctXs (S : List (Spl × SpAt)) : List Value := (S.map fun e => ctC e.1 e.2).flatten
theorem ctXs_snoc (S : List (Spl × SpAt)) (e : Spl × SpAt) : ctXs (S ++ [e]) = ctXs S ++ ctC e.1 e.2 := by simp [ctXs]
theorem ctXs_at {S : List (Spl × SpAt)} {k j : Nat} {e : Spl × SpAt} {v : Value} (h : S[k]? = some e) (hv : (ctC e.1 e.2)[j]? = some v) : (ctXs S)[k * 3 + j]? = some v := by
  have hj : j < 3 := by have := (List.getElem?_eq_some_iff.1 hv).1; simpa [ctC] using this
  induction S generalizing k with
  | nil => simp at h
  | cons a r ih =>
    have e1 : ctXs (a :: r) = ctC a.1 a.2 ++ ctXs r := by simp [ctXs]
    have l3 : (ctC a.1 a.2).length = 3 := rfl
    cases k with
    | zero =>
      simp only [List.getElem?_cons_zero, Option.some.injEq] at h
      subst h
      rw [e1, Nat.zero_mul, Nat.zero_add, List.getElem?_append_left (by omega)]; exact hv
    | succ k =>
      simp only [List.getElem?_cons_succ] at h
      rw [e1, List.getElem?_append_right (by omega), l3, show (k + 1) * 3 + j - 3 = k * 3 + j by omega]
      exact ih h
/-- what l05Cuts hands back -/
def ResCX (S : List Spl) (w : World) (e : Ending) (w' : World) : Prop := ∃ g c, e = .returned (.slice (some ⟨g, 0, none⟩) S.length c) ∧ S.length ≤ c ∧ c ≤ maxLen ∧ g < w'.heap.size ∧ (∀ (k : Nat) (s : Spl), S[k]? = some s → ∃ p, w'.rangeAt g (k * 3) (ctC s p) ∧ IsCt w' w'.heap.size s p) ∧ Below w.heap.size w w'
/-- the list so far -/
def OutX (W : World) (S : List Spl) (g q cap : Nat) (wr : World) : Prop := ∃ P : List (Spl × SpAt), P.map (·.1) = S ∧ P.length = q ∧ wr.ownsRow W.heap.size 73 3 (.slice (some ⟨g, 0, none⟩) q cap) q (ctXs P) ∧ (∀ e ∈ P, CtX g wr e.1 e.2)
theorem OutX.start (W : World) : OutX W [] W.heap.size 0 0 (W.alloc (.cells #[] 73)) :=
  ⟨[], rfl, rfl, World.ownsRow_lit (base := W.heap.size) (size := 3) (e := 73) W #[] 0 (Nat.le_refl _) (Nat.zero_le _) rfl, fun e he => by cases he⟩
theorem OutX.below {W wr w2 : World} {S : List Spl} {g q cap : Nat} (h : OutX W S g q cap wr) (hb : Below wr.heap.size wr w2) : OutX W S g q cap w2 := by
  obtain ⟨P, e1, e2, h1, h2⟩ := h
  exact ⟨P, e1, e2, owns_below h1 hb, fun e he => (h2 e he).below hb⟩
theorem OutX.res {W0 W wr : World} {S : List Spl} {g q cap : Nat} (h : OutX W S g q cap wr) (hb : Below W0.heap.size W0 wr) : ResCX S W0 (.returned (.slice (some ⟨g, 0, none⟩) q cap)) wr := by
  obtain ⟨P, e1, e2, h1, h2⟩ := h
  have hc : q ≤ cap ∧ cap ≤ maxLen := by
    rcases h1.2 with ⟨hv, _⟩ | ⟨g', cap', cur, e, _, _, h3, h4, _⟩
    · cases hv
    · injection e with _ _ ec; subst ec; exact ⟨h3, h4⟩
  have hl : S.length = q := by rw [← e1, List.length_map]; exact e2
  refine ⟨g, cap, by rw [hl], by omega, hc.2, (h1.lt g rfl).2, fun k s hs => ?_, hb⟩
  have hk : k < q := by rw [← hl]; exact (List.getElem?_eq_some_iff.1 hs).1
  rw [← e1, List.getElem?_map, Option.map_eq_some_iff] at hs
  obtain ⟨e, he, rfl⟩ := hs
  refine ⟨e.2, fun j v hv => ?_, (h2 e (List.mem_of_getElem? he)).self⟩
  have hj : j < 3 := by have := (List.getElem?_eq_some_iff.1 hv).1; simpa [ctC] using this
  exact (h1.cellAt (k * 3 + j) (by omega)).trans (ctXs_at he hv)
theorem OutX.push {W w6 w7 w4 : World} {P : List (Spl × SpAt)} {q g g4 cap4 : Nat} {S : List Spl} {s : Spl} {p : SpAt} (e1 : P.map (·.1) = S) (e2 : P.length = q) (hP : ∀ e ∈ P, CtX g w6 e.1 e.2) (hs : CtX g w6 s p) (hb : Below w6.heap.size w6 w7) (hg : w7.grownBy w4 (some g)) (ha : some g = some g4 ∨ g4 = w7.heap.size) (hown : w4.ownsRow W.heap.size 73 3 (.slice (some ⟨g4, 0, none⟩) (q + 1) cap4) (q + 1) (ctXs P ++ ctC s p)) : OutX W (S ++ [s]) g4 (q + 1) cap4 w4 := by
  refine ⟨P ++ [(s, p)], by simp [e1], by simp [e2], by rw [ctXs_snoc]; exact hown, fun e he => ?_⟩
  rw [List.mem_append, List.mem_singleton] at he
  rcases he with he | rfl
  · exact ((hP e he).below hb).grown hg ha
  · exact (hs.below hb).grown hg ha
/-- a new cut, its trunk nothing or a copy that lies from lo on -/
theorem CtX.new {g : Nat} {w5 w6 : World} {s : Spl} {A A' : Option Addr} {c c' n lo : Nat} {vs : List Value} (hg : g < lo) (hlo : lo ≤ w5.heap.size) (hb : Below w5.heap.size w5 w6) (hm : OwnMat w6 w5.heap.size w6.heap.size (.slice A n c) n s.1 vs) (hn : s.1.length = n) (ht : trk s = [] ∨ w5.ownsRow lo 2 1 (.slice A' (trk s).length c') (trk s).length (ints (trk s))) (hc : (trk s).length ≤ c') : CtX g w6 s ⟨A, c, A', c'⟩ := fun w' ho hs => by
  have h1 : OwnMat w' w5.heap.size w6.heap.size (.slice A n c) n s.1 vs := hm.keep fun b h1 h2 => ho b h2 (by omega)
  refine ⟨by rw [hn]; exact (own_cap h1.outer.1).1, h1.mat, hc, ?_⟩
  rcases ht with ht | ht
  · rw [ht]; exact Row.nil _ _ _
  · have h2 : w'.ownsRow lo 2 1 (.slice A' (trk s).length c') (trk s).length (ints (trk s)) := by
      refine ⟨ht.1, ?_⟩
      rcases ht.2 with h | ⟨g', cap', cur, e, hb', hg', r⟩
      · exact .inl h
      · have hl : g' < w5.heap.size := (Array.getElem?_eq_some_iff.1 hg').1
        exact .inr ⟨g', cap', cur, e, hb', ((ho g' (by have := hb.size; omega) (by omega)).trans (hb.block g' hl)).trans hg', r⟩
    exact fun k v hv => by
      obtain ⟨b, o, e, hlt, hcell⟩ := row_of_own (by
        refine ⟨ht.1, ?_⟩
        exact ht.2 : w5.ownsRow lo 2 1 (.slice A' (trk s).length c') (trk s).length (ints (trk s))) k v hv
      obtain ⟨b2, o2, e2, hlt2, hcell2⟩ := row_of_own h2 k v hv
      rw [e] at e2
      injection e2 with e3
      injection e3 with e4 e5
      subst e4 e5
      exact ⟨b, o, e, by have := hb.size; omega, hcell2⟩
set_option maxHeartbeats 8000000 in
theorem l05CutsX_any (ad : Addr) (n c B : Nat) (t : List Int) (w : World) (hl : t.length = n) (hlv : Tr.isLv t = true) (hB : B ≤ w.heap.size) (h : Row w B (some ad) (ints t)) :
    Calls Tryz.prog 49 #[.slice (some ad) n c] w (ResCX (spF 8 t) w) := by
  obtain ⟨i0, hi, hz0, hz1, hz2⟩ := info_parts info_cut
  have h8 := (lv_bd hlv).2
  have C1 := l05Tree_any 8 ad n c B t w hl hlv (by omega) hB h
  have HOK : Hid (∀ s ∈ spF 8 t, OkSp t.length s) := spF_ok 8 t hlv h8
  have h256 : sumC (spF 8 t) ≤ 256 := by
    rw [spF_sum]
    have h1 := (cntS_le 8 t hlv).2
    have : t.length = 8 ∨ t.length ≤ 7 := by omega
    rcases this with h | h
    · rw [h] at h1; exact Int.le_trans h1 (by decide)
    · have := pow7 h; omega
  have hq256 := len_sumC HOK.out
  obtain ⟨S, hS⟩ : ∃ s, s = spF 8 t := ⟨_, rfl⟩
  rw [← hS] at C1 HOK h256 hq256 ⊢
  obtain ⟨m, hm⟩ : ∃ m, m = t.length := ⟨_, rfl⟩
  rw [← hm] at HOK
  have hm8 : m ≤ 8 := by omega
  clear hS hlv hl h h8 hm
  go_enter Tryz.func49, Tryz.ntmps49
  go_wp2_with fail
  refine C1.mono ?_
  rintro e w2 ⟨A2, c2, rfl, d1, d2, hSp, bel2⟩
  clear C1
  have HSP := Lib.hid hSp
  have HB2 := Lib.hid bel2
  have hz2' := bel2.size
  clear hSp bel2
  obtain ⟨q0, hq0⟩ : ∃ q, q = S.length := ⟨_, rfl⟩
  have hq128 : q0 ≤ 256 := by omega
  have HQ0 := Lib.hid hq0
  rw [← hq0]
  have HO0 := Lib.hid (OutX.start w2)
  clear hq0 hq256 h256 d1
  go_wp2_with fail
  go_loopw [4, 5] (fun v i wr => ∃ (k g q cap : Nat), k ≤ q0 ∧ q = k ∧ v = .slice (some ⟨g, 0, none⟩) q cap ∧ i = .int .i64 k ∧ Hid (OutX w2 (S.take k) g q cap wr) ∧ Hid (Below w2.heap.size w2 wr)) (fun _ i _ => q0 - (intOf i).toNat)
  case atStart => exact ⟨0, _, 0, 0, by omega, rfl, rfl, rfl, HO0.out, (Below.refl _ _).alloc (Nat.le_refl _) _⟩
  case round =>
    obtain ⟨k, g, q, cap, hk, hqk, rfl, rfl, HO, HBE⟩ := hrel
    have hzz := HBE.out.size
    have hgl : g < wr.heap.size := by obtain ⟨P, _, _, own, _⟩ := HO.out; exact (own.lt g rfl).2
    have hqm : q ≤ 256 := by omega
    have HQK := Lib.hid hqk
    clear hqk
    by_cases hlt : k < q0
    · obtain ⟨a, ha⟩ := at_lt (show k < S.length by rw [← HQ0.out]; exact hlt)
      obtain ⟨ba, oa, ⟨A1, c1, A1', c1'⟩, rfl, hba, hra, hia⟩ := HSP.out k a ha
      have HRA := Lib.hid hra
      have HIA := Lib.hid hia
      have HTS : Hid (S.take (k + 1) = S.take k ++ [a]) := take_snoc ha
      have hOa := HOK.out a (List.mem_of_getElem? ha)
      have hlen := okSp_len hOa
      have hT2 : ∀ W, Below w2.heap.size w2 W → Calls Tryz.prog 89 #[.slice A1 a.1.length c1] W fun e w' => ∃ A c vs, e = .returned (.slice A a.1.length c) ∧ OwnMat w' W.heap.size w'.heap.size (.slice A a.1.length c) a.1.length a.1 vs ∧ Below W.heap.size W w' := by
        intro W hW
        refine (l01Own2_any A1 a.1.length c1 w2.heap.size a.1 W rfl (by have := hOa.2.2.1; omega) (fun r hr => (lv_bd (hOa.1 r hr)).1) hW.size (hia.2.2.1.below hW (Nat.le_refl _))).mono ?_
        rintro e w' ⟨A5, c5, vs, rfl, own5, bel5⟩
        exact ⟨A5, c5, vs, rfl, own5, bel5⟩
      obtain ⟨l1, hl1⟩ : ∃ q, q = a.1.length := ⟨_, rfl⟩
      obtain ⟨x, hx⟩ : ∃ q, q = a.2.2 := ⟨_, rfl⟩
      have HL1 := Lib.hid hl1
      have HX1 := Lib.hid hx
      rw [← hl1] at hT2
      have hcell : ∀ V, Below w2.heap.size w2 V → V.cell? ⟨ba, oa + k * 3, none⟩ = some (.slice A1 l1 c1) ∧ V.cell? ⟨ba, oa + k * 3 + 1, none⟩ = some (.slice A1' a.2.1.length c1') ∧ V.cell? ⟨ba, oa + k * 3 + 2, none⟩ = some (.int .i64 x) := fun V hV => by
        have r1 := range_below HRA.out hV hba
        rw [hl1, hx]
        exact ⟨r1 0 _ rfl, r1 1 _ rfl, r1 2 _ rfl⟩
      clear hra ha hl1 hx
      cases htr : a.2.1 with
      | nil =>
        rw [htr, List.length_nil] at hcell
        have KK := Lib.hid hcell
        have HT2 := Lib.hid hT2
        obtain ⟨k0, k1, k2⟩ := KK.out _ (HBE.out.alloc hzz (.cells #[] 2))
        have HTK : Hid (trk a = []) := by rw [Hid, trk, htr]; rfl
        clear hcell hT2 hia htr hOa hlen
        obtain ⟨w5, hw5⟩ : ∃ w5, w5 = wr.alloc (.cells #[] 2) := ⟨_, rfl⟩
        have hb5 : Below wr.heap.size wr w5 := by rw [hw5]; exact (Below.refl _ _).alloc (Nat.le_refl _) _
        have hwz : wr.heap.size ≤ w5.heap.size := hb5.size
        have B5 : Hid (Below w2.heap.size w2 w5) := HBE.out.trans (hb5.mono hzz)
        have hz5 : w2.heap.size ≤ w5.heap.size := B5.out.size
        go_wp2_with fail
        rw [← hw5]
        clear hw5
        have HO5 := HO.out.below hb5
        obtain ⟨P, e1, e2, own, hP⟩ := HO5
        have HPP := Lib.hid hP
        have E1 := Lib.hid e1
        have E2 := Lib.hid e2
        have HOWN : Hid (∀ V, Below w5.heap.size w5 V → V.ownsRow w2.heap.size 73 3 (.slice (some ⟨g, 0, none⟩) q cap) q (ctXs P)) := fun V hV => owns_below own hV
        have hlo := fun q' hq => (own.lt q' hq).1
        have HLO := Lib.hid hlo
        clear own hP hlo e1 e2 hb5 k0 k1 k2
        go_region_held3 (fun V => V.cell? ⟨ba, oa + k * 3, none⟩ = some (.slice A1 l1 c1) ∧ V.cell? ⟨ba, oa + k * 3 + 1, none⟩ = some (.slice A1' 0 c1') ∧ V.cell? ⟨ba, oa + k * 3 + 2, none⟩ = some (.int .i64 x))
          (first | exact KK.out _ B5.out.drew | exact KK.out _ (below_drewN B5.out _) | exact KK.out _ (B5.out.trans ((below_undrew' (a := 1) bel6).mono hz5)) | exact KK.out _ ((B5.out.trans ((below_undrew' (a := 1) bel6).mono hz5)).alloc (by omega) _) | exact KK.out _ (((B5.out.trans ((below_undrew' (a := 1) bel6).mono hz5)).alloc (by omega) _).grown hgrow3 (by simp; omega) HLO.out))
          (first
            | (go_at_call 89; refine (HT2.out _ (by first | exact B5.out.drew | exact below_drewN B5.out _)).mono ?_; rintro e w6 ⟨A7, c7, vs7, rfl, own7, bel6⟩; have hz6 := (below_undrew' (a := 1) bel6).size)
            | (refine step_append_lies _ (by rfl) _ _ _ (by rfl) w2.heap.size 73 i0 _ 3 56 Tryz.underlying70 hi hz0 hz1 hz2 rfl (by omega) (.slice (some ⟨g, 0, none⟩) q cap) q (ctXs P) (by rfl) (HOWN.out _ (by exact (below_undrew' (a := 1) bel6).alloc (below_undrew' (a := 1) bel6).size _)) ⟨w6.heap.size, 0, none⟩ 1 1 [.slice A7 l1 c7, (.slice (some ⟨wr.heap.size, 0, none⟩) 0 0), .int .i64 x] (by rfl) (by rfl) (World.news_of_block (cs := #[.slice A7 l1 c7, (.slice (some ⟨wr.heap.size, 0, none⟩) 0 0), .int .i64 x]) (heap_alloc_new _ _)) (by simp [Value.oneCell']) (by omega) (by simp only [maxLen]; omega) (by omega) (by simp; omega) (w6.heap.size + 1) (by simp) ?_; intro g3 cap3 w3 hown3 hgrow3 hat3 hlt3))
        have GB : Hid (Below w2.heap.size w2 w3) := ((B5.out.trans ((below_undrew' (a := 1) bel6).mono hz5)).alloc (by omega) _).grown hgrow3 (by simp; omega) HLO.out
        have GO : Hid (OutX w2 (S.take (k + 1)) g3 (q + 1) cap3 w3) := by
          rw [Hid, HTS.out]
          have hcell9 : [.slice A7 l1 c7, .slice (some ⟨wr.heap.size, 0, none⟩) 0 0, .int .i64 x] = ctC a ⟨A7, c7, (some ⟨wr.heap.size, 0, none⟩), 0⟩ := by rw [ctC, HTK.out, ← HL1.out, ← HX1.out] <;> rfl
          rw [hcell9] at hown3
          have b56 : Below w5.heap.size w5 w6 := below_undrew' (a := 1) bel6
          have own8 : OwnMat w6 w5.heap.size w6.heap.size (.slice A7 l1 c7) l1 a.1 vs7 := own7
          exact OutX.push E1.out E2.out (fun e he => (HPP.out e he).below b56) (CtX.new (lo := wr.heap.size) hgl hwz b56 own8 HL1.out.symm (.inl HTK.out) (by rw [HTK.out]; exact Nat.zero_le _)) ((Below.refl _ _).alloc (Nat.le_refl _) _) hgrow3 (hat3.imp id (fun h => by rw [h]; simp)) hown3
        clear hown3 hgrow3 hat3 bel6 own7 KK HTS
        go_wp2
        go_roundw
        case rel => exact ⟨k + 1, g3, q + 1, cap3, by omega, by rw [HQK.out], rfl, by go_num, GO, GB⟩
        case measure => simp [intOf]; omega
      | cons r rs =>
        have hrl : Tr.isLv r = true := hOa.2.1 r (by rw [htr]; simp)
        have hia2 : Mat w2 w2.heap.size A1' (r :: rs) := by rw [← htr]; exact hia.2.2.2.2.2
        rw [htr] at hcell
        obtain ⟨br, orr, Ak, ck, e9, hbr, hcr, hrc, hcm2, hrow⟩ := hia2 0 r rfl
        obtain rfl := e9
        have hr1 := (lv_bd hrl)
        obtain ⟨x0, hx0⟩ := at_lt (show 0 < r.length by omega)
        obtain ⟨b9, o9, rfl, _, _⟩ := hrow 0 _ (ints_at hx0)
        have KK := Lib.hid hcell
        have HT2 := Lib.hid hT2
        have HRW := Lib.hid hrow
        obtain ⟨k0, k1, k2⟩ := KK.out _ (HBE.out.alloc hzz (.cells #[] 2))
        have k3 : (wr.alloc (.cells #[] 2)).cell? ⟨br, orr + 0, none⟩ = some (.slice (some ⟨b9, o9, none⟩) r.length ck) := ((HBE.out.alloc hzz (.cells #[] 2)).cell (p := ⟨br, orr + 0, none⟩) hbr).trans hcr
        rw [Nat.add_zero] at k3
        obtain ⟨l3, hl3⟩ : ∃ l, l = rs.length + 1 := ⟨_, rfl⟩
        have hl30 : 0 < l3 := by omega
        rw [List.length_cons, ← hl3] at KK k1
        have HTK : Hid (trk a = r) := by rw [Hid, trk, htr]; rfl
        clear hcell hT2 hia hia2 htr hOa hlen hcr hrow hl3 hx0
        have b5 : Below wr.heap.size wr (wr.alloc (.cells #[] 2)) := (Below.refl _ _).alloc (Nat.le_refl _) _
        have HRW5 := HRW.out.below (HBE.out.alloc hzz (.cells #[] 2)) (Nat.le_refl _)
        have HB5 := Lib.hid b5
        have HR5 := Lib.hid HRW5
        have hrb : r.length ≤ 8 := hr1.2
        clear b5 HRW5 hr1
        go_wp2_with fail
        refine (l01Own_any ⟨b9, o9, none⟩ r.length ck w2.heap.size r _ rfl (by omega) (by simp; omega) HR5.out).mono ?_
        rintro e w5 ⟨A6, c6, rfl, own5, bel5⟩
        have hb5 : Below wr.heap.size wr w5 := HB5.out.trans (bel5.mono HB5.out.size)
        have B5 : Hid (Below w2.heap.size w2 w5) := HBE.out.trans (hb5.mono hzz)
        have hz5 : w2.heap.size ≤ w5.heap.size := B5.out.size
        have bel5z := bel5.size
        clear bel5
        have HO5 := HO.out.below hb5
        obtain ⟨P, e1, e2, own, hP⟩ := HO5
        have HPP := Lib.hid hP
        have E1 := Lib.hid e1
        have E2 := Lib.hid e2
        have HOWN : Hid (∀ V, Below w5.heap.size w5 V → V.ownsRow w2.heap.size 73 3 (.slice (some ⟨g, 0, none⟩) q cap) q (ctXs P)) := fun V hV => owns_below own hV
        have hlo := fun q' hq => (own.lt q' hq).1
        have HLO := Lib.hid hlo
        clear own hP hlo e1 e2 hb5 k0 k1 k2 k3
        go_wp2_with fail
        go_region_held3 (fun V => V.cell? ⟨ba, oa + k * 3, none⟩ = some (.slice A1 l1 c1) ∧ V.cell? ⟨ba, oa + k * 3 + 1, none⟩ = some (.slice (some ⟨br, orr, none⟩) l3 c1') ∧ V.cell? ⟨ba, oa + k * 3 + 2, none⟩ = some (.int .i64 x))
          (first | exact KK.out _ B5.out.drew | exact KK.out _ (below_drewN B5.out _) | exact KK.out _ (B5.out.trans ((below_undrew' (a := 1) bel6).mono hz5)) | exact KK.out _ ((B5.out.trans ((below_undrew' (a := 1) bel6).mono hz5)).alloc (by omega) _) | exact KK.out _ (((B5.out.trans ((below_undrew' (a := 1) bel6).mono hz5)).alloc (by omega) _).grown hgrow3 (by simp; omega) HLO.out))
          (first
            | (go_at_call 89; refine (HT2.out _ (by first | exact B5.out.drew | exact below_drewN B5.out _)).mono ?_; rintro e w6 ⟨A7, c7, vs7, rfl, own7, bel6⟩; have hz6 := (below_undrew' (a := 1) bel6).size)
            | (refine step_append_lies _ (by rfl) _ _ _ (by rfl) w2.heap.size 73 i0 _ 3 56 Tryz.underlying70 hi hz0 hz1 hz2 rfl (by omega) (.slice (some ⟨g, 0, none⟩) q cap) q (ctXs P) (by rfl) (HOWN.out _ (by exact (below_undrew' (a := 1) bel6).alloc (below_undrew' (a := 1) bel6).size _)) ⟨w6.heap.size, 0, none⟩ 1 1 [.slice A7 l1 c7, (.slice A6 r.length c6), .int .i64 x] (by rfl) (by rfl) (World.news_of_block (cs := #[.slice A7 l1 c7, (.slice A6 r.length c6), .int .i64 x]) (heap_alloc_new _ _)) (by simp [Value.oneCell']) (by omega) (by simp only [maxLen]; omega) (by omega) (by simp; omega) (w6.heap.size + 1) (by simp) ?_; intro g3 cap3 w3 hown3 hgrow3 hat3 hlt3))
        have GB : Hid (Below w2.heap.size w2 w3) := ((B5.out.trans ((below_undrew' (a := 1) bel6).mono hz5)).alloc (by omega) _).grown hgrow3 (by simp; omega) HLO.out
        have GO : Hid (OutX w2 (S.take (k + 1)) g3 (q + 1) cap3 w3) := by
          rw [Hid, HTS.out]
          have hcell9 : [.slice A7 l1 c7, .slice A6 r.length c6, .int .i64 x] = ctC a ⟨A7, c7, A6, c6⟩ := by rw [ctC, HTK.out, ← HL1.out, ← HX1.out] <;> rfl
          rw [hcell9] at hown3
          have b56 : Below w5.heap.size w5 w6 := below_undrew' (a := 1) bel6
          have own8 : OwnMat w6 w5.heap.size w6.heap.size (.slice A7 l1 c7) l1 a.1 vs7 := own7
          exact OutX.push E1.out E2.out (fun e he => (HPP.out e he).below b56) (CtX.new (lo := (wr.alloc (.cells #[] 2)).heap.size) (by simp; omega) bel5z b56 own8 HL1.out.symm (.inr (by rw [HTK.out]; exact own5)) (by rw [HTK.out]; exact (own_cap own5).1)) ((Below.refl _ _).alloc (Nat.le_refl _) _) hgrow3 (hat3.imp id (fun h => by rw [h]; simp)) hown3
        clear hown3 hgrow3 hat3 bel6 own7 KK HTS
        go_wp2
        go_roundw
        case rel => exact ⟨k + 1, g3, q + 1, cap3, by omega, by rw [HQK.out], rfl, by go_num, GO, GB⟩
        case measure => simp [intOf]; omega
    · obtain rfl : k = q0 := by omega
      have G : Hid (OutX w2 S g q cap wr) := by
        have := HO.out
        rwa [List.take_of_length_le (by rw [← HQ0.out]; exact Nat.le_refl _)] at this
      clear HO
      go_wp2
      go_ret
      exact G.out.res (HB2.out.trans (HBE.out.mono hz2'))

end Go.Proofs.YtolkbbbbahhfaaaGreat
/-
  Plain: what CountCut answers, by the program's cuts and by the model's.
-/
namespace Go.Proofs.YtolkbbbbahhfaaaGreat
open Go.RowKit Fld
set_option linter.unusedVariables false
set_option linter.unusedSimpArgs false
set_option maxRecDepth 100000

theorem forParts {f : List (List Int)} (h : isFor f = true) : (∀ t ∈ f, isTr t = true) ∧ total f ≤ 8 ∧ f.length ≤ total f ∧ Tr.sortT (f.map Tr.txt) = f.map Tr.txt := by
  unfold isFor at h
  rw [Bool.and_eq_true, decide_eq_true_eq] at h
  obtain ⟨h1, h2⟩ := h
  have ht : ∀ k r, f[k]? = some r → isTr r = true := fun k r hr => okAt_tr (okTo_at h1 (List.getElem?_eq_some_iff.1 hr).1) hr
  have hm : ∀ t ∈ f, isTr t = true := fun t hm => by obtain ⟨k, hk⟩ := List.mem_iff_getElem?.1 hm; exact ht k t hk
  refine ⟨hm, h2, len_total (f := f) (fun r hr => (lv_bd (tr_lv (hm r hr)).1).1), ?_⟩
  have adj : ∀ k p r, f[k]? = some p → f[k + 1]? = some r → Tr.leT (Tr.txt p) (Tr.txt r) = true := fun k p r hp hr => by
    have h3 := okTo_at h1 (List.getElem?_eq_some_iff.1 hr).1
    rw [okAt_succ hr hp (ht _ _ hr)] at h3
    rw [leT_txt (ht _ _ hp) (ht _ _ hr)]; exact h3
  have far : ∀ d k p r, f[k]? = some p → f[k + d + 1]? = some r → Tr.leT (Tr.txt p) (Tr.txt r) = true := fun d => by
    induction d with
    | zero => intro k p r hp hr; exact adj k p r hp hr
    | succ d ih =>
      intro k p r hp hr
      obtain ⟨q, hq⟩ := at_lt (show k + d + 1 < f.length by have := (List.getElem?_eq_some_iff.1 hr).1; omega)
      exact Tr.leT_tr (ih k p q hp hq) (adj (k + d + 1) q r hq (by rw [← hr]; congr 1))
  refine (List.Perm.eq_of_pairwise (le := fun a b => Tr.leT a b = true) (fun a b _ _ h k => Tr.leT_as h k) (sortT_sorted _) ?_ (sortT_perm _))
  rw [List.pairwise_map, List.pairwise_iff_getElem]
  intro i j hi hj hij
  exact far (j - i - 1) i _ _ (List.getElem?_eq_getElem hi) (by rw [show i + (j - i - 1) + 1 = j by omega]; exact List.getElem?_eq_getElem hj)
theorem tl_cnt (L : List Ct) (k : Kx) : tl L k = ((cntK (L.map keyC) k : Nat) : Int) := by
  have h : ∀ (L : List Ct) (f : Kx → Int) (n : Nat), f k = n → L.foldl (fun f c => bumpG f (keyOfC c)) f k = (((L.map keyC).foldl (fun n p => if eqK p k = true then n + 1 else n) n : Nat) : Int) := fun L => by
    induction L with
    | nil => intro f n h; exact h
    | cons a r ih =>
      intro f n h
      rw [List.foldl_cons, List.map_cons, List.foldl_cons]
      refine ih _ _ ?_
      unfold bumpG
      by_cases e : k = keyOfC a
      · rw [if_pos e, if_pos (show eqK (keyC a) k = true from eqK_iff.2 e.symm), ← e, h]; rfl
      · rw [if_neg e, if_neg (show ¬ eqK (keyC a) k = true from fun q => e (eqK_iff.1 q).symm), h]
  exact h L _ 0 rfl
def chkU (t : List Int) : Bool := (spF 8 t).all fun s => s.1.all (fun r => Tr.isLv r && Tr.can r == r) && decide (s.2.1.length ≤ 1) && s.2.1.all (fun r => Tr.isLv r && Tr.can r == r)
theorem chkU_all : (Tr.allLv.filter fun t => Tr.can t == t).all chkU = true := by decide +kernel
def chkX (t : List Int) : Bool := Tr.txt (Tr.can t) == Tr.txt t && Tr.can (Tr.can t) == Tr.can t
theorem chkX_all : Tr.allLv.all chkX = true := by decide +kernel
theorem flat_inj {ss tt : List (List UInt8)} (h : ∀ x ∈ ss, Tr.isTx x = true) (k : ∀ x ∈ tt, Tr.isTx x = true) (e : ss.flatten = tt.flatten) : ss = tt := by
  have a := tr_flat ss [] h
  have b := tr_flat tt [] k
  rw [e, b] at a
  have := congrArg Prod.fst a
  simpa using this.symm
theorem txt_can' {t : List Int} (h : Tr.isLv t = true) : Tr.txt (Tr.can t) = Tr.txt t ∧ Tr.can (Tr.can t) = Tr.can t := by
  have := Tr.all_of chkX_all (Tr.isLv_iff.1 h)
  unfold chkX at this
  simpa [Bool.and_eq_true, beq_iff_eq] using this
theorem spF_shape {t : List Int} (h : Tr.isLv t = true) {s : Spl} (hs : s ∈ spF 8 (Tr.can t)) : (∀ x ∈ s.1, Tr.isLv x = true ∧ Tr.can x = x) ∧ s.2.1.length ≤ 1 ∧ (∀ x ∈ s.2.1, Tr.isLv x = true ∧ Tr.can x = x) := by
  have hc := (lv_can h).1
  have h1 := List.all_eq_true.1 chkU_all (Tr.can t) (List.mem_filter.2 ⟨Tr.mem_all (Tr.isLv_iff.1 hc), by rw [(txt_can' h).2]; exact beq_self_eq_true _⟩)
  unfold chkU at h1
  have h2 := List.all_eq_true.1 h1 s hs
  simp only [Bool.and_eq_true, List.all_eq_true, decide_eq_true_eq, beq_iff_eq] at h2
  exact ⟨h2.1.1, h2.1.2, h2.2⟩
theorem map_txt_inj : ∀ {f g : List (List Int)}, (∀ x ∈ f, Tr.isLv x = true ∧ Tr.can x = x) → (∀ x ∈ g, Tr.isLv x = true ∧ Tr.can x = x) → f.map Tr.txt = g.map Tr.txt → f = g
  | [], [], _, _, _ => rfl
  | [], b :: g, _, _, e => by simp at e
  | a :: f, [], _, _, e => by simp at e
  | a :: f, b :: g, hf, hg, e => by
    rw [List.map_cons, List.map_cons, List.cons.injEq] at e
    have ha := hf a (by simp)
    have hb := hg b (by simp)
    have : a = b := by rw [← ha.2, ← hb.2, ← (lv_txt ha.1).1, ← (lv_txt hb.1).1, e.1]
    rw [this, map_txt_inj (fun x hx => hf x (by simp [hx])) (fun x hx => hg x (by simp [hx])) e.2]
theorem tx_all {f : List (List Int)} (h : ∀ x ∈ f, Tr.isLv x = true ∧ Tr.can x = x) : ∀ x ∈ f.map Tr.txt, Tr.isTx x = true := fun x hx => by
  obtain ⟨r, hr, rfl⟩ := List.mem_map.1 hx
  exact Tr.tx_txt (h r hr).1
/-- what the model looks for as a trunk -/
def leftOf (r : List Int) : List Int := if r.length = 0 then [] else Tr.can r
theorem key_match {t : List Int} {f : List (List Int)} {r : List Int} (h : Tr.isLv t = true) (hf : isFor f = true) (hr : r.length = 0 ∨ Tr.isLv r = true) {s : Spl} (hs : s ∈ spF 8 (Tr.can t)) : keyS s = wantK f r ↔ s.1 = f ∧ trk s = leftOf r := by
  obtain ⟨c1, c2, c3⟩ := spF_shape h hs
  obtain ⟨p1, _, _, p4⟩ := forParts hf
  have pf : ∀ x ∈ f, Tr.isLv x = true ∧ Tr.can x = x := fun x hx => tr_lv (p1 x hx)
  have e1 : (s.1.map Tr.txt).flatten = (Tr.sortT (f.map Tr.txt)).flatten ↔ s.1 = f := by
    rw [p4]
    exact ⟨fun e => map_txt_inj c1 pf (flat_inj (tx_all c1) (tx_all pf) e), fun e => by rw [e]⟩
  have e2 : (s.2.1.map Tr.txt).flatten = (if r.length = 0 then [] else Tr.txt r) ↔ trk s = leftOf r := by
    unfold trk leftOf
    rcases s with ⟨a, b, x⟩
    rcases b with _ | ⟨y, _ | ⟨z, b⟩⟩
    · by_cases h0 : r.length = 0
      · simp [h0]
      · rw [if_neg h0, if_neg h0]
        have hlr := hr.resolve_left h0
        have g1 := (lv_txt hlr).2.2.2
        have g2 := (lv_txt hlr).2.2.1
        refine ⟨fun e => ?_, fun e => ?_⟩
        · have := congrArg List.length e
          simp at this; omega
        · have := congrArg List.length e
          simp at this; omega
    · have hy := c3 y (by simp)
      have gy := (lv_txt hy.1).2.2.2
      have ly := (lv_bd hy.1).1
      by_cases h0 : r.length = 0
      · rw [if_pos h0, if_pos h0]
        refine ⟨fun e => ?_, fun e => ?_⟩
        · have e9 : Tr.txt y = [] := by simpa using e
          rw [e9, List.length_nil] at gy; omega
        · have e9 : y = [] := e
          rw [e9, List.length_nil] at ly; omega
      · rw [if_neg h0, if_neg h0]
        have hlr := hr.resolve_left h0
        refine ⟨fun e => ?_, fun e => ?_⟩
        · have e : Tr.txt y = Tr.txt r := by simpa using e
          show y = Tr.can r
          rw [← hy.2, ← (lv_txt hy.1).1, ← (lv_txt hlr).1, e]
        · have e : y = Tr.can r := e
          subst e
          simp [(txt_can' hlr).1]
    · simp at c2
  unfold keyS wantK
  rw [Prod.ext_iff]
  exact and_congr e1 e2
/-- the cut that the model finds is the program's number -/
theorem found_cut {t : List Int} {f : List (List Int)} {r : List Int} (h : Tr.isLv t = true) (hf : isFor f = true) (hr : r.length = 0 ∨ Tr.isLv r = true) {s : Spl} (hs : s ∈ spF 8 (Tr.can t)) (h1 : s.1 = f) (h2 : trk s = leftOf r) : tl (cts (Tr.txt t)) (wantK f r) = s.2.2 := by
  have hc := (lv_can h).1
  rw [← (key_match h hf hr hs).2 ⟨h1, h2⟩, tl_cnt, ← (txt_can' h).1]
  exact cut_count hc (txt_can' h).2 hs
theorem cntK_zero {P : List Kx} {k : Kx} (h : ∀ p ∈ P, p ≠ k) : cntK P k = 0 := by
  have : ∀ (P : List Kx) (n : Nat), (∀ p ∈ P, p ≠ k) → P.foldl (fun n p => if eqK p k = true then n + 1 else n) n = n := fun P => by
    induction P with
    | nil => intro n _; rfl
    | cons a r ih =>
      intro n h
      rw [List.foldl_cons, if_neg (fun q => h a (by simp) (eqK_iff.1 q))]
      exact ih n (fun p hp => h p (by simp [hp]))
  exact this P 0 h
/-- where the model finds none, the program has none -/
theorem found_none {t : List Int} {f : List (List Int)} {r : List Int} (h : Tr.isLv t = true) (hf : isFor f = true) (hr : r.length = 0 ∨ Tr.isLv r = true) (hn : ∀ s ∈ spF 8 (Tr.can t), ¬ (s.1 = f ∧ trk s = leftOf r)) : tl (cts (Tr.txt t)) (wantK f r) = 0 := by
  have hc := (lv_can h).1
  rw [tl_cnt, cntK_zero]; · rfl
  intro p hp e
  obtain ⟨c, hcm, rfl⟩ := List.mem_map.1 hp
  rw [← (txt_can' h).1] at hcm
  obtain ⟨s, hs, hk⟩ := cut_model hc (txt_can' h).2 hcm
  exact hn s hs ((key_match h hf hr hs).1 (hk.trans e))
end Go.Proofs.YtolkbbbbahhfaaaGreat
/-
  The model's comparison of two lists of lists.
-/
namespace Go.Proofs.YtolkbbbbahhfaaaGreat
open Go.RowKit Fld
set_option linter.unusedVariables false
set_option linter.unusedSimpArgs false
set_option maxRecDepth 100000

theorem eqL_iff' {a b : List Int} : eqL a b = true ↔ a = b := by
  constructor
  · intro h; first | exact eqL_eq h | exact (eqL_iff).1 h | (simpa [eqL] using h)
  · rintro rfl; first | exact eqL_self _ | (simp [eqL])
theorem take_snoc' {α : Type} {L : List α} {k : Nat} {x : α} (h : L[k]? = some x) : L.take (k + 1) = L.take k ++ [x] := by rw [List.take_add_one, h, Option.toList_some]
theorem Row.drewNd' {w : World} {B m : Nat} {A : Option Addr} {vs : List Value} (h : Row (w.drewN m) B A vs) (n : Nat) : Row (w.drewN n) B A vs := h
set_option maxHeartbeats 2000000 in
theorem l01Same2_any (A A' : Option Addr) (n n' c c' B B' : Nat) (f g : List (List Int)) (w : World) (hl : f.length = n) (hl' : g.length = n') (hn : n + total f ≤ 1048576) (hn' : n' + total g ≤ 1048576) (h : Mat w B A f) (h' : Mat w B' A' g) :
    Calls Tryz.prog 50 #[.slice A n c, .slice A' n' c'] w fun e w' => e = .returned (.bool (decide (f = g))) ∧ ∃ m, w' = w.drewN m := by
  have HL := Lib.hid hl
  have HL' := Lib.hid hl'
  by_cases hne : n = n'
  · subst hne
    clear hl hl'
    go_enter Tryz.func50, Tryz.ntmps50
    go_wp2_with fail
    go_loopw [5] (fun i wr => ∃ k : Nat, k ≤ n ∧ i = .int .i64 k ∧ Hid (f.take k = g.take k) ∧ ∃ m, wr = w.drewN m) (fun i _ => n - (intOf i).toNat)
    case atStart => exact ⟨0, by omega, rfl, rfl, 0, rfl⟩
    case round =>
      obtain ⟨k, hk, rfl, HK, m, rfl⟩ := hrel
      by_cases hlt : k < n
      · obtain ⟨r, hr⟩ := at_lt (show k < f.length by rw [HL.out]; exact hlt)
        obtain ⟨s, hs⟩ := at_lt (show k < g.length by rw [HL'.out]; exact hlt)
        obtain ⟨b, o, Ak, ck, rfl, hb, hc, hrc, hcm, hrow⟩ := h.drewN m k r hr
        obtain ⟨b2, o2, Ak2, ck2, rfl, hb2, hc2, hrc2, hcm2, hrow2⟩ := h'.drewN m k s hs
        have hrl := row_total hr
        have hsl := row_total hs
        have e1 := take_snoc' hr
        have e2 := take_snoc' hs
        have HH : Hid ((f.take (k + 1) = g.take (k + 1)) ↔ r = s) := by
          rw [Hid, e1, e2, HK.out]
          exact ⟨fun h => by have := List.append_cancel_left h; simpa using this, fun h => by rw [h]⟩
        have HF : Hid (f = g → r = s) := fun h => by subst h; rw [hr] at hs; exact Option.some.inj hs
        have HC : Hid (∀ d, (w.drewN d).cell? ⟨b, o + k, none⟩ = some (.slice Ak r.length ck) ∧ (w.drewN d).cell? ⟨b2, o2 + k, none⟩ = some (.slice Ak2 s.length ck2)) := fun d => ⟨hc, hc2⟩
        have HR := Lib.hid hrow
        have HR2 := Lib.hid hrow2
        have T := fun d => l01Same_any Ak Ak2 r.length s.length ck ck2 B B' r s (w.drewN d) rfl rfl (by omega) (by omega) (HR.out.drewNd' d) (HR2.out.drewNd' d)
        clear hc hc2 hrow hrow2 hr hs e1 e2
        go_wp2_with fail
        go_region_held3 (fun V => V.cell? ⟨b, o + k, none⟩ = some (.slice Ak r.length ck) ∧ V.cell? ⟨b2, o2 + k, none⟩ = some (.slice Ak2 s.length ck2)) (first | exact HC.out _ | exact HC.out (m + 1))
          (first
            | (go_at_call 51; refine (T _).mono ?_; clear T; rintro e w2 ⟨rfl, d2, rfl⟩))
        by_cases hrs : r = s
        · have e : eqL r s = true := eqL_iff'.2 hrs
          have G : Hid (f.take (k + 1) = g.take (k + 1)) := HH.out.2 hrs
          rw [e]
          clear e hrs
          go_wp2
          go_roundw
          case rel => exact ⟨k + 1, by omega, by go_num, G, _, rfl⟩
          case measure => simp [intOf]; omega
        · have e : eqL r s = false := by
            cases h : eqL r s
            · rfl
            · exact absurd (eqL_iff'.1 h) hrs
          have G : Hid (decide (f = g) = false) := decide_eq_false (fun h => hrs (HF.out h))
          rw [e]
          clear e hrs
          go_wp2
          go_ret
          exact ⟨by rw [G.out]; rfl, _, rfl⟩
      · obtain rfl : k = n := by omega
        have G : Hid (decide (f = g) = true) := decide_eq_true (by
          have := HK.out
          rwa [List.take_of_length_le (by rw [HL.out]; exact Nat.le_refl _), List.take_of_length_le (by rw [HL'.out]; exact Nat.le_refl _)] at this)
        go_wp2
        go_ret
        exact ⟨by rw [G.out]; rfl, _, rfl⟩
  · have G : Hid (decide (f = g) = false) := decide_eq_false (fun h => hne (by rw [← hl, ← hl', h]))
    have t := bne_t (show (n : Int) ≠ (n' : Int) by omega)
    clear hl hl'
    go_enter Tryz.func50, Tryz.ntmps50
    go_wp2
    go_ret
    exact ⟨by rw [G.out]; rfl, 0, rfl⟩
end Go.Proofs.YtolkbbbbahhfaaaGreat
/-
  CountCut, the model's way.
-/
namespace Go.Proofs.YtolkbbbbahhfaaaGreat
open Go.RowKit Fld
set_option linter.unusedVariables false
set_option linter.unusedSimpArgs false
set_option maxRecDepth 100000

set_option maxHeartbeats 4000000 in
theorem sCountCut_L (A A' A2 : Option Addr) (n n' n2 c c' c2 B B' B2 : Nat) (t : List Int) (f : List (List Int)) (r : List Int) (w : World) (hl : t.length = n) (hl' : f.length = n') (hl2 : r.length = n2) (hn : n ≤ 1048576) (hn' : n' + total f ≤ 1048576) (hn2 : n2 ≤ 1048576) (hB : B ≤ w.heap.size) (hB' : B' ≤ w.heap.size) (hB2 : B2 ≤ w.heap.size) (h : Row w B A (ints t)) (h' : Mat w B' A' f) (h2 : Row w B2 A2 (ints r)) :
    Calls Tryz.prog 22 #[.slice A n c, .slice A' n' c', .slice A2 n2 c2] w (ResI (countCutA t f r) w) := by
  have C0 := l03Is_any A n c B t w hl hn h
  cases hlv : Tr.isLv t
  · have G : Hid (countCutA t f r = (0, 1)) := if_neg (by rw [hlv]; simp)
    rw [hlv] at C0
    clear hl
    go_enter Tryz.func22, Tryz.ntmps22
    go_wp2_with fail
    refine C0.mono ?_
    rintro e w' ⟨rfl, d, rfl⟩
    go_wp2
    go_ret2
    exact ResI.of' G.out (below_drewN (Below.refl _ _) d)
  · rw [hlv] at C0
    have CF := fun d => l03Forest_any A' n' c' B' f (w.drewN d) hl' hn' hB' (h'.drewN d)
    cases hfo : isFor f
    · have G : Hid (countCutA t f r = (0, 1)) := if_neg (by rw [hfo]; simp)
      simp only [hfo] at CF
      clear hl hl'
      go_enter Tryz.func22, Tryz.ntmps22
      go_wp2_with fail
      refine C0.mono ?_
      rintro e w' ⟨rfl, d, rfl⟩
      go_wp2_with fail
      refine (CF d).mono ?_
      rintro e w2 ⟨rfl, bel2⟩
      have G2 : Hid (Below w.heap.size w w2) := (below_drewN (Below.refl _ _) d).trans bel2
      clear bel2
      go_wp2
      go_ret2
      exact ResI.of' G.out G2.out
    · simp only [hfo] at CF
      obtain ⟨hclv, hcl⟩ := lv_can hlv
      have CN := fun W (hW : Below w.heap.size w W) => l03Canon_any A n c B t W hl hlv (by have := hW.size; omega) (h.below hW hB)
      have CX := fun (ad : Addr) c9 W (hR : Row W W.heap.size (some ad) (ints (Tr.can t))) => l05CutsX_any ad n c9 W.heap.size (Tr.can t) W (by rw [hcl]; exact hl) hclv (Nat.le_refl _) hR
      by_cases h0 : n2 = 0
      · have RR : Hid (r.length = 0 ∨ Tr.isLv r = true) := .inl (by omega)
        have GE : Hid (countCutA t f r = (tl (cts (Tr.txt t)) (wantK f r), 0)) := if_pos ⟨hlv, hfo, RR.out⟩
        have HLE : Hid (leftOf r = []) := by unfold leftOf; rw [Hid, if_pos (by omega)]
        have HL' := Lib.hid hl'
        subst h0
        clear hl2 hl hl'
        go_enter Tryz.func22, Tryz.ntmps22
        go_wp2_with fail
        refine C0.mono ?_
        rintro e w' ⟨rfl, d, rfl⟩
        go_wp2_with fail
        refine (CF d).mono ?_
        rintro e w2 ⟨rfl, bel2⟩
        have G2 : Hid (Below w.heap.size w w2) := (below_drewN (Below.refl _ _) d).trans bel2
        have hz2 := G2.out.size
        have GL : Hid (Below w.heap.size w (w2.alloc (.cells #[] 2))) := G2.out.alloc hz2 _
        have HLW : Hid (Row (w2.alloc (.cells #[] 2)) (w2.alloc (.cells #[] 2)).heap.size (some ⟨w2.heap.size, 0, none⟩) (ints (leftOf r))) := by rw [HLE.out]; exact Row.nil _ _ _
        clear bel2
        go_wp2_with fail
        refine (CN _ GL.out).mono ?_
        rintro e w4 ⟨A4, c4, rfl, own4, bel4⟩
        have hr4 := row_of_own own4
        obtain ⟨x0, hx0⟩ := at_lt (show 0 < (Tr.can t).length by have := (lv_bd hclv).1; omega)
        obtain ⟨b9, o9, rfl, _, _⟩ := hr4 0 _ (ints_at hx0)
        have G4 : Hid (Below w.heap.size w w4) := GL.out.trans (bel4.mono GL.out.size)
        have HLW4 := Lib.hid ((HLW.out.below bel4 (Nat.le_refl _)).more bel4.size)
        clear bel4 own4 hx0 HLW
        go_wp2_with fail
        refine (CX _ _ _ hr4).mono ?_
        rintro e w5 ⟨g, cg, rfl, hcg, hcm, hgz, hcells, bel5⟩
        have G5 : Hid (Below w.heap.size w w5) := G4.out.trans (bel5.mono G4.out.size)
        have HLW5 := Lib.hid ((HLW4.out.below bel5 (Nat.le_refl _)).more bel5.size)
        have HC := Lib.hid hcells
        have HM5 := Lib.hid (h'.below G5.out hB')
        have hfound := fun s (hs : s ∈ spF 8 (Tr.can t)) h1 h2 => found_cut (f := f) (r := r) hlv hfo RR.out hs h1 h2
        have hnone := found_none (t := t) (f := f) (r := r) hlv hfo RR.out
        have hok := spF_ok 8 (Tr.can t) hclv (lv_bd hclv).2
        have hlen := len_sumC hok
        have hs256 : sumC (spF 8 (Tr.can t)) ≤ 256 := by
          rw [spF_sum]
          have h1 := (cntS_le 8 (Tr.can t) hclv).2
          have h8 := (lv_bd hclv).2
          have : (Tr.can t).length = 8 ∨ (Tr.can t).length ≤ 7 := by omega
          rcases this with h | h
          · rw [h] at h1; exact Int.le_trans h1 (by decide)
          · have := pow7 h; omega
        obtain ⟨S, hS⟩ : ∃ S, S = spF 8 (Tr.can t) := ⟨_, rfl⟩
        rw [← hS] at HC hfound hnone hok hlen hs256 hcg ⊢
        have HF := Lib.hid hfound
        have HN := Lib.hid hnone
        have HOK := Lib.hid hok
        obtain ⟨q, hq⟩ : ∃ q, q = S.length := ⟨_, rfl⟩
        have hq1 : q ≤ 256 := by omega
        have HQ := Lib.hid hq
        rw [← hq]
        clear hcells bel5 hS hq hfound hnone hok hlen hs256 hcg hr4 CN CX CF
        go_wp2_with fail
        clear h h' h2 C0
        go_loopw [10] (fun i wr => ∃ k : Nat, k ≤ q ∧ i = .int .i64 k ∧ Hid (∀ (j : Nat) (s : Spl), j < k → S[j]? = some s → ¬ (s.1 = f ∧ trk s = leftOf r)) ∧ ∃ m, wr = w5.drewN m) (fun i _ => q - (intOf i).toNat)
        case atStart => exact ⟨0, by omega, rfl, fun j s hj => by omega, 0, rfl⟩
        case round =>
          obtain ⟨k, hk, rfl, HK, m, rfl⟩ := hrel
          by_cases hlt : k < q
          · obtain ⟨s, hs⟩ := at_lt (show k < S.length by rw [← HQ.out]; exact hlt)
            obtain ⟨p, hrg, hI⟩ := HC.out k s hs
            have k0 : (w5.drewN m).cell? ⟨g, k * 3, none⟩ = some (.slice p.A s.1.length p.c) := hrg 0 _ rfl
            have k1 : ∀ d, (w5.drewN d).cell? ⟨g, k * 3 + 1, none⟩ = some (.slice p.A' (trk s).length p.c') := fun d => hrg 1 _ rfl
            have k2 : ∀ d, (w5.drewN d).cell? ⟨g, k * 3 + 2, none⟩ = some (.int .i64 s.2.2) := fun d => hrg 2 _ rfl
            have hOs := HOK.out s (List.mem_of_getElem? hs)
            obtain ⟨z1, z2, z3⟩ := spSz hOs (lv_bd hclv).2
            have T1 := l01Same2_any p.A A' s.1.length n' p.c c' w5.heap.size B' s.1 f (w5.drewN m) rfl HL'.out (by omega) hn' (hI.2.1.drewN m) (HM5.out.drewN m)
            have htr : (trk s).length ≤ 16 := by
              have : (trk s).length ≤ total s.2.1 := by
                unfold trk
                rcases hs2 : s.2.1 with _ | ⟨y, ys⟩
                · simp
                · simp [total]
              omega
            have T2 := fun d => l01Same_any p.A' (some ⟨w2.heap.size, 0, none⟩) (trk s).length 0 p.c' 0 w5.heap.size w5.heap.size (trk s) (leftOf r) (w5.drewN d) rfl (by rw [HLE.out]; rfl) (by omega) (by omega) hI.2.2.2 HLW5.out
            have HS := Lib.hid hs
            have HK1 := Lib.hid k1
            have HK2 := Lib.hid k2
            have HI := Lib.hid hI
            clear hs hrg hI z1 z2 z3 htr k1 k2
            go_wp2_with fail
            refine T1.mono ?_
            rintro e w6 ⟨rfl, d6, rfl⟩
            clear T1 k0
            by_cases hcr : s.1 = f
            · rw [show decide (s.1 = f) = true from decide_eq_true hcr]
              have kk1 : ∀ a b, ((w5.drewN a).drewN b).cell? ⟨g, k * 3 + 1, none⟩ = some (.slice p.A' (trk s).length p.c') := fun a b => HK1.out a
              have y1 := kk1 m d6
              have y2 := HK1.out (m + d6)
              have HCR := Lib.hid hcr
              clear hcr kk1
              go_wp2_with fail
              refine (T2 (m + d6)).mono ?_
              rintro e w7 ⟨rfl, d7, rfl⟩
              clear y1 y2 T2
              by_cases htk : trk s = leftOf r
              · rw [show eqL (trk s) (leftOf r) = true from eqL_iff'.2 htk]
                have E : Hid (countCutA t f r = (s.2.2, 0)) := by rw [Hid, GE.out, HF.out s (List.mem_of_getElem? HS.out) HCR.out htk]
                have z1 := HK2.out (m + d6 + d7)
                clear htk
                go_wp2
                go_ret2
                exact ResI.of' E.out (below_drewN G5.out _)
              · rw [show eqL (trk s) (leftOf r) = false by (cases h : eqL (trk s) (leftOf r); (· rfl); (· exact absurd (eqL_iff'.1 h) htk))]
                have N1 : Hid (∀ (j : Nat) (s : Spl), j < k + 1 → S[j]? = some s → ¬ (s.1 = f ∧ trk s = leftOf r)) := fun j s' hj hs' => by
                  by_cases e : j = k
                  · subst e
                    rw [HS.out] at hs'
                    obtain rfl := Option.some.inj hs'
                    exact fun h => htk h.2
                  · exact HK.out j s' (by omega) hs'
                clear htk
                go_wp2
                go_roundw
                case rel => exact ⟨k + 1, by omega, by go_num, N1, _, rfl⟩
                case measure => simp [intOf]; omega
            · rw [show decide (s.1 = f) = false from decide_eq_false hcr]
              have N1 : Hid (∀ (j : Nat) (s : Spl), j < k + 1 → S[j]? = some s → ¬ (s.1 = f ∧ trk s = leftOf r)) := fun j s' hj hs' => by
                by_cases e : j = k
                · subst e
                  rw [HS.out] at hs'
                  obtain rfl := Option.some.inj hs'
                  exact fun h => hcr h.1
                · exact HK.out j s' (by omega) hs'
              clear hcr T2
              go_wp2
              go_roundw
              case rel => exact ⟨k + 1, by omega, by go_num, N1, _, rfl⟩
              case measure => simp [intOf]; omega
          · obtain rfl : k = q := by omega
            have E : Hid (countCutA t f r = (0, 0)) := by
              rw [Hid, GE.out, HN.out (fun s hs => by
                obtain ⟨j, hj⟩ := List.mem_iff_getElem?.1 hs
                exact HK.out j s (by rw [HQ.out]; exact (List.getElem?_eq_some_iff.1 hj).1) hj)]
            go_wp2
            go_ret2
            exact ResI.of' E.out (below_drewN G5.out _)
      · have C2 := fun W (hW : Below w.heap.size w W) => l03Is_any A2 n2 c2 B2 r W hl2 hn2 (h2.below hW hB2)
        cases hlv2 : Tr.isLv r
        · have G : Hid (countCutA t f r = (0, 1)) := if_neg (fun hh => by rcases hh.2.2 with h | h; (· omega); (· rw [hlv2] at h; cases h))
          simp only [hlv2] at C2
          have hp2 : 0 < n2 := by omega
          clear hl hl' hl2 CN CX
          go_enter Tryz.func22, Tryz.ntmps22
          go_wp2_with fail
          refine C0.mono ?_
          rintro e w' ⟨rfl, d, rfl⟩
          go_wp2_with fail
          refine (CF d).mono ?_
          rintro e w2 ⟨rfl, bel2⟩
          have G2 : Hid (Below w.heap.size w w2) := (below_drewN (Below.refl _ _) d).trans bel2
          clear bel2
          go_wp2_with fail
          refine (C2 _ G2.out).mono ?_
          rintro e w3 ⟨rfl, d3, rfl⟩
          go_wp2
          go_ret2
          exact ResI.of' G.out (below_drewN G2.out _)
        · have RR : Hid (r.length = 0 ∨ Tr.isLv r = true) := .inr hlv2
          have GE : Hid (countCutA t f r = (tl (cts (Tr.txt t)) (wantK f r), 0)) := if_pos ⟨hlv, hfo, RR.out⟩
          have HLE : Hid (leftOf r = Tr.can r) := by unfold leftOf; rw [Hid, if_neg (by omega)]
          have HLEN : Hid ((leftOf r).length = n2) := by rw [HLE.out]; exact (lv_can hlv2).2.trans hl2
          have HL' := Lib.hid hl'
          have hp2 : 0 < n2 := by omega
          have hp3 : (n2 : Int) ≠ 0 := by omega
          have CR := fun W (hW : Below w.heap.size w W) => l03Canon_any A2 n2 c2 B2 r W hl2 hlv2 (by have := hW.size; omega) (h2.below hW hB2)
          simp only [hlv2] at C2
          clear hl hl' hl2 h0
          go_enter Tryz.func22, Tryz.ntmps22
          go_wp2_with fail
          refine C0.mono ?_
          rintro e w' ⟨rfl, d, rfl⟩
          go_wp2_with fail
          refine (CF d).mono ?_
          rintro e w2 ⟨rfl, bel2⟩
          have G2 : Hid (Below w.heap.size w w2) := (below_drewN (Below.refl _ _) d).trans bel2
          clear bel2
          go_wp2_with fail
          refine (C2 _ G2.out).mono ?_
          rintro e w3 ⟨rfl, d3, rfl⟩
          have hz2 := G2.out.size
          have GD : Hid (Below w.heap.size w (w2.drewN d3)) := below_drewN G2.out d3
          have GL0 : Hid (Below w.heap.size w ((w2.drewN d3).alloc (.cells #[] 2))) := GD.out.alloc GD.out.size _
          go_wp2_with fail
          refine (CR _ GL0.out).mono ?_
          rintro e w3 ⟨A3, c3, rfl, own3, bel3⟩
          have hz3' := GL0.out.size
          have GL : Hid (Below w.heap.size w w3) := GL0.out.trans (bel3.mono hz3')
          have HLW : Hid (Row w3 w3.heap.size A3 (ints (leftOf r))) := by rw [HLE.out]; exact row_of_own own3
          have hz3 := GL.out.size
          clear bel3 own3 hz3'
          go_wp2_with fail
          refine (CN _ GL.out).mono ?_
          rintro e w4 ⟨A4, c4, rfl, own4, bel4⟩
          have hr4 := row_of_own own4
          obtain ⟨x0, hx0⟩ := at_lt (show 0 < (Tr.can t).length by have := (lv_bd hclv).1; omega)
          obtain ⟨b9, o9, rfl, _, _⟩ := hr4 0 _ (ints_at hx0)
          have G4 : Hid (Below w.heap.size w w4) := GL.out.trans (bel4.mono GL.out.size)
          have HLW4 := Lib.hid ((HLW.out.below bel4 (Nat.le_refl _)).more bel4.size)
          clear bel4 own4 hx0 HLW
          go_wp2_with fail
          refine (CX _ _ _ hr4).mono ?_
          rintro e w5 ⟨g, cg, rfl, hcg, hcm, hgz, hcells, bel5⟩
          have G5 : Hid (Below w.heap.size w w5) := G4.out.trans (bel5.mono G4.out.size)
          have HLW5 := Lib.hid ((HLW4.out.below bel5 (Nat.le_refl _)).more bel5.size)
          have HC := Lib.hid hcells
          have HM5 := Lib.hid (h'.below G5.out hB')
          have hfound := fun s (hs : s ∈ spF 8 (Tr.can t)) h1 h2 => found_cut (f := f) (r := r) hlv hfo RR.out hs h1 h2
          have hnone := found_none (t := t) (f := f) (r := r) hlv hfo RR.out
          have hok := spF_ok 8 (Tr.can t) hclv (lv_bd hclv).2
          have hlen := len_sumC hok
          have hs256 : sumC (spF 8 (Tr.can t)) ≤ 256 := by
            rw [spF_sum]
            have h1 := (cntS_le 8 (Tr.can t) hclv).2
            have h8 := (lv_bd hclv).2
            have : (Tr.can t).length = 8 ∨ (Tr.can t).length ≤ 7 := by omega
            rcases this with h | h
            · rw [h] at h1; exact Int.le_trans h1 (by decide)
            · have := pow7 h; omega
          obtain ⟨S, hS⟩ : ∃ S, S = spF 8 (Tr.can t) := ⟨_, rfl⟩
          rw [← hS] at HC hfound hnone hok hlen hs256 hcg ⊢
          have HF := Lib.hid hfound
          have HN := Lib.hid hnone
          have HOK := Lib.hid hok
          obtain ⟨q, hq⟩ : ∃ q, q = S.length := ⟨_, rfl⟩
          have hq1 : q ≤ 256 := by omega
          have HQ := Lib.hid hq
          rw [← hq]
          clear hcells bel5 hS hq hfound hnone hok hlen hs256 hcg hr4 CN CX CF CR C2
          go_wp2_with fail
          clear h h' h2 C0
          go_loopw [10] (fun i wr => ∃ k : Nat, k ≤ q ∧ i = .int .i64 k ∧ Hid (∀ (j : Nat) (s : Spl), j < k → S[j]? = some s → ¬ (s.1 = f ∧ trk s = leftOf r)) ∧ ∃ m, wr = w5.drewN m) (fun i _ => q - (intOf i).toNat)
          case atStart => exact ⟨0, by omega, rfl, fun j s hj => by omega, 0, rfl⟩
          case round =>
            obtain ⟨k, hk, rfl, HK, m, rfl⟩ := hrel
            by_cases hlt : k < q
            · obtain ⟨s, hs⟩ := at_lt (show k < S.length by rw [← HQ.out]; exact hlt)
              obtain ⟨p, hrg, hI⟩ := HC.out k s hs
              have k0 : (w5.drewN m).cell? ⟨g, k * 3, none⟩ = some (.slice p.A s.1.length p.c) := hrg 0 _ rfl
              have k1 : ∀ d, (w5.drewN d).cell? ⟨g, k * 3 + 1, none⟩ = some (.slice p.A' (trk s).length p.c') := fun d => hrg 1 _ rfl
              have k2 : ∀ d, (w5.drewN d).cell? ⟨g, k * 3 + 2, none⟩ = some (.int .i64 s.2.2) := fun d => hrg 2 _ rfl
              have hOs := HOK.out s (List.mem_of_getElem? hs)
              obtain ⟨z1, z2, z3⟩ := spSz hOs (lv_bd hclv).2
              have T1 := l01Same2_any p.A A' s.1.length n' p.c c' w5.heap.size B' s.1 f (w5.drewN m) rfl HL'.out (by omega) hn' (hI.2.1.drewN m) (HM5.out.drewN m)
              have htr : (trk s).length ≤ 16 := by
                have : (trk s).length ≤ total s.2.1 := by
                  unfold trk
                  rcases hs2 : s.2.1 with _ | ⟨y, ys⟩
                  · simp
                  · simp [total]
                omega
              have T2 := fun d => l01Same_any p.A' A3 (trk s).length n2 p.c' c3 w5.heap.size w5.heap.size (trk s) (leftOf r) (w5.drewN d) rfl HLEN.out (by omega) (by omega) hI.2.2.2 HLW5.out
              have HS := Lib.hid hs
              have HK1 := Lib.hid k1
              have HK2 := Lib.hid k2
              have HI := Lib.hid hI
              clear hs hrg hI z1 z2 z3 htr k1 k2
              go_wp2_with fail
              refine T1.mono ?_
              rintro e w6 ⟨rfl, d6, rfl⟩
              clear T1 k0
              by_cases hcr : s.1 = f
              · rw [show decide (s.1 = f) = true from decide_eq_true hcr]
                have kk1 : ∀ a b, ((w5.drewN a).drewN b).cell? ⟨g, k * 3 + 1, none⟩ = some (.slice p.A' (trk s).length p.c') := fun a b => HK1.out a
                have y1 := kk1 m d6
                have y2 := HK1.out (m + d6)
                have HCR := Lib.hid hcr
                clear hcr kk1
                go_wp2_with fail
                refine (T2 (m + d6)).mono ?_
                rintro e w7 ⟨rfl, d7, rfl⟩
                clear y1 y2 T2
                by_cases htk : trk s = leftOf r
                · rw [show eqL (trk s) (leftOf r) = true from eqL_iff'.2 htk]
                  have E : Hid (countCutA t f r = (s.2.2, 0)) := by rw [Hid, GE.out, HF.out s (List.mem_of_getElem? HS.out) HCR.out htk]
                  have z1 := HK2.out (m + d6 + d7)
                  clear htk
                  go_wp2
                  go_ret2
                  exact ResI.of' E.out (below_drewN G5.out _)
                · rw [show eqL (trk s) (leftOf r) = false by (cases h : eqL (trk s) (leftOf r); (· rfl); (· exact absurd (eqL_iff'.1 h) htk))]
                  have N1 : Hid (∀ (j : Nat) (s : Spl), j < k + 1 → S[j]? = some s → ¬ (s.1 = f ∧ trk s = leftOf r)) := fun j s' hj hs' => by
                    by_cases e : j = k
                    · subst e
                      rw [HS.out] at hs'
                      obtain rfl := Option.some.inj hs'
                      exact fun h => htk h.2
                    · exact HK.out j s' (by omega) hs'
                  clear htk
                  go_wp2
                  go_roundw
                  case rel => exact ⟨k + 1, by omega, by go_num, N1, _, rfl⟩
                  case measure => simp [intOf]; omega
              · rw [show decide (s.1 = f) = false from decide_eq_false hcr]
                have N1 : Hid (∀ (j : Nat) (s : Spl), j < k + 1 → S[j]? = some s → ¬ (s.1 = f ∧ trk s = leftOf r)) := fun j s' hj hs' => by
                  by_cases e : j = k
                  · subst e
                    rw [HS.out] at hs'
                    obtain rfl := Option.some.inj hs'
                    exact fun h => hcr h.1
                  · exact HK.out j s' (by omega) hs'
                clear hcr T2
                go_wp2
                go_roundw
                case rel => exact ⟨k + 1, by omega, by go_num, N1, _, rfl⟩
                case measure => simp [intOf]; omega
            · obtain rfl : k = q := by omega
              have E : Hid (countCutA t f r = (0, 0)) := by
                rw [Hid, GE.out, HN.out (fun s hs => by
                  obtain ⟨j, hj⟩ := List.mem_iff_getElem?.1 hs
                  exact HK.out j s (by rw [HQ.out]; exact (List.getElem?_eq_some_iff.1 hj).1) hj)]
              go_wp2
              go_ret2
              exact ResI.of' E.out (below_drewN G5.out _)
end Go.Proofs.YtolkbbbbahhfaaaGreat
/-
  Marks that the laws write into lists of the call's own, and their reading.
-/
namespace Go.Proofs.YtolkbbbbahhfaaaGreat
open Go.RowKit Fld
set_option linter.unusedVariables false
set_option linter.unusedSimpArgs false
set_option maxRecDepth 100000

def MarkedM (lo hi n : Nat) (v : Value) (k : Int) (m : List (List Int)) (vs : List Value) (w : World) (e : Ending) (w' : World) : Prop :=
  e = .returned (.int .i64 (k + (total m : Nat))) ∧ OwnMat w' lo hi v n (marksM k m) vs ∧ Within lo hi w w'
def MarkingM (lo hi n : Nat) (v : Value) (k : Int) (m : List (List Int)) (vs : List Value) (r : Nat) (w wr : World) : Prop :=
  OwnMat wr lo hi v n ((marksM k m).take r ++ m.drop r) vs ∧ Within lo hi w wr
theorem MarkingM.step {lo hi n r c : Nat} {v : Value} {A : Option Addr} {k : Int} {m : List (List Int)} {vs : List Value} {row : List Int} {w wr w2 : World} {e : Ending} (h : MarkingM lo hi n v k m vs r w wr) (hr : m[r]? = some row) (hv : vs[r]? = some (.slice A row.length c))
    (hm : Marked lo row.length c A (k + (total (m.take r) : Nat)) wr e w2) : MarkingM lo hi n v k m vs (r + 1) w w2 := by
  obtain ⟨h1, h2⟩ := h
  obtain ⟨_, h3, h4⟩ := hm
  have hrl : r < m.length := by
    rcases Nat.lt_or_ge r m.length with g | g
    · exact g
    · rw [List.getElem?_eq_none g] at hr; cases hr
  have h5 := h1.set_row hv (marks_length _ _) h3 h4
  rw [markM_step hrl (marksM_length _ _) (marksM_at m k r row hr)] at h5
  refine ⟨h5, h2.trans (Within.grown h4 fun g hg => ?_)⟩
  have hat : ((marksM k m).take r ++ m.drop r)[r]? = some row := by
    have e1 : ((marksM k m).take r).length = r := by simp [marksM_length]; omega
    rw [List.getElem?_append_right (by omega), e1, Nat.sub_self, List.getElem?_drop, Nat.add_zero]; exact hr
  obtain ⟨A2, c2, e2, o2⟩ := h1.inner r row hat
  rw [hv] at e2
  injection e2 with e2
  rw [e2] at hg
  exact ⟨(o2.1.lt g hg).1, o2.2 g hg⟩
theorem MarkingM.done {lo hi n : Nat} {v : Value} {k : Int} {m : List (List Int)} {vs : List Value} {w wr : World} (h : MarkingM lo hi n v k m vs n w wr) (hl : m.length = n) : MarkedM lo hi n v k m vs w (.returned (.int .i64 (k + (total m : Nat)))) wr := by
  obtain ⟨h1, h2⟩ := h
  rw [List.take_of_length_le (by rw [marksM_length]; omega), List.drop_eq_nil_of_le (by omega), List.append_nil] at h1
  exact ⟨rfl, h1, h2⟩
theorem MarkingM.at_ {lo hi n r : Nat} {v : Value} {k : Int} {m : List (List Int)} {vs : List Value} {row : List Int} {w wr : World} (h : MarkingM lo hi n v k m vs r w wr) (hr : m[r]? = some row) :
    ∃ A c, vs[r]? = some (.slice A row.length c) ∧ OwnR wr lo hi 2 (.slice A row.length c) row.length (ints row) := by
  have hrl : r < m.length := by
    rcases Nat.lt_or_ge r m.length with g | g
    · exact g
    · rw [List.getElem?_eq_none g] at hr; cases hr
  have hat : ((marksM k m).take r ++ m.drop r)[r]? = some row := by
    have e1 : ((marksM k m).take r).length = r := by simp [marksM_length]; omega
    rw [List.getElem?_append_right (by omega), e1, Nat.sub_self, List.getElem?_drop, Nat.add_zero]; exact hr
  exact h.1.inner r row hat
set_option maxHeartbeats 400000 in
theorem markInt64SS_any (A : Option Addr) (n c lo hi : Nat) (m : List (List Int)) (vs : List Value) (k : Int) (w : World) (hn : n ≤ 1099511627776) (ht : total m ≤ 1048576) (k0 : 0 ≤ k) (k1 : k ≤ 1073741824) (h : OwnMat w lo hi (.slice A n c) n m vs) :
    Calls Tryz.prog 45 #[.slice A n c, .int .i64 k] w (MarkedM lo hi n (.slice A n c) k m vs w) := by
  have HL := Lib.hid h.size
  have F0 : Hid (MarkingM lo hi n (.slice A n c) k m vs 0 w w) := ⟨by simpa using h, Within.refl _ _ _⟩
  clear h
  go_enter Tryz.func45, Tryz.ntmps45
  go_wp2_with fail
  go_loopw [1, 5] (fun kk i wr => ∃ r : Nat, r ≤ n ∧ kk = .int .i64 (k + (total (m.take r) : Nat)) ∧ i = .int .i64 r ∧ MarkingM lo hi n (.slice A n c) k m vs r w wr) (fun _ i _ => n - (intOf i).toNat)
  case atStart => exact ⟨0, Nat.zero_le _, by simp [total], rfl, F0.out⟩
  case round =>
    obtain ⟨r, hr, rfl, rfl, HF⟩ := hrel
    have hle := total_le m r
    by_cases hlt : r < n
    · obtain ⟨row, hrow⟩ := at_lt (show r < m.length by rw [HL.out]; exact hlt)
      obtain ⟨Ar, cr, hvr, hor⟩ := HF.at_ hrow
      obtain ⟨b, o, rfl, _, hc⟩ := HF.1.outer.row r _ hvr
      have hrl : row.length ≤ 1048576 := by
        have h1 := total_take hrow
        have h2 := total_le m (r + 1)
        omega
      have HT := Lib.hid (total_take hrow)
      have HV := Lib.hid hvr
      have HF' := Lib.hid HF
      have HR := Lib.hid hrow
      clear HF F0 hvr hrow
      go_wp2_with fail
      refine (markInt64S_any Ar row.length cr lo row _ _ rfl (by omega) (by omega) (by omega) hor.1).mono ?_
      rintro e w2 hm
      have G := Lib.hid (HF'.out.step HR.out HV.out hm)
      obtain ⟨rfl, _, _⟩ := hm
      have he : k + (total (m.take r) : Nat) + (row.length : Int) = k + (total (m.take (r + 1)) : Nat) := by rw [HT.out]; omega
      have HE := Lib.hid he
      clear he
      rw [HE.out]
      have hle2 := total_le m (r + 1)
      go_wp2
      go_roundw
      case rel => exact ⟨r + 1, by omega, rfl, by go_num, G.out⟩
      case measure => simp [intOf]; omega
    · obtain rfl : r = n := by omega
      have e : total (m.take r) = total m := by rw [List.take_of_length_le (by rw [HL.out]; omega)]
      have HE := Lib.hid e
      have G := Lib.hid (HF.done HL.out)
      clear HF F0 e
      go_wp2
      go_ret
      rw [HE.out]
      exact G.out
end Go.Proofs.YtolkbbbbahhfaaaGreat
