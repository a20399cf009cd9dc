/-
  Texts of this seat, joined: what several laws lean on.
-/
import Derived.Test.YtjmjdcfgbaepkaaUX1
import Derived.Test.YtjmjdcfgbaepkaaSumP
import Derived.Test.YtjmjdcfgbaepkaaCnts
import Derived.Test.YtjmjdcfgbaepkaaLvl
import Derived.Test.YtjmjdcfgbaepkaaCan
import Derived.Test.YtjmjdcfgbaepkaaTreeE
import Derived.Test.YtjmjdcfgbaepkaaGrfU
import Derived.Test.YtjmjdcfgbaepkaaAre
import Derived.Test.YtjmjdcfgbaepkaaSame
import Derived.Test.YtjmjdcfgbaepkaaTreeOf
import Derived.Test.YtjmjdcfgbaepkaaRes1
import Derived.Test.YtjmjdcfgbaepkaaBase
import Derived.Test.YtjmjdcfgbaepkaaResO
import Derived.Test.YtjmjdcfgbaepkaaCmpX
import Derived.Test.YtjmjdcfgbaepkaaOwn1
import Derived.BigQuiet
import Derived.Deep.RegionHeld3
import Derived.Test.YtjmjdcfgbaepkaaTreeF
import Derived.Test.YtjmjdcfgbaepkaaGcR
/-
  The list of a sum that the program keeps is the model's sum.
-/
namespace Go.Proofs.Ytjmjdcfgbaepkaa
open Go.RowKit Fld
set_option linter.unusedVariables false
set_option linter.unusedSimpArgs false
set_option maxRecDepth 100000

/-- the list of a sum: its texts in order with their numbers -/
def listF (f : List UInt8 → Int) (ss : List (List UInt8)) : List (List Int × Int) := ss.map fun s => (Tr.lvl s, f s)
theorem tr_txt {t : List Int} (h : isTr t = true) : Tr.lvl (Tr.txt t) = t := by
  obtain ⟨h1, h2⟩ := tr_lv h
  rw [(lv_txt h1).1, h2]
theorem cntTo_count (L : List (List Int)) (s : List Int) : ∀ k, k ≤ L.length → Tr.cntTo (fun k => L.getD k []) s k = ((L.take k).count s : Int)
  | 0, _ => by simp [Tr.cntTo]
  | k+1, h => by
    have hk : k < L.length := by omega
    rw [Tr.cntTo, cntTo_count L s k (by omega), List.take_add_one, List.getElem?_eq_getElem hk, Option.toList_some, List.count_append, List.count_singleton, List.getD_eq_getElem?_getD, List.getElem?_eq_getElem hk]
    simp only [Option.getD_some]
    by_cases e : s = L[k]
    · rw [if_pos e, if_pos (by rw [e]; simp)]; simp
    · rw [if_neg e, if_neg (by simpa using fun q => e q.symm)]; simp
theorem count_txt {L : List (List Int)} {s : List Int} (hL : ∀ t ∈ L, isTr t = true) (hs : isTr s = true) : (L.map Tr.txt).count (Tr.txt s) = L.count s := by
  induction L with
  | nil => rfl
  | cons t r ih =>
    rw [List.map_cons, List.count_cons, List.count_cons, ih (fun t ht => hL t (by simp [ht]))]
    congr 1
    by_cases e : t = s
    · rw [e]; simp
    · have : Tr.txt t ≠ Tr.txt s := fun q => e (by rw [← tr_txt (hL t (by simp)), ← tr_txt hs, q])
      simp [e, this]
theorem look_listF_no {f : List UInt8 → Int} {s : List Int} : ∀ {l : List (List UInt8)}, (∀ y ∈ l, Tr.lvl y ≠ s) → Tr.look s (listF f l) = 0
  | [], _ => rfl
  | y :: r, h => by
    show (if Tr.lvl y = s then f y else 0) + Tr.look s (listF f r) = 0
    rw [if_neg (h y (by simp)), look_listF_no (l := r) (fun z hz => h z (by simp [hz]))]; rfl
theorem look_listF {f : List UInt8 → Int} {x : List UInt8} : ∀ {l : List (List UInt8)}, l.Nodup → (∀ y ∈ l, Tr.lvl y = Tr.lvl x → y = x) → x ∈ l → Tr.look (Tr.lvl x) (listF f l) = f x
  | [], _, _, h => by cases h
  | y :: r, hn, hi, h => by
    rw [List.nodup_cons] at hn
    show (if Tr.lvl y = Tr.lvl x then f y else 0) + Tr.look (Tr.lvl x) (listF f r) = f x
    by_cases e : y = x
    · subst e
      rw [if_pos rfl, look_listF_no (l := r) (fun z hz q => hn.1 (by rw [← hi z (by simp [hz]) q]; exact hz))]; omega
    · rw [if_neg (fun q => e (hi y (by simp) q))]
      rw [List.mem_cons] at h
      rcases h with h | h
      · exact absurd h.symm e
      · rw [look_listF hn.2 (fun z hz => hi z (by simp [hz])) h]; omega
theorem sum_list {L : List (List Int)} {R ss : List (List UInt8)} {f : List UInt8 → Int} {n : Nat} (hL : ∀ t ∈ L, isTr t = true) (hp : R.Perm (L.map Tr.txt)) (hf : ∀ y, f y = (R.count y : Int)) (hK : KeysF f n ss) :
    listF f (Tr.sortT ss) = Tr.sumTo (fun k => L.getD k []) L.length := by
  have hmem : ∀ y ∈ Tr.sortT ss, ∃ t ∈ L, y = Tr.txt t := fun y hy => by
    have h1 := (hK.2.1 y).1 ((sortT_perm ss).mem_iff.1 hy)
    rw [hf y] at h1
    have h2 : 0 < R.count y := by omega
    have h3 := hp.mem_iff.1 (List.count_pos_iff.1 h2)
    rw [List.mem_map] at h3
    obtain ⟨t, q1, q2⟩ := h3
    exact ⟨t, q1, q2.symm⟩
  have hnd : (Tr.sortT ss).Nodup := (sortT_perm ss).nodup_iff.2 hK.1
  refine Tr.sums_eq ?_ (Tr.sumTo_order _ _) (fun e he => ?_) (fun e he => by have := Tr.sumTo_pos _ _ e he; omega) (fun s => ?_)
  · have h1 := (sortT_sorted ss).and hnd
    refine List.pairwise_map.2 (h1.imp_of_mem fun {a b} ha hb hab => ?_)
    obtain ⟨ta, q1, q2⟩ := hmem a ha
    obtain ⟨tb, r1, r2⟩ := hmem b hb
    show Tr.beforeL (Tr.lvl a) (Tr.lvl b) = true
    obtain ⟨h2, h3⟩ := hab
    rw [q2, r2] at h2 h3
    rw [q2, r2, tr_txt (hL ta q1), tr_txt (hL tb r1)]
    rw [leT_txt (hL ta q1) (hL tb r1)] at h2
    rcases Tr.bf_cn (x := ta) (y := tb) (fun q => h3 (by rw [q])) with b | b
    · exact b
    · rw [b] at h2; cases h2
  · unfold listF at he
    rw [List.mem_map] at he
    obtain ⟨y, hy, q⟩ := he
    rw [← q]
    exact (hK.2.1 y).1 ((sortT_perm ss).mem_iff.1 hy)
  · rw [Tr.look_sumTo, cntTo_count L s _ (Nat.le_refl _), List.take_length]
    by_cases hs : s ∈ L
    · have hst := hL s hs
      have hc := count_txt hL hst
      have hin : Tr.txt s ∈ Tr.sortT ss := by
        rw [(sortT_perm ss).mem_iff, hK.2.1, hf, hp.count_eq, hc]
        have := List.count_pos_iff.2 hs
        omega
      have h9 := look_listF (f := f) (x := Tr.txt s) hnd (fun y hy q => by
        obtain ⟨t, q1, q2⟩ := hmem y hy
        rw [q2] at q ⊢
        rw [tr_txt (hL t q1), tr_txt hst] at q
        rw [q]) hin
      rw [tr_txt hst] at h9
      rw [h9, hf, hp.count_eq, hc]
    · rw [List.count_eq_zero_of_not_mem hs, look_listF_no (fun y hy q => by
        obtain ⟨t, q1, q2⟩ := hmem y hy
        rw [q2, tr_txt (hL t q1)] at q
        exact hs (by rw [← q]; exact q1))]
      rfl
end Go.Proofs.Ytjmjdcfgbaepkaa
/-
  A sum of trees in a map of the program, as a list in order.
-/
namespace Go.Proofs.Ytjmjdcfgbaepkaa
open Go.RowKit Fld Go.Maps Go.Sort
set_option linter.unusedVariables false
set_option linter.unusedSimpArgs false
set_option maxRecDepth 100000

theorem ownsMap_below {H : Type} {P : Program} {k : TypeId} {R : Value → Option (DataW H × List MemPlace)} {w w' : World} {b n B : Nat} {D : DataW H} (h : w.ownsMap P k R b n D) (hb : Below B w w') (hB : b < B) : w'.ownsMap P k R b n D := by
  obtain ⟨es, clock, h1, r⟩ := h
  exact ⟨es, clock, (hb.block b hB).trans h1, r⟩
theorem below0 {w w' : World} {base k n : Nat} {T : TypeId} {v : Value} {vs : List Value} (h : w.ownsRow base T k v n vs) (hb : Below w.heap.size w w') : w'.ownsRow base T k v n vs := ownsRow_keep h fun g hg => hb.block g (h.lt g (blk_mem.1 hg)).2
theorem lvlF_length : ∀ (d : Int) (s : List UInt8), (Tr.lvlF d s).length ≤ s.length
  | _, [] => by simp [Tr.lvlF]
  | d, c :: s => by
    rw [Tr.lvlF]
    split
    · have := lvlF_length (d + 1) s; simp; omega
    · have := lvlF_length (d - 1) s; simp; omega
theorem BldC.low {W wr : World} {S : List (List Int × Int)} {v : Value} {g : Nat} (h : BldC W S v wr) (hv : v.ownBlock = some g) : W.heap.size ≤ g := by
  obtain ⟨B, h1, h2, h3, h4⟩ := h
  obtain ⟨vs, _, hb⟩ := h1.outer
  exact (h3 g (hb g (blk_mem.2 hv))).1
set_option maxHeartbeats 4000000 in
theorem counted_any (b n : Nat) (f : List UInt8 → Int) (w : World) (h : MapF w b n f) (hn : n ≤ 12) (hf : ∀ x, f x ≠ 0 → x.length ≤ 16 ∧ Brk x) :
    Calls Try.prog 62 #[.map (some b)] w fun e w' => ∃ A c ss, e = .returned (.slice A ss.length c) ∧ KeysF f n ss ∧ OwnD ShC w.heap.size w'.heap.size [.slice A ss.length c] (listF f (Tr.sortT ss)) w' ∧ Below w.heap.size w w' := by
  obtain ⟨i0, hi, hz0, hz1, hz2⟩ := info_parts info_cnt
  have HF := Lib.hid hf
  have HM := Lib.hid h
  obtain ⟨D, hown, hD⟩ := h
  have hsz := hown.size_le
  have hblt0 := hown.lt
  have HD := Lib.hid hD
  have HO := Lib.hid hown
  go_enter Try.func62, Try.ntmps62
  go_wp2_with (first
    | (at_len; refine wpList_len_own _ rfl _ 74 rfl 75 2 Try.underlying74 _ b n D rfl hown ?_)
    | (at_make; refine wpList_make_own _ rfl _ _ 27 rfl w.heap.size 32 i0 _ 2 Try.underlying27 hi hz0 hz1 .i64 .i64 _ (Maps.size D) rfl rfl rfl (by rw [hz2]; omega) (by simp only [maxLen]; omega) (Nat.le_refl _) ?_; intro w1 hown1 hgrow1)
    | fail)
  have hs1 : w.heap.size < w1.heap.size := (hown1.lt w.heap.size rfl).2
  have HB1 : Hid (BldC w [] (.slice (some ⟨w.heap.size, 0, none⟩) 0 (Maps.size D)) w1) := BldC.start hown1 hgrow1
  have HBW : Hid (Below w.heap.size w w1) := HB1.out.own.2
  have HM1 := HM.out.below HBW.out hblt0
  have hb1 : b < w1.heap.size := by omega
  obtain ⟨W1, hW1⟩ : ∃ W1, W1 = w1 := ⟨_, rfl⟩
  have CK := keys_any b w1
  have CS := sortedFunc_any b n f w1 HM1 hn (fun x hx => (HF.out x hx).1)
  clear hown1 hgrow1 hown
  go_wp2_with fail
  refine CK.mono ?_
  rintro e w2 ⟨rfl, rfl⟩
  go_wp2_with fail
  refine CS.mono ?_
  rintro e w3 ⟨A, c, ss, rfl, hK, own3, bel3⟩
  have hs3 : w1.heap.size < w3.heap.size := by have := bel3.size; simp at this; omega
  have hb13 : Below w1.heap.size w1 w3 := ((Below.refl _ _).alloc (Nat.le_refl _) _).trans (bel3.mono (by omega))
  have HB3 := Lib.hid (HB1.out.below hb13)
  obtain ⟨q, hq⟩ : ∃ q, q = ss.length := ⟨_, rfl⟩
  have hq12 : q ≤ 12 := by rw [hq]; have := hK.2.2; omega
  rw [← hq] at own3 ⊢
  have HQ := Lib.hid hq
  have HOR := Lib.hid (OwnR.of own3)
  have HSL : Hid ((Tr.sortT ss).length = q) := by rw [Hid, (sortT_perm ss).length_eq]; exact hq.symm
  have HSM : Hid (∀ s ∈ Tr.sortT ss, f s ≠ 0 ∧ s.length ≤ 16 ∧ Brk s) := fun s hs => by
    have h1 := (hK.2.1 s).1 ((sortT_perm ss).mem_iff.1 hs)
    exact ⟨h1, HF.out s h1⟩
  have HK := Lib.hid hK
  clear own3 bel3 hb13 HB1 CK CS hK hq HM1 hf hD HF HM
  go_wp2_with fail
  go_loopw [3, 13] (fun v i wr => ∃ (k g cap : Nat), k ≤ q ∧ v = .slice (some ⟨g, 0, none⟩) k cap ∧ i = .int .i64 k ∧ (g < w1.heap.size ∨ w3.heap.size ≤ g) ∧ w3.heap.size ≤ wr.heap.size ∧ Hid (BldC w (listF f ((Tr.sortT ss).take k)) (.slice (some ⟨g, 0, none⟩) k cap) wr) ∧ Hid (∀ z, w1.heap.size ≤ z → z < w3.heap.size → wr.heap[z]? = w3.heap[z]?)) (fun _ i _ => q - (intOf i).toNat)
  case atStart => exact ⟨0, w.heap.size, _, Nat.zero_le _, rfl, rfl, .inl hs1, Nat.le_refl _, HB3.out, fun _ _ _ => rfl⟩
  case round =>
    obtain ⟨k, g, cap, hk, rfl, rfl, hg0, hw3, HBK, HKP⟩ := hrel
    by_cases hlt : k < q
    · obtain ⟨s, hs⟩ := at_lt (show k < (Tr.sortT ss).length by rw [HSL.out]; exact hlt)
      obtain ⟨hfs, hs16, hbrk⟩ := HSM.out s (List.mem_of_getElem? hs)
      obtain ⟨b', o', rfl, _, hc⟩ := (HOR.out.keep (fun z h1 h2 => HKP.out z (by omega) h2)).row k _ (strs_at hs)
      have hbw := HBK.out.own.2
      have HOW := Lib.hid (ownsMap_below HO.out hbw hblt0)
      have hblt : b < wr.heap.size := by have := hbw.size; omega
      have hgw : w.heap.size ≤ g := HBK.out.low rfl
      have hbg : b ≠ g := by omega
      have HLK : Hid ((listF f ((Tr.sortT ss).take k)).length = k) := by unfold listF; rw [Hid, List.length_map, List.length_take, HSL.out]; omega
      obtain ⟨vs, hvs⟩ := HBK.out.row
      rw [HLK.out] at hvs
      have HVS := Lib.hid hvs
      have HLS : Hid (listF f ((Tr.sortT ss).take (k + 1)) = listF f ((Tr.sortT ss).take k) ++ [(Tr.lvl s, f s)]) := by unfold listF; rw [Hid, List.take_add_one, hs]; simp
      have hlen : (Tr.lvl s).length ≤ 16 := Nat.le_trans (lvlF_length 0 s) hs16
      have CL := fun W => levels_any s W (by omega) hbrk
      have hkey := keyTx (x := s) (by omega)
      obtain ⟨Y, hY⟩ : ∃ Y : ByteArray, Y = ⟨s.toArray⟩ := ⟨_, rfl⟩
      rw [← hY] at hc hkey
      simp only [← hY] at CL
      have HKY := Lib.hid hkey
      obtain ⟨a, ha⟩ : ∃ a, a = f s := ⟨_, rfl⟩
      have HAT : Hid (D.atKey (.string s) (.lit (.int .i64 0)) = .lit (.int .i64 a)) := by rw [Hid, ha]; exact HD.out.1 s
      rw [← ha] at HLS
      clear hs hfs hs16 hbrk hbw hvs hkey hY ha HB3 HQ
      go_wp2_with fail
      refine wp_region_noPanic ?_
      refine wp_region_held_drew (S := (fun w' => w'.ownsMap Try.prog 75 (plainElem Try.prog 2) b n D)) (by kernel_rfl) ?_ (fun hHeld => ?_)
      · exact HOW.out
      refine wpAnyH_take (i := 0) (oi := _) (v := ?_) rfl (by kernel_rfl) (by kernel_rfl) (by kernel_rfl) (fun _ _ _ h => h) (Or.inl ⟨by kernel_rfl, ?_⟩) (by assumption) ?_
      rotate_left
      · (intro w hSw; (try dsimp only at hSw); go_simp; try (with_reducible rfl))
      try simp only [Act.put, List.setIfInBounds_toArray, List.set_cons_zero, List.set_cons_succ, List.getElem_toArray, List.getElem_cons_zero, List.getElem_cons_succ]
      refine wpAnyH_take (i := 1) (oi := _) (v := ?_) rfl (by kernel_rfl) (by kernel_rfl) (by kernel_rfl) (fun _ _ _ h => h) (Or.inl ⟨by kernel_rfl, ?_⟩) (by assumption) ?_
      rotate_left
      · (intro w hSw; (try dsimp only at hSw); go_simp; try (with_reducible rfl))
      try simp only [Act.put, List.setIfInBounds_toArray, List.set_cons_zero, List.set_cons_succ, List.getElem_toArray, List.getElem_cons_zero, List.getElem_cons_succ]
      refine wpAnyH_take (i := 3) (oi := _) (v := ?_) rfl (by kernel_rfl) (by kernel_rfl) (by kernel_rfl) (fun _ _ _ h => h) (Or.inl ⟨by kernel_rfl, ?_⟩) (by assumption) ?_
      rotate_left
      · (intro w hSw; (try dsimp only at hSw); go_simp; try (with_reducible rfl))
      try simp only [Act.put, List.setIfInBounds_toArray, List.set_cons_zero, List.set_cons_succ, List.getElem_toArray, List.getElem_cons_zero, List.getElem_cons_succ]
      refine wpAnyH_take (i := 4) (oi := _) (v := ?_) rfl (by kernel_rfl) (by kernel_rfl) (by kernel_rfl) (fun _ _ _ h => h) (Or.inl ⟨by kernel_rfl, ?_⟩) (by assumption) ?_
      rotate_left
      · (intro w hSw; (try dsimp only at hSw); go_simp; try (with_reducible rfl))
      try simp only [Act.put, List.setIfInBounds_toArray, List.set_cons_zero, List.set_cons_succ, List.getElem_toArray, List.getElem_cons_zero, List.getElem_cons_succ]
      refine wpAnyH_take (i := 5) (oi := _) (v := .int .i64 a) rfl (by kernel_rfl) (by kernel_rfl) (by kernel_rfl) (fun _ _ _ h => h) (Or.inl ⟨by kernel_rfl, ?_⟩) (by assumption) ?_
      · (intro wz hSw; (try dsimp only at hSw); obtain ⟨c0, hrun, hat, _⟩ := hSw.lookup_int (t := 74) (e := 2) (q := .i64) keyed Try.underlying74 Try.underlying2 (zeroCount _) HKY.out; (obtain rfl : c0 = a := by (have h9 := hat.symm.trans HAT.out; simpa using h9)); go_simp; try (with_reducible rfl))
      try simp only [Act.put, List.setIfInBounds_toArray, List.set_cons_zero, List.set_cons_succ, List.getElem_toArray, List.getElem_cons_zero, List.getElem_cons_succ]
      refine wpAnyH_ready (rs := [2]) (by kernel_rfl) (by simp) (AllReadyH.cons (o := _) rfl (fun K hK => ?_) AllReadyH.nil)
      go_simp
      (go_at_call 78; refine (CL _).mono ?_; rintro e w4 ⟨A2, c2, rfl, own2, bel2'⟩)
      have bel2 : Below wr.heap.size wr w4 := ⟨bel2'.os, bel2'.tape, bel2'.output, bel2'.size, bel2'.block⟩
      have own2' : w4.ownsRow wr.heap.size 2 1 (.slice A2 (Tr.lvl s).length c2) (Tr.lvl s).length (ints (Tr.lvl s)) := own2
      have hz4 : wr.heap.size ≤ w4.heap.size := bel2.size
      clear own2 bel2' CL
      go_wp2_with fail
      refine hK.out _ _ ?_ (fun hHeld => ?_)
      · exact (ownsMap_below HOW.out bel2 hblt)
      clear hK K
      try simp only [Act.put, List.setIfInBounds_toArray, List.set_cons_zero, List.set_cons_succ, List.getElem_toArray, List.getElem_cons_zero, List.getElem_cons_succ]
      refine wpAnyH_take (i := 6) (oi := _) (v := ?_) rfl (by kernel_rfl) (by kernel_rfl) (by kernel_rfl) (fun _ _ _ h => h) (Or.inl ⟨by kernel_rfl, ?_⟩) (by assumption) ?_
      rotate_left
      · (intro w hSw; (try dsimp only at hSw); go_simp; try (with_reducible rfl))
      try simp only [Act.put, List.setIfInBounds_toArray, List.set_cons_zero, List.set_cons_succ, List.getElem_toArray, List.getElem_cons_zero, List.getElem_cons_succ]
      refine wpAnyH_ready (rs := [7]) (by kernel_rfl) (by simp) (AllReadyH.cons (o := _) rfl (fun K hK => ?_) AllReadyH.nil)
      go_simp
      refine hK.out _ _ ?_ (fun hHeld => ?_)
      · exact (ownsMap_below HOW.out bel2 hblt).alloc _
      clear hK K
      try simp only [Act.put, List.setIfInBounds_toArray, List.set_cons_zero, List.set_cons_succ, List.getElem_toArray, List.getElem_cons_zero, List.getElem_cons_succ]
      refine wpAnyH_ready (rs := [8]) (by kernel_rfl) (by simp) (AllReadyH.cons (o := _) rfl (fun K hK => ?_) AllReadyH.nil)
      refine step_append_lies _ (by rfl) _ _ _ (by rfl) 0 32 i0 _ 2 32 Try.underlying27 hi hz0 hz1 hz2 rfl (by omega) (.slice (some ⟨g, 0, none⟩) k cap) k vs (by rfl) ((below0 HVS.out bel2).alloc _) ⟨w4.heap.size, 0, none⟩ 1 1 [.slice A2 (Tr.lvl s).length c2, .int .i64 a] (by rfl) (by rfl) (World.news_of_block (cs := #[.slice A2 (Tr.lvl s).length c2, .int .i64 a]) (heap_alloc_new _ _)) (by simp [Value.oneCell']) (by omega) (by simp only [maxLen]; omega) (by omega) (Nat.zero_le _) (w4.heap.size + 1) (by simp) ?_
      intro g4 cap4 w5 hown5 hgrow5 hat5 hlt5
      refine hK.out _ _ ?_ (fun hHeld => ?_)
      · exact ((ownsMap_below HOW.out bel2 hblt).alloc _).kept hgrow5 (by simpa [Value.ownBlock] using hbg)
      clear hK K
      try simp only [Act.put, List.setIfInBounds_toArray, List.set_cons_zero, List.set_cons_succ, List.getElem_toArray, List.getElem_cons_zero, List.getElem_cons_succ]
      refine wpAnyH_take (i := 9) (oi := _) (v := ?_) rfl (by kernel_rfl) (by kernel_rfl) (by kernel_rfl) (fun _ _ _ h => h) (Or.inl ⟨by kernel_rfl, ?_⟩) (by assumption) ?_
      rotate_left
      · (intro w hSw; (try dsimp only at hSw); go_simp; try (with_reducible rfl))
      try simp only [Act.put, List.setIfInBounds_toArray, List.set_cons_zero, List.set_cons_succ, List.getElem_toArray, List.getElem_cons_zero, List.getElem_cons_succ]
      refine wpAnyH_done (by kernel_rfl) ?_ _
      refine NoPanic.normal ?_
      have ha4 : Below w4.heap.size w4 (w4.alloc (.cells #[.slice A2 (Tr.lvl s).length c2, .int .i64 a] 32)) := (Below.refl _ _).alloc (Nat.le_refl _) _
      have G : Hid (BldC w (listF f ((Tr.sortT ss).take (k + 1))) (.slice (some ⟨g4, 0, none⟩) (k + 1) cap4) w5) := by
        have h9 := BldC.push (H := w4.heap.size + 1) (x := a) HBK.out bel2 own2' ha4 (by rw [HLK.out]; exact HVS.out) (by rw [HLK.out]; exact hown5) hgrow5 hat5 (by simp) hlt5
        rw [HLK.out, ← HLS.out] at h9
        exact h9
      have GK : Hid (∀ z, w1.heap.size ≤ z → z < w3.heap.size → w5.heap[z]? = w3.heap[z]?) := fun z h1 h2 => by
        have h5 := hgrow5.block z (by simp; omega) (by simp only [Value.ownBlock]; intro e; injection e with e; omega)
        rw [h5, ha4.block z (by omega), bel2.block z (by omega)]
        exact HKP.out z h1 h2
      have hg5 : g4 < w1.heap.size ∨ w3.heap.size ≤ g4 := by
        rcases hat5 with e | e
        · have : g = g4 := by simpa [Value.ownBlock] using e
          omega
        · omega
      have hz5 : w3.heap.size ≤ w5.heap.size := by have := hgrow5.size; simp at this; omega
      clear hown5 hgrow5 hat5 hlt5 bel2 own2' ha4 HBK HKP HVS HOW hHeld
      go_wp2
      go_roundw
      case rel => exact ⟨k + 1, g4, cap4, by omega, rfl, by go_num, hg5, hz5, G, GK⟩
      case measure => simp [intOf]; omega
    · obtain rfl : k = q := by omega
      have G : Hid (BldC w (listF f (Tr.sortT ss)) (.slice (some ⟨g, 0, none⟩) k cap) wr) := by
        have h9 := HBK.out
        rw [List.take_of_length_le (by rw [HSL.out]; exact Nat.le_refl _)] at h9
        exact h9
      clear HBK HKP
      go_wp2
      go_ret
      refine ⟨some ⟨g, 0, none⟩, cap, ss, ?_, HK.out, ?_, G.out.own.2⟩
      · rw [← HQ.out]; rfl
      · rw [← HQ.out]; exact G.out.own.1
end Go.Proofs.Ytjmjdcfgbaepkaa
/-
  How often texts stand in lists; sums of at most eight trees.
-/
namespace Go.Proofs.Ytjmjdcfgbaepkaa
open Go.RowKit Fld
set_option linter.unusedVariables false
set_option linter.unusedSimpArgs false
set_option maxRecDepth 100000

theorem tx_brk {y : List UInt8} (h : Tr.isTx y = true) : y.length ≤ 16 ∧ Brk y := by
  refine ⟨(Tr.br_parts h).1.2, ?_⟩
  unfold Tr.isTx at h
  simp only [Bool.and_eq_true, beq_iff_eq] at h
  rw [← h.2]; exact txt_brk _ _
/-- how often a text stands among the first ones -/
def cntF (R : List (List UInt8)) (k : Nat) : List UInt8 → Int := fun y => ((R.take k).count y : Int)
theorem cntF_zero (R : List (List UInt8)) : cntF R 0 = fun _ => 0 := by funext y; simp [cntF]
theorem cntF_step {R : List (List UInt8)} {k : Nat} {x : List UInt8} (h : R[k]? = some x) : bump (cntF R k) x 1 = cntF R (k + 1) := by
  funext y
  unfold bump cntF
  rw [List.take_add_one, h, Option.toList_some, List.count_append, List.count_singleton]
  by_cases e : y = x
  · subst e; simp
  · rw [if_neg e, if_neg (by simpa using fun q => e q.symm)]; simp
theorem cntF_le (R : List (List UInt8)) (k : Nat) (y : List UInt8) : 0 ≤ cntF R k y ∧ cntF R k y ≤ (k : Int) := by
  unfold cntF
  have h1 := List.count_le_length (a := y) (l := R.take k)
  rw [List.length_take] at h1
  omega
theorem cntF_all (R : List (List UInt8)) {n : Nat} (h : R.length = n) (y : List UInt8) : cntF R n y = (R.count y : Int) := by
  unfold cntF; rw [List.take_of_length_le (by omega)]
theorem sumTo_congr {f g : Nat → List Int} : ∀ n, (∀ k, k < n → f k = g k) → Tr.sumTo f n = Tr.sumTo g n
  | 0, _ => rfl
  | n+1, h => by rw [Tr.sumTo, Tr.sumTo, sumTo_congr n (fun k hk => h k (by omega)), h n (by omega)]
theorem sum_small {S : List (List Int × Int)} {m : Nat} (hl : S.length ≤ 8) (h : ∀ e ∈ S, e.1.length ≤ 8) : S.length ≤ 1048576 ∧ cntC S ≤ 1048576 := by
  refine ⟨by omega, ?_⟩
  have : ∀ (S : List (List Int × Int)), (∀ e ∈ S, e.1.length ≤ 8) → cntC S ≤ 9 * S.length := fun S => by
    induction S with
    | nil => intro _; exact Nat.zero_le _
    | cons e r ih =>
      intro h
      have h1 := ih (fun e he => h e (by simp [he]))
      have h2 : cntC (e :: r) = cntD ShP e + cntC r := by
        unfold cntC
        show ((e :: r).map (cntD ShP)).sum = _
        rw [List.map_cons, List.sum_cons]; rfl
      have h3 : cntD ShP e = e.1.length + 1 := cntD_pair e.1 e.2
      have h4 := h e (by simp)
      rw [h2, h3, List.length_cons]; omega
  have := this S h
  omega
end Go.Proofs.Ytjmjdcfgbaepkaa
/-
  Graft sums, the program's and the model's.
-/
namespace Go.Proofs.Ytjmjdcfgbaepkaa
open Go.RowKit Fld Go.Maps
set_option linter.unusedVariables false
set_option linter.unusedSimpArgs false
set_option maxRecDepth 100000

/-- a key and its value in a composite literal of a map -/
theorem wpList_insert_own {H : Type} {P : Program} (w : World) {ops : Array Oper} {rest : List Oper} {o : Oper} {a : Act} {Q : Exit → Act → World → Prop}
    (hg : o.guard = none) (m x v : Operand) (t : TypeId) (hop : o.op = Op.insert t m x v)
    (k e : TypeId) (K : Keyed P k) (ht : P.underlying t = some (.map k e)) (R : Value → Option (DataW H × List MemPlace)) (b n : Nat) (D : DataW H)
    (hm : a.eval m = .map (some b)) (hown : w.ownsMap P k R b n D) (hn : n < maxLen) (key val : Value) (kl : Lit) (hx : a.eval x = key) (hv : a.eval v = val) (hkey : keyOf P k key = some kl)
    (d : DataW H) (ps : List MemPlace) (hval : R val = some (d, ps))
    (hK : ∀ w', w'.ownsMap P k R b (n + 1) (D.put kl d) → w.grownBy w' (some b) → wpList P ops Q rest (a.put o.dst undef) w') :
    wpList P ops Q (o :: rest) a w := by
  refine wpList_plain hg fun K' hK' => ?_
  obtain ⟨w', hrun, r1, r2⟩ := hown.update K ht hn hkey hval
  unfold Oper.wp
  simp [execOp, hop, hm, hx, hv, hrun, Result.andThen]
  exact hK' _ _ (hK w' r1 r2)
/-- the sum of one tree -/
def oneF (x : List UInt8) : List UInt8 → Int := bump (fun _ => 0) x 1
theorem oneF_val (x y : List UInt8) : oneF x y = if y = x then 1 else 0 := by unfold oneF bump; rfl
theorem holds_one {x : List UInt8} : HoldsF ((DataW.map [] : DataW Unit).put (.string x) (.lit (.int .i64 1))) (oneF x) := by
  have h0 : HoldsF (DataW.map [] : DataW Unit) (fun _ => 0) := ⟨fun x => by simp [DataW.atKey], fun x => by simp [Maps.has]⟩
  have := h0.put (x := x) (c := 1) ⟨[], rfl⟩ (by omega)
  exact this
theorem gsum_one {x v : List UInt8} {ss : List (List UInt8)} {m : Nat} (hK : KeysF (oneF x) m ss) : gsum (oneF x) v ss = cntF (grafts x v) (grafts x v).length := by
  have hmem : ∀ y, y ∈ ss ↔ y = x := fun y => by
    rw [hK.2.1, oneF_val]
    by_cases e : y = x <;> simp [e]
  have he : ss = [x] := by
    have h1 := (hmem x).2 rfl
    have h2 := hK.1
    cases ss with
    | nil => cases h1
    | cons a r =>
      have ha := (hmem a).1 (by simp)
      subst ha
      cases r with
      | nil => rfl
      | cons c r =>
        have hc := (hmem c).1 (by simp)
        subst hc
        simp at h2
  rw [he]
  funext y
  unfold gsum cntF
  rw [List.take_length]
  simp [oneF_val]
def gsumA (u v : List Int) : List (List Int × Int) × Int := if Tr.isLv u = true ∧ Tr.isLv v = true then (if u.length + v.length ≤ 8 then (gsumL u v, 0) else ([], 3)) else ([], 1)
theorem gsumA_no1 {u v : List Int} (h : Tr.isLv u = false) : gsumA u v = ([], 1) := if_neg (by rw [h]; simp)
theorem gsumA_no2 {u v : List Int} (h : Tr.isLv v = false) : gsumA u v = ([], 1) := if_neg (by rw [h]; simp)
theorem gsumA_big {u v : List Int} (h : Tr.isLv u = true) (h' : Tr.isLv v = true) (h8 : ¬ u.length + v.length ≤ 8) : gsumA u v = ([], 3) := by unfold gsumA; rw [if_pos ⟨h, h'⟩, if_neg h8]
theorem gsumA_yes {u v : List Int} (h : Tr.isLv u = true) (h' : Tr.isLv v = true) (h8 : u.length + v.length ≤ 8) : gsumA u v = (gsumL u v, 0) := by unfold gsumA; rw [if_pos ⟨h, h'⟩, if_pos h8]
theorem gsum_small {u v : List Int} (h : Tr.isLv u = true) (h' : Tr.isLv v = true) (h8 : u.length + v.length ≤ 8) : (gsumL u v).length ≤ 1048576 ∧ cntC (gsumL u v) ≤ 1048576 := by
  have hu := (lv_bd h).2
  have h1 := Tr.sumTo_length (gAt u v) u.length
  refine sum_small (m := 0) (by unfold gsumL; omega) (fun e he => ?_)
  obtain ⟨k, hk, e1⟩ := Tr.sumTo_mem he
  rw [e1, (gAt_lv h h' h8 hk).2.2.1]; exact h8
/-- the program's list is the model's -/
theorem gsum_list {u v : List Int} (h : Tr.isLv u = true) (h' : Tr.isLv v = true) (h8 : u.length + v.length ≤ 8) {ss : List (List UInt8)} {f : List UInt8 → Int} {m : Nat} (hf : ∀ y, f y = ((grafts (Tr.txt u) (Tr.txt v)).count y : Int)) (hK : KeysF f m ss) : listF f (Tr.sortT ss) = gsumL u v := by
  have hn := (lv_txt h).2.2.2
  have e0 : ((List.range u.length).map (gAt u v)).length = u.length := by simp
  have q1 : ∀ t ∈ (List.range u.length).map (gAt u v), isTr t = true := fun t ht => by
    rw [List.mem_map] at ht
    obtain ⟨k, hk, e⟩ := ht
    rw [List.mem_range] at hk
    obtain ⟨r1, r2, _⟩ := gAt_lv h h' h8 hk
    rw [← e]; exact isTr_of r1 r2
  have q2 : (grafts (Tr.txt u) (Tr.txt v)).Perm (((List.range u.length).map (gAt u v)).map Tr.txt) := by
    have hp := (Tr.graft_perm h h' h8).1
    have e1 : ((List.range u.length).map (gAt u v)).map Tr.txt = (List.range u.length).map fun k => Tr.txt (Tr.gl u k v) := by
      rw [List.map_map]
      refine List.map_congr_left fun k hk => ?_
      rw [List.mem_range] at hk
      exact (gAt_lv h h' h8 hk).2.2.2
    rw [e1]
    unfold grafts
    rw [show (Tr.txt u).length / 2 = u.length by omega]
    exact hp.symm
  have h9 := sum_list q1 q2 hf hK
  rw [h9, e0]
  unfold gsumL
  refine sumTo_congr _ fun k hk => ?_
  rw [List.getD_eq_getElem?_getD, List.getElem?_map, List.getElem?_range hk]; rfl
/-- what is grafted are trees -/
theorem grafts_tx {u v : List Int} (h : Tr.isLv u = true) (h' : Tr.isLv v = true) (h8 : u.length + v.length ≤ 8) : ∀ y ∈ grafts (Tr.txt u) (Tr.txt v), Tr.isTx y = true := fun y hy => by
  have hn := (lv_txt h).2.2.2
  unfold grafts at hy
  rw [show (Tr.txt u).length / 2 = u.length by omega] at hy
  have h1 := (Tr.graft_perm h h' h8).1.mem_iff.2 hy
  rw [List.mem_map] at h1
  obtain ⟨k, hk, e⟩ := h1
  rw [List.mem_range] at hk
  rw [← e]
  exact Tr.tx_txt ((Tr.graft_perm h h' h8).2 k hk)
set_option maxHeartbeats 4000000 in
theorem pGraftSum_L (A A' : Option Addr) (n n' c c' B B' : Nat) (s t : List Int) (w : World) (hl : s.length = n) (hl' : t.length = n') (hn : n ≤ 1048576) (hn' : n' ≤ 1048576) (hB : B ≤ w.heap.size) (hB' : B' ≤ w.heap.size) (h : Row w B A (ints s)) (h' : Row w B' A' (ints t)) (hc : n ≤ c) (hc' : n' ≤ c') :
    Calls Try.prog 11 #[.slice A n c, .slice A' n' c'] w (ResC (gsumA s t) w) := by
  have hal : Below w.heap.size w (w.alloc (.cells #[.slice A n c, .slice A' n' c'] 24)) := (Below.refl _ _).alloc (Nat.le_refl _) _
  have C0 := areLevels_any (some ⟨w.heap.size, 0, none⟩) 2 2 w.heap.size [s, t] _ rfl (by omega) (fun r hr => by
    simp only [List.mem_cons, List.not_mem_nil, or_false] at hr
    rcases hr with rfl | rfl <;> omega) (two_lists (c := c) (c' := c') hl hl' hB hB' h h')
  have hb : allLvM [s, t] = (Tr.isLv s && Tr.isLv t) := by simp [allLvM]
  rw [hb] at C0
  by_cases hlv : Tr.isLv s = true ∧ Tr.isLv t = true
  · obtain ⟨h1, h2⟩ := hlv
    rw [h1, h2] at C0
    obtain ⟨a1, a8⟩ := lv_bd h1
    obtain ⟨b1, b8⟩ := lv_bd h2
    have z1 := (lv_txt h1).2.2.2
    have z2 := (lv_txt h2).2.2.2
    rw [hl] at a1 a8
    rw [hl'] at b1 b8
    by_cases h8 : s.length + t.length ≤ 8
    · have G := Lib.hid (gsumA_yes h1 h2 h8)
      have HSM := Lib.hid (gsum_small h1 h2 h8)
      have HGL : Hid (∀ ss f m, (∀ y, f y = ((grafts (Tr.txt s) (Tr.txt t)).count y : Int)) → KeysF f m ss → listF f (Tr.sortT ss) = gsumL s t) := fun ss f m hf hK => gsum_list h1 h2 h8 hf hK
      have HGT := Lib.hid (grafts_tx h1 h2 h8)
      have hx1 := Tr.tx_txt h1
      have hx2 : (Tr.txt t).length ≤ 16 := by omega
      have hx0 : (Tr.txt s).length ≤ 16 := by omega
      have hkey := keyTx (x := Tr.txt s) (by omega)
      have HX1 := Lib.hid hx1
      rw [hl, hl'] at h8
      have h8' : ¬ (8 : Int) < (n : Int) + (n' : Int) := by omega
      have HL := Lib.hid hl
      have HL' := Lib.hid hl'
      have hmm := @run_makeMap Try.prog
      obtain ⟨X, hX⟩ : ∃ X : ByteArray, X = ⟨(Tr.txt s).toArray⟩ := ⟨_, rfl⟩
      have HXX := Lib.hid hX
      rw [← hX] at hkey
      have HKEY := Lib.hid hkey
      clear hl hl' hb z1 z2 h1 h2 hX hx1 hkey
      go_enter Try.func11, Try.ntmps11
      go_wp2_with fail
      refine C0.mono ?_
      rintro e w1 ⟨rfl, d, rfl⟩
      have B1 : Hid (Below w.heap.size w ((w.alloc (.cells #[.slice A n c, .slice A' n' c'] 24)).drewN d)) := below_drewN hal d
      generalize (w.alloc (.cells #[.slice A n c, .slice A' n' c'] 24)).drewN d = W1 at *
      have hw1 : w.heap.size ≤ W1.heap.size := B1.out.size
      have BA : Below W1.heap.size W1 (W1.alloc (.map #[] 0)) := (Below.refl _ _).alloc (Nat.le_refl _) _
      have HOA : Hid ((W1.alloc (.map #[] 0)).ownsMap Try.prog 75 (plainElem Try.prog 2) W1.heap.size 0 (DataW.map [] : DataW Unit)) := World.ownsMap_made _ _ _ _
      have hsA : (W1.alloc (.map #[] 0)).heap.size = W1.heap.size + 1 := by simp
      have B2 : Hid (Below w.heap.size w (W1.alloc (.map #[] 0))) := B1.out.trans (BA.mono hw1)
      clear BA B1 C0
      go_wp2_with fail
      refine (treeOf_any A n c B s _ HL.out a1 a8 hc (by omega) (Row.below h B2.out hB)).mono ?_
      rintro e w2 ⟨rfl, bel2⟩
      have B3 : Hid (Below w.heap.size w w2) := B2.out.trans (bel2.mono B2.out.size)
      have HO2 : Hid (w2.ownsMap Try.prog 75 (plainElem Try.prog 2) W1.heap.size 0 (DataW.map [] : DataW Unit)) := ownsMap_below HOA.out bel2 (by omega)
      obtain ⟨b, hbb⟩ : ∃ b, b = W1.heap.size := ⟨_, rfl⟩
      rw [← hbb] at HO2 hw1 ⊢
      rw [← HXX.out]
      clear bel2 HOA hsA B2 hbb hmm
      have hins := HO2.out
      go_wp2_with (first
        | (refine wpList_insert_own _ rfl _ _ _ 74 rfl 75 2 keyed Try.underlying74 _ b 0 _ rfl hins (by unfold maxLen; omega) _ _ _ rfl rfl HKEY.out _ [] (plainElem_int Try.underlying2 (by decide)) ?_; intro w3 hown3 hgrow3)
        | fail)
      have HM3 : Hid (MapF w3 b 1 (oneF (Tr.txt s))) := ⟨_, hown3, holds_one⟩
      have B4 : Hid (Below w.heap.size w w3) := B3.out.grown hgrow3 B3.out.size (fun k e => by injection e with e; omega)
      clear hown3 hgrow3 hins HO2 B3
      go_wp2_with fail
      refine (treeOf_any A' n' c' B' t _ HL'.out b1 b8 hc' (Nat.le_trans hB' B4.out.size) (Row.below h' B4.out hB')).mono ?_
      rintro e w4 ⟨rfl, bel4⟩
      have HM4 := HM3.out.next bel4
      have B5 : Hid (Below w.heap.size w w4) := B4.out.trans (bel4.mono B4.out.size)
      have CG := graft_any b 1 (oneF (Tr.txt s)) (Tr.txt t) w4 HM4 (by omega) (fun x hx => by
        rw [oneF_val] at hx
        by_cases e : x = Tr.txt s
        · rw [e]; exact HX1.out
        · rw [if_neg e] at hx; exact absurd rfl hx) (fun x => by rw [oneF_val]; split <;> omega) hx2
      clear bel4 HM4 HM3 B4
      go_wp2_with fail
      refine CG.mono ?_
      rintro e w5 ⟨b2, m, ss, rfl, hK, hM5, hm, hb2, bel5⟩
      have B6 : Hid (Below w.heap.size w w5) := B5.out.trans (bel5.mono B5.out.size)
      have hss : ss.length ≤ 1 := hK.2.2
      rw [gsum_one hK] at hM5
      have CC := counted_any b2 m _ w5 hM5 (by omega) (fun y hy => by
        have h2 : 0 < (grafts (Tr.txt s) (Tr.txt t)).count y := by
          rw [cntF_all _ rfl] at hy; omega
        exact tx_brk (HGT.out y (List.count_pos_iff.1 h2)))
      clear CG bel5 B5 hM5 hK
      go_wp2_with fail
      refine CC.mono ?_
      rintro e w6 ⟨A6, c6, ss6, rfl, hK6, own6, bel6⟩
      have e6 := HGL.out ss6 _ _ (fun y => cntF_all _ rfl y) hK6
      rw [e6] at own6
      have hl6 : (gsumL s t).length = ss6.length := by rw [← e6]; unfold listF; rw [List.length_map, (sortT_perm ss6).length_eq]
      have GO : Hid (OwnD ShC w.heap.size w6.heap.size [.slice A6 ss6.length c6] (gsumL s t) w6) := own6.more B6.out.size (Nat.le_refl _)
      have GB : Hid (Below w.heap.size w w6) := B6.out.trans (bel6.mono B6.out.size)
      have HL6 := Lib.hid hl6
      clear own6 bel6 CC e6 hK6 hl6
      go_wp2
      go_ret2
      exact ResC.of G.out HL6.out HSM.out GO.out GB.out
    · have G := Lib.hid (gsumA_big h1 h2 h8)
      rw [hl, hl'] at h8
      have h8' : (8 : Int) < (n : Int) + (n' : Int) := by omega
      clear hl hl' hb z1 z2 h1 h2 h8
      go_enter Try.func11, Try.ntmps11
      go_wp2_with fail
      refine C0.mono ?_
      rintro e w1 ⟨rfl, d, rfl⟩
      go_wp2
      go_ret2
      exact ResC.nil G.out (below_drewN hal _)
  · have G : Hid (gsumA s t = ([], 1)) := if_neg hlv
    have e : (Tr.isLv s && Tr.isLv t) = false := by
      cases h1 : Tr.isLv s
      · rfl
      · cases h2 : Tr.isLv t
        · rfl
        · exact absurd ⟨h1, h2⟩ hlv
    rw [e] at C0
    clear hl hl' hb hlv e
    go_enter Try.func11, Try.ntmps11
    go_wp2_with fail
    refine C0.mono ?_
    rintro e w1 ⟨rfl, d, rfl⟩
    go_wp2
    go_ret2
    exact ResC.nil G.out (below_drewN hal _)
set_option maxHeartbeats 2000000 in
theorem sGraftSum_L (A A' : Option Addr) (n n' c c' B B' : Nat) (s t : List Int) (w : World) (hl : s.length = n) (hl' : t.length = n') (hn : n ≤ 1048576) (hn' : n' ≤ 1048576) (hB : B ≤ w.heap.size) (hB' : B' ≤ w.heap.size) (h : Row w B A (ints s)) (h' : Row w B' A' (ints t)) (hc : n ≤ c) (hc' : n' ≤ c') :
    Calls Try.prog 12 #[.slice A n c, .slice A' n' c'] w (ResCl (gsumA s t) w) := by
  have C0 := l03Is_any A n c B s w hl hn h
  cases h1 : Tr.isLv s
  · have G := Lib.hid (gsumA_no1 (v := t) h1)
    rw [h1] at C0
    clear hl hl' h1
    go_enter Try.func12, Try.ntmps12
    go_wp2_with fail
    refine C0.mono ?_
    rintro e w1 ⟨rfl, d, rfl⟩
    go_wp2
    go_ret2
    exact ResCl.nil G.out (below_drewN (Below.refl _ _) d)
  · rw [h1] at C0
    have C1 := fun d => l03Is_any A' n' c' B' t (w.drewN d) hl' hn' (h'.drewN d)
    cases h2 : Tr.isLv t
    · have G := Lib.hid (gsumA_no2 (u := s) h2)
      simp only [h2] at C1
      clear hl hl' h1 h2
      go_enter Try.func12, Try.ntmps12
      go_wp2_with fail
      refine C0.mono ?_
      rintro e w1 ⟨rfl, d, rfl⟩
      go_wp2_with fail
      refine (C1 _).mono ?_
      rintro e w1 ⟨rfl, d2, rfl⟩
      go_wp2
      go_ret2
      exact ResCl.nil G.out (below_drewN (Below.refl _ _) _)
    · simp only [h2] at C1
      obtain ⟨a1, a8⟩ := lv_bd h1
      obtain ⟨b1, b8⟩ := lv_bd h2
      rw [hl] at a1 a8
      rw [hl'] at b1 b8
      by_cases h8 : s.length + t.length ≤ 8
      · have G := Lib.hid (gsumA_yes h1 h2 h8)
        have HSM := Lib.hid (gsum_small h1 h2 h8)
        have HL := Lib.hid hl
        have HL' := Lib.hid hl'
        have H1 := Lib.hid h1
        have H2 := Lib.hid h2
        rw [hl, hl'] at h8
        have h8' : ¬ (8 : Int) < (n : Int) + (n' : Int) := by omega
        clear hl hl' h1 h2
        go_enter Try.func12, Try.ntmps12
        go_wp2_with fail
        refine C0.mono ?_
        rintro e w1 ⟨rfl, d, rfl⟩
        go_wp2_with fail
        refine (C1 _).mono ?_
        rintro e w1 ⟨rfl, d2, rfl⟩
        have B1 : Hid (Below w.heap.size w ((w.drewN d).drewN d2)) := below_drewN (below_drewN (Below.refl _ _) _) _
        generalize (w.drewN d).drewN d2 = W1 at *
        go_wp2_with fail
        refine (l04Sum_any A A' n n' c c' B B' s t W1 HL.out HL'.out H1.out H2.out h8 hc (Nat.le_trans hB B1.out.size) (Nat.le_trans hB' B1.out.size) (Row.below h B1.out hB) (Row.below h' B1.out hB')).mono ?_
        rintro e w3 ⟨A3, c3, rfl, hc3, hcm3, HS, bel3⟩
        have GH := Lib.hid (Sms.has HS hc3 hcm3)
        have GB : Hid (Below w.heap.size w w3) := B1.out.trans (bel3.mono B1.out.size)
        clear HS bel3
        go_wp2
        go_ret2
        exact ResCl.of G.out rfl HSM.out GH.out GB.out
      · have G := Lib.hid (gsumA_big h1 h2 h8)
        rw [hl, hl'] at h8
        have h8' : (8 : Int) < (n : Int) + (n' : Int) := by omega
        clear hl hl' h1 h2 h8
        go_enter Try.func12, Try.ntmps12
        go_wp2_with fail
        refine C0.mono ?_
        rintro e w1 ⟨rfl, d, rfl⟩
        go_wp2_with fail
        refine (C1 _).mono ?_
        rintro e w1 ⟨rfl, d2, rfl⟩
        go_wp2
        go_ret2
        exact ResCl.nil G.out (below_drewN (Below.refl _ _) _)
end Go.Proofs.Ytjmjdcfgbaepkaa
/-
  The program's cutting of texts.
-/
namespace Go.Proofs.Ytjmjdcfgbaepkaa
open Go.RowKit Fld
set_option linter.unusedVariables false
set_option linter.unusedSimpArgs false
set_option maxRecDepth 100000

theorem cut_len : ∀ (d : Nat) (x : List UInt8) (k : Nat), Tr.isTx x = true → k < x.length / 2 → x.length / 2 ≤ d → (Tr.cutF d x k).1.length ≤ 200 * d + 200
  | 0, x, k, h, hk, hd => by simp [Tr.cutF]
  | d+1, x, 0, h, hk, hd => by simp [Tr.cutF]
  | d+1, x, n+1, h, hk, hd => by
    rw [Tr.cutF]
    have := oAt_small h hk
    split
    · simp only
      rw [rootT_len]; omega
    · simp only
      rw [rootT_len, flat_snoc]
      obtain ⟨_, h2, h3, _⟩ := Tr.pick_parts h hk
      have h1 := cut_len d (Tr.bAt x n) (Tr.pAt x n) h2 h3 (bAt_less h hk hd)
      omega
def CutAt (d : Nat) : Prop := ∀ (x : List UInt8) (n : Nat) (w : World), Tr.isTx x = true → n + 1 < x.length / 2 → x.length / 2 ≤ d →
    Calls Try.prog 66 #[.string ⟨x.toArray⟩, .int .i64 ((n + 1 : Nat) : Int)] w fun e w' => e = .returned (.tuple #[.string ⟨(Tr.cutF d x (n + 1)).1.toArray⟩, .string ⟨(Tr.cutF d x (n + 1)).2.toArray⟩]) ∧ Below w.heap.size w w'
theorem cutAt_zero : CutAt 0 := fun x n w _ hk hd => by omega
set_option maxHeartbeats 1000000 in
theorem cutAt_succ (d : Nat) (hd8 : d ≤ 8) (IH : CutAt d) : CutAt (d + 1) := by
  intro x n w hx hk hd
  obtain ⟨i0, hi, hz0, hz1, hz2⟩ := info_parts info_tree
  obtain ⟨_, h2, h3, _, _, h7⟩ := Tr.pick_parts hx hk
  have C0 := branchWith_any x n w hx hk
  obtain ⟨X, hX⟩ : ∃ X : ByteArray, X = ⟨x.toArray⟩ := ⟨_, rfl⟩
  obtain ⟨Bb, hBb⟩ : ∃ Bb : ByteArray, Bb = ⟨(Tr.bAt x n).toArray⟩ := ⟨_, rfl⟩
  have HBb := Lib.hid hBb
  rw [← hX, ← hBb] at C0
  rw [← hX]
  obtain ⟨kk, hkk⟩ : ∃ kk, kk = ((n + 1 : Nat) : Int) := ⟨_, rfl⟩
  rw [← hkk] at C0 ⊢
  by_cases hp0 : Tr.pAt x n = 0
  · have HZ : Hid (Tr.cutF (d + 1) x (n + 1) = (Tr.rootT (Tr.oAt x n), Tr.bAt x n)) := by rw [Hid, Tr.cutF, if_pos hp0]
    have HF : Hid ((Tr.oAt x n).flatten.length ≤ 1048574) := by rw [Hid]; have := oAt_small hx hk; omega
    rw [hp0] at C0
    clear hX hBb hkk h2 h3 hx hk hd IH hp0
    go_enter Try.func66, Try.ntmps66
    go_wp2_with fail
    refine C0.mono ?_
    rintro e w1 ⟨g, c, q, rfl, hq, own1, bel1⟩
    have hq7 : q ≤ 7 := by omega
    have HO1 := Lib.hid own1
    have HB1 := Lib.hid bel1
    have hs1 := bel1.size
    clear own1 bel1 hq C0
    go_wp2_with fail
    refine (rootOn_any _ w.heap.size _ _ _ _ (by omega) HF.out hs1 HO1.out).mono ?_
    rintro e w4 ⟨rfl, bel4⟩
    have GB := Lib.hid (HB1.out.trans bel4)
    obtain ⟨Z, hZ⟩ : ∃ Z : ByteArray, Z = ⟨(Tr.wrap (Tr.sortS (Tr.oAt x n))).toArray⟩ := ⟨_, rfl⟩
    have HZZ : Hid (Z = ⟨(Tr.rootT (Tr.oAt x n)).toArray⟩) := hZ
    rw [← hZ]
    clear bel4 hZ
    go_wp2
    go_ret2
    exact ⟨by rw [HZ.out, HZZ.out, HBb.out]; rfl, GB.out⟩
  · obtain ⟨p, hp⟩ : ∃ p, Tr.pAt x n = p + 1 := ⟨Tr.pAt x n - 1, by omega⟩
    rw [hp] at C0 h3
    have C1 := fun w => IH (Tr.bAt x n) p w h2 h3 (bAt_less hx hk hd)
    have HL := cut_len d (Tr.bAt x n) (p + 1) h2 h3 (bAt_less hx hk hd)
    obtain ⟨R, hR⟩ : ∃ R, R = Tr.cutF d (Tr.bAt x n) (p + 1) := ⟨_, rfl⟩
    have HZ : Hid (Tr.cutF (d + 1) x (n + 1) = (Tr.rootT (Tr.oAt x n ++ [R.1]), R.2)) := by rw [Hid, Tr.cutF, if_neg hp0, hp, hR]
    simp only [← hR] at C1
    rw [← hR] at HL
    have HF : Hid ((Tr.oAt x n ++ [R.1]).flatten.length ≤ 1048574) := by rw [Hid, flat_snoc]; have := oAt_small hx hk; omega
    have HS := Lib.hid (strs_snoc (Tr.oAt x n) R.1)
    obtain ⟨G1, hG1⟩ : ∃ G1 : ByteArray, G1 = ⟨R.1.toArray⟩ := ⟨_, rfl⟩
    obtain ⟨G2, hG2⟩ : ∃ G2 : ByteArray, G2 = ⟨R.2.toArray⟩ := ⟨_, rfl⟩
    have HG2 := Lib.hid hG2
    rw [← hG1] at HS
    simp only [← hBb, ← hG1, ← hG2] at C1
    have hpe : ((p + 1 : Nat) : Int) ≠ 0 := by omega
    have tp := beq_f hpe
    obtain ⟨pp, hpp⟩ : ∃ pp, pp = ((p + 1 : Nat) : Int) := ⟨_, rfl⟩
    rw [← hpp] at C0 tp
    simp only [← hpp] at C1
    clear hX hBb hG1 hG2 hkk hpp hpe hp hR HL h2 h3 hx hk hd IH hp0
    go_enter Try.func66, Try.ntmps66
    go_wp2_with fail
    refine C0.mono ?_
    rintro e w1 ⟨g, c, q, rfl, hq, own1, bel1⟩
    have hq7 : q ≤ 7 := by omega
    have HO1 := Lib.hid own1
    have HB1 := Lib.hid bel1
    have hs1 := bel1.size
    clear own1 bel1 hq C0
    go_wp2_with fail
    refine (C1 _).mono ?_
    rintro e w2 ⟨rfl, bel2⟩
    have HB2 := Lib.hid (HB1.out.trans (bel2.mono hs1))
    have own2 := ((OwnR.of HO1.out).below bel2 (Nat.le_refl _)).1
    have HO2 := Lib.hid own2
    have hs02 := HB2.out.size
    clear bel2 C1
    go_wp2_with (at_builtin; (refine wpList_append_lies _ rfl (.tmp 29) (.tmp 31) 96 rfl w.heap.size 75 i0 _ 1 16 Try.underlying96 hi hz0 hz1 hz2 rfl (by omega) (.slice (some ⟨g, 0, none⟩) q c) q (strs (Tr.oAt x n)) rfl (own2.alloc _) ⟨w2.heap.size, 0, none⟩ 1 1 [.string G1] rfl rfl (World.news_of_block (cs := #[.string G1]) (heap_alloc_new _ _)) (by simp [Value.oneCell']) (by omega) (by simp only [maxLen]; omega) (by omega) (by simp; omega) (w2.heap.size + 1) (by simp) ?_); intro g2 cap2 w3 hown3 hgrow3 hat3 hlt3)
    rw [HS.out] at hown3
    have HB3 : Hid (Below w.heap.size w w3) := (HB2.out.alloc (by omega) _).grown hgrow3 (by simp; omega) (fun z hz => (HO2.out.lt z hz).1)
    have HO3 := Lib.hid hown3
    clear hown3 hgrow3 hat3 own2
    go_wp2_with fail
    refine (rootOn_any _ w.heap.size _ _ _ _ (by omega) HF.out HB3.out.size HO3.out).mono ?_
    rintro e w4 ⟨rfl, bel4⟩
    have GB := Lib.hid (HB3.out.trans bel4)
    obtain ⟨Z, hZ⟩ : ∃ Z : ByteArray, Z = ⟨(Tr.wrap (Tr.sortS (Tr.oAt x n ++ [R.1]))).toArray⟩ := ⟨_, rfl⟩
    have HZZ : Hid (Z = ⟨(Tr.rootT (Tr.oAt x n ++ [R.1])).toArray⟩) := hZ
    rw [← hZ]
    clear bel4 hZ
    go_wp2
    go_ret2
    exact ⟨by rw [HZ.out, HZZ.out, HG2.out]; rfl, GB.out⟩
theorem cutAt_all : ∀ d, d ≤ 8 → CutAt d
  | 0, _ => cutAt_zero
  | d+1, h => cutAt_succ d (by omega) (cutAt_all d (by omega))
theorem cutAbove_any (x : List UInt8) (n : Nat) (w : World) (hx : Tr.isTx x = true) (hk : n + 1 < x.length / 2) :
    Calls Try.prog 66 #[.string ⟨x.toArray⟩, .int .i64 ((n + 1 : Nat) : Int)] w fun e w' => e = .returned (.tuple #[.string ⟨(Tr.cutF 8 x (n + 1)).1.toArray⟩, .string ⟨(Tr.cutF 8 x (n + 1)).2.toArray⟩]) ∧ Below w.heap.size w w' :=
  cutAt_all 8 (Nat.le_refl _) x n w hx hk (by have := (Tr.br_parts hx).1.2; omega)
end Go.Proofs.Ytjmjdcfgbaepkaa
/-
  What CountCutsTo answers, the program's and the model's.
-/
namespace Go.Proofs.Ytjmjdcfgbaepkaa
open Go.RowKit Fld
set_option linter.unusedVariables false
set_option linter.unusedSimpArgs false
set_option maxRecDepth 100000

theorem ResI.ofc {r : Int × Int} {w w' : World} {x k : Int} (h : r = (x, k)) (hb : Below w.heap.size w w') : ResI r w (.returned (.tuple #[.int .i64 x, .int .i64 k])) w' := by
  subst h; exact ⟨rfl, hb⟩
def cntA (t u v : List Int) : Int × Int := if Tr.isLv t = true ∧ Tr.isLv u = true ∧ Tr.isLv v = true then (((Tr.cntT (Tr.txt t) (Tr.txt u) (Tr.txt v) (t.length - 1) : Nat) : Int), 0) else (0, 1)
theorem cntA_no {t u v : List Int} (h : ¬ (Tr.isLv t = true ∧ Tr.isLv u = true ∧ Tr.isLv v = true)) : cntA t u v = (0, 1) := if_neg h
theorem cntA_yes {t u v : List Int} (h1 : Tr.isLv t = true) (h2 : Tr.isLv u = true) (h3 : Tr.isLv v = true) : cntA t u v = (((Tr.cntT (Tr.txt t) (Tr.txt u) (Tr.txt v) (t.length - 1) : Nat) : Int), 0) := if_pos ⟨h1, h2, h3⟩
theorem three_lists {A A' A'' : Option Addr} {n n' n'' c c' c'' B B' B'' : Nat} {s t u : List Int} {w : World} (hl : s.length = n) (hl' : t.length = n') (hl'' : u.length = n'') (hB : B ≤ w.heap.size) (hB' : B' ≤ w.heap.size) (hB'' : B'' ≤ w.heap.size) (h : Row w B A (ints s)) (h' : Row w B' A' (ints t)) (h'' : Row w B'' A'' (ints u)) :
    Lsts (w.alloc (.cells #[.slice A n c, .slice A' n' c', .slice A'' n'' c''] 24)) w.heap.size (some ⟨w.heap.size, 0, none⟩) [s, t, u] := fun k r hr => by
  have hal : Below w.heap.size w (w.alloc (.cells #[.slice A n c, .slice A' n' c', .slice A'' n'' c''] 24)) := (Below.refl _ _).alloc (Nat.le_refl _) _
  match k, hr with
  | 0, hr =>
    simp only [List.getElem?_cons_zero, Option.some.injEq] at hr
    subst hr
    exact ⟨_, _, A, c, rfl, by rw [hl, World.cell?_alloc_at (hn := by simp)]; rfl, (Row.below h hal hB).more hB⟩
  | 1, hr =>
    simp only [List.getElem?_cons_succ, List.getElem?_cons_zero, Option.some.injEq] at hr
    subst hr
    exact ⟨_, _, A', c', rfl, by rw [hl', World.cell?_alloc_at (hn := by simp)]; rfl, (Row.below h' hal hB').more hB'⟩
  | 2, hr =>
    simp only [List.getElem?_cons_succ, List.getElem?_cons_zero, Option.some.injEq] at hr
    subst hr
    exact ⟨_, _, A'', c'', rfl, by rw [hl'', World.cell?_alloc_at (hn := by simp)]; rfl, (Row.below h'' hal hB'').more hB''⟩
  | k+3, hr => simp at hr
theorem allLvM_mem' {m : List (List Int)} (h : allLvM m = true) : ∀ r ∈ m, Tr.isLv r = true := by
  unfold allLvM at h
  rw [List.all_eq_true] at h
  exact h
theorem str_eq (a b : List UInt8) : ((⟨a.toArray⟩ : ByteArray).toList == (⟨b.toArray⟩ : ByteArray).toList) = decide (a = b) := by
  rw [ByteArray.toList_eq, ByteArray.toList_eq]
  by_cases h : a = b
  · subst h; simp
  · rw [decide_eq_false h]; exact beq_eq_false_iff_ne.2 h
set_option maxHeartbeats 2000000 in
theorem pCountCutsTo_L (A A' A'' : Option Addr) (n n' n'' c c' c'' B B' B'' : Nat) (s t u : List Int) (w : World) (hl : s.length = n) (hl' : t.length = n') (hl'' : u.length = n'') (hn : n ≤ 1048576) (hn' : n' ≤ 1048576) (hn'' : n'' ≤ 1048576) (hB : B ≤ w.heap.size) (hB' : B' ≤ w.heap.size) (hB'' : B'' ≤ w.heap.size)
    (h : Row w B A (ints s)) (h' : Row w B' A' (ints t)) (h'' : Row w B'' A'' (ints u)) (hc : n ≤ c) (hc' : n' ≤ c') (hc'' : n'' ≤ c'') :
    Calls Try.prog 14 #[.slice A n c, .slice A' n' c', .slice A'' n'' c''] w (ResI (cntA s t u) w) := by
  have hal : Below w.heap.size w (w.alloc (.cells #[.slice A n c, .slice A' n' c', .slice A'' n'' c''] 24)) := (Below.refl _ _).alloc (Nat.le_refl _) _
  have C0 := areLevels_any (some ⟨w.heap.size, 0, none⟩) 3 3 w.heap.size [s, t, u] _ rfl (by omega) (fun r hr => by
    simp only [List.mem_cons, List.not_mem_nil, or_false] at hr
    rcases hr with rfl | rfl | rfl <;> omega) (three_lists (c := c) (c' := c') (c'' := c'') hl hl' hl'' hB hB' hB'' h h' h'')
  by_cases hlv : Tr.isLv s = true ∧ Tr.isLv t = true ∧ Tr.isLv u = true
  · obtain ⟨h1, h2, h3⟩ := hlv
    have hb : allLvM [s, t, u] = true := by simp [allLvM, h1, h2, h3]
    rw [hb] at C0
    have G := Lib.hid (cntA_yes h1 h2 h3)
    obtain ⟨a1, a8⟩ := lv_bd h1
    obtain ⟨b1, b8⟩ := lv_bd h2
    obtain ⟨d1, d8⟩ := lv_bd h3
    have z1 := (lv_txt h1).2.2.2
    have z2 := (lv_txt h2).2.2.2
    have z3 := (lv_txt h3).2.2.2
    rw [hl] at a1 a8 z1 G
    rw [hl'] at b1 b8 z2
    rw [hl''] at d1 d8 z3
    have HL := Lib.hid hl
    have HL' := Lib.hid hl'
    have HL'' := Lib.hid hl''
    have CC := fun k (hk : k + 1 < n) w => cutAbove_any (Tr.txt s) k w (Tr.tx_txt h1) (by omega)
    have CN := fun w => nodes_any (Tr.txt s) w (by omega)
    rw [show (Tr.txt s).length / 2 = n from by omega] at CN
    have HCL := Lib.hid (Tr.cntT_le (Tr.txt s) (Tr.txt t) (Tr.txt u))
    clear hl hl' hl'' hb z1 z2 z3 h1 h2 h3
    go_enter Try.func14, Try.ntmps14
    go_wp2_with fail
    refine C0.mono ?_
    rintro e w1 ⟨rfl, d, rfl⟩
    have B1 : Hid (Below w.heap.size w ((w.alloc (.cells #[.slice A n c, .slice A' n' c', .slice A'' n'' c''] 24)).drewN d)) := below_drewN hal d
    generalize (w.alloc (.cells #[.slice A n c, .slice A' n' c', .slice A'' n'' c''] 24)).drewN d = W1 at *
    go_wp2_with fail
    refine (treeOf_any A n c B s _ HL.out a1 a8 hc (Nat.le_trans hB B1.out.size) (Row.below h B1.out hB)).mono ?_
    rintro e w2 ⟨rfl, bel2⟩
    have B2 : Hid (Below w.heap.size w w2) := B1.out.trans (bel2.mono B1.out.size)
    clear bel2
    go_wp2_with fail
    refine (treeOf_any A' n' c' B' t _ HL'.out b1 b8 hc' (Nat.le_trans hB' B2.out.size) (Row.below h' B2.out hB')).mono ?_
    rintro e w3 ⟨rfl, bel3⟩
    have B3 : Hid (Below w.heap.size w w3) := B2.out.trans (bel3.mono B2.out.size)
    clear bel3
    go_wp2_with fail
    refine (treeOf_any A'' n'' c'' B'' u _ HL''.out d1 d8 hc'' (Nat.le_trans hB'' B3.out.size) (Row.below h'' B3.out hB'')).mono ?_
    rintro e w4 ⟨rfl, bel4⟩
    have B4 : Hid (Below w.heap.size w w4) := B3.out.trans (bel4.mono B3.out.size)
    clear bel4
    obtain ⟨X, hX⟩ : ∃ X : ByteArray, X = ⟨(Tr.txt s).toArray⟩ := ⟨_, rfl⟩
    obtain ⟨Y, hY⟩ : ∃ Y : ByteArray, Y = ⟨(Tr.txt t).toArray⟩ := ⟨_, rfl⟩
    obtain ⟨Z, hZ⟩ : ∃ Z : ByteArray, Z = ⟨(Tr.txt u).toArray⟩ := ⟨_, rfl⟩
    have HY := Lib.hid hY
    have HZ := Lib.hid hZ
    rw [← hX, ← hY, ← hZ]
    simp only [← hX] at CC CN
    clear hX hY hZ C0
    go_wp2_with fail
    go_loopw [11, 12] (fun cv k wr => ∃ (q m : Nat), q + 1 ≤ n ∧ cv = .int .i64 m ∧ k = .int .i64 ((q + 1 : Nat) : Int) ∧ m ≤ q ∧ Hid (m = Tr.cntT (Tr.txt s) (Tr.txt t) (Tr.txt u) q) ∧ Below w.heap.size w wr) (fun _ k _ => n - (intOf k).toNat)
    case atStart => exact ⟨0, 0, a1, rfl, rfl, Nat.le_refl _, rfl, B4.out⟩
    case round =>
      obtain ⟨q, m, hq, rfl, rfl, hmq, HM, HBW⟩ := hrel
      have hsz := HBW.size
      by_cases hlt : q + 1 < n
      · have C1 := CC q hlt wr
        obtain ⟨R, hR⟩ : ∃ R, R = Tr.cutF 8 (Tr.txt s) (q + 1) := ⟨_, rfl⟩
        have HST := Lib.hid (Tr.cntT_step (Tr.txt s) (Tr.txt t) (Tr.txt u) q)
        rw [← hR] at C1 HST
        have e1 := str_eq R.1 (Tr.txt t)
        have e2 := str_eq R.2 (Tr.txt u)
        rw [← HY.out] at e1
        rw [← HZ.out] at e2
        obtain ⟨P1, hP1⟩ : ∃ P1 : ByteArray, P1 = ⟨R.1.toArray⟩ := ⟨_, rfl⟩
        obtain ⟨P2, hP2⟩ : ∃ P2 : ByteArray, P2 = ⟨R.2.toArray⟩ := ⟨_, rfl⟩
        rw [← hP1] at C1 e1
        rw [← hP2] at C1 e2
        have HBW' := Lib.hid HBW
        have hltI : ((q : Int) + 1) < (n : Int) := by omega
        have C2 := CN wr
        clear hR hP1 hP2 HBW
        by_cases x1 : R.1 = Tr.txt t
        · rw [decide_eq_true x1] at e1
          by_cases x2 : R.2 = Tr.txt u
          · rw [decide_eq_true x2] at e2
            have G2 : Hid (m + 1 = Tr.cntT (Tr.txt s) (Tr.txt t) (Tr.txt u) (q + 1)) := by rw [Hid, HST.out, if_pos ⟨x1, x2⟩, HM.out]
            clear HST HM x1 x2
            go_wp2_with fail
            refine C2.mono ?_
            rintro e w5 ⟨rfl, rfl⟩
            go_wp2_with fail
            refine C1.mono ?_
            rintro e w5 ⟨rfl, bel5⟩
            have GB := HBW'.out.trans (bel5.mono hsz)
            have GBB := Lib.hid GB
            clear bel5 GB C1 C2
            go_wp2
            go_roundw
            case rel => exact ⟨q + 1, m + 1, by omega, by go_num, by go_num, by omega, G2, GBB.out⟩
            case measure => simp [intOf]; omega
          · rw [decide_eq_false x2] at e2
            have G2 : Hid (m = Tr.cntT (Tr.txt s) (Tr.txt t) (Tr.txt u) (q + 1)) := by rw [Hid, HST.out, if_neg (fun e => x2 e.2), HM.out]; rfl
            clear HST HM x1 x2
            go_wp2_with fail
            refine C2.mono ?_
            rintro e w5 ⟨rfl, rfl⟩
            go_wp2_with fail
            refine C1.mono ?_
            rintro e w5 ⟨rfl, bel5⟩
            have GBB := Lib.hid (HBW'.out.trans (bel5.mono hsz))
            clear bel5 C1 C2
            go_wp2
            go_roundw
            case rel => exact ⟨q + 1, m, by omega, by go_num, by go_num, by omega, G2, GBB.out⟩
            case measure => simp [intOf]; omega
        · rw [decide_eq_false x1] at e1
          have G2 : Hid (m = Tr.cntT (Tr.txt s) (Tr.txt t) (Tr.txt u) (q + 1)) := by rw [Hid, HST.out, if_neg (fun e => x1 e.1), HM.out]; rfl
          clear HST HM x1 e2
          go_wp2_with fail
          refine C2.mono ?_
          rintro e w5 ⟨rfl, rfl⟩
          go_wp2_with fail
          refine C1.mono ?_
          rintro e w5 ⟨rfl, bel5⟩
          have GBB := Lib.hid (HBW'.out.trans (bel5.mono hsz))
          clear bel5 C1 C2
          go_wp2
          go_roundw
          case rel => exact ⟨q + 1, m, by omega, by go_num, by go_num, by omega, G2, GBB.out⟩
          case measure => simp [intOf]; omega
      · have hqe : q = n - 1 := by omega
        have G2 : Hid (cntA s t u = ((m : Int), 0)) := by rw [Hid, G.out, ← hqe, ← HM.out]
        have GBB := Lib.hid HBW
        have hqn : ¬ ((q : Int) + 1 < (n : Int)) := by omega
        have C2 := CN wr
        clear HM HBW hqe CC CN
        go_wp2_with fail
        refine C2.mono ?_
        rintro e w5 ⟨rfl, rfl⟩
        clear C2
        go_wp2
        go_ret2
        exact ResI.ofc G2.out GBB.out
  · have G := Lib.hid (cntA_no hlv)
    have hb : allLvM [s, t, u] = false := by
      cases e : allLvM [s, t, u]
      · rfl
      · have := allLvM_mem' e
        exact absurd ⟨this s (by simp), this t (by simp), this u (by simp)⟩ hlv
    rw [hb] at C0
    clear hl hl' hl'' hb hlv
    go_enter Try.func14, Try.ntmps14
    go_wp2_with fail
    refine C0.mono ?_
    rintro e w1 ⟨rfl, d, rfl⟩
    go_wp2
    go_ret2
    exact ResI.ofc G.out (below_drewN hal d)
theorem cans_eq {a b : List Int} (ha : Tr.isLv a = true) (hb : Tr.isLv b = true) : eqL (Tr.can a) (Tr.can b) = decide (Tr.txt a = Tr.txt b) := by
  unfold eqL
  have := Tr.txt_can_iff ha hb (fun t ht => (lv_txt ht).1)
  by_cases h : Tr.txt a = Tr.txt b
  · rw [decide_eq_true h, decide_eq_true (this.2 h)]
  · rw [decide_eq_false h, decide_eq_false (fun e => h (this.1 e))]
end Go.Proofs.Ytjmjdcfgbaepkaa
/-
  A number that a call hands back.
-/
namespace Go.Proofs.Ytjmjdcfgbaepkaa
open Go.RowKit
/-- one number, with memory made -/
def Res1 (r : Int) (w : World) (e : Ending) (w' : World) : Prop := e = .returned (.int .i64 r) ∧ Below w.heap.size w w'
theorem Res1.of {r x : Int} {w w' : World} (h : r = x) (hb : Below w.heap.size w w') : Res1 r w (.returned (.int .i64 x)) w' := by subst h; exact ⟨rfl, hb⟩
end Go.Proofs.Ytjmjdcfgbaepkaa
/-
  Densities.
-/
namespace Go.Proofs.Ytjmjdcfgbaepkaa
open Go.RowKit Fld
set_option linter.unusedVariables false
set_option linter.unusedSimpArgs false
set_option maxRecDepth 100000

def PDen (d : Nat) : Prop := ∀ (x : List UInt8) (w : World), x.length ≤ d → Tr.isTx x = true → Calls Try.prog 89 #[.string ⟨x.toArray⟩] w (Res1 (Tr.den x) w)
theorem pDen_succ (d : Nat) (IH : PDen d) : PDen (d + 1) := by
  intro x w hxd hx
  obtain ⟨⟨h2, h16⟩, HB, h7⟩ := Tr.br_parts hx
  obtain ⟨hD, hK⟩ := Tr.den_parts hx
  have C1 := fun w => branches_any x w hx
  have C0 := nodes_any x w (by omega)
  have HD := Lib.hid hD
  have HK := Lib.hid hK
  have HBR := Lib.hid HB
  obtain ⟨P, hP⟩ : ∃ P, P = (Tr.brT x).length := ⟨_, rfl⟩
  have HP : Hid ((Tr.brT x).length = P) := hP.symm
  have hP7 : P ≤ 7 := by rw [hP]; exact h7
  have HXD := Lib.hid hxd
  obtain ⟨S, hS⟩ : ∃ S : ByteArray, S = ⟨x.toArray⟩ := ⟨_, rfl⟩
  rw [← hS] at C0 C1 ⊢
  clear hD hK HB h7 hP hxd hx hS
  go_enter Try.func89, Try.ntmps89
  go_wp2_with fail
  refine C0.mono ?_
  rintro e w0 ⟨rfl, rfl⟩
  have hw0 : IntKind.i64.wrap ((x.length / 2 : Nat) : Int) = ((x.length / 2 : Nat) : Int) := IntWalk.i64_in _ (by omega)
  go_wp2_with fail
  refine (C1 _).mono ?_
  rintro e w1 ⟨A, q, c, rfl, hq, own1, bel1⟩
  have hqP : q = P := by rw [hq]; exact HP.out
  subst hqP
  have hs1 := bel1.size
  have HROW : Hid (Row w1 w1.heap.size A (strs (Tr.brT x))) := row_of_own own1
  have HB1 := Lib.hid bel1
  clear hq own1 bel1 C0 C1
  go_wp2_with fail
  go_loopw [3, 11] (fun v i wr => ∃ k : Nat, k ≤ q ∧ v = .int .i64 (Tr.mulK Tr.den ((x.length / 2 : Nat) : Int) (Tr.brT x) k) ∧ i = .int .i64 k ∧ Below w1.heap.size w1 wr) (fun _ i _ => q - (intOf i).toNat)
  case atStart => exact ⟨0, Nat.zero_le _, by simp [Tr.mulK_zero], rfl, Below.refl _ _⟩
  case round =>
    obtain ⟨k, hk, rfl, rfl, HBw⟩ := hrel
    have hsz := HBw.size
    by_cases hlt : k < q
    · obtain ⟨y, hy⟩ := at_lt (show k < (Tr.brT x).length by rw [HP.out]; exact hlt)
      obtain ⟨hyt, hyl⟩ := HBR.out y (List.mem_of_getElem? hy)
      obtain ⟨b, o, rfl, _, hc⟩ := (HROW.out.below HBw (Nat.le_refl _)) k _ (strs_at hy)
      have C2 := fun w => IH y w (by have := HXD.out; omega) hyt
      have hk1 := HK.out k (by rw [HP.out]; omega)
      have hk2 := HK.out (k + 1) (by rw [HP.out]; omega)
      have hstep := Tr.mulK_step (f := Tr.den) (a := ((x.length / 2 : Nat) : Int)) hy
      obtain ⟨a, ha⟩ : ∃ a, a = Tr.mulK Tr.den ((x.length / 2 : Nat) : Int) (Tr.brT x) k := ⟨_, rfl⟩
      rw [hstep] at hk2
      rw [← ha] at hk1 hk2 ⊢
      have HST : Hid (Tr.mulK Tr.den ((x.length / 2 : Nat) : Int) (Tr.brT x) (k + 1) = a * Tr.den y) := by rw [ha]; exact hstep
      obtain ⟨z, hz⟩ : ∃ z, z = Tr.den y := ⟨_, rfl⟩
      rw [← hz] at hk2 HST C2
      obtain ⟨Y, hY⟩ : ∃ Y : ByteArray, Y = ⟨y.toArray⟩ := ⟨_, rfl⟩
      rw [← hY] at C2 hc
      have hmw : IntKind.i64.wrap (a * z) = a * z := IntWalk.i64_in _ (by omega)
      have HBW := Lib.hid HBw
      clear hy hyt hyl hstep ha hz hY HBw hk1
      go_wp2_with fail
      refine (C2 _).mono ?_
      rintro e w2 ⟨rfl, bel2⟩
      have HB2 : Hid (Below w1.heap.size w1 w2) := HBW.out.trans (bel2.mono hsz)
      clear bel2 hk2
      go_wp2
      go_roundw
      case rel => exact ⟨k + 1, by omega, by rw [HST.out], by go_num, HB2.out⟩
      case measure => simp [intOf]; omega
    · obtain rfl : k = q := by omega
      have G : Hid (Res1 (Tr.den x) w (.returned (.int .i64 (Tr.mulK Tr.den ((x.length / 2 : Nat) : Int) (Tr.brT x) k))) wr) :=
        Res1.of (by rw [HD.out, HP.out]) (HB1.out.trans (HBw.mono hs1))
      clear HBw
      go_wp2
      go_ret
      exact G.out
theorem density_any (x : List UInt8) (w : World) (hx : Tr.isTx x = true) : Calls Try.prog 89 #[.string ⟨x.toArray⟩] w (Res1 (Tr.den x) w) := by
  have key : ∀ d, PDen d := fun d => by
    induction d with
    | zero => intro y w hy ht; have := (Tr.br_parts ht).1.1; omega
    | succ d ih => exact pDen_succ d ih
  exact key x.length x w (Nat.le_refl _) hx
def densityA (t : List Int) : Int × Int := if Tr.isLv t = true then (Tr.denM t, 0) else (0, 1)
theorem densityA_yes {t : List Int} (h : Tr.isLv t = true) : densityA t = (Tr.denM t, 0) := if_pos h
theorem densityA_no {t : List Int} (h : Tr.isLv t = false) : densityA t = (0, 1) := if_neg (by rw [h]; simp)
theorem pDensityOf_L (A : Option Addr) (n c B : Nat) (t : List Int) (w : World) (hl : t.length = n) (hn : n ≤ 1048576) (hB : B ≤ w.heap.size) (h : Row w B A (ints t)) (hc : n ≤ c) :
    Calls Try.prog 38 #[.slice A n c] w (ResI (densityA t) w) := by
  have C0 := isLevels_any A n c B t w hl (by omega) h
  cases hlv : Tr.isLv t
  · have G := Lib.hid (densityA_no hlv)
    rw [hlv] at C0
    go_enter Try.func38, Try.ntmps38
    go_wp2_with fail
    refine C0.mono ?_
    rintro e w' ⟨rfl, m, rfl⟩
    go_wp2
    go_ret2
    exact ResI.of' G.out (below_drewN (Below.refl _ _) _)
  · rw [hlv] at C0
    obtain ⟨b1, b8⟩ := lv_bd hlv
    rw [hl] at b1 b8
    have HL := Lib.hid hl
    have G := Lib.hid (densityA_yes hlv)
    have C3 := fun w => density_any (Tr.txt t) w (Tr.tx_txt hlv)
    rw [(Tr.denM_parts hlv).2] at C3
    clear hl hlv
    go_enter Try.func38, Try.ntmps38
    go_wp2_with fail
    refine C0.mono ?_
    rintro e w' ⟨rfl, m, rfl⟩
    go_wp2_with fail
    refine (treeOf_any A n c B t _ HL.out b1 b8 hc (by exact hB) (h.drewN m)).mono ?_
    rintro e w2 ⟨rfl, bel2⟩
    go_wp2_with fail
    refine (C3 _).mono ?_
    rintro e w3 ⟨rfl, bel3⟩
    have GB : Hid (Below w.heap.size w w3) := (below_undrew' bel2).trans (bel3.mono bel2.size)
    clear bel2 bel3
    go_wp2
    go_ret2
    exact ResI.of' G.out GB.out
end Go.Proofs.Ytjmjdcfgbaepkaa
/-
  The model's sort of trees: put in one after another.
-/
namespace Go.Proofs.Ytjmjdcfgbaepkaa
open Go.RowKit Fld
set_option linter.unusedVariables false
set_option linter.unusedSimpArgs false
set_option maxRecDepth 100000

theorem step_append_own {P : Program} {w : World} {ops : Array Oper} {o : Oper} {a : Act} {K : Act → World → Prop} {Q : Exit → Act → World → Prop} {E : Prop} (hgd : o.guard = none) (s x : Operand) (t : TypeId)
    (ho : o.op = .call { callee := .builtin .append, args := #[s, x], argTypes := #[t, t] })
    (base : Nat) (e : TypeId) (i : TypeInfo) (z : Value) (size bytes : Nat) (ht : P.underlying t = some (.slice e)) (hi : P.info? e = some i) (hz : i.zero = some z)
    (hsize : i.size = size) (hby : i.bytes = bytes) (hzs : z.cells.size = size) (hsz : 0 < size)
    (v : Value) (n : Nat) (xs : List Value) (hs : a.eval s = v) (hown : w.ownsRow base e size v n xs)
    (ad : Addr) (m c : Nat) (news : List Value) (hx : a.eval x = .slice (some ad) m c) (hl : news.length = m * size) (hnews : ∀ j u, news[j]? = some u → w.cell? (ad.add j) = some u) (h1 : ∀ u ∈ news, u.oneCell' = true)
    (h63 : n + m ≤ maxLen) (hbytes : (n + m) * bytes ≤ 140737488355328) (hbase : base ≤ w.heap.size)
    (h : ∀ v' w', w'.ownsRow base e size v' (n + m) (xs ++ news) → w.grownBy w' v.ownBlock → (v' = .slice none 0 0 ↔ v = .slice none 0 0 ∧ m = 0) → K (a.put o.dst v') w') :
    if Region.wanted o (yielded ops a.tmps) = true then Oper.wp P o a w K Q else E := by
  have hw : Region.wanted o (yielded ops a.tmps) = true := by simp [Region.wanted, hgd]
  rw [if_pos hw]
  exact wp_append_own w s x t ho base e i z size bytes ht hi hz hsize hby hzs hsz v n xs hs hown ad m c news hx hl hnews h1 h63 hbytes hbase h
/-- put in at a place -/
theorem insB_at {p : List Int} : ∀ {S : List (List Int)} {k : Nat}, (∀ j s, j < k → S[j]? = some s → Tr.beforeL p s = false) → (∀ s, S[k]? = some s → Tr.beforeL p s = true) → k ≤ S.length → Tr.insB p S = S.take k ++ p :: S.drop k
  | [], k, _, _, h => by
    have : k = 0 := by simpa using h
    subst this; rfl
  | s :: r, 0, _, h2, _ => by
    have := h2 s rfl
    rw [Tr.insB, if_pos this]; rfl
  | s :: r, k+1, h1, h2, h3 => by
    have h0 := h1 0 s (by omega) rfl
    rw [Tr.insB, if_neg (by rw [h0]; simp), insB_at (S := r) (k := k) (fun j x hj hx => h1 (j + 1) x (by omega) hx) (fun x hx => h2 x hx) (by simpa using h3)]
    rfl
theorem insB_length (p : List Int) : ∀ S : List (List Int), (Tr.insB p S).length = S.length + 1
  | [] => rfl
  | s :: r => by
    rw [Tr.insB]; split
    · rfl
    · rw [List.length_cons, insB_length p r]; rfl
theorem insB_mem {p : List Int} : ∀ {S : List (List Int)} {s : List Int}, s ∈ Tr.insB p S → s = p ∨ s ∈ S
  | [], s, hs => by simpa [Tr.insB] using hs
  | a :: r, s, hs => by
    rw [Tr.insB] at hs
    split at hs
    · simpa using hs
    · rw [List.mem_cons] at hs
      rcases hs with rfl | hs
      · simp
      · rcases insB_mem hs with e | e
        · exact .inl e
        · exact .inr (by simp [e])
def sortB (L : List (List Int)) (i : Nat) : List (List Int) := (L.take i).foldl (fun o p => Tr.insB p o) []
theorem sortB_step {L : List (List Int)} {i : Nat} {p : List Int} (h : L[i]? = some p) : sortB L (i + 1) = Tr.insB p (sortB L i) := by
  unfold sortB
  rw [List.take_add_one, h, Option.toList_some, List.foldl_append]; rfl
theorem sortB_length (L : List (List Int)) : ∀ i, i ≤ L.length → (sortB L i).length = i
  | 0, _ => rfl
  | i+1, h => by
    rw [sortB_step (List.getElem?_eq_getElem h), insB_length, sortB_length L i (by omega)]
theorem sortB_mem {L : List (List Int)} : ∀ {i : Nat} {s : List Int}, i ≤ L.length → s ∈ sortB L i → s ∈ L
  | 0, s, _, hs => by cases hs
  | i+1, s, h, hs => by
    rw [sortB_step (List.getElem?_eq_getElem h)] at hs
    rcases insB_mem hs with e | e
    · rw [e]; exact List.getElem_mem _
    · exact sortB_mem (by omega) e
theorem sortB_end (L : List (List Int)) : sortB L L.length = Tr.sortL L := by
  unfold sortB Tr.sortL; rw [List.take_length]
/-- sorted lists in memory -/
def ResRws (m : List (List Int)) (w : World) (e : Ending) (w' : World) : Prop :=
  ∃ (b o cap : Nat), e = .returned (.slice (some ⟨b, o, none⟩) m.length cap) ∧ m.length ≤ cap ∧ Rws w' (some ⟨b, o, none⟩) m ∧ Below w.heap.size w w'
set_option maxHeartbeats 4000000 in
theorem l03Sort_any (A : Option Addr) (n c B : Nat) (L : List (List Int)) (w : World) (hl : L.length = n) (n8 : n ≤ 8) (hr : ∀ r ∈ L, Tr.isLv r = true) (hB : B ≤ w.heap.size) (h : Mat w B A L) :
    Calls Try.prog 131 #[.slice A n c] w (ResRws (Tr.sortL L) w) := by
  obtain ⟨i0, hi, hz0, hz1, hz2⟩ := info_parts info_i64
  obtain ⟨j0, hj, hy0, hy1, hy2⟩ := info_parts info_row
  have HL := Lib.hid hl
  have HR0 := Lib.hid hr
  clear hl hr
  go_enter Try.func131, Try.ntmps131
  go_wp2_with fail
  go_loopw [3, 4] (fun v i wr => ∃ (k cap : Nat) (b o : Nat), k ≤ n ∧ v = .slice (some ⟨b, o, none⟩) k cap ∧ k ≤ cap ∧ i = .int .i64 k ∧ Rws wr (some ⟨b, o, none⟩) (sortB L k) ∧ Below w.heap.size w wr) (fun _ i _ => n - (intOf i).toNat)
  case atStart => exact ⟨0, 0, w.heap.size, 0, Nat.zero_le _, rfl, Nat.le_refl _, rfl, ⟨[], Row.nil _ _ _, Vals.nil _ _⟩, (Below.refl _ _).alloc (Nat.le_refl _) _⟩
  case round =>
    obtain ⟨k, cap, b, o, hk, rfl, hkc, rfl, HR, HB⟩ := hrel
    have hsz := HB.size
    by_cases hlt : k < n
    · obtain ⟨p, hp⟩ := at_lt (show k < L.length by rw [HL.out]; exact hlt)
      obtain ⟨bp, op, Ak, ck, rfl, hbp, hcp, hlc, hcm, hrp⟩ := (h.below HB hB) k p hp
      have hpl := HR0.out p (List.mem_of_getElem? hp)
      obtain ⟨p1, p8⟩ := lv_bd hpl
      obtain ⟨x0, hx0⟩ := at_lt (show 0 < p.length by omega)
      obtain ⟨br, orr, rfl, _, _⟩ := hrp 0 _ (ints_at hx0)
      have HSS : Hid (sortB L (k + 1) = Tr.insB p (sortB L k)) := sortB_step hp
      have HSL : Hid ((sortB L k).length = k) := sortB_length L k (by rw [HL.out]; exact hk)
      have HSM : Hid (∀ s ∈ sortB L k, Tr.isLv s = true) := fun s hs => HR0.out s (sortB_mem (by rw [HL.out]; exact hk) hs)
      have HRP := Lib.hid hrp
      have HRW := Lib.hid HR
      have HBW := Lib.hid HB
      have hka : (k : Int) < n := by omega
      have hk0 : (0 : Int) ≤ (k : Int) := Int.natCast_nonneg _
      have hkm : k ≤ 8 := by omega
      clear hp hpl hx0 HR HB hrp
      obtain ⟨wo, hwo⟩ : ∃ wo, wo = wr := ⟨wr, rfl⟩
      subst hwo
      go_wp2_with fail
      go_loopw [5] (fun a wr => ∃ (at' m : Nat), at' ≤ k ∧ a = .int .i64 at' ∧ wr = wo.drewN m ∧ Hid (∀ j s, j < at' → (sortB L k)[j]? = some s → Tr.beforeL p s = false)) (fun a _ => k - (intOf a).toNat)
      case atStart => exact ⟨0, 0, Nat.zero_le _, rfl, rfl, fun j s hj => by omega⟩
      case round =>
        obtain ⟨q, m, hq, rfl, rfl, HQ⟩ := hrel
        have hq0 : (0 : Int) ≤ (q : Int) := Int.natCast_nonneg _
        by_cases hqk : q < k
        · have hqi : (q : Int) < (k : Int) := by omega
          have hd : decide ((q : Int) < (k : Int)) = true := decide_eq_true hqi
          obtain ⟨s, hs⟩ := at_lt (show q < (sortB L k).length by rw [HSL.out]; exact hqk)
          obtain ⟨_, _, As, cs, e1, _, hcs, _, _, hrs⟩ := HRW.out.mat q s hs
          cases e1
          obtain ⟨s1, s8⟩ := lv_bd (HSM.out s (List.mem_of_getElem? hs))
          have CB := fun a : Nat => l03Before_any (some ⟨br, orr, none⟩) As p.length s.length ck cs B wo.heap.size p s (wo.drewN (m + a)) rfl rfl (by omega) (by omega) (HRP.out.drewN (m + a)) hrs
          cases hbf : Tr.beforeL p s
          · simp only [hbf] at CB
            have HQ2 : Hid (∀ j s, j < q + 1 → (sortB L k)[j]? = some s → Tr.beforeL p s = false) := fun j s' hj hs' => by
              by_cases hjq : j = q
              · subst hjq; rw [hs] at hs'; injection hs' with hs'; rw [← hs']; exact hbf
              · exact HQ.out j s' (by omega) hs'
            clear hs HQ hbf
            go_wp2_with fail
            go_quiet ((go_at_call 77; exact quiet_any (CB _)))
            go_wp2
            go_roundw
            case rel => exact ⟨q + 1, _, by omega, by go_num, rfl, HQ2⟩
            case measure => simp [intOf]; omega
          · simp only [hbf] at CB
            have HQ2 : Hid (∀ s, (sortB L k)[q]? = some s → Tr.beforeL p s = true) := fun s' hs' => by
              rw [hs] at hs'; injection hs' with hs'; rw [← hs']; exact hbf
            clear hs hbf
            go_wp2_with fail
            go_quiet ((go_at_call 77; exact quiet_any (CB _)))
            clear hcs hrs CB
            obtain ⟨W, hW⟩ : ∃ W, W = (wo.drewN m).drewN nq := ⟨_, rfl⟩
            have BW : Hid (Below wo.heap.size wo W) := by rw [hW]; exact below_drewN (below_drewN (Below.refl _ _) _) _
            have hW1 : wo.heap.size ≤ W.heap.size := BW.out.size
            rw [← hW]
            clear hW
            obtain ⟨vs, hrow, hvals⟩ := HRW.out.next BW.out
            have hvl : vs.length = k := by rw [hvals.1]; exact HSL.out
            have HVL := Lib.hid hvl
            have HROW := Lib.hid hrow
            have HVALS := Lib.hid hvals
            have HPW : Hid (Row W B (some ⟨br, orr, none⟩) (ints p)) := HRP.out.below BW.out (by omega)
            have hcpW : W.cell? ⟨bp, op + k, none⟩ = some (.slice (some ⟨br, orr, none⟩) p.length ck) := (BW.out.cell (p := ⟨bp, op + k, none⟩) (by show bp < wo.heap.size; omega)).trans hcp
            have HPUT : Hid (sortB L (k + 1) = (sortB L k).take q ++ p :: (sortB L k).drop q) := by
              rw [Hid, HSS.out]; exact insB_at HQ.out HQ2.out (by rw [HSL.out]; exact hq)
            have hqK : (q : Int) ≤ (k : Int) := by omega
            have hKc : (k : Int) ≤ (cap : Int) := by omega
            have hcap0 : (q : Int) ≤ (cap : Int) := by omega
            clear hrow hvals hvl HQ HQ2 hcp
            have HLEN1 : Hid ((vs.drop q).length = (k - q) * 1) := by rw [Hid, List.length_drop, HVL.out]; omega
            have HONE1 : Hid (∀ u ∈ vs.drop q, u.oneCell' = true) := fun u hu => HVALS.out.one (v := u) u (List.mem_of_mem_drop hu)
            have HNW1 : Hid (∀ w2 (B2 : Below W.heap.size W w2) (x : Obj), ∀ j u, (vs.drop q)[j]? = some u → (w2.alloc x).cell? ((⟨b, o + q, none⟩ : Addr).add j) = some u) := fun w2 B2 x => row_news (((Row.dropA HROW.out).below B2 (Nat.le_refl _)).below ((Below.refl _ _).alloc (Nat.le_refl _) x) B2.size)
            have HLEN2 : Hid ((vs.take q).length = q * 1) := by rw [Hid, List.length_take, HVL.out]; omega
            have HONE2 : Hid (∀ u ∈ vs.take q, u.oneCell' = true) := fun u hu => HVALS.out.one (v := u) u (List.mem_of_mem_take hu)
            go_wp2_with fail
            go_region_held3 (fun w' => w'.cell? ⟨bp, op + k, none⟩ = some (.slice (some ⟨br, orr, none⟩) p.length ck)) (first | go_keep | exact hcpW | exact ((show Below W.heap.size W w2 from ⟨bel2.os, bel2.tape, bel2.output, bel2.size, bel2.block⟩).cell (p := ⟨bp, op + k, none⟩) (by show bp < W.heap.size; omega)).trans hcpW | exact (((show Below W.heap.size W w2 from ⟨bel2.os, bel2.tape, bel2.output, bel2.size, bel2.block⟩).alloc (show W.heap.size ≤ w2.heap.size from bel2.size) _).cell (p := ⟨bp, op + k, none⟩) (by show bp < W.heap.size; omega)).trans hcpW | exact (BW3.cell (p := ⟨bp, op + k, none⟩) (by show bp < W.heap.size; omega)).trans hcpW)
              (first
                | (go_at_call 136; refine (l01Own_any ⟨br, orr, none⟩ p.length ck B p _ rfl (by omega) (by show B ≤ W.heap.size; omega) (by exact HPW.out)).mono ?_; rintro e w2 ⟨A2, c2, rfl, own2, bel2⟩)
                | (have B2 : Below W.heap.size W w2 := ⟨bel2.os, bel2.tape, bel2.output, bel2.size, bel2.block⟩; have OWN1 := World.ownsRow_lit (base := W.heap.size) (size := 1) (e := 24) w2 #[.slice A2 p.length c2] 1 B2.size (by simp [maxLen]) rfl; refine step_append_own (by rfl) _ _ 44 (by rfl) W.heap.size 24 j0 _ 1 24 Try.underlying44 hj hy0 hy1 hy2 rfl (by omega) (.slice (some ⟨w2.heap.size, 0, none⟩) 1 1) 1 [.slice A2 p.length c2] (by rfl) OWN1 ⟨b, o + q, none⟩ (k - q) (cap - q) (vs.drop q) (by rfl) HLEN1.out (HNW1.out w2 B2 _) HONE1.out (by simp only [maxLen]; omega) (by omega) (by have := B2.size; simp; omega) ?_; intro v3 w3 own3 hgrow3 _; obtain ⟨g3, c3, rfl⟩ := own_form own3 (by omega); have BW3 : Below W.heap.size W w3 := (B2.alloc B2.size _).grown hgrow3 (by have := B2.size; simp; omega) (fun z hz => (OWN1.lt z hz).1)))
            have B2 : Below W.heap.size W w2 := ⟨bel2.os, bel2.tape, bel2.output, bel2.size, bel2.block⟩
            have HO2 : Hid (w2.ownsRow W.heap.size 2 1 (.slice A2 p.length c2) p.length (ints p)) := own2
            obtain ⟨hc2, hc2m⟩ := own_cap HO2.out
            have hW3 : W.heap.size ≤ w3.heap.size := BW3.size
            have HPV : Hid (Row w2 w2.heap.size A2 (ints p)) := row_of_own HO2.out
            have HB23 : Hid (Below w2.heap.size w2 w3) := ((Below.refl _ _).alloc (Nat.le_refl _) _).grown hgrow3 (by simp) (fun z hz => (World.ownsRow_lit (base := w2.heap.size) (size := 1) (e := 24) w2 #[.slice A2 p.length c2] 1 (Nat.le_refl _) (by simp [maxLen]) rfl).lt z hz |>.1)
            have HO3 := Lib.hid (OwnR.of own3)
            have OWN2 := Lib.hid (World.ownsRow_lit (base := w3.heap.size) (size := 1) (e := 24) w3 #[] 0 (Nat.le_refl _) (Nat.zero_le _) rfl)
            have HBW3 := Lib.hid BW3
            have HNEWS2 : Hid (∀ j u, (vs.take q)[j]? = some u → (w3.alloc (.cells #[] 24)).cell? ((⟨b, o, none⟩ : Addr).add j) = some u) := row_news ((((HROW.out.takeA q).below BW3 (Nat.le_refl _)).more hW3).alloc (Nat.le_refl _) _)
            have HONE3 : Hid (∀ u ∈ [Value.slice A2 p.length c2] ++ vs.drop q, u.oneCell' = true) := fun u hu => by
              rw [List.mem_append, List.mem_singleton] at hu
              rcases hu with rfl | hu
              · rfl
              · exact HVALS.out.one (v := u) u (List.mem_of_mem_drop hu)
            have HS5 : Hid (q + (1 + (k - q)) = k + 1) := by rw [Hid]; omega
            clear own2 bel2 B2 hgrow3 own3 BW3 hcpW
            go_wp2_with (first
              | (at_builtin; refine wpList_append_own _ rfl (.tmp 42) (.tmp 45) 44 rfl w3.heap.size 24 j0 _ 1 24 Try.underlying44 hj hy0 hy1 hy2 rfl (by omega) (.slice (some ⟨w3.heap.size, 0, none⟩) 0 0) 0 [] rfl OWN2.out ⟨b, o, none⟩ q cap (vs.take q) rfl HLEN2.out HNEWS2.out HONE2.out (by simp only [maxLen]; omega) (by omega) (by simp) ?_; intro v4 w4 own4 hgrow4 _; obtain ⟨A4, c4, rfl⟩ := own_shape' own4; rw [Nat.zero_add, List.nil_append] at own4; have BW4 : Below w3.heap.size w3 w4 := ((Below.refl _ _).alloc (Nat.le_refl _) _).grown hgrow4 (by simp) (fun z hz => (OWN2.out.lt z hz).1); have hW4 : w3.heap.size ≤ w4.heap.size := BW4.size; have HO4 := (HO3.out.below BW4 (Nat.le_refl _)).1)
              | (at_builtin; refine wpList_append_own _ rfl (.tmp 46) (.tmp 47) 44 rfl w3.heap.size 24 j0 _ 1 24 Try.underlying44 hj hy0 hy1 hy2 rfl (by omega) (.slice A4 q c4) q (vs.take q) rfl own4 ⟨g3, 0, none⟩ (1 + (k - q)) c3 ([Value.slice A2 p.length c2] ++ vs.drop q) rfl (by rw [Nat.mul_one]; exact own_len HO4) (row_news (row_of_own HO4)) HONE3.out (by simp only [maxLen]; omega) (by omega) (by omega) ?_; intro v5 w5 own5 hgrow5 _; rw [HS5.out] at own5; obtain ⟨g5, c5, rfl⟩ := own_form own5 (by omega)))
            have BW5 : Hid (Below w3.heap.size w3 w5) := BW4.grown hgrow5 hW4 (fun z hz => (own4.lt z hz).1)
            have GB : Hid (Below w.heap.size w w5) := ((HBW.out.trans (BW.out.mono hsz)).trans (HBW3.out.mono (by omega))).trans (BW5.out.mono (by omega))
            have GC : k + 1 ≤ c5 := (own_cap own5).1
            have GR : Hid (Rws w5 (some ⟨g5, 0, none⟩) (sortB L (k + 1))) := by
              refine ⟨_, row_of_own own5, ?_⟩
              have hv := Vals.put (k := q) (A := A2) (c := c2) (r := p) ((HVALS.out.next HBW3.out).next BW5.out) (by rw [HSL.out]; exact hq) hc2 hc2m (((HPV.out.below HB23.out (Nat.le_refl _)).below BW5.out (by have := HB23.out.size; omega)).more (by have := BW5.out.size; have := HB23.out.size; omega))
              rw [← HPUT.out] at hv
              exact hv
            clear own5 hgrow5 own4 hgrow4 BW4 HO4
            go_wp2
            go_roundw
            case rel => exact ⟨k + 1, c5, g5, 0, by omega, rfl, GC, by go_num, GR.out, GB.out⟩
            case measure => simp [intOf]; omega
        · obtain rfl : q = k := by omega
          have hd : decide ((q : Int) < (q : Int)) = false := decide_eq_false (by omega)
          have HQ2 : Hid (∀ s, (sortB L q)[q]? = some s → Tr.beforeL p s = true) := fun s' hs' => by
            rw [List.getElem?_eq_none (by rw [HSL.out]; exact Nat.le_refl _)] at hs'; cases hs'
          go_wp2_with fail
          go_quiet (fail)
          obtain ⟨W, hW⟩ : ∃ W, W = (wo.drewN m).drewN nq := ⟨_, rfl⟩
          have BW : Hid (Below wo.heap.size wo W) := by rw [hW]; exact below_drewN (below_drewN (Below.refl _ _) _) _
          have hW1 : wo.heap.size ≤ W.heap.size := BW.out.size
          rw [← hW]
          clear hW
          obtain ⟨vs, hrow, hvals⟩ := HRW.out.next BW.out
          have hvl : vs.length = q := by rw [hvals.1]; exact HSL.out
          have HVL := Lib.hid hvl
          have HROW := Lib.hid hrow
          have HVALS := Lib.hid hvals
          have HPW : Hid (Row W B (some ⟨br, orr, none⟩) (ints p)) := HRP.out.below BW.out (by omega)
          have hcpW : W.cell? ⟨bp, op + q, none⟩ = some (.slice (some ⟨br, orr, none⟩) p.length ck) := (BW.out.cell (p := ⟨bp, op + q, none⟩) (by show bp < wo.heap.size; omega)).trans hcp
          have HPUT : Hid (sortB L (q + 1) = (sortB L q).take q ++ p :: (sortB L q).drop q) := by
            rw [Hid, HSS.out]; exact insB_at HQ.out HQ2.out (by rw [HSL.out]; exact hq)
          have hqK : (q : Int) ≤ (q : Int) := by omega
          have hKc : (q : Int) ≤ (cap : Int) := by omega
          have hcap0 : (q : Int) ≤ (cap : Int) := by omega
          clear hrow hvals hvl HQ HQ2 hcp
          by_cases hcap : q = cap
          · subst hcap
            have HLEN1 : Hid (([] : List Value).length = 0 * 1) := rfl
            have HONE1 : Hid (∀ u ∈ ([] : List Value), u.oneCell' = true) := fun u hu => by cases hu
            have HNW1 : Hid (∀ w2 (B2 : Below W.heap.size W w2) (x : Obj), ∀ j u, ([] : List Value)[j]? = some u → (w2.alloc x).cell? ((⟨b, o, none⟩ : Addr).add j) = some u) := fun w2 B2 x j u hu => by simp at hu
            have HLEN2 : Hid ((vs.take q).length = q * 1) := by rw [Hid, List.length_take, HVL.out]; omega
            have HONE2 : Hid (∀ u ∈ vs.take q, u.oneCell' = true) := fun u hu => HVALS.out.one (v := u) u (List.mem_of_mem_take hu)
            go_wp2_with fail
            go_region_held3 (fun w' => w'.cell? ⟨bp, op + q, none⟩ = some (.slice (some ⟨br, orr, none⟩) p.length ck)) (first | go_keep | exact hcpW | exact ((show Below W.heap.size W w2 from ⟨bel2.os, bel2.tape, bel2.output, bel2.size, bel2.block⟩).cell (p := ⟨bp, op + q, none⟩) (by show bp < W.heap.size; omega)).trans hcpW | exact (((show Below W.heap.size W w2 from ⟨bel2.os, bel2.tape, bel2.output, bel2.size, bel2.block⟩).alloc (show W.heap.size ≤ w2.heap.size from bel2.size) _).cell (p := ⟨bp, op + q, none⟩) (by show bp < W.heap.size; omega)).trans hcpW | exact (BW3.cell (p := ⟨bp, op + q, none⟩) (by show bp < W.heap.size; omega)).trans hcpW)
              (first
                | (go_at_call 136; refine (l01Own_any ⟨br, orr, none⟩ p.length ck B p _ rfl (by omega) (by show B ≤ W.heap.size; omega) (by exact HPW.out)).mono ?_; rintro e w2 ⟨A2, c2, rfl, own2, bel2⟩)
                | (have B2 : Below W.heap.size W w2 := ⟨bel2.os, bel2.tape, bel2.output, bel2.size, bel2.block⟩; have OWN1 := World.ownsRow_lit (base := W.heap.size) (size := 1) (e := 24) w2 #[.slice A2 p.length c2] 1 B2.size (by simp [maxLen]) rfl; refine step_append_own (by rfl) _ _ 44 (by rfl) W.heap.size 24 j0 _ 1 24 Try.underlying44 hj hy0 hy1 hy2 rfl (by omega) (.slice (some ⟨w2.heap.size, 0, none⟩) 1 1) 1 [.slice A2 p.length c2] (by rfl) OWN1 ⟨b, o, none⟩ 0 0 [] (by rfl) HLEN1.out (HNW1.out w2 B2 _) HONE1.out (by simp only [maxLen]; omega) (by omega) (by have := B2.size; simp; omega) ?_; intro v3 w3 own3 hgrow3 _; obtain ⟨g3, c3, rfl⟩ := own_form own3 (by omega); have BW3 : Below W.heap.size W w3 := (B2.alloc B2.size _).grown hgrow3 (by have := B2.size; simp; omega) (fun z hz => (OWN1.lt z hz).1)))
            have HDE : Hid ([Value.slice A2 p.length c2] ++ ([] : List Value) = [Value.slice A2 p.length c2] ++ vs.drop q) := by rw [Hid, List.drop_of_length_le (by rw [HVL.out]; omega)]
            rw [HDE.out] at own3
            have e10 : 1 + 0 = 1 := rfl
            rw [e10] at own3
            have B2 : Below W.heap.size W w2 := ⟨bel2.os, bel2.tape, bel2.output, bel2.size, bel2.block⟩
            have HO2 : Hid (w2.ownsRow W.heap.size 2 1 (.slice A2 p.length c2) p.length (ints p)) := own2
            obtain ⟨hc2, hc2m⟩ := own_cap HO2.out
            have hW3 : W.heap.size ≤ w3.heap.size := BW3.size
            have HPV : Hid (Row w2 w2.heap.size A2 (ints p)) := row_of_own HO2.out
            have HB23 : Hid (Below w2.heap.size w2 w3) := ((Below.refl _ _).alloc (Nat.le_refl _) _).grown hgrow3 (by simp) (fun z hz => (World.ownsRow_lit (base := w2.heap.size) (size := 1) (e := 24) w2 #[.slice A2 p.length c2] 1 (Nat.le_refl _) (by simp [maxLen]) rfl).lt z hz |>.1)
            have HO3 := Lib.hid (OwnR.of own3)
            have OWN2 := Lib.hid (World.ownsRow_lit (base := w3.heap.size) (size := 1) (e := 24) w3 #[] 0 (Nat.le_refl _) (Nat.zero_le _) rfl)
            have HBW3 := Lib.hid BW3
            have HNEWS2 : Hid (∀ j u, (vs.take q)[j]? = some u → (w3.alloc (.cells #[] 24)).cell? ((⟨b, o, none⟩ : Addr).add j) = some u) := row_news ((((HROW.out.takeA q).below BW3 (Nat.le_refl _)).more hW3).alloc (Nat.le_refl _) _)
            have HONE3 : Hid (∀ u ∈ [Value.slice A2 p.length c2] ++ vs.drop q, u.oneCell' = true) := fun u hu => by
              rw [List.mem_append, List.mem_singleton] at hu
              rcases hu with rfl | hu
              · rfl
              · exact HVALS.out.one (v := u) u (List.mem_of_mem_drop hu)
            clear own2 bel2 B2 hgrow3 own3 BW3 hcpW
            go_wp2_with (first
              | (at_builtin; refine wpList_append_own _ rfl (.tmp 42) (.tmp 45) 44 rfl w3.heap.size 24 j0 _ 1 24 Try.underlying44 hj hy0 hy1 hy2 rfl (by omega) (.slice (some ⟨w3.heap.size, 0, none⟩) 0 0) 0 [] rfl OWN2.out ⟨b, o, none⟩ q q (vs.take q) rfl HLEN2.out HNEWS2.out HONE2.out (by simp only [maxLen]; omega) (by omega) (by simp) ?_; intro v4 w4 own4 hgrow4 _; obtain ⟨A4, c4, rfl⟩ := own_shape' own4; rw [Nat.zero_add, List.nil_append] at own4; have BW4 : Below w3.heap.size w3 w4 := ((Below.refl _ _).alloc (Nat.le_refl _) _).grown hgrow4 (by simp) (fun z hz => (OWN2.out.lt z hz).1); have hW4 : w3.heap.size ≤ w4.heap.size := BW4.size; have HO4 := (HO3.out.below BW4 (Nat.le_refl _)).1)
              | (at_builtin; refine wpList_append_own _ rfl (.tmp 46) (.tmp 47) 44 rfl w3.heap.size 24 j0 _ 1 24 Try.underlying44 hj hy0 hy1 hy2 rfl (by omega) (.slice A4 q c4) q (vs.take q) rfl own4 ⟨g3, 0, none⟩ 1 c3 ([Value.slice A2 p.length c2] ++ vs.drop q) rfl (by rw [Nat.mul_one]; exact own_len HO4) (row_news (row_of_own HO4)) HONE3.out (by simp only [maxLen]; omega) (by omega) (by omega) ?_; intro v5 w5 own5 hgrow5 _; obtain ⟨g5, c5, rfl⟩ := own_form own5 (by omega)))
            have BW5 : Hid (Below w3.heap.size w3 w5) := BW4.grown hgrow5 hW4 (fun z hz => (own4.lt z hz).1)
            have GB : Hid (Below w.heap.size w w5) := ((HBW.out.trans (BW.out.mono hsz)).trans (HBW3.out.mono (by omega))).trans (BW5.out.mono (by omega))
            have GC : q + 1 ≤ c5 := (own_cap own5).1
            have GR : Hid (Rws w5 (some ⟨g5, 0, none⟩) (sortB L (q + 1))) := by
              refine ⟨_, row_of_own own5, ?_⟩
              have hv := Vals.put (k := q) (A := A2) (c := c2) (r := p) ((HVALS.out.next HBW3.out).next BW5.out) (by rw [HSL.out]; exact hq) hc2 hc2m (((HPV.out.below HB23.out (Nat.le_refl _)).below BW5.out (by have := HB23.out.size; omega)).more (by have := BW5.out.size; have := HB23.out.size; omega))
              rw [← HPUT.out] at hv
              exact hv
            clear own5 hgrow5 own4 hgrow4 BW4 HO4
            go_wp2
            go_roundw
            case rel => exact ⟨q + 1, c5, g5, 0, by omega, rfl, GC, by go_num, GR.out, GB.out⟩
            case measure => simp [intOf]; omega
          · skip
            have HLEN1 : Hid ((vs.drop q).length = 0 * 1) := by rw [Hid, List.length_drop, HVL.out]; omega
            have HONE1 : Hid (∀ u ∈ vs.drop q, u.oneCell' = true) := fun u hu => HVALS.out.one (v := u) u (List.mem_of_mem_drop hu)
            have HNW1 : Hid (∀ w2 (B2 : Below W.heap.size W w2) (x : Obj), ∀ j u, (vs.drop q)[j]? = some u → (w2.alloc x).cell? ((⟨b, o + q, none⟩ : Addr).add j) = some u) := fun w2 B2 x => row_news (((Row.dropA HROW.out).below B2 (Nat.le_refl _)).below ((Below.refl _ _).alloc (Nat.le_refl _) x) B2.size)
            have HLEN2 : Hid ((vs.take q).length = q * 1) := by rw [Hid, List.length_take, HVL.out]; omega
            have HONE2 : Hid (∀ u ∈ vs.take q, u.oneCell' = true) := fun u hu => HVALS.out.one (v := u) u (List.mem_of_mem_take hu)
            go_wp2_with fail
            go_region_held3 (fun w' => w'.cell? ⟨bp, op + q, none⟩ = some (.slice (some ⟨br, orr, none⟩) p.length ck)) (first | go_keep | exact hcpW | exact ((show Below W.heap.size W w2 from ⟨bel2.os, bel2.tape, bel2.output, bel2.size, bel2.block⟩).cell (p := ⟨bp, op + q, none⟩) (by show bp < W.heap.size; omega)).trans hcpW | exact (((show Below W.heap.size W w2 from ⟨bel2.os, bel2.tape, bel2.output, bel2.size, bel2.block⟩).alloc (show W.heap.size ≤ w2.heap.size from bel2.size) _).cell (p := ⟨bp, op + q, none⟩) (by show bp < W.heap.size; omega)).trans hcpW | exact (BW3.cell (p := ⟨bp, op + q, none⟩) (by show bp < W.heap.size; omega)).trans hcpW)
              (first
                | (go_at_call 136; refine (l01Own_any ⟨br, orr, none⟩ p.length ck B p _ rfl (by omega) (by show B ≤ W.heap.size; omega) (by exact HPW.out)).mono ?_; rintro e w2 ⟨A2, c2, rfl, own2, bel2⟩)
                | (have B2 : Below W.heap.size W w2 := ⟨bel2.os, bel2.tape, bel2.output, bel2.size, bel2.block⟩; have OWN1 := World.ownsRow_lit (base := W.heap.size) (size := 1) (e := 24) w2 #[.slice A2 p.length c2] 1 B2.size (by simp [maxLen]) rfl; refine step_append_own (by rfl) _ _ 44 (by rfl) W.heap.size 24 j0 _ 1 24 Try.underlying44 hj hy0 hy1 hy2 rfl (by omega) (.slice (some ⟨w2.heap.size, 0, none⟩) 1 1) 1 [.slice A2 p.length c2] (by rfl) OWN1 ⟨b, o + q, none⟩ 0 (cap - q) (vs.drop q) (by rfl) HLEN1.out (HNW1.out w2 B2 _) HONE1.out (by simp only [maxLen]; omega) (by omega) (by have := B2.size; simp; omega) ?_; intro v3 w3 own3 hgrow3 _; obtain ⟨g3, c3, rfl⟩ := own_form own3 (by omega); have BW3 : Below W.heap.size W w3 := (B2.alloc B2.size _).grown hgrow3 (by have := B2.size; simp; omega) (fun z hz => (OWN1.lt z hz).1)))
            have e10 : 1 + 0 = 1 := rfl
            rw [e10] at own3
            have B2 : Below W.heap.size W w2 := ⟨bel2.os, bel2.tape, bel2.output, bel2.size, bel2.block⟩
            have HO2 : Hid (w2.ownsRow W.heap.size 2 1 (.slice A2 p.length c2) p.length (ints p)) := own2
            obtain ⟨hc2, hc2m⟩ := own_cap HO2.out
            have hW3 : W.heap.size ≤ w3.heap.size := BW3.size
            have HPV : Hid (Row w2 w2.heap.size A2 (ints p)) := row_of_own HO2.out
            have HB23 : Hid (Below w2.heap.size w2 w3) := ((Below.refl _ _).alloc (Nat.le_refl _) _).grown hgrow3 (by simp) (fun z hz => (World.ownsRow_lit (base := w2.heap.size) (size := 1) (e := 24) w2 #[.slice A2 p.length c2] 1 (Nat.le_refl _) (by simp [maxLen]) rfl).lt z hz |>.1)
            have HO3 := Lib.hid (OwnR.of own3)
            have OWN2 := Lib.hid (World.ownsRow_lit (base := w3.heap.size) (size := 1) (e := 24) w3 #[] 0 (Nat.le_refl _) (Nat.zero_le _) rfl)
            have HBW3 := Lib.hid BW3
            have HNEWS2 : Hid (∀ j u, (vs.take q)[j]? = some u → (w3.alloc (.cells #[] 24)).cell? ((⟨b, o, none⟩ : Addr).add j) = some u) := row_news ((((HROW.out.takeA q).below BW3 (Nat.le_refl _)).more hW3).alloc (Nat.le_refl _) _)
            have HONE3 : Hid (∀ u ∈ [Value.slice A2 p.length c2] ++ vs.drop q, u.oneCell' = true) := fun u hu => by
              rw [List.mem_append, List.mem_singleton] at hu
              rcases hu with rfl | hu
              · rfl
              · exact HVALS.out.one (v := u) u (List.mem_of_mem_drop hu)
            clear own2 bel2 B2 hgrow3 own3 BW3 hcpW
            go_wp2_with (first
              | (at_builtin; refine wpList_append_own _ rfl (.tmp 42) (.tmp 45) 44 rfl w3.heap.size 24 j0 _ 1 24 Try.underlying44 hj hy0 hy1 hy2 rfl (by omega) (.slice (some ⟨w3.heap.size, 0, none⟩) 0 0) 0 [] rfl OWN2.out ⟨b, o, none⟩ q cap (vs.take q) rfl HLEN2.out HNEWS2.out HONE2.out (by simp only [maxLen]; omega) (by omega) (by simp) ?_; intro v4 w4 own4 hgrow4 _; obtain ⟨A4, c4, rfl⟩ := own_shape' own4; rw [Nat.zero_add, List.nil_append] at own4; have BW4 : Below w3.heap.size w3 w4 := ((Below.refl _ _).alloc (Nat.le_refl _) _).grown hgrow4 (by simp) (fun z hz => (OWN2.out.lt z hz).1); have hW4 : w3.heap.size ≤ w4.heap.size := BW4.size; have HO4 := (HO3.out.below BW4 (Nat.le_refl _)).1)
              | (at_builtin; refine wpList_append_own _ rfl (.tmp 46) (.tmp 47) 44 rfl w3.heap.size 24 j0 _ 1 24 Try.underlying44 hj hy0 hy1 hy2 rfl (by omega) (.slice A4 q c4) q (vs.take q) rfl own4 ⟨g3, 0, none⟩ 1 c3 ([Value.slice A2 p.length c2] ++ vs.drop q) rfl (by rw [Nat.mul_one]; exact own_len HO4) (row_news (row_of_own HO4)) HONE3.out (by simp only [maxLen]; omega) (by omega) (by omega) ?_; intro v5 w5 own5 hgrow5 _; obtain ⟨g5, c5, rfl⟩ := own_form own5 (by omega)))
            have BW5 : Hid (Below w3.heap.size w3 w5) := BW4.grown hgrow5 hW4 (fun z hz => (own4.lt z hz).1)
            have GB : Hid (Below w.heap.size w w5) := ((HBW.out.trans (BW.out.mono hsz)).trans (HBW3.out.mono (by omega))).trans (BW5.out.mono (by omega))
            have GC : q + 1 ≤ c5 := (own_cap own5).1
            have GR : Hid (Rws w5 (some ⟨g5, 0, none⟩) (sortB L (q + 1))) := by
              refine ⟨_, row_of_own own5, ?_⟩
              have hv := Vals.put (k := q) (A := A2) (c := c2) (r := p) ((HVALS.out.next HBW3.out).next BW5.out) (by rw [HSL.out]; exact hq) hc2 hc2m (((HPV.out.below HB23.out (Nat.le_refl _)).below BW5.out (by have := HB23.out.size; omega)).more (by have := BW5.out.size; have := HB23.out.size; omega))
              rw [← HPUT.out] at hv
              exact hv
            clear own5 hgrow5 own4 hgrow4 BW4 HO4
            go_wp2
            go_roundw
            case rel => exact ⟨q + 1, c5, g5, 0, by omega, rfl, GC, by go_num, GR.out, GB.out⟩
            case measure => simp [intOf]; omega
    · obtain rfl : k = n := by omega
      have G : Hid (ResRws (Tr.sortL L) w (.returned (.slice (some ⟨b, o, none⟩) k cap)) wr) := by
        have e := sortB_end L
        rw [HL.out] at e
        have e2 : (Tr.sortL L).length = k := by rw [← e]; exact sortB_length L k (by rw [HL.out]; exact Nat.le_refl _)
        rw [e] at HR
        rw [Hid]
        unfold ResRws
        rw [e2]
        exact ⟨b, o, cap, rfl, hkc, HR, HB⟩
      clear HR HB
      go_wp2
      go_ret
      exact G.out
end Go.Proofs.Ytjmjdcfgbaepkaa
/-
  Symmetries, the program's and the model's.
-/
namespace Go.Proofs.Ytjmjdcfgbaepkaa
open Go.RowKit Fld
set_option linter.unusedVariables false
set_option linter.unusedSimpArgs false
set_option maxRecDepth 100000

theorem symK_step {f : List UInt8 → Int} {bs : List (List UInt8)} {k : Nat} {y : List UInt8} (h : bs[k]? = some y) :
    Tr.symK f bs (k + 1) = ((Tr.symK f bs k).1 * ((Tr.symK f bs (k + 1)).2 * f y), (Tr.symK f bs (k + 1)).2) := by
  have e : bs.getD k [] = y := by rw [List.getD_eq_getElem?_getD, h]; rfl
  rw [Tr.symK, e]
theorem symK_zero {f : List UInt8 → Int} {bs : List (List UInt8)} : (Tr.symK f bs 1).2 = 1 := by
  simp [Tr.symK]
theorem symK_same {f : List UInt8 → Int} {bs : List (List UInt8)} {k : Nat} {y z : List UInt8} (h : bs[k + 1]? = some y) (h' : bs[k]? = some z) : (Tr.symK f bs (k + 1 + 1)).2 = (if y = z then (Tr.symK f bs (k + 1)).2 else 0) + 1 := by
  have e : bs.getD (k + 1) [] = y := by rw [List.getD_eq_getElem?_getD, h]; rfl
  have e' : bs.getD k [] = z := by rw [List.getD_eq_getElem?_getD, h']; rfl
  rw [Tr.symK]
  simp only [Nat.add_sub_cancel, e, e']
  by_cases q : y = z <;> simp [q]
theorem str_eqS (y z : List UInt8) : ((⟨y.toArray⟩ : ByteArray).toList == (⟨z.toArray⟩ : ByteArray).toList) = decide (y = z) := by
  rw [ByteArray.toList_mk, ByteArray.toList_mk]
  by_cases q : y = z
  · simp [q]
  · simp [q]
def PSym (d : Nat) : Prop := ∀ (x : List UInt8) (w : World), x.length ≤ d → Tr.isTx x = true → Calls Try.prog 88 #[.string ⟨x.toArray⟩] w (Res1 (Tr.sy x) w)
set_option maxHeartbeats 2000000 in
theorem pSym_succ (d : Nat) (IH : PSym d) : PSym (d + 1) := by
  intro x w hxd hx
  obtain ⟨_, HB, h7⟩ := Tr.br_parts hx
  obtain ⟨hD, hK, hM⟩ := Tr.sy_parts hx
  have C1 := fun w => branches_any x w hx
  have HD := Lib.hid hD
  have HK := Lib.hid hK
  have HMU := Lib.hid hM
  have HBR := Lib.hid HB
  obtain ⟨P, hP⟩ : ∃ P, P = (Tr.brT x).length := ⟨_, rfl⟩
  have HP : Hid ((Tr.brT x).length = P) := hP.symm
  have hP7 : P ≤ 7 := by rw [hP]; exact h7
  have HXD := Lib.hid hxd
  obtain ⟨S, hS⟩ : ∃ S : ByteArray, S = ⟨x.toArray⟩ := ⟨_, rfl⟩
  rw [← hS] at C1 ⊢
  clear hD hK hM HB h7 hP hxd hx hS
  go_enter Try.func88, Try.ntmps88
  go_wp2_with fail
  refine (C1 _).mono ?_
  rintro e w1 ⟨A, q, c, rfl, hq, own1, bel1⟩
  have hqP : q = P := by rw [hq]; exact HP.out
  subst hqP
  have hs1 := bel1.size
  have HROW : Hid (Row w1 w1.heap.size A (strs (Tr.brT x))) := row_of_own own1
  have HB1 := Lib.hid bel1
  clear hq own1 bel1 C1
  go_wp2_with fail
  go_loopw [3, 4, 12] (fun v o i wr => ∃ (k : Nat) (a u : Int), k ≤ q ∧ v = .int .i64 a ∧ o = .int .i64 u ∧ i = .int .i64 k ∧ Hid (a = (Tr.symK Tr.sy (Tr.brT x) k).1) ∧ Hid (u = (Tr.symK Tr.sy (Tr.brT x) k).2) ∧ Below w1.heap.size w1 wr) (fun _ _ i _ => q - (intOf i).toNat)
  case atStart => exact ⟨0, 1, 0, Nat.zero_le _, rfl, rfl, rfl, rfl, rfl, Below.refl _ _⟩
  case round =>
    obtain ⟨k, a, u, hk, rfl, rfl, rfl, HA, HU, HBw⟩ := hrel
    have hsz := HBw.size
    by_cases hlt : k < q
    · obtain ⟨y, hy⟩ := at_lt (show k < (Tr.brT x).length by rw [HP.out]; exact hlt)
      obtain ⟨hyt, hyl⟩ := HBR.out y (List.mem_of_getElem? hy)
      obtain ⟨b, o, rfl, _, hc⟩ := (HROW.out.below HBw (Nat.le_refl _)) k _ (strs_at hy)
      have C2 := fun w => IH y w (by have := HXD.out; omega) hyt
      have hk0 := HK.out k (by rw [HP.out]; omega)
      have hk1 := HK.out (k + 1) (by rw [HP.out]; omega)
      have hm1 := HMU.out k (by rw [HP.out]; exact hlt)
      have ey : (Tr.brT x).getD k [] = y := by rw [List.getD_eq_getElem?_getD, hy]; rfl
      rw [ey] at hm1
      have hstep := symK_step (f := Tr.sy) hy
      obtain ⟨v, hv⟩ : ∃ v, v = (Tr.symK Tr.sy (Tr.brT x) (k + 1)).2 := ⟨_, rfl⟩
      rw [← hv] at hstep hm1
      obtain ⟨z, hz⟩ : ∃ z, z = Tr.sy y := ⟨_, rfl⟩
      rw [← hz] at hstep hm1 C2
      rw [← HA.out] at hstep hk0
      rw [hstep] at hk1
      have HST : Hid (a * (v * z) = (Tr.symK Tr.sy (Tr.brT x) (k + 1)).1) := by rw [Hid, hstep]
      have HSV : Hid (v = (Tr.symK Tr.sy (Tr.brT x) (k + 1)).2) := by rw [Hid, hstep]
      have hmw1 : IntKind.i64.wrap (v * z) = v * z := IntWalk.i64_in _ (by omega)
      have hmw2 : IntKind.i64.wrap (a * (v * z)) = a * (v * z) := IntWalk.i64_in _ (by have := hk1.1; simp only at this; omega)
      have hvb : 0 ≤ v ∧ v ≤ 8 := by have := hk1.2; simpa using this
      have hub := hk0.2
      rw [← HU.out] at hub
      obtain ⟨Y, hY⟩ : ∃ Y : ByteArray, Y = ⟨y.toArray⟩ := ⟨_, rfl⟩
      have HBW := Lib.hid HBw
      rcases Nat.eq_zero_or_pos k with rfl | hk1'
      · rw [Nat.add_zero] at hc
        have hu0 : u = 0 := by have := HU.out; simpa [Tr.symK] using this
        have hv1 : v = 1 := by rw [hv]; exact symK_zero
        subst hu0 hv1
        have hz1 : IntKind.i64.wrap z = z := by rw [Int.one_mul] at hmw1; exact hmw1
        have hz2 : IntKind.i64.wrap (a * z) = a * z := by rw [Int.one_mul] at hmw2; exact hmw2
        have HST1 : Hid (a * z = (Tr.symK Tr.sy (Tr.brT x) (0 + 1)).1) := by have := HST.out; rw [Int.one_mul] at this; exact this
        clear hmw1 hmw2 HST
        rw [← hY] at C2 hc
        clear hy hyt hyl hstep hz hY HBw hk0 hk1 hm1 ey hv HA HU hub hvb
        go_wp2_with fail
        refine (C2 _).mono ?_
        rintro e w2 ⟨rfl, bel2⟩
        have HB2 : Hid (Below w1.heap.size w1 w2) := HBW.out.trans (bel2.mono hsz)
        clear bel2
        go_wp2
        go_roundw
        case rel => exact ⟨1, _, _, by omega, rfl, rfl, by go_num, HST1.out, HSV.out, HB2.out⟩
        case measure => simp [intOf]; omega
      · obtain ⟨j, rfl⟩ : ∃ j, k = j + 1 := ⟨k - 1, by omega⟩
        obtain ⟨p, hp⟩ := at_lt (show j < (Tr.brT x).length by rw [HP.out]; omega)
        obtain ⟨_, _, e1, _, hcp⟩ := (HROW.out.below HBw (Nat.le_refl _)) j _ (strs_at hp)
        cases e1
        have hsame := symK_same (f := Tr.sy) hy hp
        rw [← hv, ← HU.out] at hsame
        have hstr := str_eqS y p
        obtain ⟨Y', hY'⟩ : ∃ Y' : ByteArray, Y' = ⟨p.toArray⟩ := ⟨_, rfl⟩
        rw [← hY, ← hY'] at hstr
        rw [← hY] at C2 hc
        rw [← hY'] at hcp
        have ek : (((j + 1 : Nat)) : Int) = (j : Int) + 1 := by omega
        have hwj : IntKind.i64.wrap (j : Int) = (j : Int) := IntWalk.i64_in _ (by omega)
        by_cases hyp : y = p
        · rw [if_pos hyp] at hsame
          have ht : (Y.toList == Y'.toList) = true := by rw [hstr]; exact decide_eq_true hyp
          have hwu : IntKind.i64.wrap (u + 1) = v := by rw [hsame]; exact IntWalk.i64_in _ (by omega)
          rw [ek]
          clear hy hp hyt hyl hstep hz hY hY' HBw hk0 hk1 hm1 ey hv HA HU hsame hstr hyp ek
          go_wp2_with fail
          refine (C2 _).mono ?_
          rintro e w2 ⟨rfl, bel2⟩
          have HB2 : Hid (Below w1.heap.size w1 w2) := HBW.out.trans (bel2.mono hsz)
          clear bel2
          go_wp2
          go_roundw
          case rel => exact ⟨j + 1 + 1, _, _, by omega, rfl, rfl, by go_num, HST.out, HSV.out, HB2.out⟩
          case measure => simp [intOf]; omega
        · rw [if_neg hyp] at hsame
          have ht : (Y.toList == Y'.toList) = false := by rw [hstr]; exact decide_eq_false hyp
          have hv1 : v = 1 := by omega
          subst hv1
          have hz1 : IntKind.i64.wrap z = z := by rw [Int.one_mul] at hmw1; exact hmw1
          have hz2 : IntKind.i64.wrap (a * z) = a * z := by rw [Int.one_mul] at hmw2; exact hmw2
          have HST1 : Hid (a * z = (Tr.symK Tr.sy (Tr.brT x) (j + 1 + 1)).1) := by have := HST.out; rw [Int.one_mul] at this; exact this
          clear hmw1 hmw2 HST
          rw [ek]
          clear hy hp hyt hyl hstep hz hY hY' HBw hk0 hk1 hm1 ey hv HA HU hsame hstr hyp ek hub hvb
          go_wp2_with fail
          refine (C2 _).mono ?_
          rintro e w2 ⟨rfl, bel2⟩
          have HB2 : Hid (Below w1.heap.size w1 w2) := HBW.out.trans (bel2.mono hsz)
          clear bel2
          go_wp2
          go_roundw
          case rel => exact ⟨j + 1 + 1, _, _, by omega, rfl, rfl, by go_num, HST1.out, HSV.out, HB2.out⟩
          case measure => simp [intOf]; omega
    · obtain rfl : k = q := by omega
      have G : Hid (Res1 (Tr.sy x) w (.returned (.int .i64 a)) wr) :=
        Res1.of (by rw [HD.out, HP.out, HA.out]) (HB1.out.trans (HBw.mono hs1))
      clear HBw
      go_wp2
      go_ret
      exact G.out
theorem symmetry_any (x : List UInt8) (w : World) (hx : Tr.isTx x = true) : Calls Try.prog 88 #[.string ⟨x.toArray⟩] w (Res1 (Tr.sy x) w) := by
  have key : ∀ d, PSym d := fun d => by
    induction d with
    | zero => intro y w hy ht; have := (Tr.br_parts ht).1.1; omega
    | succ d ih => exact pSym_succ d ih
  exact key x.length x w (Nat.le_refl _) hx
end Go.Proofs.Ytjmjdcfgbaepkaa
/-
  The model's branches and symmetries; what SymmetryOf answers.
-/
namespace Go.Proofs.Ytjmjdcfgbaepkaa
open Go.RowKit Fld
set_option linter.unusedVariables false
set_option linter.unusedSimpArgs false
set_option maxRecDepth 100000

def symmetryA (t : List Int) : Int × Int := if Tr.isLv t = true then (Tr.syM t, 0) else (0, 1)
theorem symmetryA_yes {t : List Int} (h : Tr.isLv t = true) : symmetryA t = (Tr.syM t, 0) := if_pos h
theorem symmetryA_no {t : List Int} (h : Tr.isLv t = false) : symmetryA t = (0, 1) := if_neg (by rw [h]; simp)
theorem pSymmetryOf_L (A : Option Addr) (n c B : Nat) (t : List Int) (w : World) (hl : t.length = n) (hn : n ≤ 1048576) (hB : B ≤ w.heap.size) (h : Row w B A (ints t)) (hc : n ≤ c) :
    Calls Try.prog 37 #[.slice A n c] w (ResI (symmetryA t) w) := by
  have C0 := isLevels_any A n c B t w hl (by omega) h
  cases hlv : Tr.isLv t
  · have G := Lib.hid (symmetryA_no hlv)
    rw [hlv] at C0
    go_enter Try.func37, Try.ntmps37
    go_wp2_with fail
    refine C0.mono ?_
    rintro e w' ⟨rfl, m, rfl⟩
    go_wp2
    go_ret2
    exact ResI.of' G.out (below_drewN (Below.refl _ _) _)
  · rw [hlv] at C0
    obtain ⟨b1, b8⟩ := lv_bd hlv
    rw [hl] at b1 b8
    have HL := Lib.hid hl
    have G := Lib.hid (symmetryA_yes hlv)
    have C3 := fun w => symmetry_any (Tr.txt t) w (Tr.tx_txt hlv)
    rw [(Tr.syM_parts hlv).2.1] at C3
    clear hl hlv
    go_enter Try.func37, Try.ntmps37
    go_wp2_with fail
    refine C0.mono ?_
    rintro e w' ⟨rfl, m, rfl⟩
    go_wp2_with fail
    refine (treeOf_any A n c B t _ HL.out b1 b8 hc (by exact hB) (h.drewN m)).mono ?_
    rintro e w2 ⟨rfl, bel2⟩
    go_wp2_with fail
    refine (C3 _).mono ?_
    rintro e w3 ⟨rfl, bel3⟩
    have GB : Hid (Below w.heap.size w w3) := (below_undrew' bel2).trans (bel3.mono bel2.size)
    clear bel2 bel3
    go_wp2
    go_ret2
    exact ResI.of' G.out GB.out
end Go.Proofs.Ytjmjdcfgbaepkaa
/-
  For the law FnGraftCounts: what its calls answer at two trees.
-/
namespace Go.Proofs.Ytjmjdcfgbaepkaa
open Go.RowKit Fld
set_option linter.unusedVariables false
set_option linter.unusedSimpArgs false
set_option maxRecDepth 100000

/-- what the calls of the law answer -/
theorem gc_facts {u v : List Int} (h : Tr.isLv u = true) (h' : Tr.isLv v = true) (h8 : u.length + v.length ≤ 8) :
    ∃ (p : List Int), gsumA u v = (gsumL u v, 0) ∧ symmetryA u = (Tr.syM u, 0) ∧ symmetryA v = (Tr.syM v, 0) ∧ butcherA u v = (p, 0) ∧ p.length ≤ 8 ∧
      (gsumL u v).length ≤ 8 ∧ ((gsumL u v).map (·.2)).sum = (u.length : Int) ∧ 0 < tmsTo (gsumL u v) p (gsumL u v).length ∧ (0 ≤ Tr.syM u ∧ Tr.syM u ≤ 1000000000) ∧ (0 ≤ Tr.syM v ∧ Tr.syM v ≤ 1000000000) ∧
      ∀ q ∈ gsumL u v, ((0 ≤ q.2 ∧ q.2 ≤ 1048576) ∧ q.1.length ≤ 1048576) ∧ (1 ≤ q.2 ∧ q.2 ≤ 8) ∧ q.1.length ≤ 8 ∧ ∃ c s : Int, cntA q.1 u v = (c, 0) ∧ symmetryA q.1 = (s, 0) ∧ (0 ≤ s ∧ s ≤ 1000000000) ∧ (0 ≤ c * Tr.syM u ∧ c * Tr.syM u ≤ 1000000000) ∧
        (0 ≤ c * Tr.syM u * Tr.syM v ∧ c * Tr.syM u * Tr.syM v ≤ 1000000000) ∧ q.2 * s = c * Tr.syM u * Tr.syM v := by
  have hu := (Tr.isLv_iff.1 h).1
  obtain ⟨b1, b2, b3⟩ := Tr.gc_parts h h' h8
  have hp : ∀ q ∈ gsumL u v, (1 ≤ q.2 ∧ q.2 ≤ 8) ∧ Tr.isLv q.1 = true ∧ q.1.length ≤ 8 := fun q hq => by
    have p1 := Tr.sumTo_pos _ _ q hq
    have p2 := Tr.sumTo_le _ _ hq
    obtain ⟨k, hk, e⟩ := Tr.sumTo_mem hq
    obtain ⟨r1, _, r3, _⟩ := gAt_lv h h' h8 hk
    exact ⟨by omega, by rw [e]; exact r1, by rw [e, r3]; exact h8⟩
  have hpos : ∀ q ∈ gsumL u v, 0 ≤ q.2 ∧ q.2 ≤ 1048576 := fun q hq => by have := (hp q hq).1; omega
  obtain ⟨q1, q2, q3⟩ := graft_parts h h' (k := 0) (by omega) h8
  refine ⟨gAt u v 0, gsumA_yes h h' h8, symmetryA_yes h, symmetryA_yes h', ?_, ?_, ?_, sumTo_sum _ _, ?_, b1, b2, ?_⟩
  · show graftAtA u ((0 : Nat) : Int) v = _
    rw [graftA_yes h h' (by omega) h8, ← butcher_eq h h' h8]
    rfl
  · rw [(gAt_lv h h' h8 (k := 0) (by omega)).2.2.1]; exact h8
  · have := Tr.sumTo_length (gAt u v) u.length
    unfold gsumL; omega
  · obtain ⟨⟨t, x⟩, he, e⟩ := Tr.sumTo_has (gAt u v) (n := u.length) (k := 0) (by omega)
    have e' : t = gAt u v 0 := e
    subst e'
    obtain ⟨r, hr⟩ := List.getElem?_of_mem he
    exact tms_pos hpos hr (Tr.sumTo_pos _ _ _ he) _ (List.getElem?_eq_some_iff.1 hr).1
  · intro q hq
    obtain ⟨a1, a2, a3⟩ := hp q hq
    obtain ⟨c1, c2, c3, c4⟩ := b3 q hq
    exact ⟨⟨hpos q hq, by omega⟩, a1, a3, _, _, cntA_yes a2 h h', symmetryA_yes a2, c2, c3, c4, c1⟩
theorem symmetry9_any (A : Option Addr) (n c : Nat) (t : List Int) (s : Int) (w : World) (hl : t.length = n) (hn : n ≤ 1048576) (h : Lst w A t) (hc : n ≤ c) (hs : symmetryA t = (s, 0)) :
    Calls Try.prog 13 #[.slice A n c] w fun e w' => e = .returned (.int .i64 s) ∧ Below w.heap.size w w' := by
  have HS := Lib.hid hs
  have HL := Lib.hid hl
  clear hs hl
  go_enter Try.func13, Try.ntmps13
  go_wp2_with fail
  refine (pSymmetryOf_L A n c _ t w HL.out hn (Nat.le_refl _) h hc).mono ?_
  rintro e w1 hN
  obtain ⟨rfl, y⟩ := resI_out hN HS.out
  have Y := Lib.hid y
  clear hN y
  go_wp2
  go_ret
  exact ⟨rfl, Y.out⟩
end Go.Proofs.Ytjmjdcfgbaepkaa
