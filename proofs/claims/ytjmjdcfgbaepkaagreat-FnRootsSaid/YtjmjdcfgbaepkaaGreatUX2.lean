/-
  Texts of this seat, joined: what several laws lean on.
-/
import Derived.Test.YtjmjdcfgbaepkaaGreatUX1
import Derived.Test.YtjmjdcfgbaepkaaGreatIter
import Derived.CallsIn
import Derived.Test.YtjmjdcfgbaepkaaGreatGrow
import Derived.Laws.AppendOwnNone
import Derived.Test.YtjmjdcfgbaepkaaGreatSCan
import Derived.Test.YtjmjdcfgbaepkaaGreatLvl
import Derived.Test.YtjmjdcfgbaepkaaGreatCan
import Derived.Test.YtjmjdcfgbaepkaaGreatTreeE
import Derived.Test.YtjmjdcfgbaepkaaGreatRoQ
import Derived.Test.YtjmjdcfgbaepkaaGreatRoR
import Derived.Test.YtjmjdcfgbaepkaaGreatGrfP
import Derived.Test.YtjmjdcfgbaepkaaGreatParts
import Derived.Deep.RegionLaw
import Derived.Test.YtjmjdcfgbaepkaaGreatCutP
import Derived.Deep.RegionHeld3
import Derived.Test.YtjmjdcfgbaepkaaGreatTurnP
import Derived.BigQuiet
import Derived.Test.YtjmjdcfgbaepkaaGreatLev
import Derived.Test.YtjmjdcfgbaepkaaGreatGrfS
import Derived.Test.YtjmjdcfgbaepkaaGreatTreeOf
import Derived.Test.YtjmjdcfgbaepkaaGreatRes1
import Derived.Test.YtjmjdcfgbaepkaaGreatSame
import Derived.Test.YtjmjdcfgbaepkaaGreatSupP
import Derived.Test.YtjmjdcfgbaepkaaGreatTreeN
import Derived.Test.YtjmjdcfgbaepkaaGreatNestc
import Derived.Test.YtjmjdcfgbaepkaaGreatMark1
import Derived.Test.YtjmjdcfgbaepkaaGreatPush
import Derived.Lib.SliceRun
import Derived.Test.YtjmjdcfgbaepkaaGreatGrfQ
/-
  The keys of a map of the program, collected and sorted.
-/
namespace Go.Proofs.YtjmjdcfgbaepkaaGreat
open Go.RowKit Fld Go.Maps Go.Sort Go.Shelf
set_option linter.unusedVariables false
set_option linter.unusedSimpArgs false
set_option maxRecDepth 100000

/-- the texts that a map holds, each once, in some order -/
def KeysF (f : List UInt8 → Int) (n : Nat) (ss : List (List UInt8)) : Prop := ss.Nodup ∧ (∀ x, x ∈ ss ↔ f x ≠ 0) ∧ ss.length ≤ n
theorem own_slice {w : World} {base k n : Nat} {T : TypeId} {v : Value} {vs : List Value} (h : w.ownsRow base T k v n vs) : ∃ A c, v = .slice A n c := by
  rcases h.2 with ⟨h1, h2⟩ | ⟨g, cap, cur, hv, _⟩
  · exact ⟨none, 0, by rw [h1, h2]⟩
  · exact ⟨_, cap, hv⟩
theorem keysF_of {w : World} {b n : Nat} {D : DataW Unit} {f : List UInt8 → Int} {ss : List (List UInt8)} (h : w.ownsMap Tryz.prog 45 (plainElem Tryz.prog 2) b n D) (hD : HoldsF D f) (hp : ss.Perm (strKeys D)) : KeysF f n ss := by
  obtain ⟨es, e1, hpw, _⟩ := h.entries keyed
  obtain ⟨es', e2, hko⟩ := h.keysOf
  have hsz := h.size_le
  obtain rfl : es = es' := by rw [e1] at e2; simpa using e2
  subst e1
  have hk : ∀ p ∈ es, ∃ x, p.1 = .string x := fun p hp => by
    obtain ⟨v, hv⟩ := hko p hp
    obtain ⟨x, _, hx, _⟩ := Maps.keyOf_str Tryz.underlying45 hv
    exact ⟨x, hx⟩
  have hnd : (es.map fun p => strOf p.1).Nodup := by
    refine List.pairwise_map.2 (hpw.imp_of_mem fun {p q} hp' hq' hne e => hne ?_)
    obtain ⟨a, ha⟩ := hk p hp'
    obtain ⟨b, hb⟩ := hk q hq'
    rw [ha, hb] at e ⊢
    exact congrArg _ e
  have hmem : ∀ x, x ∈ strKeys (DataW.map es) ↔ Maps.has (DataW.map es) (.string x) = true := fun x => by
    rw [has_eq, List.any_eq_true]
    show (x ∈ es.map fun p => strOf p.1) ↔ _
    rw [List.mem_map]
    constructor
    · rintro ⟨p, hp', rfl⟩
      obtain ⟨a, ha⟩ := hk p hp'
      exact ⟨p, hp', by rw [ha]; simp [Lit.sameKey, strOf]⟩
    · rintro ⟨p, hp', hs⟩
      obtain ⟨a, ha⟩ := hk p hp'
      rw [ha] at hs
      exact ⟨p, hp', by rw [ha]; simpa [Lit.sameKey, strOf] using hs⟩
  refine ⟨hp.nodup_iff.2 hnd, fun x => ?_, ?_⟩
  · rw [hp.mem_iff, hmem, hD.2, decide_eq_true_iff]
  · rw [hp.length_eq]
    show (es.map _).length ≤ n
    rw [List.length_map]; exact hsz
theorem keys_any (b : Nat) (w : World) : Calls Tryz.prog 48 #[.map (some b)] w fun e w' => e = .returned (.func (.func 63) #[] #[.pointer (some ⟨w.heap.size, 0, none⟩)]) ∧ w' = w.alloc (.cells #[.map (some b)] 53) :=
  callsIn_wide.1 (AnyZ.keys_in Tryz.keysL Fence.wide 5 trivial rfl (some b) w)
set_option maxHeartbeats 1000000 in
theorem collect_any (b n : Nat) (f : List UInt8 → Int) (w : World) (h : MapF w b n f) (hn : n ≤ 1000000) :
    Calls Tryz.prog 61 #[.func (.func 63) #[] #[.pointer (some ⟨w.heap.size, 0, none⟩)]] (w.alloc (.cells #[.map (some b)] 53)) fun e w' =>
      ∃ A c ss, e = .returned (.slice A ss.length c) ∧ KeysF f n ss ∧ w'.ownsRow (w.heap.size + 1) 45 1 (.slice A ss.length c) ss.length (strs ss) ∧ Below (w.heap.size + 1) (w.alloc (.cells #[.map (some b)] 53)) w' := by
  obtain ⟨D, hown, hD⟩ := h
  have hsz := hown.size_le
  have hbl := hown.lt
  have hseq : SeqGives Fence.wide 2 Tryz.prog 63 #[.pointer (some ⟨w.heap.size, 0, none⟩)] encStr (fun ss => ss.Perm (strKeys D)) (Maps.size D) (w.alloc (.cells #[.map (some b)] 53)) :=
    AnyZ.keys_gives (ρ := Tryz.keysL_ren) { Tryz.keysL with } Fence.wide _ trivial rfl (by omega) w.heap.size b n D _ (by simp) (by simp) (by
      obtain ⟨es, clock, hb, Ft, hs, hD⟩ := hown
      exact ⟨es, clock, (Below.heap_alloc _ _ b hbl).trans hb, Ft, hs, hD⟩)
  refine (callsIn_wide.1 (AnyZ.collect_in Tryz.collectL Fence.wide 4 trivial trivial rfl (by omega) 63 #[.pointer (some ⟨w.heap.size, 0, none⟩)] trivial (enters_of Tryz.func63 (by kernel_rfl) rfl) _ _ (by unfold maxLen; omega) (by omega) _ hseq)).mono ?_
  rintro e w' ⟨v, ss, rfl, hp, hrow, _, hb⟩
  obtain ⟨A, c, rfl⟩ := own_slice hrow
  have e1 : (w.alloc (.cells #[.map (some b)] 53)).heap.size = w.heap.size + 1 := by simp
  rw [e1] at hrow hb
  exact ⟨A, c, ss, rfl, keysF_of hown hD hp, hrow, hb⟩
theorem sortedFunc_any (b n : Nat) (f : List UInt8 → Int) (w : World) (h : MapF w b n f) (hn : n ≤ 12) (hf : ∀ x, f x ≠ 0 → x.length ≤ 16) :
    Calls Tryz.prog 47 #[.func (.func 63) #[] #[.pointer (some ⟨w.heap.size, 0, none⟩)], .func (.func 49) #[] #[]] (w.alloc (.cells #[.map (some b)] 53)) fun e w' =>
      ∃ A c ss, e = .returned (.slice A ss.length c) ∧ KeysF f n ss ∧ w'.ownsRow (w.heap.size + 1) 45 1 (.slice A ss.length c) ss.length (strs (Tr.sortT ss)) ∧ Below (w.heap.size + 1) (w.alloc (.cells #[.map (some b)] 53)) w' := by
  have C0 := collect_any b n f w h (by omega)
  have hs : (w.alloc (.cells #[.map (some b)] 53)).heap.size = w.heap.size + 1 := by simp
  generalize (w.alloc (.cells #[.map (some b)] 53)) = W at *
  go_enter Tryz.func47, Tryz.ntmps47
  go_wp2_with fail
  refine C0.mono ?_
  rintro e w1 ⟨A, c, ss, rfl, hK, own1, bel1⟩
  have hs1 : w.heap.size + 1 ≤ w1.heap.size := by have := bel1.size; omega
  have hl : ss.length ≤ 12 := by have := hK.2.2; omega
  have C1 := sortFunc_any A (w.heap.size + 1) ss.length c ss w1 hl (fun s hs => hf s ((hK.2.1 s).1 hs)) hs1 own1
  obtain ⟨q, hq⟩ : ∃ q, q = ss.length := ⟨_, rfl⟩
  have HQ := Lib.hid hq
  have HK := Lib.hid hK
  have HB := Lib.hid bel1
  rw [← hq] at C1 ⊢
  clear C0 own1 bel1 hK hl hq hs hs1
  go_wp2_with fail
  refine C1.mono ?_
  rintro e w2 ⟨rfl, own2, bel2, _⟩
  have HO := Lib.hid own2
  have HB2 := Lib.hid (HB.out.trans bel2)
  clear own2 bel2
  go_wp2
  go_ret
  exact ⟨A, c, ss, by rw [← HQ.out]; rfl, HK.out, by rw [← HQ.out]; exact HO.out, HB2.out⟩
end Go.Proofs.YtjmjdcfgbaepkaaGreat
/-
  The list of a sum that the program keeps is the model's sum.
-/
namespace Go.Proofs.YtjmjdcfgbaepkaaGreat
open Go.RowKit Fld
set_option linter.unusedVariables false
set_option linter.unusedSimpArgs false
set_option maxRecDepth 100000

/-- the list of a sum: its texts in order with their numbers -/
def listF (f : List UInt8 → Int) (ss : List (List UInt8)) : List (List Int × Int) := ss.map fun s => (Tr.lvl s, f s)
theorem tr_txt {t : List Int} (h : isTr t = true) : Tr.lvl (Tr.txt t) = t := by
  obtain ⟨h1, h2⟩ := tr_lv h
  rw [(lv_txt h1).1, h2]
theorem cntTo_count (L : List (List Int)) (s : List Int) : ∀ k, k ≤ L.length → Tr.cntTo (fun k => L.getD k []) s k = ((L.take k).count s : Int)
  | 0, _ => by simp [Tr.cntTo]
  | k+1, h => by
    have hk : k < L.length := by omega
    rw [Tr.cntTo, cntTo_count L s k (by omega), List.take_add_one, List.getElem?_eq_getElem hk, Option.toList_some, List.count_append, List.count_singleton, List.getD_eq_getElem?_getD, List.getElem?_eq_getElem hk]
    simp only [Option.getD_some]
    by_cases e : s = L[k]
    · rw [if_pos e, if_pos (by rw [e]; simp)]; simp
    · rw [if_neg e, if_neg (by simpa using fun q => e q.symm)]; simp
theorem count_txt {L : List (List Int)} {s : List Int} (hL : ∀ t ∈ L, isTr t = true) (hs : isTr s = true) : (L.map Tr.txt).count (Tr.txt s) = L.count s := by
  induction L with
  | nil => rfl
  | cons t r ih =>
    rw [List.map_cons, List.count_cons, List.count_cons, ih (fun t ht => hL t (by simp [ht]))]
    congr 1
    by_cases e : t = s
    · rw [e]; simp
    · have : Tr.txt t ≠ Tr.txt s := fun q => e (by rw [← tr_txt (hL t (by simp)), ← tr_txt hs, q])
      simp [e, this]
theorem look_listF_no {f : List UInt8 → Int} {s : List Int} : ∀ {l : List (List UInt8)}, (∀ y ∈ l, Tr.lvl y ≠ s) → Tr.look s (listF f l) = 0
  | [], _ => rfl
  | y :: r, h => by
    show (if Tr.lvl y = s then f y else 0) + Tr.look s (listF f r) = 0
    rw [if_neg (h y (by simp)), look_listF_no (l := r) (fun z hz => h z (by simp [hz]))]; rfl
theorem look_listF {f : List UInt8 → Int} {x : List UInt8} : ∀ {l : List (List UInt8)}, l.Nodup → (∀ y ∈ l, Tr.lvl y = Tr.lvl x → y = x) → x ∈ l → Tr.look (Tr.lvl x) (listF f l) = f x
  | [], _, _, h => by cases h
  | y :: r, hn, hi, h => by
    rw [List.nodup_cons] at hn
    show (if Tr.lvl y = Tr.lvl x then f y else 0) + Tr.look (Tr.lvl x) (listF f r) = f x
    by_cases e : y = x
    · subst e
      rw [if_pos rfl, look_listF_no (l := r) (fun z hz q => hn.1 (by rw [← hi z (by simp [hz]) q]; exact hz))]; omega
    · rw [if_neg (fun q => e (hi y (by simp) q))]
      rw [List.mem_cons] at h
      rcases h with h | h
      · exact absurd h.symm e
      · rw [look_listF hn.2 (fun z hz => hi z (by simp [hz])) h]; omega
theorem sum_list {L : List (List Int)} {R ss : List (List UInt8)} {f : List UInt8 → Int} {n : Nat} (hL : ∀ t ∈ L, isTr t = true) (hp : R.Perm (L.map Tr.txt)) (hf : ∀ y, f y = (R.count y : Int)) (hK : KeysF f n ss) :
    listF f (Tr.sortT ss) = Tr.sumTo (fun k => L.getD k []) L.length := by
  have hmem : ∀ y ∈ Tr.sortT ss, ∃ t ∈ L, y = Tr.txt t := fun y hy => by
    have h1 := (hK.2.1 y).1 ((sortT_perm ss).mem_iff.1 hy)
    rw [hf y] at h1
    have h2 : 0 < R.count y := by omega
    have h3 := hp.mem_iff.1 (List.count_pos_iff.1 h2)
    rw [List.mem_map] at h3
    obtain ⟨t, q1, q2⟩ := h3
    exact ⟨t, q1, q2.symm⟩
  have hnd : (Tr.sortT ss).Nodup := (sortT_perm ss).nodup_iff.2 hK.1
  refine Tr.sums_eq ?_ (Tr.sumTo_order _ _) (fun e he => ?_) (fun e he => by have := Tr.sumTo_pos _ _ e he; omega) (fun s => ?_)
  · have h1 := (sortT_sorted ss).and hnd
    refine List.pairwise_map.2 (h1.imp_of_mem fun {a b} ha hb hab => ?_)
    obtain ⟨ta, q1, q2⟩ := hmem a ha
    obtain ⟨tb, r1, r2⟩ := hmem b hb
    show Tr.beforeL (Tr.lvl a) (Tr.lvl b) = true
    obtain ⟨h2, h3⟩ := hab
    rw [q2, r2] at h2 h3
    rw [q2, r2, tr_txt (hL ta q1), tr_txt (hL tb r1)]
    rw [leT_txt (hL ta q1) (hL tb r1)] at h2
    rcases Tr.bf_cn (x := ta) (y := tb) (fun q => h3 (by rw [q])) with b | b
    · exact b
    · rw [b] at h2; cases h2
  · unfold listF at he
    rw [List.mem_map] at he
    obtain ⟨y, hy, q⟩ := he
    rw [← q]
    exact (hK.2.1 y).1 ((sortT_perm ss).mem_iff.1 hy)
  · rw [Tr.look_sumTo, cntTo_count L s _ (Nat.le_refl _), List.take_length]
    by_cases hs : s ∈ L
    · have hst := hL s hs
      have hc := count_txt hL hst
      have hin : Tr.txt s ∈ Tr.sortT ss := by
        rw [(sortT_perm ss).mem_iff, hK.2.1, hf, hp.count_eq, hc]
        have := List.count_pos_iff.2 hs
        omega
      have h9 := look_listF (f := f) (x := Tr.txt s) hnd (fun y hy q => by
        obtain ⟨t, q1, q2⟩ := hmem y hy
        rw [q2] at q ⊢
        rw [tr_txt (hL t q1), tr_txt hst] at q
        rw [q]) hin
      rw [tr_txt hst] at h9
      rw [h9, hf, hp.count_eq, hc]
    · rw [List.count_eq_zero_of_not_mem hs, look_listF_no (fun y hy q => by
        obtain ⟨t, q1, q2⟩ := hmem y hy
        rw [q2, tr_txt (hL t q1)] at q
        exact hs (by rw [← q]; exact q1))]
      rfl
end Go.Proofs.YtjmjdcfgbaepkaaGreat
/-
  The model's copy of a list.
-/
namespace Go.Proofs.YtjmjdcfgbaepkaaGreat
open Go.RowKit Fld
set_option linter.unusedVariables false
set_option linter.unusedSimpArgs false
set_option maxRecDepth 100000

theorem Row.news {w : World} {B : Nat} {ad : Addr} {vs : List Value} (h : Row w B (some ad) vs) : ∀ j u, vs[j]? = some u → w.cell? (ad.add j) = some u := by
  intro j u hu
  obtain ⟨b, o, e, _, hc⟩ := h j u hu
  cases e
  have : (⟨b, o, none⟩ : Addr).add j = ⟨b, o + j, none⟩ := by unfold Addr.add; split <;> simp_all
  rw [this]; exact hc
theorem NewRow.own {w w' : World} {T : TypeId} {v : Value} {n : Nat} {vs : List Value} (h : w'.ownsRow w.heap.size T 1 v n vs) (hb : Below w.heap.size w w') : NewRow T n vs w (.returned v) w' := by
  rcases h.2 with ⟨rfl, rfl⟩ | ⟨g, cap, cur, rfl, _⟩
  · exact ⟨_, _, rfl, h, hb⟩
  · exact ⟨_, _, rfl, h, hb⟩
theorem l01Own_any (ad : Addr) (n c B : Nat) (xs : List Int) (w : World) (hl : xs.length = n) (hn : n ≤ 1048576) (hB : B ≤ w.heap.size) (h : Row w B (some ad) (ints xs)) :
    Calls Tryz.prog 43 #[.slice (some ad) n c] w (NewRow 2 n (ints xs) w) := by
  obtain ⟨i0, hi, hz0, hz1, hz2⟩ := info_parts info_i64
  have hnews := (h.alloc hB (.cells #[] 2)).news
  have hlen : (ints xs).length = n * 1 := by rw [ints_length, hl, Nat.mul_one]
  have h1 := ints_cells xs
  have hown0 := (Growing.start w 2).1
  have hbel0 := (Growing.start w 2).2
  go_enter Tryz.func43, Tryz.ntmps43
  go_wp2_with (at_builtin; refine wpList_append_own _ rfl (.tmp 3) (.tmp 4) 24 rfl w.heap.size 2 i0 _ 1 8 Tryz.underlying24 hi hz0 hz1 hz2 rfl (by omega) (.slice (some ⟨w.heap.size, 0, none⟩) 0 0) 0 [] rfl hown0 ad n c (ints xs) rfl hlen hnews h1 (by simp only [maxLen]; omega) (by omega) (by simp) ?_; intro v' w' hown hgrow _)
  go_ret
  rw [Nat.zero_add] at hown
  exact NewRow.own hown (hbel0.grown hgrow (by simp) (fun k hk => (hown0.lt k hk).1))
end Go.Proofs.YtjmjdcfgbaepkaaGreat
/-
  Lists of trees with their numbers in memory.
-/
namespace Go.Proofs.YtjmjdcfgbaepkaaGreat
open Go.RowKit Fld
set_option linter.unusedVariables false
set_option linter.unusedSimpArgs false
set_option maxRecDepth 100000

theorem info_cnt : (Tryz.prog.info? 37).map (fun i => (i.zero, i.size, i.bytes)) = some (some (.agg #[.slice none 0 0, .int .i64 0]), 2, 32) := by kernel_rfl
/-- a row in a block of numbers -/
def TRow (w : World) (B : Nat) (A : Option Addr) (vs : List Value) : Prop :=
  ∀ k v, vs[k]? = some v → ∃ b o cur fr, A = some ⟨b, o, none⟩ ∧ b < B ∧ w.cell? ⟨b, o + k, none⟩ = some v ∧ w.heap[b]? = some (.cells cur 2 fr)
theorem TRow.row {w : World} {B : Nat} {A : Option Addr} {vs : List Value} (h : TRow w B A vs) : Row w B A vs := fun k v hv => by
  obtain ⟨b, o, _, _, e, hb, hc, _⟩ := h k v hv
  exact ⟨b, o, e, hb, hc⟩
theorem TRow.keep {w w' : World} {B : Nat} {A : Option Addr} {vs : List Value} (h : TRow w B A vs) (hk : ∀ b, b < B → (∃ cur fr, w.heap[b]? = some (.cells cur 2 fr)) → w'.heap[b]? = w.heap[b]?) : TRow w' B A vs := fun k v hv => by
  obtain ⟨b, o, cur, fr, e, hb, hc, ht⟩ := h k v hv
  have := hk b hb ⟨cur, fr, ht⟩
  exact ⟨b, o, cur, fr, e, hb, (World.cell?_of_block this).trans hc, this.trans ht⟩
theorem TRow.below {w w' : World} {B B' : Nat} {A : Option Addr} {vs : List Value} (h : TRow w B A vs) (hb : Below B' w w') (hB : B ≤ B') : TRow w' B A vs := h.keep fun b hlt _ => hb.block b (by omega)
theorem TRow.more {w : World} {B B' : Nat} {A : Option Addr} {vs : List Value} (h : TRow w B A vs) (hB : B ≤ B') : TRow w B' A vs := fun k v hv => by
  obtain ⟨b, o, cur, fr, e, hb, hc, ht⟩ := h k v hv
  exact ⟨b, o, cur, fr, e, by omega, hc, ht⟩
theorem TRow.own {w : World} {base : Nat} {A : Option Addr} {n c : Nat} {vs : List Value} (h : w.ownsRow base 2 1 (.slice A n c) n vs) : TRow w w.heap.size A vs := fun k v hv => by
  obtain ⟨b, o, e, hb, hc⟩ := row_of_own h k v hv
  rcases h.2 with ⟨h1, _⟩ | ⟨g, cap, cur, h1, _, hg, _⟩
  · injection h1 with e1; rw [e1] at e; cases e
  · injection h1 with e1; rw [e1] at e; cases e
    exact ⟨_, _, cur, (0, 0), e1, hb, hc, hg⟩
abbrev Sum := List (List Int × Int)
/-- values that are trees with their numbers, two cells each -/
def Cnts (w : World) (B : Nat) (m : Sum) (vs : List Value) : Prop :=
  vs.length = 2 * m.length ∧ ∀ (k : Nat) (e : List Int × Int), m[k]? = some e → ∃ (A : Option Addr) (c : Nat), vs[2 * k]? = some (Value.slice A e.1.length c) ∧ vs[2 * k + 1]? = some (.int .i64 e.2) ∧ e.1.length ≤ c ∧ c ≤ maxLen ∧ TRow w B A (ints e.1)
theorem Cnts.nil (w : World) (B : Nat) : Cnts w B [] [] := ⟨rfl, fun k r h => by simp at h⟩
theorem Cnts.below {w w' : World} {B B' : Nat} {m : Sum} {vs : List Value} (h : Cnts w B m vs) (hb : Below B' w w') (hB : B ≤ B') : Cnts w' B m vs :=
  ⟨h.1, fun k r hr => by obtain ⟨A, c, e1, e2, e3, e4, e5⟩ := h.2 k r hr; exact ⟨A, c, e1, e2, e3, e4, e5.below hb hB⟩⟩
theorem Cnts.more {w : World} {B B' : Nat} {m : Sum} {vs : List Value} (h : Cnts w B m vs) (hB : B ≤ B') : Cnts w B' m vs :=
  ⟨h.1, fun k r hr => by obtain ⟨A, c, e1, e2, e3, e4, e5⟩ := h.2 k r hr; exact ⟨A, c, e1, e2, e3, e4, e5.more hB⟩⟩
theorem Cnts.next {w w' : World} {m : Sum} {vs : List Value} (h : Cnts w w.heap.size m vs) (hb : Below w.heap.size w w') : Cnts w' w'.heap.size m vs := (h.below hb (Nat.le_refl _)).more hb.size
theorem Cnts.push {w : World} {B : Nat} {m : Sum} {vs : List Value} {A : Option Addr} {c : Nat} {t : List Int} {x : Int} (h : Cnts w B m vs) (hc : t.length ≤ c) (hm : c ≤ maxLen) (hr : TRow w B A (ints t)) : Cnts w B (m ++ [(t, x)]) (vs ++ [.slice A t.length c, .int .i64 x]) := by
  have hl := h.1
  refine ⟨by simp [hl]; omega, fun k e he => ?_⟩
  rcases Nat.lt_or_ge k m.length with g | g
  · rw [List.getElem?_append_left g] at he
    obtain ⟨A', c', q1, q2, q3⟩ := h.2 k e he
    exact ⟨A', c', by rw [List.getElem?_append_left (by omega)]; exact q1, by rw [List.getElem?_append_left (by omega)]; exact q2, q3⟩
  · rw [List.getElem?_append_right g] at he
    have hk : k - m.length = 0 := by
      rcases Nat.eq_zero_or_pos (k - m.length) with y | y
      · exact y
      · rw [List.getElem?_eq_none (by simp; omega)] at he; cases he
    rw [hk] at he
    simp only [List.getElem?_cons_zero, Option.some.injEq] at he
    subst he
    exact ⟨A, c, by rw [List.getElem?_append_right (by omega), show 2 * k - vs.length = 0 by omega]; rfl, by rw [List.getElem?_append_right (by omega), show 2 * k + 1 - vs.length = 1 by omega]; rfl, hc, hm, hr⟩
theorem Cnts.one {m : Sum} {vs : List Value} {w : World} {B : Nat} (h : Cnts w B m vs) : ∀ u ∈ vs, u.oneCell' = true := by
  intro u hu
  obtain ⟨j, hj⟩ := List.mem_iff_getElem?.1 hu
  have hl := h.1
  have hjl : j < vs.length := by
    rcases Nat.lt_or_ge j vs.length with y | y
    · exact y
    · rw [List.getElem?_eq_none y] at hj; cases hj
  obtain ⟨A, c, e1, e2, _⟩ := h.2 (j / 2) _ (List.getElem?_eq_getElem (by omega))
  rcases Nat.mod_two_eq_zero_or_one j with e | e
  · rw [show 2 * (j / 2) = j by omega, hj] at e1; injection e1 with e1; subst e1; rfl
  · rw [show 2 * (j / 2) + 1 = j by omega, hj] at e2; injection e2 with e2; subst e2; rfl
theorem Cnts.grown {w w' : World} {B lo n : Nat} {m : Sum} {vs us : List Value} {v : Value} (h : Cnts w B m vs) (ho : w.ownsRow lo 37 2 v n us) (hB : B ≤ w.heap.size) (hg : w.grownBy w' v.ownBlock) : Cnts w' B m vs :=
  ⟨h.1, fun k r hr => by
    obtain ⟨A, c, e1, e2, e3, e4, e5⟩ := h.2 k r hr
    refine ⟨A, c, e1, e2, e3, e4, e5.keep fun b hb hx => hg.block b (by omega) fun e => ?_⟩
    obtain ⟨cur, fr, hx⟩ := hx
    rcases ho.2 with ⟨h1, _⟩ | ⟨g, cap, cur', h1, _, hgg, _⟩
    · rw [h1] at e; cases e
    · rw [h1] at e
      have e' : b = g := by simpa [Value.ownBlock] using e
      rw [e', hgg] at hx
      injection hx with hx
      injection hx with _ ht
      exact absurd ht (by decide)⟩
/-- a sum that a call makes -/
def OutS (W : World) (S : Sum) (g q cap : Nat) (vs : List Value) (wr : World) : Prop := wr.ownsRow W.heap.size 37 2 (.slice (some ⟨g, 0, none⟩) q cap) q vs ∧ Cnts wr wr.heap.size S vs ∧ Below W.heap.size W wr
theorem OutS.below {W wr w2 : World} {S : Sum} {g q cap : Nat} {vs : List Value} (h : OutS W S g q cap vs wr) (hb : Below wr.heap.size wr w2) : OutS W S g q cap vs w2 := by
  obtain ⟨h1, h2, h3⟩ := h
  have hs := h3.size
  refine ⟨⟨h1.1, ?_⟩, h2.next hb, h3.trans (hb.mono hs)⟩
  rcases h1.2 with h | ⟨g', cap', cur, e, hb', hg, r⟩
  · exact .inl h
  · exact .inr ⟨g', cap', cur, e, hb', (hb.block g' (Array.getElem?_eq_some_iff.1 hg).1).trans hg, r⟩
theorem OutS.len {W wr : World} {S : Sum} {g q cap : Nat} {vs : List Value} (h : OutS W S g q cap vs wr) : S.length = q := by
  have h1 := h.1.1
  have h2 := h.2.1.1
  omega
theorem OutS.start (W : World) : OutS W [] W.heap.size 0 0 [] (W.alloc (.cells #[] 37)) :=
  ⟨World.ownsRow_lit (base := W.heap.size) (size := 2) (e := 37) W #[] 0 (Nat.le_refl _) (Nat.zero_le _) rfl, Cnts.nil _ _, (Below.refl _ _).alloc (Nat.le_refl _) _⟩
theorem OutS.push {W wr w4 : World} {S : Sum} {g q cap g4 cap4 c : Nat} {vs : List Value} {A : Option Addr} {t : List Int} {x : Int} {o : Obj} (h : OutS W S g q cap vs wr) (hr : TRow wr wr.heap.size A (ints t)) (hc : t.length ≤ c) (hm : c ≤ maxLen)
    (h4 : w4.ownsRow W.heap.size 37 2 (.slice (some ⟨g4, 0, none⟩) (q + 1) cap4) (q + 1) (vs ++ [.slice A t.length c, .int .i64 x])) (hg : (wr.alloc o).grownBy w4 (Value.ownBlock (.slice (some ⟨g, 0, none⟩) q cap))) : OutS W (S ++ [(t, x)]) g4 (q + 1) cap4 (vs ++ [.slice A t.length c, .int .i64 x]) w4 := by
  obtain ⟨h1, h2, h3⟩ := h
  have hs := h3.size
  have hal : Below wr.heap.size wr (wr.alloc o) := (Below.refl _ _).alloc (Nat.le_refl _) _
  have hsz : wr.heap.size ≤ w4.heap.size := by have := hg.size; simp at this; omega
  refine ⟨h4, ?_, ?_⟩
  · have := (Cnts.push (x := x) h2 hc hm hr).below hal (Nat.le_refl _)
    exact (this.grown (h1.alloc o) (by simp) hg).more hsz
  · exact (h3.alloc hs o).grown hg (by simp; omega) (fun k hk => by
      have := h1.lt k hk; exact this.1)
/-- a sum in memory -/
def Sms (w : World) (A : Option Addr) (m : Sum) : Prop := ∃ vs, Row w w.heap.size A vs ∧ Cnts w w.heap.size m vs
theorem Sms.next {w w' : World} {A : Option Addr} {m : Sum} (h : Sms w A m) (hb : Below w.heap.size w w') : Sms w' A m := by
  obtain ⟨vs, h1, h2⟩ := h
  exact ⟨vs, (h1.below hb (Nat.le_refl _)).more hb.size, h2.next hb⟩
theorem Sms.drewN {w : World} {A : Option Addr} {m : Sum} (h : Sms w A m) (k : Nat) : Sms (w.drewN k) A m := h.next (below_drewN (Below.refl _ _) k)
theorem Sms.nil (w : World) (A : Option Addr) : Sms w A [] := ⟨[], Row.nil _ _ _, Cnts.nil _ _⟩
theorem Sms.at {w : World} {A : Option Addr} {m : Sum} (h : Sms w A m) {k : Nat} {e : List Int × Int} (he : m[k]? = some e) : ∃ b o Ak ck, A = some ⟨b, o, none⟩ ∧ b < w.heap.size ∧ w.cell? ⟨b, o + k * 2, none⟩ = some (.slice Ak e.1.length ck) ∧ w.cell? ⟨b, o + k * 2 + 1, none⟩ = some (.int .i64 e.2) ∧ e.1.length ≤ ck ∧ ck ≤ maxLen ∧ TRow w w.heap.size Ak (ints e.1) := by
  obtain ⟨vs, h1, h2⟩ := h
  obtain ⟨A', c', q1, q2, q3, q4, q5⟩ := h2.2 k e he
  obtain ⟨b, o, rfl, hb, hc⟩ := h1 _ _ q1
  obtain ⟨b', o', e', _, hc'⟩ := h1 _ _ q2
  cases e'
  exact ⟨b, o, A', c', rfl, hb, by rw [Nat.mul_comm k 2]; exact hc, by rw [Nat.mul_comm k 2, Nat.add_assoc]; exact hc', q3, q4, q5⟩
theorem row_of_own2 {w : World} {base : Nat} {e : TypeId} {A : Option Addr} {n c : Nat} {vs : List Value} (h : w.ownsRow base e 2 (.slice A n c) n vs) : Row w w.heap.size A vs := by
  intro k v hv
  rcases h.2 with ⟨_, h0⟩ | ⟨g, cap, cur, hs, _, hg, _⟩
  · have : vs = [] := List.eq_nil_of_length_eq_zero (by rw [h.1, h0])
    subst this; simp at hv
  · injection hs with e1 e2 e3
    subst e1 e3
    have hk : k < n * 2 := by
      rw [← h.1]
      rcases Nat.lt_or_ge k vs.length with g | g
      · exact g
      · rw [List.getElem?_eq_none g] at hv; cases hv
    refine ⟨g, 0, rfl, (Array.getElem?_eq_some_iff.1 hg).1, ?_⟩
    rw [Nat.zero_add, h.cellAt k hk]; exact hv
/-- what a call hands back that makes a sum: n: its length -/
def NewSum (n : Nat) (m : Sum) (w : World) (e : Ending) (w' : World) : Prop := ∃ A c, e = .returned (.slice A n c) ∧ n ≤ c ∧ c ≤ maxLen ∧ Sms w' A m ∧ Below w.heap.size w w'
theorem OutS.done {w W wr : World} {S : Sum} {g q cap : Nat} {vs : List Value} (h : OutS W S g q cap vs wr) (hb : Below w.heap.size w W) : NewSum S.length S w (.returned (.slice (some ⟨g, 0, none⟩) q cap)) wr := by
  have e := h.len
  obtain ⟨h1, h2, h3⟩ := h
  have hc : q ≤ cap ∧ cap ≤ maxLen := by
    rcases h1.2 with ⟨h, _⟩ | ⟨g', cap', cur, h, _, _, h3, h4, _⟩
    · injection h with a b d; cases a
    · injection h with a b d; subst d; exact ⟨h3, h4⟩
  exact ⟨_, _, by rw [e], by rw [e]; exact hc.1, hc.2, ⟨vs, row_of_own2 h1, h2⟩, hb.trans (h3.mono hb.size)⟩
theorem atL_at {t : List Int} : ∀ {S : Sum} {a : Nat}, (∀ j e, j < a → S[j]? = some e → Tr.beforeL e.1 t = true) → (a = S.length ∨ ∃ e, S[a]? = some e ∧ Tr.beforeL e.1 t = false) → Tr.atL t S = a
  | [], a, _, h => by
    rcases h with h | ⟨e, h, _⟩
    · rw [h]; rfl
    · simp at h
  | s :: S, 0, _, h => by
    rcases h with h | ⟨e, h, g⟩
    · simp at h
    · simp only [List.getElem?_cons_zero, Option.some.injEq] at h
      rw [Tr.atL, h, if_neg (by rw [g]; simp)]
  | s :: S, a+1, h1, h => by
    have h2 := h1 0 s (by omega) rfl
    rw [Tr.atL, if_pos h2, atL_at (S := S) (a := a) (fun j e hj he => h1 (j + 1) e (by omega) (by simpa using he)) (by
      rcases h with h | ⟨e, h, g⟩
      · left; simpa using h
      · right; exact ⟨e, by simpa using h, g⟩)]
end Go.Proofs.YtjmjdcfgbaepkaaGreat
/-
  A sum of trees in a map of the program, as a list in order.
-/
namespace Go.Proofs.YtjmjdcfgbaepkaaGreat
open Go.RowKit Fld Go.Maps Go.Sort
set_option linter.unusedVariables false
set_option linter.unusedSimpArgs false
set_option maxRecDepth 100000

theorem ownsMap_below {H : Type} {P : Program} {k : TypeId} {R : Value → Option (DataW H × List MemPlace)} {w w' : World} {b n B : Nat} {D : DataW H} (h : w.ownsMap P k R b n D) (hb : Below B w w') (hB : b < B) : w'.ownsMap P k R b n D := by
  obtain ⟨es, clock, h1, r⟩ := h
  exact ⟨es, clock, (hb.block b hB).trans h1, r⟩
theorem below0 {w w' : World} {base k n : Nat} {T : TypeId} {v : Value} {vs : List Value} (h : w.ownsRow base T k v n vs) (hb : Below w.heap.size w w') : w'.ownsRow base T k v n vs := ownsRow_keep h fun g hg => hb.block g (h.lt g (blk_mem.1 hg)).2
theorem lvlF_length : ∀ (d : Int) (s : List UInt8), (Tr.lvlF d s).length ≤ s.length
  | _, [] => by simp [Tr.lvlF]
  | d, c :: s => by
    rw [Tr.lvlF]
    split
    · have := lvlF_length (d + 1) s; simp; omega
    · have := lvlF_length (d - 1) s; simp; omega
theorem BldC.low {W wr : World} {S : List (List Int × Int)} {v : Value} {g : Nat} (h : BldC W S v wr) (hv : v.ownBlock = some g) : W.heap.size ≤ g := by
  obtain ⟨B, h1, h2, h3, h4⟩ := h
  obtain ⟨vs, _, hb⟩ := h1.outer
  exact (h3 g (hb g (blk_mem.2 hv))).1
set_option maxHeartbeats 4000000 in
theorem counted_any (b n : Nat) (f : List UInt8 → Int) (w : World) (h : MapF w b n f) (hn : n ≤ 12) (hf : ∀ x, f x ≠ 0 → x.length ≤ 16 ∧ Brk x) :
    Calls Tryz.prog 28 #[.map (some b)] w fun e w' => ∃ A c ss, e = .returned (.slice A ss.length c) ∧ KeysF f n ss ∧ OwnD ShC w.heap.size w'.heap.size [.slice A ss.length c] (listF f (Tr.sortT ss)) w' ∧ Below w.heap.size w w' := by
  obtain ⟨i0, hi, hz0, hz1, hz2⟩ := info_parts info_cnt
  have HF := Lib.hid hf
  have HM := Lib.hid h
  obtain ⟨D, hown, hD⟩ := h
  have hsz := hown.size_le
  have hblt0 := hown.lt
  have HD := Lib.hid hD
  have HO := Lib.hid hown
  go_enter Tryz.func28, Tryz.ntmps28
  go_wp2_with (first
    | (at_len; refine wpList_len_own _ rfl _ 53 rfl 45 2 Tryz.underlying53 _ b n D rfl hown ?_)
    | (at_make; refine wpList_make_own _ rfl _ _ 28 rfl w.heap.size 37 i0 _ 2 Tryz.underlying28 hi hz0 hz1 .i64 .i64 _ (Maps.size D) rfl rfl rfl (by rw [hz2]; omega) (by simp only [maxLen]; omega) (Nat.le_refl _) ?_; intro w1 hown1 hgrow1)
    | fail)
  have hs1 : w.heap.size < w1.heap.size := (hown1.lt w.heap.size rfl).2
  have HB1 : Hid (BldC w [] (.slice (some ⟨w.heap.size, 0, none⟩) 0 (Maps.size D)) w1) := BldC.start hown1 hgrow1
  have HBW : Hid (Below w.heap.size w w1) := HB1.out.own.2
  have HM1 := HM.out.below HBW.out hblt0
  have hb1 : b < w1.heap.size := by omega
  obtain ⟨W1, hW1⟩ : ∃ W1, W1 = w1 := ⟨_, rfl⟩
  have CK := keys_any b w1
  have CS := sortedFunc_any b n f w1 HM1 hn (fun x hx => (HF.out x hx).1)
  clear hown1 hgrow1 hown
  go_wp2_with fail
  refine CK.mono ?_
  rintro e w2 ⟨rfl, rfl⟩
  go_wp2_with fail
  refine CS.mono ?_
  rintro e w3 ⟨A, c, ss, rfl, hK, own3, bel3⟩
  have hs3 : w1.heap.size < w3.heap.size := by have := bel3.size; simp at this; omega
  have hb13 : Below w1.heap.size w1 w3 := ((Below.refl _ _).alloc (Nat.le_refl _) _).trans (bel3.mono (by omega))
  have HB3 := Lib.hid (HB1.out.below hb13)
  obtain ⟨q, hq⟩ : ∃ q, q = ss.length := ⟨_, rfl⟩
  have hq12 : q ≤ 12 := by rw [hq]; have := hK.2.2; omega
  rw [← hq] at own3 ⊢
  have HQ := Lib.hid hq
  have HOR := Lib.hid (OwnR.of own3)
  have HSL : Hid ((Tr.sortT ss).length = q) := by rw [Hid, (sortT_perm ss).length_eq]; exact hq.symm
  have HSM : Hid (∀ s ∈ Tr.sortT ss, f s ≠ 0 ∧ s.length ≤ 16 ∧ Brk s) := fun s hs => by
    have h1 := (hK.2.1 s).1 ((sortT_perm ss).mem_iff.1 hs)
    exact ⟨h1, HF.out s h1⟩
  have HK := Lib.hid hK
  clear own3 bel3 hb13 HB1 CK CS hK hq HM1 hf hD HF HM
  go_wp2_with fail
  go_loopw [3, 13] (fun v i wr => ∃ (k g cap : Nat), k ≤ q ∧ v = .slice (some ⟨g, 0, none⟩) k cap ∧ i = .int .i64 k ∧ (g < w1.heap.size ∨ w3.heap.size ≤ g) ∧ w3.heap.size ≤ wr.heap.size ∧ Hid (BldC w (listF f ((Tr.sortT ss).take k)) (.slice (some ⟨g, 0, none⟩) k cap) wr) ∧ Hid (∀ z, w1.heap.size ≤ z → z < w3.heap.size → wr.heap[z]? = w3.heap[z]?)) (fun _ i _ => q - (intOf i).toNat)
  case atStart => exact ⟨0, w.heap.size, _, Nat.zero_le _, rfl, rfl, .inl hs1, Nat.le_refl _, HB3.out, fun _ _ _ => rfl⟩
  case round =>
    obtain ⟨k, g, cap, hk, rfl, rfl, hg0, hw3, HBK, HKP⟩ := hrel
    by_cases hlt : k < q
    · obtain ⟨s, hs⟩ := at_lt (show k < (Tr.sortT ss).length by rw [HSL.out]; exact hlt)
      obtain ⟨hfs, hs16, hbrk⟩ := HSM.out s (List.mem_of_getElem? hs)
      obtain ⟨b', o', rfl, _, hc⟩ := (HOR.out.keep (fun z h1 h2 => HKP.out z (by omega) h2)).row k _ (strs_at hs)
      have hbw := HBK.out.own.2
      have HOW := Lib.hid (ownsMap_below HO.out hbw hblt0)
      have hblt : b < wr.heap.size := by have := hbw.size; omega
      have hgw : w.heap.size ≤ g := HBK.out.low rfl
      have hbg : b ≠ g := by omega
      have HLK : Hid ((listF f ((Tr.sortT ss).take k)).length = k) := by unfold listF; rw [Hid, List.length_map, List.length_take, HSL.out]; omega
      obtain ⟨vs, hvs⟩ := HBK.out.row
      rw [HLK.out] at hvs
      have HVS := Lib.hid hvs
      have HLS : Hid (listF f ((Tr.sortT ss).take (k + 1)) = listF f ((Tr.sortT ss).take k) ++ [(Tr.lvl s, f s)]) := by unfold listF; rw [Hid, List.take_add_one, hs]; simp
      have hlen : (Tr.lvl s).length ≤ 16 := Nat.le_trans (lvlF_length 0 s) hs16
      have CL := fun W => levels_any s W (by omega) hbrk
      have hkey := keyTx (x := s) (by omega)
      obtain ⟨Y, hY⟩ : ∃ Y : ByteArray, Y = ⟨s.toArray⟩ := ⟨_, rfl⟩
      rw [← hY] at hc hkey
      simp only [← hY] at CL
      have HKY := Lib.hid hkey
      obtain ⟨a, ha⟩ : ∃ a, a = f s := ⟨_, rfl⟩
      have HAT : Hid (D.atKey (.string s) (.lit (.int .i64 0)) = .lit (.int .i64 a)) := by rw [Hid, ha]; exact HD.out.1 s
      rw [← ha] at HLS
      clear hs hfs hs16 hbrk hbw hvs hkey hY ha HB3 HQ
      go_wp2_with fail
      refine wp_region_noPanic ?_
      refine wp_region_held_drew (S := (fun w' => w'.ownsMap Tryz.prog 45 (plainElem Tryz.prog 2) b n D)) (by kernel_rfl) ?_ (fun hHeld => ?_)
      · exact HOW.out
      refine wpAnyH_take (i := 0) (oi := _) (v := ?_) rfl (by kernel_rfl) (by kernel_rfl) (by kernel_rfl) (fun _ _ _ h => h) (Or.inl ⟨by kernel_rfl, ?_⟩) (by assumption) ?_
      rotate_left
      · (intro w hSw; (try dsimp only at hSw); go_simp; try (with_reducible rfl))
      try simp only [Act.put, List.setIfInBounds_toArray, List.set_cons_zero, List.set_cons_succ, List.getElem_toArray, List.getElem_cons_zero, List.getElem_cons_succ]
      refine wpAnyH_take (i := 1) (oi := _) (v := ?_) rfl (by kernel_rfl) (by kernel_rfl) (by kernel_rfl) (fun _ _ _ h => h) (Or.inl ⟨by kernel_rfl, ?_⟩) (by assumption) ?_
      rotate_left
      · (intro w hSw; (try dsimp only at hSw); go_simp; try (with_reducible rfl))
      try simp only [Act.put, List.setIfInBounds_toArray, List.set_cons_zero, List.set_cons_succ, List.getElem_toArray, List.getElem_cons_zero, List.getElem_cons_succ]
      refine wpAnyH_take (i := 3) (oi := _) (v := ?_) rfl (by kernel_rfl) (by kernel_rfl) (by kernel_rfl) (fun _ _ _ h => h) (Or.inl ⟨by kernel_rfl, ?_⟩) (by assumption) ?_
      rotate_left
      · (intro w hSw; (try dsimp only at hSw); go_simp; try (with_reducible rfl))
      try simp only [Act.put, List.setIfInBounds_toArray, List.set_cons_zero, List.set_cons_succ, List.getElem_toArray, List.getElem_cons_zero, List.getElem_cons_succ]
      refine wpAnyH_take (i := 4) (oi := _) (v := ?_) rfl (by kernel_rfl) (by kernel_rfl) (by kernel_rfl) (fun _ _ _ h => h) (Or.inl ⟨by kernel_rfl, ?_⟩) (by assumption) ?_
      rotate_left
      · (intro w hSw; (try dsimp only at hSw); go_simp; try (with_reducible rfl))
      try simp only [Act.put, List.setIfInBounds_toArray, List.set_cons_zero, List.set_cons_succ, List.getElem_toArray, List.getElem_cons_zero, List.getElem_cons_succ]
      refine wpAnyH_take (i := 5) (oi := _) (v := .int .i64 a) rfl (by kernel_rfl) (by kernel_rfl) (by kernel_rfl) (fun _ _ _ h => h) (Or.inl ⟨by kernel_rfl, ?_⟩) (by assumption) ?_
      · (intro wz hSw; (try dsimp only at hSw); obtain ⟨c0, hrun, hat, _⟩ := hSw.lookup_int (t := 53) (e := 2) (q := .i64) keyed Tryz.underlying53 Tryz.underlying2 (zeroCount _) HKY.out; (obtain rfl : c0 = a := by (have h9 := hat.symm.trans HAT.out; simpa using h9)); go_simp; try (with_reducible rfl))
      try simp only [Act.put, List.setIfInBounds_toArray, List.set_cons_zero, List.set_cons_succ, List.getElem_toArray, List.getElem_cons_zero, List.getElem_cons_succ]
      refine wpAnyH_ready (rs := [2]) (by kernel_rfl) (by simp) (AllReadyH.cons (o := _) rfl (fun K hK => ?_) AllReadyH.nil)
      go_simp
      (go_at_call 21; refine (CL _).mono ?_; rintro e w4 ⟨A2, c2, rfl, own2, bel2'⟩)
      have bel2 : Below wr.heap.size wr w4 := ⟨bel2'.os, bel2'.tape, bel2'.output, bel2'.size, bel2'.block⟩
      have own2' : w4.ownsRow wr.heap.size 2 1 (.slice A2 (Tr.lvl s).length c2) (Tr.lvl s).length (ints (Tr.lvl s)) := own2
      have hz4 : wr.heap.size ≤ w4.heap.size := bel2.size
      clear own2 bel2' CL
      go_wp2_with fail
      refine hK.out _ _ ?_ (fun hHeld => ?_)
      · exact (ownsMap_below HOW.out bel2 hblt)
      clear hK K
      try simp only [Act.put, List.setIfInBounds_toArray, List.set_cons_zero, List.set_cons_succ, List.getElem_toArray, List.getElem_cons_zero, List.getElem_cons_succ]
      refine wpAnyH_take (i := 6) (oi := _) (v := ?_) rfl (by kernel_rfl) (by kernel_rfl) (by kernel_rfl) (fun _ _ _ h => h) (Or.inl ⟨by kernel_rfl, ?_⟩) (by assumption) ?_
      rotate_left
      · (intro w hSw; (try dsimp only at hSw); go_simp; try (with_reducible rfl))
      try simp only [Act.put, List.setIfInBounds_toArray, List.set_cons_zero, List.set_cons_succ, List.getElem_toArray, List.getElem_cons_zero, List.getElem_cons_succ]
      refine wpAnyH_ready (rs := [7]) (by kernel_rfl) (by simp) (AllReadyH.cons (o := _) rfl (fun K hK => ?_) AllReadyH.nil)
      go_simp
      refine hK.out _ _ ?_ (fun hHeld => ?_)
      · exact (ownsMap_below HOW.out bel2 hblt).alloc _
      clear hK K
      try simp only [Act.put, List.setIfInBounds_toArray, List.set_cons_zero, List.set_cons_succ, List.getElem_toArray, List.getElem_cons_zero, List.getElem_cons_succ]
      refine wpAnyH_ready (rs := [8]) (by kernel_rfl) (by simp) (AllReadyH.cons (o := _) rfl (fun K hK => ?_) AllReadyH.nil)
      refine step_append_lies _ (by rfl) _ _ _ (by rfl) 0 37 i0 _ 2 32 Tryz.underlying28 hi hz0 hz1 hz2 rfl (by omega) (.slice (some ⟨g, 0, none⟩) k cap) k vs (by rfl) ((below0 HVS.out bel2).alloc _) ⟨w4.heap.size, 0, none⟩ 1 1 [.slice A2 (Tr.lvl s).length c2, .int .i64 a] (by rfl) (by rfl) (World.news_of_block (cs := #[.slice A2 (Tr.lvl s).length c2, .int .i64 a]) (heap_alloc_new _ _)) (by simp [Value.oneCell']) (by omega) (by simp only [maxLen]; omega) (by omega) (Nat.zero_le _) (w4.heap.size + 1) (by simp) ?_
      intro g4 cap4 w5 hown5 hgrow5 hat5 hlt5
      refine hK.out _ _ ?_ (fun hHeld => ?_)
      · exact ((ownsMap_below HOW.out bel2 hblt).alloc _).kept hgrow5 (by simpa [Value.ownBlock] using hbg)
      clear hK K
      try simp only [Act.put, List.setIfInBounds_toArray, List.set_cons_zero, List.set_cons_succ, List.getElem_toArray, List.getElem_cons_zero, List.getElem_cons_succ]
      refine wpAnyH_take (i := 9) (oi := _) (v := ?_) rfl (by kernel_rfl) (by kernel_rfl) (by kernel_rfl) (fun _ _ _ h => h) (Or.inl ⟨by kernel_rfl, ?_⟩) (by assumption) ?_
      rotate_left
      · (intro w hSw; (try dsimp only at hSw); go_simp; try (with_reducible rfl))
      try simp only [Act.put, List.setIfInBounds_toArray, List.set_cons_zero, List.set_cons_succ, List.getElem_toArray, List.getElem_cons_zero, List.getElem_cons_succ]
      refine wpAnyH_done (by kernel_rfl) ?_ _
      refine NoPanic.normal ?_
      have ha4 : Below w4.heap.size w4 (w4.alloc (.cells #[.slice A2 (Tr.lvl s).length c2, .int .i64 a] 37)) := (Below.refl _ _).alloc (Nat.le_refl _) _
      have G : Hid (BldC w (listF f ((Tr.sortT ss).take (k + 1))) (.slice (some ⟨g4, 0, none⟩) (k + 1) cap4) w5) := by
        have h9 := BldC.push (H := w4.heap.size + 1) (x := a) HBK.out bel2 own2' ha4 (by rw [HLK.out]; exact HVS.out) (by rw [HLK.out]; exact hown5) hgrow5 hat5 (by simp) hlt5
        rw [HLK.out, ← HLS.out] at h9
        exact h9
      have GK : Hid (∀ z, w1.heap.size ≤ z → z < w3.heap.size → w5.heap[z]? = w3.heap[z]?) := fun z h1 h2 => by
        have h5 := hgrow5.block z (by simp; omega) (by simp only [Value.ownBlock]; intro e; injection e with e; omega)
        rw [h5, ha4.block z (by omega), bel2.block z (by omega)]
        exact HKP.out z h1 h2
      have hg5 : g4 < w1.heap.size ∨ w3.heap.size ≤ g4 := by
        rcases hat5 with e | e
        · have : g = g4 := by simpa [Value.ownBlock] using e
          omega
        · omega
      have hz5 : w3.heap.size ≤ w5.heap.size := by have := hgrow5.size; simp at this; omega
      clear hown5 hgrow5 hat5 hlt5 bel2 own2' ha4 HBK HKP HVS HOW hHeld
      go_wp2
      go_roundw
      case rel => exact ⟨k + 1, g4, cap4, by omega, rfl, by go_num, hg5, hz5, G, GK⟩
      case measure => simp [intOf]; omega
    · obtain rfl : k = q := by omega
      have G : Hid (BldC w (listF f (Tr.sortT ss)) (.slice (some ⟨g, 0, none⟩) k cap) wr) := by
        have h9 := HBK.out
        rw [List.take_of_length_le (by rw [HSL.out]; exact Nat.le_refl _)] at h9
        exact h9
      clear HBK HKP
      go_wp2
      go_ret
      refine ⟨some ⟨g, 0, none⟩, cap, ss, ?_, HK.out, ?_, G.out.own.2⟩
      · rw [← HQ.out]; rfl
      · rw [← HQ.out]; exact G.out.own.1
end Go.Proofs.YtjmjdcfgbaepkaaGreat
/-
  How often texts stand in lists; sums of at most eight trees.
-/
namespace Go.Proofs.YtjmjdcfgbaepkaaGreat
open Go.RowKit Fld
set_option linter.unusedVariables false
set_option linter.unusedSimpArgs false
set_option maxRecDepth 100000

theorem tx_brk {y : List UInt8} (h : Tr.isTx y = true) : y.length ≤ 16 ∧ Brk y := by
  refine ⟨(Tr.br_parts h).1.2, ?_⟩
  unfold Tr.isTx at h
  simp only [Bool.and_eq_true, beq_iff_eq] at h
  rw [← h.2]; exact txt_brk _ _
/-- how often a text stands among the first ones -/
def cntF (R : List (List UInt8)) (k : Nat) : List UInt8 → Int := fun y => ((R.take k).count y : Int)
theorem cntF_zero (R : List (List UInt8)) : cntF R 0 = fun _ => 0 := by funext y; simp [cntF]
theorem cntF_step {R : List (List UInt8)} {k : Nat} {x : List UInt8} (h : R[k]? = some x) : bump (cntF R k) x 1 = cntF R (k + 1) := by
  funext y
  unfold bump cntF
  rw [List.take_add_one, h, Option.toList_some, List.count_append, List.count_singleton]
  by_cases e : y = x
  · subst e; simp
  · rw [if_neg e, if_neg (by simpa using fun q => e q.symm)]; simp
theorem cntF_le (R : List (List UInt8)) (k : Nat) (y : List UInt8) : 0 ≤ cntF R k y ∧ cntF R k y ≤ (k : Int) := by
  unfold cntF
  have h1 := List.count_le_length (a := y) (l := R.take k)
  rw [List.length_take] at h1
  omega
theorem cntF_all (R : List (List UInt8)) {n : Nat} (h : R.length = n) (y : List UInt8) : cntF R n y = (R.count y : Int) := by
  unfold cntF; rw [List.take_of_length_le (by omega)]
theorem sumTo_congr {f g : Nat → List Int} : ∀ n, (∀ k, k < n → f k = g k) → Tr.sumTo f n = Tr.sumTo g n
  | 0, _ => rfl
  | n+1, h => by rw [Tr.sumTo, Tr.sumTo, sumTo_congr n (fun k hk => h k (by omega)), h n (by omega)]
theorem sum_small {S : List (List Int × Int)} {m : Nat} (hl : S.length ≤ 8) (h : ∀ e ∈ S, e.1.length ≤ 8) : S.length ≤ 1048576 ∧ cntC S ≤ 1048576 := by
  refine ⟨by omega, ?_⟩
  have : ∀ (S : List (List Int × Int)), (∀ e ∈ S, e.1.length ≤ 8) → cntC S ≤ 9 * S.length := fun S => by
    induction S with
    | nil => intro _; exact Nat.zero_le _
    | cons e r ih =>
      intro h
      have h1 := ih (fun e he => h e (by simp [he]))
      have h2 : cntC (e :: r) = cntD ShP e + cntC r := by
        unfold cntC
        show ((e :: r).map (cntD ShP)).sum = _
        rw [List.map_cons, List.sum_cons]; rfl
      have h3 : cntD ShP e = e.1.length + 1 := cntD_pair e.1 e.2
      have h4 := h e (by simp)
      rw [h2, h3, List.length_cons]; omega
  have := this S h
  omega
end Go.Proofs.YtjmjdcfgbaepkaaGreat
/-
  All trees of a free tree with their numbers, the program's and the model's.
-/
namespace Go.Proofs.YtjmjdcfgbaepkaaGreat
open Go.RowKit Fld Go.Maps
set_option linter.unusedVariables false
set_option linter.unusedSimpArgs false
set_option maxRecDepth 100000

theorem roots_list {t : List Int} (h : Tr.isLv t = true) : (∀ u ∈ Tr.turnsL t, isTr u = true) ∧ (rootsT (Tr.txt t)).Perm ((Tr.turnsL t).map Tr.txt) ∧ Tr.sumTo (fun k => (Tr.turnsL t).getD k []) (Tr.turnsL t).length = rootsL t := by
  obtain ⟨c1, c2⟩ := lv_can h
  obtain ⟨c3, c4⟩ := Tr.can_can h
  have hn := (lv_txt h).2.2.2
  have hat : ∀ k, k < t.length → Tr.txt (Tr.turnF 9 (Tr.can t) k) = Tr.rerF 8 (Tr.txt t) k [] ∧ Tr.isLv (Tr.turnF 9 (Tr.can t) k) = true ∧ Tr.can (Tr.turnF 9 (Tr.can t) k) = Tr.turnF 9 (Tr.can t) k := fun k hk => by
    have h9 := Tr.turn_at c1 c3 (k := k) (by omega)
    rw [c4] at h9
    exact ⟨h9.1, h9.2.1, h9.2.2.1⟩
  have hp := Tr.turns_perm h
  refine ⟨fun u hu => ?_, ?_, ?_⟩
  · have h1 := hp.mem_iff.1 hu
    unfold Tr.turnsL at h1
    rw [List.mem_map] at h1
    obtain ⟨k, q1, q2⟩ := h1
    rw [List.mem_range, c2] at q1
    rw [← q2]
    exact isTr_of (hat k q1).2.1 (hat k q1).2.2
  · have e : rootsT (Tr.txt t) = (Tr.turnsL (Tr.can t)).map Tr.txt := by
      unfold rootsT Tr.turnsL
      rw [List.map_map, c2, show (Tr.txt t).length / 2 = t.length by omega]
      refine List.map_congr_left fun k hk => ?_
      rw [List.mem_range] at hk
      exact (hat k hk).1.symm
    rw [e]
    exact (hp.map Tr.txt).symm
  · have e : (Tr.turnsL t).length = t.length := by unfold Tr.turnsL; simp
    rw [e]
    refine sumTo_congr _ fun k hk => ?_
    unfold Tr.turnsL
    rw [List.getD_eq_getElem?_getD, List.getElem?_map, List.getElem?_range hk]; rfl
theorem roots_small {t : List Int} (h : Tr.isLv t = true) : (rootsL t).length ≤ 1048576 ∧ cntC (rootsL t) ≤ 1048576 := by
  have h8 := (lv_bd h).2
  have h1 := Tr.sumTo_length (Tr.turnF 9 t) t.length
  refine sum_small (m := 0) (by unfold rootsL; omega) (fun e he => ?_)
  obtain ⟨k, hk, e1⟩ := Tr.sumTo_mem he
  have h2 := (roots_list h).1 (Tr.turnF 9 t k) (by unfold Tr.turnsL; rw [List.mem_map]; exact ⟨k, by rw [List.mem_range]; exact hk, rfl⟩)
  rw [e1]
  exact (lv_bd (tr_lv h2).1).2
def rootsA (t : List Int) : List (List Int × Int) × Int := if Tr.isLv t = true then (rootsL t, 0) else ([], 1)
theorem rootsA_no {t : List Int} (h : Tr.isLv t = false) : rootsA t = ([], 1) := if_neg (by rw [h]; simp)
theorem rootsA_yes {t : List Int} (h : Tr.isLv t = true) : rootsA t = (rootsL t, 0) := if_pos h
set_option maxHeartbeats 2000000 in
theorem pRootsOf_L (A : Option Addr) (n c B : Nat) (t : List Int) (w : World) (hl : t.length = n) (hn : n ≤ 1048576) (hB : B ≤ w.heap.size) (h : Row w B A (ints t)) (hc : n ≤ c) :
    Calls Tryz.prog 8 #[.slice A n c] w (ResC (rootsA t) w) := by
  have C0 := isLevels_any A n c B t w hl (by omega) h
  cases h1 : Tr.isLv t
  · have G := Lib.hid (rootsA_no h1)
    rw [h1] at C0
    clear hl h1
    go_enter Tryz.func8, Tryz.ntmps8
    go_wp2_with fail
    refine C0.mono ?_
    rintro e w1 ⟨rfl, d, rfl⟩
    go_wp2
    go_ret2
    exact ResC.nil G.out (below_drewN (Below.refl _ _) _)
  · rw [h1] at C0
    obtain ⟨a1, a8⟩ := lv_bd h1
    have hn2 := (lv_txt h1).2.2.2
    rw [hl] at a1 a8 hn2
    have G := Lib.hid (rootsA_yes h1)
    have HSM := Lib.hid (roots_small h1)
    have hx := Tr.tx_txt h1
    have HRT : Hid (∀ s ∈ rootsT (Tr.txt t), Tr.isTx s = true) := roots_tx hx
    have HRL : Hid ((rootsT (Tr.txt t)).length = n) := by rw [Hid, rootsT_len]; omega
    have HSL : Hid (∀ ss f m, (∀ y, f y = ((rootsT (Tr.txt t)).count y : Int)) → KeysF f m ss → listF f (Tr.sortT ss) = rootsL t) := fun ss f m hf hK => by
      obtain ⟨q1, q2, q3⟩ := roots_list h1
      rw [← q3]; exact sum_list q1 q2 hf hK
    have C2 := fun w => roots_any (Tr.txt t) w hx
    rw [show (Tr.txt t).length / 2 = n by omega] at C2
    have HL := Lib.hid hl
    have hmm := @run_makeMap Tryz.prog
    clear hl h1 hx hn2
    go_enter Tryz.func8, Tryz.ntmps8
    go_wp2_with fail
    refine C0.mono ?_
    rintro e w1 ⟨rfl, d, rfl⟩
    have B1 : Hid (Below w.heap.size w (w.drewN d)) := below_drewN (Below.refl _ _) d
    generalize w.drewN d = W1 at *
    have hW1 : w.heap.size ≤ W1.heap.size := B1.out.size
    have HM1 : Hid (MapF (W1.alloc (.map #[] 0)) W1.heap.size 0 (cntF (rootsT (Tr.txt t)) 0)) := by rw [cntF_zero]; exact MapF.made W1
    have BA : Below W1.heap.size W1 (W1.alloc (.map #[] 0)) := (Below.refl _ _).alloc (Nat.le_refl _) _
    have hsA : (W1.alloc (.map #[] 0)).heap.size = W1.heap.size + 1 := by simp
    obtain ⟨b, hb⟩ : ∃ b, b = W1.heap.size := ⟨_, rfl⟩
    have hRow : Row (W1.alloc (.map #[] 0)) B A (ints t) := (Row.below h B1.out hB).below BA (by omega)
    have B2 : Hid (Below w.heap.size w (W1.alloc (.map #[] 0))) := B1.out.trans (BA.mono hW1)
    clear h BA
    go_wp2_with fail
    have hbW : w.heap.size ≤ b := by omega
    obtain ⟨W2, hW2⟩ : ∃ W2, W2 = W1.alloc (.map #[] 0) := ⟨_, rfl⟩
    rw [← hW2] at HM1 hsA hRow B2 ⊢
    rw [← hb] at HM1 hsA ⊢
    clear hW2 B1 hb hmm
    refine (treeOf_any A n c B t _ HL.out a1 a8 hc (by omega) hRow).mono ?_
    rintro e w2 ⟨rfl, bel2⟩
    have B3 : Hid (Below w.heap.size w w2) := B2.out.trans (bel2.mono B2.out.size)
    have HM2 : Hid (MapF w2 b 0 (cntF (rootsT (Tr.txt t)) 0)) := HM1.out.next bel2
    have hs2 : b < w2.heap.size := by have := bel2.size; omega
    clear bel2 HM1 hRow B2
    go_wp2_with fail
    refine (C2 _).mono ?_
    rintro e w3 ⟨rfl, own3, bel3⟩
    have B4 : Hid (Below w.heap.size w w3) := B3.out.trans (bel3.mono B3.out.size)
    have HM3 : Hid (MapF w3 b 0 (cntF (rootsT (Tr.txt t)) 0)) := HM2.out.next bel3
    have HOR := Lib.hid (OwnR.of own3)
    have hs3 : b < w3.heap.size := by have := bel3.size; omega
    obtain ⟨R, hR⟩ : ∃ R, R = rootsT (Tr.txt t) := ⟨_, rfl⟩
    rw [← hR] at HM3 HOR HRT HRL HSL
    obtain ⟨z2, hz2⟩ : ∃ z, z = w2.heap.size := ⟨_, rfl⟩
    rw [← hz2] at HOR hs2 ⊢
    clear own3 bel3 HM2 B3 C2 hR hz2
    go_wp2_with fail
    go_loopw [15] (fun i wr => ∃ k : Nat, k ≤ n ∧ i = .int .i64 k ∧ Hid (MapF wr b k (cntF R k)) ∧ Hid (w3.grownBy wr (some b))) (fun i _ => n - (intOf i).toNat)
    case atStart => exact ⟨0, Nat.zero_le _, rfl, HM3.out, World.grownBy.refl _ _⟩
    case round =>
      obtain ⟨k, hk, rfl, HM, HG⟩ := hrel
      by_cases hlt : k < n
      · obtain ⟨x, hx⟩ := at_lt (show k < R.length by rw [HRL.out]; exact hlt)
        obtain ⟨b', o', e', hb', hc'⟩ := (HOR.out.grown HG.out (.inr (by simp only [Value.ownBlock]; intro e; injection e with e; omega))).row k _ (strs_at hx)
        injection e' with e'
        injection e' with e1 e2
        subst e1 e2
        rw [Nat.zero_add] at hc'
        have hxt := HRT.out x (List.mem_of_getElem? hx)
        have hx16 := (tx_brk hxt).1
        have hcb := cntF_le R k x
        have CA := add_any b k x 1 (cntF R k) wr HM.out (by omega) (by omega) (by omega) (by omega)
        rw [cntF_step hx] at CA
        have HGG := Lib.hid HG.out
        obtain ⟨X, hX⟩ : ∃ X : ByteArray, X = ⟨x.toArray⟩ := ⟨_, rfl⟩
        rw [← hX] at CA hc'
        clear hx hxt HM HG hX hcb HM3
        go_wp2_with fail
        refine CA.mono ?_
        rintro e w4 ⟨rfl, hm4, hg4⟩
        have G1 := Lib.hid hm4
        have G2 := Lib.hid (grownBy_trans HGG.out hg4)
        clear hm4 hg4 CA hc'
        go_wp2
        go_roundw
        case rel => exact ⟨k + 1, by omega, by go_num, G1, G2⟩
        case measure => simp [intOf]; omega
      · obtain rfl : k = n := by omega
        have hsz := HG.out.size
        have B5 : Hid (Below w.heap.size w wr) := B4.out.grown HG.out B4.out.size (fun q e => by injection e with e; omega)
        have CC := counted_any b k (cntF R k) wr HM.out (by omega) (fun y hy => by
          rw [cntF_all R HRL.out y] at hy
          have h2 : 0 < R.count y := by omega
          exact tx_brk (HRT.out y (List.count_pos_iff.1 h2)))
        clear HM HG HM3
        go_wp2_with fail
        refine CC.mono ?_
        rintro e w5 ⟨A5, c5, ss, rfl, hK, own5, bel5⟩
        have e5 := HSL.out ss (cntF R k) k (fun y => cntF_all R HRL.out y) hK
        rw [e5] at own5
        have hl5 : (rootsL t).length = ss.length := by rw [← e5]; unfold listF; rw [List.length_map, (sortT_perm ss).length_eq]
        have GO : Hid (OwnD ShC w.heap.size w5.heap.size [.slice A5 ss.length c5] (rootsL t) w5) := own5.more B5.out.size (Nat.le_refl _)
        have GB : Hid (Below w.heap.size w w5) := B5.out.trans (bel5.mono B5.out.size)
        clear own5 bel5 CC e5 hK
        have HL5 := Lib.hid hl5
        clear hl5
        go_wp2
        go_ret2
        exact ResC.of G.out HL5.out HSM.out GO.out GB.out
end Go.Proofs.YtjmjdcfgbaepkaaGreat
/-
  The counts of a sum of trees, added: as many as were put in.
-/
namespace Go.Proofs.YtjmjdcfgbaepkaaGreat
set_option linter.unusedVariables false
set_option maxRecDepth 100000

theorem insU_sum (t : List Int) (c : Int) : ∀ S : List (List Int × Int), ((Tr.insU t c S).map (·.2)).sum = (S.map (·.2)).sum + c
  | [] => by simp [Tr.insU]
  | e :: r => by
    have ih := insU_sum t c r
    rw [Tr.insU]
    split
    · simp only [List.map_cons, List.sum_cons, ih]; omega
    · split
      · simp only [List.map_cons, List.sum_cons]; omega
      · simp only [List.map_cons, List.sum_cons]; omega
theorem sumTo_sum (f : Nat → List Int) : ∀ n : Nat, ((Tr.sumTo f n).map (·.2)).sum = (n : Int)
  | 0 => rfl
  | n + 1 => by rw [Tr.sumTo_ins, insU_sum, sumTo_sum f n]; omega
/-- the counts of the first entries, added -/
def cntsTo (S : List (List Int × Int)) (r : Nat) : Int := ((S.take r).map (·.2)).sum
theorem cnts_step {S : List (List Int × Int)} {r : Nat} {u : List Int} {x : Int} (h : S[r]? = some (u, x)) : cntsTo S (r + 1) = cntsTo S r + x := by
  unfold cntsTo
  rw [List.take_add_one, h, Option.toList_some, List.map_append, List.sum_append]
  simp
theorem cnts_bd {S : List (List Int × Int)} (h : ∀ p ∈ S, 0 ≤ p.2 ∧ p.2 ≤ 1048576) : ∀ r : Nat, 0 ≤ cntsTo S r ∧ cntsTo S r ≤ 1048576 * (r : Int)
  | 0 => ⟨Int.le_refl _, by simp [cntsTo]⟩
  | r + 1 => by
    have ih := cnts_bd h r
    rcases Nat.lt_or_ge r S.length with q | q
    · obtain ⟨⟨v, x⟩, hx⟩ := List.getElem?_eq_some_iff.2 ⟨q, rfl⟩ |> fun e => (⟨S[r], e⟩ : ∃ p, S[r]? = some p)
      rw [cnts_step hx]
      have := h _ (List.mem_of_getElem? hx)
      simp only at this
      omega
    · have e : cntsTo S (r + 1) = cntsTo S r := by
        unfold cntsTo
        rw [List.take_of_length_le (by omega), List.take_of_length_le q]
      omega
theorem cnts_all (S : List (List Int × Int)) : cntsTo S S.length = (S.map (·.2)).sum := by unfold cntsTo; rw [List.take_length]
end Go.Proofs.YtjmjdcfgbaepkaaGreat
/-
  For the law FnRoots, plain: a rerooted tree has the same sum of trees; the counts are the nodes together; where it is superfluous.
-/
namespace Go.Proofs.YtjmjdcfgbaepkaaGreat
open Go.RowKit Fld
set_option linter.unusedVariables false
set_option maxRecDepth 100000

theorem sumTo_perm {L L' : List (List Int)} (h : L.Perm L') : Tr.sumTo (fun k => L.getD k []) L.length = Tr.sumTo (fun k => L'.getD k []) L'.length := by
  refine Tr.sums_eq (Tr.sumTo_order _ _) (Tr.sumTo_order _ _) (fun e he => by have := Tr.sumTo_pos _ _ e he; omega) (fun e he => by have := Tr.sumTo_pos _ _ e he; omega) (fun s => ?_)
  rw [Tr.look_sumTo, Tr.look_sumTo, cntTo_count L s _ (Nat.le_refl _), cntTo_count L' s _ (Nat.le_refl _), List.take_length, List.take_length, h.count_eq]
theorem roots_sum (t : List Int) : ((rootsL t).map (·.2)).sum = (t.length : Int) := sumTo_sum _ _
theorem turn_parts {t : List Int} (h : Tr.isLv t = true) {k : Nat} (hk : k < t.length) : Tr.isLv (Tr.turnF 9 (Tr.can t) k) = true ∧ Tr.can (Tr.turnF 9 (Tr.can t) k) = Tr.turnF 9 (Tr.can t) k ∧ (Tr.turnF 9 (Tr.can t) k).length = t.length ∧ (Tr.turnsL (Tr.turnF 9 (Tr.can t) k)).Perm (Tr.turnsL t) := by
  obtain ⟨c1, c2⟩ := lv_can h
  obtain ⟨c3, _⟩ := Tr.can_can h
  obtain ⟨_, q1, q2, q3⟩ := Tr.turn_at c1 c3 (k := k) (by omega)
  exact ⟨q1, q2, by omega, (Tr.turns_same c1 c3 (by omega)).trans (Tr.turns_perm h).symm⟩
theorem roots_same {t : List Int} (h : Tr.isLv t = true) {k : Nat} (hk : k < t.length) : rootsL (Tr.turnF 9 (Tr.can t) k) = rootsL t := by
  obtain ⟨q1, _, _, q4⟩ := turn_parts h hk
  rw [← (roots_list q1).2.2, ← (roots_list h).2.2]
  exact sumTo_perm q4
theorem mem_turns {t u : List Int} (h : Tr.isLv t = true) : u ∈ Tr.turnsL t ↔ ∃ e ∈ rootsL t, e.1 = u := by
  rw [← (roots_list h).2.2]
  constructor
  · intro hu
    obtain ⟨k, hk, e⟩ := List.mem_iff_getElem.1 hu
    obtain ⟨e2, he, e3⟩ := Tr.sumTo_has (fun k => (Tr.turnsL t).getD k []) hk
    refine ⟨e2, he, e3.trans ?_⟩
    show (Tr.turnsL t).getD k [] = u
    rw [List.getD_eq_getElem?_getD, List.getElem?_eq_getElem hk, ← e]; rfl
  · rintro ⟨e, he, rfl⟩
    obtain ⟨k, hk, e3⟩ := Tr.sumTo_mem he
    rw [e3]
    show (Tr.turnsL t).getD k [] ∈ _
    rw [List.getD_eq_getElem?_getD, List.getElem?_eq_getElem hk]
    exact List.getElem_mem hk
theorem turn_mem {t : List Int} (h : Tr.isLv t = true) {k : Nat} (hk : k < t.length) : ∃ e ∈ rootsL t, e.1 = Tr.turnF 9 (Tr.can t) k := by
  obtain ⟨c1, c2⟩ := lv_can h
  refine (mem_turns h).1 ((Tr.turns_perm h).mem_iff.2 ?_)
  unfold Tr.turnsL
  rw [List.mem_map]
  exact ⟨k, by rw [List.mem_range]; omega, rfl⟩
theorem half_perm {t u : List Int} (hl : t.length = u.length) (h : (Tr.turnsL t).Perm (Tr.turnsL u)) : Tr.halfP t = Tr.halfP u := by
  unfold Tr.halfP
  rw [hl]
  congr 1
  funext x
  rw [Bool.eq_iff_iff, List.any_eq_true, List.any_eq_true]
  exact ⟨fun ⟨y, hy, e⟩ => ⟨y, h.mem_iff.1 hy, e⟩, fun ⟨y, hy, e⟩ => ⟨y, h.mem_iff.2 hy, e⟩⟩
theorem sup_found {t : List Int} (h : Tr.isLv t = true) : Tr.supT (Tr.txt t) = (decide (t.length % 2 = 0) && Tr.halfP t) := by
  obtain ⟨c1, c2⟩ := lv_can h
  obtain ⟨c3, c4⟩ := Tr.can_can h
  rw [← c4, ← Tr.sup_half c1 c3, c2, half_perm c2 (Tr.turns_perm h).symm]
theorem sup_same {t : List Int} (h : Tr.isLv t = true) {k : Nat} (hk : k < t.length) : Tr.supT (Tr.txt (Tr.turnF 9 (Tr.can t) k)) = Tr.supT (Tr.txt t) := by
  obtain ⟨q1, _, q3, q4⟩ := turn_parts h hk
  rw [sup_found q1, sup_found h, q3, half_perm q3 q4]
end Go.Proofs.YtjmjdcfgbaepkaaGreat
/-
  The model's grafting on lists.
-/
namespace Go.Proofs.YtjmjdcfgbaepkaaGreat
open Go.RowKit Fld
set_option linter.unusedVariables false
set_option linter.unusedSimpArgs false
set_option maxRecDepth 100000

theorem tw_step (p : Int → Bool) : ∀ (s : List Int) (j : Nat), j ≤ (s.takeWhile p).length → (j < (s.takeWhile p).length ↔ ∃ x, s[j]? = some x ∧ p x = true)
  | [], j, h => by simp
  | a :: s, j, h => by
    rw [List.takeWhile_cons] at h ⊢
    by_cases hp : p a = true
    · rw [if_pos hp] at h ⊢
      cases j with
      | zero => simp [hp]
      | succ j =>
        have ih := tw_step p s j (by simpa using h)
        simpa using ih
    · rw [if_neg hp] at h ⊢
      have h0 : j = 0 := by simpa using h
      subst h0
      simp [hp]
theorem end_step {t : List Int} {k q : Nat} (h1 : k + 1 ≤ q) (hq : q ≤ Tr.endL t k) : q < Tr.endL t k ↔ ∃ x, t[q]? = some x ∧ t.getD k 0 < x := by
  unfold Tr.endL at *
  have h2 := tw_step (fun y => decide (t.getD k 0 < y)) (t.drop (k + 1)) (q - (k + 1)) (by omega)
  rw [List.getElem?_drop, show k + 1 + (q - (k + 1)) = q from by omega] at h2
  simp only [decide_eq_true_eq] at h2
  rw [← h2]; omega
theorem l04End_any (A : Option Addr) (n c B k : Nat) (t : List Int) (w : World) (hl : t.length = n) (hn : n ≤ 1048576) (hk : k < n) (h : Row w B A (ints t)) :
    Calls Tryz.prog 42 #[.slice A n c, .int .i64 k] w fun e w' => e = .returned (.int .i64 ((Tr.endL t k : Nat) : Int)) ∧ ∃ m, w' = w.drewN m := by
  have HL := Lib.hid hl
  obtain ⟨y, hy⟩ := at_lt (show k < t.length by omega)
  have HY : Hid (t.getD k 0 = y) := by rw [Hid, List.getD_eq_getElem?_getD, hy]; rfl
  obtain ⟨b, o, rfl, hbB, hcy⟩ := h k _ (ints_at hy)
  have hE := Tr.endL_le (t := t) (k := k) (by omega)
  rw [hl] at hE
  obtain ⟨en, hen⟩ : ∃ en, en = Tr.endL t k := ⟨_, rfl⟩
  have HEN := Lib.hid hen
  rw [← hen] at hE ⊢
  clear hl hy hen
  go_enter Tryz.func42, Tryz.ntmps42
  go_wp2_with fail
  go_loopw [5] (fun e wr => ∃ (q m : Nat), k + 1 ≤ q ∧ q ≤ en ∧ e = .int .i64 q ∧ wr = w.drewN m) (fun e _ => en - (intOf e).toNat)
  case atStart => exact ⟨k + 1, 0, Nat.le_refl _, hE.1, by go_num, rfl⟩
  case round =>
    obtain ⟨q, m, h1, hq, rfl, rfl⟩ := hrel
    have HS := Lib.hid (end_step (t := t) h1 (by rw [← HEN.out]; exact hq))
    have hk0 : (0 : Int) ≤ (k : Int) := Int.natCast_nonneg _
    have hq0 : (0 : Int) ≤ (q : Int) := Int.natCast_nonneg _
    have hkn : (k : Int) < (n : Int) := by omega
    by_cases hqn : q < n
    · obtain ⟨x, hx⟩ := at_lt (show q < t.length by rw [HL.out]; exact hqn)
      obtain ⟨_, _, e1, _, hcx⟩ := h q _ (ints_at hx)
      cases e1
      have hqi : (q : Int) < (n : Int) := by omega
      have hd : decide ((q : Int) < (n : Int)) = true := decide_eq_true hqi
      by_cases hlt : y < x
      · have hqe : q < en := by
          rw [HEN.out]; refine HS.out.2 ⟨x, hx, ?_⟩
          rw [HY.out]; exact hlt
        have hd2 : decide (y < x) = true := decide_eq_true hlt
        clear hx HS
        go_wp2_with fail
        go_quiet (fail)
        go_wp2
        go_roundw
        case rel => exact ⟨q + 1, _, by omega, by omega, by go_num, rfl⟩
        case measure => simp [intOf]; omega
      · have hqe : q = en := by
          rcases Nat.lt_or_ge q en with g | g
          · rw [HEN.out] at g
            obtain ⟨x', hx', hlt'⟩ := HS.out.1 g
            rw [hx] at hx'; injection hx' with hx'
            rw [HY.out] at hlt'
            omega
          · omega
        have hd2 : decide (y < x) = false := decide_eq_false hlt
        clear hx HS
        subst hqe
        go_wp2_with fail
        go_quiet (fail)
        go_wp2
        go_ret
        exact ⟨rfl, m + nq, World.drewN_drewN ..⟩
    · have hqe : q = en := by omega
      have hqn2 : q = n := by omega
      have hd : decide ((q : Int) < (n : Int)) = false := decide_eq_false (by omega)
      clear HS
      subst hqe
      go_wp2_with fail
      go_quiet (fail)
      go_wp2
      go_ret
      exact ⟨rfl, m + nq, World.drewN_drewN ..⟩
theorem grf_take {u v : List Int} {en j : Nat} {x z : Int} (h : v[j]? = some x) : (u.take en ++ (v.take (j + 1)).map (z + ·)) = (u.take en ++ (v.take j).map (z + ·)) ++ [z + x] := by
  rw [List.take_add_one, h, Option.toList_some, List.map_append, List.append_assoc]; rfl
theorem ints_snoc' (l : List Int) (x : Int) : ints l ++ [.int .i64 x] = ints (l ++ [x]) := by simp [ints, intsK]
theorem ints_app (x y : List Int) : ints (x ++ y) = ints x ++ ints y := by unfold ints intsK; rw [List.map_append]
set_option maxHeartbeats 2000000 in
theorem l04Graft_any (A A' : Option Addr) (n n' c c' B B' k : Nat) (u v : List Int) (w : World) (hl : u.length = n) (hl' : v.length = n') (hn : n ≤ 8) (hn' : n' ≤ 8) (hk : k < n) (hc : n ≤ c) (hu : Tr.isLv u = true) (hv : Tr.isLv v = true) (hlv : Tr.isLv (Tr.gl u k v) = true) (hB : B ≤ w.heap.size) (hB' : B' ≤ w.heap.size) (h : Row w B A (ints u)) (h' : Row w B' A' (ints v)) :
    Calls Tryz.prog 44 #[.slice A n c, .int .i64 k, .slice A' n' c'] w (NewRow 2 (n + n') (ints (Tr.can (Tr.gl u k v))) w) := by
  obtain ⟨i0, hi, hz0, hz1, hz2⟩ := info_parts info_i64
  have HL := Lib.hid hl
  have HL' := Lib.hid hl'
  obtain ⟨y, hy⟩ := at_lt (show k < u.length by omega)
  have hyb := lv_el hu hy
  have HY : Hid (u.getD k 0 = y) := by rw [Hid, List.getD_eq_getElem?_getD, hy]; rfl
  obtain ⟨b, o, rfl, hbB, hcy⟩ := h k _ (ints_at hy)
  have hE := Tr.endL_le (t := u) (k := k) (by omega)
  rw [hl] at hE
  have C0 := l04End_any (some ⟨b, o, none⟩) n c B k u w hl (by omega) hk h
  obtain ⟨en, hen⟩ : ∃ en, en = Tr.endL u k := ⟨_, rfl⟩
  have HGL : Hid (Tr.gl u k v = u.take en ++ v.map (y + 1 + ·) ++ u.drop en) := by
    rw [Hid]; unfold Tr.gl; rw [← hen, HY.out, List.append_assoc]
  have HGN : Hid ((Tr.gl u k v).length = n + n') := by rw [Hid, Tr.gl_length (by rw [← hen, hl]; rw [← hen] at hE; exact hE.2), hl, hl']
  rw [← hen] at hE C0
  have HV := Lib.hid hv
  have HG := Lib.hid hlv
  have HTK : Hid ((u.take en).length = en) := by rw [Hid, List.length_take, hl]; omega
  have hen8 : en ≤ 8 := by omega
  have henc : (en : Int) ≤ (c : Int) := by omega
  have hen0 : (0 : Int) ≤ (en : Int) := Int.natCast_nonneg _
  clear hl hl' hy hen hu hv hlv
  go_enter Tryz.func44, Tryz.ntmps44
  go_wp2_with fail
  refine C0.mono ?_
  rintro e w1 ⟨rfl, m1, rfl⟩
  go_wp2_with fail
  refine (l01Own_any ⟨b, o, none⟩ en c B (u.take en) _ HTK.out (by omega) (by exact hB) (by
    have := Row.takeA (h.drewN m1) en
    unfold ints intsK at *
    rwa [← List.map_take] at this)).mono ?_
  rintro e w2 ⟨A2, c2, rfl, own2, bel2'⟩
  have bel2 : Below w.heap.size w w2 := below_undrew' bel2'
  have own2' : w2.ownsRow w.heap.size 2 1 (.slice A2 en c2) en (ints (u.take en)) := own2
  obtain ⟨g2, cap2, hv2⟩ := own_form own2' (by omega)
  injection hv2 with hA _ hcp
  subst hA hcp
  have F0 : Hid (Growing w 2 g2 (en + 0) c2 (ints (u.take en ++ (v.take 0).map (y + 1 + ·))) w2) := by
    rw [Hid, List.take_zero, List.map_nil, List.append_nil]; exact ⟨own2', bel2⟩
  clear own2 own2' bel2 bel2' C0
  go_wp2_with fail
  go_loopw [8, 9] (fun s i W => ∃ (j g cap : Nat), j ≤ n' ∧ s = .slice (some ⟨g, 0, none⟩) (en + j) cap ∧ i = .int .i64 j ∧ Growing w 2 g (en + j) cap (ints (u.take en ++ (v.take j).map (y + 1 + ·))) W) (fun _ i _ => n' - (intOf i).toNat)
  case atStart => exact ⟨0, g2, c2, Nat.zero_le _, rfl, rfl, F0.out⟩
  case round =>
    obtain ⟨j, g, cap, hj, rfl, rfl, HGr⟩ := hrel
    have hsz := HGr.2.size
    by_cases hlt : j < n'
    · obtain ⟨x, hx⟩ := at_lt (show j < v.length by rw [HL'.out]; exact hlt)
      obtain ⟨b', o', rfl, hb', hcx⟩ := (h'.below HGr.2 hB') j _ (ints_at hx)
      obtain ⟨x0, x8⟩ := lv_el HV.out hx
      have hcy2 : wr.cell? ⟨b, o + k, none⟩ = some (.int .i64 y) := (HGr.2.cell (p := ⟨b, o + k, none⟩) (by show b < w.heap.size; omega)).trans hcy
      have HXS := Lib.hid (grf_take (u := u) (en := en) (z := y + 1) hx)
      have HG' := Lib.hid HGr
      have hown : wr.drew.ownsRow w.heap.size 2 1 (.slice (some ⟨g, 0, none⟩) (en + j) cap) (en + j) (ints (u.take en ++ (v.take j).map (y + 1 + ·))) := ((OwnR.of HGr.1).keep (w' := wr.drew) fun _ _ _ => rfl).1
      have hy0 := hyb.1
      have hy8 := hyb.2
      have hcx' : wr.drew.cell? ⟨b', o' + j, none⟩ = some (.int .i64 x) := hcx
      have hcy' : wr.drew.cell? ⟨b, o + k, none⟩ = some (.int .i64 y) := hcy2
      have hwd : w.heap.size ≤ wr.drew.heap.size := hsz
      have hw1 : IntKind.i64.wrap (y + 1) = y + 1 := IntWalk.i64_in _ (by omega)
      have hw2 : IntKind.i64.wrap (y + 1 + x) = y + 1 + x := IntWalk.i64_in _ (by omega)
      have s0 : (0 : Int) ≤ (k : Int) := Int.natCast_nonneg _
      have s1 : (k : Int) < (n : Int) := by omega
      have s2 : (0 : Int) ≤ (j : Int) := Int.natCast_nonneg _
      have s3 : (j : Int) < (n' : Int) := by omega
      have HG : Hid (∀ (ob : Obj) (W2 : World) (g5 cap5 : Nat), W2.ownsRow w.heap.size 2 1 (.slice (some ⟨g5, 0, none⟩) (en + j + 1) cap5) (en + j + 1) (ints (u.take en ++ (v.take j).map (y + 1 + ·)) ++ [.int .i64 (y + 1 + x)]) → (wr.drew.alloc ob).grownBy W2 (Value.ownBlock (.slice (some ⟨g, 0, none⟩) (en + j) cap)) → Growing w 2 g5 (en + j + 1) cap5 (ints (u.take en ++ (v.take (j + 1)).map (y + 1 + ·))) W2) := fun ob W2 g5 cap5 hown5 hgrow5 => by
        rw [ints_snoc', ← HXS.out] at hown5
        exact HG'.out.step (show Below wr.heap.size wr (wr.drew.alloc ob) from (below_drew' (Below.refl _ _)).alloc (Nat.le_refl _) _) hown5 hgrow5
      clear hx HGr
      go_wp2_with fail
      go_region_law (first | (go_loud (refine step_append_lies _ (by rfl) _ _ 24 (by rfl) w.heap.size 2 i0 _ 1 8 Tryz.underlying24 hi hz0 hz1 hz2 rfl (by omega) (.slice (some ⟨g, 0, none⟩) (en + j) cap) (en + j) (ints (u.take en ++ (v.take j).map (y + 1 + ·))) rfl (hown.alloc _) ⟨wr.drew.heap.size, 0, none⟩ 1 1 [.int .i64 (y + 1 + x)] rfl rfl (World.news_of_block (cs := #[.int .i64 (y + 1 + x)]) (heap_alloc_new _ _)) (by simp [Value.oneCell']) (by omega) (by simp only [maxLen]; omega) (by omega) (by simp; omega) (wr.drew.heap.size + 1) (by simp) ?_); intro g4 cap4 w4 hown4 hgrow4 hat4 hlt4))
      all_goals
        have G := Lib.hid (HG.out _ _ _ _ hown4 hgrow4)
        clear hown4 hgrow4 hat4 hown
        go_wp2
        go_roundw
        case rel => exact ⟨j + 1, g4, cap4, by omega, rfl, by go_num, G.out⟩
        case measure => simp [intOf]; omega
    · obtain rfl : j = n' := by omega
      rw [show v.take j = v from List.take_of_length_le (by rw [HL'.out]; exact Nat.le_refl _)] at HGr
      have HB1 := Lib.hid HGr.2
      have hown := HGr.1
      have HOWN := Lib.hid hown
      have HROW := Lib.hid (h.below HGr.2 hB)
      have HDL : Hid ((ints (u.drop en)).length = (n - en) * 1) := by rw [Hid, ints_length, List.length_drop, HL.out]; omega
      have HON := Lib.hid (ints_cells (u.drop en))
      have HSUM : Hid (en + j + (n - en) = n + j) := by rw [Hid]; omega
      clear HGr
      have fin : ∀ (A9 : Option Addr) (c9 : Nat) (w9 : World), w9.ownsRow w.heap.size 2 1 (.slice A9 (n + j) c9) (n + j) (ints (Tr.gl u k v)) → Below w.heap.size w w9 → Calls Tryz.prog 25 #[.slice A9 (n + j) c9] w9 (NewRow 2 (n + j) (ints (Tr.can (Tr.gl u k v))) w) := by
        intro A9 c9 w9 ho hb
        refine (l03Canon_any A9 (n + j) c9 w9.heap.size (Tr.gl u k v) w9 HGN.out HG.out (Nat.le_refl _) (row_of_own ho)).mono ?_
        rintro e w10 ⟨A10, c10, rfl, own10, bel10⟩
        exact ⟨A10, c10, rfl, ((OwnR.of own10).more hb.size (Nat.le_refl _)).1, hb.trans (bel10.mono hb.size)⟩
      have HFIN := Lib.hid fin
      clear fin
      by_cases hec : en = c
      · have hz : n - en = 0 := by omega
        have HDZ : Hid ((ints (u.drop en)).length = 0 * 1) := by rw [Hid, HDL.out, hz]
        have HSZ : Hid (en + j + 0 = n + j) := by rw [Hid]; omega
        have HNW : Hid (∀ q z, (ints (u.drop en))[q]? = some z → wr.cell? ((⟨b, o, none⟩ : Addr).add q) = some z) := fun q z hz' => by
          have := HDL.out
          rw [hz, Nat.zero_mul] at this
          rw [List.length_eq_zero_iff.1 this] at hz'; simp at hz'
        go_wp2_with (at_builtin; go_loud (refine wpList_append_own _ rfl (.tmp 36) (.tmp 39) 24 rfl w.heap.size 2 i0 _ 1 8 Tryz.underlying24 hi hz0 hz1 hz2 rfl (by omega) (.slice (some ⟨g, 0, none⟩) (en + j) cap) (en + j) (ints (u.take en ++ v.map (y + 1 + ·))) rfl hown ⟨b, o, none⟩ 0 0 (ints (u.drop en)) rfl HDZ.out HNW.out HON.out (by simp only [maxLen]; omega) (by omega) (by omega) ?_); intro v5 w5 own5 hgrow5 _; rw [HSZ.out] at own5; obtain ⟨A5, c5, rfl⟩ := own_shape' own5)
        rw [← ints_app, ← HGL.out] at own5
        have GB : Hid (Below w.heap.size w w5) := HB1.out.grown hgrow5 (by omega) (fun z hz => (HOWN.out.lt z hz).1)
        have GO := Lib.hid own5
        clear own5 hgrow5 hown
        go_wp2_with fail
        refine (HFIN.out A5 c5 w5 GO.out GB.out).mono ?_
        rintro e w6 ⟨A6, c6, rfl, own6, bel6⟩
        have GF : Hid (NewRow 2 (n + j) (ints (Tr.can (Tr.gl u k v))) w (.returned (.slice A6 (n + j) c6)) w6) := ⟨_, _, rfl, own6, bel6⟩
        clear own6 bel6
        go_wp2
        go_ret
        exact GF.out
      · have HNW : Hid (∀ q z, (ints (u.drop en))[q]? = some z → wr.cell? ((⟨b, o + en, none⟩ : Addr).add q) = some z) := by
          have := Row.dropA (k := en) HROW.out
          have h9 := row_news this
          unfold ints intsK at *
          rwa [← List.map_drop] at h9
        go_wp2_with (at_builtin; go_loud (refine wpList_append_own _ rfl (.tmp 36) (.tmp 39) 24 rfl w.heap.size 2 i0 _ 1 8 Tryz.underlying24 hi hz0 hz1 hz2 rfl (by omega) (.slice (some ⟨g, 0, none⟩) (en + j) cap) (en + j) (ints (u.take en ++ v.map (y + 1 + ·))) rfl hown ⟨b, o + en, none⟩ (n - en) (c - en) (ints (u.drop en)) rfl HDL.out HNW.out HON.out (by simp only [maxLen]; omega) (by omega) (by omega) ?_); intro v5 w5 own5 hgrow5 _; rw [HSUM.out] at own5; obtain ⟨A5, c5, rfl⟩ := own_shape' own5)
        rw [← ints_app, ← HGL.out] at own5
        have GB : Hid (Below w.heap.size w w5) := HB1.out.grown hgrow5 (by omega) (fun z hz => (HOWN.out.lt z hz).1)
        have GO := Lib.hid own5
        clear own5 hgrow5 hown
        go_wp2_with fail
        refine (HFIN.out A5 c5 w5 GO.out GB.out).mono ?_
        rintro e w6 ⟨A6, c6, rfl, own6, bel6⟩
        have GF : Hid (NewRow 2 (n + j) (ints (Tr.can (Tr.gl u k v))) w (.returned (.slice A6 (n + j) c6)) w6) := ⟨_, _, rfl, own6, bel6⟩
        clear own6 bel6
        go_wp2
        go_ret
        exact GF.out
end Go.Proofs.YtjmjdcfgbaepkaaGreat
/-
  An append in a drawn region; what a branch takes.
-/
namespace Go.Proofs.YtjmjdcfgbaepkaaGreat
open Go.RowKit Fld
set_option linter.unusedVariables false
set_option linter.unusedSimpArgs false
set_option maxRecDepth 100000

theorem step_append_own' {P : Program} {w : World} {ops : Array Oper} {o : Oper} {a : Act} {K : Act → World → Prop} {Q : Exit → Act → World → Prop} {E : Prop} (hgd : o.guard = none) (s x : Operand) (t : TypeId)
    (ho : o.op = .call { callee := .builtin .append, args := #[s, x], argTypes := #[t, t] })
    (base : Nat) (e : TypeId) (i : TypeInfo) (z : Value) (size bytes : Nat) (ht : P.underlying t = some (.slice e)) (hi : P.info? e = some i) (hz : i.zero = some z)
    (hsize : i.size = size) (hby : i.bytes = bytes) (hzs : z.cells.size = size) (hsz : 0 < size)
    (v : Value) (n : Nat) (xs : List Value) (hs : a.eval s = v) (hown : w.ownsRow base e size v n xs)
    (ad : Addr) (m c : Nat) (news : List Value) (hx : a.eval x = .slice (some ad) m c) (hl : news.length = m * size) (hnews : ∀ j u, news[j]? = some u → w.cell? (ad.add j) = some u) (h1 : ∀ u ∈ news, u.oneCell' = true)
    (h63 : n + m ≤ maxLen) (hbytes : (n + m) * bytes ≤ 140737488355328) (hbase : base ≤ w.heap.size)
    (h : ∀ v' w', w'.ownsRow base e size v' (n + m) (xs ++ news) → w.grownBy w' v.ownBlock → (v' = .slice none 0 0 ↔ v = .slice none 0 0 ∧ m = 0) → K (a.put o.dst v') w') :
    if Region.wanted o (yielded ops a.tmps) = true then Oper.wp P o a w K Q else E := by
  have hw : Region.wanted o (yielded ops a.tmps) = true := by simp [Region.wanted, hgd]
  rw [if_pos hw]
  exact wp_append_own w s x t ho base e i z size bytes ht hi hz hsize hby hzs hsz v n xs hs hown ad m c news hx hl hnews h1 h63 hbytes hbase h
theorem branch_take {t : List Int} {k j : Nat} {x y : Int} (h : t[k + j]? = some x) : ((t.drop k).take (j + 1)).map (· - y) = ((t.drop k).take j).map (· - y) ++ [x - y] := by
  rw [List.take_add_one, List.getElem?_drop, h, Option.toList_some, List.map_append]; rfl
end Go.Proofs.YtjmjdcfgbaepkaaGreat
/-
  The model's rerooting of lists.
-/
namespace Go.Proofs.YtjmjdcfgbaepkaaGreat
open Go.RowKit Fld
set_option linter.unusedVariables false
set_option linter.unusedSimpArgs false
set_option maxRecDepth 100000

theorem parL_step {t : List Int} {x z : Int} {p : Nat} (h : t[p]? = some z) : Tr.parL t x (p + 1) = if z = x then p else Tr.parL t x p := by
  rw [Tr.parL, List.getD_eq_getElem?_getD, h]; rfl
def TurnAt (d : Nat) : Prop := ∀ (A : Option Addr) (n c B k : Nat) (t : List Int) (w : World), t.length = n → Tr.isLv t = true → k < n → k < d → n ≤ c → B ≤ w.heap.size → Row w B A (ints t) →
    Calls Tryz.prog 24 #[.slice A n c, .int .i64 k] w (NewRow 2 n (ints (Tr.turnF d t k)) w)
theorem turnAt_zero : TurnAt 0 := fun A n c B k t w _ _ _ hd _ _ _ => by omega
set_option maxHeartbeats 4000000 in
theorem turnAt_succ (d : Nat) (IH : TurnAt d) : TurnAt (d + 1) := by
  intro A n c B k t w hl ht hk hd hc hB h
  obtain ⟨i0, hi, hz0, hz1, hz2⟩ := info_parts info_i64
  have h8 := (lv_bd ht).2
  rw [hl] at h8
  cases k with
  | zero =>
    have C0 := l03Canon_any A n c B t w hl ht hB h
    have HZ : Hid (Tr.turnF (d + 1) t 0 = Tr.can t) := rfl
    rw [HZ.out]
    clear HZ hl ht
    go_enter Tryz.func24, Tryz.ntmps24
    go_wp2_with fail
    refine C0.mono ?_
    rintro e w1 ⟨A1, c1, rfl, own1, bel1⟩
    have G : Hid (NewRow 2 n (ints (Tr.can t)) w (.returned (.slice A1 n c1)) w1) := ⟨_, _, rfl, own1, bel1⟩
    clear own1 bel1 C0
    go_wp2
    go_ret
    exact G.out
  | succ k =>
    obtain ⟨p1, p2, p3, p4, p5⟩ := Tr.par_parts ht (k := k) (by omega)
    obtain ⟨i1, i2⟩ := turn_lv d _ _ p4 p3 (by omega)
    have l1 := trunk_length (t := t) (k := k + 1) (by omega)
    have l2 := branch_length (t := t) (k := k + 1) (by omega)
    have hE := Tr.endL_le (t := t) (k := k + 1) (by omega)
    rw [hl] at hE
    have C0 := fun W (hb : Below w.heap.size w W) => l04End_any A n c B (k + 1) t W hl (by omega) hk (Row.below h hb hB)
    obtain ⟨g1, g2⟩ := Tr.graft_root p5 i1 (by rw [i2, l1, l2, hl]; omega)
    have HTF : Hid (Tr.turnF (d + 1) t (k + 1) = Tr.can (Tr.gl (Tr.branchL t (k + 1)) 0 (Tr.turnF d (Tr.trunkL t (k + 1)) (Tr.parL t (t.getD (k + 1) 0 - 1) (k + 1))))) := rfl
    rw [HTF.out]
    obtain ⟨y, hy⟩ := at_lt (show k + 1 < t.length by omega)
    have hyb := lv_el ht hy
    have hyd : t.getD (k + 1) 0 = y := by rw [List.getD_eq_getElem?_getD, hy]; rfl
    have HRD : Hid (Tr.branchL t (k + 1) = ((t.drop (k + 1)).take (Tr.endL t (k + 1) - (k + 1))).map (· - y)) := by rw [Hid, ← hyd]; rfl
    have HTD : Hid (Tr.trunkL t (k + 1) = t.take (k + 1) ++ t.drop (Tr.endL t (k + 1))) := rfl
    rw [hyd] at p1 p2 p3 g2 i1 i2 ⊢
    obtain ⟨b, o, rfl, hbB, hcy⟩ := h (k + 1) _ (ints_at hy)
    obtain ⟨en, hen⟩ : ∃ en, en = Tr.endL t (k + 1) := ⟨_, rfl⟩
    obtain ⟨pr, hpr⟩ : ∃ pr, pr = Tr.parL t (y - 1) (k + 1) := ⟨_, rfl⟩
    simp only [← hen] at C0
    rw [← hen] at hE l1 l2 HRD HTD
    rw [hl] at l1
    rw [← hpr] at p1 p2 p3 g2 i1 i2 ⊢
    have HPR := Lib.hid hpr
    have HP1 := Lib.hid p1
    have HTT := Lib.hid p4
    have HRR := Lib.hid p5
    have HI1 := Lib.hid i1
    have HI2 : Hid ((Tr.turnF d (Tr.trunkL t (k + 1)) pr).length = n - (en - (k + 1))) := by rw [Hid, i2, l1]
    have HTL := Lib.hid l1
    have HRL := Lib.hid l2
    have HG2 := Lib.hid g2
    have HT := Lib.hid ht
    have HL := Lib.hid hl
    have hp3 : pr < n - (en - (k + 1)) := by rw [← l1]; exact p3
    have hen8 : en ≤ 8 := by omega
    have tk := beq_f (show ¬ ((k + 1 : Nat) : Int) = 0 by omega)
    obtain ⟨kk, hkk⟩ : ∃ kk, kk = k + 1 := ⟨_, rfl⟩
    have hkm : ((k + 1 : Nat) : Int) - 1 = (k : Int) := by omega
    simp only [← hkk] at C0
    rw [← hkk] at tk hkm hcy hE hk hpr HPR HRD HTD HTL HRL HTT HRR HI1 HI2 HG2 hp3 ⊢
    have hk1 : 1 ≤ kk := by omega
    have hk2 : k < kk := by omega
    have hk3 : kk ≤ k + 1 := by omega
    have HKK := Lib.hid hkk
    clear hkk
    clear hl ht hy hen hpr p1 p3 p4 p5 g1 g2 i1 i2 l1 l2 hyd HTF
    go_enter Tryz.func24, Tryz.ntmps24
    go_wp2_with fail
    go_loopw [5] (fun pv wr => ∃ (p m : Nat), p ≤ k ∧ pv = .int .i64 p ∧ wr = w.drewN m ∧ Hid (Tr.parL t (y - 1) (p + 1) = pr)) (fun pv _ => (intOf pv).toNat)
    case atStart => exact ⟨k, 0, Nat.le_refl _, by go_num, rfl, by rw [Hid, HPR.out, HKK.out]⟩
    case round =>
      obtain ⟨p, m, hp, rfl, rfl, HPP⟩ := hrel
      obtain ⟨x, hx⟩ := at_lt (show p < t.length by rw [HL.out]; omega)
      obtain ⟨x0, x8⟩ := lv_el HT.out hx
      obtain ⟨_, _, e1, _, hcx⟩ := h p _ (ints_at hx)
      cases e1
      have HST := Lib.hid (parL_step (x := y - 1) hx)
      have s0 : (0 : Int) ≤ (p : Int) := Int.natCast_nonneg _
      have s1 : (p : Int) < (n : Int) := by omega
      have s2 : (0 : Int) ≤ (kk : Int) := Int.natCast_nonneg _
      have s3 : (kk : Int) < (n : Int) := by omega
      have hy0 := hyb.1
      have hy8 := hyb.2
      have hw1 : IntKind.i64.wrap (y - 1) = y - 1 := IntWalk.i64_in _ (by omega)
      by_cases hxe : x = y - 1
      · have HPE : Hid (pr = p) := by rw [Hid, ← HPP.out, HST.out, if_pos hxe]
        have tx := beq_t hxe
        clear hx HST HPP
        go_wp2_with fail
        go_quiet (fail)
        go_wp2_with fail
        refine (C0 _ (below_drewN (Below.refl _ _) _)).mono ?_
        rintro e w1 ⟨rfl, m1, rfl⟩
        have hWz : Hid (Below w.heap.size w (w.drewN (m + nq + m1))) := below_drewN (Below.refl _ _) _
        go_wp2_with fail
        go_loopw [7, 8] (fun s i W => ∃ (j g cap : Nat), j ≤ en - kk ∧ s = .slice (some ⟨g, 0, none⟩) j cap ∧ i = .int .i64 ((kk + j : Nat) : Int) ∧ Growing w 2 g j cap (ints (((t.drop kk).take j).map (· - y))) W) (fun _ i _ => en - (intOf i).toNat)
        case atStart => exact ⟨0, _, 0, Nat.zero_le _, rfl, by go_num, ⟨(Growing.start (w.drewN (m + nq + m1)) 2).1, hWz.out.alloc (Nat.le_refl _) _⟩⟩
        case round =>
          obtain ⟨j, g, cap, hj, rfl, rfl, HGr⟩ := hrel
          have hsz := HGr.2.size
          by_cases hlt : kk + j < en
          · obtain ⟨x, hx⟩ := at_lt (show kk + j < t.length by rw [HL.out]; omega)
            obtain ⟨x0, x8⟩ := lv_el HT.out hx
            obtain ⟨_, _, e1, _, hcx⟩ := (Row.below h HGr.2 hB) (kk + j) _ (ints_at hx)
            cases e1
            have hcy2 : wr.cell? ⟨b, o + kk, none⟩ = some (.int .i64 y) := (HGr.2.cell (p := ⟨b, o + kk, none⟩) (by show b < w.heap.size; omega)).trans hcy
            have HXS := Lib.hid (branch_take (y := y) hx)
            have HG' := Lib.hid HGr
            have hown : wr.drew.ownsRow w.heap.size 2 1 (.slice (some ⟨g, 0, none⟩) j cap) j (ints (((t.drop kk).take j).map (· - y))) := ((OwnR.of HGr.1).keep (w' := wr.drew) fun _ _ _ => rfl).1
            have hcx' : wr.drew.cell? ⟨b, o + (kk + j), none⟩ = some (.int .i64 x) := hcx
            have hcy' : wr.drew.cell? ⟨b, o + kk, none⟩ = some (.int .i64 y) := hcy2
            have hwd : w.heap.size ≤ wr.drew.heap.size := hsz
            have hw2 : IntKind.i64.wrap (x - y) = x - y := IntWalk.i64_in _ (by omega)
            obtain ⟨q, hq⟩ : ∃ q, q = kk + j := ⟨_, rfl⟩
            have HQ := Lib.hid hq
            rw [← hq] at hcx' hlt ⊢
            have s5 : (0 : Int) ≤ (q : Int) := Int.natCast_nonneg _
            have s6 : (q : Int) < (n : Int) := by omega
            have s4 : (q : Int) < (en : Int) := by omega
            have HG : Hid (∀ (ob : Obj) (W2 : World) (g5 cap5 : Nat), W2.ownsRow w.heap.size 2 1 (.slice (some ⟨g5, 0, none⟩) (j + 1) cap5) (j + 1) (ints (((t.drop kk).take j).map (· - y)) ++ [.int .i64 (x - y)]) → (wr.drew.alloc ob).grownBy W2 (Value.ownBlock (.slice (some ⟨g, 0, none⟩) j cap)) → Growing w 2 g5 (j + 1) cap5 (ints (((t.drop kk).take (j + 1)).map (· - y))) W2) := fun ob W2 g5 cap5 hown5 hgrow5 => by
              rw [ints_snoc', ← HXS.out] at hown5
              exact HG'.out.step (show Below wr.heap.size wr (wr.drew.alloc ob) from (below_drew' (Below.refl _ _)).alloc (Nat.le_refl _) _) hown5 hgrow5
            clear hx HGr hq hcx hcy2
            go_wp2_with fail
            go_region_law (first | (go_loud (refine step_append_lies _ (by rfl) _ _ 24 (by rfl) w.heap.size 2 i0 _ 1 8 Tryz.underlying24 hi hz0 hz1 hz2 rfl (by omega) (.slice (some ⟨g, 0, none⟩) j cap) j (ints (((t.drop kk).take j).map (· - y))) rfl (hown.alloc _) ⟨wr.drew.heap.size, 0, none⟩ 1 1 [.int .i64 (x - y)] rfl rfl (World.news_of_block (cs := #[.int .i64 (x - y)]) (heap_alloc_new _ _)) (by simp [Value.oneCell']) (by omega) (by simp only [maxLen]; omega) (by omega) (by simp; omega) (wr.drew.heap.size + 1) (by simp) ?_); intro g4 cap4 w4 hown4 hgrow4 hat4 hlt4))
            all_goals
              have G := Lib.hid (HG.out _ _ _ _ hown4 hgrow4)
              clear hown4 hgrow4 hat4 hown
              go_wp2
              go_roundw
              case rel => exact ⟨j + 1, g4, cap4, by have := HQ.out; omega, rfl, by have := HQ.out; go_num, G.out⟩
              case measure => simp [intOf]; omega
          · have hje : j = en - kk := by omega
            have hke : kk + j = en := by omega
            rw [hje, ← HRD.out, ← hje] at HGr
            have HB1 := Lib.hid HGr.2
            have HO1 := Lib.hid HGr.1
            have hs1 := HGr.2.size
            have HROW := Lib.hid (Row.below h HGr.2 hB)
            have hkc : (kk : Int) ≤ (c : Int) := by omega
            have henc : (en : Int) ≤ (c : Int) := by omega
            have HTK : Hid ((t.take kk).length = kk) := by rw [Hid, List.length_take, HL.out]; omega
            have HDL : Hid ((ints (t.drop en)).length = (n - en) * 1) := by rw [Hid, ints_length, List.length_drop, HL.out]; omega
            have HON := Lib.hid (ints_cells (t.drop en))
            have HSUM : Hid (kk + (n - en) = n - (en - kk)) := by rw [Hid]; omega
            clear HGr C0
            rw [hke]
            clear hje hke
            have HLR : Hid ((Tr.branchL t kk).length = j) := by rw [Hid, ← ints_length, own_len HO1.out]
            have CO : ∀ W, Below wr.heap.size wr W → Calls Tryz.prog 43 #[.slice (some ⟨b, o, none⟩) kk c] W (fun e W' => ∃ A' c', e = .returned (.slice A' kk c') ∧ W'.ownsRow W.heap.size 2 1 (.slice A' kk c') kk (ints (t.take kk)) ∧ Below W.heap.size W W') := fun W hb =>
              l01Own_any ⟨b, o, none⟩ kk c B (t.take kk) W HTK.out (by omega) (by have := hb.size; omega) (by
                have := Row.takeA (Row.below HROW.out hb (by omega)) kk
                unfold ints intsK at *
                rwa [← List.map_take] at this)
            have BW : Below wr.heap.size wr wr.drew := below_drew' (Below.refl _ _)
            have HNW : Hid (∀ (AE : Addr), (if c = en then (some ⟨b, o, none⟩ : Option Addr) else some ⟨b, o + en, none⟩) = some AE → ∀ W, Below wr.heap.size wr W → ∀ q z, (ints (t.drop en))[q]? = some z → W.cell? (AE.add q) = some z) := fun AE hAE W hb q z hz => by
              by_cases hc2 : c = en
              · have h0 : (ints (t.drop en)).length = 0 := by rw [HDL.out]; omega
                rw [List.length_eq_zero_iff.1 h0] at hz; simp at hz
              · rw [if_neg hc2] at hAE
                injection hAE with hAE
                subst hAE
                have h9 := row_news (Row.dropA (k := en) (Row.below HROW.out hb (by omega)))
                unfold ints intsK at *
                rw [← List.map_drop] at h9
                exact h9 q z hz
            obtain ⟨AE, hAE⟩ : ∃ AE, (if c = en then (some ⟨b, o, none⟩ : Option Addr) else some ⟨b, o + en, none⟩) = some AE := by
              by_cases hc2 : c = en
              · exact ⟨_, if_pos hc2⟩
              · exact ⟨_, if_neg hc2⟩
            have HNX := Lib.hid (HNW.out AE hAE)
            clear HNW
            have hn' : n - en ≤ 8 := by omega
            have hpe := HPE.out
            subst hpe
            go_wp2_with fail
            refine wp_region_noPanic ?_
            refine wp_region_held_drew (S := (fun w' => True)) (by kernel_rfl) ?_ (fun hHeld => ?_)
            · trivial
            refine wpAnyH_take (i := 0) (oi := _) (v := ?_) rfl (by kernel_rfl) (by kernel_rfl) (by kernel_rfl) (fun _ _ _ h => h) (Or.inl ⟨by kernel_rfl, ?_⟩) (by assumption) ?_
            rotate_left
            · (intro w hSw; (try dsimp only at hSw); go_simp; try (with_reducible rfl))
            try simp only [Act.put, List.setIfInBounds_toArray, List.set_cons_zero, List.set_cons_succ, List.getElem_toArray, List.getElem_cons_zero, List.getElem_cons_succ]
            refine wpAnyH_take (i := 1) (oi := _) (v := ?_) rfl (by kernel_rfl) (by kernel_rfl) (by kernel_rfl) (fun _ _ _ h => h) (Or.inl ⟨by kernel_rfl, ?_⟩) (by assumption) ?_
            rotate_left
            · (intro w hSw; (try dsimp only at hSw); go_simp; try (with_reducible rfl))
            try simp only [Act.put, List.setIfInBounds_toArray, List.set_cons_zero, List.set_cons_succ, List.getElem_toArray, List.getElem_cons_zero, List.getElem_cons_succ]
            refine wpAnyH_take (i := 2) (oi := _) (v := ?_) rfl (by kernel_rfl) (by kernel_rfl) (by kernel_rfl) (fun _ _ _ h => h) (Or.inl ⟨by kernel_rfl, ?_⟩) (by assumption) ?_
            rotate_left
            · (intro w hSw; (try dsimp only at hSw); go_simp; try (with_reducible rfl))
            try simp only [Act.put, List.setIfInBounds_toArray, List.set_cons_zero, List.set_cons_succ, List.getElem_toArray, List.getElem_cons_zero, List.getElem_cons_succ]
            refine wpAnyH_take (i := 4) (oi := _) (v := ?_) rfl (by kernel_rfl) (by kernel_rfl) (by kernel_rfl) (fun _ _ _ h => h) (Or.inl ⟨by kernel_rfl, ?_⟩) (by assumption) ?_
            rotate_left
            · (intro w hSw; (try dsimp only at hSw); go_simp; try (with_reducible rfl))
            try simp only [Act.put, List.setIfInBounds_toArray, List.set_cons_zero, List.set_cons_succ, List.getElem_toArray, List.getElem_cons_zero, List.getElem_cons_succ]
            refine wpAnyH_take (i := 5) (oi := _) (v := ?_) rfl (by kernel_rfl) (by kernel_rfl) (by kernel_rfl) (fun _ _ _ h => h) (Or.inl ⟨by kernel_rfl, ?_⟩) (by assumption) ?_
            rotate_left
            · (intro w hSw; (try dsimp only at hSw); go_simp; try (with_reducible rfl))
            try simp only [Act.put, List.setIfInBounds_toArray, List.set_cons_zero, List.set_cons_succ, List.getElem_toArray, List.getElem_cons_zero, List.getElem_cons_succ]
            refine wpAnyH_take (i := 6) (oi := _) (v := ?_) rfl (by kernel_rfl) (by kernel_rfl) (by kernel_rfl) (fun _ _ _ h => h) (Or.inl ⟨by kernel_rfl, ?_⟩) (by assumption) ?_
            rotate_left
            · (intro w hSw; (try dsimp only at hSw); go_simp; try (with_reducible rfl))
            try simp only [Act.put, List.setIfInBounds_toArray, List.set_cons_zero, List.set_cons_succ, List.getElem_toArray, List.getElem_cons_zero, List.getElem_cons_succ]
            refine wpAnyH_ready (rs := [3]) (by kernel_rfl) (by simp) (AllReadyH.cons (o := _) rfl (fun K hK => ?_) AllReadyH.nil)
            go_simp
            (go_at_call 43; refine (CO _ BW).mono ?_; rintro e w2 ⟨A2, c2, rfl, own2', bel⟩)
            have own2 := OwnR.of own2'
            have lz2 := BW.size
            have zz2 := bel.size
            replace BW := BW.trans (bel.mono BW.size)
            clear own2' bel
            go_wp2_with fail
            refine hK.out _ _ ?_ (fun hHeld => ?_)
            · trivial
            clear hK K
            try simp only [Act.put, List.setIfInBounds_toArray, List.set_cons_zero, List.set_cons_succ, List.getElem_toArray, List.getElem_cons_zero, List.getElem_cons_succ]
            refine wpAnyH_ready (rs := [7]) (by kernel_rfl) (by simp) (AllReadyH.cons (o := _) rfl (fun K hK => ?_) AllReadyH.nil)
            refine step_append_own' (by rfl) _ _ 24 (by rfl) _ 2 i0 _ 1 8 Tryz.underlying24 hi hz0 hz1 hz2 rfl (by omega) (.slice A2 kk c2) kk (ints (t.take kk)) (by rfl) own2.1 AE (n - en) (c - en) (ints (t.drop en)) (by rfl) HDL.out (HNX.out _ BW) HON.out (by simp only [maxLen]; omega) (by omega) (by omega) ?_
            intro v3 w3 own3' hgrow3 _
            rw [HSUM.out] at own3'
            obtain ⟨A3, c3, rfl⟩ := own_shape' own3'
            rw [← ints_app, ← HTD.out] at own3'
            have own3 := Lib.hid (OwnR.of own3')
            have zz3 := hgrow3.size
            replace BW := BW.grown hgrow3 BW.size (fun z hz => by have := (own2.1.lt z hz).1; omega)
            clear own3' hgrow3 own2
            refine hK.out _ _ ?_ (fun hHeld => ?_)
            · trivial
            clear hK K
            try simp only [Act.put, List.setIfInBounds_toArray, List.set_cons_zero, List.set_cons_succ, List.getElem_toArray, List.getElem_cons_zero, List.getElem_cons_succ]
            refine wpAnyH_take (i := 8) (oi := _) (v := ?_) rfl (by kernel_rfl) (by kernel_rfl) (by kernel_rfl) (fun _ _ _ h => h) (Or.inl ⟨by kernel_rfl, ?_⟩) (by assumption) ?_
            rotate_left
            · (intro w hSw; (try dsimp only at hSw); go_simp; try (with_reducible rfl))
            try simp only [Act.put, List.setIfInBounds_toArray, List.set_cons_zero, List.set_cons_succ, List.getElem_toArray, List.getElem_cons_zero, List.getElem_cons_succ]
            refine wpAnyH_done (by kernel_rfl) ?_ _
            refine NoPanic.normal ?_
            have HB3 := Lib.hid (HB1.out.trans (BW.mono hs1))
            have HBW := Lib.hid BW
            have hs3 := HB3.out.size
            have hc3 := (own_cap own3.out.1).1
            clear BW CO
            have hj8 : j ≤ 8 := by omega
            go_wp2_with fail
            refine (IH A3 (n - (en - kk)) c3 w3.heap.size pr (Tr.trunkL t kk) w3 HTL.out HTT.out hp3 (by omega) hc3 (Nat.le_refl _) (row_of_own own3.out.1)).mono ?_
            rintro e w5 ⟨A5, c5, rfl, own5, bel5⟩
            have HB5 := Lib.hid (HB3.out.trans (bel5.mono hs3))
            have R5 := Lib.hid (row_of_own own5)
            have HRB : Hid (Row w5 w5.heap.size (some ⟨g, 0, none⟩) (ints (Tr.branchL t kk))) := (Row.below (Row.below (row_of_own HO1.out) HBW.out (Nat.le_refl _)) bel5 (by have := HBW.out.size; omega)).more (by have := HBW.out.size; have := bel5.size; omega)
            have hc1 := (own_cap HO1.out).1
            clear own5 bel5
            go_wp2_with fail
            refine (l04Graft_any (some ⟨g, 0, none⟩) A5 j (n - (en - kk)) cap c5 w5.heap.size w5.heap.size 0 (Tr.branchL t kk) (Tr.turnF d (Tr.trunkL t kk) pr) w5 HLR.out HI2.out hj8 (by omega) (by omega) hc1 HRR.out HI1.out HG2.out (Nat.le_refl _) (Nat.le_refl _) HRB.out R5.out).mono ?_
            rintro e w6 ⟨A6, c6, rfl, own6, bel6⟩
            have HS6 : Hid (j + (n - (en - kk)) = n) := by rw [Hid]; omega
            have hs5 := HB5.out.size
            rw [HS6.out] at own6 ⊢
            have G : Hid (NewRow 2 n (ints (Tr.can (Tr.gl (Tr.branchL t kk) 0 (Tr.turnF d (Tr.trunkL t kk) pr)))) w (.returned (.slice A6 n c6)) w6) := ⟨_, _, rfl, ((OwnR.of own6).more hs5 (Nat.le_refl _)).1, HB5.out.trans (bel6.mono hs5)⟩
            clear own6 bel6
            go_wp2
            go_ret
            exact G.out
      · have HPE : Hid (Tr.parL t (y - 1) p = pr) := by rw [Hid, ← HPP.out, HST.out, if_neg hxe]
        have hp1 : 1 ≤ p := by
          rcases Nat.eq_zero_or_pos p with z | z
          · exfalso
            subst z
            have e := HPE.out
            rw [Tr.parL] at e
            have := HP1.out
            rw [← e, List.getD_eq_getElem?_getD, hx] at this
            exact hxe this
          · exact z
        have tx := beq_f hxe
        clear hx HST HPP
        go_wp2_with fail
        go_quiet (fail)
        go_wp2
        go_roundw
        case rel => exact ⟨p - 1, _, by omega, by go_num, rfl, by rw [Hid, show p - 1 + 1 = p from by omega]; exact HPE.out⟩
        case measure => simp [intOf]; omega
theorem turnAt_all : ∀ d, TurnAt d
  | 0 => turnAt_zero
  | d+1 => turnAt_succ d (turnAt_all d)
end Go.Proofs.YtjmjdcfgbaepkaaGreat
/-
  Does a node exist?
-/
namespace Go.Proofs.YtjmjdcfgbaepkaaGreat
open Go.RowKit Fld
set_option linter.unusedVariables false
set_option linter.unusedSimpArgs false
set_option maxRecDepth 100000

theorem hasNode_any' (A : Option Addr) (n c : Nat) (k : Int) (w : World) (hn : n ≤ 1048576) : Calls Tryz.prog 18 #[.slice A n c, .int .i64 k] w fun e w' => e = .returned (.bool (decide (0 ≤ k ∧ k < (n : Int)))) ∧ ∃ m, w' = w.drewN m := by
  by_cases h0 : 0 ≤ k
  · by_cases h1 : k < (n : Int)
    · have G : Hid (decide (0 ≤ k ∧ k < (n : Int)) = true) := decide_eq_true ⟨h0, h1⟩
      have d0 : decide (0 ≤ k) = true := decide_eq_true h0
      have d1 : decide (k < (n : Int)) = true := decide_eq_true h1
      go_enter Tryz.func18, Tryz.ntmps18
      go_wp2
      go_ret
      exact ⟨by first | rfl | exact ret_bool G.out.symm, 0, rfl⟩
    · have G : Hid (decide (0 ≤ k ∧ k < (n : Int)) = false) := decide_eq_false (fun h => h1 h.2)
      have d0 : decide (0 ≤ k) = true := decide_eq_true h0
      have d1 : decide (k < (n : Int)) = false := decide_eq_false h1
      go_enter Tryz.func18, Tryz.ntmps18
      go_wp2
      go_ret
      exact ⟨by first | rfl | exact ret_bool G.out.symm, 0, rfl⟩
  · have G : Hid (decide (0 ≤ k ∧ k < (n : Int)) = false) := decide_eq_false (fun h => h0 h.1)
    have d0 : decide (0 ≤ k) = false := decide_eq_false h0
    go_enter Tryz.func18, Tryz.ntmps18
    go_wp2
    go_ret
    exact ⟨by first | rfl | exact ret_bool G.out.symm, 0, rfl⟩
end Go.Proofs.YtjmjdcfgbaepkaaGreat
/-
  What RerootAt answers, the program's and the model's.
-/
namespace Go.Proofs.YtjmjdcfgbaepkaaGreat
open Go.RowKit Fld
set_option linter.unusedVariables false
set_option linter.unusedSimpArgs false
set_option maxRecDepth 100000

def rerootA (t : List Int) (k : Int) : List Int × Int :=
  if Tr.isLv t = true then (if 0 ≤ k ∧ k < (t.length : Int) then (Tr.turnF 9 (Tr.can t) k.toNat, 0) else ([], 2)) else ([], 1)
theorem rerootA_no {t : List Int} {k : Int} (h : Tr.isLv t = false) : rerootA t k = ([], 1) := if_neg (by rw [h]; simp)
theorem rerootA_out {t : List Int} {k : Int} (h : Tr.isLv t = true) (hk : ¬ (0 ≤ k ∧ k < (t.length : Int))) : rerootA t k = ([], 2) := by unfold rerootA; rw [if_pos h, if_neg hk]
theorem rerootA_yes {t : List Int} {k : Nat} (h : Tr.isLv t = true) (hk : k < t.length) : rerootA t (k : Int) = (Tr.turnF 9 (Tr.can t) k, 0) := by
  unfold rerootA; rw [if_pos h, if_pos (by omega)]; rfl
theorem reroot_parts {t : List Int} {k : Nat} (h : Tr.isLv t = true) (hk : k < t.length) :
    Tr.txt (Tr.turnF 9 (Tr.can t) k) = Tr.rerF 8 (Tr.txt t) k [] ∧ Tr.isLv (Tr.turnF 9 (Tr.can t) k) = true ∧ Tr.can (Tr.turnF 9 (Tr.can t) k) = Tr.turnF 9 (Tr.can t) k ∧ (Tr.turnF 9 (Tr.can t) k).length = t.length := by
  obtain ⟨c1, c2⟩ := lv_can h
  obtain ⟨c3, c4⟩ := Tr.can_can h
  obtain ⟨q1, q2, q3, q4⟩ := Tr.turn_at c1 c3 (k := k) (by omega)
  rw [c4] at q1
  exact ⟨q1, q2, q3, by rw [q4, c2]⟩
set_option maxHeartbeats 2000000 in
theorem pRerootAt_L (A : Option Addr) (n c B : Nat) (t : List Int) (k : Int) (w : World) (hl : t.length = n) (hn : n ≤ 1048576) (hB : B ≤ w.heap.size) (h : Row w B A (ints t)) (hk64 : -9223372036854775808 ≤ k ∧ k ≤ 9223372036854775807) (hc : n ≤ c) :
    Calls Tryz.prog 6 #[.slice A n c, .int .i64 k] w (ResL (rerootA t k) w) := by
  have C0 := isLevels_any A n c B t w hl (by omega) h
  cases h1 : Tr.isLv t
  · have G := Lib.hid (rerootA_no (k := k) h1)
    rw [h1] at C0
    clear hl h1
    go_enter Tryz.func6, Tryz.ntmps6
    go_wp2_with fail
    refine C0.mono ?_
    rintro e w1 ⟨rfl, d, rfl⟩
    go_wp2
    go_ret2
    exact ResL.nil G.out (below_drewN (Below.refl _ _) _)
  · rw [h1] at C0
    obtain ⟨a1, a8⟩ := lv_bd h1
    rw [hl] at a1 a8
    have z1 := (lv_txt h1).2.2.2
    have C1 := fun w => hasNode_any' A n c k w hn
    by_cases hk : 0 ≤ k ∧ k < (n : Int)
    · obtain ⟨kn, rfl⟩ : ∃ kn : Nat, k = (kn : Int) := ⟨k.toNat, by omega⟩
      have G := Lib.hid (rerootA_yes h1 (k := kn) (by omega))
      obtain ⟨p1, p2, p3, p4⟩ := reroot_parts h1 (k := kn) (by omega)
      rw [decide_eq_true hk] at C1
      have C2 := fun w => rerootAt_any (Tr.txt t) kn w (Tr.tx_txt h1) (by omega)
      rw [← p1] at C2
      obtain ⟨T, hT⟩ : ∃ T, T = Tr.turnF 9 (Tr.can t) kn := ⟨_, rfl⟩
      simp only [← hT] at C2
      rw [← hT] at G p2 p3 p4
      rw [hl] at p4
      have HTL := Lib.hid p4
      have HLV := Lib.hid p2
      have HCT := Lib.hid p3
      have HL := Lib.hid hl
      obtain ⟨hk1, hk2⟩ := hk
      clear hl h1 z1 p1 p2 p3 p4 hT
      go_enter Tryz.func6, Tryz.ntmps6
      go_wp2_with fail
      refine C0.mono ?_
      rintro e w1 ⟨rfl, d, rfl⟩
      go_wp2_with fail
      refine (C1 _).mono ?_
      rintro e w1 ⟨rfl, d1, rfl⟩
      have B1 : Hid (Below w.heap.size w ((w.drewN d).drewN d1)) := below_drewN (below_drewN (Below.refl _ _) d) d1
      generalize (w.drewN d).drewN d1 = W1 at *
      go_wp2_with fail
      refine (treeOf_any A n c B t _ HL.out a1 a8 hc (Nat.le_trans hB B1.out.size) (Row.below h B1.out hB)).mono ?_
      rintro e w2 ⟨rfl, bel2⟩
      have B2 : Hid (Below w.heap.size w w2) := B1.out.trans (bel2.mono B1.out.size)
      clear bel2
      go_wp2_with fail
      refine (C2 _).mono ?_
      rintro e w3 ⟨rfl, bel3⟩
      have B3 : Hid (Below w.heap.size w w3) := B2.out.trans (bel3.mono B2.out.size)
      clear bel3 C2
      go_wp2_with fail
      refine (levelsOf_any T _ HLV.out).mono ?_
      rintro e w4 ⟨A4, c4, rfl, own4, bel4⟩
      rw [HTL.out] at own4 ⊢
      rw [HCT.out] at own4
      have B4 : Hid (Below w.heap.size w w4) := B3.out.trans (bel4.mono B3.out.size)
      have GO : Hid (w4.ownsRow w.heap.size 2 1 (.slice A4 n c4) n (ints T)) := ((OwnR.of own4).more B3.out.size (Nat.le_refl _)).1
      clear own4 bel4
      go_wp2
      go_ret2
      exact ResL.of G.out HTL.out (by omega) GO.out B4.out
    · have G := Lib.hid (rerootA_out (k := k) h1 (by rw [hl]; exact hk))
      rw [decide_eq_false hk] at C1
      clear hl h1 z1 hk
      go_enter Tryz.func6, Tryz.ntmps6
      go_wp2_with fail
      refine C0.mono ?_
      rintro e w1 ⟨rfl, d, rfl⟩
      go_wp2_with fail
      refine (C1 _).mono ?_
      rintro e w1 ⟨rfl, d1, rfl⟩
      go_wp2
      go_ret2
      exact ResL.nil G.out (below_drewN (Below.refl _ _) _)
set_option maxHeartbeats 2000000 in
theorem sRerootAt_L (A : Option Addr) (n c B : Nat) (t : List Int) (k : Int) (w : World) (hl : t.length = n) (hn : n ≤ 1048576) (hB : B ≤ w.heap.size) (h : Row w B A (ints t)) (hk64 : -9223372036854775808 ≤ k ∧ k ≤ 9223372036854775807) :
    Calls Tryz.prog 7 #[.slice A n c, .int .i64 k] w (ResL (rerootA t k) w) := by
  have C0 := l03Is_any A n c B t w hl hn h
  cases h1 : Tr.isLv t
  · have G := Lib.hid (rerootA_no (k := k) h1)
    rw [h1] at C0
    clear hl h1
    go_enter Tryz.func7, Tryz.ntmps7
    go_wp2_with fail
    refine C0.mono ?_
    rintro e w1 ⟨rfl, d, rfl⟩
    go_wp2
    go_ret2
    exact ResL.nil G.out (below_drewN (Below.refl _ _) _)
  · rw [h1] at C0
    obtain ⟨a1, a8⟩ := lv_bd h1
    rw [hl] at a1 a8
    have C2 := fun w => l01In_any k 0 ((n : Int) - 1) w
    by_cases hk : 0 ≤ k ∧ k < (n : Int)
    · have T0 := isIn_yes (n := k) (l := 0) (h := (n : Int) - 1) (by omega) (by omega)
      obtain ⟨kn, rfl⟩ : ∃ kn : Nat, k = (kn : Int) := ⟨k.toNat, by omega⟩
      have G := Lib.hid (rerootA_yes h1 (k := kn) (by omega))
      obtain ⟨p1, p2, p3, p4⟩ := reroot_parts h1 (k := kn) (by omega)
      have hcl := (lv_can h1).2
      rw [hl] at hcl p4
      have HCN := Lib.hid hcl
      have HTL := Lib.hid p4
      have H1 := Lib.hid h1
      have HL := Lib.hid hl
      obtain ⟨hk1, hk2⟩ := hk
      have hk2' : kn < n := by omega
      clear hl h1 p1 p2 p3 p4 hcl
      go_enter Tryz.func7, Tryz.ntmps7
      go_wp2_with fail
      refine C0.mono ?_
      rintro e w1 ⟨rfl, d, rfl⟩
      go_wp2_with fail
      refine (C2 _).mono ?_
      rintro e w1 ⟨rfl, rfl⟩
      rw [T0]
      have B1 : Hid (Below w.heap.size w (w.drewN d)) := below_drewN (Below.refl _ _) d
      generalize w.drewN d = W1 at *
      go_wp2_with fail
      refine (l03Canon_any A n c B t _ HL.out H1.out (Nat.le_trans hB B1.out.size) (Row.below h B1.out hB)).mono ?_
      rintro e w2 ⟨A2, c2, rfl, own2, bel2⟩
      have B2 : Hid (Below w.heap.size w w2) := B1.out.trans (bel2.mono B1.out.size)
      have R2 : Hid (Row w2 w2.heap.size A2 (ints (Tr.can t))) := row_of_own own2
      have hc2 := (own_cap own2).1
      clear own2 bel2
      go_wp2_with fail
      refine (turnAt_all 9 A2 n c2 w2.heap.size kn (Tr.can t) w2 HCN.out (lv_can H1.out).1 hk2' (by omega) hc2 (Nat.le_refl _) R2.out).mono ?_
      rintro e w3 ⟨A3, c3, rfl, own3, bel3⟩
      have GB : Hid (Below w.heap.size w w3) := B2.out.trans (bel3.mono B2.out.size)
      have GO : Hid (w3.ownsRow w.heap.size 2 1 (.slice A3 n c3) n (ints (Tr.turnF 9 (Tr.can t) kn))) := ((OwnR.of own3).more B2.out.size (Nat.le_refl _)).1
      clear own3 bel3
      go_wp2
      go_ret2
      exact ResL.of G.out HTL.out (by omega) GO.out GB.out
    · have T0 := isIn_no (n := k) (l := 0) (h := (n : Int) - 1) (by omega)
      have G := Lib.hid (rerootA_out (k := k) h1 (by rw [hl]; exact hk))
      clear hl h1 hk
      go_enter Tryz.func7, Tryz.ntmps7
      go_wp2_with fail
      refine C0.mono ?_
      rintro e w1 ⟨rfl, d, rfl⟩
      go_wp2_with fail
      refine (C2 _).mono ?_
      rintro e w1 ⟨rfl, rfl⟩
      rw [T0]
      go_wp2
      go_ret2
      exact ResL.nil G.out (below_drewN (Below.refl _ _) _)
end Go.Proofs.YtjmjdcfgbaepkaaGreat
/-
  A test beside a code.
-/
namespace Go.Proofs.YtjmjdcfgbaepkaaGreat
open Go.RowKit Fld
set_option linter.unusedVariables false
set_option linter.unusedSimpArgs false
set_option maxRecDepth 100000

/-- a test beside a code -/
def ResBI (r : Bool × Int) (w : World) (e : Ending) (w' : World) : Prop := e = .returned (.tuple #[.bool r.1, .int .i64 r.2]) ∧ Below w.heap.size w w'
theorem ResBI.of {r : Bool × Int} {w w' : World} {b : Bool} {k : Int} (h : r = (b, k)) (hb : Below w.heap.size w w') : ResBI r w (.returned (.tuple #[.bool b, .int .i64 k])) w' := by
  subst h; exact ⟨rfl, hb⟩
end Go.Proofs.YtjmjdcfgbaepkaaGreat
/-
  Are all lists level lists?
-/
namespace Go.Proofs.YtjmjdcfgbaepkaaGreat
open Go.RowKit Fld
set_option linter.unusedVariables false
set_option linter.unusedSimpArgs false
set_option maxRecDepth 100000

/-- lists that stand side by side in memory -/
def Lsts (w : World) (B : Nat) (A : Option Addr) (m : List (List Int)) : Prop :=
  ∀ (k : Nat) (r : List Int), m[k]? = some r → ∃ b o Ak ck, A = some ⟨b, o, none⟩ ∧ w.cell? ⟨b, o + k, none⟩ = some (.slice Ak r.length ck) ∧ Row w B Ak (ints r)
theorem Lsts.drewN {w : World} {B : Nat} {A : Option Addr} {m : List (List Int)} (h : Lsts w B A m) (d : Nat) : Lsts (w.drewN d) B A m := h
theorem Lsts.of_mat {w : World} {B : Nat} {A : Option Addr} {m : List (List Int)} (h : Mat w B A m) : Lsts w B A m := fun k r hr => by
  obtain ⟨b, o, Ak, ck, e, _, hc, _, _, hrow⟩ := h k r hr
  exact ⟨b, o, Ak, ck, e, hc, hrow⟩
def allLvM (m : List (List Int)) : Bool := m.all Tr.isLv
theorem allLvM_take {m : List (List Int)} {k : Nat} {r : List Int} (h : allLvM (m.take k) = true) (hr : m[k]? = some r) (hl : Tr.isLv r = true) : allLvM (m.take (k + 1)) = true := by
  unfold allLvM at *
  rw [List.take_add_one, hr, Option.toList_some, List.all_append, h]; simp [hl]
theorem allLvM_no {m : List (List Int)} {k : Nat} {r : List Int} (hr : m[k]? = some r) (hl : Tr.isLv r = false) : allLvM m = false := by
  unfold allLvM
  rw [List.all_eq_false]
  exact ⟨r, List.mem_of_getElem? hr, by rw [hl]; simp⟩
set_option maxHeartbeats 400000 in
theorem areLevels_any (A : Option Addr) (n c B : Nat) (m : List (List Int)) (w : World) (hl : m.length = n) (hn : n ≤ 1048576) (hr : ∀ r ∈ m, r.length ≤ 1048576) (h : Lsts w B A m) :
    Calls Tryz.prog 30 #[.slice A n c] w fun e w' => e = .returned (.bool (allLvM m)) ∧ ∃ d, w' = w.drewN d := by
  have HL := Lib.hid hl
  have HR := Lib.hid hr
  clear hl hr
  go_enter Tryz.func30, Tryz.ntmps30
  go_wp2_with fail
  go_loopw [7] (fun i wr => ∃ k d : Nat, k ≤ n ∧ i = .int .i64 k ∧ wr = w.drewN d ∧ Hid (allLvM (m.take k) = true)) (fun i _ => n - (intOf i).toNat)
  case atStart => exact ⟨0, 0, Nat.zero_le _, rfl, rfl, rfl⟩
  case round =>
    obtain ⟨k, d, hk, rfl, rfl, HT⟩ := hrel
    by_cases hlt : k < n
    · obtain ⟨r, hr⟩ := at_lt (show k < m.length by rw [HL.out]; exact hlt)
      obtain ⟨b, o, Ak, ck, rfl, hc, hrow⟩ := (h.drewN d) k r hr
      have C1 := isLevels_any Ak r.length ck B r (w.drewN d) rfl (by have := HR.out r (List.mem_of_getElem? hr); omega) hrow
      cases hlv : Tr.isLv r
      · have G := Lib.hid (allLvM_no hr hlv)
        rw [hlv] at C1
        clear hr hrow HT
        go_wp2_with fail
        refine C1.mono ?_
        rintro e w' ⟨rfl, d2, rfl⟩
        go_wp2
        go_ret
        exact ⟨ret_bool G.out.symm, _, rfl⟩
      · have G := Lib.hid (allLvM_take HT.out hr hlv)
        rw [hlv] at C1
        clear hr hrow HT
        go_wp2_with fail
        refine C1.mono ?_
        rintro e w' ⟨rfl, d2, rfl⟩
        go_wp2
        go_roundw
        case rel => exact ⟨k + 1, _, by omega, by go_num, rfl, G⟩
        case measure => simp [intOf]; omega
    · obtain rfl : k = n := by omega
      have G : Hid (allLvM m = true) := by
        have := HT.out
        rw [List.take_of_length_le (by rw [HL.out]; exact Nat.le_refl _)] at this
        exact this
      clear HT
      go_wp2
      go_ret
      exact ⟨ret_bool G.out.symm, _, rfl⟩
end Go.Proofs.YtjmjdcfgbaepkaaGreat
/-
  What AreSameFree answers, the program's and the model's.
-/
namespace Go.Proofs.YtjmjdcfgbaepkaaGreat
open Go.RowKit Fld
set_option linter.unusedVariables false
set_option linter.unusedSimpArgs false
set_option maxRecDepth 100000

def sameFreeA (s t : List Int) : Bool × Int := if Tr.isLv s = true ∧ Tr.isLv t = true then (eqL (freeL s) (freeL t), 0) else (false, 1)
theorem sameFreeA_yes {s t : List Int} (h : Tr.isLv s = true) (h' : Tr.isLv t = true) : sameFreeA s t = (eqL (freeL s) (freeL t), 0) := if_pos ⟨h, h'⟩
theorem sameFreeA_no1 {s t : List Int} (h : Tr.isLv s = false) : sameFreeA s t = (false, 1) := if_neg (by rw [h]; simp)
theorem sameFreeA_no2 {s t : List Int} (h : Tr.isLv t = false) : sameFreeA s t = (false, 1) := if_neg (by rw [h]; simp)
theorem str_eqb' (a b : List UInt8) : ((⟨a.toArray⟩ : ByteArray).toList == (⟨b.toArray⟩ : ByteArray).toList) = decide (a = b) := by
  rw [ByteArray.toList_eq, ByteArray.toList_eq]
  by_cases h : a = b
  · subst h; simp
  · rw [decide_eq_false h]; exact beq_eq_false_iff_ne.2 h
theorem txt_eq {s t : List Int} (hs : Tr.isLv s = true) (ht : Tr.isLv t = true) (cs : Tr.can s = s) (ct : Tr.can t = t) : decide (Tr.txt s = Tr.txt t) = eqL s t := by
  unfold eqL
  congr 1
  exact propext ⟨fun h => by
    have h1 := (lv_txt hs).1
    have h2 := (lv_txt ht).1
    rw [cs] at h1
    rw [ct] at h2
    rw [← h1, ← h2, h], fun h => by rw [h]⟩
set_option maxHeartbeats 2000000 in
theorem pAreSameFree_L (A A' : Option Addr) (n n' c c' B B' : Nat) (s t : List Int) (w : World) (hl : s.length = n) (hl' : t.length = n') (hn : n ≤ 1048576) (hn' : n' ≤ 1048576) (hB : B ≤ w.heap.size) (hB' : B' ≤ w.heap.size) (h : Row w B A (ints s)) (h' : Row w B' A' (ints t)) (hc : n ≤ c) (hc' : n' ≤ c') :
    Calls Tryz.prog 10 #[.slice A n c, .slice A' n' c'] w (ResBI (sameFreeA s t) w) := by
  have hal : Below w.heap.size w (w.alloc (.cells #[.slice A n c, .slice A' n' c'] 24)) := (Below.refl _ _).alloc (Nat.le_refl _) _
  have hls : Lsts (w.alloc (.cells #[.slice A n c, .slice A' n' c'] 24)) w.heap.size (some ⟨w.heap.size, 0, none⟩) [s, t] := fun k r hr => by
    match k, hr with
    | 0, hr =>
      simp only [List.getElem?_cons_zero, Option.some.injEq] at hr
      subst hr
      exact ⟨_, _, A, c, rfl, by rw [hl, World.cell?_alloc_at (hn := by simp)]; rfl, (Row.below h hal hB).more hB⟩
    | 1, hr =>
      simp only [List.getElem?_cons_succ, List.getElem?_cons_zero, Option.some.injEq] at hr
      subst hr
      exact ⟨_, _, A', c', rfl, by rw [hl', World.cell?_alloc_at (hn := by simp)]; rfl, (Row.below h' hal hB').more hB'⟩
    | k+2, hr => simp at hr
  have C0 := areLevels_any (some ⟨w.heap.size, 0, none⟩) 2 2 w.heap.size [s, t] _ rfl (by omega) (fun r hr => by
    simp only [List.mem_cons, List.not_mem_nil, or_false] at hr
    rcases hr with rfl | rfl <;> omega) hls
  have hb : allLvM [s, t] = (Tr.isLv s && Tr.isLv t) := by simp [allLvM]
  rw [hb] at C0
  by_cases hlv : Tr.isLv s = true ∧ Tr.isLv t = true
  · obtain ⟨h1, h2⟩ := hlv
    obtain ⟨_, p1, p2, p3, p4⟩ := free_parts h1
    obtain ⟨_, q1, q2, q3, q4⟩ := free_parts h2
    have G := Lib.hid (sameFreeA_yes h1 h2)
    rw [← txt_eq p2 q2 p3 q3, p1, q1] at G
    have CF1 := fun w => freeForm_any (Tr.txt s) w (Tr.tx_txt h1)
    have CF2 := fun w => freeForm_any (Tr.txt t) w (Tr.tx_txt h2)
    have e1 := str_eqb' (minT (rootsT (Tr.txt s))) (minT (rootsT (Tr.txt t)))
    rw [h1, h2] at C0
    obtain ⟨a1, a8⟩ := lv_bd h1
    obtain ⟨b1, b8⟩ := lv_bd h2
    rw [hl] at a1 a8
    rw [hl'] at b1 b8
    obtain ⟨X, hX⟩ : ∃ X : ByteArray, X = ⟨(minT (rootsT (Tr.txt s))).toArray⟩ := ⟨_, rfl⟩
    obtain ⟨Y, hY⟩ : ∃ Y : ByteArray, Y = ⟨(minT (rootsT (Tr.txt t))).toArray⟩ := ⟨_, rfl⟩
    simp only [← hX] at CF1
    simp only [← hY] at CF2
    rw [← hX, ← hY] at e1
    rw [← e1] at G
    have HL := Lib.hid hl
    have HL' := Lib.hid hl'
    clear hl hl' hls hb h1 h2 p1 p2 p3 p4 q1 q2 q3 q4 e1 hX hY
    go_enter Tryz.func10, Tryz.ntmps10
    go_wp2_with fail
    refine C0.mono ?_
    rintro e w1 ⟨rfl, d, rfl⟩
    go_wp2_with fail
    have B1 : Hid (Below w.heap.size w ((w.alloc (.cells #[.slice A n c, .slice A' n' c'] 24)).drewN d)) := below_drewN hal d
    refine (treeOf_any A n c B s _ HL.out a1 a8 hc (Nat.le_trans hB B1.out.size) (Row.below h B1.out hB)).mono ?_
    rintro e w2 ⟨rfl, bel2⟩
    have B2 : Hid (Below w.heap.size w w2) := B1.out.trans (bel2.mono B1.out.size)
    clear bel2
    go_wp2_with fail
    refine (CF1 _).mono ?_
    rintro e w3 ⟨rfl, bel3⟩
    have B3 : Hid (Below w.heap.size w w3) := B2.out.trans (bel3.mono B2.out.size)
    clear bel3 CF1
    go_wp2_with fail
    refine (treeOf_any A' n' c' B' t _ HL'.out b1 b8 hc' (Nat.le_trans hB' B3.out.size) (Row.below h' B3.out hB')).mono ?_
    rintro e w4 ⟨rfl, bel4⟩
    have B4 : Hid (Below w.heap.size w w4) := B3.out.trans (bel4.mono B3.out.size)
    clear bel4
    go_wp2_with fail
    refine (CF2 _).mono ?_
    rintro e w5 ⟨rfl, bel5⟩
    have B5 : Hid (Below w.heap.size w w5) := B4.out.trans (bel5.mono B4.out.size)
    clear bel5 CF2
    go_wp2
    go_ret2
    exact ResBI.of G.out B5.out
  · have G : Hid (sameFreeA s t = (false, 1)) := if_neg hlv
    have e : (Tr.isLv s && Tr.isLv t) = false := by
      cases h1 : Tr.isLv s
      · rfl
      · cases h2 : Tr.isLv t
        · rfl
        · exact absurd ⟨h1, h2⟩ hlv
    rw [e] at C0
    clear hls hb e hlv
    go_enter Tryz.func10, Tryz.ntmps10
    go_wp2_with fail
    refine C0.mono ?_
    rintro e w1 ⟨rfl, d, rfl⟩
    go_wp2
    go_ret2
    exact ResBI.of G.out (below_drewN hal d)
end Go.Proofs.YtjmjdcfgbaepkaaGreat
/-
  What IsSuperfluous answers: is a tree the Butcher product of a branch with itself (the program's), slices.ContainsFunc, the program's and the model's answer.
-/
namespace Go.Proofs.YtjmjdcfgbaepkaaGreat
open Go.RowKit Fld
set_option linter.unusedVariables false
set_option linter.unusedSimpArgs false
set_option maxRecDepth 100000

def sqAt (x b : List UInt8) : Bool := decide (Tr.rootT (Tr.brT b ++ [b]) = x)
def squareT (x : List UInt8) : Bool := (Tr.brT x).any (sqAt x)
theorem any_step {l : List (List UInt8)} {p : List UInt8 → Bool} {k : Nat} {b : List UInt8} (h : l[k]? = some b) (h0 : (l.take k).any p = false) (hp : p b = false) : (l.take (k + 1)).any p = false := by
  rw [List.take_add_one, h, Option.toList_some, List.any_append, h0]; simp [hp]
theorem any_hit {l : List (List UInt8)} {p : List UInt8 → Bool} {k : Nat} {b : List UInt8} (h : l[k]? = some b) (hp : p b = true) : l.any p = true :=
  List.any_eq_true.2 ⟨b, List.mem_of_getElem? h, hp⟩
theorem str_eqb (a b : List UInt8) : ((⟨a.toArray⟩ : ByteArray).toList == (⟨b.toArray⟩ : ByteArray).toList) = decide (a = b) := by
  rw [ByteArray.toList_eq, ByteArray.toList_eq]
  by_cases h : a = b
  · subst h; simp
  · rw [decide_eq_false h]; exact beq_eq_false_iff_ne.2 h
set_option maxHeartbeats 1000000 in
theorem isSquare_any (x : List UInt8) (w : World) (hx : Tr.isTx x = true) : Calls Tryz.prog 32 #[.string ⟨x.toArray⟩] w fun e w' => e = .returned (.bool (squareT x)) ∧ Below w.heap.size w w' := by
  obtain ⟨_, hb, h7⟩ := Tr.br_parts hx
  have HB := Lib.hid hb
  have hx16 := (Tr.br_parts hx).1.2
  have C0 := branches_any x w hx
  obtain ⟨bs, hbs⟩ : ∃ bs, bs = Tr.brT x := ⟨_, rfl⟩
  have HBS := Lib.hid hbs
  rw [← hbs] at C0 h7 HB
  obtain ⟨X, hX⟩ : ∃ X : ByteArray, X = ⟨x.toArray⟩ := ⟨_, rfl⟩
  have HX := Lib.hid hX
  rw [← hX] at C0 ⊢
  clear hbs hb hX hx
  go_enter Tryz.func32, Tryz.ntmps32
  go_wp2_with fail
  refine C0.mono ?_
  rintro e w1 ⟨A, q, c, rfl, hq, own1, bel1⟩
  have HQ := Lib.hid hq
  have hq7 : q ≤ 7 := by omega
  have HR := Lib.hid (row_of_own own1)
  have HB1 := Lib.hid bel1
  clear own1 bel1 hq C0
  go_wp2_with fail
  go_loopw [8] (fun i wr => ∃ k : Nat, k ≤ q ∧ i = .int .i64 k ∧ Hid ((bs.take k).any (sqAt x) = false) ∧ Below w1.heap.size w1 wr) (fun i _ => q - (intOf i).toNat)
  case atStart => exact ⟨0, Nat.zero_le _, rfl, by simp [Hid], Below.refl _ _⟩
  case round =>
    obtain ⟨k, hk, rfl, HA, HBW⟩ := hrel
    have hsz := HBW.size
    by_cases hlt : k < q
    · obtain ⟨b, hbk⟩ := at_lt (show k < bs.length by have := HQ.out; omega)
      obtain ⟨bb, oo, rfl, _, hck⟩ := (Row.below HR.out HBW (Nat.le_refl _)) k _ (strs_at hbk)
      obtain ⟨hbt, hbl⟩ := HB.out b (List.mem_of_getElem? hbk)
      have C1 := tTimes_any b b wr hbt (by omega)
      have e1 := str_eqb (Tr.rootT (Tr.brT b ++ [b])) x
      rw [← HX.out] at e1
      obtain ⟨Y, hY⟩ : ∃ Y : ByteArray, Y = ⟨b.toArray⟩ := ⟨_, rfl⟩
      obtain ⟨Z, hZ⟩ : ∃ Z : ByteArray, Z = ⟨(Tr.rootT (Tr.brT b ++ [b])).toArray⟩ := ⟨_, rfl⟩
      rw [← hY] at hck
      rw [← hY, ← hZ] at C1
      rw [← hZ] at e1
      have HBW' := Lib.hid HBW
      cases hs : sqAt x b
      · have G := Lib.hid (any_step hbk HA.out hs)
        rw [show decide (Tr.rootT (Tr.brT b ++ [b]) = x) = false from hs] at e1
        clear hbk HA hs hY hZ HBW hbl hbt
        go_wp2_with fail
        refine C1.mono ?_
        rintro e w2 ⟨rfl, bel2⟩
        have GB := Lib.hid (HBW'.out.trans (bel2.mono hsz))
        clear bel2 C1 hck
        go_wp2
        go_roundw
        case rel => exact ⟨k + 1, by omega, by go_num, G, GB.out⟩
        case measure => simp [intOf]; omega
      · have G : Hid (squareT x = true) := by
          rw [HBS.out] at hbk
          exact any_hit hbk hs
        rw [show decide (Tr.rootT (Tr.brT b ++ [b]) = x) = true from hs] at e1
        clear hbk HA hs hY hZ HBW hbl hbt
        go_wp2_with fail
        refine C1.mono ?_
        rintro e w2 ⟨rfl, bel2⟩
        have GB := Lib.hid (HB1.out.trans ((HBW'.out.trans (bel2.mono hsz)).mono HB1.out.size))
        clear bel2 C1 hck
        go_wp2
        go_ret
        exact ⟨ret_bool G.out.symm, GB.out⟩
    · obtain rfl : k = q := by omega
      have G : Hid (squareT x = false) := by
        have e := HA.out
        rw [List.take_of_length_le (by have := HQ.out; omega), HBS.out] at e
        exact e
      have GB := Lib.hid (HB1.out.trans (HBW.mono HB1.out.size))
      clear HA HBW
      go_wp2
      go_ret
      exact ⟨ret_bool G.out.symm, GB.out⟩
set_option maxHeartbeats 1000000 in
/-- the library's search for a tree that is a square -/
theorem indexSq_any (A : Option Addr) (n c B : Nat) (ss : List (List UInt8)) (w : World) (hl : ss.length = n) (hn : n ≤ 1048576) (hs : ∀ s ∈ ss, Tr.isTx s = true) (hB : B ≤ w.heap.size) (h : Row w B A (strs ss)) :
    Calls Tryz.prog 51 #[.slice A n c, (.func (.func 32) #[] #[])] w fun e w' => (∃ i : Int, e = .returned (.int .i64 i) ∧ -1 ≤ i ∧ i ≤ 1048576 ∧ decide (0 ≤ i) = ss.any squareT) ∧ Below w.heap.size w w' := by
  have HL := Lib.hid hl
  have HS := Lib.hid hs
  clear hl hs
  go_enter Tryz.func51, Tryz.ntmps51
  go_wp2_with fail
  go_loopw [8] (fun i wr => ∃ k : Nat, k ≤ n ∧ i = .int .i64 k ∧ Hid ((ss.take k).any squareT = false) ∧ Below w.heap.size w wr) (fun i _ => n - (intOf i).toNat)
  case atStart => exact ⟨0, Nat.zero_le _, rfl, by simp [Hid], Below.refl _ _⟩
  case round =>
    obtain ⟨k, hk, rfl, HA, HBW⟩ := hrel
    have hsz := HBW.size
    by_cases hlt : k < n
    · obtain ⟨b, hbk⟩ := at_lt (show k < ss.length by rw [HL.out]; exact hlt)
      obtain ⟨bb, oo, rfl, _, hck⟩ := (Row.below h HBW hB) k _ (strs_at hbk)
      have C1 := isSquare_any b wr (HS.out b (List.mem_of_getElem? hbk))
      obtain ⟨Y, hY⟩ : ∃ Y : ByteArray, Y = ⟨b.toArray⟩ := ⟨_, rfl⟩
      rw [← hY] at hck C1
      have HBW' := Lib.hid HBW
      cases hs : squareT b
      · have G := Lib.hid (any_step hbk HA.out hs)
        rw [hs] at C1
        clear hbk HA hs hY HBW
        go_wp2_with fail
        refine C1.mono ?_
        rintro e w2 ⟨rfl, bel2⟩
        have GB := Lib.hid (HBW'.out.trans (bel2.mono hsz))
        clear bel2 C1 hck
        go_wp2
        go_roundw
        case rel => exact ⟨k + 1, by omega, by go_num, G, GB.out⟩
        case measure => simp [intOf]; omega
      · have G : Hid (ss.any squareT = true) := any_hit hbk hs
        rw [hs] at C1
        clear hbk HA hs hY HBW
        go_wp2_with fail
        refine C1.mono ?_
        rintro e w2 ⟨rfl, bel2⟩
        have GB := Lib.hid (HBW'.out.trans (bel2.mono hsz))
        clear bel2 C1 hck
        go_wp2
        go_ret
        exact ⟨⟨(k : Int), rfl, by omega, by omega, by rw [G.out]; exact decide_eq_true (Int.natCast_nonneg _)⟩, GB.out⟩
    · obtain rfl : k = n := by omega
      have G : Hid (ss.any squareT = false) := by
        have e := HA.out
        rw [List.take_of_length_le (by rw [HL.out]; exact Nat.le_refl _)] at e
        exact e
      have GB := Lib.hid HBW
      clear HA HBW
      go_wp2
      go_ret
      exact ⟨⟨-1, rfl, by omega, by omega, by rw [G.out]; rfl⟩, GB.out⟩
theorem containsSq_any (A : Option Addr) (n c B : Nat) (ss : List (List UInt8)) (w : World) (hl : ss.length = n) (hn : n ≤ 1048576) (hs : ∀ s ∈ ss, Tr.isTx s = true) (hB : B ≤ w.heap.size) (h : Row w B A (strs ss)) :
    Calls Tryz.prog 31 #[.slice A n c, (.func (.func 32) #[] #[])] w fun e w' => e = .returned (.bool (ss.any squareT)) ∧ Below w.heap.size w w' := by
  have C0 := indexSq_any A n c B ss w hl hn hs hB h
  clear hl hs h
  go_enter Tryz.func31, Tryz.ntmps31
  go_wp2_with fail
  refine C0.mono ?_
  rintro e w1 ⟨⟨i, rfl, h1, h2, h3⟩, bel1⟩
  have H3 := Lib.hid h3
  have GB := Lib.hid bel1
  clear h3 bel1 C0
  go_wp2
  go_ret
  exact ⟨by rw [← H3.out]; rfl, GB.out⟩
def supA (t : List Int) : Bool × Int := if Tr.isLv t = true then (Tr.supT (Tr.txt t), 0) else (false, 1)
theorem supA_no {t : List Int} (h : Tr.isLv t = false) : supA t = (false, 1) := if_neg (by rw [h]; simp)
theorem supA_yes {t : List Int} (h : Tr.isLv t = true) : supA t = ((rootsT (Tr.txt t)).any squareT, 0) := if_pos h
set_option maxHeartbeats 1000000 in
theorem pIsSuperfluous_L (A : Option Addr) (n c B : Nat) (t : List Int) (w : World) (hl : t.length = n) (hn : n ≤ 1048576) (hB : B ≤ w.heap.size) (h : Row w B A (ints t)) (hc : n ≤ c) :
    Calls Tryz.prog 11 #[.slice A n c] w (ResBI (supA t) w) := by
  have C0 := isLevels_any A n c B t w hl (by omega) h
  cases h1 : Tr.isLv t
  · have G := Lib.hid (supA_no h1)
    rw [h1] at C0
    clear hl h1
    go_enter Tryz.func11, Tryz.ntmps11
    go_wp2_with fail
    refine C0.mono ?_
    rintro e w1 ⟨rfl, d, rfl⟩
    go_wp2
    go_ret2
    exact ResBI.of G.out (below_drewN (Below.refl _ _) _)
  · rw [h1] at C0
    have G := Lib.hid (supA_yes h1)
    obtain ⟨a1, a8⟩ := lv_bd h1
    rw [hl] at a1 a8
    have z1 := (lv_txt h1).2.2.2
    rw [hl] at z1
    have hx := Tr.tx_txt h1
    have C2 := fun w => roots_any (Tr.txt t) w hx
    have HS : Hid (∀ s ∈ rootsT (Tr.txt t), Tr.isTx s = true) := fun s hs => roots_tx hx s hs
    have HL := Lib.hid hl
    have HR : Hid ((rootsT (Tr.txt t)).length = n) := by rw [Hid, rootsT_len, z1]; omega
    have hz : (Tr.txt t).length / 2 = n := by rw [z1]; omega
    rw [hz] at C2
    clear hl h1 z1 hx hz
    go_enter Tryz.func11, Tryz.ntmps11
    go_wp2_with fail
    refine C0.mono ?_
    rintro e w1 ⟨rfl, d, rfl⟩
    have B1 : Hid (Below w.heap.size w (w.drewN d)) := below_drewN (Below.refl _ _) d
    generalize w.drewN d = W1 at *
    go_wp2_with fail
    refine (treeOf_any A n c B t _ HL.out a1 a8 hc (Nat.le_trans hB B1.out.size) (Row.below h B1.out hB)).mono ?_
    rintro e w2 ⟨rfl, bel2⟩
    have B2 : Hid (Below w.heap.size w w2) := B1.out.trans (bel2.mono B1.out.size)
    clear bel2
    go_wp2_with fail
    refine (C2 _).mono ?_
    rintro e w3 ⟨rfl, own3, bel3⟩
    have B3 : Hid (Below w.heap.size w w3) := B2.out.trans (bel3.mono B2.out.size)
    have HROW := Lib.hid (row_of_own own3)
    clear own3 bel3 C2
    go_wp2_with fail
    refine (containsSq_any _ n n w3.heap.size (rootsT (Tr.txt t)) w3 HR.out (by omega) HS.out (Nat.le_refl _) HROW.out).mono ?_
    rintro e w4 ⟨rfl, bel4⟩
    have B4 : Hid (Below w.heap.size w w4) := B3.out.trans (bel4.mono B3.out.size)
    clear bel4
    go_wp2
    go_ret2
    exact ResBI.of G.out B4.out
end Go.Proofs.YtjmjdcfgbaepkaaGreat
/-
  The next lower list of a tree, in place.
-/
namespace Go.Proofs.YtjmjdcfgbaepkaaGreat
open Go.RowKit Fld
set_option linter.unusedVariables false
set_option linter.unusedSimpArgs false
set_option maxRecDepth 100000

theorem last_le (t : List Int) : ∀ k, Tr.lastF t k ≤ k
  | 0 => Nat.le_refl _
  | k+1 => by rw [Tr.lastF]; split; · have := last_le t k; omega
              · exact Nat.le_refl _
theorem par_le (t : List Int) (x : Int) : ∀ k, Tr.parF t x k ≤ k
  | 0 => Nat.le_refl _
  | k+1 => by rw [Tr.parF]; split; · have := par_le t x k; omega
              · exact Nat.le_refl _
/-- what lower leaves -/
def Lowered (base g n cap : Nat) (t : List Int) (w : World) (e : Ending) (w' : World) : Prop :=
  (Tr.lowerL t = none ∧ e = .returned (.bool false) ∧ w = w') ∨ (∃ u, Tr.lowerL t = some u ∧ e = .returned (.bool true) ∧ w'.ownsRow base 2 1 (.slice (some ⟨g, 0, none⟩) n cap) n (ints u) ∧ w.grownBy w' (some g))
theorem cpy_step {d f i : Nat} {t : List Int} {x : Int} (hx : t[i - d]? = some x) : Tr.cpyF d (f + 1) i t = Tr.cpyF d f (i + 1) (t.set i x) := by
  rw [Tr.cpyF, lv_at hx]
def Cpd (base g n cap : Nat) (w : World) (T : List Int) (wr : World) : Prop := wr.ownsRow base 2 1 (.slice (some ⟨g, 0, none⟩) n cap) n (ints T) ∧ w.grownBy wr (some g)
theorem Cpd.step {base g n cap i : Nat} {w wr : World} {T : List Int} {x : Int} (h : Cpd base g n cap w T wr) : Cpd base g n cap w (T.set i x) (wr.setCell ⟨g, i, none⟩ (.int .i64 x)) := by
  obtain ⟨h1, h2⟩ := h.1.stored i (.int .i64 x)
  have e : (ints T).set i (.int .i64 x) = ints (T.set i x) := by unfold ints intsK; rw [List.map_set]
  rw [e] at h1
  exact ⟨h1, grownBy_trans h.2 h2⟩
theorem Cpd.start {base g n cap : Nat} {w : World} {t : List Int} (h : w.ownsRow base 2 1 (.slice (some ⟨g, 0, none⟩) n cap) n (ints t)) (M : Nat) : Cpd base g n cap (w.drewN M) t (w.drewN M) := ⟨h, World.grownBy.refl _ _⟩
set_option maxHeartbeats 1000000 in
theorem lower_any (base g n cap : Nat) (t : List Int) (w : World) (hl : t.length = n) (hlv : Tr.isLv t = true) (h : w.ownsRow base 2 1 (.slice (some ⟨g, 0, none⟩) n cap) n (ints t)) :
    Calls Tryz.prog 54 #[.slice (some ⟨g, 0, none⟩) n cap] w fun e w' => ∃ m, Lowered base g n cap t (w.drewN m) e w' := by
  have h3 := Tr.isLv_iff.1 hlv
  have n1 : 1 ≤ n := by have := h3.1; omega
  have n8 : n ≤ 8 := by have := h3.2.1; omega
  have HST : Hid (StepsTo t n) := by rw [Hid, ← hl]; exact h3.2.2.2
  have HZ : Hid (t.getD 0 0 = 0) := h3.2.2.1
  have HL := Lib.hid hl
  have HO := Lib.hid h
  have HLAST : Hid (Tr.lastF t (t.length - 1) = Tr.lastF t (n - 1)) := by rw [Hid, hl]
  clear hl hlv h3 h
  go_enter Tryz.func54, Tryz.ntmps54
  go_wp2_with fail
  go_loop [3] (fun l => ∃ k : Nat, k < n ∧ l = .int .i64 k ∧ Hid (Tr.lastF t (n - 1) = Tr.lastF t k)) (fun l => (intOf l).toNat)
  case atStart => exact ⟨n - 1, by omega, by go_num, rfl⟩
  case round =>
    obtain ⟨k, hk, rfl, HK⟩ := hrel
    obtain ⟨x, hx⟩ := at_lt (show k < t.length by rw [HL.out]; exact hk)
    have hcx := HO.out.cellAt k (by omega)
    rw [ints_at hx] at hcx
    have HX := Lib.hid hx
    rcases Nat.eq_zero_or_pos k with k0 | k0
    · subst k0
      have G : Hid (Tr.lowerL t = none) := by
        rw [Hid, Tr.lowerL]
        simp only [HLAST.out, HK.out]
        rfl
      clear hx HK
      go_wp2
      go_ret
      exact ⟨0, .inl ⟨G.out, rfl, rfl⟩⟩
    · obtain ⟨j, rfl⟩ : ∃ j, k = j + 1 := ⟨k - 1, by omega⟩
      by_cases hx1 : x = 1
      · have G : Hid (Tr.lastF t (n - 1) = Tr.lastF t j) := by
          rw [Hid, HK.out, Tr.lastF, lv_at hx, if_pos hx1]
        subst hx1
        clear hx HK
        go_wp2
        go_round
        case rel => exact ⟨j, by omega, by go_num, G⟩
        case measure => simp [intOf]
      · have tx := beq_f hx1
        have HLL : Hid (Tr.lastF t (n - 1) = j + 1) := by
          rw [Hid, HK.out, Tr.lastF, lv_at hx, if_neg hx1]
        have hxp : 1 ≤ x := by have := (HST.out (j + 1) hk (by omega)).1; rw [lv_at hx] at this; exact this
        clear hx HK
        have tz : ((j : Int) + 1 == 0) = false := beq_f (by omega)
        go_wp2_with fail
        go_loopw [4] (fun pp wr => ∃ p m : Nat, p ≤ j ∧ pp = .int .i64 p ∧ wr = w.drewN m ∧ Hid (Tr.parF t x j = Tr.parF t x p)) (fun pp _ => (intOf pp).toNat)
        case atStart => exact ⟨j, 0, Nat.le_refl _, by go_num, rfl, rfl⟩
        case round =>
          obtain ⟨p, m, hp, rfl, rfl, HP⟩ := hrel
          obtain ⟨y, hy⟩ := at_lt (show p < t.length by rw [HL.out]; omega)
          have hcy := HO.out.cellAt p (by omega)
          rw [ints_at hy] at hcy
          have hcx' : (w.drewN m).cell? ⟨g, j + 1, none⟩ = some (.int .i64 x) := hcx
          have hcy' : (w.drewN m).cell? ⟨g, p, none⟩ = some (.int .i64 y) := hcy
          by_cases hxy : x ≤ y
          · have hd : decide (x ≤ y) = true := decide_eq_true hxy
            obtain ⟨q, rfl⟩ : ∃ q, p = q + 1 := ⟨p - 1, by
              rcases Nat.eq_zero_or_pos p with e | e
              · subst e; have h9 := HZ.out; rw [lv_at hy] at h9; omega
              · omega⟩
            have G : Hid (Tr.parF t x j = Tr.parF t x q) := by
              rw [Hid, HP.out, Tr.parF, lv_at hy, if_pos hxy]
            clear hy HP
            go_wp2_with fail
            go_quiet (fail)
            go_wp2
            go_roundw
            case rel => exact ⟨q, _, by omega, by go_num, rfl, G⟩
            case measure => simp [intOf]
          · have hd : decide (x ≤ y) = false := decide_eq_false hxy
            have HPP : Hid (Tr.parF t x j = p) := by
              rw [Hid, HP.out]
              match p, hy with
              | 0, _ => rfl
              | q+1, hy => rw [Tr.parF, lv_at hy, if_neg hxy]
            have HLO : Hid (Tr.lowerL t = some (Tr.cpyF (j + 1 - p) (n - (j + 1)) (j + 1) t)) := by
              rw [Hid, Tr.lowerL]
              simp only [HL.out, HLL.out, lv_at HX.out, Nat.add_sub_cancel, HPP.out]
              rfl
            clear hy HP HLL
            go_wp2_with fail
            go_quiet (fail)
            go_wp2_with fail
            go_loopw [5] (fun ii wr => ∃ (e : Nat) (T : List Int), j + 1 + e ≤ n ∧ ii = .int .i64 ((j + 1 + e : Nat) : Int) ∧ Hid (Tr.cpyF (j + 1 - p) (n - (j + 1)) (j + 1) t = Tr.cpyF (j + 1 - p) (n - (j + 1 + e)) (j + 1 + e) T) ∧ Hid (T.length = n) ∧ ∃ M, Cpd base g n cap (w.drewN M) T wr) (fun ii _ => n - (intOf ii).toNat)
            case atStart => exact ⟨0, t, by omega, by go_num, rfl, HL.out, _, by rw [World.drewN_drewN]; exact Cpd.start HO.out _⟩
            case round =>
              obtain ⟨e, T, he, rfl, HC, HT, M, HD⟩ := hrel
              by_cases hlt : j + 1 + e < n
              · have hep : e + p < j + 1 + e := by omega
                obtain ⟨z, hz⟩ := at_lt (show e + p < T.length by rw [HT.out]; omega)
                have hcz := HD.1.cellAt (e + p) (by omega)
                rw [ints_at hz] at hcz
                obtain ⟨old, hold⟩ := at_lt (show j + 1 + e < T.length by rw [HT.out]; exact hlt)
                have hco := HD.1.cellAt (j + 1 + e) (by omega)
                rw [ints_at hold] at hco
                have hfo := HD.1.frozenAt (j + 1 + e)
                have HC2 : Hid (Tr.cpyF (j + 1 - p) (n - (j + 1)) (j + 1) t = Tr.cpyF (j + 1 - p) (n - (j + 1 + (e + 1))) (j + 1 + (e + 1)) (T.set (j + 1 + e) z)) := by
                  rw [Hid, HC.out, show n - (j + 1 + e) = n - (j + 1 + (e + 1)) + 1 from by omega, cpy_step (x := z) (by rw [show j + 1 + e - (j + 1 - p) = e + p from by omega]; exact hz)]
                  rfl
                have HT2 : Hid ((T.set (j + 1 + e) z).length = n) := by rw [Hid, List.length_set]; exact HT.out
                have G := Lib.hid (HD.step (i := j + 1 + e) (x := z))
                have ew1 : ((j + 1 + e : Nat) : Int) - ((j : Int) + 1) = (e : Int) := by omega
                clear hz hold HD HC
                go_wp2
                go_roundw
                case rel => exact ⟨e + 1, T.set (j + 1 + e) z, by omega, by go_num, HC2, HT2, M, G.out⟩
                case measure => simp [intOf]; omega
              · have hne : n = j + 1 + e := by omega
                have G : Hid (∃ m, Lowered base g n cap t (w.drewN m) (.returned (.bool true)) wr) := by
                  have hc := HC.out
                  rw [show n - (j + 1 + e) = 0 from by omega, Tr.cpyF] at hc
                  exact ⟨M, .inr ⟨T, by rw [HLO.out, hc], rfl, HD.1, HD.2⟩⟩
                clear HD HC
                go_wp2
                go_ret
                exact G.out
end Go.Proofs.YtjmjdcfgbaepkaaGreat
/-
  Marks that the laws write into lists of the call's own, and their reading.
-/
namespace Go.Proofs.YtjmjdcfgbaepkaaGreat
open Go.RowKit Fld
set_option linter.unusedVariables false
set_option linter.unusedSimpArgs false
set_option maxRecDepth 100000

def MarkedM (lo hi n : Nat) (v : Value) (k : Int) (m : List (List Int)) (vs : List Value) (w : World) (e : Ending) (w' : World) : Prop :=
  e = .returned (.int .i64 (k + (total m : Nat))) ∧ OwnMat w' lo hi v n (marksM k m) vs ∧ Within lo hi w w'
def MarkingM (lo hi n : Nat) (v : Value) (k : Int) (m : List (List Int)) (vs : List Value) (r : Nat) (w wr : World) : Prop :=
  OwnMat wr lo hi v n ((marksM k m).take r ++ m.drop r) vs ∧ Within lo hi w wr
theorem MarkingM.step {lo hi n r c : Nat} {v : Value} {A : Option Addr} {k : Int} {m : List (List Int)} {vs : List Value} {row : List Int} {w wr w2 : World} {e : Ending} (h : MarkingM lo hi n v k m vs r w wr) (hr : m[r]? = some row) (hv : vs[r]? = some (.slice A row.length c))
    (hm : Marked lo row.length c A (k + (total (m.take r) : Nat)) wr e w2) : MarkingM lo hi n v k m vs (r + 1) w w2 := by
  obtain ⟨h1, h2⟩ := h
  obtain ⟨_, h3, h4⟩ := hm
  have hrl : r < m.length := by
    rcases Nat.lt_or_ge r m.length with g | g
    · exact g
    · rw [List.getElem?_eq_none g] at hr; cases hr
  have h5 := h1.set_row hv (marks_length _ _) h3 h4
  rw [markM_step hrl (marksM_length _ _) (marksM_at m k r row hr)] at h5
  refine ⟨h5, h2.trans (Within.grown h4 fun g hg => ?_)⟩
  have hat : ((marksM k m).take r ++ m.drop r)[r]? = some row := by
    have e1 : ((marksM k m).take r).length = r := by simp [marksM_length]; omega
    rw [List.getElem?_append_right (by omega), e1, Nat.sub_self, List.getElem?_drop, Nat.add_zero]; exact hr
  obtain ⟨A2, c2, e2, o2⟩ := h1.inner r row hat
  rw [hv] at e2
  injection e2 with e2
  rw [e2] at hg
  exact ⟨(o2.1.lt g hg).1, o2.2 g hg⟩
theorem MarkingM.done {lo hi n : Nat} {v : Value} {k : Int} {m : List (List Int)} {vs : List Value} {w wr : World} (h : MarkingM lo hi n v k m vs n w wr) (hl : m.length = n) : MarkedM lo hi n v k m vs w (.returned (.int .i64 (k + (total m : Nat)))) wr := by
  obtain ⟨h1, h2⟩ := h
  rw [List.take_of_length_le (by rw [marksM_length]; omega), List.drop_eq_nil_of_le (by omega), List.append_nil] at h1
  exact ⟨rfl, h1, h2⟩
theorem MarkingM.at_ {lo hi n r : Nat} {v : Value} {k : Int} {m : List (List Int)} {vs : List Value} {row : List Int} {w wr : World} (h : MarkingM lo hi n v k m vs r w wr) (hr : m[r]? = some row) :
    ∃ A c, vs[r]? = some (.slice A row.length c) ∧ OwnR wr lo hi 2 (.slice A row.length c) row.length (ints row) := by
  have hrl : r < m.length := by
    rcases Nat.lt_or_ge r m.length with g | g
    · exact g
    · rw [List.getElem?_eq_none g] at hr; cases hr
  have hat : ((marksM k m).take r ++ m.drop r)[r]? = some row := by
    have e1 : ((marksM k m).take r).length = r := by simp [marksM_length]; omega
    rw [List.getElem?_append_right (by omega), e1, Nat.sub_self, List.getElem?_drop, Nat.add_zero]; exact hr
  exact h.1.inner r row hat
end Go.Proofs.YtjmjdcfgbaepkaaGreat
/-
  All trees with so many nodes, the program's.
-/
namespace Go.Proofs.YtjmjdcfgbaepkaaGreat
open Go.RowKit Fld
set_option linter.unusedVariables false
set_option linter.unusedSimpArgs false
set_option maxRecDepth 100000

theorem slicesClone_any (ad : Addr) (n c B : Nat) (xs : List Int) (w : World) (hl : xs.length = n) (hn : n ≤ 1048576) (hB : B ≤ w.heap.size) (h : Row w B (some ad) (ints xs)) :
    Calls Tryz.prog 53 #[.slice (some ad) n c] w (NewRow 2 n (ints xs) w) := by
  obtain ⟨i0, hi, hz0, hz1, hz2⟩ := info_parts info_i64
  have hnews := (h.alloc hB (.cells #[] 2)).news
  have hlen : (ints xs).length = n * 1 := by rw [ints_length, hl, Nat.mul_one]
  have h1 := ints_cells xs
  have hown0 := (Growing.start w 2).1
  have hbel0 := (Growing.start w 2).2
  have q22 : ∀ (w : World) (a : Option Addr) (n c n' c' : Nat), (binOp .eql 24 (.slice a n c) (.slice none n' c')).run Tryz.prog w = .ok (.bool a.isNone) w := fun w a n c n' c' => Lib.run_eql_slice_nil w _ _ a n c n' c' Tryz.underlying24
  go_enter Tryz.func53, Tryz.ntmps53
  go_wp2_with (at_builtin; refine wpList_append_own _ rfl (.tmp 5) (.tmp 6) 24 rfl w.heap.size 2 i0 _ 1 8 Tryz.underlying24 hi hz0 hz1 hz2 rfl (by omega) (.slice (some ⟨w.heap.size, 0, none⟩) 0 0) 0 [] rfl hown0 ad n c (ints xs) rfl hlen hnews h1 (by simp only [maxLen]; omega) (by omega) (by simp) ?_; intro v' w' hown hgrow _)
  go_ret
  rw [Nat.zero_add] at hown
  exact NewRow.own hown (hbel0.grown hgrow (by simp) (fun k hk => (hown0.lt k hk).1))
def rangeL (n : Nat) : List Int := (List.range n).map fun k : Nat => (k : Int)
theorem rangeL_length (n : Nat) : (rangeL n).length = n := by simp [rangeL]
theorem rangeL_at {n k : Nat} (h : k < n) : (rangeL n)[k]? = some (k : Int) := by unfold rangeL; rw [List.getElem?_map, List.getElem?_range h]; rfl
def chkT (n : Nat) : Bool := (Tr.treesL (n + 1)).all (fun t => Tr.isLv t && decide (t.length = n + 1)) && decide ((Tr.treesL (n + 1)).length ≤ 115)
theorem chkT_all : (List.range 8).all chkT = true := by decide +kernel
theorem trees_all {n : Nat} (h1 : 1 ≤ n) (h8 : n ≤ 8) : (∀ t ∈ Tr.treesL n, Tr.isLv t = true ∧ t.length = n) ∧ (Tr.treesL n).length ≤ 115 := by
  have h := List.all_eq_true.1 chkT_all (n - 1) (by rw [List.mem_range]; omega)
  unfold chkT at h
  rw [show n - 1 + 1 = n from by omega] at h
  simp only [Bool.and_eq_true, List.all_eq_true, decide_eq_true_eq] at h
  exact h
/-- the trees so far, the last one of them as it stands in the levels -/
structure Listed (n : Nat) (m : List (List Int)) (T : List Int) : Prop where
  last : ∃ m', m = m' ++ [T] ∧ Tr.treesL n = m' ++ Tr.treesF (116 - m'.length) T
theorem Listed.bd {n : Nat} {m : List (List Int)} {T : List Int} (h : Listed n m T) (h1 : 1 ≤ n) (h8 : n ≤ 8) : Tr.isLv T = true ∧ T.length = n ∧ 1 ≤ m.length ∧ m.length ≤ 115 := by
  obtain ⟨m', rfl, e⟩ := h.last
  obtain ⟨hall, hlen⟩ := trees_all h1 h8
  rw [e, List.length_append] at hlen
  have hf : 116 - m'.length = (115 - m'.length) + 1 := by omega
  have hT : T ∈ Tr.treesL n := by rw [e, hf, Tr.treesF]; simp
  have h2 := hall T hT
  rw [hf, Tr.treesF, List.length_cons] at hlen
  exact ⟨h2.1, h2.2, by simp, by rw [List.length_append]; simp; omega⟩
theorem Listed.done {n : Nat} {m : List (List Int)} {T : List Int} (h : Listed n m T) (h1 : 1 ≤ n) (h8 : n ≤ 8) (hl : Tr.lowerL T = none) : m = Tr.treesL n := by
  have hb := h.bd h1 h8
  obtain ⟨m', rfl, e⟩ := h.last
  have hlen := hb.2.2.2
  rw [List.length_append] at hlen
  simp at hlen
  rw [e, show 116 - m'.length = (115 - m'.length) + 1 from by omega, Tr.treesF, hl]
theorem Listed.next {n : Nat} {m : List (List Int)} {T u : List Int} (h : Listed n m T) (h1 : 1 ≤ n) (h8 : n ≤ 8) (hl : Tr.lowerL T = some u) : Listed n (m ++ [u]) u := by
  have hb := h.bd h1 h8
  obtain ⟨m', rfl, e⟩ := h.last
  have hlen := hb.2.2.2
  rw [List.length_append] at hlen
  simp at hlen
  refine ⟨m' ++ [T], rfl, ?_⟩
  rw [e, show 116 - m'.length = (115 - m'.length) + 1 from by omega, Tr.treesF, hl, List.length_append]
  simp
theorem Listed.start (n : Nat) : Listed n [rangeL n] (rangeL n) := ⟨[], rfl, rfl⟩
set_option maxHeartbeats 2000000 in
theorem treesWith_any (n : Nat) (w : World) (h1 : 1 ≤ n) (h8 : n ≤ 8) :
    Calls Tryz.prog 33 #[.int .i64 n] w (NewMat (Tr.treesL n).length (Tr.treesL n) w) := by
  obtain ⟨i0, hi, hz0, hz1, hz2⟩ := info_parts info_i64
  obtain ⟨j0, hj, hy0, hy1, hy2⟩ := info_parts info_row
  go_enter Tryz.func33, Tryz.ntmps33
  go_wp2_with (at_make; refine wpList_make_full _ rfl (.tmp 6) (.tmp 6) 24 rfl w.heap.size 2 i0 _ 1 Tryz.underlying24 hi hz0 hz1 .i64 .i64 _ _ n rfl rfl rfl rfl (by rw [hz2]; omega) (by simp only [maxLen]; omega) (Nat.le_refl _) ?_; intro w1 hown hg)
  have F0 := Filling.start (xs := rangeL n) hown hg
  clear hown hg hz0 hz1 hz2 hi
  go_wp2_with fail
  go_loopw [10] (fun i wr => ∃ k : Nat, k ≤ n ∧ i = .int .i64 k ∧ Filling w 2 n (rangeL n) k wr) (fun i _ => n - (intOf i).toNat)
  case atStart => exact ⟨0, Nat.zero_le _, rfl, F0⟩
  case round =>
    obtain ⟨k, hk, rfl, HF⟩ := hrel
    by_cases hlt : k < n
    · have hf := HF.1.frozenAt k
      have ho := HF.1.cellAt k (by omega)
      rw [fill_at (by rw [ints_length]; exact rangeL_length n) hlt] at ho
      have G := Lib.hid (HF.step (rangeL_length n) (rangeL_at hlt))
      clear F0 HF
      go_wp2
      go_roundw
      case rel => exact ⟨k + 1, by omega, by go_num, G.out⟩
      case measure => simp [intOf]; omega
    · obtain rfl : k = n := by omega
      obtain ⟨A0, c0, e0, hown1, hbel1⟩ := HF.done (rangeL_length k)
      injection e0 with e0
      injection e0 with eA _ ec
      subst eA ec
      obtain ⟨wo, hwo⟩ : ∃ wo, wo = wr := ⟨wr, rfl⟩
      subst hwo
      have HLV := Lib.hid (OwnR.of hown1)
      have HB1 := Lib.hid hbel1
      have hs1 : w.heap.size < wo.heap.size := (hown1.lt w.heap.size rfl).2
      clear F0 HF hown1 hbel1
      go_wp2_with fail
      refine (slicesClone_any ⟨w.heap.size, 0, none⟩ k k wo.heap.size (rangeL k) _ (rangeL_length k) (by omega) (Nat.le_refl _) HLV.out.row).mono ?_
      rintro e w2 ⟨A2, c2, rfl, own2, bel2⟩
      have HO2 := Lib.hid own2
      have HB2 := Lib.hid bel2
      have hs2 := bel2.size
      clear own2 bel2
      go_wp2_with fail
      have HM0 : Hid (OwnMat (w2.alloc (.cells #[.slice A2 k c2] 24)) wo.heap.size (w2.alloc (.cells #[.slice A2 k c2] 24)).heap.size (.slice (some ⟨w2.heap.size, 0, none⟩) 1 1) 1 [rangeL k] [.slice A2 k c2]) := by
        have hal : Below w2.heap.size w2 (w2.alloc (.cells #[.slice A2 k c2] 24)) := (Below.refl _ _).alloc (Nat.le_refl _) _
        have hlit := World.ownsRow_lit (base := wo.heap.size) (size := 1) (e := 24) w2 #[.slice A2 k c2] 1 hs2 (by simp [maxLen]) rfl
        refine ⟨OwnR.of hlit, rfl, ?_, ?_⟩
        · intro r row hr
          match r, hr with
          | 0, hr =>
            simp only [List.getElem?_cons_zero, Option.some.injEq] at hr
            subst hr
            refine ⟨A2, c2, by rw [rangeL_length]; rfl, ?_⟩
            rw [rangeL_length]
            exact ((OwnR.of HO2.out).below hal (Nat.le_refl _)).more (Nat.le_refl _) hal.size
          | r+1, hr => simp at hr
        · intro r s u t g hne hu ht
          match r, s, hu, ht with
          | 0, 0, _, _ => exact absurd rfl hne
          | r+1, _, hu, _ => simp at hu
          | 0, s+1, _, ht => simp at ht
      have HL0 : Hid (OwnR (w2.alloc (.cells #[.slice A2 k c2] 24)) w.heap.size wo.heap.size 2 (.slice (some ⟨w.heap.size, 0, none⟩) k k) k (ints (rangeL k))) :=
        (HLV.out.below HB2.out (Nat.le_refl _)).below ((Below.refl w2.heap.size w2).alloc (Nat.le_refl _) _) hs2
      have HB0 : Hid (Below w.heap.size w (w2.alloc (.cells #[.slice A2 k c2] 24))) := (HB1.out.trans (HB2.out.mono (by omega))).alloc (by omega) _
      go_loopw [5] (fun v W => ∃ (g cap j : Nat) (m : List (List Int)) (vs : List Value) (T : List Int), v = .slice (some ⟨g, 0, none⟩) j cap ∧ 1 ≤ j ∧ j ≤ 115 ∧ Hid (Listed k m T) ∧ Hid (OwnMat W wo.heap.size W.heap.size (.slice (some ⟨g, 0, none⟩) j cap) j m vs) ∧ Hid (OwnR W w.heap.size wo.heap.size 2 (.slice (some ⟨w.heap.size, 0, none⟩) k k) k (ints T)) ∧ Below w.heap.size w W ∧ wo.heap.size ≤ W.heap.size) (fun v _ => 200 - (match v with | .slice _ n _ => n | _ => 0))
      case atStart => exact ⟨w2.heap.size, 1, 1, [rangeL k], [.slice A2 k c2], rangeL k, rfl, Nat.le_refl _, by omega, Listed.start k, HM0, HL0, HB0.out, by simp; omega⟩
      case round =>
        obtain ⟨g, cap, j, m, vs, T, rfl, j1, j115, HT, HM, HL, HB, hWo⟩ := hrel
        obtain ⟨tlv, tl, _, _⟩ := HT.out.bd h1 h8
        have HTL := Lib.hid tl
        have C0 := lower_any w.heap.size w.heap.size k k T wr tl tlv HL.out.1
        clear tl tlv
        go_wp2_with fail
        refine C0.mono ?_
        rintro e w3 ⟨md, ⟨hlo, rfl, rfl⟩ | ⟨u, hlo, rfl, hown3, hg3⟩⟩
        · have e := HT.out.done h1 h8 hlo
          have hjl : m.length = j := HM.out.size
          have G : Hid (NewMat (Tr.treesL k).length (Tr.treesL k) w (.returned (.slice (some ⟨g, 0, none⟩) j cap)) (wr.drewN md)) := by
            rw [Hid, ← e, hjl]
            exact ⟨_, _, vs, rfl, (HM.out.drewN md).more (by omega) (Nat.le_refl _), below_drewN HB md⟩
          clear hlo e hjl HB C0
          go_wp2
          go_ret
          exact G.out
        · have hsz3 : wr.heap.size ≤ w3.heap.size := hg3.size
          have hWI : Within w.heap.size wo.heap.size (wr.drewN md) w3 := Within.grown hg3 (fun g' e => by injection e with e; omega)
          have HM3 : Hid (OwnMat w3 wo.heap.size w3.heap.size (.slice (some ⟨g, 0, none⟩) j cap) j m vs) := ((HM.out.drewN md).within hWI (by show wr.heap.size ≤ wr.heap.size; omega) (.inr (Nat.le_refl _))).more (Nat.le_refl _) hsz3
          have HL3 : Hid (OwnR w3 w.heap.size wo.heap.size 2 (.slice (some ⟨w.heap.size, 0, none⟩) k k) k (ints u)) := ⟨hown3, fun g' e => by have : w.heap.size = g' := (by simpa [Value.ownBlock] using e); omega⟩
          have HB3 : Hid (Below w.heap.size w w3) := Below.then (below_drewN HB md) hWI (Nat.le_refl _) (by show w.heap.size ≤ wr.heap.size; omega)
          have HN := Lib.hid (HT.out.next h1 h8 hlo)
          have hul : u.length = k := (HN.out.bd h1 h8).2.1
          have huj : j + 1 ≤ 115 := by have := (HN.out.bd h1 h8).2.2.2; rw [List.length_append] at this; have := HM.out.size; simp at *; omega
          have HUL := Lib.hid hul
          have hW3 : wo.heap.size ≤ w3.heap.size := by omega
          clear hlo hown3 hg3 hWI HB C0 HM HL HT hul
          go_wp2_with fail
          refine (slicesClone_any ⟨w.heap.size, 0, none⟩ k k wo.heap.size u _ HUL.out (by omega) hW3 HL3.out.row).mono ?_
          rintro e w4 ⟨A4, c4, rfl, own4, bel4⟩
          have hs4 := bel4.size
          have HM4 := Lib.hid (HM3.out.below bel4 (Nat.le_refl _))
          have HL4 := Lib.hid (HL3.out.below bel4 hW3)
          have HB4 := Lib.hid (HB3.out.trans (bel4.mono (by omega)))
          have HO4 := Lib.hid own4
          have hownO := HM4.out.outer.1
          clear own4 bel4
          go_wp2_with (at_builtin; refine wpList_append_lies _ rfl (.tmp 23) (.tmp 26) 39 rfl wo.heap.size 24 j0 _ 1 24 Tryz.underlying39 hj hy0 hy1 hy2 rfl (by omega) (.slice (some ⟨g, 0, none⟩) j cap) j vs rfl (hownO.alloc _) ⟨w4.heap.size, 0, none⟩ 1 1 [.slice A4 k c4] rfl rfl (World.news_of_block (cs := #[.slice A4 k c4]) (heap_alloc_new _ _)) (by simp [Value.oneCell']) (by omega) (by simp only [maxLen]; omega) (by omega) (by simp; omega) (w4.heap.size + 1) (by simp) ?_; intro g5 cap5 w5 hown5 hgrow5 hat5 hlt5)
          have hs5 : w4.heap.size ≤ w5.heap.size := by have := hgrow5.size; simp at this; omega
          have GM : Hid (OwnMat w5 wo.heap.size w5.heap.size (.slice (some ⟨g5, 0, none⟩) (j + 1) cap5) (j + 1) (m ++ [u]) (vs ++ [.slice A4 k c4])) := HM4.out.push (row := u) hs4 HUL.out HO4.out hW3 hown5 hgrow5
          have GL : Hid (OwnR w5 w.heap.size wo.heap.size 2 (.slice (some ⟨w.heap.size, 0, none⟩) k k) k (ints u)) :=
            ((HL4.out.below ((Below.refl w4.heap.size w4).alloc (Nat.le_refl _) _) (by omega)).grown hgrow5 (own_types HL4.out.1 hownO (by decide)))
          have GB : Hid (Below w.heap.size w w5) := (HB4.out.alloc (by omega) _).grown hgrow5 (by simp; omega) (fun q hq => by have := (hownO.lt q hq).1; omega)
          clear hown5 hgrow5 hat5 hownO
          go_wp2
          go_roundw
          case rel => exact ⟨g5, cap5, j + 1, _, _, u, rfl, by omega, huj, HN, GM, GL, GB.out, by omega⟩
          case measure => simp; omega
end Go.Proofs.YtjmjdcfgbaepkaaGreat
/-
  A list of lists beside a code, as calls hand it back.
-/
namespace Go.Proofs.YtjmjdcfgbaepkaaGreat
open Go.RowKit Fld
set_option linter.unusedVariables false
set_option linter.unusedSimpArgs false
set_option maxRecDepth 100000

/-- a list of lists that the call owns, beside a code -/
def ResM (r : List (List Int) × Int) (w : World) (e : Ending) (w' : World) : Prop :=
  r.1.length + total r.1 ≤ 1048576 ∧ ∃ A c vs, e = .returned (.tuple #[.slice A r.1.length c, .int .i64 r.2]) ∧ OwnMat w' w.heap.size w'.heap.size (.slice A r.1.length c) r.1.length r.1 vs ∧ Below w.heap.size w w'
theorem OwnMat.nil' (w : World) (lo hi : Nat) : OwnMat w lo hi (.slice none 0 0) 0 [] [] :=
  ⟨⟨World.ownsRow_nil _ _ _ _, fun g e => by simp [Value.ownBlock] at e⟩, rfl, fun r row hr => by simp at hr, fun r s u t g _ hu => by simp at hu⟩
theorem ResM.nil {r : List (List Int) × Int} {w w' : World} {k : Int} (h : r = ([], k)) (hb : Below w.heap.size w w') : ResM r w (.returned (.tuple #[.slice none 0 0, .int .i64 k])) w' := by
  subst h
  exact ⟨by simp [total], none, 0, [], rfl, OwnMat.nil' _ _ _, hb⟩
theorem ResM.of {r : List (List Int) × Int} {w w' : World} {A : Option Addr} {n c : Nat} {m : List (List Int)} {vs : List Value} {k : Int} (h : r = (m, k)) (hn : m.length + total m ≤ 1048576)
    (ho : OwnMat w' w.heap.size w'.heap.size (.slice A n c) n m vs) (hb : Below w.heap.size w w') : ResM r w (.returned (.tuple #[.slice A n c, .int .i64 k])) w' := by
  subst h
  have e := ho.size
  subst e
  exact ⟨hn, A, c, vs, rfl, ho, hb⟩
/-- lists in memory below a bound: the model's -/
def LowMat (w : World) (hi : Nat) (A : Option Addr) (m : List (List Int)) : Prop := Mat w hi A m
theorem LowMat.below {w w' : World} {hi B : Nat} {A : Option Addr} {m : List (List Int)} (h : LowMat w hi A m) (hb : Below B w w') (hB : hi ≤ B) : LowMat w' hi A m := Mat.below h hb hB
theorem LowMat.within {w w' : World} {hi lo' hi' : Nat} {A : Option Addr} {m : List (List Int)} (h : LowMat w hi A m) (hb : Within lo' hi' w w') (hs : hi ≤ w.heap.size) (hd : hi ≤ lo') : LowMat w' hi A m :=
  Mat.keep h fun b o hbb => World.cell?_of_block (hb.block b (by omega) (by omega))
theorem LowMat.mat {w : World} {hi : Nat} {A : Option Addr} {m : List (List Int)} (h : LowMat w hi A m) : Mat w hi A m := h
theorem LowMat.drewN {w : World} {hi : Nat} {A : Option Addr} {m : List (List Int)} (h : LowMat w hi A m) (k : Nat) : LowMat (w.drewN k) hi A m := h
def ResMl (r : List (List Int) × Int) (w : World) (e : Ending) (w' : World) : Prop :=
  r.1.length + total r.1 ≤ 1048576 ∧ ∃ A c, e = .returned (.tuple #[.slice A r.1.length c, .int .i64 r.2]) ∧ LowMat w' w'.heap.size A r.1 ∧ Below w.heap.size w w'
theorem ResMl.nil {r : List (List Int) × Int} {w w' : World} {k : Int} (h : r = ([], k)) (hb : Below w.heap.size w w') : ResMl r w (.returned (.tuple #[.slice none 0 0, .int .i64 k])) w' := by
  subst h
  exact ⟨by simp [total], none, 0, rfl, fun k r hr => by simp at hr, hb⟩
theorem ResMl.of {r : List (List Int) × Int} {w w' : World} {A : Option Addr} {n c : Nat} {m : List (List Int)} {k : Int} (h : r = (m, k)) (hl : m.length = n) (hn : m.length + total m ≤ 1048576)
    (ho : Mat w' w'.heap.size A m) (hb : Below w.heap.size w w') : ResMl r w (.returned (.tuple #[.slice A n c, .int .i64 k])) w' := by
  subst h hl
  exact ⟨hn, A, c, rfl, ho, hb⟩
end Go.Proofs.YtjmjdcfgbaepkaaGreat
/-
  What TreesOf answers, the program's and the model's.
-/
namespace Go.Proofs.YtjmjdcfgbaepkaaGreat
open Go.RowKit Fld
set_option linter.unusedVariables false
set_option linter.unusedSimpArgs false
set_option maxRecDepth 100000

theorem total_bd {q : Nat} : ∀ {m : List (List Int)}, (∀ t ∈ m, t.length ≤ q) → total m ≤ m.length * q
  | [], _ => by simp [total]
  | x :: r, h => by
    have h1 := h x (by simp)
    have h2 := total_bd (fun t ht => h t (by simp [ht]) : ∀ t ∈ r, t.length ≤ q)
    have e : total (x :: r) = x.length + total r := by simp [total]
    rw [e, List.length_cons, Nat.add_mul, Nat.one_mul]; omega
theorem trees_total {n : Nat} (h1 : 1 ≤ n) (h8 : n ≤ 8) : (Tr.treesL n).length + total (Tr.treesL n) ≤ 1048576 := by
  obtain ⟨ha, hl⟩ := trees_all h1 h8
  have := total_bd (q := 8) (m := Tr.treesL n) (fun t ht => by rw [(ha t ht).2]; exact h8)
  omega
def treesOfA (a : Int) : List (List Int) × Int := if 1 ≤ a ∧ a ≤ 8 then (Tr.treesL a.toNat, 0) else ([], 2)
theorem treesOfA_yes {n : Nat} (h1 : 1 ≤ n) (h8 : n ≤ 8) : treesOfA (n : Int) = (Tr.treesL n, 0) := by
  unfold treesOfA; rw [if_pos (by omega)]; rfl
theorem treesOfA_no {a : Int} (h : ¬ (1 ≤ a ∧ a ≤ 8)) : treesOfA a = ([], 2) := if_neg h
theorem pTreesOf_L (a : Int) (w : World) (ha : -9223372036854775808 ≤ a ∧ a ≤ 9223372036854775807) : Calls Tryz.prog 14 #[.int .i64 a] w (ResM (treesOfA a) w) := by
  by_cases h : 1 ≤ a ∧ a ≤ 8
  · obtain ⟨n, rfl⟩ : ∃ n : Nat, a = (n : Int) := ⟨a.toNat, by omega⟩
    have h1 : 1 ≤ n := by omega
    have h8 : n ≤ 8 := by omega
    have G := Lib.hid (treesOfA_yes h1 h8)
    clear h ha
    go_enter Tryz.func14, Tryz.ntmps14
    go_wp2_with fail
    refine (treesWith_any n _ h1 h8).mono ?_
    rintro e w1 ⟨A1, c1, vs1, rfl, own1, bel1⟩
    have HO := Lib.hid own1
    have HB := Lib.hid bel1
    have HT := Lib.hid (trees_total h1 h8)
    clear own1 bel1
    go_wp2
    go_ret2
    exact ResM.of G.out HT.out HO.out HB.out
  · have G := Lib.hid (treesOfA_no h)
    by_cases h1 : a < 1
    · clear h
      go_enter Tryz.func14, Tryz.ntmps14
      go_wp2
      go_ret2
      exact ResM.nil G.out (Below.refl _ _)
    · have h8 : 8 < a := by omega
      clear h
      go_enter Tryz.func14, Tryz.ntmps14
      go_wp2
      go_ret2
      exact ResM.nil G.out (Below.refl _ _)
end Go.Proofs.YtjmjdcfgbaepkaaGreat
/-
  Grafting at all nodes, gone through.
-/
namespace Go.Proofs.YtjmjdcfgbaepkaaGreat.Tr
set_option maxRecDepth 100000

def chkI (u : List Int) : Bool := upTo (8 - u.length) fun v => (List.range u.length).all fun k => decide (txt (gl u k v) = grfF 8 (txt u) k (txt v)) && isLv (gl u k v)
def chkI' (u : List Int) : Bool := !decide (can u = u) || chkI u
theorem chkI_all : allLv.all chkI' = true := by decide +kernel
theorem graft_at {u v : List Int} (hu : isLv u = true) (hc : can u = u) (hv : isLv v = true) (h8 : u.length + v.length ≤ 8) {k : Nat} (hk : k < u.length) : txt (gl u k v) = grfF 8 (txt u) k (txt v) ∧ isLv (gl u k v) = true := by
  have h1 := all_of chkI_all (isLv_iff.1 hu)
  unfold chkI' chkI at h1
  rw [decide_eq_true hc] at h1
  have h2 := upTo_of (by simpa using h1) hv (by omega)
  rw [List.all_eq_true] at h2
  have h3 := h2 k (by rw [List.mem_range]; exact hk)
  simp only [Bool.and_eq_true, decide_eq_true_eq] at h3
  exact h3
end Go.Proofs.YtjmjdcfgbaepkaaGreat.Tr
/-
  What GraftAt and ButcherProduct answer, the program's and the model's.
-/
namespace Go.Proofs.YtjmjdcfgbaepkaaGreat
open Go.RowKit Fld
set_option linter.unusedVariables false
set_option linter.unusedSimpArgs false
set_option maxRecDepth 100000

def graftAtA (u : List Int) (k : Int) (v : List Int) : List Int × Int :=
  if Tr.isLv u = true ∧ Tr.isLv v = true then (if 0 ≤ k ∧ k < (u.length : Int) then (if u.length + v.length ≤ 8 then (Tr.can (Tr.gl (Tr.can u) k.toNat v), 0) else ([], 3)) else ([], 2)) else ([], 1)
def butcherA (u v : List Int) : List Int × Int := graftAtA u 0 v
theorem graftA_no1 {u v : List Int} {k : Int} (h : Tr.isLv u = false) : graftAtA u k v = ([], 1) := if_neg (by rw [h]; simp)
theorem graftA_no2 {u v : List Int} {k : Int} (h : Tr.isLv v = false) : graftAtA u k v = ([], 1) := if_neg (by rw [h]; simp)
theorem graftA_out {u v : List Int} {k : Int} (h : Tr.isLv u = true) (h' : Tr.isLv v = true) (hk : ¬ (0 ≤ k ∧ k < (u.length : Int))) : graftAtA u k v = ([], 2) := by
  unfold graftAtA; rw [if_pos ⟨h, h'⟩, if_neg hk]
theorem graftA_big {u v : List Int} {k : Int} (h : Tr.isLv u = true) (h' : Tr.isLv v = true) (hk : 0 ≤ k ∧ k < (u.length : Int)) (h8 : ¬ u.length + v.length ≤ 8) : graftAtA u k v = ([], 3) := by
  unfold graftAtA; rw [if_pos ⟨h, h'⟩, if_pos hk, if_neg h8]
theorem graftA_yes {u v : List Int} {k : Nat} (h : Tr.isLv u = true) (h' : Tr.isLv v = true) (hk : k < u.length) (h8 : u.length + v.length ≤ 8) : graftAtA u (k : Int) v = (Tr.can (Tr.gl (Tr.can u) k v), 0) := by
  unfold graftAtA; rw [if_pos ⟨h, h'⟩, if_pos (by omega), if_pos h8]; rfl
/-- all that is known of a graft -/
theorem graft_parts {u v : List Int} {k : Nat} (h : Tr.isLv u = true) (h' : Tr.isLv v = true) (hk : k < u.length) (h8 : u.length + v.length ≤ 8) :
    Tr.txt (Tr.gl (Tr.can u) k v) = Tr.grfF 8 (Tr.txt u) k (Tr.txt v) ∧ Tr.isLv (Tr.gl (Tr.can u) k v) = true ∧ (Tr.gl (Tr.can u) k v).length = u.length + v.length := by
  obtain ⟨c1, c2⟩ := lv_can h
  obtain ⟨c3, c4⟩ := Tr.can_can h
  obtain ⟨g1, g2⟩ := Tr.graft_at c1 c3 h' (by omega) (k := k) (by omega)
  rw [c4] at g1
  exact ⟨g1, g2, by rw [Tr.gl_length (Tr.endL_le (by omega)).2, c2]⟩
theorem butcher_eq {u v : List Int} (h : Tr.isLv u = true) (h' : Tr.isLv v = true) (h8 : u.length + v.length ≤ 8) : Tr.can (Tr.gl u 0 v) = Tr.can (Tr.gl (Tr.can u) 0 v) := by
  have h1 : 0 < u.length := (Tr.isLv_iff.1 h).1
  obtain ⟨g1, g2⟩ := Tr.graft_root h h' h8
  obtain ⟨p1, p2, _⟩ := graft_parts h h' h1 h8
  have e : Tr.txt (Tr.gl u 0 v) = Tr.txt (Tr.gl (Tr.can u) 0 v) := by rw [g1, p1]
  rw [← (lv_txt g2).1, ← (lv_txt p2).1, e]
theorem hasNode_any (A : Option Addr) (n c : Nat) (k : Int) (w : World) (hn : n ≤ 1048576) : Calls Tryz.prog 18 #[.slice A n c, .int .i64 k] w fun e w' => e = .returned (.bool (decide (0 ≤ k ∧ k < (n : Int)))) ∧ ∃ m, w' = w.drewN m := by
  by_cases h0 : 0 ≤ k
  · by_cases h1 : k < (n : Int)
    · have G : Hid (decide (0 ≤ k ∧ k < (n : Int)) = true) := decide_eq_true ⟨h0, h1⟩
      have d0 : decide (0 ≤ k) = true := decide_eq_true h0
      have d1 : decide (k < (n : Int)) = true := decide_eq_true h1
      go_enter Tryz.func18, Tryz.ntmps18
      go_wp2
      go_ret
      exact ⟨by first | rfl | exact ret_bool G.out.symm, 0, rfl⟩
    · have G : Hid (decide (0 ≤ k ∧ k < (n : Int)) = false) := decide_eq_false (fun h => h1 h.2)
      have d0 : decide (0 ≤ k) = true := decide_eq_true h0
      have d1 : decide (k < (n : Int)) = false := decide_eq_false h1
      go_enter Tryz.func18, Tryz.ntmps18
      go_wp2
      go_ret
      exact ⟨by first | rfl | exact ret_bool G.out.symm, 0, rfl⟩
  · have G : Hid (decide (0 ≤ k ∧ k < (n : Int)) = false) := decide_eq_false (fun h => h0 h.1)
    have d0 : decide (0 ≤ k) = false := decide_eq_false h0
    go_enter Tryz.func18, Tryz.ntmps18
    go_wp2
    go_ret
    exact ⟨by first | rfl | exact ret_bool G.out.symm, 0, rfl⟩
theorem two_lists {A A' : Option Addr} {n n' c c' B B' : Nat} {s t : List Int} {w : World} (hl : s.length = n) (hl' : t.length = n') (hB : B ≤ w.heap.size) (hB' : B' ≤ w.heap.size) (h : Row w B A (ints s)) (h' : Row w B' A' (ints t)) :
    Lsts (w.alloc (.cells #[.slice A n c, .slice A' n' c'] 24)) w.heap.size (some ⟨w.heap.size, 0, none⟩) [s, t] := fun k r hr => by
  have hal : Below w.heap.size w (w.alloc (.cells #[.slice A n c, .slice A' n' c'] 24)) := (Below.refl _ _).alloc (Nat.le_refl _) _
  match k, hr with
  | 0, hr =>
    simp only [List.getElem?_cons_zero, Option.some.injEq] at hr
    subst hr
    exact ⟨_, _, A, c, rfl, by rw [hl, World.cell?_alloc_at (hn := by simp)]; rfl, (Row.below h hal hB).more hB⟩
  | 1, hr =>
    simp only [List.getElem?_cons_succ, List.getElem?_cons_zero, Option.some.injEq] at hr
    subst hr
    exact ⟨_, _, A', c', rfl, by rw [hl', World.cell?_alloc_at (hn := by simp)]; rfl, (Row.below h' hal hB').more hB'⟩
  | k+2, hr => simp at hr
set_option maxHeartbeats 2000000 in
theorem pGraftAt_L (A A' : Option Addr) (n n' c c' B B' : Nat) (s t : List Int) (k : Int) (w : World) (hl : s.length = n) (hl' : t.length = n') (hn : n ≤ 1048576) (hn' : n' ≤ 1048576) (hB : B ≤ w.heap.size) (hB' : B' ≤ w.heap.size) (h : Row w B A (ints s)) (h' : Row w B' A' (ints t)) (hk64 : -9223372036854775808 ≤ k ∧ k ≤ 9223372036854775807) (hc : n ≤ c) (hc' : n' ≤ c') :
    Calls Tryz.prog 34 #[.slice A n c, .int .i64 k, .slice A' n' c'] w (ResL (graftAtA s k t) w) := by
  have hal : Below w.heap.size w (w.alloc (.cells #[.slice A n c, .slice A' n' c'] 24)) := (Below.refl _ _).alloc (Nat.le_refl _) _
  have C0 := areLevels_any (some ⟨w.heap.size, 0, none⟩) 2 2 w.heap.size [s, t] _ rfl (by omega) (fun r hr => by
    simp only [List.mem_cons, List.not_mem_nil, or_false] at hr
    rcases hr with rfl | rfl <;> omega) (two_lists (c := c) (c' := c') hl hl' hB hB' h h')
  have hb : allLvM [s, t] = (Tr.isLv s && Tr.isLv t) := by simp [allLvM]
  rw [hb] at C0
  have C1 := fun w => hasNode_any A n c k w hn
  by_cases hlv : Tr.isLv s = true ∧ Tr.isLv t = true
  · obtain ⟨h1, h2⟩ := hlv
    rw [h1, h2] at C0
    obtain ⟨a1, a8⟩ := lv_bd h1
    obtain ⟨b1, b8⟩ := lv_bd h2
    have z1 := (lv_txt h1).2.2.2
    have z2 := (lv_txt h2).2.2.2
    rw [hl] at a1 a8
    rw [hl'] at b1 b8
    by_cases hk : 0 ≤ k ∧ k < (n : Int)
    · rw [decide_eq_true hk] at C1
      by_cases h8 : s.length + t.length ≤ 8
      · obtain ⟨kn, rfl⟩ : ∃ kn : Nat, k = (kn : Int) := ⟨k.toNat, by omega⟩
        have G := Lib.hid (graftA_yes h1 h2 (k := kn) (by omega) h8)
        obtain ⟨p1, p2, p3⟩ := graft_parts h1 h2 (k := kn) (by omega) h8
        have HCL : Hid ((Tr.can (Tr.gl (Tr.can s) kn t)).length = n + n') := by rw [Hid, (lv_can p2).2, p3, hl, hl']
        have HGL : Hid ((Tr.gl (Tr.can s) kn t).length = n + n') := by rw [Hid, p3, hl, hl']
        have HPT := Lib.hid p1
        have HLV := Lib.hid p2
        have C2 := fun w => graftAt_any (Tr.txt s) kn (Tr.txt t) w (Tr.tx_txt h1) (by omega) (by omega)
        rw [hl, hl'] at h8
        have HL := Lib.hid hl
        have HL' := Lib.hid hl'
        obtain ⟨hk0, hk1⟩ := hk
        clear hl hl' hb z1 z2 h1 h2 p1 p2 p3
        go_enter Tryz.func34, Tryz.ntmps34
        go_wp2_with fail
        refine C0.mono ?_
        rintro e w1 ⟨rfl, d, rfl⟩
        go_wp2_with fail
        refine (C1 _).mono ?_
        rintro e w1 ⟨rfl, d1, rfl⟩
        have B1 : Hid (Below w.heap.size w (((w.alloc (.cells #[.slice A n c, .slice A' n' c'] 24)).drewN d).drewN d1)) := below_drewN (below_drewN hal d) d1
        generalize ((w.alloc (.cells #[.slice A n c, .slice A' n' c'] 24)).drewN d).drewN d1 = W1 at *
        go_wp2_with fail
        refine (treeOf_any A n c B s _ HL.out a1 a8 hc (Nat.le_trans hB B1.out.size) (Row.below h B1.out hB)).mono ?_
        rintro e w2 ⟨rfl, bel2⟩
        have B2 : Hid (Below w.heap.size w w2) := B1.out.trans (bel2.mono B1.out.size)
        clear bel2
        go_wp2_with fail
        refine (treeOf_any A' n' c' B' t _ HL'.out b1 b8 hc' (Nat.le_trans hB' B2.out.size) (Row.below h' B2.out hB')).mono ?_
        rintro e w3 ⟨rfl, bel3⟩
        have B3 : Hid (Below w.heap.size w w3) := B2.out.trans (bel3.mono B2.out.size)
        clear bel3
        go_wp2_with fail
        refine (C2 _).mono ?_
        rintro e w4 ⟨rfl, bel4⟩
        have B4 : Hid (Below w.heap.size w w4) := B3.out.trans (bel4.mono B3.out.size)
        rw [← HPT.out]
        clear bel4 C2
        go_wp2_with fail
        refine (levelsOf_any (Tr.gl (Tr.can s) kn t) _ HLV.out).mono ?_
        rintro e w5 ⟨A5, c5, rfl, own5, bel5⟩
        rw [HGL.out] at own5 ⊢
        have GB : Hid (Below w.heap.size w w5) := B4.out.trans (bel5.mono B4.out.size)
        have GO : Hid (w5.ownsRow w.heap.size 2 1 (.slice A5 (n + n') c5) (n + n') (ints (Tr.can (Tr.gl (Tr.can s) kn t)))) := ((OwnR.of own5).more B4.out.size (Nat.le_refl _)).1
        clear own5 bel5
        go_wp2
        go_ret2
        exact ResL.of G.out HCL.out (by omega) GO.out GB.out
      · have G := Lib.hid (graftA_big h1 h2 (k := k) (by rw [hl]; exact hk) h8)
        rw [hl, hl'] at h8
        have h8' : 8 < (n : Int) + (n' : Int) := by omega
        clear hl hl' hb z1 z2 h1 h2 h8
        go_enter Tryz.func34, Tryz.ntmps34
        go_wp2_with fail
        refine C0.mono ?_
        rintro e w1 ⟨rfl, d, rfl⟩
        go_wp2_with fail
        refine (C1 _).mono ?_
        rintro e w1 ⟨rfl, d1, rfl⟩
        go_wp2
        go_ret2
        exact ResL.nil G.out (below_drewN hal _)
    · rw [decide_eq_false hk] at C1
      have G := Lib.hid (graftA_out h1 h2 (k := k) (by rw [hl]; exact hk))
      clear hl hl' hb z1 z2 h1 h2 hk
      go_enter Tryz.func34, Tryz.ntmps34
      go_wp2_with fail
      refine C0.mono ?_
      rintro e w1 ⟨rfl, d, rfl⟩
      go_wp2_with fail
      refine (C1 _).mono ?_
      rintro e w1 ⟨rfl, d1, rfl⟩
      go_wp2
      go_ret2
      exact ResL.nil G.out (below_drewN hal _)
  · have G : Hid (graftAtA s k t = ([], 1)) := if_neg hlv
    have e : (Tr.isLv s && Tr.isLv t) = false := by
      cases h1 : Tr.isLv s
      · rfl
      · cases h2 : Tr.isLv t
        · rfl
        · exact absurd ⟨h1, h2⟩ hlv
    rw [e] at C0
    clear hb e hlv hl hl'
    go_enter Tryz.func34, Tryz.ntmps34
    go_wp2_with fail
    refine C0.mono ?_
    rintro e w1 ⟨rfl, d, rfl⟩
    go_wp2
    go_ret2
    exact ResL.nil G.out (below_drewN hal d)
theorem pButcherProduct_L (A A' : Option Addr) (n n' c c' B B' : Nat) (s t : List Int) (w : World) (hl : s.length = n) (hl' : t.length = n') (hn : n ≤ 1048576) (hn' : n' ≤ 1048576) (hB : B ≤ w.heap.size) (hB' : B' ≤ w.heap.size) (h : Row w B A (ints s)) (h' : Row w B' A' (ints t)) (hc : n ≤ c) (hc' : n' ≤ c') :
    Calls Tryz.prog 15 #[.slice A n c, .slice A' n' c'] w (ResL (butcherA s t) w) := by
  have C0 := pGraftAt_L A A' n n' c c' B B' s t 0 w hl hl' hn hn' hB hB' h h' (by omega) hc hc'
  unfold butcherA
  clear h h' hl hl'
  go_enter Tryz.func15, Tryz.ntmps15
  go_wp2_with fail
  refine C0.mono ?_
  rintro e w1 ⟨z, A1, c1, rfl, own1, bel1⟩
  have G : Hid (ResL (graftAtA s 0 t) w (.returned (.tuple #[.slice A1 (graftAtA s 0 t).1.length c1, .int .i64 (graftAtA s 0 t).2])) w1) := ⟨z, A1, c1, rfl, own1, bel1⟩
  obtain ⟨r, hr⟩ : ∃ r, r = graftAtA s 0 t := ⟨_, rfl⟩
  have HR := Lib.hid hr
  rw [← hr] at G ⊢
  clear z own1 bel1 hr C0
  go_wp2
  go_ret2
  rw [← HR.out]
  exact G.out
end Go.Proofs.YtjmjdcfgbaepkaaGreat
/-
  Facts for the law FnRoots, out of what the contracts answer (tried against stand-ins of RerX and SupS only, at 001b4bf).
-/
namespace Go.Proofs.YtjmjdcfgbaepkaaGreat
open Go.RowKit Fld
set_option linter.unusedVariables false
set_option linter.unusedSimpArgs false
set_option maxRecDepth 100000

theorem resBI_out {x : Bool} {k : Int} {r : Bool × Int} {w w' : World} {e : Ending} (h : ResBI r w e w') (hr : r = (x, k)) : e = .returned (.tuple #[.bool x, .int .i64 k]) ∧ Below w.heap.size w w' := by
  subst hr; exact h
/-- what the calls of the law answer at a valid list and a node -/
theorem roots_facts {t : List Int} {k : Nat} (h : Tr.isLv t = true) (hk : k < t.length) :
    ∃ (u f : List Int) (d : Bool), rerootA t (k : Int) = (u, 0) ∧ u.length = t.length ∧ t.length ≤ 8 ∧ rootsA t = (rootsL t, 0) ∧ rootsA u = (rootsL t, 0) ∧ freeA t = (f, 0) ∧ f.length = t.length ∧ sameFreeA t u = (true, 0) ∧ supA t = (d, 0) ∧ supA u = (d, 0) ∧
      (∃ x, (rootsL t)[0]? = some (f, x)) ∧ ((rootsL t).map (·.2)).sum = (t.length : Int) ∧ (∀ p ∈ rootsL t, (0 ≤ p.2 ∧ p.2 ≤ 1048576) ∧ p.1.length ≤ 1048576) ∧ 0 < tmsTo (rootsL t) u (rootsL t).length ∧ d = (decide (t.length % 2 = 0) && Tr.halfP t) := by
  obtain ⟨q1, q2, q3, q4⟩ := turn_parts h hk
  obtain ⟨a1, a8⟩ := lv_bd h
  obtain ⟨⟨x, p0⟩, _, _, _, p4⟩ := free_parts h
  have hs := roots_same h hk
  have hf : freeL (Tr.turnF 9 (Tr.can t) k) = freeL t := by unfold freeL; rw [hs]
  have hp : ∀ p ∈ rootsL t, (0 ≤ p.2 ∧ p.2 ≤ 1048576) ∧ p.1.length ≤ 1048576 := fun p hp => by
    have b1 := rootsTo_bd h (Nat.le_refl _) p hp
    have b2 := Tr.sumTo_pos _ _ p hp
    omega
  refine ⟨Tr.turnF 9 (Tr.can t) k, freeL t, Tr.supT (Tr.txt t), rerootA_yes h hk, q3, a8, rootsA_yes h, by rw [rootsA_yes q1, hs], freeA_yes h, p4, ?_, ?_, ?_, ⟨x, p0⟩, roots_sum t, hp, ?_, sup_found h⟩
  · rw [sameFreeA_yes h q1, hf, eqL_self]
  · unfold supA; rw [if_pos h]
  · unfold supA; rw [if_pos q1, sup_same h hk]
  · obtain ⟨⟨v, y⟩, he, hv⟩ := turn_mem h hk
    have hv' : v = Tr.turnF 9 (Tr.can t) k := hv
    subst hv'
    obtain ⟨r, hr⟩ := List.getElem?_of_mem he
    exact tms_pos (fun p hp' => (hp p hp').1) hr (Tr.sumTo_pos _ _ _ he) _ (List.getElem?_eq_some_iff.1 hr).1
/-- a product with itself is among the trees, where times9 counts it -/
theorem half_tms {t h' : List Int} (h : Tr.isLv t = true) : decide (0 < tmsTo (rootsL t) (Tr.can (Tr.gl h' 0 h')) (rootsL t).length) = (Tr.turnsL t).any fun u => decide (u = Tr.can (Tr.gl h' 0 h')) := by
  rw [Bool.eq_iff_iff, decide_eq_true_iff, List.any_eq_true]
  constructor
  · intro hp
    rcases Classical.em (∃ e ∈ rootsL t, e.1 = Tr.can (Tr.gl h' 0 h')) with q | q
    · exact ⟨_, (mem_turns h).2 q, by simp⟩
    · exfalso
      have : ∀ r, tmsTo (rootsL t) (Tr.can (Tr.gl h' 0 h')) r = 0 := fun r => by
        induction r with
        | zero => rfl
        | succ r ih =>
          rw [tmsTo, ih]
          by_cases hr : r < (rootsL t).length
          · rw [if_neg (fun e => q ⟨(rootsL t)[r], List.getElem_mem hr, by rw [← e, List.getD_eq_getElem?_getD, List.getElem?_eq_getElem hr]; rfl⟩)]; rfl
          · rw [List.getD_eq_getElem?_getD, List.getElem?_eq_none (by omega)]
            simp
      rw [this] at hp; omega
  · rintro ⟨u, hu, e⟩
    obtain ⟨⟨v, y⟩, he, hv⟩ := (mem_turns h).1 hu
    have hv' : v = Tr.can (Tr.gl h' 0 h') := hv.trans (of_decide_eq_true e)
    subst hv'
    obtain ⟨r, hr⟩ := List.getElem?_of_mem he
    refine tms_pos (fun p hp => ?_) hr (Tr.sumTo_pos _ _ _ he) _ (List.getElem?_eq_some_iff.1 hr).1
    have b1 := rootsTo_bd h (Nat.le_refl _) p hp
    have b2 := Tr.sumTo_pos _ _ p hp
    omega
end Go.Proofs.YtjmjdcfgbaepkaaGreat
