/-
  Texts of this seat, joined: what several laws lean on.
-/
import Derived.Test.YtignimaimflenaaLev
import Derived.Test.YtignimaimflenaaForestS
import Derived.Test.YtignimaimflenaaSort
import Derived.Test.YtignimaimflenaaSrtF
import Derived.Test.YtignimaimflenaaTreesOfT
import Derived.Test.YtignimaimflenaaTreeC8
import Derived.Test.YtignimaimflenaaDrawF
import Derived.Test.YtignimaimflenaaDrawB
import Derived.BigQuiet
import Derived.Deep.RegionHeld3
import Derived.Test.YtignimaimflenaaTreeD
import Derived.Test.YtignimaimflenaaParts
import Derived.Test.YtignimaimflenaaLvl
import Derived.Outline
import Derived.Laws.DeepStrings4
import Derived.Test.YtignimaimflenaaNestc
import Derived.Test.YtignimaimflenaaLists
import Derived.Test.YtignimaimflenaaTreeX
import Derived.Test.YtignimaimflenaaTreeC7
import Derived.Test.YtignimaimflenaaSlices
import Derived.Test.YtignimaimflenaaDraws
import Derived.Test.YtignimaimflenaaPush
import Derived.Test.YtignimaimflenaaSCan
import Derived.Test.YtignimaimflenaaForest
import Derived.Test.YtignimaimflenaaOwn1
/-
  Are all lists level lists?
-/
namespace Go.Proofs.Ytignimaimflenaa
open Go.RowKit Fld
set_option linter.unusedVariables false
set_option linter.unusedSimpArgs false
set_option maxRecDepth 100000

/-- lists that stand side by side in memory -/
def Lsts (w : World) (B : Nat) (A : Option Addr) (m : List (List Int)) : Prop :=
  ∀ (k : Nat) (r : List Int), m[k]? = some r → ∃ b o Ak ck, A = some ⟨b, o, none⟩ ∧ w.cell? ⟨b, o + k, none⟩ = some (.slice Ak r.length ck) ∧ Row w B Ak (ints r)
theorem Lsts.drewN {w : World} {B : Nat} {A : Option Addr} {m : List (List Int)} (h : Lsts w B A m) (d : Nat) : Lsts (w.drewN d) B A m := h
theorem Lsts.of_mat {w : World} {B : Nat} {A : Option Addr} {m : List (List Int)} (h : Mat w B A m) : Lsts w B A m := fun k r hr => by
  obtain ⟨b, o, Ak, ck, e, _, hc, _, _, hrow⟩ := h k r hr
  exact ⟨b, o, Ak, ck, e, hc, hrow⟩
def allLvM (m : List (List Int)) : Bool := m.all Tr.isLv
theorem allLvM_take {m : List (List Int)} {k : Nat} {r : List Int} (h : allLvM (m.take k) = true) (hr : m[k]? = some r) (hl : Tr.isLv r = true) : allLvM (m.take (k + 1)) = true := by
  unfold allLvM at *
  rw [List.take_add_one, hr, Option.toList_some, List.all_append, h]; simp [hl]
theorem allLvM_no {m : List (List Int)} {k : Nat} {r : List Int} (hr : m[k]? = some r) (hl : Tr.isLv r = false) : allLvM m = false := by
  unfold allLvM
  rw [List.all_eq_false]
  exact ⟨r, List.mem_of_getElem? hr, by rw [hl]; simp⟩
set_option maxHeartbeats 400000 in
theorem areLevels_any (A : Option Addr) (n c B : Nat) (m : List (List Int)) (w : World) (hl : m.length = n) (hn : n ≤ 1048576) (hr : ∀ r ∈ m, r.length ≤ 1048576) (h : Lsts w B A m) :
    Calls Try.prog 81 #[.slice A n c] w fun e w' => e = .returned (.bool (allLvM m)) ∧ ∃ d, w' = w.drewN d := by
  have HL := Lib.hid hl
  have HR := Lib.hid hr
  clear hl hr
  go_enter Try.func81, Try.ntmps81
  go_wp2_with fail
  go_loopw [7] (fun i wr => ∃ k d : Nat, k ≤ n ∧ i = .int .i64 k ∧ wr = w.drewN d ∧ Hid (allLvM (m.take k) = true)) (fun i _ => n - (intOf i).toNat)
  case atStart => exact ⟨0, 0, Nat.zero_le _, rfl, rfl, rfl⟩
  case round =>
    obtain ⟨k, d, hk, rfl, rfl, HT⟩ := hrel
    by_cases hlt : k < n
    · obtain ⟨r, hr⟩ := at_lt (show k < m.length by rw [HL.out]; exact hlt)
      obtain ⟨b, o, Ak, ck, rfl, hc, hrow⟩ := (h.drewN d) k r hr
      have C1 := isLevels_any Ak r.length ck B r (w.drewN d) rfl (by have := HR.out r (List.mem_of_getElem? hr); omega) hrow
      cases hlv : Tr.isLv r
      · have G := Lib.hid (allLvM_no hr hlv)
        rw [hlv] at C1
        clear hr hrow HT
        go_wp2_with fail
        refine C1.mono ?_
        rintro e w' ⟨rfl, d2, rfl⟩
        go_wp2
        go_ret
        exact ⟨ret_bool G.out.symm, _, rfl⟩
      · have G := Lib.hid (allLvM_take HT.out hr hlv)
        rw [hlv] at C1
        clear hr hrow HT
        go_wp2_with fail
        refine C1.mono ?_
        rintro e w' ⟨rfl, d2, rfl⟩
        go_wp2
        go_roundw
        case rel => exact ⟨k + 1, _, by omega, by go_num, rfl, G⟩
        case measure => simp [intOf]; omega
    · obtain rfl : k = n := by omega
      have G : Hid (allLvM m = true) := by
        have := HT.out
        rw [List.take_of_length_le (by rw [HL.out]; exact Nat.le_refl _)] at this
        exact this
      clear HT
      go_wp2
      go_ret
      exact ⟨ret_bool G.out.symm, _, rfl⟩
end Go.Proofs.Ytignimaimflenaa
/-
  Sorting texts and sorting lists agree.
-/
namespace Go.Proofs.Ytignimaimflenaa
open Go.RowKit Fld
set_option linter.unusedVariables false
set_option linter.unusedSimpArgs false
set_option maxRecDepth 100000

theorem leT_tr {s t : List Int} (hs : isTr s = true) (ht : isTr t = true) : Tr.leT (Tr.txt s) (Tr.txt t) = !Tr.beforeL t s := by
  rw [← cmp_tr hs ht]
  unfold Tr.leT
  by_cases h : Tr.cmpT (Tr.txt s) (Tr.txt t) ≤ 0
  · rw [decide_eq_true h, decide_eq_false (by omega)]; rfl
  · rw [decide_eq_false h, decide_eq_true (by omega)]; rfl
theorem insB_perm (p : List Int) : ∀ S : List (List Int), (Tr.insB p S).Perm (p :: S)
  | [] => List.Perm.refl _
  | a :: r => by
    rw [Tr.insB]; split
    · exact List.Perm.refl _
    · exact ((insB_perm p r).cons a).trans (List.Perm.swap p a r)
theorem insB_sorted {p : List Int} (hp : isTr p = true) : ∀ {S : List (List Int)}, (∀ s ∈ S, isTr s = true) → S.Pairwise (fun a b => Tr.leT (Tr.txt a) (Tr.txt b) = true) → (Tr.insB p S).Pairwise (fun a b => Tr.leT (Tr.txt a) (Tr.txt b) = true)
  | [], _, _ => by simp [Tr.insB]
  | a :: r, hs, h => by
    have ha := hs a (by simp)
    rw [List.pairwise_cons] at h
    rw [Tr.insB]; split
    · rename_i hb
      have h1 : Tr.leT (Tr.txt p) (Tr.txt a) = true := by rw [leT_tr hp ha, beforeL_asym hb]; rfl
      rw [List.pairwise_cons, List.pairwise_cons]
      refine ⟨fun b hbm => ?_, h⟩
      rw [List.mem_cons] at hbm
      rcases hbm with rfl | hbm
      · exact h1
      · exact Tr.leT_tr h1 (h.1 b hbm)
    · rename_i hb
      have hb' : Tr.beforeL p a = false := by simpa using hb
      rw [List.pairwise_cons]
      refine ⟨fun b hbm => ?_, insB_sorted hp (fun s h => hs s (by simp [h])) h.2⟩
      rcases insB_mem hbm with rfl | hbm
      · rw [leT_tr ha hp, hb']; rfl
      · exact h.1 b hbm
theorem fold_ins : ∀ (L acc : List (List Int)), (∀ s ∈ L, isTr s = true) → (∀ s ∈ acc, isTr s = true) → acc.Pairwise (fun a b => Tr.leT (Tr.txt a) (Tr.txt b) = true) → (L.foldl (fun o p => Tr.insB p o) acc).Pairwise (fun a b => Tr.leT (Tr.txt a) (Tr.txt b) = true) ∧ (L.foldl (fun o p => Tr.insB p o) acc).Perm (L ++ acc)
  | [], acc, _, _, h => ⟨h, List.Perm.refl _⟩
  | p :: L, acc, hL, ha, h => by
    have hp := hL p (by simp)
    have := fold_ins L (Tr.insB p acc) (fun s hs => hL s (by simp [hs])) (fun s hs => by
      rcases insB_mem hs with rfl | hs
      · exact hp
      · exact ha s hs) (insB_sorted hp ha h)
    refine ⟨this.1, this.2.trans ?_⟩
    exact ((insB_perm p acc).append_left L).trans List.perm_middle
theorem sortL_perm {L : List (List Int)} (hL : ∀ s ∈ L, isTr s = true) : (Tr.sortL L).Perm L := by
  have := (fold_ins L [] hL (fun s hs => by cases hs) List.Pairwise.nil).2
  rwa [List.append_nil] at this
theorem sortL_text {L : List (List Int)} (hL : ∀ s ∈ L, isTr s = true) : (Tr.sortT (L.map Tr.txt)).map Tr.lvl = Tr.sortL L := by
  have h1 := (fold_ins L [] hL (fun s hs => by cases hs) List.Pairwise.nil).1
  have h2 := sortL_perm hL
  have e : (Tr.sortL L).map Tr.txt = Tr.sortT (L.map Tr.txt) :=
    List.Perm.eq_of_pairwise (le := fun a b => Tr.leT a b = true) (fun a b _ _ h k => Tr.leT_as h k) (List.pairwise_map.2 h1) (sortT_sorted _) ((h2.map Tr.txt).trans (sortT_perm _).symm)
  rw [← e, List.map_map]
  refine (List.map_congr_left fun t ht => ?_).trans (List.map_id _)
  obtain ⟨g1, g2⟩ := tr_lv (hL t (h2.mem_iff.1 ht))
  show Tr.lvl (Tr.txt t) = t
  rw [(lv_txt g1).1, g2]
theorem tr_can {t : List Int} (h : Tr.isLv t = true) : isTr (Tr.can t) = true := by
  unfold isTr eqL
  rw [(lv_can h).1, (Tr.can_can h).1]; simp
theorem sortL_can {L : List (List Int)} (hL : ∀ s ∈ L, Tr.isLv s = true) : (Tr.sortT (L.map Tr.txt)).map Tr.lvl = Tr.sortL (L.map Tr.can) := by
  rw [← sortL_text (L := L.map Tr.can) (fun s hs => by
    rw [List.mem_map] at hs
    obtain ⟨t, ht, rfl⟩ := hs
    exact tr_can (hL t ht)), List.map_map]
  congr 2
  refine List.map_congr_left fun t ht => ?_
  exact (Tr.can_can (hL t ht)).2.symm
theorem total_perm {L M : List (List Int)} (h : L.Perm M) : total L = total M := by
  unfold total
  exact (h.map List.length).sum_nat
theorem total_can {L : List (List Int)} (hL : ∀ s ∈ L, Tr.isLv s = true) : total (L.map Tr.can) = total L := by
  unfold total
  rw [List.map_map]
  congr 1
  refine List.map_congr_left fun t ht => ?_
  exact (lv_can (hL t ht)).2
theorem allLvM_mem {m : List (List Int)} (h : allLvM m = true) : ∀ r ∈ m, Tr.isLv r = true := by
  unfold allLvM at h
  rw [List.all_eq_true] at h
  exact h
theorem row_le_total {m : List (List Int)} : ∀ r ∈ m, r.length ≤ total m := fun r hr => by
  obtain ⟨k, hk⟩ := List.mem_iff_getElem?.1 hr
  exact row_total hk
def forestA (L : List (List Int)) : List (List Int) × Int := if allLvM L = true then (if total L ≤ 8 then (Tr.sortL (L.map Tr.can), 0) else ([], 3)) else ([], 1)
theorem forestA_no {L : List (List Int)} (h : allLvM L = false) : forestA L = ([], 1) := if_neg (by rw [h]; simp)
theorem forestA_big {L : List (List Int)} (h : allLvM L = true) (h8 : ¬ total L ≤ 8) : forestA L = ([], 3) := by unfold forestA; rw [if_pos h, if_neg h8]
theorem forestA_yes {L : List (List Int)} (h : allLvM L = true) (h8 : total L ≤ 8) : forestA L = (Tr.sortL (L.map Tr.can), 0) := by unfold forestA; rw [if_pos h, if_pos h8]
theorem forest_size {L : List (List Int)} (h : allLvM L = true) (h8 : total L ≤ 8) : L.length ≤ 8 ∧ (Tr.sortL (L.map Tr.can)).length = L.length ∧ (Tr.sortL (L.map Tr.can)).length + total (Tr.sortL (L.map Tr.can)) ≤ 1048576 := by
  have hm := allLvM_mem h
  have h1 := len_total (f := L) (fun r hr => (lv_bd (hm r hr)).1)
  have hp := sortL_perm (L := L.map Tr.can) (fun s hs => by
    rw [List.mem_map] at hs
    obtain ⟨t, ht, rfl⟩ := hs
    exact tr_can (hm t ht))
  have h2 := hp.length_eq
  rw [List.length_map] at h2
  rw [total_perm hp, total_can hm]
  exact ⟨by omega, h2, by omega⟩
def timesA (f g : List (List Int)) : List (List Int) × Int := if isFor f = true ∧ isFor g = true then (if total f + total g ≤ 8 then (Tr.sortL (f ++ g), 0) else ([], 3)) else ([], 1)
theorem timesA_no1 {f g : List (List Int)} (h : isFor f = false) : timesA f g = ([], 1) := if_neg (by rw [h]; simp)
theorem timesA_no2 {f g : List (List Int)} (h : isFor g = false) : timesA f g = ([], 1) := if_neg (by rw [h]; simp)
theorem timesA_big {f g : List (List Int)} (h : isFor f = true) (k : isFor g = true) (h8 : ¬ total f + total g ≤ 8) : timesA f g = ([], 3) := by unfold timesA; rw [if_pos ⟨h, k⟩, if_neg h8]
theorem timesA_yes {f g : List (List Int)} (h : isFor f = true) (k : isFor g = true) (h8 : total f + total g ≤ 8) : timesA f g = (Tr.sortL (f ++ g), 0) := by unfold timesA; rw [if_pos ⟨h, k⟩, if_pos h8]
theorem total_app (f g : List (List Int)) : total (f ++ g) = total f + total g := by simp [total]
theorem times_size {f g : List (List Int)} (h : isFor f = true) (k : isFor g = true) (h8 : total f + total g ≤ 8) : f.length + g.length ≤ 8 ∧ (Tr.sortL (f ++ g)).length = f.length + g.length ∧ (Tr.sortL (f ++ g)).length + total (Tr.sortL (f ++ g)) ≤ 1048576 ∧ (Tr.sortT (f.map Tr.txt ++ g.map Tr.txt)).map Tr.lvl = Tr.sortL (f ++ g) := by
  have hm : ∀ r ∈ f ++ g, isTr r = true := fun r hr => by
    rw [List.mem_append] at hr
    rcases hr with hr | hr
    · exact for_rows h r hr
    · exact for_rows k r hr
  have h1 := len_total (f := f ++ g) (fun r hr => (lv_bd (tr_lv (hm r hr)).1).1)
  have hp := sortL_perm hm
  have h2 := hp.length_eq
  have h3 := sortL_text hm
  rw [total_perm hp]
  rw [List.length_append, total_app] at h1
  rw [List.length_append] at h2
  rw [total_app]
  rw [List.map_append] at h3
  exact ⟨by omega, h2, by omega, h3⟩
end Go.Proofs.Ytignimaimflenaa
/-
  Draws of forests, in order or not.
-/
namespace Go.Proofs.Ytignimaimflenaa
open Go.RowKit Fld
set_option linter.unusedVariables false
set_option linter.unusedSimpArgs false
set_option maxRecDepth 100000

/-- a list of lists that was drawn -/
def DrawnFA (most : Nat) (T : TypeId) (G B : Nat) (xs : List Int) (w : World) (e : Ending) (w' : World) : Prop :=
  ∃ A n c, ∃ m : List (List Int), e = .returned (.slice A n c) ∧ m.length = n ∧ n ≤ c ∧ (∃ b o, A = some ⟨b, o, none⟩) ∧ n ≤ most + 1 ∧ total m ≤ most + 11 ∧ RwsL w.heap.size w' A m ∧ (∀ b o, A = some ⟨b, o, none⟩ → w.heap.size ≤ b) ∧ Src w' T G B xs ∧ w.grownBy w' (some G)
theorem Row.past {w w' : World} {s lo G : Nat} {A : Option Addr} {c n : Nat} {vs : List Value} (h : Row w s A vs) (hl : ∀ z, (Value.slice A n c).ownBlock = some z → lo ≤ z) (hG : G < lo) (hs : s ≤ w.heap.size) (o : w.grownBy w' (some G)) : Row w' s A vs := fun k v hv => by
  obtain ⟨b, off, e, hb, hc⟩ := h k v hv
  subst e
  have h1 := hl b rfl
  have h2 := o.block b (by omega) (fun e => by have := Option.some.inj e; omega)
  refine ⟨b, off, rfl, hb, ?_⟩
  rw [← hc]
  simp only [World.cell?, h2]
theorem Row.past' {w w' : World} {s lo G : Nat} {A : Option Addr} {vs : List Value} (h : Row w s A vs) (hl : ∀ b o, A = some ⟨b, o, none⟩ → lo ≤ b) (hG : G < lo) (hs : s ≤ w.heap.size) (o : w.grownBy w' (some G)) : Row w' s A vs := fun k v hv => by
  obtain ⟨b, off, e, hb, hc⟩ := h k v hv
  subst e
  have h1 := hl b off rfl
  have h2 := o.block b (by omega) (fun e => by have := Option.some.inj e; omega)
  refine ⟨b, off, rfl, hb, ?_⟩
  rw [← hc]
  simp only [World.cell?, h2]
theorem Vals.past {w w' : World} {s lo G : Nat} {m : List (List Int)} {vs : List Value} (h : Vals w s m vs) (hl : LowR lo vs) (hG : G < lo) (hs : s ≤ w.heap.size) (o : w.grownBy w' (some G)) : Vals w' s m vs :=
  ⟨h.1, fun k r hr => by
    obtain ⟨A, c, e1, e2, e3, e4⟩ := h.2 k r hr
    exact ⟨A, c, e1, e2, e3, e4.past (n := r.length) (c := c) (hl _ (List.mem_of_getElem? e1)) hG hs o⟩⟩
theorem RwO.push {w w' : World} {b o k cap g2 cap2 q c lo lo2 : Nat} {A : Option Addr} {m : List (List Int)} {row : List Int} {vs : List Value} {s : Nat} {ob : Obj}
    (hv : Vals w s m vs) (hq : row.length = q) (ho : w.ownsRow lo2 2 1 (.slice A q c) q (ints row)) (hl : m.length = k)
    (h1 : w.ownsRow s 22 1 (.slice (some ⟨b, o, none⟩) k cap) k vs) (hs : s ≤ w.heap.size)
    (h2 : w'.ownsRow s 22 1 (.slice (some ⟨g2, 0, none⟩) (k + 1) cap2) (k + 1) (vs ++ [.slice A q c])) (hg : (w.alloc ob).grownBy w' (some b)) (hlo : LowR lo vs) (hl2 : lo ≤ lo2) :
    RwsL lo w' (some ⟨g2, 0, none⟩) (m ++ [row]) := by
  subst hq
  have hB : Below s w w' := ((Below.refl _ _).alloc hs _).grown hg (by simp; omega) (fun z hz => by
    obtain rfl := Option.some.inj hz
    exact (h1.lt b rfl).1)
  have o2 : OwnR w' lo2 w.heap.size 2 (.slice A row.length c) row.length (ints row) := ((OwnR.of ho).below ((Below.refl _ _).alloc (Nat.le_refl _) _) (Nat.le_refl _)).grown hg (own_types ho h1 (by decide))
  have hz := hg.size
  have hz' : w.heap.size + 1 ≤ w'.heap.size := by simpa using hz
  obtain ⟨hc, hm⟩ := own_cap ho
  refine ⟨_, row_of_own h2, ?_, fun v hv z hz => by
    rw [List.mem_append, List.mem_singleton] at hv
    rcases hv with hv | rfl
    · exact hlo v hv z hz
    · have := (ho.lt z hz).1; omega⟩
  have := Vals.put (k := k) (A := A) (c := c) (r := row) ((hv.below hB (Nat.le_refl _)).more (show s ≤ w'.heap.size by omega)) (by omega) hc hm (o2.row.more (by omega))
  rw [List.take_of_length_le (by omega), List.drop_of_length_le (by omega)] at this
  have hvl := hv.1
  rw [List.take_of_length_le (by omega), List.drop_of_length_le (by omega)] at this
  exact this
set_option maxHeartbeats 4000000 in
theorem l03DrawForestAny_any (G B : Nat) (xs : List Int) (most : Nat) (w : World) (hm8 : most ≤ 8) (s : Src w 96 G B xs) :
    Calls Try.prog 68 #[.pointer (some ⟨G, 0, none⟩), .int .i64 most] w (DrawnFA most 96 G B xs w) := by
  obtain ⟨j0, hj, hy0, hy1, hy2⟩ := info_parts info_row
  obtain ⟨i0, hi, hz0, hz1, hz2⟩ := info_parts info_i64
  have HG := s.lt
  go_enter Try.func68, Try.ntmps68
  go_wp2_with fail
  refine (l03DrawForest_any G B xs most _ hm8 s).mono ?_
  rintro e w1 ⟨b, o, c, L, rfl, hnc, htr, htot, ⟨vs, sb, h1, h2, own, hv, hlow⟩, s1, o1⟩
  have hp := sortL_perm htr
  have htS : total (Tr.sortL L) ≤ most := by rw [total_perm hp]; exact htot
  have hSr : ∀ t ∈ Tr.sortL L, isTr t = true := fun t ht => htr t (hp.mem_iff.1 ht)
  obtain ⟨S, hS⟩ : ∃ S, S = Tr.sortL L := ⟨_, rfl⟩
  rw [← hS] at hnc own hv htS hSr ⊢
  clear hS hp htr htot s
  have hSl := len_total (f := S) (fun r hr => (lv_bd (tr_lv (hSr r hr)).1).1)
  obtain ⟨k, hk⟩ : ∃ k, k = S.length := ⟨_, rfl⟩
  rw [← hk] at hnc own ⊢
  have HK : Hid (S.length = k) := hk.symm
  have hkm : k ≤ most := by omega
  have hz1' := o1.size
  have HV := Lib.hid hv
  have HLOW := Lib.hid hlow
  have OW := Lib.hid own
  have G1 := Lib.hid o1
  have HTS := Lib.hid htS
  clear hv own o1 hlow htS hSl hSr hk
  go_wp2_with fail
  refine (l01Next_any G B xs _ _ (by omega) s1).mono ?_
  rintro e w2 ⟨r, rfl, q0, q1, s2, o2⟩
  have S2 := Lib.hid s2
  have G2 := Lib.hid (only_trans G1.out o2)
  have OW2 := Lib.hid (own_pastv OW.out (by omega) o2)
  have HV2 := Lib.hid (HV.out.past HLOW.out HG h2 o2)
  have hz2' := o2.size
  clear s1 s2 G1
  rcases (show r = 0 ∨ r = 1 ∨ r = 2 ∨ 3 ≤ r by omega) with rfl | rfl | rfl | hr
  · have S2' := S2.out
    clear S2
    go_wp2_with fail
    refine (l03Draw_any G B xs 4 _ (by omega) (by omega) S2').mono ?_
    rintro e w3 ⟨g3, c3, n3, ys, rfl, hy, hP, own3, s3, o3⟩
    have O3 := Lib.hid (own_pastv OW2.out (by omega) o3)
    have V3 := Lib.hid (HV2.out.past HLOW.out HG (by omega) o3)
    have G3 := Lib.hid (only_trans G2.out o3)
    have S3 := Lib.hid s3
    have W3 := Lib.hid own3
    have HY := Lib.hid hy
    have hyl : n3 ≤ 11 := by have := hP.2; omega
    have hz3' := o3.size
    have hgb := (OW2.out.lt b rfl).1
    have hBG : B ≤ G := by obtain ⟨_, _, _, _, _, _, h, _⟩ := S3.out; exact h
    clear own3 s3 o3 hy hP OW2 HV2 G2 S2'
    go_wp2_with (at_builtin; refine wpList_append_lies _ rfl (.tmp 13) (.tmp 16) 37 rfl sb 22 j0 _ 1 24 Try.underlying37 hj hy0 hy1 hy2 rfl (by omega) (.slice (some ⟨b, o, none⟩) k c) k vs rfl (O3.out.alloc _) ⟨w3.heap.size, 0, none⟩ 1 1 [.slice (some ⟨g3, 0, none⟩) n3 c3] rfl rfl (World.news_of_block (cs := #[.slice (some ⟨g3, 0, none⟩) n3 c3]) (heap_alloc_new _ _)) (by simp [Value.oneCell']) (by omega) (by simp only [maxLen]; omega) (by omega) (by simp; omega) (w3.heap.size + 1) (by simp) ?_; intro g5 cap5 w5 hown5 hgrow5 hat5 hlt5)
    have HD : Hid (DrawnFA most 96 G B xs w (.returned (.slice (some ⟨g5, 0, none⟩) (k + 1) cap5)) w5) := ⟨_, k + 1, cap5, S ++ [ys], rfl, by rw [List.length_append, HK.out]; rfl, (own_cap hown5).1, ⟨_, _, rfl⟩, by omega, by have h9 := HTS.out; have h8 := total_push S ys; have h7 := HY.out; omega, RwO.push V3.out HY.out W3.out HK.out O3.out (show sb ≤ w3.heap.size by omega) hown5 hgrow5 HLOW.out (show w.heap.size ≤ w2.heap.size by omega), fun b' o' e' => by have h9 := (hown5.lt g5 rfl).1; injection e' with e'; injection e' with e1 e2; omega, (S3.out.alloc _).only (g := b) hgrow5 (by omega) (by omega), only_row (only_alloc G3.out _) hgrow5 (show w.heap.size ≤ b by omega)⟩
    clear hown5 hgrow5 hat5 O3 V3 G3 S3 W3
    go_wp2
    go_ret
    exact HD.out
  · have S2' := S2.out
    clear S2
    go_wp2_with fail
    refine (l03DrawAny_any G B xs 3 _ (by omega) (by omega) S2').mono ?_
    rintro e w3 ⟨A3, c3, n3, ys, rfl, hy, hP, own3, s3, o3⟩
    have O3 := Lib.hid (own_pastv OW2.out (by omega) o3)
    have V3 := Lib.hid (HV2.out.past HLOW.out HG (by omega) o3)
    have G3 := Lib.hid (only_trans G2.out o3)
    have S3 := Lib.hid s3
    have W3 := Lib.hid own3
    have HY := Lib.hid hy
    have hyl : n3 ≤ 11 := by have h9 : ys.length ≤ 3 + 8 := hP; omega
    have hz3' := o3.size
    have hgb := (OW2.out.lt b rfl).1
    have hBG : B ≤ G := by obtain ⟨_, _, _, _, _, _, h, _⟩ := S3.out; exact h
    clear own3 s3 o3 hy hP OW2 HV2 G2 S2'
    go_wp2_with (at_builtin; refine wpList_append_lies _ rfl (.tmp 20) (.tmp 23) 37 rfl sb 22 j0 _ 1 24 Try.underlying37 hj hy0 hy1 hy2 rfl (by omega) (.slice (some ⟨b, o, none⟩) k c) k vs rfl (O3.out.alloc _) ⟨w3.heap.size, 0, none⟩ 1 1 [.slice A3 n3 c3] rfl rfl (World.news_of_block (cs := #[.slice A3 n3 c3]) (heap_alloc_new _ _)) (by simp [Value.oneCell']) (by omega) (by simp only [maxLen]; omega) (by omega) (by simp; omega) (w3.heap.size + 1) (by simp) ?_; intro g5 cap5 w5 hown5 hgrow5 hat5 hlt5)
    have HD : Hid (DrawnFA most 96 G B xs w (.returned (.slice (some ⟨g5, 0, none⟩) (k + 1) cap5)) w5) := ⟨_, k + 1, cap5, S ++ [ys], rfl, by rw [List.length_append, HK.out]; rfl, (own_cap hown5).1, ⟨_, _, rfl⟩, by omega, by have h9 := HTS.out; have h8 := total_push S ys; have h7 := HY.out; omega, RwO.push V3.out HY.out W3.out HK.out O3.out (show sb ≤ w3.heap.size by omega) hown5 hgrow5 HLOW.out (show w.heap.size ≤ w2.heap.size by omega), fun b' o' e' => by have h9 := (hown5.lt g5 rfl).1; injection e' with e'; injection e' with e1 e2; omega, (S3.out.alloc _).only (g := b) hgrow5 (by omega) (by omega), only_row (only_alloc G3.out _) hgrow5 (show w.heap.size ≤ b by omega)⟩
    clear hown5 hgrow5 hat5 O3 V3 G3 S3 W3
    go_wp2
    go_ret
    exact HD.out
  · have OWN1 : Hid (((w2.alloc (.cells #[.int .i64 0, .int .i64 1, .int .i64 1] 2)).alloc (.cells #[.slice (some ⟨w2.heap.size, 0, none⟩) 3 3] 22)).ownsRow (w2.heap.size + 1) 22 1 (.slice (some ⟨w2.heap.size + 1, 0, none⟩) 1 1) 1 [.slice (some ⟨w2.heap.size, 0, none⟩) 3 3]) := by
      have h := World.ownsRow_lit (base := w2.heap.size + 1) (size := 1) (e := 22) (w2.alloc (.cells #[.int .i64 0, .int .i64 1, .int .i64 1] 2)) #[.slice (some ⟨w2.heap.size, 0, none⟩) 3 3] 1 (by simp) (by simp [maxLen]) rfl
      have e : (w2.alloc (.cells #[.int .i64 0, .int .i64 1, .int .i64 1] 2)).heap.size = w2.heap.size + 1 := by simp
      rw [e] at h
      exact h
    have HBS : Hid (w2.heap.size + 1 ≤ ((w2.alloc (.cells #[.int .i64 0, .int .i64 1, .int .i64 1] 2)).alloc (.cells #[.slice (some ⟨w2.heap.size, 0, none⟩) 3 3] 22)).heap.size) := by rw [Hid]; simp
    have HVL : Hid (vs.length = k) := by have := HV2.out.1; rw [HK.out] at this; exact this
    have HNEWS : Hid (∀ j u, vs[j]? = some u → ((w2.alloc (.cells #[.int .i64 0, .int .i64 1, .int .i64 1] 2)).alloc (.cells #[.slice (some ⟨w2.heap.size, 0, none⟩) 3 3] 22)).cell? ((⟨b, o, none⟩ : Addr).add j) = some u) := row_news (((row_of_own OW2.out).alloc (Nat.le_refl _) _).alloc (by simp) _)
    have HONE : Hid (∀ u ∈ vs, u.oneCell' = true) := fun u hu => HV2.out.one (v := u) u hu
    have HV9 := HV2
    clear HV2
    go_wp2_with (at_builtin; refine wpList_append_own _ rfl (.tmp 28) (.tmp 29) 37 rfl (w2.heap.size + 1) 22 j0 _ 1 24 Try.underlying37 hj hy0 hy1 hy2 rfl (by omega) (.slice (some ⟨w2.heap.size + 1, 0, none⟩) 1 1) 1 [.slice (some ⟨w2.heap.size, 0, none⟩) 3 3] rfl OWN1.out ⟨b, o, none⟩ k c vs rfl (by rw [Nat.mul_one]; exact HVL.out) HNEWS.out HONE.out (by simp only [maxLen]; omega) (by omega) HBS.out ?_; intro v5 w5 own5 hgrow5 _; obtain ⟨g5, c5, rfl⟩ := own_form own5 (by omega))
    have BW5 : Hid (Below w2.heap.size w2 w5) := (((Below.refl _ _).alloc (Nat.le_refl _) _).alloc (by simp) _).grown hgrow5 (by simp; omega) (fun z hz => by
      have h9 : w2.heap.size + 1 = z := Option.some.inj hz
      omega)
    have BW6 : Hid (Below (w2.heap.size + 1) ((w2.alloc (.cells #[.int .i64 0, .int .i64 1, .int .i64 1] 2)).alloc (.cells #[.slice (some ⟨w2.heap.size, 0, none⟩) 3 3] 22)) w5) := (Below.refl _ _).grown hgrow5 (by simp) (fun z hz => by
      have h9 : w2.heap.size + 1 = z := Option.some.inj hz
      omega)
    have hz5 := hgrow5.size
    have hz5' : w2.heap.size + 2 ≤ w5.heap.size := by simpa using hz5
    have RL : Hid (Row w5 w5.heap.size (some ⟨w2.heap.size, 0, none⟩) (ints [0, 1, 1])) := (((Row.new w2 2 (ints [0, 1, 1])).alloc (by simp) _).below BW6.out (Nat.le_refl _)).more (by omega)
    have VL : Hid (Vals w5 w5.heap.size ([0, 1, 1] :: S) (.slice (some ⟨w2.heap.size, 0, none⟩) 3 3 :: vs)) := by
      have := Vals.put (k := 0) (A := some ⟨w2.heap.size, 0, none⟩) (c := 3) (r := [0, 1, 1]) ((HV9.out.below BW5.out (show sb ≤ w2.heap.size by omega)).more (show sb ≤ w5.heap.size by omega)) (Nat.zero_le _) (by simp) (by simp [maxLen]) RL.out
      exact this
    have HD : Hid (DrawnFA most 96 G B xs w (.returned (.slice (some ⟨g5, 0, none⟩) (1 + k) c5)) w5) := ⟨_, 1 + k, c5, [0, 1, 1] :: S, rfl, by rw [List.length_cons, HK.out]; omega, (own_cap own5).1, ⟨_, _, rfl⟩, by omega, by have h9 := HTS.out; have h8 : total ([0, 1, 1] :: S) = 3 + total S := total_cons _ _; omega, ⟨_, row_of_own own5, VL.out, fun v hv z hz => by
      rw [List.mem_append, List.mem_singleton] at hv
      rcases hv with rfl | hv
      · have h9 : w2.heap.size = z := Option.some.inj hz
        omega
      · exact HLOW.out v hv z hz⟩, fun b' o' e' => by have h9 := (own5.lt g5 rfl).1; injection e' with e'; injection e' with e1 e2; omega, S2.out.below BW5.out, only_below G2.out BW5.out⟩
    clear own5 hgrow5 OWN1 S2 G2 HV9
    go_wp2
    go_ret
    exact HD.out
  · have t0 : decide (r = 0) = false := decide_eq_false (by omega)
    have t1 : decide (r = 1) = false := decide_eq_false (by omega)
    have t2 : decide (r = 2) = false := decide_eq_false (by omega)
    have n0 : ¬ r = 0 := by omega
    have n1 : ¬ r = 1 := by omega
    have n2 : ¬ r = 2 := by omega
    have HD : Hid (DrawnFA most 96 G B xs w (.returned (.slice (some ⟨b, o, none⟩) k c)) w2) := ⟨_, k, c, S, rfl, HK.out, hnc, ⟨_, _, rfl⟩, by omega, by have := HTS.out; omega, ⟨vs, row_of_own OW2.out, HV2.out.more (by omega), HLOW.out⟩, fun b' o' e' => by have h9 := (OW2.out.lt b rfl).1; injection e' with e'; injection e' with e1 e2; omega, S2.out, G2.out⟩
    go_wp2
    go_ret
    exact HD.out
/-- two lists of lists -/
def DrawnFF (w : World) (e : Ending) (w' : World) : Prop := ∃ A c n A2 c2 n2, ∃ f g : List (List Int), e = .returned (.tuple #[.slice A n c, .slice A2 n2 c2]) ∧ (f.length = n ∧ g.length = n2) ∧ (n ≤ 6 ∧ n2 ≤ 6) ∧ (n ≤ c ∧ n2 ≤ c2) ∧ ((∃ b o, A = some ⟨b, o, none⟩) ∧ (∃ b o, A2 = some ⟨b, o, none⟩)) ∧ (total f ≤ 16 ∧ total g ≤ 16) ∧ Rws w' A f ∧ Rws w' A2 g ∧ Below w.heap.size w w'
theorem RwsL.past {w w' : World} {lo G : Nat} {A : Option Addr} {m : List (List Int)} (h : RwsL lo w A m) (ha : ∀ b o, A = some ⟨b, o, none⟩ → lo ≤ b) (hG : G < lo) (o : w.grownBy w' (some G)) : RwsL lo w' A m := by
  obtain ⟨vs, h1, h2, h3⟩ := h
  exact ⟨vs, (h1.past' ha hG (Nat.le_refl _) o).more o.size, (h2.past h3 hG (Nat.le_refl _) o).more o.size, h3⟩
theorem drawTimesForests_any (A : Option Addr) (n c : Nat) (xs : List Int) (w : World) (hn : n ≤ 4096) (hx : IsCode w A n xs) : Calls Try.prog 36 #[.slice A n c] w (DrawnFF w) := by
  obtain ⟨hl, h, hx⟩ := hx
  go_enter Try.func36, Try.ntmps36
  go_wp2_with fail
  refine (l01From_any A n c w.heap.size xs w hl hn (Nat.le_refl _) h hx).mono ?_
  rintro e w1 ⟨G, rfl, hG, s1, b1⟩
  have HG1 := s1.lt
  clear h hx hl
  go_wp2_with fail
  refine (l03DrawForestAny_any G w.heap.size xs 5 _ (by omega) s1).mono ?_
  rintro e w2 ⟨A2, n2, c2, f, rfl, hl, hc2, hs2, hn2, ht2, r2, ha2, s2, o2⟩
  have HL := Lib.hid hl
  have HS2 := Lib.hid hs2
  have HT := Lib.hid ht2
  have R2 := Lib.hid r2
  have HA := Lib.hid ha2
  have GR := Lib.hid (below_only b1 o2 b1.size hG)
  clear hl hs2 ht2 r2 s1 o2 b1 ha2
  go_wp2_with fail
  refine (l03DrawForestAny_any G w.heap.size xs 5 _ (by omega) s2).mono ?_
  rintro e w3 ⟨A3, n3, c3, g, rfl, hl3, hc3, hs3, hn3, ht3, r3, ha3, s3, o3⟩
  have R3 := Lib.hid (R2.out.past HA.out HG1 o3)
  have GR3 := Lib.hid (below_only GR.out o3 GR.out.size hG)
  have HL3 := Lib.hid hl3
  have HS3 := Lib.hid hs3
  have HT3 := Lib.hid ht3
  have R4 := Lib.hid r3
  clear hl3 hs3 ht3 r3 s2 o3 ha3 R2 GR
  go_wp2
  go_ret2
  obtain ⟨v1, p1, p2, _⟩ := R3.out
  obtain ⟨v2, t1, t2, _⟩ := R4.out
  exact ⟨A2, c2, n2, A3, c3, n3, f, g, rfl, ⟨HL.out, HL3.out⟩, ⟨by omega, by omega⟩, ⟨hc2, hc3⟩, ⟨HS2.out, HS3.out⟩, ⟨by have := HT.out; omega, by have := HT3.out; omega⟩, ⟨v1, p1, p2⟩, ⟨v2, t1, t2⟩, GR3.out⟩
end Go.Proofs.Ytignimaimflenaa
/-
  Damaged texts.
-/
namespace Go.Proofs.Ytignimaimflenaa
open Go.RowKit Fld
set_option linter.unusedVariables false
set_option linter.unusedSimpArgs false
set_option maxRecDepth 100000

/-- a text that was drawn -/
def DrawnT (P : List UInt8 → Prop) (T : TypeId) (G B : Nat) (xs : List Int) (w : World) (e : Ending) (w' : World) : Prop :=
  ∃ t : List UInt8, e = .returned (.string ⟨t.toArray⟩) ∧ P t ∧ Src w' T G B xs ∧ w.grownBy w' (some G)
theorem drawnT_of {n : Nat} {T : TypeId} {G B k : Nat} {xs : List Int} {w w' : World} {u : ByteArray} (h : u.size ≤ n) (s : Src w' T G B xs) (o : w.grownBy (w'.drewN k) (some G)) : DrawnT (fun u => u.length ≤ n) T G B xs w (.returned (.string u)) (w'.drewN k) := by
  obtain ⟨⟨l⟩⟩ := u
  exact ⟨l, rfl, h, s, o⟩
set_option maxHeartbeats 4000000 in
theorem l01Damage_any (G B : Nat) (xs : List Int) (t : List UInt8) (w : World) (ht : t.length ≤ 4096) (s : Src w 96 G B xs) :
    Calls Try.prog 86 #[.pointer (some ⟨G, 0, none⟩), .string ⟨t.toArray⟩] w (DrawnT (fun u => u.length ≤ t.length + 1) 96 G B xs w) := by
  have HG := s.lt
  go_enter Try.func86, Try.ntmps86
  go_wp2_with fail
  refine (l01Next_any G B xs _ _ (by omega) (s.alloc _)).mono ?_
  rintro e w1 ⟨r, rfl, q0, q1, s1, o1⟩
  obtain ⟨rn, rfl⟩ : ∃ rn : Nat, r = (rn : Int) := ⟨r.toNat, by omega⟩
  have HS : Hid (∃ cs : Array Value, (∀ k, k < 22 → ∃ y : UInt8, cs[k]? = some (.string ⟨#[y]⟩)) ∧ w1.cell? ⟨w.heap.size, rn, none⟩ = cs[rn]?) := by
    have HC := o1.block w.heap.size (by simp) (fun e => by have := Option.some.inj e; omega)
    rw [heap_alloc_new] at HC
    refine ⟨_, ?_, by simp only [World.cell?, HC]; rfl⟩
    intro k hk
    rcases (show k = 0 ∨ k = 1 ∨ k = 2 ∨ k = 3 ∨ k = 4 ∨ k = 5 ∨ k = 6 ∨ k = 7 ∨ k = 8 ∨ k = 9 ∨ k = 10 ∨ k = 11 ∨ k = 12 ∨ k = 13 ∨ k = 14 ∨ k = 15 ∨ k = 16 ∨ k = 17 ∨ k = 18 ∨ k = 19 ∨ k = 20 ∨ k = 21 by omega) with rfl | rfl | rfl | rfl | rfl | rfl | rfl | rfl | rfl | rfl | rfl | rfl | rfl | rfl | rfl | rfl | rfl | rfl | rfl | rfl | rfl | rfl <;> exact ⟨_, rfl⟩
  obtain ⟨cs, hcs, hcell⟩ := HS.out
  obtain ⟨y, hy⟩ := hcs rn (by omega)
  rw [hy] at hcell
  have S1 := Lib.hid s1
  have O1 := Lib.hid (only_trans (World.grownBy_alloc w _ (some G)) o1)
  clear s1 o1 HS s hy
  rcases Nat.eq_zero_or_pos t.length with h0 | h0
  · obtain rfl : t = [] := List.length_eq_zero_iff.1 h0
    have HD : Hid (DrawnT (fun u => u.length ≤ ([] : List UInt8).length + 1) 96 G B xs w (.returned (.string ⟨#[y]⟩)) w1) := ⟨[y], rfl, by simp, S1.out, O1.out⟩
    go_wp2
    go_ret
    exact HD.out
  · have e1 : (⟨#[y]⟩ : ByteArray).size = 1 := rfl
    have e2 : (⟨t.toArray⟩ : ByteArray).size = t.length := by simp [ByteArray.size]
    have z0 : ¬ (t.length : Int) = 0 := by omega
    have z1 : decide ((t.length : Int) = 0) = false := decide_eq_false z0
    have z2 : ((t.length : Int) == 0) = false := by simpa using z0
    have S1' := S1.out
    clear S1 hcs
    go_wp2_with fail
    refine (l01Next_any G B xs (t.length : Int) _ (by omega) S1').mono ?_
    rintro e w2 ⟨k, rfl, k0, k1, s2, o2⟩
    obtain ⟨kn, rfl⟩ : ∃ kn : Nat, k = (kn : Int) := ⟨k.toNat, by omega⟩
    have O2 := Lib.hid (only_trans O1.out o2)
    clear O1 S1' o2 hcell
    go_wp2_with fail
    refine (l01Next_any G B xs _ _ (by omega) s2).mono ?_
    rintro e w3 ⟨r3, rfl, p0, p1, s3, o3⟩
    have O3 := Lib.hid (only_trans O2.out o3)
    have S3 := Lib.hid s3
    have hk0 : (kn : Int) ≤ (t.length : Int) := by omega
    have hk1 : (kn : Int) + 1 ≤ (t.length : Int) := by omega
    clear O2 o3 s2 s3
    rcases (show r3 = 0 ∨ r3 = 1 ∨ r3 = 2 by omega) with rfl | rfl | rfl
    · go_wp2_with fail
      go_quiet (fail)
      have HD : Hid (DrawnT (fun u => u.length ≤ t.length + 1) 96 G B xs w (.returned (.string ((⟨t.toArray⟩ : ByteArray).extract 0 kn ++ ⟨#[y]⟩ ++ (⟨t.toArray⟩ : ByteArray).extract (kn + 1) t.length))) (w3.drewN nq)) := drawnT_of (by simp only [ByteArray.size_append, ByteArray.size_extract, e1, e2]; omega) S3.out (only_drewN O3.out nq)
      clear S3 O3
      go_wp2
      go_ret
      exact HD.out
    · go_wp2_with fail
      go_quiet (fail)
      have HD : Hid (DrawnT (fun u => u.length ≤ t.length + 1) 96 G B xs w (.returned (.string ((⟨t.toArray⟩ : ByteArray).extract 0 kn ++ (⟨t.toArray⟩ : ByteArray).extract (kn + 1) t.length))) (w3.drewN nq)) := drawnT_of (by simp only [ByteArray.size_append, ByteArray.size_extract, e1, e2]; omega) S3.out (only_drewN O3.out nq)
      clear S3 O3
      go_wp2
      go_ret
      exact HD.out
    · go_wp2_with fail
      go_quiet (fail)
      have HD : Hid (DrawnT (fun u => u.length ≤ t.length + 1) 96 G B xs w (.returned (.string ((⟨t.toArray⟩ : ByteArray).extract 0 kn ++ ⟨#[y]⟩ ++ (⟨t.toArray⟩ : ByteArray).extract kn t.length))) (w3.drewN nq)) := drawnT_of (by simp only [ByteArray.size_append, ByteArray.size_extract, e1, e2]; omega) S3.out (only_drewN O3.out nq)
      clear S3 O3
      go_wp2
      go_ret
      exact HD.out
end Go.Proofs.Ytignimaimflenaa
/-
  The model's parser of brackets and the program's, as plain functions.
-/
namespace Go.Proofs.Ytignimaimflenaa.Tr
set_option maxRecDepth 100000

/-- the model's: lists that grow, and the level -/
def rdL : List (List Int) → Nat → List UInt8 → List (List Int) × Bool
  | out, o, [] => (out, o == 0)
  | out, o, c :: r =>
    if c = 91 then rdL (addNode out ((o : Int) + 1)) (o + 1) r
    else if c = 93 ∧ 0 < o then rdL out (o - 1) r
    else ([], false)
theorem rd_open {out : List (List Int)} {o : Nat} {s : List UInt8} {p : Nat} (h : s[p]? = some 91) : rdL out o (s.drop p) = rdL (addNode out ((o : Int) + 1)) (o + 1) (s.drop (p + 1)) := by
  have hlt : p < s.length := by
    rcases Nat.lt_or_ge p s.length with g | g
    · exact g
    · rw [List.getElem?_eq_none g] at h; cases h
  rw [List.getElem?_eq_getElem hlt] at h
  injection h with h
  rw [List.drop_eq_getElem_cons hlt, h, rdL, if_pos rfl]
theorem rd_close {out : List (List Int)} {o : Nat} {s : List UInt8} {p : Nat} (h : s[p]? = some 93) (ho : 0 < o) : rdL out o (s.drop p) = rdL out (o - 1) (s.drop (p + 1)) := by
  have hlt : p < s.length := by
    rcases Nat.lt_or_ge p s.length with g | g
    · exact g
    · rw [List.getElem?_eq_none g] at h; cases h
  rw [List.getElem?_eq_getElem hlt] at h
  injection h with h
  rw [List.drop_eq_getElem_cons hlt, h, rdL, if_neg (by decide), if_pos ⟨rfl, ho⟩]
theorem rd_bad {out : List (List Int)} {o : Nat} {s : List UInt8} {p : Nat} {c : UInt8} (h : s[p]? = some c) (h1 : c ≠ 91) (h2 : c = 93 → o = 0) : rdL out o (s.drop p) = ([], false) := by
  have hlt : p < s.length := by
    rcases Nat.lt_or_ge p s.length with g | g
    · exact g
    · rw [List.getElem?_eq_none g] at h; cases h
  rw [List.getElem?_eq_getElem hlt] at h
  injection h with h
  rw [List.drop_eq_getElem_cons hlt, h, rdL, if_neg h1, if_neg (fun e => by have := h2 e.1; omega)]
/-- the level behind a text -/
def lvE : Int → List UInt8 → Int
  | l, [] => l
  | l, c :: r => lvE (if c = 91 then l + 1 else l - 1) r
theorem lvE_app : ∀ (x y : List UInt8) (l : Int), lvE l (x ++ y) = lvE (lvE l x) y
  | [], y, l => rfl
  | c :: r, y, l => by rw [List.cons_append, lvE, lvE, lvE_app r]
theorem lvlF_app : ∀ (x y : List UInt8) (l : Int), lvlF l (x ++ y) = lvlF l x ++ lvlF (lvE l x) y
  | [], y, l => rfl
  | c :: r, y, l => by
    rw [List.cons_append, lvlF, lvlF, lvE]
    by_cases h : c = 91
    · rw [if_pos h, if_pos h, if_pos h, lvlF_app r, List.cons_append]
    · rw [if_neg h, if_neg h, if_neg h, lvlF_app r]
theorem addNode_new (l : List (List Int)) : addNode l 1 = l ++ [[0]] := by
  unfold addNode
  simp only [if_pos]
  rw [List.length_append, List.length_singleton, Nat.add_sub_cancel, List.getD_eq_getElem?_getD, List.getElem?_append_right (Nat.le_refl _), Nat.sub_self]
  rw [List.set_append, if_neg (Nat.lt_irrefl _), Nat.sub_self]
  rfl
theorem addNode_last (l : List (List Int)) (r : List Int) {x : Int} (hx : x ≠ 1) : addNode (l ++ [r]) x = l ++ [r ++ [x - 1]] := by
  unfold addNode
  simp only [if_neg hx]
  rw [List.length_append, List.length_singleton, Nat.add_sub_cancel, List.getD_eq_getElem?_getD, List.getElem?_append_right (Nat.le_refl _), Nat.sub_self]
  rw [List.set_append, if_neg (Nat.lt_irrefl _), Nat.sub_self]
  rfl
/-- both parsers -/
theorem rd_tr : ∀ (s cur : List UInt8) (o : Nat) (acc : List (List UInt8)), (o = 0 → cur = []) → (0 < o → cur ≠ []) → lvE 0 cur = (o : Int) →
    (rdL (acc.map lvl ++ (if o = 0 then [] else [lvl cur])) o s).2 = (trF cur o acc s).2 ∧ ((trF cur o acc s).2 = true → (rdL (acc.map lvl ++ (if o = 0 then [] else [lvl cur])) o s).1 = (trF cur o acc s).1.map lvl)
  | [], cur, o, acc, h0, h1, hl => by
    rw [rdL, trF]
    refine ⟨rfl, fun h => ?_⟩
    have : o = 0 := by simpa using h
    rw [if_pos this, List.append_nil]
  | c :: s, cur, o, acc, h0, h1, hl => by
    rw [rdL, trF]
    by_cases h91 : c = 91
    · rw [if_pos h91, if_pos h91]
      have ih := rd_tr s (cur ++ [c]) (o + 1) acc (by omega) (fun _ => by simp) (by rw [lvE_app, hl, lvE, if_pos h91, lvE]; omega)
      rw [if_neg (by omega)] at ih
      have e : addNode (acc.map lvl ++ (if o = 0 then [] else [lvl cur])) ((o : Int) + 1) = acc.map lvl ++ [lvl (cur ++ [c])] := by
        by_cases ho : o = 0
        · subst ho
          rw [if_pos rfl, List.append_nil, h0 rfl]
          show addNode (acc.map lvl) 1 = _
          rw [addNode_new, h91]; rfl
        · rw [if_neg ho, addNode_last _ _ (by omega)]
          unfold lvl
          rw [lvlF_app, hl]
          rw [lvlF, if_pos h91, lvlF]
          congr 4; omega
      rw [e]
      exact ih
    · rw [if_neg h91, if_neg h91]
      by_cases h93 : c = 93
      · rw [if_pos h93]
        by_cases ho : o = 0
        · rw [if_neg (by omega), if_pos ho]
          exact ⟨rfl, fun h => by cases h⟩
        · rw [if_pos ⟨h93, by omega⟩, if_neg ho]
          have el : lvE 0 (cur ++ [c]) = ((o - 1 : Nat) : Int) := by rw [lvE_app, hl, lvE, if_neg h91, lvE]; omega
          have ev : lvl (cur ++ [c]) = lvl cur := by
            unfold lvl
            rw [lvlF_app, lvlF, if_neg h91, lvlF, List.append_nil]
          by_cases h2 : o = 1
          · rw [if_pos h2]
            have ih := rd_tr s [] 0 (acc ++ [cur ++ [c]]) (fun _ => rfl) (by omega) rfl
            rw [if_pos rfl, List.append_nil, List.map_append, List.map_cons, List.map_nil, ev] at ih
            subst h2
            rw [if_neg (by omega)]
            exact ih
          · rw [if_neg h2]
            have ih := rd_tr s (cur ++ [c]) (o - 1) acc (by omega) (fun _ => by simp) el
            rw [if_neg (by omega), ev] at ih
            rw [if_neg ho]
            exact ih
      · rw [if_neg h93, if_neg (fun h => h93 h.1)]
        exact ⟨rfl, fun h => by cases h⟩
theorem rd_eq (s : List UInt8) : (rdL [] 0 s).2 = (trF [] 0 [] s).2 ∧ ((trF [] 0 [] s).2 = true → (rdL [] 0 s).1 = (trF [] 0 [] s).1.map lvl) := by
  have := rd_tr s [] 0 [] (fun _ => rfl) (by omega) rfl
  simpa using this
/-- what the program reads are brackets, and no more than there are -/
theorem tr_small : ∀ (s cur : List UInt8) (o : Nat) (acc : List (List UInt8)) (m : Nat), cur.length + s.length ≤ m → (∀ x ∈ acc, x.length ≤ m ∧ ∀ c ∈ x, c = 91 ∨ c = 93) → (∀ c ∈ cur, c = 91 ∨ c = 93) →
    (∀ x ∈ (trF cur o acc s).1, x.length ≤ m ∧ ∀ c ∈ x, c = 91 ∨ c = 93) ∧ (trF cur o acc s).1.length ≤ acc.length + s.length
  | [], cur, o, acc, m, hm, ha, hc => ⟨ha, Nat.le_refl _⟩
  | c :: s, cur, o, acc, m, hm, ha, hc => by
    rw [trF]
    rw [List.length_cons] at hm ⊢
    have none : (∀ x ∈ (([], false) : List (List UInt8) × Bool).1, x.length ≤ m ∧ ∀ c ∈ x, c = 91 ∨ c = 93) ∧ (([], false) : List (List UInt8) × Bool).1.length ≤ acc.length + (s.length + 1) := ⟨fun x hx => (by cases hx), Nat.zero_le _⟩
    have hcur : ∀ d : UInt8, (d = 91 ∨ d = 93) → ∀ c ∈ cur ++ [d], c = 91 ∨ c = 93 := fun d hd x hx => by
      rw [List.mem_append, List.mem_singleton] at hx
      rcases hx with hx | rfl
      · exact hc x hx
      · exact hd
    by_cases h91 : c = 91
    · rw [if_pos h91]
      have := tr_small s (cur ++ [c]) (o + 1) acc m (by rw [List.length_append, List.length_singleton]; omega) ha (hcur c (.inl h91))
      exact ⟨this.1, by omega⟩
    · rw [if_neg h91]
      by_cases h93 : c = 93
      · rw [if_pos h93]
        by_cases ho : o = 0
        · rw [if_pos ho]; exact none
        · rw [if_neg ho]
          by_cases h2 : o = 1
          · rw [if_pos h2]
            have := tr_small s [] 0 (acc ++ [cur ++ [c]]) m (by simp; omega) (fun x hx => by
              rw [List.mem_append, List.mem_singleton] at hx
              rcases hx with hx | rfl
              · exact ha x hx
              · exact ⟨by rw [List.length_append, List.length_singleton]; omega, hcur c (.inr h93)⟩) (fun c hc => by cases hc)
            rw [List.length_append, List.length_singleton] at this
            exact ⟨this.1, by omega⟩
          · rw [if_neg h2]
            have := tr_small s (cur ++ [c]) (o - 1) acc m (by rw [List.length_append, List.length_singleton]; omega) ha (hcur c (.inr h93))
            exact ⟨this.1, by omega⟩
      · rw [if_neg h93]; exact none
/-- how many nodes a text has that is read -/
theorem rd_total : ∀ (s : List UInt8) (out : List (List Int)) (o : Nat), (0 < o → out ≠ []) → (∀ r ∈ out, 1 ≤ r.length) → (rdL out o s).2 = true → 2 * total' (rdL out o s).1 + o = 2 * total' out + s.length ∧ ∀ r ∈ (rdL out o s).1, 1 ≤ r.length
  | [], out, o, h0, hr, h => by
    rw [rdL] at h ⊢
    have : o = 0 := by simpa using h
    exact ⟨by simp [this], hr⟩
  | c :: s, out, o, h0, hr, h => by
    rw [rdL] at h ⊢
    rw [List.length_cons]
    by_cases h91 : c = 91
    · rw [if_pos h91] at h ⊢
      by_cases ho : o = 0
      · subst ho
        have e : addNode out (((0 : Nat) : Int) + 1) = out ++ [[0]] := addNode_new out
        rw [e] at h ⊢
        have ih := rd_total s (out ++ [[0]]) (0 + 1) (fun _ => by simp) (fun r hr' => by
          rw [List.mem_append, List.mem_singleton] at hr'
          rcases hr' with hr' | rfl
          · exact hr r hr'
          · simp) h
        have et : total' (out ++ [[0]]) = total' out + 1 := by simp [total']
        exact ⟨by rw [et] at ih; omega, ih.2⟩
      · rcases List.eq_nil_or_concat out with e0 | ⟨l, r, e0⟩
        · exact absurd e0 (h0 (by omega))
        · rw [List.concat_eq_append] at e0
          subst e0
          rw [addNode_last _ _ (by omega)] at h ⊢
          have ih := rd_total s (l ++ [r ++ [(o : Int) + 1 - 1]]) (o + 1) (fun _ => by simp) (fun x hx => by
            rw [List.mem_append, List.mem_singleton] at hx
            rcases hx with hx | rfl
            · exact hr x (by simp [hx])
            · simp) h
          have et : total' (l ++ [r ++ [(o : Int) + 1 - 1]]) = total' (l ++ [r]) + 1 := by simp [total']; omega
          exact ⟨by rw [et] at ih; omega, ih.2⟩
    · rw [if_neg h91] at h ⊢
      by_cases h93 : c = 93 ∧ 0 < o
      · rw [if_pos h93] at h ⊢
        have ih := rd_total s out (o - 1) (fun _ => h0 h93.2) hr h
        exact ⟨by omega, ih.2⟩
      · rw [if_neg h93] at h; cases h
theorem len_total' : ∀ {f : List (List Int)}, (∀ r ∈ f, 1 ≤ r.length) → f.length ≤ total' f
  | [], _ => Nat.zero_le _
  | x :: f, h => by
    have h1 := len_total' (f := f) (fun r hr => h r (by simp [hr]))
    have h2 := h x (by simp)
    have e : total' (x :: f) = x.length + total' f := by simp [total']
    rw [e, List.length_cons]; omega
theorem rd_bd {s : List UInt8} (h : (rdL [] 0 s).2 = true) : (rdL [] 0 s).1.length + total' (rdL [] 0 s).1 ≤ s.length := by
  have h1 := rd_total s [] 0 (by omega) (fun r hr => by cases hr) h
  have h2 := len_total' h1.2
  have e : total' ([] : List (List Int)) = 0 := rfl
  omega
end Go.Proofs.Ytignimaimflenaa.Tr
/-
  The model's parser of brackets.
-/
namespace Go.Proofs.Ytignimaimflenaa
open Go.RowKit Fld
set_option linter.unusedVariables false
set_option linter.unusedSimpArgs false
set_option maxRecDepth 100000

theorem add_rows {m : List (List Int)} {x : Int} {b : Nat} (h : ∀ r ∈ m, r.length ≤ b) : ∀ r ∈ Tr.addNode m x, r.length ≤ b + 1 := by
  intro r hr
  unfold Tr.addNode at hr
  simp only at hr
  rcases List.mem_or_eq_of_mem_set hr with hr | hr
  · split at hr
    · rw [List.mem_append, List.mem_singleton] at hr
      rcases hr with hr | rfl
      · have := h r hr; omega
      · simp
    · have := h r hr; omega
  · rw [hr, List.length_append, List.length_singleton]
    have key : ∀ (o : List (List Int)) (i : Nat), (∀ r ∈ o, r.length ≤ b) → (o.getD i []).length ≤ b := fun o i ho => by
      rw [List.getD_eq_getElem?_getD]
      cases hh : o[i]? with
      | none => simp
      | some y => exact ho y (List.mem_of_getElem? hh)
    have := key (if x = 1 then m ++ [[]] else m) ((if x = 1 then m ++ [[]] else m).length - 1) (fun r hr => by
      split at hr
      · rw [List.mem_append, List.mem_singleton] at hr
        rcases hr with hr | rfl
        · exact h r hr
        · simp
      · exact h r hr)
    omega
set_option maxHeartbeats 2000000 in
theorem l03Read_any (s : List UInt8) (w : World) (hn : s.length ≤ 1048576) :
    Calls Try.prog 87 #[.string ⟨s.toArray⟩] w fun e w' => ∃ A q c vs, e = .returned (.tuple #[.slice A q c, .bool (Tr.rdL [] 0 s).2]) ∧ OwnMat w' w.heap.size w'.heap.size (.slice A q c) q (Tr.rdL [] 0 s).1 vs ∧ Below w.heap.size w w' := by
  obtain ⟨i0, hi, hz0, hz1, hz2⟩ := info_parts info_i64
  obtain ⟨j0, hj, hy0, hy1, hy2⟩ := info_parts info_row
  have HN := Lib.hid hn
  obtain ⟨S, hS⟩ : ∃ S : ByteArray, S = ⟨s.toArray⟩ := ⟨_, rfl⟩
  have HSZ : Hid (S.size = s.length) := by rw [Hid, hS]; exact size_S s
  have HS := Lib.hid hS
  rw [← hS]
  have hs20 : S.size ≤ 1048576 := by rw [HSZ.out]; exact hn
  clear hS hn
  go_enter Try.func87, Try.ntmps87
  go_wp2_with fail
  go_loopw [4, 5, 6] (fun v l i wr => ∃ (p o q g cap : Nat) (m : List (List Int)), p ≤ S.size ∧ o ≤ p ∧ q ≤ p ∧ (0 < o → 1 ≤ q) ∧ v = .slice (some ⟨g, 0, none⟩) q cap ∧ l = .int .i64 o ∧ i = .int .i64 p ∧ Hid (Tr.rdL [] 0 s = Tr.rdL m o (s.drop p)) ∧ Hid (m.length = q) ∧ Hid (∀ r ∈ m, r.length ≤ p) ∧ GrowM w g q cap m wr) (fun _ _ i _ => S.size - (intOf i).toNat)
  case atStart => exact ⟨0, 0, 0, _, 0, [], Nat.zero_le _, Nat.le_refl _, Nat.le_refl _, by omega, rfl, rfl, rfl, rfl, rfl, fun r hr => (by cases hr), GrowM.start ..⟩
  case round =>
    obtain ⟨p, o, q, g, cap, m, hp, hop, hqp, hoq, rfl, rfl, rfl, HE, HQ, HRB, vs, HM, HBel⟩ := hrel
    have hsz := HBel.size
    by_cases hlt : p < S.size
    · obtain ⟨c, hc⟩ := at_lt (show p < s.length by rw [← HSZ.out]; exact hlt)
      have hbyte : S[p]'hlt = c := by
        have hS := HS.out
        subst hS
        exact byte_at hc hlt
      by_cases h91 : c = 91
      · subst h91
        have t91 : ((S[p]'hlt).toNat : Int) = 91 := by rw [hbyte]; rfl
        have tb91 := beq_t t91
        have HE2 : Hid (Tr.rdL [] 0 s = Tr.rdL (Tr.addNode m ((o : Int) + 1)) (o + 1) (s.drop (p + 1))) := by rw [Hid, HE.out, Tr.rd_open hc]
        have HRB2 : Hid (∀ r ∈ Tr.addNode m ((o : Int) + 1), r.length ≤ p + 1) := add_rows HRB.out
        clear hc hbyte HE
        by_cases ho : o = 0
        · subst ho
          have HM' := Lib.hid HM
          have HBel' := Lib.hid HBel
          have hown1 := (HM.below ((Below.refl wr.heap.size wr).alloc (Nat.le_refl _) (.cells #[] 2)) (Nat.le_refl _)).outer.1
          have HOWN1 := Lib.hid hown1
          clear HM HBel
          have hvv : (vs ++ [Value.slice (some ⟨wr.heap.size, 0, none⟩) 0 0])[q]? = some (.slice (some ⟨wr.heap.size, 0, none⟩) 0 0) := by
            have e : vs.length = q := by rw [HM'.out.len]; exact HQ.out
            rw [List.getElem?_append_right (by omega), e, Nat.sub_self]; rfl
          have HVV := Lib.hid hvv
          have HRR : Hid ((m ++ [[]])[q]? = some []) := by
            have e := HQ.out
            rw [Hid, List.getElem?_append_right (by omega), e, Nat.sub_self]; rfl
          have HRL : Hid (([] : List Int).length = 0) := rfl
          have HSET : Hid ((m ++ [[]]).set q ([] ++ [0]) = Tr.addNode m (((0 : Nat) : Int) + 1)) := by
            rw [Hid, show (((0 : Nat) : Int) + 1) = 1 from rfl, add_new, HQ.out]; rfl
          have HLEN : Hid ((Tr.addNode m (((0 : Nat) : Int) + 1)).length = q + 1) := by rw [Hid, show (((0 : Nat) : Int) + 1) = 1 from rfl, add_length, if_pos rfl, HQ.out]
          clear hvv
          have PRE : Hid (∀ (g4 cap4 : Nat) (w4 : World), w4.ownsRow w.heap.size 22 1 (.slice (some ⟨g4, 0, none⟩) (q + 1) cap4) (q + 1) (vs ++ [.slice (some ⟨wr.heap.size, 0, none⟩) 0 0]) → ((wr.alloc (.cells #[] 2)).alloc (.cells #[.slice (some ⟨wr.heap.size, 0, none⟩) 0 0] 22)).grownBy w4 (Value.ownBlock (.slice (some ⟨g, 0, none⟩) q cap)) →
              OwnMat w4 w.heap.size w4.heap.size (.slice (some ⟨g4, 0, none⟩) (q + 1) cap4) (q + 1) (m ++ [[]]) (vs ++ [.slice (some ⟨wr.heap.size, 0, none⟩) 0 0]) ∧ Below w.heap.size w w4 ∧ w.heap.size ≤ w4.heap.size ∧ w4.cell? ⟨g4, q, none⟩ = some (.slice (some ⟨wr.heap.size, 0, none⟩) 0 0) ∧ w4.frozen? ⟨g4, q, none⟩ = false ∧ w4.ownsRow w.heap.size 2 1 (.slice (some ⟨wr.heap.size, 0, none⟩) 0 0) 0 (ints [])) := fun g4 cap4 w4 hown4 hgrow4 => by
            have HM1 : OwnMat w4 w.heap.size w4.heap.size (.slice (some ⟨g4, 0, none⟩) (q + 1) cap4) (q + 1) (m ++ [[]]) (vs ++ [.slice (some ⟨wr.heap.size, 0, none⟩) 0 0]) :=
              (HM'.out.below ((Below.refl wr.heap.size wr).alloc (Nat.le_refl _) (.cells #[] 2)) (Nat.le_refl _)).push (row := []) (by simp) rfl (World.ownsRow_lit wr #[] 0 (Nat.le_refl _) (Nat.zero_le _) rfl) hsz hown4 hgrow4
            have hwW : w.heap.size ≤ w4.heap.size := by have := hgrow4.size; simp at this; omega
            have HBW : Below w.heap.size w w4 := ((HBel'.out.alloc hsz _).alloc (by simp; omega) _).grown hgrow4 (by simp; omega) (fun p hp => (HOWN1.out.lt p hp).1)
            have hcell := HM1.outer.1.cellAt q (by omega)
            rw [HVV.out] at hcell
            have hfr := HM1.outer.1.frozenAt q
            obtain ⟨A9, c9, e9, o9⟩ := HM1.inner q [] HRR.out
            rw [HVV.out] at e9
            injection e9 with e9
            have o10 := o9.1
            rw [← e9] at o10
            exact ⟨HM1, HBW, hwW, hcell, hfr, o10⟩
          have POST : Hid (∀ (g4 cap4 : Nat) (w4 : World), OwnMat w4 w.heap.size w4.heap.size (.slice (some ⟨g4, 0, none⟩) (q + 1) cap4) (q + 1) (m ++ [[]]) (vs ++ [.slice (some ⟨wr.heap.size, 0, none⟩) 0 0]) → Below w.heap.size w w4 → ∀ (o : Obj) (W2 : World) (g5 cap5 : Nat), W2.ownsRow w.heap.size 2 1 (.slice (some ⟨g5, 0, none⟩) (0 + 1) cap5) (0 + 1) (ints [] ++ [.int .i64 0]) → (w4.alloc o).grownBy W2 (Value.ownBlock (.slice (some ⟨wr.heap.size, 0, none⟩) 0 0)) → (Value.ownBlock (.slice (some ⟨wr.heap.size, 0, none⟩) 0 0) = some g5 ∨ g5 = w4.heap.size + 1) → g5 < W2.heap.size →
              W2.cell? ⟨g4, q, none⟩ = some (.slice (some ⟨wr.heap.size, 0, none⟩) 0 0) ∧ W2.frozen? ⟨g4, q, none⟩ = false ∧ GrowM w g4 (q + 1) cap4 (Tr.addNode m (((0 : Nat) : Int) + 1)) (W2.setCell ⟨g4, q, none⟩ (.slice (some ⟨g5, 0, none⟩) (0 + 1) cap5))) := fun g4 cap4 w4 HM2 HBW o W2 g5 cap5 hown5 hgrow5 hat5 hlt5 => by
            obtain ⟨A9, c9, e9, o9⟩ := HM2.inner q [] HRR.out
            rw [HVV.out] at e9
            injection e9 with e9
            have h1 : OwnR W2 w.heap.size w4.heap.size 22 (.slice (some ⟨g4, 0, none⟩) (q + 1) cap4) (q + 1) (vs ++ [Value.slice (some ⟨wr.heap.size, 0, none⟩) 0 0]) :=
              OwnR.grown (w := w4.alloc o) (HM2.outer.below ((Below.refl _ _).alloc (Nat.le_refl _) _) (Nat.le_refl _)) hgrow5 (own_types HM2.outer.1 (by rw [e9]; exact o9.1) (by decide))
            have h2 := h1.1.cellAt q (by omega)
            rw [HVV.out] at h2
            have o10 := o9.1
            rw [← e9] at o10
            have e1 : ints [] ++ [.int .i64 0] = ints ([] ++ [0]) := by simp [ints, intsK]
            rw [e1] at hown5
            have h3 := OwnMat.app_row (w := w4) HM2 (Nat.le_refl _) HRR.out HVV.out HRL.out hown5 hgrow5 hat5 hlt5
            rw [HSET.out] at h3
            refine ⟨h2, h1.1.frozenAt q, _, by rw [show ∀ (p : Addr) (v : Value), (W2.setCell p v).heap.size = W2.heap.size from fun p v => by simp [World.setCell]]; exact h3, ?_⟩
            refine below_set ((HBW.alloc HBW.size _).grown hgrow5 (by have := HBW.size; simp; omega) (fun q hq => (o10.lt q hq).1)) ?_ _
            exact (HM2.outer.1.lt g4 rfl).1
          have s0 : (0 : Int) ≤ (q : Int) := by omega
          have s1 : (q : Int) < (q : Int) + 1 := by omega
          go_wp2_with (first
            | (at_builtin; refine wpList_append_lies _ rfl (.tmp 22) (.tmp 24) 37 rfl w.heap.size 22 j0 _ 1 24 Try.underlying37 hj hy0 hy1 hy2 rfl (by omega) (.slice (some ⟨g, 0, none⟩) q cap) q vs rfl (hown1.alloc _) ⟨wr.heap.size + 1, 0, none⟩ 1 1 [.slice (some ⟨wr.heap.size, 0, none⟩) 0 0] rfl rfl (by have := World.news_of_block (w := (wr.alloc (.cells #[] 2)).alloc (.cells #[.slice (some ⟨wr.heap.size, 0, none⟩) 0 0] 22)) (cs := #[.slice (some ⟨wr.heap.size, 0, none⟩) 0 0]) (heap_alloc_new _ _); simpa using this) (by simp [Value.oneCell']) (by omega) (by simp only [maxLen]; omega) (by omega) (by simp; omega) (wr.heap.size + 2) (by simp) ?_; intro g4 cap4 w4 hown4 hgrow4 hat4 hlt4; obtain ⟨p1, p2, hwW, hcell, hfr, hrow2⟩ := PRE.out g4 cap4 w4 hown4 hgrow4; have HM2 := Lib.hid p1; have HBW := Lib.hid p2; clear hown4 hgrow4 hat4 hown1 p1 p2)
            | (at_builtin; refine wpList_append_lies _ rfl (.tmp 34) (.tmp 36) 22 rfl w.heap.size 2 i0 _ 1 8 Try.underlying22 hi hz0 hz1 hz2 rfl (by omega) (.slice (some ⟨wr.heap.size, 0, none⟩) 0 0) 0 (ints []) rfl (hrow2.alloc _) ⟨w4.heap.size, 0, none⟩ 1 1 [.int .i64 0] rfl rfl (World.news_of_block (cs := #[.int .i64 0]) (heap_alloc_new _ _)) (by simp [Value.oneCell']) (by omega) (by simp only [maxLen]; omega) (by omega) (by simp; omega) (w4.heap.size + 1) (by simp) ?_; intro g5 cap5 w5 hown5 hgrow5 hat5 hlt5; obtain ⟨hc5, hf5, hG⟩ := POST.out _ _ _ HM2.out HBW.out _ _ _ _ hown5 hgrow5 hat5 hlt5; have G := Lib.hid hG; clear hown5 hgrow5 hat5 hG hrow2 hcell hfr))
          clear hc5 hf5
          try go_wp2
          go_roundw
          case rel => exact ⟨p + 1, 0 + 1, q + 1, g4, cap4, _, by omega, by omega, by omega, by omega, rfl, by go_num, by go_num, HE2, HLEN, HRB2, G.out⟩
          case measure => simp [intOf]; omega
        · obtain ⟨z, rfl⟩ : ∃ z, q = z + 1 := ⟨q - 1, by have := hoq (by omega); omega⟩
          have tz := beq_f (show ¬ (o : Int) = 0 by omega)
          have hmp : z < m.length := by rw [HQ.out]; omega
          obtain ⟨r, hr⟩ := at_lt hmp
          obtain ⟨Ar, cr, hvv, hor⟩ := HM.inner z r hr
          have HM1 := HM
          have hwW := hsz
          have HBW := Lib.hid HBel
          have HRR := Lib.hid hr
          obtain ⟨rl, hrl⟩ : ∃ rl, rl = r.length := ⟨_, rfl⟩
          have HRL : Hid (r.length = rl) := hrl.symm
          rw [← hrl] at hvv
          have hrl8 : rl ≤ 1048576 := by
            have := HRB.out r (List.mem_of_getElem? hr)
            omega
          have HSET : Hid (m.set z (r ++ [(o : Int)]) = Tr.addNode m ((o : Int) + 1)) := by
            have e := HQ.out
            have hx1 : ¬ ((o : Int) + 1 = 1) := by omega
            rw [Hid, add_last hx1 (r := r) (by rw [e]; exact hr), e, show (o : Int) + 1 - 1 = (o : Int) from by omega]; rfl
          have HLEN : Hid ((Tr.addNode m ((o : Int) + 1)).length = z + 1) := by rw [Hid, add_length, if_neg (by omega), HQ.out]
          clear HM HBel hr hor hrl hmp
          have HM2 := Lib.hid HM1
          have hcell := HM1.outer.1.cellAt z (by omega)
          rw [hvv] at hcell
          have hfr := HM1.outer.1.frozenAt z
          have HKO : Hid (∀ (o : Obj) (W2 : World), (wr.alloc o).grownBy W2 (Value.ownBlock (.slice Ar rl cr)) → W2.cell? ⟨g, z, none⟩ = some (.slice Ar rl cr) ∧ W2.frozen? ⟨g, z, none⟩ = false) := fun o W2 hg => by
            have h1 : OwnR W2 w.heap.size wr.heap.size 22 (.slice (some ⟨g, 0, none⟩) (z + 1) cap) (z + 1) vs := by
              refine OwnR.grown (w := wr.alloc o) ((HM2.out.outer.keep (w' := wr) fun _ _ _ => rfl).below ((Below.refl _ _).alloc (Nat.le_refl _) _) (Nat.le_refl _)) hg ?_
              obtain ⟨A9, c9, e9, o9⟩ := HM2.out.inner z r HRR.out
              rw [hvv] at e9
              injection e9 with e9
              exact own_types HM2.out.outer.1 (by rw [e9]; exact o9.1) (by decide)
            have h2 := h1.1.cellAt z (by omega)
            rw [hvv] at h2
            exact ⟨h2, h1.1.frozenAt z⟩
          have hrow : wr.ownsRow w.heap.size 2 1 (.slice Ar rl cr) rl (ints r) := by
            obtain ⟨A9, c9, e9, o9⟩ := HM2.out.inner z r HRR.out
            rw [hvv] at e9
            injection e9 with e9
            have o10 := (o9.keep (w' := wr) fun _ _ _ => rfl).1
            have el := HRL.out
            rw [← e9, el] at o10
            exact o10
          have HROW := Lib.hid hrow
          have HVV := Lib.hid hvv
          clear HM1 hvv hrow
          have hwd : w.heap.size ≤ wr.heap.size := hwW
          have HG : Hid (∀ (ob : Obj) (W2 : World) (g5 cap5 : Nat), W2.ownsRow w.heap.size 2 1 (.slice (some ⟨g5, 0, none⟩) (rl + 1) cap5) (rl + 1) (ints r ++ [.int .i64 o]) → (wr.alloc ob).grownBy W2 (Value.ownBlock (.slice Ar rl cr)) → (Value.ownBlock (.slice Ar rl cr) = some g5 ∨ g5 = wr.heap.size + 1) → g5 < W2.heap.size → GrowM w g (z + 1) cap (Tr.addNode m ((o : Int) + 1)) (W2.setCell ⟨g, z, none⟩ (.slice (some ⟨g5, 0, none⟩) (rl + 1) cap5))) := fun ob W2 g5 cap5 hown5 hgrow5 hat5 hlt5 => by
            have e1 : ints r ++ [.int .i64 o] = ints (r ++ [(o : Int)]) := by simp [ints, intsK]
            rw [e1] at hown5
            have h1 := OwnMat.app_row (w := wr) (HM2.out.keep (w' := wr) fun _ _ _ => rfl) (Nat.le_refl _) HRR.out HVV.out HRL.out hown5 hgrow5 hat5 hlt5
            rw [HSET.out] at h1
            refine ⟨_, by rw [show ∀ (p : Addr) (v : Value), (W2.setCell p v).heap.size = W2.heap.size from fun p v => by simp [World.setCell]]; exact h1, ?_⟩
            refine below_set ((HBW.out.alloc hwd _).grown hgrow5 (by simp; omega) (fun q hq => (HROW.out.lt q hq).1)) ?_ _
            exact (HM2.out.outer.1.lt g rfl).1
          have s0 : (0 : Int) ≤ (z : Int) := by omega
          have s1 : (z : Int) < (z : Int) + 1 := by omega
          have hcellA : ∀ o : Obj, (wr.alloc o).cell? ⟨g, z, none⟩ = some (.slice Ar rl cr) := fun o => (((Below.refl wr.heap.size wr).alloc (Nat.le_refl _) o).cell (p := ⟨g, z, none⟩) (lt_of_cell hcell)).trans hcell
          have hrow2 := HROW.out
          go_wp2_with (at_builtin; (refine wpList_append_lies _ rfl (.tmp 34) (.tmp 36) 22 rfl w.heap.size 2 i0 _ 1 8 Try.underlying22 hi hz0 hz1 hz2 rfl (by omega) (.slice Ar rl cr) rl (ints r) rfl (hrow2.alloc _) ⟨wr.heap.size, 0, none⟩ 1 1 [.int .i64 o] rfl rfl (World.news_of_block (cs := #[.int .i64 o]) (heap_alloc_new _ _)) (by simp [Value.oneCell']) (by omega) (by simp only [maxLen]; omega) (by omega) (by simp; omega) (wr.heap.size + 1) (by simp) ?_); intro g5 cap5 w5 hown5 hgrow5 hat5 hlt5; obtain ⟨hc5, hf5⟩ := HKO.out _ _ hgrow5)
          have G := Lib.hid (HG.out _ _ _ _ hown5 hgrow5 hat5 hlt5)
          clear hown5 hgrow5 hat5 hc5 hf5 hrow2
          try clear hcellA
          go_wp2
          go_roundw
          case rel => exact ⟨p + 1, o + 1, z + 1, g, cap, _, by omega, by omega, by omega, by omega, rfl, by go_num, by go_num, HE2, HLEN, HRB2, G.out⟩
          case measure => simp [intOf]; omega
      · have tb91 := beq_f (show ¬ ((S[p]'hlt).toNat : Int) = 91 by rw [hbyte]; exact fun e => h91 (UInt8.toNat_inj.1 (by simp; omega)))
        by_cases h93 : c = 93
        · subst h93
          have tb93 := beq_t (show ((S[p]'hlt).toNat : Int) = 93 by rw [hbyte]; rfl)
          have tn93 : ((S[p]'hlt).toNat : Int) = 93 := by rw [hbyte]; rfl
          by_cases ho : 0 < o
          · have HE2 : Hid (Tr.rdL [] 0 s = Tr.rdL m (o - 1) (s.drop (p + 1))) := by rw [Hid, HE.out, Tr.rd_close hc ho]
            have HRB2 : Hid (∀ r ∈ m, r.length ≤ p + 1) := fun r hr => by have := HRB.out r hr; omega
            have hoi : (0 : Int) < (o : Int) := by omega
            have HG : Hid (GrowM w g q cap m wr) := ⟨vs, HM, HBel⟩
            clear HM HBel HE hc hbyte
            go_wp2
            go_roundw
            case rel => exact ⟨p + 1, o - 1, q, g, cap, m, by omega, by omega, by omega, by omega, rfl, by go_num, by go_num, HE2, HQ, HRB2, HG.out⟩
            case measure => simp [intOf]; omega
          · have h0 : o = 0 := by omega
            subst h0
            have G : Hid (Tr.rdL [] 0 s = ([], false)) := by rw [Hid, HE.out]; exact Tr.rd_bad hc (by decide) (fun _ => rfl)
            have GB := Lib.hid HBel
            clear HM HBel HE hc hbyte
            go_wp2
            go_ret2
            exact ⟨none, 0, 0, [], by rw [G.out]; rfl, by rw [G.out]; exact ⟨⟨World.ownsRow_nil _ _ _ _, fun g e => by simp [Value.ownBlock] at e⟩, rfl, fun r row hr => by simp at hr, fun r s u t g _ hu => by simp at hu⟩, GB.out⟩
        · have tb93 := beq_f (show ¬ ((S[p]'hlt).toNat : Int) = 93 by rw [hbyte]; exact fun e => h93 (UInt8.toNat_inj.1 (by simp; omega)))
          have G : Hid (Tr.rdL [] 0 s = ([], false)) := by rw [Hid, HE.out]; exact Tr.rd_bad hc h91 (fun e => absurd e h93)
          have GB := Lib.hid HBel
          clear HM HBel HE hc hbyte h91 h93
          go_wp2
          go_ret2
          exact ⟨none, 0, 0, [], by rw [G.out]; rfl, by rw [G.out]; exact ⟨⟨World.ownsRow_nil _ _ _ _, fun g e => by simp [Value.ownBlock] at e⟩, rfl, fun r row hr => by simp at hr, fun r s u t g _ hu => by simp at hu⟩, GB.out⟩
    · have hl : s.length ≤ p := by have := HSZ.out; unfold Hid at this; omega
      have G : Hid (Tr.rdL [] 0 s = (m, o == 0)) := by
        rw [Hid, HE.out, List.drop_of_length_le hl, Tr.rdL]
      have GO := Lib.hid HM
      have GB := Lib.hid HBel
      clear HM HBel HE hl
      by_cases h0 : o = 0
      · subst h0
        go_wp2
        go_ret2
        exact ⟨_, _, _, vs, by rw [G.out]; rfl, by rw [G.out]; exact GO.out, GB.out⟩
      · have t0 := beq_f (show ¬ (o : Int) = 0 by omega)
        have t1 : (o == 0) = false := by simp [h0]
        rw [t1] at G
        clear h0 t1
        go_wp2
        go_ret2
        exact ⟨_, _, _, vs, by rw [G.out]; rfl, by rw [G.out]; exact GO.out, GB.out⟩
end Go.Proofs.Ytignimaimflenaa
/-
  A text is split into those of trees.
-/
namespace Go.Proofs.Ytignimaimflenaa
open Go.RowKit Fld
set_option linter.unusedVariables false
set_option linter.unusedSimpArgs false
set_option maxRecDepth 100000

theorem extract_S (s : List UInt8) (a b : Nat) : (⟨s.toArray⟩ : ByteArray).extract a b = ⟨((s.drop a).take (b - a)).toArray⟩ := by
  apply ByteArray.ext
  simp [ByteArray.data_extract]
theorem tr_open {cur : List UInt8} {o : Nat} {acc : List (List UInt8)} {s : List UInt8} {p : Nat} (h : s[p]? = some 91) : Tr.trF cur o acc (s.drop p) = Tr.trF (cur ++ [91]) (o + 1) acc (s.drop (p + 1)) := by
  have hlt : p < s.length := by
    rcases Nat.lt_or_ge p s.length with g | g
    · exact g
    · rw [List.getElem?_eq_none g] at h; cases h
  rw [List.getElem?_eq_getElem hlt] at h
  injection h with h
  rw [List.drop_eq_getElem_cons hlt, h, Tr.trF, if_pos rfl]
theorem tr_close {cur : List UInt8} {o : Nat} {acc : List (List UInt8)} {s : List UInt8} {p : Nat} (h : s[p]? = some 93) : Tr.trF cur o acc (s.drop p) = if o = 0 then ([], false) else if o = 1 then Tr.trF [] 0 (acc ++ [cur ++ [93]]) (s.drop (p + 1)) else Tr.trF (cur ++ [93]) (o - 1) acc (s.drop (p + 1)) := by
  have hlt : p < s.length := by
    rcases Nat.lt_or_ge p s.length with g | g
    · exact g
    · rw [List.getElem?_eq_none g] at h; cases h
  rw [List.getElem?_eq_getElem hlt] at h
  injection h with h
  rw [List.drop_eq_getElem_cons hlt, h, Tr.trF, if_neg (by decide), if_pos rfl]
theorem tr_other {cur : List UInt8} {o : Nat} {acc : List (List UInt8)} {s : List UInt8} {p : Nat} {c : UInt8} (h : s[p]? = some c) (h1 : c ≠ 91) (h2 : c ≠ 93) : Tr.trF cur o acc (s.drop p) = ([], false) := by
  have hlt : p < s.length := by
    rcases Nat.lt_or_ge p s.length with g | g
    · exact g
    · rw [List.getElem?_eq_none g] at h; cases h
  rw [List.getElem?_eq_getElem hlt] at h
  injection h with h
  rw [List.drop_eq_getElem_cons hlt, h, Tr.trF, if_neg h1, if_neg h2]
theorem cut_step {s : List UInt8} {a p : Nat} {c : UInt8} (h : s[p]? = some c) (ha : a ≤ p) : (s.drop a).take (p + 1 - a) = (s.drop a).take (p - a) ++ [c] := by
  rw [show p + 1 - a = p - a + 1 from by omega, List.take_add_one, List.getElem?_drop, show a + (p - a) = p from by omega, h]; rfl
/-- the texts of trees, and whether there are no others -/
def ResT (r : List (List UInt8) × Bool) (w : World) (e : Ending) (w' : World) : Prop :=
  ∃ A q c, e = .returned (.tuple #[.slice A q c, .bool r.2]) ∧ w'.ownsRow w.heap.size 61 1 (.slice A q c) q (strs r.1) ∧ Below w.heap.size w w'
theorem ResT.none {r : List (List UInt8) × Bool} {w w' : World} (h : r = ([], false)) (hb : Below w.heap.size w w') : ResT r w (.returned (.tuple #[.slice none 0 0, .bool false])) w' := by
  subst h; exact ⟨_, _, _, rfl, World.ownsRow_nil .., hb⟩
set_option maxHeartbeats 2000000 in
theorem treesIn_any (s : List UInt8) (w : World) (hn : s.length ≤ 1048576) :
    Calls Try.prog 79 #[.string ⟨s.toArray⟩] w (ResT (Tr.trF [] 0 [] s) w) := by
  obtain ⟨i0, hi, hz0, hz1, hz2⟩ := info_parts info_tree
  have HN := Lib.hid hn
  obtain ⟨S, hS⟩ : ∃ S : ByteArray, S = ⟨s.toArray⟩ := ⟨_, rfl⟩
  have HSZ : Hid (S.size = s.length) := by rw [Hid, hS]; exact size_S s
  have HS := Lib.hid hS
  rw [← hS]
  have hs20 : S.size ≤ 1048576 := by rw [HSZ.out]; exact hn
  clear hS hn
  go_enter Try.func79, Try.ntmps79
  go_wp2_with fail
  go_loopw [4, 5, 6] (fun v a o wr => ∃ (p st op q cv : Nat) (Av : Option Addr) (acc : List (List UInt8)), p ≤ S.size ∧ st ≤ p ∧ op ≤ p ∧ q ≤ p ∧ v = .slice Av q cv ∧ a = .int .i64 st ∧ o = .int .i64 op ∧ wr.heap[w.heap.size]? = some (.stringIter S p) ∧ Hid (Tr.trF [] 0 [] s = Tr.trF ((s.drop st).take (p - st)) op acc (s.drop p)) ∧ Hid (wr.ownsRow w.heap.size 61 1 (.slice Av q cv) q (strs acc)) ∧ Below w.heap.size w wr) (fun _ _ _ wr => S.size - wr.iterPos w.heap.size)
  case atStart => exact ⟨0, 0, 0, 0, 0, none, [], Nat.zero_le _, Nat.le_refl _, Nat.le_refl _, Nat.le_refl _, rfl, rfl, rfl, World.iter_heap w S 0, by simp [Hid], World.ownsRow_nil .., (Below.refl _ _).alloc (Nat.le_refl _) _⟩
  case round =>
    obtain ⟨p, st, op, q, cv, Av, acc, hp, hst, hop, hq, rfl, rfl, rfl, hit, HE, HO, HBw⟩ := hrel
    have hlt := (Array.getElem?_eq_some_iff.1 hit).1
    by_cases hps : p < S.size
    · obtain ⟨c, hc⟩ := at_lt (show p < s.length by rw [← HSZ.out]; exact hps)
      have hbyte : S[p]'hps = c := by
        have hS := HS.out
        subst hS
        exact byte_at hc hps
      have HIT := Lib.hid hit
      by_cases hasc : c.toNat < 128
      · have hnx : ∀ ty, (Instr.next (.pointer (some ⟨w.heap.size, 0, none⟩)) true ty).run Try.prog wr = _ := fun ty => Lib.run_next_ascii_at wr w.heap.size S p ty hit hps (by rw [hbyte]; exact hasc)
        rw [hbyte] at hnx
        have hit2 := Lib.iterAt_heap wr w.heap.size S p (p + 1) hit
        have HO2 := Lib.hid (own_iterAt (p' := p + 1) HO.out hit)
        have HB2 := Lib.hid (Lib.below_iterAt HBw (k := w.heap.size) (Nat.le_refl _) S (p + 1))
        have hsz2 : (wr.iterAt w.heap.size S (p + 1)).heap.size = wr.heap.size := Lib.iterAt_size ..
        have hW1 : w.heap.size < (wr.iterAt w.heap.size S (p + 1)).heap.size := by rw [hsz2]; exact hlt
        by_cases h91 : c = 91
        · subst h91
          have e91 : ((91 : UInt8).toNat : Int) = 91 := rfl
          rw [e91] at hnx
          have HE2 : Hid (Tr.trF [] 0 [] s = Tr.trF ((s.drop st).take (p + 1 - st)) (op + 1) acc (s.drop (p + 1))) := by rw [Hid, HE.out, tr_open hc, cut_step hc hst]
          generalize hW : wr.iterAt w.heap.size S (p + 1) = W at *
          have HH2 := Lib.hid hit2
          have t0 : ((op : Int) + 1 == 0) = false := beq_f (by omega)
          clear hc hbyte hasc HE HBw HO hit hW hit2 hsz2
          go_wp2
          go_roundw
          case rel => exact ⟨p + 1, st, op + 1, q, cv, Av, acc, by omega, by omega, by omega, by omega, rfl, rfl, by go_num, HH2.out, HE2, HO2, HB2.out⟩
          case measure =>
            simp only [World.iterPos, HH2.out, HIT.out]
            omega
        · by_cases h93 : c = 93
          · subst h93
            have e93 : ((93 : UInt8).toNat : Int) = 93 := rfl
            rw [e93] at hnx
            have HTC := Lib.hid (HE.out.trans (tr_close hc))
            have HCUT : Hid ((s.drop st).take (p + 1 - st) = (s.drop st).take (p - st) ++ [93]) := cut_step hc hst
            generalize hW : wr.iterAt w.heap.size S (p + 1) = W at *
            have HH2 := Lib.hid hit2
            clear hc hbyte hasc HE HBw HO hit hW hit2 hsz2
            rcases (show op = 0 ∨ op = 1 ∨ 2 ≤ op by omega) with rfl | rfl | h2
            · have G : Hid (Tr.trF [] 0 [] s = ([], false)) := by rw [Hid, HTC.out, if_pos rfl]
              clear HTC
              go_wp2
              go_ret2
              exact ResT.none G.out HB2.out
            · have HE2 : Hid (Tr.trF [] 0 [] s = Tr.trF ((s.drop (p + 1)).take (p + 1 - (p + 1))) 0 (acc ++ [(s.drop st).take (p + 1 - st)]) (s.drop (p + 1))) := by
                rw [Hid, HTC.out, if_neg (by decide), if_pos rfl, Nat.sub_self, List.take_zero, HCUT.out]
              have HX : Hid (S.extract st (p + 1) = ⟨((s.drop st).take (p + 1 - st)).toArray⟩) := by rw [Hid, HS.out]; exact extract_S s st (p + 1)
              obtain ⟨X, hX⟩ : ∃ X, X = S.extract st (p + 1) := ⟨_, rfl⟩
              have HXX : Hid (S.extract st (p + 1) = X) := hX.symm
              have hown2 := HO2.out
              have hp1 : p + 1 ≤ S.size := hps
              clear HTC
              have hsl : ∀ W, (Instr.slice 9 (.string S) (some (.int .i64 (st : Int))) (some (.int .i64 ((p : Int) + 1))) none).run Try.prog W = .ok (.string X) W := fun W => by
                rw [run_slice_string W 9 S .i64 .i64 st ((p : Int) + 1) Try.underlying9 (by omega) (by omega) (by omega)]
                rw [← HXX.out]
                congr 3
              clear hX
              go_wp2_with (at_builtin; (refine wpList_append_lies _ rfl (.tmp 28) (.tmp 34) 59 rfl w.heap.size 61 i0 _ 1 16 Try.underlying59 hi hz0 hz1 hz2 rfl (by omega) (.slice Av q cv) q (strs acc) rfl (hown2.alloc _) ⟨W.heap.size, 0, none⟩ 1 1 [.string X] rfl rfl (World.news_of_block (cs := #[.string X]) (heap_alloc_new _ _)) (by simp [Value.oneCell']) (by omega) (by simp only [maxLen]; omega) (by omega) (by simp; omega) (W.heap.size + 1) (by simp) ?_); intro g2 cap2 w3 hown3 hgrow3 hat3 hlt3)
              have e1 : strs acc ++ [Value.string X] = strs (acc ++ [(s.drop st).take (p + 1 - st)]) := by rw [← HXX.out, HX.out]; simp [strs]
              rw [e1] at hown3
              have GI : Hid (w3.heap[w.heap.size]? = some (.stringIter S (p + 1))) := by
                rw [Hid, hgrow3.block _ (by simp; omega) (own_ne_iter HO2.out HH2.out), Lib.alloc_old _ _ _ hW1]
                exact HH2.out
              have G3 := Lib.hid hown3
              have GB3 : Hid (Below w.heap.size w w3) := (HB2.out.alloc (by omega) _).grown hgrow3 (by simp; omega) (fun z hz => (HO2.out.lt z hz).1)
              clear hown3 hgrow3 hat3 hown2 e1 hsl
              go_wp2
              go_roundw
              case rel => exact ⟨p + 1, p + 1, 0, q + 1, cap2, _, _, by omega, by omega, by omega, by omega, rfl, by go_num, rfl, GI.out, HE2, G3, GB3.out⟩
              case measure =>
                simp only [World.iterPos, GI.out, HIT.out]
                omega
            · have HE2 : Hid (Tr.trF [] 0 [] s = Tr.trF ((s.drop st).take (p + 1 - st)) (op - 1) acc (s.drop (p + 1))) := by
                rw [Hid, HTC.out, if_neg (by omega), if_neg (by omega), HCUT.out]
              have t0 : ((op : Int) - 1 == 0) = false := beq_f (by omega)
              clear HTC
              go_wp2
              go_roundw
              case rel => exact ⟨p + 1, st, op - 1, q, cv, Av, acc, by omega, by omega, by omega, by omega, rfl, rfl, by go_num, HH2.out, HE2, HO2, HB2.out⟩
              case measure =>
                simp only [World.iterPos, HH2.out, HIT.out]
                omega
          · have G : Hid (Tr.trF [] 0 [] s = ([], false)) := by rw [Hid, HE.out]; exact tr_other hc h91 h93
            have t1 : ((c.toNat : Int) == 91) = false := beq_f (fun e => h91 (UInt8.toNat_inj.1 (by simp; omega)))
            have t2 : ((c.toNat : Int) == 93) = false := beq_f (fun e => h93 (UInt8.toNat_inj.1 (by simp; omega)))
            generalize hW : wr.iterAt w.heap.size S (p + 1) = W at *
            clear hc hbyte hasc HE HBw HO hit hW hit2 hsz2 h91 h93
            go_wp2
            go_ret2
            exact ResT.none G.out HB2.out
      · have hd := decode_high S p hps (by rw [hbyte]; omega)
        have hnx : ∀ ty, (Instr.next (.pointer (some ⟨w.heap.size, 0, none⟩)) true ty).run Try.prog wr = _ := fun ty => Lib.run_next_any_at wr w.heap.size S p ty hit hps
        have h91 : c ≠ 91 := fun e => by subst e; exact hasc (by decide)
        have h93 : c ≠ 93 := fun e => by subst e; exact hasc (by decide)
        have G : Hid (Tr.trF [] 0 [] s = ([], false)) := by rw [Hid, HE.out]; exact tr_other hc h91 h93
        have HB2 := Lib.hid (Lib.below_iterAt HBw (k := w.heap.size) (Nat.le_refl _) S (p + (Utf8.decode S p).2))
        generalize hW : wr.iterAt w.heap.size S (p + (Utf8.decode S p).2) = W at *
        obtain ⟨rn, hrn⟩ : ∃ rn, rn = (Utf8.decode S p).1 := ⟨_, rfl⟩
        rw [← hrn] at hnx hd
        have t1 : ((rn : Int) == 91) = false := beq_f (by have := hd.1; omega)
        have t2 : ((rn : Int) == 93) = false := beq_f (by have := hd.1; omega)
        clear hc hbyte hasc HE HBw HO hit hW h91 h93 hrn hd
        go_wp2
        go_ret2
        exact ResT.none G.out HB2.out
    · have hnx : ∀ ty, (Instr.next (.pointer (some ⟨w.heap.size, 0, none⟩)) true ty).run Try.prog wr = _ := fun ty => Lib.run_next_end_at wr w.heap.size S p ty hit hps
      have e : Tr.trF [] 0 [] s = (acc, op == 0) := by
        have hl : s.length ≤ p := by have := HSZ.out; unfold Hid at this; omega
        have := HE.out
        rw [List.drop_of_length_le hl] at this
        rw [this]
        simp [Tr.trF]
      have G : Hid (ResT (Tr.trF [] 0 [] s) w (.returned (.tuple #[.slice Av q cv, .bool (op == 0)])) wr) := by
        rw [Hid, e]; exact ⟨Av, q, cv, rfl, HO.out, HBw⟩
      by_cases h0 : op = 0
      · subst h0
        clear HBw HE e hit
        go_wp2
        go_ret2
        exact G.out
      · have t0 : ((op : Int) == 0) = false := beq_f (by omega)
        have t1 : (op == 0) = false := by simp [h0]
        rw [t1] at G
        clear HBw HE e hit h0 t1
        go_wp2
        go_ret2
        exact G.out
end Go.Proofs.Ytignimaimflenaa
/-
  A list of lists beside a code, as calls hand it back.
-/
namespace Go.Proofs.Ytignimaimflenaa
open Go.RowKit Fld
set_option linter.unusedVariables false
set_option linter.unusedSimpArgs false
set_option maxRecDepth 100000

/-- a list of lists that the call owns, beside a code -/
def ResM (r : List (List Int) × Int) (w : World) (e : Ending) (w' : World) : Prop :=
  r.1.length + total r.1 ≤ 1048576 ∧ ∃ A c vs, e = .returned (.tuple #[.slice A r.1.length c, .int .i64 r.2]) ∧ OwnMat w' w.heap.size w'.heap.size (.slice A r.1.length c) r.1.length r.1 vs ∧ Below w.heap.size w w'
theorem OwnMat.nil' (w : World) (lo hi : Nat) : OwnMat w lo hi (.slice none 0 0) 0 [] [] :=
  ⟨⟨World.ownsRow_nil _ _ _ _, fun g e => by simp [Value.ownBlock] at e⟩, rfl, fun r row hr => by simp at hr, fun r s u t g _ hu => by simp at hu⟩
theorem ResM.nil {r : List (List Int) × Int} {w w' : World} {k : Int} (h : r = ([], k)) (hb : Below w.heap.size w w') : ResM r w (.returned (.tuple #[.slice none 0 0, .int .i64 k])) w' := by
  subst h
  exact ⟨by simp [total], none, 0, [], rfl, OwnMat.nil' _ _ _, hb⟩
theorem ResM.of {r : List (List Int) × Int} {w w' : World} {A : Option Addr} {n c : Nat} {m : List (List Int)} {vs : List Value} {k : Int} (h : r = (m, k)) (hn : m.length + total m ≤ 1048576)
    (ho : OwnMat w' w.heap.size w'.heap.size (.slice A n c) n m vs) (hb : Below w.heap.size w w') : ResM r w (.returned (.tuple #[.slice A n c, .int .i64 k])) w' := by
  subst h
  have e := ho.size
  subst e
  exact ⟨hn, A, c, vs, rfl, ho, hb⟩
/-- lists in memory below a bound: the model's -/
def LowMat (w : World) (hi : Nat) (A : Option Addr) (m : List (List Int)) : Prop := Mat w hi A m
theorem LowMat.below {w w' : World} {hi B : Nat} {A : Option Addr} {m : List (List Int)} (h : LowMat w hi A m) (hb : Below B w w') (hB : hi ≤ B) : LowMat w' hi A m := Mat.below h hb hB
theorem LowMat.within {w w' : World} {hi lo' hi' : Nat} {A : Option Addr} {m : List (List Int)} (h : LowMat w hi A m) (hb : Within lo' hi' w w') (hs : hi ≤ w.heap.size) (hd : hi ≤ lo') : LowMat w' hi A m :=
  Mat.keep h fun b o hbb => World.cell?_of_block (hb.block b (by omega) (by omega))
theorem LowMat.mat {w : World} {hi : Nat} {A : Option Addr} {m : List (List Int)} (h : LowMat w hi A m) : Mat w hi A m := h
theorem LowMat.drewN {w : World} {hi : Nat} {A : Option Addr} {m : List (List Int)} (h : LowMat w hi A m) (k : Nat) : LowMat (w.drewN k) hi A m := h
def ResMl (r : List (List Int) × Int) (w : World) (e : Ending) (w' : World) : Prop :=
  r.1.length + total r.1 ≤ 1048576 ∧ ∃ A c, e = .returned (.tuple #[.slice A r.1.length c, .int .i64 r.2]) ∧ LowMat w' w'.heap.size A r.1 ∧ Below w.heap.size w w'
theorem ResMl.nil {r : List (List Int) × Int} {w w' : World} {k : Int} (h : r = ([], k)) (hb : Below w.heap.size w w') : ResMl r w (.returned (.tuple #[.slice none 0 0, .int .i64 k])) w' := by
  subst h
  exact ⟨by simp [total], none, 0, rfl, fun k r hr => by simp at hr, hb⟩
theorem ResMl.of {r : List (List Int) × Int} {w w' : World} {A : Option Addr} {n c : Nat} {m : List (List Int)} {k : Int} (h : r = (m, k)) (hl : m.length = n) (hn : m.length + total m ≤ 1048576)
    (ho : Mat w' w'.heap.size A m) (hb : Below w.heap.size w w') : ResMl r w (.returned (.tuple #[.slice A n c, .int .i64 k])) w' := by
  subst h hl
  exact ⟨hn, A, c, rfl, ho, hb⟩
end Go.Proofs.Ytignimaimflenaa
/-
  What ParseForest answers, the program's and the model's.
-/
namespace Go.Proofs.Ytignimaimflenaa
open Go.RowKit Fld
set_option linter.unusedVariables false
set_option linter.unusedSimpArgs false
set_option maxRecDepth 100000

/-- what is read of a text -/
def parseFB (s : List UInt8) : List (List Int) × Int := if s = [45] then ([], 0) else if (Tr.rdL [] 0 s).2 = true ∧ (Tr.rdL [] 0 s).1 ≠ [] ∧ isFor (Tr.rdL [] 0 s).1 = true then ((Tr.rdL [] 0 s).1, 0) else ([], 6)
def parseFA (S : ByteArray) : List (List Int) × Int := parseFB S.data.toList
theorem parseF_dash {s : List UInt8} (h : s = [45]) : parseFB s = ([], 0) := if_pos h
theorem parseF_no {s : List UInt8} (h : s ≠ [45]) (h2 : (Tr.rdL [] 0 s).2 = false) : parseFB s = ([], 6) := by
  unfold parseFB; rw [if_neg h, if_neg (fun e => by rw [h2] at e; cases e.1)]
theorem parseF_nil {s : List UInt8} (h : s ≠ [45]) (h2 : (Tr.rdL [] 0 s).1 = []) : parseFB s = ([], 6) := by
  unfold parseFB; rw [if_neg h, if_neg (fun e => e.2.1 h2)]
theorem parseF_bad {s : List UInt8} (h : s ≠ [45]) (h2 : isFor (Tr.rdL [] 0 s).1 = false) : parseFB s = ([], 6) := by
  unfold parseFB; rw [if_neg h, if_neg (fun e => by rw [h2] at e; cases e.2.2)]
theorem parseF_yes {s : List UInt8} (h : s ≠ [45]) (h2 : (Tr.rdL [] 0 s).2 = true) (h3 : (Tr.rdL [] 0 s).1 ≠ []) (h4 : isFor (Tr.rdL [] 0 s).1 = true) : parseFB s = ((Tr.rdL [] 0 s).1, 0) := by
  unfold parseFB; rw [if_neg h, if_pos ⟨h2, h3, h4⟩]
theorem total_eq (f : List (List Int)) : total f = Tr.total' f := rfl
theorem str_of (S : ByteArray) : S = ⟨S.data.toList.toArray⟩ := by
  apply ByteArray.ext; simp
set_option maxHeartbeats 1000000 in
theorem sParseForest_L (S : ByteArray) (w : World) (hn : S.size ≤ 1048576) : Calls Try.prog 46 #[.string S] w (ResM (parseFA S) w) := by
  obtain ⟨s, hs⟩ : ∃ s, s = S.data.toList := ⟨_, rfl⟩
  have hS : S = ⟨s.toArray⟩ := by rw [hs]
  have hsl : s.length ≤ 1048576 := by rw [← size_S s, ← hS]; exact hn
  have C0 := l03Read_any s w hsl
  rw [← hS] at C0
  unfold parseFA
  rw [← hs]
  obtain ⟨R, hR⟩ : ∃ R, R = Tr.rdL [] 0 s := ⟨_, rfl⟩
  have HBD := fun h : (Tr.rdL [] 0 s).2 = true => Tr.rd_bd h
  by_cases hd : s = [45]
  · have G := Lib.hid (parseF_dash hd)
    have hr2 : (Tr.rdL [] 0 s).2 = false := by subst hd; rfl
    rw [hr2] at C0
    have hSS : S = ⟨#[45]⟩ := by rw [hS, hd]
    clear HBD hR hs hS hr2 hsl hn hd
    subst hSS
    go_enter Try.func46, Try.ntmps46
    go_wp2_with fail
    refine C0.mono ?_
    rintro e w1 ⟨A1, q1, c1, vs1, rfl, own1, bel1⟩
    have GB := Lib.hid bel1
    clear own1 bel1
    go_wp2
    go_ret2
    exact ResM.nil G.out GB.out
  · have hne : (S.toList == [45]) = false := by
      rw [ByteArray.toList_eq, ← hs]
      exact beq_eq_false_iff_ne.2 hd
    cases h2 : (Tr.rdL [] 0 s).2
    · have G := Lib.hid (parseF_no hd h2)
      rw [h2] at C0
      clear HBD hR hs hS hsl hd h2
      go_enter Try.func46, Try.ntmps46
      go_wp2_with fail
      refine C0.mono ?_
      rintro e w1 ⟨A1, q1, c1, vs1, rfl, own1, bel1⟩
      have GB := Lib.hid bel1
      clear own1 bel1
      go_wp2
      go_ret2
      exact ResM.nil G.out GB.out
    · have hbd := HBD h2
      rw [← total_eq] at hbd
      have HB0 : Hid ((Tr.rdL [] 0 s).1.length + total (Tr.rdL [] 0 s).1 ≤ 1048576) := by rw [Hid]; omega
      rw [h2] at C0
      by_cases h3 : (Tr.rdL [] 0 s).1 = []
      · have G := Lib.hid (parseF_nil hd h3)
        clear HBD hR hs hS hsl hd h2 hbd
        go_enter Try.func46, Try.ntmps46
        go_wp2_with fail
        refine C0.mono ?_
        rintro e w1 ⟨A1, q1, c1, vs1, rfl, own1, bel1⟩
        have e0 := own1.size
        rw [h3] at e0
        have e0' : q1 = 0 := e0.symm
        subst e0'
        have GB := Lib.hid bel1
        clear own1 bel1 h3 e0
        go_wp2
        go_ret2
        exact ResM.nil G.out GB.out
      · have HP := Lib.hid (show 0 < (Tr.rdL [] 0 s).1.length from List.length_pos_iff.2 h3)
        have C1 := fun A n c B w hl hn hB h => l03Forest_any A n c B (Tr.rdL [] 0 s).1 w hl hn hB h
        cases h4 : isFor (Tr.rdL [] 0 s).1
        · have G := Lib.hid (parseF_bad hd h4)
          simp only [h4] at C1
          clear HBD hR hs hS hsl hd h2 hbd h3 h4
          go_enter Try.func46, Try.ntmps46
          go_wp2_with fail
          refine C0.mono ?_
          rintro e w1 ⟨A1, q1, c1, vs1, rfl, own1, bel1⟩
          have e0 := Lib.hid own1.size
          have HQ : 0 < q1 := by have := HP.out; have := e0.out; omega
          have tq := beq_f (show ¬ (q1 : Int) = 0 by omega)
          have HM := Lib.hid own1.mat
          have hs1 := bel1.size
          have GB1 := Lib.hid bel1
          clear own1 bel1
          go_wp2_with fail
          refine (C1 _ _ _ _ _ e0.out (by have := HB0.out; have := e0.out; omega) (Nat.le_refl _) HM.out).mono ?_
          rintro e w2 ⟨rfl, bel2⟩
          have GB := Lib.hid (GB1.out.trans (bel2.mono hs1))
          clear bel2 C1
          go_wp2
          go_ret2
          exact ResM.nil G.out GB.out
        · have G := Lib.hid (parseF_yes hd h2 h3 h4)
          simp only [h4] at C1
          clear HBD hR hs hS hsl hd h2 hbd h3 h4
          go_enter Try.func46, Try.ntmps46
          go_wp2_with fail
          refine C0.mono ?_
          rintro e w1 ⟨A1, q1, c1, vs1, rfl, own1, bel1⟩
          have e0 := Lib.hid own1.size
          have HQ : 0 < q1 := by have := HP.out; have := e0.out; omega
          have tq := beq_f (show ¬ (q1 : Int) = 0 by omega)
          have HM := Lib.hid own1.mat
          have HO := Lib.hid own1
          have hs1 := bel1.size
          have GB1 := Lib.hid bel1
          clear own1 bel1
          go_wp2_with fail
          refine (C1 _ _ _ _ _ e0.out (by have := HB0.out; have := e0.out; omega) (Nat.le_refl _) HM.out).mono ?_
          rintro e w2 ⟨rfl, bel2⟩
          have GB := Lib.hid (GB1.out.trans (bel2.mono hs1))
          have GO := Lib.hid ((HO.out.below bel2 (Nat.le_refl _)).more (Nat.le_refl _) bel2.size)
          clear bel2 C1
          go_wp2
          go_ret2
          exact ResM.of G.out HB0.out GO.out GB.out
set_option maxHeartbeats 1000000 in
theorem pParseForest_L (S : ByteArray) (w : World) (hn : S.size ≤ 1048576) : Calls Try.prog 42 #[.string S] w (ResM (parseFA S) w) := by
  obtain ⟨s, hs⟩ : ∃ s, s = S.data.toList := ⟨_, rfl⟩
  have hS : S = ⟨s.toArray⟩ := by rw [hs]
  have hsl : s.length ≤ 1048576 := by rw [← size_S s, ← hS]; exact hn
  have C0 := treesIn_any s w hsl
  rw [← hS] at C0
  unfold parseFA
  rw [← hs]
  have HEQ := Lib.hid (Tr.rd_eq s)
  have hsm := Tr.tr_small s [] 0 [] s.length (by simp) (fun x hx => by cases hx) (fun c hc => by cases hc)
  have HSM : Hid (∀ x ∈ (Tr.trF [] 0 [] s).1, x.length ≤ 1048576 ∧ Brk x) := fun x hx => by
    have := hsm.1 x hx
    exact ⟨by omega, this.2⟩
  have HSN : Hid ((Tr.trF [] 0 [] s).1.length ≤ 1048576) := by
    have := hsm.2
    rw [Hid]; simp at this; omega
  clear hsm
  by_cases hd : s = [45]
  · have G := Lib.hid (parseF_dash hd)
    have hSS : S = ⟨#[45]⟩ := by rw [hS, hd]
    clear hs hS hsl hn hd C0 HSM HSN HEQ
    subst hSS
    go_enter Try.func42, Try.ntmps42
    go_wp2
    go_ret2
    exact ResM.nil G.out (Below.refl _ _)
  · have hne : (S.toList == [45]) = false := by
      rw [ByteArray.toList_eq, ← hs]
      exact beq_eq_false_iff_ne.2 hd
    have C1 := fun A n c B w hl hB h => listsOf_any A n c B (Tr.trF [] 0 [] s).1 w hl (by rw [← hl]; exact HSN.out) HSM.out hB h
    have e2 := HEQ.out.1
    cases h2 : (Tr.rdL [] 0 s).2
    · have G := Lib.hid (parseF_no hd h2)
      rw [h2] at e2
      unfold ResT at C0
      rw [← e2] at C0
      clear hs hS hsl hd h2 e2
      go_enter Try.func42, Try.ntmps42
      go_wp2_with fail
      refine C0.mono ?_
      rintro e w1 ⟨A1, q1, c1, rfl, own1, bel1⟩
      have HL1 : Hid ((Tr.trF [] 0 [] s).1.length = q1) := by rw [Hid, ← strs_length]; exact own_len own1
      have HR1 := Lib.hid (row_of_own own1)
      have hs1 := bel1.size
      have HB1 := Lib.hid bel1
      clear own1 bel1 C0
      go_wp2_with fail
      refine (C1 _ _ _ _ _ HL1.out (Nat.le_refl _) HR1.out).mono ?_
      rintro e w2 ⟨A2, c2, vs2, rfl, own2, bel2⟩
      have GB := Lib.hid (HB1.out.trans (bel2.mono hs1))
      clear own2 bel2 C1
      go_wp2
      go_ret2
      exact ResM.nil G.out GB.out
    · have hbd := Tr.rd_bd h2
      rw [← total_eq] at hbd
      have HB0 : Hid ((Tr.rdL [] 0 s).1.length + total (Tr.rdL [] 0 s).1 ≤ 1048576) := by rw [Hid]; omega
      rw [h2] at e2
      have e1 := HEQ.out.2 e2.symm
      unfold ResT at C0
      rw [← e2] at C0
      have HE1 := Lib.hid e1
      by_cases h3 : (Tr.rdL [] 0 s).1 = []
      · have G := Lib.hid (parseF_nil hd h3)
        have HN0 : Hid ((Tr.trF [] 0 [] s).1 = []) := by
          rw [h3] at e1
          exact (List.map_eq_nil_iff.1 e1.symm)
        clear hs hS hsl hd h2 e2 e1 hbd h3
        go_enter Try.func42, Try.ntmps42
        go_wp2_with fail
        refine C0.mono ?_
        rintro e w1 ⟨A1, q1, c1, rfl, own1, bel1⟩
        have hl1 : (Tr.trF [] 0 [] s).1.length = q1 := by rw [← strs_length]; exact own_len own1
        rw [HN0.out] at hl1
        have e0' : q1 = 0 := hl1.symm
        subst e0'
        have HR1 := Lib.hid (row_of_own own1)
        have hs1 := bel1.size
        have HB1 := Lib.hid bel1
        clear own1 bel1 C0 hl1
        go_wp2_with fail
        refine (C1 _ _ _ _ _ (by rw [HN0.out]; rfl) (Nat.le_refl _) HR1.out).mono ?_
        rintro e w2 ⟨A2, c2, vs2, rfl, own2, bel2⟩
        have GB := Lib.hid (HB1.out.trans (bel2.mono hs1))
        clear own2 bel2 C1
        go_wp2
        go_ret2
        exact ResM.nil G.out GB.out
      · have HP := Lib.hid (show 0 < (Tr.rdL [] 0 s).1.length from List.length_pos_iff.2 h3)
        have C2 := fun A n c B w hl hn hB h => isForest_any A n c B (Tr.rdL [] 0 s).1 w hl hn hB h
        have HLL : Hid ((Tr.rdL [] 0 s).1.length = (Tr.trF [] 0 [] s).1.length) := by rw [Hid, e1, List.length_map]
        simp only [← e1] at C1
        cases h4 : isFor (Tr.rdL [] 0 s).1
        · have G := Lib.hid (parseF_bad hd h4)
          simp only [h4] at C2
          clear hs hS hsl hd h2 e2 e1 hbd h3 h4
          go_enter Try.func42, Try.ntmps42
          go_wp2_with fail
          refine C0.mono ?_
          rintro e w1 ⟨A1, q1, c1, rfl, own1, bel1⟩
          have HL1 : Hid ((Tr.trF [] 0 [] s).1.length = q1) := by rw [Hid, ← strs_length]; exact own_len own1
          have HQ : 0 < q1 := by have := HP.out; have := HLL.out; have := HL1.out; omega
          have tq := beq_f (show ¬ (q1 : Int) = 0 by omega)
          have HR1 := Lib.hid (row_of_own own1)
          have hs1 := bel1.size
          have HB1 := Lib.hid bel1
          clear own1 bel1 C0
          go_wp2_with fail
          refine (C1 _ _ _ _ _ HL1.out (Nat.le_refl _) HR1.out).mono ?_
          rintro e w2 ⟨A2, c2, vs2, rfl, own2, bel2⟩
          have HB2 := Lib.hid (HB1.out.trans (bel2.mono hs1))
          have hs2 := HB2.out.size
          have HM2 := Lib.hid own2.mat
          clear own2 bel2 C1
          go_wp2_with fail
          refine (C2 _ _ _ _ _ (by have := HLL.out; have := HL1.out; omega) (by have := HB0.out; have := HLL.out; have := HL1.out; omega) (Nat.le_refl _) HM2.out).mono ?_
          rintro e w3 ⟨rfl, bel3⟩
          have GB := Lib.hid (HB2.out.trans (bel3.mono hs2))
          clear bel3 C2
          go_wp2
          go_ret2
          exact ResM.nil G.out GB.out
        · have G := Lib.hid (parseF_yes hd h2 h3 h4)
          simp only [h4] at C2
          clear hs hS hsl hd h2 e2 e1 hbd h3 h4
          go_enter Try.func42, Try.ntmps42
          go_wp2_with fail
          refine C0.mono ?_
          rintro e w1 ⟨A1, q1, c1, rfl, own1, bel1⟩
          have HL1 : Hid ((Tr.trF [] 0 [] s).1.length = q1) := by rw [Hid, ← strs_length]; exact own_len own1
          have HQ : 0 < q1 := by have := HP.out; have := HLL.out; have := HL1.out; omega
          have tq := beq_f (show ¬ (q1 : Int) = 0 by omega)
          have HR1 := Lib.hid (row_of_own own1)
          have hs1 := bel1.size
          have HB1 := Lib.hid bel1
          clear own1 bel1 C0
          go_wp2_with fail
          refine (C1 _ _ _ _ _ HL1.out (Nat.le_refl _) HR1.out).mono ?_
          rintro e w2 ⟨A2, c2, vs2, rfl, own2, bel2⟩
          have HB2 := Lib.hid (HB1.out.trans (bel2.mono hs1))
          have hs2 := HB2.out.size
          have HM2 := Lib.hid own2.mat
          have HO2 := Lib.hid (own2.more hs1 (Nat.le_refl _))
          clear own2 bel2 C1
          go_wp2_with fail
          refine (C2 _ _ _ _ _ (by have := HLL.out; have := HL1.out; omega) (by have := HB0.out; have := HLL.out; have := HL1.out; omega) (Nat.le_refl _) HM2.out).mono ?_
          rintro e w3 ⟨rfl, bel3⟩
          have GB := Lib.hid (HB2.out.trans (bel3.mono hs2))
          have GO := Lib.hid ((HO2.out.below bel3 (Nat.le_refl _)).more (Nat.le_refl _) bel3.size)
          clear bel3 C2
          go_wp2
          go_ret2
          exact ResM.of G.out HB0.out GO.out GB.out
end Go.Proofs.Ytignimaimflenaa
/-
  The model's text of a tree; what TreeText answers, the program's and the model's.
-/
namespace Go.Proofs.Ytignimaimflenaa
open Go.RowKit Fld
set_option linter.unusedVariables false
set_option linter.unusedSimpArgs false
set_option maxRecDepth 100000

/-- a text beside a code -/
def ResS (r : List UInt8 × Int) (w : World) (e : Ending) (w' : World) : Prop := e = .returned (.tuple #[.string ⟨r.1.toArray⟩, .int .i64 r.2]) ∧ Below w.heap.size w w'
def SText (d : Nat) : Prop := ∀ (A : Option Addr) (n c B : Nat) (t : List Int) (w : World), t.length = n → n ≤ d → Tr.isLv t = true → B ≤ w.heap.size → Row w B A (ints t) →
    Calls Try.prog 116 #[.slice A n c] w fun e w' => e = .returned (.string ⟨(Tr.mt t).toArray⟩) ∧ Below w.heap.size w w'
set_option maxHeartbeats 1000000 in
theorem sText_succ (d : Nat) (IH : SText d) : SText (d + 1) := by
  intro A n c B t w hl hnd hlv hB h
  obtain ⟨_, PS, P7⟩ := Tr.can_parts hlv
  obtain ⟨M1, _, M2⟩ := Tr.mt_parts hlv
  have n8 : n ≤ 8 := by have := (Tr.isLv_iff.1 hlv).2.1; omega
  have HPS := Lib.hid PS
  have HL := Lib.hid hl
  have HM1 := Lib.hid M1
  have hmt : (Tr.mt t).length ≤ 16 := by omega
  have HMT := Lib.hid hmt
  obtain ⟨P, hP⟩ : ∃ P, P = (Tr.partsL t).length := ⟨_, rfl⟩
  have HP : Hid ((Tr.partsL t).length = P) := hP.symm
  have C0 := l03Parts_any A n c B t w hl hlv hB h
  rw [HP.out] at C0
  have hP7 : P ≤ 7 := by rw [hP]; exact P7
  clear hl hlv PS P7 hP M1 M2 hmt
  go_enter Try.func116, Try.ntmps116
  go_wp2_with fail
  refine C0.mono ?_
  rintro e w1 ⟨Ap, cp, pvs, rfl, ownp, belp⟩
  have HMP : Hid (Mat w1 w1.heap.size Ap (Tr.partsL t)) := ownp.mat
  have HB1 := Lib.hid belp
  have hs1 := belp.size
  clear ownp belp C0
  go_wp2_with fail
  go_loopw [3, 5] (fun v i wr => ∃ (k : Nat) (T : List UInt8), k ≤ P ∧ v = .string ⟨T.toArray⟩ ∧ i = .int .i64 k ∧ Hid (T = 91 :: (((Tr.partsL t).take k).map Tr.mt).flatten) ∧ Below w1.heap.size w1 wr) (fun _ i _ => P - (intOf i).toNat)
  case atStart => exact ⟨0, [91], Nat.zero_le _, rfl, rfl, rfl, Below.refl _ _⟩
  case round =>
    obtain ⟨k, T, hk, rfl, rfl, HT, HB⟩ := hrel
    have hsz := HB.size
    by_cases hlt : k < P
    · obtain ⟨p, hp⟩ := at_lt (show k < (Tr.partsL t).length by rw [HP.out]; exact hlt)
      obtain ⟨bp, op, Ak, ck, rfl, hbp, hcp, hlc, hcm, hrp⟩ := HMP.out.below HB (Nat.le_refl _) k p hp
      obtain ⟨hpl, hpt⟩ := HPS.out p (List.mem_of_getElem? hp)
      have hpt2 : p.length ≤ d := by have := HL.out; omega
      have hpm := (Tr.mt_parts hpl).2.2
      have hp8 : p.length ≤ 8 := (Tr.isLv_iff.1 hpl).2.1
      have hT : T.length ≤ 16 := by
        have h1 := flat_le ((Tr.partsL t).map Tr.mt) k
        have h2 := HMT.out
        rw [HM1.out, Tr.wrap, List.length_cons, List.length_append] at h2
        rw [← List.map_take] at h1
        rw [HT.out, List.length_cons]; omega
      have HTN : Hid (T ++ Tr.mt p = 91 :: (((Tr.partsL t).take (k + 1)).map Tr.mt).flatten) := by
        rw [Hid, HT.out, List.take_add_one, hp]; simp
      have C1 := IH Ak p.length ck w1.heap.size p wr rfl hpt2 hpl (by omega) hrp
      obtain ⟨M, hM⟩ : ∃ M, M = Tr.mt p := ⟨_, rfl⟩
      rw [← hM] at C1 HTN hpm
      have hm16 : M.length ≤ 16 := by omega
      have HBB := Lib.hid HB
      clear hp hpt hpl hpm hM hrp HB
      go_wp2_with fail
      refine C1.mono ?_
      rintro e w2 ⟨rfl, bel2⟩
      have GB := Lib.hid (HBB.out.trans (bel2.mono hsz))
      have GE : Hid ((⟨T.toArray⟩ : ByteArray) ++ ⟨M.toArray⟩ = ⟨(T ++ M).toArray⟩) := ByteArray.mk_append_mk T M
      clear bel2 C1
      go_wp2
      go_roundw
      case rel => exact ⟨k + 1, T ++ M, by omega, by rw [GE.out], by go_num, HTN, GB.out⟩
      case measure => simp [intOf]; omega
    · obtain rfl : k = P := by omega
      have HTE : Hid (T ++ [93] = Tr.mt t) := by
        rw [Hid, HM1.out, HT.out, ← HP.out, List.take_length]; rfl
      have hT : T.length ≤ 16 := by
        have h2 := HMT.out
        rw [← HTE.out, List.length_append] at h2; simp at h2; omega
      have GE : Hid ((⟨T.toArray⟩ : ByteArray) ++ ⟨#[93]⟩ = ⟨(Tr.mt t).toArray⟩) := by
        rw [Hid, show (ByteArray.mk #[93]) = ⟨([93] : List UInt8).toArray⟩ from rfl, ByteArray.mk_append_mk, HTE.out]
      have GB := Lib.hid (HB1.out.trans (HB.mono hs1))
      clear HB
      go_wp2
      go_ret
      refine ⟨?_, GB.out⟩
      rw [← GE.out]
      rfl
theorem sText_upto : ∀ d, SText d
  | 0 => fun A n c B t w hl hd hlv => by have := (Tr.isLv_iff.1 hlv).1; omega
  | d+1 => sText_succ d (sText_upto d)
theorem l03Text_any (A : Option Addr) (n c B : Nat) (t : List Int) (w : World) (hl : t.length = n) (hlv : Tr.isLv t = true) (hB : B ≤ w.heap.size) (h : Row w B A (ints t)) :
    Calls Try.prog 116 #[.slice A n c] w fun e w' => e = .returned (.string ⟨(Tr.mt t).toArray⟩) ∧ Below w.heap.size w w' := sText_upto n A n c B t w hl (Nat.le_refl _) hlv hB h
def textA (t : List Int) : List UInt8 × Int := if Tr.isLv t = true then (Tr.txt t, 0) else ([], 1)
theorem textA_yes {t : List Int} (h : Tr.isLv t = true) : textA t = (Tr.txt t, 0) := if_pos h
theorem textA_no {t : List Int} (h : Tr.isLv t = false) : textA t = ([], 1) := if_neg (by rw [h]; simp)
theorem ResS.of {r : List UInt8 × Int} {w w' : World} {l : List UInt8} {k : Int} (h : r = (l, k)) (hb : Below w.heap.size w w') : ResS r w (.returned (.tuple #[.string ⟨l.toArray⟩, .int .i64 k])) w' := by
  subst h; exact ⟨rfl, hb⟩
end Go.Proofs.Ytignimaimflenaa
/-
  The texts of forests.
-/
namespace Go.Proofs.Ytignimaimflenaa
open Go.RowKit Fld
set_option linter.unusedVariables false
set_option linter.unusedSimpArgs false
set_option maxRecDepth 100000

def showA (f : List (List Int)) : List UInt8 := if f.length = 0 then [45] else (f.map Tr.txt).flatten
def ftxtA (f : List (List Int)) : List UInt8 × Int := if isFor f = true then (showA f, 0) else ([], 1)
theorem ftxtA_yes {f : List (List Int)} (h : isFor f = true) : ftxtA f = (showA f, 0) := if_pos h
theorem ftxtA_no {f : List (List Int)} (h : isFor f = false) : ftxtA f = ([], 1) := if_neg (by rw [h]; simp)
theorem ResS.of' {r : List UInt8 × Int} {x : List UInt8} {k : Int} {Z : ByteArray} {w w' : World} (h : r = (x, k)) (hz : Z = ⟨x.toArray⟩) (hb : Below w.heap.size w w') : ResS r w (.returned (.tuple #[.string Z, .int .i64 k])) w' := by
  subst h hz; exact ⟨rfl, hb⟩
theorem for_mt {r : List Int} (h : isTr r = true) : Tr.mt r = Tr.txt r := by
  obtain ⟨h1, h2⟩ := tr_lv h
  have := (Tr.mt_parts h1).2.1
  rw [h2] at this; exact this
set_option maxHeartbeats 1000000 in
theorem l03Show_any (A : Option Addr) (n c B : Nat) (f : List (List Int)) (w : World) (hl : f.length = n) (hf : isFor f = true) (hB : B ≤ w.heap.size) (h : Mat w B A f) :
    Calls Try.prog 83 #[.slice A n c] w fun e w' => e = .returned (.string ⟨(showA f).toArray⟩) ∧ Below w.heap.size w w' := by
  have HL := Lib.hid hl
  have HR := Lib.hid (for_rows hf)
  have hlv : ∀ r ∈ f, Tr.isLv r = true := fun r hr => (tr_lv (HR.out r hr)).1
  have h8 := for_total hf
  have hn8 : n ≤ 8 := by
    have := len_total (f := f) (fun r hr => (lv_bd (hlv r hr)).1)
    omega
  have HFL : Hid ((f.map Tr.txt).flatten.length ≤ 16) := by rw [Hid, flat_txt hlv]; omega
  have HZ : Hid (n ≠ 0 → (f.map Tr.txt).flatten ≠ []) := fun hn0 e => by
    have h1 := flat_txt hlv
    rw [e] at h1
    have h2 := len_total (f := f) (fun r hr => (lv_bd (hlv r hr)).1)
    simp at h1; omega
  clear hl hf hlv h8
  go_enter Try.func83, Try.ntmps83
  go_wp2_with fail
  go_loopw [3, 4] (fun v i wr => ∃ (k : Nat) (T : List UInt8), k ≤ n ∧ v = .string ⟨T.toArray⟩ ∧ i = .int .i64 k ∧ Hid (T = ((f.take k).map Tr.txt).flatten) ∧ Below w.heap.size w wr) (fun _ i _ => n - (intOf i).toNat)
  case atStart => exact ⟨0, [], Nat.zero_le _, rfl, rfl, rfl, Below.refl _ _⟩
  case round =>
    obtain ⟨k, T, hk, rfl, rfl, HT, HBw⟩ := hrel
    have hsz := HBw.size
    by_cases hlt : k < n
    · obtain ⟨r, hr⟩ := at_lt (show k < f.length by rw [HL.out]; exact hlt)
      obtain ⟨b, o, Ak, ck, rfl, hb, hc, hrc, hcm, hrow⟩ := (h.below HBw hB) k r hr
      have htr := HR.out r (List.mem_of_getElem? hr)
      have hlv := (tr_lv htr).1
      obtain ⟨r1, r8⟩ := lv_bd hlv
      have hpm := (lv_txt hlv).2.2.2
      have hT : T.length ≤ 16 := by
        have h1 := flat_le (f.map Tr.txt) k
        rw [← List.map_take, ← HT.out] at h1
        have h2 := HFL.out; omega
      have HTN : Hid (T ++ Tr.txt r = ((f.take (k + 1)).map Tr.txt).flatten) := by
        rw [Hid, HT.out, List.take_add_one, hr]; simp
      have C1 := l03Text_any Ak r.length ck B r wr rfl hlv (by omega) hrow
      rw [for_mt htr] at C1
      obtain ⟨M, hM⟩ : ∃ M, M = Tr.txt r := ⟨_, rfl⟩
      rw [← hM] at C1 HTN hpm
      have hm16 : M.length ≤ 16 := by omega
      have HBB := Lib.hid HBw
      clear hr hpm hM hrow HBw htr hlv
      go_wp2_with fail
      refine C1.mono ?_
      rintro e w2 ⟨rfl, bel2⟩
      have GB := Lib.hid (HBB.out.trans (bel2.mono hsz))
      have GE : Hid ((⟨T.toArray⟩ : ByteArray) ++ ⟨M.toArray⟩ = ⟨(T ++ M).toArray⟩) := ByteArray.mk_append_mk T M
      clear bel2 C1
      go_wp2
      go_roundw
      case rel => exact ⟨k + 1, T ++ M, by omega, by rw [GE.out], by go_num, HTN, GB.out⟩
      case measure => simp [intOf]; omega
    · obtain rfl : k = n := by omega
      have HTE : Hid (T = (f.map Tr.txt).flatten) := by
        rw [Hid, HT.out, ← HL.out, List.take_length]
      have GB := Lib.hid HBw
      clear HBw
      by_cases h0 : k = 0
      · have e : T = [] := by
          have := HT.out
          rw [h0] at this
          simpa using this
        have HS : Hid (showA f = [45]) := by unfold showA; rw [Hid, if_pos (by rw [HL.out]; exact h0)]
        subst e
        clear h0 HT HTE
        go_wp2
        go_ret
        exact ⟨by rw [HS.out]; rfl, GB.out⟩
      · have HS : Hid (showA f = T) := by unfold showA; rw [Hid, if_neg (by rw [HL.out]; exact h0), HTE.out]
        have hne : T ≠ [] := by rw [HTE.out]; exact HZ.out h0
        obtain ⟨Z, hZ⟩ : ∃ Z : ByteArray, Z = ⟨T.toArray⟩ := ⟨_, rfl⟩
        have HZZ : Hid (Z = ⟨(showA f).toArray⟩) := by rw [Hid, HS.out]; exact hZ
        have tz : Z.toList.isEmpty = false := by
          rw [hZ, ByteArray.toList_mk]
          cases hT : T with
          | nil => exact absurd hT hne
          | cons a l => rfl
        rw [← hZ]
        clear h0 HT HTE hne hZ
        go_wp2
        go_ret
        exact ⟨congrArg (fun z => Ending.returned (Value.string z)) HZZ.out, GB.out⟩
theorem pForestText_L (A : Option Addr) (n c B : Nat) (f : List (List Int)) (w : World) (hl : f.length = n) (hn : n + total f ≤ 1048576) (hB : B ≤ w.heap.size) (h : Mat w B A f) :
    Calls Try.prog 41 #[.slice A n c] w (ResS (ftxtA f) w) := by
  have C0 := isForest_any A n c B f w hl hn hB h
  cases hf : isFor f
  · have G := Lib.hid (ftxtA_no hf)
    rw [hf] at C0
    clear hl
    go_enter Try.func41, Try.ntmps41
    go_wp2_with fail
    refine C0.mono ?_
    rintro e w' ⟨rfl, bel⟩
    have GB := Lib.hid bel
    clear bel
    go_wp2
    go_ret2
    exact ResS.of' G.out rfl GB.out
  · have G := Lib.hid (ftxtA_yes hf)
    rw [hf] at C0
    have HL := Lib.hid hl
    have hlv : ∀ r ∈ f, Tr.isLv r = true := fun r hr => (tr_lv (for_rows hf r hr)).1
    have h8 := for_total hf
    have HLV := Lib.hid hlv
    have hfl := flat_txt hlv
    have HFL : Hid ((f.map Tr.txt).flatten.length ≤ 1048576) := by rw [Hid, hfl]; omega
    have hn' : n ≤ 1048576 := by omega
    by_cases h0 : n = 0
    · have HS : Hid (showA f = [45]) := by unfold showA; rw [Hid, if_pos (by rw [HL.out]; exact h0)]
      subst h0
      clear hl hf hlv h8 hfl hn
      go_enter Try.func41, Try.ntmps41
      go_wp2_with fail
      refine C0.mono ?_
      rintro e w' ⟨rfl, bel⟩
      have GB := Lib.hid bel
      clear bel
      go_wp2
      go_ret2
      exact ResS.of' G.out (by rw [HS.out]) GB.out
    · have HS : Hid (showA f = (f.map Tr.txt).flatten) := by unfold showA; rw [Hid, if_neg (by rw [HL.out]; exact h0)]
      have t0 : ((n : Int) == 0) = false := beq_f (by omega)
      clear hl hf hlv h8 hfl hn h0
      go_enter Try.func41, Try.ntmps41
      go_wp2_with fail
      refine C0.mono ?_
      rintro e w1 ⟨rfl, bel⟩
      have hs := bel.size
      have HB1 := Lib.hid bel
      have hM := h.below bel hB
      clear bel
      go_wp2_with fail
      refine (treesOf_any A n c B f w1 HL.out hn' HLV.out (by omega) hM).mono ?_
      rintro e w2 ⟨rfl, own2, bel2⟩
      have hs2 := bel2.size
      have HB2 := Lib.hid (HB1.out.trans (bel2.mono hs))
      have HO2 := Lib.hid own2
      clear own2 bel2 hM
      go_wp2_with fail
      refine (textOf_any _ n n w2.heap.size (f.map Tr.txt) w2 (by rw [List.length_map]; exact HL.out) hn' HFL.out (Nat.le_refl _) (row_of_own HO2.out)).mono ?_
      rintro e w3 ⟨rfl, bel3⟩
      have GB := Lib.hid (HB2.out.trans (bel3.mono (by omega)))
      obtain ⟨Z, hZ⟩ : ∃ Z : ByteArray, Z = ⟨((f.map Tr.txt).flatten).toArray⟩ := ⟨_, rfl⟩
      have HZZ : Hid (Z = ⟨(showA f).toArray⟩) := by rw [Hid, HS.out]; exact hZ
      rw [← hZ]
      clear bel3 hZ
      go_wp2
      go_ret2
      exact ResS.of' G.out HZZ.out GB.out
end Go.Proofs.Ytignimaimflenaa
/-
  Texts of forests are read back, and texts that are read are written again; products of forests, sorted.
-/
namespace Go.Proofs.Ytignimaimflenaa.Tr
set_option maxRecDepth 100000

/-- a text that closes what is open, and no more -/
def okB : Nat → List UInt8 → Bool
  | o, [] => o == 0
  | o, c :: r => if c = 91 then decide (0 < o) && okB (o + 1) r else if c = 93 then decide (0 < o) && okB (o - 1) r else false
theorem rd_okB : ∀ (x y : List UInt8) (out : List (List Int)) (r : List Int) (o : Nat), okB o x = true → rdL (out ++ [r]) o (x ++ y) = rdL (out ++ [r ++ lvlF o x]) 0 y
  | [], y, out, r, o, h => by
    have : o = 0 := by simpa [okB] using h
    subst this
    simp [lvlF]
  | c :: x, y, out, r, o, h => by
    rw [okB] at h
    by_cases h91 : c = 91
    · rw [if_pos h91, Bool.and_eq_true] at h
      have ho : 0 < o := by simpa using h.1
      rw [List.cons_append, rdL, if_pos h91, addNode_last _ _ (by omega), rd_okB x y _ _ _ h.2, lvlF, if_pos h91]
      have e : ((o : Int) + 1 - 1) = o := by omega
      have e2 : ((o + 1 : Nat) : Int) = (o : Int) + 1 := by omega
      rw [e, e2, List.append_assoc]; rfl
    · rw [if_neg h91] at h
      by_cases h93 : c = 93
      · rw [if_pos h93, Bool.and_eq_true] at h
        have ho : 0 < o := by simpa using h.1
        rw [List.cons_append, rdL, if_neg h91, if_pos ⟨h93, ho⟩, rd_okB x y _ _ _ h.2, lvlF, if_neg h91]
        have e : ((o - 1 : Nat) : Int) = (o : Int) - 1 := by omega
        rw [e]
      · rw [if_neg h93] at h; cases h
def chkU (t : List Int) : Bool := match txt t with
  | c :: x => c == 91 && okB 1 x
  | [] => false
theorem chkU_all : allLv.all chkU = true := by decide +kernel
theorem rd_txt {t : List Int} (h : isLv t = true) (out : List (List Int)) (y : List UInt8) : rdL out 0 (txt t ++ y) = rdL (out ++ [lvl (txt t)]) 0 y := by
  have h1 := all_of chkU_all (isLv_iff.1 h)
  unfold chkU at h1
  cases e : txt t with
  | nil => rw [e] at h1; cases h1
  | cons c x =>
    rw [e] at h1
    simp only [Bool.and_eq_true, beq_iff_eq] at h1
    obtain ⟨rfl, h2⟩ := h1
    rw [List.cons_append, rdL, if_pos rfl]
    have e1 : addNode out (((0 : Nat) : Int) + 1) = out ++ [[0]] := addNode_new out
    rw [e1, rd_okB x y out [0] 1 h2]
    unfold lvl
    rw [lvlF, if_pos rfl]; rfl
theorem rd_texts : ∀ (f out : List (List Int)) (y : List UInt8), (∀ t ∈ f, isLv t = true ∧ can t = t) → rdL out 0 ((f.map txt).flatten ++ y) = rdL (out ++ f) 0 y
  | [], out, y, _ => by simp
  | t :: f, out, y, h => by
    obtain ⟨h1, h2⟩ := h t (by simp)
    have h3 := all_of chk1_all (isLv_iff.1 h1)
    unfold chk1 at h3
    simp only [Bool.and_eq_true, beq_iff_eq] at h3
    rw [List.map_cons, List.flatten_cons, List.append_assoc, rd_txt h1, h3.1.1.1, h2, rd_texts f _ y (fun x hx => h x (by simp [hx])), List.append_assoc]
    rfl
theorem rd_lv : ∀ (s : List UInt8) (out : List (List Int)) (o : Nat), (0 < o → out ≠ []) → (rdL out o s).2 = true → (rdL out o s).1.flatten = out.flatten ++ lvlF o s ∧ lvE o s = 0 ∧ ∀ c ∈ s, c = 91 ∨ c = 93
  | [], out, o, h0, h => by
    rw [rdL] at h ⊢
    have : o = 0 := by simpa using h
    exact ⟨by simp [lvlF], by rw [this]; rfl, fun c hc => by cases hc⟩
  | c :: s, out, o, h0, h => by
    rw [rdL] at h ⊢
    rw [lvlF, lvE]
    by_cases h91 : c = 91
    · rw [if_pos h91] at h ⊢
      rw [if_pos h91, if_pos h91]
      have e2 : ((o + 1 : Nat) : Int) = (o : Int) + 1 := by omega
      by_cases ho : o = 0
      · subst ho
        have e : addNode out (((0 : Nat) : Int) + 1) = out ++ [[0]] := addNode_new out
        rw [e] at h ⊢
        have ih := rd_lv s (out ++ [[0]]) (0 + 1) (fun _ => by simp) h
        rw [e2] at ih
        refine ⟨?_, ih.2.1, ?_⟩
        · rw [ih.1, List.flatten_append, List.append_assoc]; rfl
        · intro d hd
          rw [List.mem_cons] at hd
          rcases hd with rfl | hd
          · exact .inl h91
          · exact ih.2.2 d hd
      · rcases List.eq_nil_or_concat out with e0 | ⟨l, r, e0⟩
        · exact absurd e0 (h0 (by omega))
        · rw [List.concat_eq_append] at e0
          subst e0
          rw [addNode_last _ _ (by omega)] at h ⊢
          have ih := rd_lv s (l ++ [r ++ [(o : Int) + 1 - 1]]) (o + 1) (fun _ => by simp) h
          rw [e2] at ih
          refine ⟨?_, ih.2.1, ?_⟩
          · have e3 : (o : Int) + 1 - 1 = o := by omega
            rw [ih.1, e3]
            simp
          · intro d hd
            rw [List.mem_cons] at hd
            rcases hd with rfl | hd
            · exact .inl h91
            · exact ih.2.2 d hd
    · rw [if_neg h91] at h ⊢
      rw [if_neg h91, if_neg h91]
      by_cases h93 : c = 93 ∧ 0 < o
      · rw [if_pos h93] at h ⊢
        have ih := rd_lv s out (o - 1) (fun _ => h0 h93.2) h
        have e : ((o - 1 : Nat) : Int) = (o : Int) - 1 := by omega
        rw [e] at ih
        refine ⟨ih.1, ih.2.1, ?_⟩
        intro d hd
        rw [List.mem_cons] at hd
        rcases hd with rfl | hd
        · exact .inr h93.1
        · exact ih.2.2 d hd
      · rw [if_neg h93] at h; cases h
theorem head_le : ∀ (y : List UInt8) (m l : Int) (r : List Int), lvlF m y = l :: r → l ≤ m
  | [], m, l, r, h => by simp [lvlF] at h
  | c :: y, m, l, r, h => by
    rw [lvlF] at h
    by_cases h91 : c = 91
    · rw [if_pos h91] at h; injection h with h; omega
    · rw [if_neg h91] at h
      have := head_le y _ _ _ h; omega
theorem lvE_none : ∀ (y : List UInt8) (m : Int), lvlF m y = [] → lvE m y = m - y.length
  | [], m, _ => by simp [lvE]
  | c :: y, m, h => by
    rw [lvlF] at h
    rw [lvE]
    by_cases h91 : c = 91
    · rw [if_pos h91] at h; cases h
    · rw [if_neg h91] at h ⊢
      rw [lvE_none y _ h, List.length_cons]; omega
theorem brk_eq : ∀ (x y : List UInt8) (l : Int), (∀ c ∈ x, c = 91 ∨ c = 93) → (∀ c ∈ y, c = 91 ∨ c = 93) → lvlF l x = lvlF l y → lvE l x = lvE l y → x = y
  | [], [], _, _, _, _, _ => rfl
  | [], d :: y, l, _, _, h, e => by
    have h1 := lvE_none (d :: y) l h.symm
    rw [← e, lvE, List.length_cons] at h1; omega
  | c :: x, [], l, _, _, h, e => by
    have h1 := lvE_none (c :: x) l h
    rw [e, lvE, List.length_cons] at h1; omega
  | c :: x, d :: y, l, hx, hy, h, e => by
    have hx' : ∀ c ∈ x, c = 91 ∨ c = 93 := fun z hz => hx z (by simp [hz])
    have hy' : ∀ c ∈ y, c = 91 ∨ c = 93 := fun z hz => hy z (by simp [hz])
    rw [lvlF, lvlF] at h
    rw [lvE, lvE] at e
    by_cases c91 : c = 91
    · rw [if_pos c91] at h e
      by_cases d91 : d = 91
      · rw [if_pos d91] at h e
        injection h with _ h
        rw [c91, d91, brk_eq x y (l + 1) hx' hy' h e]
      · rw [if_neg d91] at h
        have := head_le y (l - 1) l _ h.symm; omega
    · rw [if_neg c91] at h e
      by_cases d91 : d = 91
      · rw [if_pos d91] at h
        have := head_le x (l - 1) l _ h; omega
      · rw [if_neg d91] at h e
        have c93 : c = 93 := (hx c (by simp)).resolve_left c91
        have d93 : d = 93 := (hy d (by simp)).resolve_left d91
        rw [c93, d93, brk_eq x y (l - 1) hx' hy' h e]
/-- what is read and made of trees is written again -/
theorem rd_write {s : List UInt8} (h : (rdL [] 0 s).2 = true) (hf : ∀ t ∈ (rdL [] 0 s).1, isLv t = true ∧ can t = t) : ((rdL [] 0 s).1.map txt).flatten = s := by
  obtain ⟨f, hfe⟩ : ∃ f, f = (rdL [] 0 s).1 := ⟨_, rfl⟩
  have h1 := rd_lv s [] 0 (by omega) h
  rw [← hfe] at hf h1 ⊢
  have e := rd_texts f [] [] hf
  rw [List.append_nil, List.nil_append] at e
  have e2 : rdL f 0 [] = (f, true) := rfl
  rw [e2] at e
  have h2 := rd_lv (f.map txt).flatten [] 0 (by omega) (by rw [e])
  rw [e] at h2
  refine (brk_eq _ _ 0 h2.2.2 h1.2.2 ?_ (h2.2.1.trans h1.2.1.symm))
  have a := h1.1
  have b := h2.1
  simp only [List.flatten_nil, List.nil_append] at a b
  exact b.symm.trans a
end Go.Proofs.Ytignimaimflenaa.Tr
namespace Go.Proofs.Ytignimaimflenaa
open Go.RowKit Fld
set_option linter.unusedVariables false
set_option linter.unusedSimpArgs false
set_option maxRecDepth 100000

theorem isFor_sort {L : List (List Int)} (hL : ∀ s ∈ L, isTr s = true) (h8 : total L ≤ 8) : isFor (Tr.sortL L) = true := by
  have hp := sortL_perm hL
  have hs : (Tr.sortL L).Pairwise (fun a b => Tr.leT (Tr.txt a) (Tr.txt b) = true) := (fold_ins L [] hL (fun s hs => by cases hs) List.Pairwise.nil).1
  have hT : ∀ s ∈ Tr.sortL L, isTr s = true := fun s hs => hL s (hp.mem_iff.1 hs)
  have ht := total_perm hp
  generalize Tr.sortL L = S at *
  unfold isFor
  rw [Bool.and_eq_true]
  refine ⟨?_, decide_eq_true (by rw [ht]; exact h8)⟩
  unfold okTo
  rw [List.all_eq_true]
  intro k hk
  rw [List.mem_range] at hk
  have e : S.getD k [] = S[k] := by rw [List.getD_eq_getElem?_getD, List.getElem?_eq_getElem hk]; rfl
  unfold okAt
  rw [e, Bool.and_eq_true]
  refine ⟨hT _ (List.getElem_mem hk), ?_⟩
  by_cases h0 : k = 0
  · rw [decide_eq_true h0]; rfl
  · have hk1 : k - 1 < S.length := by omega
    have e1 : S.getD (k - 1) [] = S[k - 1] := by rw [List.getD_eq_getElem?_getD, List.getElem?_eq_getElem hk1]; rfl
    have h1 := List.pairwise_iff_getElem.1 hs (k - 1) k hk1 hk (by omega)
    rw [leT_tr (hT _ (List.getElem_mem hk1)) (hT _ (List.getElem_mem hk))] at h1
    rw [e1, h1, Bool.or_true]
theorem sortL_swap {L M : List (List Int)} (hL : ∀ s ∈ L, isTr s = true) (hp : L.Perm M) : Tr.sortL L = Tr.sortL M := by
  rw [← sortL_text hL, ← sortL_text (L := M) (fun s hs => hL s (hp.mem_iff.2 hs))]
  congr 1
  exact List.Perm.eq_of_pairwise (le := fun a b => Tr.leT a b = true) (fun a b _ _ h k => Tr.leT_as h k) (sortT_sorted _) (sortT_sorted _) ((sortT_perm _).trans ((hp.map Tr.txt).trans (sortT_perm _).symm))
theorem can_map {L : List (List Int)} (hL : ∀ s ∈ L, isTr s = true) : L.map Tr.can = L :=
  (List.map_congr_left fun t ht => (tr_lv (hL t ht)).2).trans (List.map_id' _)
theorem showA_nil {f : List (List Int)} (h : f = []) : showA f = [45] := by subst h; rfl
theorem showA_some {f : List (List Int)} (h : f ≠ []) : showA f = (f.map Tr.txt).flatten := by
  unfold showA; rw [if_neg (fun e => h (List.eq_nil_of_length_eq_zero e))]
theorem showA_len {f : List (List Int)} (h : isFor f = true) : (showA f).length ≤ 16 := by
  by_cases h0 : f = []
  · rw [showA_nil h0]; simp
  · rw [showA_some h0, flat_txt (fun r hr => (tr_lv (for_rows h r hr)).1)]
    have := for_total h; omega
theorem write_read {p : List (List Int)} (hp : isFor p = true) : parseFB (showA p) = (p, 0) := by
  by_cases h0 : p = []
  · rw [showA_nil h0, parseF_dash rfl, h0]
  · rw [showA_some h0]
    have hl : ∀ t ∈ p, Tr.isLv t = true ∧ Tr.can t = t := fun t ht => tr_lv (for_rows hp t ht)
    have e := Tr.rd_texts p [] [] hl
    rw [List.append_nil, List.nil_append] at e
    have e2 : Tr.rdL p 0 [] = (p, true) := rfl
    rw [e2] at e
    have hne : (p.map Tr.txt).flatten ≠ [45] := fun h9 => by
      have h8 := flat_txt (fun t ht => (hl t ht).1)
      rw [h9] at h8
      simp at h8; omega
    have := parseF_yes hne (by rw [e]) (by rw [e]; exact h0) (by rw [e]; exact hp)
    rw [e] at this
    exact this
theorem parse_cases (s : List UInt8) : (∃ k : Int, k ≠ 0 ∧ parseFB s = ([], k)) ∨ (∃ h, parseFB s = (h, 0) ∧ isFor h = true ∧ ftxtA h = (s, 0)) := by
  by_cases hd : s = [45]
  · refine .inr ⟨[], parseF_dash hd, by decide +kernel, ?_⟩
    rw [ftxtA_yes (by decide +kernel), showA_nil rfl, hd]
  · cases h2 : (Tr.rdL [] 0 s).2
    · exact .inl ⟨6, by omega, parseF_no hd h2⟩
    · by_cases h3 : (Tr.rdL [] 0 s).1 = []
      · exact .inl ⟨6, by omega, parseF_nil hd h3⟩
      · cases h4 : isFor (Tr.rdL [] 0 s).1
        · exact .inl ⟨6, by omega, parseF_bad hd h4⟩
        · refine .inr ⟨_, parseF_yes hd h2 h3 h4, h4, ?_⟩
          rw [ftxtA_yes h4, showA_some h3, Tr.rd_write h2 (fun t ht => tr_lv (for_rows h4 t ht))]
theorem times_cases (f g : List (List Int)) : (∃ k : Int, k ≠ 0 ∧ timesA f g = ([], k)) ∨ (∃ p, timesA f g = (p, 0) ∧ timesA g f = (p, 0) ∧ forestA (f ++ g) = (p, 0) ∧ isFor p = true ∧ p.length = f.length + g.length ∧ p.length + total p ≤ 16 ∧ ftxtA p = (showA p, 0) ∧ (showA p).length ≤ 16 ∧ parseFB (showA p) = (p, 0)) := by
  cases hf : isFor f
  · exact .inl ⟨1, by omega, timesA_no1 hf⟩
  · cases hg : isFor g
    · exact .inl ⟨1, by omega, timesA_no2 hg⟩
    · by_cases h8 : total f + total g ≤ 8
      · have hL : ∀ s ∈ f ++ g, isTr s = true := fun s hs => by
          rw [List.mem_append] at hs
          rcases hs with hs | hs
          · exact for_rows hf s hs
          · exact for_rows hg s hs
        have ht : total (f ++ g) ≤ 8 := by rw [total_app]; exact h8
        have hp := isFor_sort hL ht
        have hlv : allLvM (f ++ g) = true := by
          unfold allLvM
          rw [List.all_eq_true]
          exact fun s hs => (tr_lv (hL s hs)).1
        have hsz := times_size hf hg h8
        have htp := total_perm (sortL_perm hL)
        refine .inr ⟨Tr.sortL (f ++ g), timesA_yes hf hg h8, ?_, ?_, hp, hsz.2.1, by rw [htp, total_app]; omega, ftxtA_yes hp, showA_len hp, write_read hp⟩
        · rw [timesA_yes hg hf (by omega), sortL_swap (L := g ++ f) (fun s hs => hL s (by rw [List.mem_append] at hs ⊢; exact hs.symm)) List.perm_append_comm]
        · rw [forestA_yes hlv ht, can_map hL]
      · exact .inl ⟨3, by omega, timesA_big hf hg h8⟩
end Go.Proofs.Ytignimaimflenaa
/-
  The draw of a forest's text, damaged or not.
-/
namespace Go.Proofs.Ytignimaimflenaa
open Go.RowKit Fld
set_option linter.unusedVariables false
set_option linter.unusedSimpArgs false
set_option maxRecDepth 100000

def DrawnS9 (w : World) (e : Ending) (w' : World) : Prop := ∃ t : List UInt8, e = .returned (.string ⟨t.toArray⟩) ∧ t.length ≤ 17 ∧ Below w.heap.size w w'
set_option maxHeartbeats 2000000 in
theorem drawParseForest_any (A : Option Addr) (n c : Nat) (xs : List Int) (w : World) (hn : n ≤ 4096) (hx : IsCode w A n xs) : Calls Try.prog 45 #[.slice A n c] w (DrawnS9 w) := by
  obtain ⟨hl, h, hx⟩ := hx
  go_enter Try.func45, Try.ntmps45
  go_wp2_with fail
  refine (l01From_any A n c w.heap.size xs w hl hn (Nat.le_refl _) h hx).mono ?_
  rintro e w1 ⟨G, rfl, hG, s1, b1⟩
  have HG1 := s1.lt
  clear h hx hl
  go_wp2_with fail
  refine (l03DrawForest_any G w.heap.size xs 8 _ (by omega) s1).mono ?_
  rintro e w2 ⟨b, o, c2, L, rfl, hc2, hL, hT, hR, s2, o2⟩
  have HF := Lib.hid (isFor_sort hL hT)
  have HS := Lib.hid (showA_len HF.out)
  have HM := Lib.hid hR.rwsL.mat
  have G2 := Lib.hid (below_only b1 o2 b1.size hG)
  have S2 := Lib.hid s2
  clear hR s1 s2 o2 b1 hL hT
  generalize Tr.sortL L = S at *
  go_wp2_with fail
  refine (l03Show_any (some ⟨b, o, none⟩) S.length c2 _ S _ rfl HF.out (Nat.le_refl _) HM.out).mono ?_
  rintro e w3 ⟨rfl, b3⟩
  have S3 := Lib.hid (S2.out.below b3)
  have G3 := Lib.hid (G2.out.trans (b3.mono G2.out.size))
  obtain ⟨T, hT⟩ : ∃ T, T = showA S := ⟨_, rfl⟩
  rw [← hT] at HS ⊢
  have hTl := HS.out
  clear b3 HM S2 G2 hT HF HS
  have s3 := S3.out
  clear S3
  go_wp2_with fail
  refine (l01Next_any G w.heap.size xs _ _ (by omega) s3).mono ?_
  rintro e w4 ⟨r, rfl, q0, q1, s4, o4⟩
  have G4 := Lib.hid (below_only G3.out o4 G3.out.size hG)
  clear o4 G3
  by_cases hr : r = 0
  · subst hr
    have S4 := s4
    clear s4
    go_wp2_with fail
    refine (l01Damage_any G w.heap.size xs T _ (by omega) S4).mono ?_
    rintro e w5 ⟨u, rfl, hu, s5, o5⟩
    have G5 := Lib.hid (below_only G4.out o5 G4.out.size hG)
    clear o5 s5 G4
    go_wp2
    go_ret
    exact ⟨u, rfl, by omega, G5.out⟩
  · have t0 : (r == 0) = false := beq_f hr
    clear s4
    go_wp2
    go_ret
    exact ⟨T, rfl, by omega, G4.out⟩
end Go.Proofs.Ytignimaimflenaa
/-
  The laws' comparison of lists; lists in memory.
-/
namespace Go.Proofs.Ytignimaimflenaa
open Go.RowKit Fld
set_option linter.unusedVariables false
set_option linter.unusedSimpArgs false
set_option maxRecDepth 100000

set_option maxHeartbeats 400000 in
theorem likeInts_any (A A' : Option Addr) (n n' c c' B B' : Nat) (xs ys : List Int) (w : World) (hl : xs.length = n) (hl' : ys.length = n') (hn : n ≤ 9223372036854775807) (hn' : n' ≤ 9223372036854775807) (h : Row w B A (ints xs)) (h' : Row w B' A' (ints ys)) :
    Calls Try.prog 82 #[.slice A n c, .slice A' n' c'] w fun e w' => e = .returned (.bool (eqL xs ys)) ∧ ∃ m, w' = w.drewN m := by
  have HL := Lib.hid hl
  have HL' := Lib.hid hl'
  clear hl hl'
  by_cases hnn : n = n'
  · subst hnn
    go_enter Try.func82, Try.ntmps82
    go_wp2_with fail
    go_loopw [5] (fun i wr => ∃ k m : Nat, k ≤ n ∧ i = .int .i64 k ∧ wr = w.drewN m ∧ Hid (xs.take k = ys.take k)) (fun i _ => n - (intOf i).toNat)
    case atStart => exact ⟨0, 0, Nat.zero_le _, rfl, rfl, rfl⟩
    case round =>
      obtain ⟨k, m, hk, rfl, rfl, HT⟩ := hrel
      by_cases hlt : k < n
      · obtain ⟨x, hx⟩ := at_lt (show k < xs.length by rw [HL.out]; exact hlt)
        obtain ⟨y, hy⟩ := at_lt (show k < ys.length by rw [HL'.out]; exact hlt)
        obtain ⟨b, o, rfl, _, hc⟩ := h k _ (ints_at hx)
        obtain ⟨b', o', rfl, _, hc'⟩ := h' k _ (ints_at hy)
        by_cases hxy : x = y
        · subst hxy
          have G := Lib.hid (take_same HT.out hx hy)
          clear hx hy HT
          go_wp2_with fail
          go_quiet (fail)
          go_wp2
          go_roundw
          case rel => exact ⟨k + 1, _, by omega, by go_num, rfl, G⟩
          case measure => simp [intOf]; omega
        · have G := Lib.hid (eqL_at hx hy hxy)
          have t := bne_t hxy
          clear hx hy HT hxy
          go_wp2_with fail
          go_quiet (fail)
          go_wp2
          go_ret
          exact ⟨ret_bool G.out.symm, _, World.drewN_drewN ..⟩
      · obtain rfl : k = n := by omega
        have G := Lib.hid (eqL_end HT.out HL.out HL'.out)
        clear HT
        go_wp2
        go_ret
        exact ⟨ret_bool G.out.symm, _, rfl⟩
  · have G := Lib.hid (eqL_len (xs := xs) (ys := ys) (by rw [HL.out, HL'.out]; exact hnn))
    have t := bne_t (show (n : Int) ≠ (n' : Int) by omega)
    clear hnn
    go_enter Try.func82, Try.ntmps82
    go_wp2
    go_ret
    exact ⟨ret_bool G.out.symm, 0, rfl⟩

/-- a list in memory -/
def Lst (w : World) (A : Option Addr) (L : List Int) : Prop := Row w w.heap.size A (ints L)
theorem Lst.next {w w' : World} {A : Option Addr} {L : List Int} (h : Lst w A L) (b : Below w.heap.size w w') : Lst w' A L := (Row.below h b (Nat.le_refl _)).more b.size
theorem Lst.drew {w : World} {A : Option Addr} {L : List Int} (h : Lst w A L) (n : Nat) : Lst (w.drewN n) A L := h
theorem Lst.redrew {w : World} {A : Option Addr} {L : List Int} {a : Nat} (h : Lst (w.drewN a) A L) (n : Nat) : Lst (w.drewN (a + n)) A L := h
theorem below_redrewN {B : Nat} {a w : World} {m : Nat} (h : Below B a (w.drewN m)) (n : Nat) : Below B a (w.drewN (m + n)) := below_drewN (w := w) ⟨h.os, h.tape, h.output, h.size, h.block⟩ _
theorem Src.drew {w : World} {T : TypeId} {G B : Nat} {xs : List Int} (s : Src w T G B xs) (n : Nat) : Src (w.drewN n) T G B xs := s
theorem Src.redrew {w : World} {T : TypeId} {G B a : Nat} {xs : List Int} (s : Src (w.drewN a) T G B xs) (n : Nat) : Src (w.drewN (a + n)) T G B xs := s
theorem Lst.alloc {w : World} {A : Option Addr} {L : List Int} (h : Lst w A L) (o : Obj) : Lst (w.alloc o) A L := h.next ((Below.refl _ _).alloc (Nat.le_refl _) _)
theorem Lst.only {w w' : World} {A : Option Addr} {L : List Int} {G B : Nat} (h : Row w B A (ints L)) (hB : B ≤ w.heap.size) (k : w.grownBy w' (some G)) (hG : B ≤ G) : Lst w' A L := (Row.only h k hG).more (Nat.le_trans hB k.size)
theorem below_step {B : Nat} {a w w' : World} (h : Below B a w) (hB : B ≤ w.heap.size) (k : Below w.heap.size w w') : Below B a w' := h.trans (k.mono hB)
/-- a list in memory below B -/
def Low (w : World) (B : Nat) (A : Option Addr) (L : List Int) : Prop := Row w B A (ints L) ∧ B ≤ w.heap.size
theorem Low.of {w : World} {A : Option Addr} {L : List Int} (h : Lst w A L) : Low w w.heap.size A L := ⟨h, Nat.le_refl _⟩
theorem Low.next {w w' : World} {B : Nat} {A : Option Addr} {L : List Int} (h : Low w B A L) (b : Below w.heap.size w w') : Low w' B A L := ⟨Row.below h.1 b h.2, Nat.le_trans h.2 b.size⟩
theorem Low.drew {w : World} {B : Nat} {A : Option Addr} {L : List Int} (h : Low w B A L) (n : Nat) : Low (w.drewN n) B A L := h
theorem Low.redrew {w : World} {B a : Nat} {A : Option Addr} {L : List Int} (h : Low (w.drewN a) B A L) (n : Nat) : Low (w.drewN (a + n)) B A L := h
theorem Low.only {w w' : World} {B G : Nat} {A : Option Addr} {L : List Int} (h : Low w B A L) (k : w.grownBy w' (some G)) (hG : B ≤ G) : Low w' B A L := ⟨Row.only h.1 k hG, Nat.le_trans h.2 k.size⟩
theorem Low.lst {w : World} {B : Nat} {A : Option Addr} {L : List Int} (h : Low w B A L) : Lst w A L := Row.more h.1 h.2
theorem likeInts_yes (A A' : Option Addr) (n n' c c' : Nat) (xs ys : List Int) (w : World) (e : xs = ys) (hl : xs.length = n) (hl' : ys.length = n') (hn : n ≤ 1048576) (h : Lst w A xs) (h' : Lst w A' ys) :
    Calls Try.prog 82 #[.slice A n c, .slice A' n' c'] w fun e w' => e = .returned (.bool true) ∧ ∃ m, w' = w.drewN m := by
  subst e
  refine (likeInts_any A A' n n' c c' _ _ xs xs w hl hl' (by omega) (by omega) h h').mono ?_
  rintro e w' ⟨rfl, m, rfl⟩
  exact ⟨by rw [eqL_self], m, rfl⟩
end Go.Proofs.Ytignimaimflenaa
/-
  Two lists of lists are alike.
-/
namespace Go.Proofs.Ytignimaimflenaa
open Go.RowKit Fld
set_option linter.unusedVariables false
set_option linter.unusedSimpArgs false
set_option maxRecDepth 100000

theorem eqM_self9 (m : List (List Int)) : eqM m m = true := by unfold eqM; simp
theorem same9_any (A A' : Option Addr) (n n' c c' B B' : Nat) (m m' : List (List Int)) (w : World) (hl : m.length = n) (hl' : m'.length = n') (hn : n ≤ 9223372036854775807) (hn' : n' ≤ 9223372036854775807) (h : Mat w B A m) (h' : Mat w B' A' m') :
    Calls Try.prog 44 #[.slice A n c, .slice A' n' c'] w fun e w' => e = .returned (.bool (eqM m m')) ∧ ∃ j, w' = w.drewN j := by
  have HL := Lib.hid hl
  have HL' := Lib.hid hl'
  clear hl hl'
  by_cases hnn : n = n'
  · subst hnn
    go_enter Try.func44, Try.ntmps44
    go_wp2_with fail
    go_loopw [5] (fun i wr => ∃ k j : Nat, k ≤ n ∧ i = .int .i64 k ∧ wr = w.drewN j ∧ Hid (m.take k = m'.take k)) (fun i _ => n - (intOf i).toNat)
    case atStart => exact ⟨0, 0, Nat.zero_le _, rfl, rfl, rfl⟩
    case round =>
      obtain ⟨k, j, hk, rfl, rfl, HT⟩ := hrel
      by_cases hlt : k < n
      · obtain ⟨x, hx⟩ := at_lt (show k < m.length by rw [HL.out]; exact hlt)
        obtain ⟨y, hy⟩ := at_lt (show k < m'.length by rw [HL'.out]; exact hlt)
        obtain ⟨b, o, Ak, ck, rfl, _, hc, hlc, hcm, hrow⟩ := h k x hx
        obtain ⟨b', o', Ak', ck', rfl, _, hc', hlc', hcm', hrow'⟩ := h' k y hy
        unfold maxLen at hcm hcm'
        cases he : eqL x y
        · have G := Lib.hid (eqM_at hx hy he)
          clear hx hy HT
          go_wp2_with fail
          go_quiet ((go_at_call 82; first | exact Calls.quiet_of (likeInts_any _ _ x.length y.length _ _ _ _ x y _ rfl rfl (by omega) (by omega) hrow hrow') | exact quiet_any (likeInts_any _ _ x.length y.length _ _ _ _ x y _ rfl rfl (by omega) (by omega) hrow hrow')))
          go_wp2
          go_ret
          exact ⟨ret_bool G.out.symm, _, World.drewN_drewN ..⟩
        · have G := Lib.hid (takeM_same HT.out hx hy he)
          clear hx hy HT
          go_wp2_with fail
          go_quiet ((go_at_call 82; first | exact Calls.quiet_of (likeInts_any _ _ x.length y.length _ _ _ _ x y _ rfl rfl (by omega) (by omega) hrow hrow') | exact quiet_any (likeInts_any _ _ x.length y.length _ _ _ _ x y _ rfl rfl (by omega) (by omega) hrow hrow')))
          go_wp2
          go_roundw
          case rel => exact ⟨k + 1, _, by omega, by go_num, rfl, G⟩
          case measure => simp [intOf]; omega
      · obtain rfl : k = n := by omega
        have G := Lib.hid (eqM_end HT.out HL.out HL'.out)
        clear HT
        go_wp2
        go_ret
        exact ⟨ret_bool G.out.symm, _, rfl⟩
  · have G := Lib.hid (eqM_len (m := m) (m' := m') (by rw [HL.out, HL'.out]; exact hnn))
    have t := bne_t (show (n : Int) ≠ (n' : Int) by omega)
    clear hnn
    go_enter Try.func44, Try.ntmps44
    go_wp2
    go_ret
    exact ⟨ret_bool G.out.symm, 0, rfl⟩
end Go.Proofs.Ytignimaimflenaa
/-
  What ForestOf answers, the program's and the model's.
-/
namespace Go.Proofs.Ytignimaimflenaa
open Go.RowKit Fld
set_option linter.unusedVariables false
set_option linter.unusedSimpArgs false
set_option maxRecDepth 100000

theorem lv_take_step {f : List (List Int)} {k : Nat} {r : List Int} (h : ∀ x ∈ f.take k, Tr.isLv x = true) (hr : f[k]? = some r) (hl : Tr.isLv r = true) : ∀ x ∈ f.take (k + 1), Tr.isLv x = true := fun x hx => by
  rw [List.take_add_one, hr, Option.toList_some, List.mem_append, List.mem_singleton] at hx
  rcases hx with hx | rfl
  · exact h x hx
  · exact hl
theorem allLvM_of {f : List (List Int)} (h : ∀ x ∈ f, Tr.isLv x = true) : allLvM f = true := by
  unfold allLvM; rw [List.all_eq_true]; exact h
set_option maxHeartbeats 2000000 in
set_option maxHeartbeats 1000000 in
theorem pForestOf_L (A : Option Addr) (n c B : Nat) (f : List (List Int)) (w : World) (hl : f.length = n) (hn : n + total f ≤ 1048576) (hB : B ≤ w.heap.size) (h : Mat w B A f) :
    Calls Try.prog 43 #[.slice A n c] w (ResM (forestA f) w) := by
  have C0 := areLevels_any A n c B f w hl (by omega) (fun r hr => by have := row_le_total r hr; omega) (Lsts.of_mat h)
  have C1 := fun m => nodesOf_any A n c B f (w.drewN m) hl hn (h.keep fun _ _ _ => rfl)
  have HL := Lib.hid hl
  have HN := Lib.hid hn
  have HN8 : Hid (n ≤ 1048576) := by rw [Hid]; omega
  cases hf : allLvM f
  · have G := Lib.hid (forestA_no hf)
    rw [hf] at C0
    clear hl hn
    go_enter Try.func43, Try.ntmps43
    go_wp2_with fail
    refine C0.mono ?_
    rintro e w' ⟨rfl, m, rfl⟩
    go_wp2
    go_ret2
    exact ResM.nil G.out (below_drewN (Below.refl _ _) _)
  · rw [hf] at C0
    by_cases h8 : total f ≤ 8
    · have G := Lib.hid (forestA_yes hf h8)
      obtain ⟨z1, z2, z3⟩ := forest_size hf h8
      rw [hl] at z1
      have Z3 := Lib.hid z3
      have hm := allLvM_mem hf
      have HLV := Lib.hid hm
      have HSC : Hid ((Tr.sortT (f.map Tr.txt)).map Tr.lvl = Tr.sortL (f.map Tr.can)) := sortL_can hm
      have H16 : Hid (∀ s ∈ f.map Tr.txt, s.length ≤ 16 ∧ Brk s) := fun s hs => by
        rw [List.mem_map] at hs
        obtain ⟨t, ht, rfl⟩ := hs
        have h1 := (lv_txt (hm t ht)).2.2.2
        have h2 := (lv_bd (hm t ht)).2
        exact ⟨by omega, txt_brk _ _⟩
      obtain ⟨s, hs⟩ : ∃ s, s = total f := ⟨_, rfl⟩
      simp only [← hs] at C1 h8
      clear hl hn hf hs z2 z3 hm
      go_enter Try.func43, Try.ntmps43
      go_wp2_with fail
      refine C0.mono ?_
      rintro e w' ⟨rfl, m, rfl⟩
      go_wp2_with fail
      refine (C1 _).mono ?_
      rintro e w2 ⟨rfl, rfl⟩
      go_wp2_with fail
      refine (treesOf_any A n c B f (w.drewN m) HL.out HN8.out HLV.out hB (h.keep fun _ _ _ => rfl)).mono ?_
      rintro e w2 ⟨rfl, own2, bel2'⟩
      have bel2 : Below w.heap.size w w2 := below_undrew' bel2'
      have hs2 := bel2.size
      have HB2 := Lib.hid bel2
      have HO2 := Lib.hid own2
      clear own2 bel2 bel2' C1
      go_wp2_with fail
      refine (forestOf_any _ w.heap.size n n (f.map Tr.txt) w2 (by omega) H16.out hs2 HO2.out).mono ?_
      rintro e w4 ⟨A4, c4, vs4, rfl, own4, bel4⟩
      rw [HSC.out] at own4
      have GO := Lib.hid own4
      have GB : Hid (Below w.heap.size w w4) := HB2.out.trans bel4
      clear own4 bel4
      go_wp2
      go_ret2
      exact ResM.of G.out Z3.out GO.out GB.out
    · have G := Lib.hid (forestA_big hf h8)
      have h8' : 8 < total f := by omega
      have ht : total f ≤ 1048576 := by omega
      obtain ⟨s, hs⟩ : ∃ s, s = total f := ⟨_, rfl⟩
      simp only [← hs] at C1 h8' ht
      clear hl hn hf hs h8
      go_enter Try.func43, Try.ntmps43
      go_wp2_with fail
      refine C0.mono ?_
      rintro e w' ⟨rfl, m, rfl⟩
      go_wp2_with fail
      refine (C1 _).mono ?_
      rintro e w2 ⟨rfl, rfl⟩
      clear C1
      go_wp2
      go_ret2
      exact ResM.nil G.out (below_drewN (Below.refl _ _) _)
end Go.Proofs.Ytignimaimflenaa
/-
  The model's copy of a list of lists.
-/
namespace Go.Proofs.Ytignimaimflenaa
open Go.RowKit Fld
set_option linter.unusedVariables false
set_option linter.unusedSimpArgs false
set_option maxRecDepth 100000

theorem Mat.vals {w : World} {B : Nat} {A : Option Addr} {m : List (List Int)} (h : Mat w B A m) : ∃ vs, Row w B A vs ∧ Vals w B m vs := by
  cases m with
  | nil => exact ⟨[], Row.nil _ _ _, Vals.nil _ _⟩
  | cons x m =>
    obtain ⟨b, o, _, _, rfl, hb, _⟩ := h 0 x rfl
    refine ⟨(List.range (x :: m).length).map fun k => (w.cell? ⟨b, o + k, none⟩).getD (.bool false), fun k v hv => ?_, ?_, fun k r hr => ?_⟩
    · rw [List.getElem?_map] at hv
      rcases Nat.lt_or_ge k (x :: m).length with hk | hk
      · rw [List.getElem?_range hk] at hv
        obtain ⟨r, hr⟩ := at_lt hk
        obtain ⟨b', o', Ak, ck, e, hb', hc, _⟩ := h k r hr
        cases e
        rw [Option.map_some, hc] at hv
        injection hv with hv
        exact ⟨b, o, rfl, hb, by rw [hc]; exact congrArg some hv⟩
      · rw [List.getElem?_eq_none (by simp only [List.length_range]; exact hk)] at hv
        cases hv
    · rw [List.length_map, List.length_range]
    · obtain ⟨b', o', Ak, ck, e, hb', hc, h1, h2, h3⟩ := h k r hr
      cases e
      have hk : k < (x :: m).length := by
        rcases Nat.lt_or_ge k (x :: m).length with y | y
        · exact y
        · rw [List.getElem?_eq_none y] at hr; cases hr
      refine ⟨Ak, ck, ?_, h1, h2, h3⟩
      rw [List.getElem?_map, List.getElem?_range hk, Option.map_some, hc]; rfl
theorem Vals.app {w : World} {B : Nat} {m m' : List (List Int)} {vs vs' : List Value} (h : Vals w B m vs) (h' : Vals w B m' vs') : Vals w B (m ++ m') (vs ++ vs') := by
  have hl := h.1
  refine ⟨by rw [List.length_append, List.length_append, h.1, h'.1], fun k r hr => ?_⟩
  rcases Nat.lt_or_ge k m.length with g | g
  · rw [List.getElem?_append_left g] at hr
    obtain ⟨A, c, q1, q2⟩ := h.2 k r hr
    exact ⟨A, c, by rw [List.getElem?_append_left (by omega)]; exact q1, q2⟩
  · rw [List.getElem?_append_right g] at hr
    obtain ⟨A, c, q1, q2⟩ := h'.2 _ r hr
    exact ⟨A, c, by rw [List.getElem?_append_right (by omega), hl]; exact q1, q2⟩
theorem OwnMat.vals {w : World} {lo hi n : Nat} {v : Value} {m : List (List Int)} {vs : List Value} (h : OwnMat w lo hi v n m vs) : Vals w hi m vs := by
  refine ⟨h.len, fun k r hr => ?_⟩
  obtain ⟨A, c, e, o⟩ := h.inner k r hr
  obtain ⟨h1, h2⟩ := own_cap o.1
  exact ⟨A, c, e, h1, h2, o.row⟩
set_option maxHeartbeats 1000000 in
theorem l01Own2_any (A : Option Addr) (n c B : Nat) (f : List (List Int)) (w : World) (hl : f.length = n) (hn : n + total f ≤ 1048576) (h1 : ∀ r ∈ f, 1 ≤ r.length) (hB : B ≤ w.heap.size) (h : Mat w B A f) :
    Calls Try.prog 106 #[.slice A n c] w (NewMat n f w) := by
  obtain ⟨j0, hj, hy0, hy1, hy2⟩ := info_parts info_row
  have HL := Lib.hid hl
  have HN := Lib.hid hn
  have H1 := Lib.hid h1
  have hn' : n ≤ 1048576 := by omega
  clear hl hn h1
  go_enter Try.func106, Try.ntmps106
  go_wp2_with fail
  go_loopw [3, 4] (fun v i wr => ∃ (k g cap : Nat), k ≤ n ∧ v = .slice (some ⟨g, 0, none⟩) k cap ∧ i = .int .i64 k ∧ GrowM w g k cap (f.take k) wr) (fun _ i _ => n - (intOf i).toNat)
  case atStart => exact ⟨0, _, 0, Nat.zero_le _, rfl, rfl, GrowM.start ..⟩
  case round =>
    obtain ⟨k, g, cap, hk, rfl, rfl, vs, HM, HBel⟩ := hrel
    have hsz := HBel.size
    by_cases hlt : k < n
    · obtain ⟨r, hr⟩ := at_lt (show k < f.length by rw [HL.out]; exact hlt)
      obtain ⟨b, o, Ak, ck, rfl, hb, hc, hrc, hcm, hrow⟩ := (h.below HBel hB) k r hr
      have hrl : r.length ≤ 1048576 := by have := row_total hr; have := HN.out; omega
      have hr1 := H1.out r (List.mem_of_getElem? hr)
      obtain ⟨x0, hx0⟩ := at_lt (show 0 < r.length by omega)
      obtain ⟨br, orr, rfl, _, _⟩ := hrow 0 _ (ints_at hx0)
      have HS : Hid (f.take (k + 1) = f.take k ++ [r]) := by
        rw [Hid, List.take_add_one, hr, Option.toList_some]
      have HM' := Lib.hid HM
      have HB1 := Lib.hid HBel
      have HRO := Lib.hid hrow
      clear hr HM HBel hrow hx0
      go_wp2_with fail
      refine (l01Own_any ⟨br, orr, none⟩ r.length ck B r _ rfl hrl (by omega) HRO.out).mono ?_
      rintro e w3 ⟨A3, c3, rfl, own3, bel3⟩
      have hs3 := bel3.size
      have HM3 := Lib.hid (HM'.out.below bel3 (Nat.le_refl _))
      have HB3 : Hid (Below w.heap.size w w3) := HB1.out.trans (bel3.mono hsz)
      have HO3 := Lib.hid own3
      have hownO := HM3.out.outer.1
      clear own3 bel3
      go_wp2_with (at_builtin; refine wpList_append_lies _ rfl (.tmp 12) (.tmp 18) 37 rfl w.heap.size 22 j0 _ 1 24 Try.underlying37 hj hy0 hy1 hy2 rfl (by omega) (.slice (some ⟨g, 0, none⟩) k cap) k vs rfl (hownO.alloc _) ⟨w3.heap.size, 0, none⟩ 1 1 [.slice A3 r.length c3] rfl rfl (World.news_of_block (cs := #[.slice A3 r.length c3]) (heap_alloc_new _ _)) (by simp [Value.oneCell']) (by omega) (by simp only [maxLen]; omega) (by omega) (by simp; omega) (w3.heap.size + 1) (by simp) ?_; intro g5 cap5 w5 hown5 hgrow5 hat5 hlt5)
      have hs5 : w3.heap.size ≤ w5.heap.size := by have := hgrow5.size; simp at this; omega
      have G : Hid (GrowM w g5 (k + 1) cap5 (f.take (k + 1)) w5) := by
        rw [Hid, HS.out]
        refine ⟨_, HM3.out.push (row := r) hs3 rfl HO3.out hsz hown5 hgrow5, ?_⟩
        exact (HB3.out.alloc (by omega) _).grown hgrow5 (by simp; omega) (fun q hq => (hownO.lt q hq).1)
      clear hown5 hgrow5 hat5 hownO
      go_wp2
      go_roundw
      case rel => exact ⟨k + 1, g5, cap5, by omega, rfl, by go_num, G.out⟩
      case measure => simp [intOf]; omega
    · obtain rfl : k = n := by omega
      rw [List.take_of_length_le (by rw [HL.out]; exact Nat.le_refl _)] at HM
      have G : Hid (NewMat k f w (.returned (.slice (some ⟨g, 0, none⟩) k cap)) wr) := GrowM.done ⟨vs, HM, HBel⟩
      clear HM HBel
      go_wp2
      go_ret
      exact G.out
end Go.Proofs.Ytignimaimflenaa
/-
  What TimesForests answers, the program's and the model's.
-/
namespace Go.Proofs.Ytignimaimflenaa
open Go.RowKit Fld
set_option linter.unusedVariables false
set_option linter.unusedSimpArgs false
set_option maxRecDepth 100000

theorem strs_app (a b : List (List UInt8)) : strs a ++ strs b = strs (a ++ b) := by simp [strs]
theorem strs_one (l : List (List UInt8)) : ∀ u ∈ strs l, u.oneCell' = true := fun u hu => by
  unfold strs at hu
  rw [List.mem_map] at hu
  obtain ⟨x, _, rfl⟩ := hu
  rfl
set_option maxHeartbeats 1000000 in
theorem l03Times_any (A A' : Option Addr) (n n' c c' B B' : Nat) (f g : List (List Int)) (w : World) (hl : f.length = n) (hl' : g.length = n') (h8 : n + n' ≤ 8) (ht : n + total f ≤ 1048576) (hlv : ∀ r ∈ f ++ g, Tr.isLv r = true) (hB : B ≤ w.heap.size) (hB' : B' ≤ w.heap.size) (h : Mat w B A f) (h' : Mat w B' A' g) (hA : A' = none → n' = 0 ∧ c' = 0) :
    Calls Try.prog 74 #[.slice A n c, .slice A' n' c'] w (ResRws (Tr.sortL (f ++ g)) w) := by
  obtain ⟨j0, hj, hy0, hy1, hy2⟩ := info_parts info_row
  have HL := Lib.hid hl
  have HL' := Lib.hid hl'
  have HLV := Lib.hid hlv
  have C0 := l01Own2_any A n c B f w hl ht (fun r hr => (lv_bd (hlv r (by simp [hr]))).1) hB h
  have HFG : Hid ((f ++ g).length = n + n') := by rw [Hid, List.length_append, hl, hl']
  clear hl hl' hlv
  have fin : ∀ (A9 : Option Addr) (c9 : Nat) (us : List Value) (w9 : World), w9.ownsRow w.heap.size 22 1 (.slice A9 (n + n') c9) (n + n') us → Vals w9 w9.heap.size (f ++ g) us → Below w.heap.size w w9 → Calls Try.prog 105 #[.slice A9 (n + n') c9] w9 (ResRws (Tr.sortL (f ++ g)) w) := by
    intro A9 c9 us w9 ho hv hb
    refine (l03Sort_any A9 (n + n') c9 w9.heap.size (f ++ g) w9 HFG.out h8 HLV.out (Nat.le_refl _) (Rws.mat ⟨us, row_of_own ho, hv⟩)).mono ?_
    rintro e w10 ⟨b, o, cap, rfl, hc, hr, bel⟩
    exact ⟨b, o, cap, rfl, hc, hr, hb.trans (bel.mono hb.size)⟩
  have HFIN := Lib.hid fin
  clear fin
  cases hA' : A' with
  | none =>
    obtain ⟨e1, e2⟩ := hA hA'
    subst hA' e1 e2
    have hg : g = [] := List.eq_nil_of_length_eq_zero HL'.out
    subst hg
    clear hA
    go_enter Try.func74, Try.ntmps74
    go_wp2_with fail
    refine C0.mono ?_
    rintro e w1 ⟨A1, c1, vs1, rfl, own1, bel1⟩
    have hown := own1.outer.1
    have GB := Lib.hid bel1
    have GO := Lib.hid own1
    clear own1 bel1 C0
    go_wp2_with (at_builtin; refine wpList_append_own_none rfl (.tmp 6) (.tmp 7) 37 rfl w.heap.size 22 j0 1 Try.underlying37 hj (.slice A1 n c1) n vs1 rfl hown rfl ?_)
    clear hown
    go_wp2_with fail
    refine (HFIN.out A1 c1 vs1 w1 GO.out.outer.1 (by rw [List.append_nil]; exact GO.out.vals) GB.out).mono ?_
    rintro e w2 hr
    obtain ⟨b, o, cap, rfl, hc, hr1, bel⟩ := hr
    have G1 := Lib.hid hr1
    have G2 := Lib.hid bel
    have G3 := Lib.hid hc
    clear hr1 bel hc
    go_wp2
    go_ret
    exact ⟨b, o, cap, by first | rfl | (rw [List.append_nil]; rfl), G3.out, G1.out, G2.out⟩
  | some ad =>
    subst hA'
    obtain ⟨us, hrow, hvals⟩ := h'.vals
    have HROW := Lib.hid hrow
    have HVALS := Lib.hid hvals
    have HUL : Hid (us.length = n' * 1) := by rw [Hid, hvals.1, HL'.out, Nat.mul_one]
    have HU1 : Hid (∀ u ∈ us, u.oneCell' = true) := fun u hu => Vals.one (v := u) hvals u hu
    clear hrow hvals hA
    go_enter Try.func74, Try.ntmps74
    go_wp2_with fail
    refine C0.mono ?_
    rintro e w1 ⟨A1, c1, vs1, rfl, own1, bel1⟩
    have hown := own1.outer.1
    have GB := Lib.hid bel1
    have hs1 := bel1.size
    have GO := Lib.hid own1
    have HNW : Hid (∀ q z, us[q]? = some z → w1.cell? (ad.add q) = some z) := row_news (Row.below HROW.out bel1 hB')
    clear own1 bel1 C0
    go_wp2_with (at_builtin; refine wpList_append_own _ rfl (.tmp 6) (.tmp 7) 37 rfl w.heap.size 22 j0 _ 1 24 Try.underlying37 hj hy0 hy1 hy2 rfl (by omega) (.slice A1 n c1) n vs1 rfl hown ad n' c' us rfl HUL.out HNW.out HU1.out (by simp only [maxLen]; omega) (by omega) (by omega) ?_; intro v5 w5 own5 hgrow5 _; obtain ⟨A5, c5, rfl⟩ := own_shape' own5)
    have GB5 : Hid (Below w.heap.size w w5) := GB.out.grown hgrow5 (by omega) (fun z hz => (GO.out.outer.1.lt z hz).1)
    have GO5 := Lib.hid own5
    have GV5 : Hid (Vals w5 w5.heap.size (f ++ g) (vs1 ++ us)) := by
      have hs5 := hgrow5.size
      have v1 : Vals w5 w5.heap.size f vs1 := by
        have o5 : ∀ (k : Nat) (r : List Int), f[k]? = some r → ∃ (A : Option Addr) (c : Nat), vs1[k]? = some (Value.slice A r.length c) ∧ r.length ≤ c ∧ c ≤ maxLen ∧ Row w5 w5.heap.size A (ints r) := fun k r hr => by
          obtain ⟨A9, c9, e9, o9⟩ := GO.out.inner k r hr
          obtain ⟨q1, q2⟩ := own_cap o9.1
          have o10 := o9.grown hgrow5 (own_types o9.1 GO.out.outer.1 (by decide))
          exact ⟨A9, c9, e9, q1, q2, (OwnR.row o10).more hs5⟩
        exact ⟨GO.out.len, o5⟩
      have v2 : Vals w5 w5.heap.size g us := (HVALS.out.below GB5.out hB').more (by omega)
      exact v1.app v2
    clear own5 hgrow5 hown
    go_wp2_with fail
    refine (HFIN.out A5 c5 (vs1 ++ us) w5 GO5.out GV5.out GB5.out).mono ?_
    rintro e w2 hr
    obtain ⟨b, o, cap, rfl, hc, hr1, bel⟩ := hr
    have G1 := Lib.hid hr1
    have G2 := Lib.hid bel
    have G3 := Lib.hid hc
    clear hr1 bel hc
    go_wp2
    go_ret
    exact ⟨b, o, cap, by first | rfl | (rw [List.append_nil]; rfl), G3.out, G1.out, G2.out⟩
theorem own_none {w : World} {lo : Nat} {T : TypeId} {A : Option Addr} {n c : Nat} {vs : List Value} (h : w.ownsRow lo T 1 (.slice A n c) n vs) : A = none → n = 0 ∧ c = 0 := fun e => by
  rcases h.2 with ⟨q, rfl⟩ | ⟨g, cap, cur, q, _⟩
  · cases q; exact ⟨rfl, rfl⟩
  · cases q; cases e
set_option maxHeartbeats 1000000 in
theorem sTimesForests_L (A A' : Option Addr) (n n' c c' B B' : Nat) (f g : List (List Int)) (w : World) (hl : f.length = n) (hl' : g.length = n') (hn : n + total f ≤ 1048576) (hn' : n' + total g ≤ 1048576) (hB : B ≤ w.heap.size) (hB' : B' ≤ w.heap.size) (h : Mat w B A f) (h' : Mat w B' A' g) (hA : A' = none → n' = 0 ∧ c' = 0) :
    Calls Try.prog 38 #[.slice A n c, .slice A' n' c'] w (ResMl (timesA f g) w) := by
  have C0 := l03Forest_any A n c B f w hl hn hB h
  cases hf : isFor f
  · have G := Lib.hid (timesA_no1 (g := g) hf)
    rw [hf] at C0
    clear hl hl' hf
    go_enter Try.func38, Try.ntmps38
    go_wp2_with fail
    refine C0.mono ?_
    rintro e w1 ⟨rfl, bel1⟩
    have GB := Lib.hid bel1
    clear bel1
    go_wp2
    go_ret2
    exact ResMl.nil G.out GB.out
  · rw [hf] at C0
    have C1 := fun w1 hB1 hM => l03Forest_any A' n' c' B' g w1 hl' hn' hB1 hM
    cases hg : isFor g
    · have G := Lib.hid (timesA_no2 (f := f) hg)
      simp only [hg] at C1
      clear hl hl' hf hg
      go_enter Try.func38, Try.ntmps38
      go_wp2_with fail
      refine C0.mono ?_
      rintro e w1 ⟨rfl, bel1⟩
      have hs1 := bel1.size
      have GB1 := Lib.hid bel1
      have hM := Lib.hid (h'.below bel1 hB')
      clear bel1 C0
      go_wp2_with fail
      refine (C1 w1 (by omega) hM.out).mono ?_
      rintro e w2 ⟨rfl, bel2⟩
      have GB := Lib.hid (GB1.out.trans (bel2.mono hs1))
      clear bel2 C1
      go_wp2
      go_ret2
      exact ResMl.nil G.out GB.out
    · simp only [hg] at C1
      have C2 := fun w1 (hM : Mat w1 B A f) => l03Nodes_any A n c B f w1 hl hn hM
      have C3 := fun w1 (hM : Mat w1 B' A' g) => l03Nodes_any A' n' c' B' g w1 hl' hn' hM
      by_cases h8 : total f + total g ≤ 8
      · have G := Lib.hid (timesA_yes hf hg h8)
        obtain ⟨z1, z2, z3, z4⟩ := times_size hf hg h8
        rw [hl, hl'] at z1
        have Z3 := Lib.hid z3
        have hlv : ∀ r ∈ f ++ g, Tr.isLv r = true := fun r hr => by
          rw [List.mem_append] at hr
          rcases hr with hr | hr
          · exact (tr_lv (for_rows hf r hr)).1
          · exact (tr_lv (for_rows hg r hr)).1
        have HLV := Lib.hid hlv
        have HL := Lib.hid hl
        have HL' := Lib.hid hl'
        have HN := Lib.hid hn
        have HAA := Lib.hid hA
        obtain ⟨s, hs⟩ : ∃ s, s = total f := ⟨_, rfl⟩
        obtain ⟨s', hs'⟩ : ∃ s', s' = total g := ⟨_, rfl⟩
        simp only [← hs] at C2
        simp only [← hs'] at C3
        rw [← hs, ← hs'] at h8
        clear hl hl' hn hn' hf hg z2 z3 z4 hlv hA hs hs'
        go_enter Try.func38, Try.ntmps38
        go_wp2_with fail
        refine C0.mono ?_
        rintro e w1 ⟨rfl, bel1⟩
        have hs1 := bel1.size
        have GB1 := Lib.hid bel1
        have hM := Lib.hid (h'.below bel1 hB')
        clear bel1 C0
        go_wp2_with fail
        refine (C1 w1 (by omega) hM.out).mono ?_
        rintro e w2 ⟨rfl, bel2⟩
        have GB2 := Lib.hid (GB1.out.trans (bel2.mono hs1))
        have hs2 := GB2.out.size
        have HM := Lib.hid (h.below GB2.out hB)
        have HM' := Lib.hid (h'.below GB2.out hB')
        clear bel2 C1
        go_wp2_with fail
        refine (C2 _ HM.out).mono ?_
        rintro e w3 ⟨rfl, rfl⟩
        go_wp2_with fail
        refine (C3 _ HM'.out).mono ?_
        rintro e w3 ⟨rfl, rfl⟩
        go_wp2_with fail
        refine (l03Times_any A A' n n' c c' B B' f g _ HL.out HL'.out z1 HN.out HLV.out (by omega) (by omega) HM.out HM'.out HAA.out).mono ?_
        rintro e w3 ⟨b4, o4, cap4, rfl, hcap4, hrws, bel3⟩
        have GM := Lib.hid hrws.mat
        have GB3 := Lib.hid (GB2.out.trans (bel3.mono hs2))
        clear hrws bel3 C2 C3
        go_wp2
        go_ret2
        exact ResMl.of G.out rfl Z3.out GM.out GB3.out
      · have G := Lib.hid (timesA_big hf hg h8)
        have h8' : 8 < ((total f : Nat) : Int) + ((total g : Nat) : Int) := by omega
        have t1 : total f ≤ 1048576 := by omega
        have t2 : total g ≤ 1048576 := by omega
        obtain ⟨s, hs⟩ : ∃ s, s = total f := ⟨_, rfl⟩
        obtain ⟨s', hs'⟩ : ∃ s', s' = total g := ⟨_, rfl⟩
        simp only [← hs] at C2
        simp only [← hs'] at C3
        rw [← hs] at h8' t1
        rw [← hs'] at h8' t2
        clear hl hl' hn hn' hf hg hA hs hs' h8
        go_enter Try.func38, Try.ntmps38
        go_wp2_with fail
        refine C0.mono ?_
        rintro e w1 ⟨rfl, bel1⟩
        have hs1 := bel1.size
        have GB1 := Lib.hid bel1
        have hM := Lib.hid (h'.below bel1 hB')
        clear bel1 C0
        go_wp2_with fail
        refine (C1 w1 (by omega) hM.out).mono ?_
        rintro e w2 ⟨rfl, bel2⟩
        have GB2 := Lib.hid (GB1.out.trans (bel2.mono hs1))
        have HM := Lib.hid (h.below GB2.out hB)
        have HM' := Lib.hid (h'.below GB2.out hB')
        clear bel2 C1
        go_wp2_with fail
        refine (C2 _ HM.out).mono ?_
        rintro e w3 ⟨rfl, rfl⟩
        go_wp2_with fail
        refine (C3 _ HM'.out).mono ?_
        rintro e w3 ⟨rfl, rfl⟩
        clear C2 C3
        go_wp2
        go_ret2
        exact ResMl.nil G.out GB2.out
set_option maxHeartbeats 1000000 in
theorem pTimesForests_L (A A' : Option Addr) (n n' c c' B B' : Nat) (f g : List (List Int)) (w : World) (hl : f.length = n) (hl' : g.length = n') (hn : n + total f ≤ 1048576) (hn' : n' + total g ≤ 1048576) (hB : B ≤ w.heap.size) (hB' : B' ≤ w.heap.size) (h : Mat w B A f) (h' : Mat w B' A' g) :
    Calls Try.prog 37 #[.slice A n c, .slice A' n' c'] w (ResM (timesA f g) w) := by
  obtain ⟨i0, hi, hz0, hz1, hz2⟩ := info_parts info_tree
  have C0 := isForest_any A n c B f w hl hn hB h
  cases hf : isFor f
  · have G := Lib.hid (timesA_no1 (g := g) hf)
    rw [hf] at C0
    clear hl hl' hf
    go_enter Try.func37, Try.ntmps37
    go_wp2_with fail
    refine C0.mono ?_
    rintro e w1 ⟨rfl, bel1⟩
    have GB := Lib.hid bel1
    clear bel1
    go_wp2
    go_ret2
    exact ResM.nil G.out GB.out
  · rw [hf] at C0
    have C1 := fun w1 hB1 hM => isForest_any A' n' c' B' g w1 hl' hn' hB1 hM
    cases hg : isFor g
    · have G := Lib.hid (timesA_no2 (f := f) hg)
      simp only [hg] at C1
      clear hl hl' hf hg
      go_enter Try.func37, Try.ntmps37
      go_wp2_with fail
      refine C0.mono ?_
      rintro e w1 ⟨rfl, bel1⟩
      have hs1 := bel1.size
      have GB1 := Lib.hid bel1
      have hM := Lib.hid (h'.below bel1 hB')
      clear bel1 C0
      go_wp2_with fail
      refine (C1 w1 (by omega) hM.out).mono ?_
      rintro e w2 ⟨rfl, bel2⟩
      have GB := Lib.hid (GB1.out.trans (bel2.mono hs1))
      clear bel2 C1
      go_wp2
      go_ret2
      exact ResM.nil G.out GB.out
    · simp only [hg] at C1
      have C2 := fun w1 (hM : Mat w1 B A f) => nodesOf_any A n c B f w1 hl hn hM
      have C3 := fun w1 (hM : Mat w1 B' A' g) => nodesOf_any A' n' c' B' g w1 hl' hn' hM
      by_cases h8 : total f + total g ≤ 8
      · have G := Lib.hid (timesA_yes hf hg h8)
        obtain ⟨z1, z2, z3, z4⟩ := times_size hf hg h8
        rw [hl, hl'] at z1
        have Z3 := Lib.hid z3
        have Z4 := Lib.hid z4
        have HLV : Hid (∀ r ∈ f, Tr.isLv r = true) := fun r hr => (tr_lv (for_rows hf r hr)).1
        have HLV' : Hid (∀ r ∈ g, Tr.isLv r = true) := fun r hr => (tr_lv (for_rows hg r hr)).1
        have H16 : Hid (∀ s ∈ f.map Tr.txt ++ g.map Tr.txt, s.length ≤ 16 ∧ Brk s) := fun s hs => by
          have key : ∀ t, Tr.isLv t = true → (Tr.txt t).length ≤ 16 ∧ Brk (Tr.txt t) := fun t ht => by
            have h1 := (lv_txt ht).2.2.2
            have h2 := (lv_bd ht).2
            exact ⟨by omega, txt_brk _ _⟩
          rw [List.mem_append, List.mem_map, List.mem_map] at hs
          rcases hs with ⟨t, ht, rfl⟩ | ⟨t, ht, rfl⟩
          · exact key t (HLV.out t ht)
          · exact key t (HLV'.out t ht)
        have HN8 : Hid (n ≤ 1048576) := by rw [Hid]; omega
        have HN8' : Hid (n' ≤ 1048576) := by rw [Hid]; omega
        have HL := Lib.hid hl
        have HL' := Lib.hid hl'
        obtain ⟨s, hs⟩ : ∃ s, s = total f := ⟨_, rfl⟩
        obtain ⟨s', hs'⟩ : ∃ s', s' = total g := ⟨_, rfl⟩
        simp only [← hs] at C2
        simp only [← hs'] at C3
        rw [← hs, ← hs'] at h8
        clear hl hl' hn hn' hf hg z2 z3 z4 hs hs'
        go_enter Try.func37, Try.ntmps37
        go_wp2_with fail
        refine C0.mono ?_
        rintro e w1 ⟨rfl, bel1⟩
        have hs1 := bel1.size
        have GB1 := Lib.hid bel1
        have hM := Lib.hid (h'.below bel1 hB')
        clear bel1 C0
        go_wp2_with fail
        refine (C1 w1 (by omega) hM.out).mono ?_
        rintro e w2 ⟨rfl, bel2⟩
        have GB2 := Lib.hid (GB1.out.trans (bel2.mono hs1))
        have hs2 := GB2.out.size
        have HM := Lib.hid (h.below GB2.out hB)
        have HM' := Lib.hid (h'.below GB2.out hB')
        clear bel2 C1
        go_wp2_with fail
        refine (C2 _ HM.out).mono ?_
        rintro e w3 ⟨rfl, rfl⟩
        go_wp2_with fail
        refine (C3 _ HM'.out).mono ?_
        rintro e w3 ⟨rfl, rfl⟩
        clear C2 C3
        go_wp2_with fail
        refine (treesOf_any A n c B f w2 HL.out HN8.out HLV.out (by omega) HM.out).mono ?_
        rintro e w3 ⟨rfl, own3, bel3⟩
        have hs3 := bel3.size
        have GB3 := Lib.hid (GB2.out.trans (bel3.mono hs2))
        have HO3 := Lib.hid own3
        have HM3 := Lib.hid (h'.below GB3.out hB')
        have hs03 := GB3.out.size
        clear own3 bel3
        go_wp2_with fail
        refine (treesOf_any A' n' c' B' g w3 HL'.out HN8'.out HLV'.out (by omega) HM3.out).mono ?_
        rintro e w4 ⟨rfl, own4, bel4⟩
        have GB4 := Lib.hid (GB3.out.trans (bel4.mono hs03))
        have own3' := ((OwnR.of HO3.out).below bel4 (Nat.le_refl _)).1
        have HO3' := Lib.hid own3'
        have HNW := Lib.hid (row_news (row_of_own own4))
        have HNL : Hid ((strs (g.map Tr.txt)).length = n' * 1) := by rw [Hid, strs_length, List.length_map, HL'.out, Nat.mul_one]
        have HON := Lib.hid (strs_one (g.map Tr.txt))
        have HSA := Lib.hid (strs_app (f.map Tr.txt) (g.map Tr.txt))
        have hs4 := bel4.size
        have hs04 := GB4.out.size
        clear own4 bel4
        go_wp2_with (at_builtin; refine wpList_append_own _ rfl (.tmp 21) (.tmp 23) 59 rfl w2.heap.size 61 i0 _ 1 16 Try.underlying59 hi hz0 hz1 hz2 rfl (by omega) (.slice (some ⟨w2.heap.size, 0, none⟩) n n) n (strs (f.map Tr.txt)) rfl own3' ⟨w3.heap.size, 0, none⟩ n' n' (strs (g.map Tr.txt)) rfl HNL.out HNW.out HON.out (by simp only [maxLen]; omega) (by omega) (by omega) ?_; intro v5 w5 own5 hgrow5 _; obtain ⟨A5, c5, rfl⟩ := own_shape' own5)
        rw [HSA.out] at own5
        have GB5 : Hid (Below w.heap.size w w5) := GB4.out.grown hgrow5 (by omega) (fun z hz => by have := (HO3'.out.lt z hz).1; omega)
        have HO5 : Hid (w5.ownsRow w.heap.size 61 1 (.slice A5 (n + n') c5) (n + n') (strs (f.map Tr.txt ++ g.map Tr.txt))) := by
          have hs5 : w2.heap.size ≤ w5.heap.size := by have := hgrow5.size; omega
          exact ((OwnR.of own5).more hs2 (Nat.le_refl _)).1
        clear own5 hgrow5 own3'
        go_wp2_with fail
        refine (forestOf_any A5 w.heap.size (n + n') c5 (f.map Tr.txt ++ g.map Tr.txt) w5 (by omega) H16.out GB5.out.size HO5.out).mono ?_
        rintro e w6 ⟨A6, c6, vs6, rfl, own6, bel6⟩
        rw [Z4.out] at own6
        have GO := Lib.hid own6
        have GB6 : Hid (Below w.heap.size w w6) := GB5.out.trans bel6
        clear own6 bel6
        go_wp2
        go_ret2
        exact ResM.of G.out Z3.out GO.out GB6.out
      · have G := Lib.hid (timesA_big hf hg h8)
        have h8' : 8 < ((total f : Nat) : Int) + ((total g : Nat) : Int) := by omega
        have t1 : total f ≤ 1048576 := by omega
        have t2 : total g ≤ 1048576 := by omega
        obtain ⟨s, hs⟩ : ∃ s, s = total f := ⟨_, rfl⟩
        obtain ⟨s', hs'⟩ : ∃ s', s' = total g := ⟨_, rfl⟩
        simp only [← hs] at C2
        simp only [← hs'] at C3
        rw [← hs] at h8' t1
        rw [← hs'] at h8' t2
        clear hl hl' hn hn' hf hg hs hs' h8
        go_enter Try.func37, Try.ntmps37
        go_wp2_with fail
        refine C0.mono ?_
        rintro e w1 ⟨rfl, bel1⟩
        have hs1 := bel1.size
        have GB1 := Lib.hid bel1
        have hM := Lib.hid (h'.below bel1 hB')
        clear bel1 C0
        go_wp2_with fail
        refine (C1 w1 (by omega) hM.out).mono ?_
        rintro e w2 ⟨rfl, bel2⟩
        have GB2 := Lib.hid (GB1.out.trans (bel2.mono hs1))
        have HM := Lib.hid (h.below GB2.out hB)
        have HM' := Lib.hid (h'.below GB2.out hB')
        clear bel2 C1
        go_wp2_with fail
        refine (C2 _ HM.out).mono ?_
        rintro e w3 ⟨rfl, rfl⟩
        go_wp2_with fail
        refine (C3 _ HM'.out).mono ?_
        rintro e w3 ⟨rfl, rfl⟩
        clear C2 C3
        go_wp2
        go_ret2
        exact ResM.nil G.out GB2.out
end Go.Proofs.Ytignimaimflenaa
/-
  What IsForest answers, the program's and the model's.
-/
namespace Go.Proofs.Ytignimaimflenaa
open Go.RowKit Fld
set_option linter.unusedVariables false
set_option maxRecDepth 100000

theorem pIsForest_L (A : Option Addr) (n c B : Nat) (f : List (List Int)) (w : World) (hl : f.length = n) (hn : n + total f ≤ 1048576) (hB : B ≤ w.heap.size) (h : Mat w B A f) :
    Calls Try.prog 39 #[.slice A n c] w (ResB (isFor f) w) := isForest_any A n c B f w hl hn hB h
theorem sIsForest_L (A : Option Addr) (n c B : Nat) (f : List (List Int)) (w : World) (hl : f.length = n) (hn : n + total f ≤ 1048576) (hB : B ≤ w.heap.size) (h : Mat w B A f) :
    Calls Try.prog 40 #[.slice A n c] w (ResB (isFor f) w) := by
  have C0 := l03Forest_any A n c B f w hl hn hB h
  clear hl
  go_enter Try.func40, Try.ntmps40
  go_wp2_with fail
  refine C0.mono ?_
  rintro e w' ⟨rfl, bel⟩
  have G := Lib.hid bel
  clear bel
  go_wp2
  go_ret
  exact ⟨rfl, G.out⟩
end Go.Proofs.Ytignimaimflenaa
