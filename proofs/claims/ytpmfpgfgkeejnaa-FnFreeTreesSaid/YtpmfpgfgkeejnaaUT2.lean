/-
  Texts of this seat, joined: what several laws lean on.
-/
import Derived.Test.YtpmfpgfgkeejnaaUT1
import Derived.Deep.RegionHeld3
import Derived.Test.YtpmfpgfgkeejnaaTests
import Derived.RegionTactic
import Derived.ChangeAlike
import Derived.Deep.QuietTactic
import Derived.BigQuiet
import Derived.Laws.BitsAllLaws
import Derived.Laws.BitsLemmas
import Derived.Laws.OwnMore
import Derived.OwnWalk
import Derived.Test.YtpmfpgfgkeejnaaSlices
import Derived.Test.YtpmfpgfgkeejnaaGrow
import Derived.Test.YtpmfpgfgkeejnaaNest
import Derived.Deep.DeepCutAuto
import Derived.Deep.CutBlock
/-
  What FreeConditions answers, the program's and the model's.
-/
namespace Go.Proofs.Ytpmfpgfgkeejnaa
open Go.RowKit Fld
set_option linter.unusedVariables false
set_option linter.unusedSimpArgs false
set_option maxRecDepth 100000

theorem chk_treesC : ((List.range 8).all fun n => (Tr.treesL (n + 1)).all (fun t => decide (Tr.can t = t)) && decide (1 ≤ (Tr.treesL (n + 1)).length)) = true := by decide +kernel
theorem trees_canC {n : Nat} (h1 : 1 ≤ n) (h8 : n ≤ 8) : (∀ t ∈ Tr.treesL n, Tr.can t = t) ∧ 1 ≤ (Tr.treesL n).length := by
  obtain ⟨k, rfl⟩ : ∃ k, n = k + 1 := ⟨n - 1, by omega⟩
  have h := List.all_eq_true.1 chk_treesC k (by rw [List.mem_range]; omega)
  simp only [Bool.and_eq_true, List.all_eq_true, decide_eq_true_eq] at h
  exact ⟨h.1, by omega⟩
theorem txt_eqC {s t : List Int} (hs : Tr.isLv s = true) (ht : Tr.isLv t = true) (cs : Tr.can s = s) (ct : Tr.can t = t) : decide (Tr.txt s = Tr.txt t) = eqL s t := by
  have this : s = t ↔ Tr.txt s = Tr.txt t := ⟨fun e => by rw [e], fun e => by rw [← cs, ← ct, ← (lv_txt hs).1, ← (lv_txt ht).1, e]⟩
  unfold eqL
  by_cases e : s = t
  · rw [decide_eq_true e, decide_eq_true (this.1 e)]
  · rw [decide_eq_false e, decide_eq_false (fun q => e (this.2 q))]
theorem keepC_eq {t : List Int} (h : Tr.isLv t = true) (hc : Tr.can t = t) : (eqL (freeL t) t && !Tr.doubleL t (t.length - 1)) = keepC t := by
  obtain ⟨_, q1, q2, q3, q4⟩ := free_parts h
  rw [← txt_eqC q2 h q3 hc, q1, Tr.sup_eq h hc]
  have e : decide (minT (rootsT (Tr.txt t)) = Tr.txt t) = decide (Tr.txt t = minT (rootsT (Tr.txt t))) := by
    by_cases z : minT (rootsT (Tr.txt t)) = Tr.txt t
    · rw [decide_eq_true z, decide_eq_true z.symm]
    · rw [decide_eq_false z, decide_eq_false (fun q => z q.symm)]
  rw [e]; rfl
def condsA (a : Int) : List (List Int) × Int := if 1 ≤ a ∧ a ≤ 8 then ((Tr.treesL a.toNat).filter keepC, 0) else ([], 2)
theorem condsA_yes {n : Nat} (h1 : 1 ≤ n) (h8 : n ≤ 8) : condsA (n : Int) = ((Tr.treesL n).filter keepC, 0) := by
  unfold condsA; rw [if_pos (by omega)]; rfl
theorem condsA_no {a : Int} (h : ¬ (1 ≤ a ∧ a ≤ 8)) : condsA a = ([], 2) := if_neg h
theorem total_filterC (p : List Int → Bool) : ∀ m : List (List Int), total (m.filter p) ≤ total m
  | [] => Nat.le_refl _
  | t :: m => by
    have ih := total_filterC p m
    unfold total at *
    rw [List.filter_cons]
    split
    · simp only [List.map_cons, List.sum_cons]; omega
    · simp only [List.map_cons, List.sum_cons]; omega
theorem free_totalC {n : Nat} (h1 : 1 ≤ n) (h8 : n ≤ 8) : ((Tr.treesL n).filter keepC).length + total ((Tr.treesL n).filter keepC) ≤ 1048576 := by
  have h2 := trees_total h1 h8
  have h3 := List.length_filter_le keepC (Tr.treesL n)
  have h4 := total_filterC keepC (Tr.treesL n)
  omega
theorem Mat.selectC {w w' : World} {lo B n c q c' g : Nat} {A : Option Addr} {m : List (List Int)} {vs : List Value} {idx : List Nat} (h : OwnMat w lo w.heap.size (.slice A n c) n m vs) (hb : Below w.heap.size w w') (hi : ∀ k ∈ idx, k < m.length)
    (ho : w'.ownsRow B 31 1 (.slice (some ⟨g, 0, none⟩) q c') q (idx.map fun k => vs.getD k nilVC)) : Mat w' w'.heap.size (some ⟨g, 0, none⟩) (idx.map fun k => m.getD k []) := by
  intro k r hr
  rw [List.getElem?_map, Option.map_eq_some_iff] at hr
  obtain ⟨l, hl, rfl⟩ := hr
  have hlm := hi l (List.mem_of_getElem? hl)
  have e : m[l]? = some (m.getD l []) := by rw [List.getD_eq_getElem?_getD, List.getElem?_eq_getElem hlm]; rfl
  obtain ⟨A', c'', e1, o1⟩ := h.inner l _ e
  have e2 : (idx.map fun k => vs.getD k nilVC)[k]? = some (.slice A' (m.getD l []).length c'') := by
    rw [List.getElem?_map, hl, Option.map_some, List.getD_eq_getElem?_getD (l := vs), e1]; rfl
  obtain ⟨b, o, e3, hbl, hcl⟩ := row_of_own ho k _ e2
  obtain ⟨c1, c2⟩ := own_cap o1.1
  exact ⟨b, o, A', c'', e3, hbl, hcl, c1, c2, ((o1.below hb (Nat.le_refl _)).row).more hb.size⟩
theorem deleteF_noneC (A : Option Addr) (c : Nat) (w : World) : Calls Try.prog 17 #[.slice A 0 c, (.func (.func 22) #[] #[])] w fun e w' => e = .returned (.slice A 0 c) ∧ Below w.heap.size w w' := by
  have C0 := indexF_anyC A 0 c w.heap.size [] w rfl (by omega) (fun t ht => by cases ht) (Nat.le_refl _) (fun k r hr => by simp at hr)
  go_enter Try.func17, Try.ntmps17
  go_wp2_with fail
  refine C0.mono ?_
  rintro e w1 ⟨⟨i, rfl, hi⟩, bel1⟩
  rcases hi with ⟨rfl, _⟩ | ⟨k, _, hk, _⟩
  · have HB := Lib.hid bel1
    clear C0 bel1
    go_wp2
    go_ret
    exact ⟨rfl, HB.out⟩
  · omega
set_option maxHeartbeats 1000000 in
theorem pFreeConditions_L (a : Int) (w : World) (ha : -9223372036854775808 ≤ a ∧ a ≤ 9223372036854775807) : Calls Try.prog 8 #[.int .i64 a] w (ResM (condsA a) w) := by
  by_cases h : 1 ≤ a ∧ a ≤ 8
  · obtain ⟨n, rfl⟩ : ∃ n : Nat, a = (n : Int) := ⟨a.toNat, by omega⟩
    have h1 : 1 ≤ n := by omega
    have h8 : n ≤ 8 := by omega
    have G := Lib.hid (condsA_yes h1 h8)
    have E := treesOfA_yes h1 h8
    obtain ⟨t1, t2⟩ := trees_all h1 h8
    obtain ⟨_, t3⟩ := trees_canC h1 h8
    have HT := Lib.hid (free_totalC h1 h8)
    have C0 := fun w => pTreesOf_L (n : Int) w (by omega)
    rw [E] at C0
    obtain ⟨m, hm⟩ : ∃ m, m = Tr.treesL n := ⟨_, rfl⟩
    rw [← hm] at C0 G t1 t2 t3 HT
    clear h ha E hm
    go_enter Try.func8, Try.ntmps8
    go_wp2_with fail
    refine (C0 _).mono ?_
    rintro e w1 ⟨_, A1, c1, vs1, rfl, own1, bel1⟩
    obtain ⟨g, cap, hv⟩ := own_form own1.outer.1 (by show 0 < m.length; omega)
    have hv2 : A1 = some ⟨g, 0, none⟩ := by injection hv
    subst hv2
    clear hv
    simp only at own1 ⊢
    have C1 := deleteF_anyC w.heap.size g m.length c1 m vs1 w1 (fun t ht => (t1 t ht).1) t3 (by omega) bel1.size own1
    have HB := Lib.hid bel1
    clear own1 bel1 t1 C0
    go_wp2_with fail
    refine C1.mono ?_
    rintro e w2 ⟨q, vs2, rfl, hq, own3, bel3⟩
    have HB3 : Hid (Below w.heap.size w w2) := HB.out.trans bel3
    have HQ := Lib.hid hq
    have HO := Lib.hid own3
    clear hq own3 bel3 C1
    go_wp2
    go_ret2
    exact ResM.of G.out HT.out HO.out HB3.out
  · have G := Lib.hid (condsA_no h)
    have E := treesOfA_no h
    have C0 := fun w => pTreesOf_L a w ha
    rw [E] at C0
    clear h E
    go_enter Try.func8, Try.ntmps8
    go_wp2_with fail
    refine (C0 _).mono ?_
    rintro e w1 ⟨_, A1, c1, vs1, rfl, own1, bel1⟩
    simp only [List.length_nil] at own1 ⊢
    have C1 := deleteF_noneC A1 c1 w1
    have HO := Lib.hid own1
    have HB := Lib.hid bel1
    clear own1 bel1 C0
    go_wp2_with fail
    refine C1.mono ?_
    rintro e w2 ⟨rfl, bel2⟩
    have HB2 : Hid (Below w.heap.size w w2) := HB.out.trans (bel2.mono HB.out.size)
    have HO2 := Lib.hid ((HO.out.below bel2 (Nat.le_refl _)).more (Nat.le_refl _) bel2.size)
    clear bel2 C1
    go_wp2
    go_ret2
    exact ResM.of G.out (by decide) HO2.out HB2.out
def freeM (n : Nat) : List (List Int) := (Tr.treesL n).filter keepC
/-- the values C are lists m that lie from lo on and not in the block g -/
def InF (lo : Nat) (w : World) (g : Nat) (C : List Value) (m : List (List Int)) : Prop :=
  C.length = m.length ∧ ∀ (j : Nat) (r : List Int), m[j]? = some r → ∃ b o c, C[j]? = some (Value.slice (some ⟨b, o, none⟩) (List.length r) c) ∧ lo ≤ b ∧ b < w.heap.size ∧ b ≠ g ∧ r.length ≤ c ∧ c ≤ maxLen ∧ ∀ k x, r[k]? = some x → w.cell? ⟨b, o + k, none⟩ = some (.int .i64 x)
theorem InF.of {w w' : World} {lo n c g : Nat} {A : Option Addr} {m : List (List Int)} {vs : List Value} {idx : List Nat} (h : OwnMat w lo w.heap.size (.slice A n c) n m vs) (hb : Below w.heap.size w w') (hi : ∀ k ∈ idx, k < m.length) (hg : w.heap.size ≤ g) (hne : ∀ r ∈ m, 0 < r.length) :
    InF lo w' g (idx.map fun k => vs.getD k nilVC) (idx.map fun k => m.getD k []) := by
  refine ⟨by simp, fun j r hr => ?_⟩
  rw [List.getElem?_map, Option.map_eq_some_iff] at hr
  obtain ⟨l, hl, rfl⟩ := hr
  have hlm := hi l (List.mem_of_getElem? hl)
  have e : m[l]? = some (m.getD l []) := by rw [List.getD_eq_getElem?_getD, List.getElem?_eq_getElem hlm]; rfl
  obtain ⟨A', c'', e1, o1⟩ := h.inner l _ e
  have hpos := hne _ (List.mem_of_getElem? e)
  obtain ⟨q1, q2⟩ := own_cap o1.1
  obtain ⟨x0, hx0⟩ := at_lt hpos
  obtain ⟨b, o, rfl, hbl, _⟩ := o1.row 0 _ (ints_at hx0)
  have hlo := (o1.1.lt b rfl).1
  refine ⟨b, o, c'', ?_, hlo, Nat.lt_of_lt_of_le hbl hb.size, by omega, q1, q2, fun k x hx => ?_⟩
  · rw [List.getElem?_map, hl, Option.map_some, List.getD_eq_getElem?_getD (l := vs), e1]
    try rfl
  · obtain ⟨b', o', e', _, hc⟩ := o1.row k _ (ints_at hx)
    injection e' with e'
    injection e' with e2 e3
    subst e2 e3
    exact (hb.cell (p := ⟨b, o + k, none⟩) hbl).trans hc
/-- free conditions in memory of the call's own -/
def FreeRes (m : List (List Int)) (w : World) (e : Ending) (w' : World) : Prop :=
  ∃ (g c : Nat) (C : List Value), e = .returned (.slice (some ⟨g, 0, none⟩) m.length c) ∧ w'.ownsRow w.heap.size 31 1 (.slice (some ⟨g, 0, none⟩) m.length c) m.length C ∧ Mat w' w'.heap.size (some ⟨g, 0, none⟩) m ∧ InF w.heap.size w' g C m ∧ Below w.heap.size w w'
end Go.Proofs.Ytpmfpgfgkeejnaa
/-
  Free trees and free conditions counted: plain.
-/
namespace Go.Proofs.Ytpmfpgfgkeejnaa
open Go.RowKit Fld
set_option linter.unusedVariables false
set_option linter.unusedSimpArgs false
set_option maxRecDepth 100000

def freeN : List Int := [0, 1, 1, 1, 2, 3, 6, 11, 23]
def condN : List Int := [0, 1, 0, 1, 1, 3, 4, 11, 19]
theorem chk_counts : ((List.range 8).all fun n => decide ((((Tr.treesL (n + 1)).filter keepT).length : Int) = freeN.getD (n + 1) 0) && decide ((((Tr.treesL (n + 1)).filter keepC).length : Int) = condN.getD (n + 1) 0)) = true := by decide +kernel
theorem free_count {n : Nat} (h1 : 1 ≤ n) (h8 : n ≤ 8) : (((Tr.treesL n).filter keepT).length : Int) = freeN.getD n 0 ∧ (((Tr.treesL n).filter keepC).length : Int) = condN.getD n 0 := by
  obtain ⟨k, rfl⟩ : ∃ k, n = k + 1 := ⟨n - 1, by omega⟩
  have h := List.all_eq_true.1 chk_counts k (by rw [List.mem_range]; omega)
  simp only [Bool.and_eq_true, decide_eq_true_eq] at h
  exact h
theorem chk_form : ((List.range 8).all fun n => (Tr.treesL (n + 1)).all fun t => keepT (freeL t) && (Tr.treesL (n + 1)).contains (freeL t)) = true := by decide +kernel
theorem form_mem {n : Nat} (h1 : 1 ≤ n) (h8 : n ≤ 8) {t : List Int} (ht : t ∈ Tr.treesL n) : freeL t ∈ (Tr.treesL n).filter keepT := by
  obtain ⟨k, rfl⟩ : ∃ k, n = k + 1 := ⟨n - 1, by omega⟩
  have h := List.all_eq_true.1 (List.all_eq_true.1 chk_form k (by rw [List.mem_range]; omega)) t ht
  rw [Bool.and_eq_true] at h
  rw [List.mem_filter]
  exact ⟨by simpa using h.2, h.1⟩
theorem cond_parts {n : Nat} (h1 : 1 ≤ n) (h8 : n ≤ 8) {t : List Int} (ht : t ∈ (Tr.treesL n).filter keepC) : Tr.isLv t = true ∧ supA t = (false, 0) ∧ freeA t = (t, 0) := by
  rw [List.mem_filter] at ht
  have hlv := ((trees_all h1 h8).1 t ht.1).1
  have hcan := (trees_canC h1 h8).1 t ht.1
  have hk := ht.2
  unfold keepC condT at hk
  rw [Bool.and_eq_true, decide_eq_true_eq, Bool.not_eq_true'] at hk
  refine ⟨hlv, by rw [supA_yes hlv, hk.2], ?_⟩
  obtain ⟨_, q1, q2, q3, q4⟩ := free_parts hlv
  have e := txt_eqC q2 hlv q3 hcan
  rw [q1, ← hk.1, decide_eq_true rfl] at e
  rw [freeA_yes hlv]
  unfold eqL at e
  rw [of_decide_eq_true e.symm]
end Go.Proofs.Ytpmfpgfgkeejnaa
/-
  Sources of numbers in memory, as the laws and the models draw from: each number lies below what was asked for.
-/
namespace Go.Proofs.Ytpmfpgfgkeejnaa
open Go.RowKit Fld
set_option linter.unusedVariables false
set_option linter.unusedSimpArgs false
set_option maxRecDepth 100000

theorem Row.drewNd {w : World} {B : Nat} {A : Option Addr} {vs : List Value} (h : Row w B A vs) (n : Nat) : Row (w.drewN n) B A vs := h
theorem below_drewNd {B : Nat} {a w : World} (h : Below B a w) (n : Nat) : Below B a (w.drewN n) := ⟨h.os, h.tape, h.output, h.size, h.block⟩
/-- a source of numbers in memory: three cells -/
def SrcAt (w : World) (T : TypeId) (G : Nat) (A : Option Addr) (n c i : Nat) (h : Int) : Prop := w.heap[G]? = some (.cells #[.slice A n c, .int .i64 i, .int .u64 h] T (0, 0))
section
variable {w w' : World} {T : TypeId} {G n c i : Nat} {A : Option Addr} {h : Int}
theorem SrcAt.c0 (s : SrcAt w T G A n c i h) : w.cell? ⟨G, 0, none⟩ = some (.slice A n c) := by rw [cell_of_row w G 0 _ _ _ s]; rfl
theorem SrcAt.c1 (s : SrcAt w T G A n c i h) : w.cell? ⟨G, 1, none⟩ = some (.int .i64 i) := by rw [cell_of_row w G 1 _ _ _ s]; rfl
theorem SrcAt.c2 (s : SrcAt w T G A n c i h) : w.cell? ⟨G, 2, none⟩ = some (.int .u64 h) := by rw [cell_of_row w G 2 _ _ _ s]; rfl
theorem SrcAt.fr (s : SrcAt w T G A n c i h) (j : Nat) : w.frozen? ⟨G, j, none⟩ = false := frozen_of_row w G j _ _ s
theorem SrcAt.set1 (s : SrcAt w T G A n c i h) (i' : Nat) (v : Int) (hv : v = i') : SrcAt (w.setCell ⟨G, 1, none⟩ (.int .i64 v)) T G A n c i' h := by
  subst hv; exact heap_setCell_same w G 1 _ _ _ s
theorem SrcAt.set2 (s : SrcAt w T G A n c i h) (h' : Int) : SrcAt (w.setCell ⟨G, 2, none⟩ (.int .u64 h')) T G A n c i h' := heap_setCell_same w G 2 _ _ _ s
theorem SrcAt.drewN (s : SrcAt w T G A n c i h) (k : Nat) : SrcAt (w.drewN k) T G A n c i h := s
theorem SrcAt.lt (s : SrcAt w T G A n c i h) : G < w.heap.size := by
  rcases Nat.lt_or_ge G w.heap.size with g | g
  · exact g
  · unfold SrcAt at s; rw [Array.getElem?_eq_none g] at s; cases s
end
theorem mask_bd (z : Int) : 0 ≤ wrap64 (bits BinOp.and IntKind.u64 z 16777215) ∧ wrap64 (bits BinOp.and IntKind.u64 z 16777215) ≤ 16777215 := by
  have e : bits BinOp.and IntKind.u64 z 16777215 = ((BitVec.ofInt 64 z &&& BitVec.ofInt 64 16777215).toNat : Int) % 18446744073709551616 := rfl
  have h2 : (BitVec.ofInt 64 z &&& BitVec.ofInt 64 16777215).toNat ≤ 16777215 := by
    rw [BitVec.toNat_and]
    exact Nat.le_trans Nat.and_le_right (by decide)
  have h3 : bits BinOp.and IntKind.u64 z 16777215 = ((BitVec.ofInt 64 z &&& BitVec.ofInt 64 16777215).toNat : Int) := by rw [e]; omega
  rw [h3]
  unfold wrap64
  omega


def Src (w : World) (T : TypeId) (G B : Nat) (xs : List Int) : Prop :=
  ∃ A c i h, SrcAt w T G A xs.length c i h ∧ i ≤ xs.length ∧ B ≤ G ∧ Row w B A (intsK .u8 xs) ∧ xs.length ≤ 4096 ∧ ∀ x ∈ xs, 0 ≤ x ∧ x ≤ 255
/-- a number below m is drawn, and only the source turns -/
def Rolled (T : TypeId) (G B : Nat) (xs : List Int) (m : Int) (w : World) (e : Ending) (w' : World) : Prop :=
  ∃ r : Int, e = .returned (.int .i64 r) ∧ 0 ≤ r ∧ r < m ∧ Src w' T G B xs ∧ w.grownBy w' (some G)
theorem only_set {w w' : World} {G j : Nat} (h : w.grownBy w' (some G)) (u : Value) : w.grownBy (w'.setCell ⟨G, j, none⟩ u) (some G) :=
  ⟨h.os, h.tape, h.output, by simpa [World.setCell] using h.size, fun k hk hne => (Below.heap_setCell w' ⟨G, j, none⟩ u k (fun e => hne (by rw [e]))).trans (h.block k hk hne)⟩
theorem only_drewN {w w' : World} {G : Nat} (h : w.grownBy w' (some G)) (n : Nat) : w.grownBy (w'.drewN n) (some G) := ⟨h.os, h.tape, h.output, h.size, h.block⟩
theorem only_trans {a b c : World} {G : Nat} (h : a.grownBy b (some G)) (k : b.grownBy c (some G)) : a.grownBy c (some G) :=
  ⟨k.os.trans h.os, k.tape.trans h.tape, k.output.trans h.output, Nat.le_trans h.size k.size, fun i hi hne => (k.block i (Nat.lt_of_lt_of_le hi h.size) hne).trans (h.block i hi hne)⟩
theorem Row.only {w w' : World} {B G : Nat} {A : Option Addr} {vs : List Value} (h : Row w B A vs) (hg : w.grownBy w' (some G)) (hB : B ≤ G) : Row w' B A vs :=
  fun k v hv => by
    obtain ⟨b, o, e, hb, hc⟩ := h k v hv
    exact ⟨b, o, e, hb, hg.cell hc (fun e => by have := Option.some.inj e; simp at this; omega)⟩
theorem below_only {B : Nat} {a w w' : World} {G : Nat} (h : Below B a w) (hg : w.grownBy w' (some G)) (hB : B ≤ w.heap.size) (hG : B ≤ G) : Below B a w' :=
  h.grown hg hB (fun k hk => by cases hk; exact hG)


theorem big_any (A : Option Addr) (n c : Nat) (w : World) (hn : n ≤ 9223372036854775807) : Calls Try.prog 4 #[.slice A n c] w fun e w' => e = .returned (.bool (decide ((4096 : Int) < n))) ∧ w = w' := by
  go_enter Try.func4, Try.ntmps4
  go_wp2
  go_ret
  exact ⟨rfl, rfl⟩
set_option maxHeartbeats 800000 in
theorem l01Next_any (G B : Nat) (xs : List Int) (m : Int) (w : World) (hm : 1 ≤ m) (s : Src w 72 G B xs) :
    Calls Try.prog 46 #[.pointer (some ⟨G, 0, none⟩), .int .i64 m] w (Rolled 72 G B xs m w) := by
  obtain ⟨A, c, i, h, s, hi0, hBG, row, hn, hx⟩ := s
  have HX := Lib.hid hx
  clear hx
  have c2 := s.c2
  have f2 := s.fr 2
  have HS := Lib.hid s
  have HO : Hid (w.grownBy w (some G)) := World.grownBy.refl w (some G)
  clear s
  go_enter Try.func46, Try.ntmps46
  go_wp2_with fail
  generalize IntKind.u64.wrap (IntKind.u64.wrap (h * 6364136223846793005) + 1442695040888963407) = q
  obtain ⟨x0, x1⟩ := mask_bd (q / 8589934592)
  generalize wrap64 (bits BinOp.and IntKind.u64 (q / 8589934592) 16777215) = x at *
  have s2 := HS.out.set2 q
  have HO2 := Lib.hid (only_set (j := 2) HO.out (.int .u64 q))
  have row2 := row.only HO2.out hBG
  clear c2 f2 HS HO row
  generalize w.setCell ⟨G, 2, none⟩ (.int .u64 q) = W1 at *
  have c0 := s2.c0
  have c1 := s2.c1
  have f1 := s2.fr 1
  have HS := Lib.hid s2
  clear s2
  by_cases hi : i < xs.length
  · obtain ⟨y, hy⟩ := at_lt hi
    obtain ⟨b, o, rfl, hb, hc⟩ := row2 i _ (intsK_at hy)
    obtain ⟨y0, y1⟩ := HX.out y (List.mem_of_getElem? hy)
    have hne : b ≠ G := by omega
    clear hy
    go_quiet (fail)
    go_wp2_with fail
    go_quiet (fail)
    go_wp2
    go_ret
    exact ⟨_, rfl, Int.emod_nonneg _ (by omega), Int.emod_lt_of_pos _ (by omega), ⟨_, _, _, _, (HS.out.drewN _).set1 (i + 1) _ (by omega), by omega, hBG, Row.only (row2.drewNd _) (only_set (World.grownBy.refl _ _) _) hBG, hn, HX.out⟩, only_set (only_drewN HO2.out _) _⟩
  · go_quiet (fail)
    go_wp2
    go_ret
    exact ⟨_, rfl, Int.emod_nonneg _ (by omega), Int.emod_lt_of_pos _ (by omega), ⟨_, _, _, _, HS.out.drewN _, by omega, hBG, row2.drewNd _, hn, HX.out⟩, only_drewN HO2.out _⟩

/-- a new source over a list of bytes -/
def NewSrc (T : TypeId) (B : Nat) (xs : List Int) (w : World) (e : Ending) (w' : World) : Prop :=
  ∃ G, e = .returned (.pointer (some ⟨G, 0, none⟩)) ∧ w.heap.size ≤ G ∧ Src w' T G B xs ∧ Below w.heap.size w w'
def Hashing (w : World) (T : TypeId) (A : Option Addr) (n c : Nat) (wr : World) : Prop :=
  ∃ h, SrcAt wr T w.heap.size A n c (0 : Nat) h ∧ Below w.heap.size w wr
theorem Hashing.start (w : World) (T : TypeId) (A : Option Addr) (n c : Nat) (h : Int) : Hashing w T A n c (w.alloc (.cells #[.slice A n c, .int .i64 0, .int .u64 h] T)) :=
  ⟨h, heap_alloc_new w _, (Below.refl _ _).alloc (Nat.le_refl _) _⟩
theorem SrcAt.drew {w : World} {T : TypeId} {G n c i : Nat} {A : Option Addr} {h : Int} (s : SrcAt w T G A n c i h) : SrcAt w.drew T G A n c i h := s
theorem Hashing.step {w wr : World} {T : TypeId} {A : Option Addr} {n c : Nat} {h q : Int} (s : SrcAt wr T w.heap.size A n c (0 : Nat) h) (b : Below w.heap.size w wr) : Hashing w T A n c (wr.setCell ⟨w.heap.size, 2, none⟩ (.int .u64 q)).drew :=
  ⟨q, (s.set2 q).drew, (b.setCell (p := ⟨w.heap.size, 2, none⟩) (Nat.le_refl _) _).drew⟩
theorem Hashing.done {w wr : World} {T : TypeId} {A : Option Addr} {n c B : Nat} {h : Int} {xs : List Int} (s : SrcAt wr T w.heap.size A n c (0 : Nat) h) (b : Below w.heap.size w wr) (hl : xs.length = n) (hn : n ≤ 4096) (hB : B ≤ w.heap.size)
    (hr : Row w B A (intsK .u8 xs)) (hx : ∀ x ∈ xs, 0 ≤ x ∧ x ≤ 255) : NewSrc T B xs w (.returned (.pointer (some ⟨w.heap.size, 0, none⟩))) wr := by
  subst hl
  exact ⟨_, rfl, Nat.le_refl _, ⟨A, c, 0, h, s, by omega, hB, hr.below b hB, hn, hx⟩, b⟩
set_option maxRecDepth 100000 in
set_option maxHeartbeats 800000 in
theorem l01From_any (A : Option Addr) (n c B : Nat) (xs : List Int) (w : World) (hl : xs.length = n) (hn : n ≤ 4096) (hB : B ≤ w.heap.size) (h : Row w B A (intsK .u8 xs)) (hx : ∀ x ∈ xs, 0 ≤ x ∧ x ≤ 255) :
    Calls Try.prog 31 #[.slice A n c] w (NewSrc 72 B xs w) := by
  have HX := Lib.hid hx
  have HL := Lib.hid hl
  clear hx hl
  go_enter Try.func31, Try.ntmps31
  go_wp2_with fail
  go_loopw [4] (fun i wr => ∃ k : Nat, k ≤ n ∧ i = .int .i64 k ∧ Hashing w 72 A n c wr) (fun i _ => n - (intOf i).toNat)
  case atStart => exact ⟨0, Nat.zero_le _, rfl, Hashing.start ..⟩
  case round =>
    obtain ⟨k, hk, rfl, q0, hs, hb⟩ := hrel
    have c2 := hs.c2
    have f2 := hs.fr 2
    have HS := Lib.hid hs
    clear hs
    by_cases hlt : k < n
    · obtain ⟨y, hy⟩ := at_lt (show k < xs.length by rw [HL.out]; exact hlt)
      obtain ⟨b, o, rfl, hbB, hc⟩ := h.below hb hB k _ (intsK_at hy)
      obtain ⟨y0, y1⟩ := HX.out y (List.mem_of_getElem? hy)
      have hne : b ≠ w.heap.size := by omega
      clear hy
      go_wp2_with fail
      go_region
      all_goals
        go_wp2
        go_roundw
        case rel => exact ⟨k + 1, by omega, by go_num, Hashing.step HS.out hb⟩
        case measure => simp [intOf]; omega
    · obtain rfl : k = n := by omega
      have G := Lib.hid (Hashing.done HS.out hb HL.out hn hB h HX.out)
      clear c2 f2 HS
      go_wp2
      go_ret
      exact G.out

/-- a number of the field is drawn, and only the source (and new memory) turns -/
def Drawn (P : Int → Prop) (T : TypeId) (G B : Nat) (xs : List Int) (w : World) (e : Ending) (w' : World) : Prop :=
  ∃ r : Int, e = .returned (.int .i64 r) ∧ P r ∧ Src w' T G B xs ∧ w.grownBy w' (some G)
theorem only_alloc {w w' : World} {G : Nat} (h : w.grownBy w' (some G)) (o : Obj) : w.grownBy (w'.alloc o) (some G) :=
  ⟨h.os, h.tape, h.output, Nat.le_trans h.size (by simp), fun k hk hne => (Below.heap_alloc w' o k (Nat.lt_of_lt_of_le hk h.size)).trans (h.block k hk hne)⟩
theorem Src.lt {w : World} {T : TypeId} {G B : Nat} {xs : List Int} (s : Src w T G B xs) : G < w.heap.size := by
  obtain ⟨_, _, _, _, h, _⟩ := s; exact h.lt
theorem Src.alloc {w : World} {T : TypeId} {G B : Nat} {xs : List Int} (s : Src w T G B xs) (o : Obj) : Src (w.alloc o) T G B xs := by
  obtain ⟨A, c, i, h, h1, h2, h3, h4, h5⟩ := s
  exact ⟨A, c, i, h, (Below.heap_alloc w o G h1.lt).trans h1, h2, h3, h4.alloc (by have := h1.lt; omega) o, h5⟩
theorem Src.below {w w' : World} {T : TypeId} {G B : Nat} {xs : List Int} (s : Src w T G B xs) (hb : Below w.heap.size w w') : Src w' T G B xs := by
  obtain ⟨A, c, i, h, h1, h2, h3, h4, h5⟩ := s
  exact ⟨A, c, i, h, (hb.block G h1.lt).trans h1, h2, h3, h4.below hb (by have := h1.lt; omega), h5⟩
def IsN (r : Int) : Prop := 0 ≤ r ∧ r < 10007
def IsI64 (r : Int) : Prop := -9223372036854775808 ≤ r ∧ r ≤ 9223372036854775807

/-- one of a list is drawn -/
theorem l01Pick_any (G B : Nat) (xs : List Int) (A : Option Addr) (n c C : Nat) (ys : List Int) (w : World) (s : Src w 72 G B xs) (h : Row w C A (ints ys)) (hG : ∀ b o, A = some ⟨b, o, none⟩ → b ≠ G) (hl : ys.length = n) (hn : 1 ≤ n) (hm : n ≤ 1048576) :
    Calls Try.prog 30 #[.pointer (some ⟨G, 0, none⟩), .slice A n c] w (Drawn (· ∈ ys) 72 G B xs w) := by
  have HL := Lib.hid hl
  clear hl
  go_enter Try.func30, Try.ntmps30
  go_wp2_with fail
  refine (l01Next_any G B xs _ _ (by omega) s).mono ?_
  rintro e w1 ⟨r, rfl, r0, r1, s1, o1⟩
  obtain ⟨k, rfl⟩ := Int.eq_ofNat_of_zero_le r0
  obtain ⟨y, hy⟩ := at_lt (show k < ys.length by rw [HL.out]; omega)
  obtain ⟨b, o, rfl, hb, hc⟩ := h k _ (ints_at hy)
  have hne := hG b o rfl
  have hc1 := o1.cell hc (fun e => hne (by have := Option.some.inj e; simpa using this))
  have HY := Lib.hid (List.mem_of_getElem? hy)
  clear hy hc
  go_wp2
  go_ret
  exact ⟨_, rfl, HY.out, s1, o1⟩

theorem mem_small {r : Int} (h : r ∈ ([0, 1, 0, 1, 10006, 2] : List Int)) : IsN r := by
  simp at h; unfold IsN; omega
theorem mem_spoil {r : Int} (h : r ∈ ([-1, 10007, 1099511627776, -4611686018427387904] : List Int)) : IsI64 r := by
  simp at h; unfold IsI64; omega
theorem i64_of_n {r : Int} (h : IsN r) : IsI64 r := by unfold IsN at h; unfold IsI64; omega
/-- two numbers that are drawn out of a code -/
def DrawnTwo (P Q : Int → Prop) (w : World) (e : Ending) (w' : World) : Prop := ∃ a b : Int, e = .returned (.tuple #[.int .i64 a, .int .i64 b]) ∧ P a ∧ Q b ∧ Below w.heap.size w w'
def DrawnOne (P : Int → Prop) (w : World) (e : Ending) (w' : World) : Prop := ∃ a : Int, e = .returned (.int .i64 a) ∧ P a ∧ Below w.heap.size w w'
/-- a code that came in -/
def IsCode (w : World) (A : Option Addr) (n : Nat) (xs : List Int) : Prop := xs.length = n ∧ Row w w.heap.size A (intsK .u8 xs) ∧ ∀ x ∈ xs, 0 ≤ x ∧ x ≤ 255
theorem isCode_of {w : World} {A : Option Addr} {n c : Nat} {xs : List Int} (h : IsRow .u8 w A n c xs) : IsCode w A n xs := by
  obtain ⟨h1, _, _, h4, h5⟩ := h
  exact ⟨h1, h4, fun x hx => by simpa [Lit.wf, IntKind.min, IntKind.max, IntKind.signed, IntKind.bits] using h5 x hx⟩
theorem IsCode.below {w w' : World} {A : Option Addr} {n : Nat} {xs : List Int} (h : IsCode w A n xs) (hb : Below w.heap.size w w') : IsCode w' A n xs :=
  ⟨h.1, (h.2.1.below hb (Nat.le_refl _)).more hb.size, h.2.2⟩
end Go.Proofs.Ytpmfpgfgkeejnaa
/-
  The laws' comparison of lists; lists in memory.
-/
namespace Go.Proofs.Ytpmfpgfgkeejnaa
open Go.RowKit Fld
set_option linter.unusedVariables false
set_option linter.unusedSimpArgs false
set_option maxRecDepth 100000

set_option maxHeartbeats 400000 in
theorem likeInts_any (A A' : Option Addr) (n n' c c' B B' : Nat) (xs ys : List Int) (w : World) (hl : xs.length = n) (hl' : ys.length = n') (hn : n ≤ 9223372036854775807) (hn' : n' ≤ 9223372036854775807) (h : Row w B A (ints xs)) (h' : Row w B' A' (ints ys)) :
    Calls Try.prog 11 #[.slice A n c, .slice A' n' c'] w fun e w' => e = .returned (.bool (eqL xs ys)) ∧ ∃ m, w' = w.drewN m := by
  have HL := Lib.hid hl
  have HL' := Lib.hid hl'
  clear hl hl'
  by_cases hnn : n = n'
  · subst hnn
    go_enter Try.func11, Try.ntmps11
    go_wp2_with fail
    go_loopw [5] (fun i wr => ∃ k m : Nat, k ≤ n ∧ i = .int .i64 k ∧ wr = w.drewN m ∧ Hid (xs.take k = ys.take k)) (fun i _ => n - (intOf i).toNat)
    case atStart => exact ⟨0, 0, Nat.zero_le _, rfl, rfl, rfl⟩
    case round =>
      obtain ⟨k, m, hk, rfl, rfl, HT⟩ := hrel
      by_cases hlt : k < n
      · obtain ⟨x, hx⟩ := at_lt (show k < xs.length by rw [HL.out]; exact hlt)
        obtain ⟨y, hy⟩ := at_lt (show k < ys.length by rw [HL'.out]; exact hlt)
        obtain ⟨b, o, rfl, _, hc⟩ := h k _ (ints_at hx)
        obtain ⟨b', o', rfl, _, hc'⟩ := h' k _ (ints_at hy)
        by_cases hxy : x = y
        · subst hxy
          have G := Lib.hid (take_same HT.out hx hy)
          clear hx hy HT
          go_wp2_with fail
          go_quiet (fail)
          go_wp2
          go_roundw
          case rel => exact ⟨k + 1, _, by omega, by go_num, rfl, G⟩
          case measure => simp [intOf]; omega
        · have G := Lib.hid (eqL_at hx hy hxy)
          have t := bne_t hxy
          clear hx hy HT hxy
          go_wp2_with fail
          go_quiet (fail)
          go_wp2
          go_ret
          exact ⟨ret_bool G.out.symm, _, World.drewN_drewN ..⟩
      · obtain rfl : k = n := by omega
        have G := Lib.hid (eqL_end HT.out HL.out HL'.out)
        clear HT
        go_wp2
        go_ret
        exact ⟨ret_bool G.out.symm, _, rfl⟩
  · have G := Lib.hid (eqL_len (xs := xs) (ys := ys) (by rw [HL.out, HL'.out]; exact hnn))
    have t := bne_t (show (n : Int) ≠ (n' : Int) by omega)
    clear hnn
    go_enter Try.func11, Try.ntmps11
    go_wp2
    go_ret
    exact ⟨ret_bool G.out.symm, 0, rfl⟩

/-- a list in memory -/
def Lst (w : World) (A : Option Addr) (L : List Int) : Prop := Row w w.heap.size A (ints L)
theorem Lst.next {w w' : World} {A : Option Addr} {L : List Int} (h : Lst w A L) (b : Below w.heap.size w w') : Lst w' A L := (Row.below h b (Nat.le_refl _)).more b.size
theorem Lst.drew {w : World} {A : Option Addr} {L : List Int} (h : Lst w A L) (n : Nat) : Lst (w.drewN n) A L := h
theorem Lst.redrew {w : World} {A : Option Addr} {L : List Int} {a : Nat} (h : Lst (w.drewN a) A L) (n : Nat) : Lst (w.drewN (a + n)) A L := h
theorem below_redrewN {B : Nat} {a w : World} {m : Nat} (h : Below B a (w.drewN m)) (n : Nat) : Below B a (w.drewN (m + n)) := below_drewN (w := w) ⟨h.os, h.tape, h.output, h.size, h.block⟩ _
theorem Src.drew {w : World} {T : TypeId} {G B : Nat} {xs : List Int} (s : Src w T G B xs) (n : Nat) : Src (w.drewN n) T G B xs := s
theorem Src.redrew {w : World} {T : TypeId} {G B a : Nat} {xs : List Int} (s : Src (w.drewN a) T G B xs) (n : Nat) : Src (w.drewN (a + n)) T G B xs := s
theorem Lst.alloc {w : World} {A : Option Addr} {L : List Int} (h : Lst w A L) (o : Obj) : Lst (w.alloc o) A L := h.next ((Below.refl _ _).alloc (Nat.le_refl _) _)
theorem Lst.only {w w' : World} {A : Option Addr} {L : List Int} {G B : Nat} (h : Row w B A (ints L)) (hB : B ≤ w.heap.size) (k : w.grownBy w' (some G)) (hG : B ≤ G) : Lst w' A L := (Row.only h k hG).more (Nat.le_trans hB k.size)
theorem below_step {B : Nat} {a w w' : World} (h : Below B a w) (hB : B ≤ w.heap.size) (k : Below w.heap.size w w') : Below B a w' := h.trans (k.mono hB)
/-- a list in memory below B -/
def Low (w : World) (B : Nat) (A : Option Addr) (L : List Int) : Prop := Row w B A (ints L) ∧ B ≤ w.heap.size
theorem Low.of {w : World} {A : Option Addr} {L : List Int} (h : Lst w A L) : Low w w.heap.size A L := ⟨h, Nat.le_refl _⟩
theorem Low.next {w w' : World} {B : Nat} {A : Option Addr} {L : List Int} (h : Low w B A L) (b : Below w.heap.size w w') : Low w' B A L := ⟨Row.below h.1 b h.2, Nat.le_trans h.2 b.size⟩
theorem Low.drew {w : World} {B : Nat} {A : Option Addr} {L : List Int} (h : Low w B A L) (n : Nat) : Low (w.drewN n) B A L := h
theorem Low.redrew {w : World} {B a : Nat} {A : Option Addr} {L : List Int} (h : Low (w.drewN a) B A L) (n : Nat) : Low (w.drewN (a + n)) B A L := h
theorem Low.only {w w' : World} {B G : Nat} {A : Option Addr} {L : List Int} (h : Low w B A L) (k : w.grownBy w' (some G)) (hG : B ≤ G) : Low w' B A L := ⟨Row.only h.1 k hG, Nat.le_trans h.2 k.size⟩
theorem Low.lst {w : World} {B : Nat} {A : Option Addr} {L : List Int} (h : Low w B A L) : Lst w A L := Row.more h.1 h.2
theorem likeInts_yes (A A' : Option Addr) (n n' c c' : Nat) (xs ys : List Int) (w : World) (e : xs = ys) (hl : xs.length = n) (hl' : ys.length = n') (hn : n ≤ 1048576) (h : Lst w A xs) (h' : Lst w A' ys) :
    Calls Try.prog 11 #[.slice A n c, .slice A' n' c'] w fun e w' => e = .returned (.bool true) ∧ ∃ m, w' = w.drewN m := by
  subst e
  refine (likeInts_any A A' n n' c c' _ _ xs xs w hl hl' (by omega) (by omega) h h').mono ?_
  rintro e w' ⟨rfl, m, rfl⟩
  exact ⟨by rw [eqL_self], m, rfl⟩
end Go.Proofs.Ytpmfpgfgkeejnaa
/-
  Draws of lists: worlds in which a source and rows of the call's own have turned.
-/
namespace Go.Proofs.Ytpmfpgfgkeejnaa
open Go.RowKit Fld
set_option linter.unusedVariables false
set_option linter.unusedSimpArgs false
set_option maxRecDepth 100000

/-- a row of the call's own has turned, and the source -/
theorem only_row {w a b : World} {G g : Nat} (h : w.grownBy a (some G)) (k : a.grownBy b (some g)) (hg : w.heap.size ≤ g) : w.grownBy b (some G) :=
  ⟨k.os.trans h.os, k.tape.trans h.tape, k.output.trans h.output, Nat.le_trans h.size k.size, fun i hi hne => (k.block i (Nat.lt_of_lt_of_le hi h.size) (fun e => by have := Option.some.inj e; omega)).trans (h.block i hi hne)⟩
theorem Src.only {w w' : World} {T : TypeId} {G B g : Nat} {xs : List Int} (s : Src w T G B xs) (k : w.grownBy w' (some g)) (hg : g ≠ G) (hB : B ≤ g) : Src w' T G B xs := by
  obtain ⟨A, c, i, h, h1, h2, h3, h4, h5⟩ := s
  exact ⟨A, c, i, h, (k.block G h1.lt (fun e => hg (Option.some.inj e).symm)).trans h1, h2, h3, h4.only k hB, h5⟩
/-- a list that was drawn: its own memory, and only the source has turned -/
def DrawnL (P : List Int → Prop) (T : TypeId) (G B : Nat) (xs : List Int) (w : World) (e : Ending) (w' : World) : Prop :=
  ∃ g c n, ∃ ys : List Int, e = .returned (.slice (some ⟨g, 0, none⟩) n c) ∧ ys.length = n ∧ P ys ∧ w'.ownsRow w.heap.size 2 1 (.slice (some ⟨g, 0, none⟩) n c) n (ints ys) ∧ Src w' T G B xs ∧ w.grownBy w' (some G)
theorem own_past {w w1 : World} {base G g n c : Nat} {vs : List Value} (h : w.ownsRow base 2 1 (.slice (some ⟨g, 0, none⟩) n c) n vs) (hG : G < base) (o : w.grownBy w1 (some G)) : w1.ownsRow base 2 1 (.slice (some ⟨g, 0, none⟩) n c) n vs :=
  h.kept o (.inr (fun e => by have h1 := (h.lt g rfl).1; have h2 : g = G := (by simpa [Value.ownBlock] using e); omega))
theorem own_room {w : World} {base n c : Nat} {A : Option Addr} {vs : List Value} (h : w.ownsRow base 2 1 (.slice A n c) n vs) : n ≤ c := by
  rcases h.2 with ⟨e1, e2⟩ | ⟨g, cap, cur, e1, _, _, e2, _⟩
  · omega
  · injection e1 with e3 e4 e5; omega
theorem row_only {w w' : World} {base G g n c : Nat} {vs : List Value} (h : w.ownsRow base 2 1 (.slice (some ⟨g, 0, none⟩) n c) n vs) (hG : G < base) (o : w.grownBy w' (some G)) : Row w' w'.heap.size (some ⟨g, 0, none⟩) vs := row_of_own (own_past h hG o)
theorem own_pastv {w w1 : World} {base G n k : Nat} {T : TypeId} {v : Value} {vs : List Value} (h : w.ownsRow base T k v n vs) (hG : G < base) (o : w.grownBy w1 (some G)) : w1.ownsRow base T k v n vs := h.kept o (.inr (fun e => by have := (h.lt G e).1; omega))
/-- a list that was drawn, or none -/
def DrawnR (P : List Int → Prop) (T : TypeId) (G B : Nat) (xs : List Int) (w : World) (e : Ending) (w' : World) : Prop :=
  ∃ A c n, ∃ ys : List Int, e = .returned (.slice A n c) ∧ ys.length = n ∧ P ys ∧ w'.ownsRow w.heap.size 2 1 (.slice A n c) n (ints ys) ∧ Src w' T G B xs ∧ w.grownBy w' (some G)
theorem only_below {w a b : World} {G : Nat} (h : w.grownBy a (some G)) (k : Below a.heap.size a b) : w.grownBy b (some G) :=
  ⟨k.os.trans h.os, k.tape.trans h.tape, k.output.trans h.output, Nat.le_trans h.size k.size, fun i hi hne => (k.block i (Nat.lt_of_lt_of_le hi h.size)).trans (h.block i hi hne)⟩
end Go.Proofs.Ytpmfpgfgkeejnaa
