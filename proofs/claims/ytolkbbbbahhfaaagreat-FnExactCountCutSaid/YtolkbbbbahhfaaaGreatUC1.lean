/-
  Texts of this seat, joined: what several laws lean on.
-/
import Derived.Test.YtolkbbbbahhfaaaGreatTreeE
import Derived.Test.YtolkbbbbahhfaaaGreatField
import Derived.Test.YtolkbbbbahhfaaaGreatRootP
import Derived.Test.YtolkbbbbahhfaaaGreatSrtF
import Derived.RangeFuncNested
import Derived.RangeFuncCalls
import Derived.RangeFuncLeaves
import Derived.WalkKit
import Derived.OrdersIn
import Derived.OrdersHeld
import Derived.Deep.RegionHeld3
import Derived.Test.YtolkbbbbahhfaaaGreatLvl
import Derived.Test.YtolkbbbbahhfaaaGreatTreeD
import Derived.Outline
import Derived.Laws.DeepStrings4
import Derived.Test.YtolkbbbbahhfaaaGreatCmp
import Derived.Test.YtolkbbbbahhfaaaGreatTxt
import Derived.Laws.Strings2
import Derived.Test.YtolkbbbbahhfaaaGreatNestc
import Derived.Test.YtolkbbbbahhfaaaGreatSCan
import Derived.Test.YtolkbbbbahhfaaaGreatForest
import Derived.Test.YtolkbbbbahhfaaaGreatOwn1
import Derived.Test.YtolkbbbbahhfaaaGreatPush
import Derived.Test.YtolkbbbbahhfaaaGreatForP
import Derived.Test.YtolkbbbbahhfaaaGreatMark1
import Derived.Shelf.Abstract
import Derived.OwnWalkIn
import Derived.TacticsInMore
import Derived.Deep.MidRow
import Derived.DeepKeys4
import Derived.WideKeyEntry
import Derived.Maps.OwnSet
import Derived.Test.YtolkbbbbahhfaaaGreatLev
import Derived.Test.YtolkbbbbahhfaaaGreatTreesOfU
import Derived.Test.YtolkbbbbahhfaaaGreatSpP
import Derived.Test.YtolkbbbbahhfaaaGreatSpM
import Derived.Deep.AppendLies
import Derived.Test.YtolkbbbbahhfaaaGreatSort
import Derived.Test.YtolkbbbbahhfaaaGreatParts
import Derived.Test.YtolkbbbbahhfaaaGreatTreeC
/-
  The text of a forest is read back into its trees.
-/
namespace Go.Proofs.YtolkbbbbahhfaaaGreat
open Go.RowKit Fld
set_option linter.unusedVariables false
set_option linter.unusedSimpArgs false
set_option maxRecDepth 100000

/-- a text that comes back to depth 0 at its end alone -/
def go1 : Nat → List UInt8 → Bool
  | _, [] => false
  | o, [c] => decide (c = 93) && decide (o = 1)
  | o, c :: d :: r => if c = 91 then go1 (o + 1) (d :: r) else decide (c = 93) && decide (1 < o) && go1 (o - 1) (d :: r)
theorem go1_read : ∀ (x : List UInt8) (o : Nat) (cur : List UInt8) (acc : List (List UInt8)) (r : List UInt8), go1 o x = true → Tr.trF cur o acc (x ++ r) = Tr.trF [] 0 (acc ++ [cur ++ x]) r
  | [], _, _, _, _, h => by simp [go1] at h
  | [c], o, cur, acc, r, h => by
    simp only [go1, Bool.and_eq_true, decide_eq_true_eq] at h
    obtain ⟨rfl, rfl⟩ := h
    rw [List.singleton_append, Tr.trF, if_neg (by decide), if_pos rfl, if_neg (by decide), if_pos rfl]
  | c :: d :: t, o, cur, acc, r, h => by
    rw [go1] at h
    split at h
    · rename_i hc
      rw [List.cons_append, Tr.trF, if_pos hc, go1_read (d :: t) (o + 1) _ _ _ h, List.append_assoc, List.singleton_append]
    · rename_i hc
      simp only [Bool.and_eq_true, decide_eq_true_eq] at h
      obtain ⟨⟨h1, h2⟩, h3⟩ := h
      rw [List.cons_append, Tr.trF, if_neg hc, if_pos h1, if_neg (by omega), if_neg (by omega), go1_read (d :: t) (o - 1) _ _ _ h3, List.append_assoc, List.singleton_append]
theorem go1_all : Tr.allT.all (go1 0) = true := by decide +kernel
theorem tr_flat : ∀ (ss acc : List (List UInt8)), (∀ x ∈ ss, Tr.isTx x = true) → Tr.trF [] 0 acc ss.flatten = (acc ++ ss, true)
  | [], acc, _ => by simp [Tr.trF]
  | x :: ss, acc, h => by
    rw [List.flatten_cons, go1_read x 0 [] acc _ (Tr.tx_of go1_all (h x (by simp))), List.nil_append, tr_flat ss (acc ++ [x]) (fun y hy => h y (by simp [hy])), List.append_assoc, List.singleton_append]
end Go.Proofs.YtolkbbbbahhfaaaGreat
/-
  Cuts of trees and forests, plainly: pairs of lists of texts of trees (what is cut off, what stays).
-/
namespace Go.Proofs.YtolkbbbbahhfaaaGreat
open Go.RowKit Fld
set_option linter.unusedVariables false
set_option linter.unusedSimpArgs false
set_option maxRecDepth 100000

abbrev Tx := List UInt8
abbrev Ct := List Tx × List Tx
def besT (c d : Ct) : Ct := (Tr.sortT (c.1 ++ d.1), Tr.sortT (c.2 ++ d.2))
def togT (p q : List Ct) : List Ct := p.flatMap fun c => q.map (besT c)
def rootC (c : Ct) : Ct := (c.1, [Tr.wrap (Tr.sortS c.2)])
def ctF : Nat → Tx → List Ct
  | 0, x => []
  | k+1, x => ((Tr.brT x).foldl (fun acc b => togT acc (ctF k b)) [([], [])]).map rootC ++ [([x], [])]
def ctsOfF (k : Nat) (ts : List Tx) : List Ct := ts.foldl (fun acc b => togT acc (ctF k b)) [([], [])]
theorem ctF_succ (k : Nat) (x : Tx) : ctF (k + 1) x = ((Tr.brT x).foldl (fun acc b => togT acc (ctF k b)) [([], [])]).map rootC ++ [([x], [])] := rfl
/-- all cuts of a tree, of a forest -/
def cts (x : Tx) : List Ct := ctF 8 x
def ctsOf (ts : List Tx) : List Ct := ts.foldl (fun acc b => togT acc (cts b)) [([], [])]
/-- bytes of a list of texts -/
def byT (ts : List Tx) : Nat := (ts.map List.length).sum
theorem byT_flat (ts : List Tx) : ts.flatten.length = byT ts := by
  unfold byT; rw [List.length_flatten]
theorem byT_app (a b : List Tx) : byT (a ++ b) = byT a + byT b := by simp [byT]
theorem byT_perm {a b : List Tx} (h : a.Perm b) : byT a = byT b := (h.map _).sum_nat
/-- a cut that has m bytes of trees -/
def OkC (m : Nat) (c : Ct) : Prop := (∀ t ∈ c.1, Tr.isTx t = true) ∧ (∀ t ∈ c.2, Tr.isTx t = true) ∧ byT c.1 + byT c.2 = m
theorem len_byT {ts : List Tx} (h : ∀ t ∈ ts, Tr.isTx t = true) : 2 * ts.length ≤ byT ts := by
  induction ts with
  | nil => simp [byT]
  | cons a r ih =>
    have h1 := (Tr.br_parts (h a (by simp))).1.1
    have h2 := ih (fun t ht => h t (by simp [ht]))
    unfold byT at *
    rw [List.map_cons, List.sum_cons, List.length_cons]; omega
theorem besT_ok {m n : Nat} {c d : Ct} (hc : OkC m c) (hd : OkC n d) : OkC (m + n) (besT c d) := by
  obtain ⟨c1, c2, c3⟩ := hc
  obtain ⟨d1, d2, d3⟩ := hd
  refine ⟨fun t ht => ?_, fun t ht => ?_, ?_⟩
  · have := (sortT_perm (c.1 ++ d.1)).mem_iff.1 ht
    rw [List.mem_append] at this
    exact this.elim (c1 t) (d1 t)
  · have := (sortT_perm (c.2 ++ d.2)).mem_iff.1 ht
    rw [List.mem_append] at this
    exact this.elim (c2 t) (d2 t)
  · unfold besT
    rw [byT_perm (sortT_perm _), byT_perm (sortT_perm _), byT_app, byT_app]; omega
theorem togT_ok {m n : Nat} {p q : List Ct} (hp : ∀ c ∈ p, OkC m c) (hq : ∀ c ∈ q, OkC n c) : ∀ c ∈ togT p q, OkC (m + n) c := fun c hc => by
  unfold togT at hc
  rw [List.mem_flatMap] at hc
  obtain ⟨a, ha, hc⟩ := hc
  rw [List.mem_map] at hc
  obtain ⟨b, hb, rfl⟩ := hc
  exact besT_ok (hp a ha) (hq b hb)
/-- a root on texts of trees -/
theorem wrap_tx {ts : List Tx} (h : ∀ t ∈ ts, Tr.isTx t = true) (h14 : byT ts ≤ 14) : Tr.isTx (Tr.wrap (Tr.sortS ts)) = true ∧ (Tr.wrap (Tr.sortS ts)).length = byT ts + 2 := by
  have e1 : ts = (ts.map Tr.lvl).map Tr.txt := by
    rw [List.map_map]
    conv => lhs; rw [← List.map_id ts]
    apply List.map_congr_left
    intro t ht
    have := h t ht
    unfold Tr.isTx at this
    rw [Bool.and_eq_true, beq_iff_eq] at this
    exact this.2.symm
  have hlv : ∀ r ∈ ts.map Tr.lvl, Tr.isLv r = true := fun r hr => by
    rw [List.mem_map] at hr
    obtain ⟨t, ht, rfl⟩ := hr
    have := h t ht
    unfold Tr.isTx at this
    rw [Bool.and_eq_true] at this
    exact this.1
  have hb : byT ts = 2 * total (ts.map Tr.lvl) := by
    rw [← byT_flat]
    conv => lhs; rw [e1]
    exact flat_txt hlv
  have hr := root_txt hlv (by omega)
  rw [← e1] at hr
  have hu := up_lv hlv (show total (ts.map Tr.lvl) ≤ 7 by omega)
  refine ⟨by rw [hr]; exact Tr.tx_txt hu, ?_⟩
  rw [hr, (lv_txt hu).2.2.2, hb]
  have : (Tr.up (ts.map Tr.lvl)).length = total (ts.map Tr.lvl) + 1 := by
    unfold Tr.up; rw [List.length_cons, List.length_map, flat_total]
  omega
def chkQ (x : Tx) : Bool := decide (byT (Tr.brT x) + 2 = x.length)
theorem chkQ_all : Tr.allT.all chkQ = true := by decide +kernel
theorem br_byT {x : Tx} (h : Tr.isTx x = true) : byT (Tr.brT x) + 2 = x.length := by
  have := Tr.tx_of chkQ_all h
  unfold chkQ at this
  exact of_decide_eq_true this
theorem mem_byT {ts : List Tx} {b : Tx} (h : b ∈ ts) : b.length ≤ byT ts := by
  induction ts with
  | nil => cases h
  | cons a r ih =>
    have e : byT (a :: r) = a.length + byT r := by simp [byT]
    rcases List.mem_cons.1 h with rfl | h
    · omega
    · have := ih h; omega
theorem fold_ok {k : Nat} (f : Tx → List Ct) : ∀ (ts : List Tx) (acc : List Ct) (m : Nat), (∀ b ∈ ts, ∀ c ∈ f b, OkC b.length c) → (∀ c ∈ acc, OkC m c) → ∀ c ∈ ts.foldl (fun acc b => togT acc (f b)) acc, OkC (m + byT ts) c
  | [], acc, m, _, ha, c, hc => by simpa [byT] using ha c hc
  | b :: ts, acc, m, hf, ha, c, hc => by
    have := fold_ok (k := k) f ts (togT acc (f b)) (m + b.length) (fun b' hb' => hf b' (by simp [hb'])) (togT_ok ha (hf b (by simp))) c hc
    have e : byT (b :: ts) = b.length + byT ts := by simp [byT]
    rw [e, ← Nat.add_assoc]; exact this
theorem unit_ok : ∀ c ∈ ([([], [])] : List Ct), OkC 0 c := fun c hc => by
  rw [List.mem_singleton] at hc
  subst hc
  exact ⟨by simp, by simp, rfl⟩
theorem ctF_ok : ∀ (k : Nat) (x : Tx), Tr.isTx x = true → x.length / 2 ≤ k → ∀ c ∈ ctF k x, OkC x.length c
  | 0, x, hx, hk, c, hc => by cases hc
  | k+1, x, hx, hk, c, hc => by
    obtain ⟨⟨h2, h16⟩, hb, h7⟩ := Tr.br_parts hx
    have hq := br_byT hx
    rw [ctF, List.mem_append, List.mem_map] at hc
    rcases hc with ⟨d, hd, rfl⟩ | hc
    · have := fold_ok (k := k) (ctF k) (Tr.brT x) [([], [])] 0 (fun b hb' c hc => ctF_ok k b (hb b hb').1 (by have := mem_byT hb'; omega) c hc) unit_ok d hd
      obtain ⟨d1, d2, d3⟩ := this
      have hw := wrap_tx d2 (by omega)
      exact ⟨d1, fun t ht => by simp only [rootC, List.mem_singleton] at ht; subst ht; exact hw.1, by
        show byT d.1 + byT [Tr.wrap (Tr.sortS d.2)] = x.length
        have e : byT [Tr.wrap (Tr.sortS d.2)] = byT d.2 + 2 := by simp [byT, hw.2]
        omega⟩
    · rw [List.mem_singleton] at hc
      subst hc
      exact ⟨fun t ht => by rw [List.mem_singleton] at ht; subst ht; exact hx, by simp, by simp [byT]⟩
theorem ctF_fuel : ∀ (k j : Nat) (x : Tx), Tr.isTx x = true → x.length / 2 ≤ k → k ≤ j → ctF k x = ctF j x
  | 0, j, x, hx, hk, hj => by have := (Tr.br_parts hx).1.1; omega
  | k+1, 0, x, hx, hk, hj => by omega
  | k+1, j+1, x, hx, hk, hj => by
    obtain ⟨⟨h2, h16⟩, hb, h7⟩ := Tr.br_parts hx
    rw [ctF, ctF]
    congr 2
    have : ∀ (ts : List Tx) (acc : List Ct), (∀ b ∈ ts, b ∈ Tr.brT x) → ts.foldl (fun acc b => togT acc (ctF k b)) acc = ts.foldl (fun acc b => togT acc (ctF j b)) acc := fun ts => by
      induction ts with
      | nil => intro acc _; rfl
      | cons a r ih =>
        intro acc h
        rw [List.foldl_cons, List.foldl_cons, ctF_fuel k j a (hb a (h a (by simp))).1 (by have := mem_byT (h a (by simp)); have := br_byT hx; omega) (by omega)]
        exact ih _ (fun b hb' => h b (by simp [hb']))
    exact this _ _ (fun b hb' => hb')
theorem cts_ok {x : Tx} (hx : Tr.isTx x = true) : ∀ c ∈ cts x, OkC x.length c := by
  unfold cts
  exact ctF_ok 8 x hx (by have := (Tr.br_parts hx).1.2; omega)
/-- the cuts of a tree are those of its branches, and that of all of it -/
theorem cts_eq {x : Tx} (hx : Tr.isTx x = true) : cts x = (ctsOf (Tr.brT x)).map rootC ++ [([x], [])] := by
  obtain ⟨⟨h2, h16⟩, hb, h7⟩ := Tr.br_parts hx
  have fold : ∀ (ts : List Tx) (acc : List Ct), (∀ b ∈ ts, b ∈ Tr.brT x) → ts.foldl (fun acc b => togT acc (ctF 7 b)) acc = ts.foldl (fun acc b => togT acc (ctF 8 b)) acc := fun ts => by
    induction ts with
    | nil => intro acc _; rw [List.foldl_nil, List.foldl_nil]
    | cons a r ih =>
      intro acc h
      rw [List.foldl_cons, List.foldl_cons, ← ctF_fuel 7 8 a (hb a (h a (by simp))).1 (by have := mem_byT (h a (by simp)); have := br_byT hx; omega) (by omega)]
      exact ih _ (fun b hb' => h b (by simp [hb']))
  have e := fold (Tr.brT x) [([], [])] (fun b hb' => hb')
  unfold ctsOf cts
  rw [← e]
  exact ctF_succ 7 x
theorem ctsOf_ok {ts : List Tx} (h : ∀ t ∈ ts, Tr.isTx t = true) : ∀ c ∈ ctsOf ts, OkC (byT ts) c := fun c hc => by
  have := fold_ok (k := 0) cts ts [([], [])] 0 (fun b hb => cts_ok (h b hb)) unit_ok c hc
  rwa [Nat.zero_add] at this
theorem ctsOf_step {ts : List Tx} {k : Nat} {b : Tx} (h : ts[k]? = some b) : ctsOf (ts.take (k + 1)) = togT (ctsOf (ts.take k)) (cts b) := by
  unfold ctsOf; rw [List.take_add_one, h, Option.toList_some, List.foldl_append]; rfl
theorem togT_length (p q : List Ct) : (togT p q).length = p.length * q.length := by
  unfold togT
  induction p with
  | nil => simp
  | cons a r ih => rw [List.flatMap_cons, List.length_append, List.length_map, ih, List.length_cons, Nat.succ_mul]; omega
end Go.Proofs.YtolkbbbbahhfaaaGreat
/-
  A loop over a function whose own steps turn blocks of its own: what it promises (Its), what a caller's invariant has to bear (Abd), and the law of the loop, outside and inside of a round.
-/
namespace Go.Proofs.YtolkbbbbahhfaaaGreat
open Go.RowKit
set_option linter.unusedVariables false

/-- an invariant that bears new blocks, and turns of blocks from B on that are no cells -/
structure Abd {β : Type} (B : Nat) (J : β → World → Prop) : Prop where
  more : ∀ s W W', J s W → Below W.heap.size W W' → J s W'
  turn : ∀ s W l o o', J s W → B ≤ l → W.heap[l]? = some o → o.isCells = false → J s (W.putObj l o')
theorem Abd.and {β : Type} {B : Nat} {J K : β → World → Prop} (h : Abd B J) (k : Abd B K) : Abd B (fun s W => J s W ∧ K s W) :=
  ⟨fun s W W' hs hb => ⟨h.more s W W' hs.1 hb, k.more s W W' hs.2 hb⟩, fun s W l o o' hs hB hl ho => ⟨h.turn s W l o o' hs.1 hB hl ho, k.turn s W l o o' hs.2 hB hl ho⟩⟩
theorem Abd.pure {β : Type} (B : Nat) (p : β → Prop) : Abd B (fun s (_ : World) => p s) := ⟨fun _ _ _ hs _ => hs, fun _ _ _ _ _ hs _ _ _ => hs⟩
theorem Abd.up {β : Type} {B B' : Nat} {J : β → World → Prop} (h : Abd B J) (hB : B ≤ B') : Abd B' J := ⟨h.more, fun s W l o o' hs hl h1 h2 => h.turn s W l o o' hs (Nat.le_trans hB hl) h1 h2⟩
theorem Abd.map {β γ : Type} {B : Nat} {J : β → World → Prop} (h : Abd B J) (f : γ → β) : Abd B (fun s W => J (f s) W) := ⟨fun s W W' hs hb => h.more _ W W' hs hb, fun s W l o o' hs hl h1 h2 => h.turn _ W l o o' hs hl h1 h2⟩
theorem Abd.ex {β γ : Type} {B : Nat} {J : β → World → Prop} (h : Abd B J) : Abd B (fun (_ : γ) W => ∃ s, J s W) := ⟨fun _ W W' hs hb => hs.elim fun s hs => ⟨s, h.more s W W' hs hb⟩, fun _ W l o o' hs hl h1 h2 => hs.elim fun s hs => ⟨s, h.turn s W l o o' hs hl h1 h2⟩⟩
/-- a cell of the caller's -/
theorem Abd.cell {β : Type} (B : Nat) (p : Addr) (f : β → Value) : Abd B (fun s W => W.cell? p = some (f s)) :=
  ⟨fun s W W' hs hb => (hb.cell (World.block_lt_of_cell? W p hs)).trans hs, fun s W l o o' hs _ hl ho => cell_kept hs (grownBy_putObj' W l o') (fun r e => by cases e; exact ⟨o, hl, ho⟩)⟩
theorem Abd.frozen {β : Type} (B : Nat) (p : Addr) (f : β → Value) : Abd B (fun s W => W.cell? p = some (f s) ∧ W.frozen? p = false) :=
  ⟨fun s W W' hs hb => ⟨(hb.cell (World.block_lt_of_cell? W p hs.1)).trans hs.1, by
      have hlt := World.block_lt_of_cell? W p hs.1
      have := hb.block p.block hlt
      unfold World.frozen? at *
      rw [this]; exact hs.2⟩,
   fun s W l o o' hs _ hl ho => ⟨cell_kept hs.1 (grownBy_putObj' W l o') (fun r e => by cases e; exact ⟨o, hl, ho⟩), (frozen_kept hs.1 (grownBy_putObj' W l o') (fun r e => by cases e; exact ⟨o, hl, ho⟩)).trans hs.2⟩⟩
theorem Abd.below {β : Type} {B n : Nat} {w : World} (hn : n ≤ B) (hw : n ≤ w.heap.size) : Abd B (fun (_ : β) W => Below n w W) :=
  ⟨fun s W W' hs hb => hs.trans (hb.mono (Nat.le_trans hw hs.size)), fun s W l o o' hs hB hl ho => hs.grown (grownBy_putObj' W l o') (Nat.le_trans hw hs.size) (fun k e => by cases e; exact Nat.le_trans hn hB)⟩
/-- what lies in blocks lo to hi, and whatever was laid from E on and is there, lies on -/
structure KpR (lo hi E : Nat) (W W' : World) : Prop where
  size : W.heap.size ≤ W'.heap.size
  rng : ∀ k, lo ≤ k → k < hi → k < W.heap.size → W'.heap[k]? = W.heap[k]?
  own : ∀ k, E ≤ k → k < W.heap.size → W'.heap[k]? = W.heap[k]?
theorem KpR.refl (lo hi E : Nat) (W : World) : KpR lo hi E W W := ⟨Nat.le_refl _, fun _ _ _ _ => rfl, fun _ _ _ => rfl⟩
theorem KpR.trans {lo hi E : Nat} {A B C : World} (h : KpR lo hi E A B) (k : KpR lo hi E B C) : KpR lo hi E A C :=
  ⟨Nat.le_trans h.size k.size, fun i h1 h2 h3 => (k.rng i h1 h2 (Nat.lt_of_lt_of_le h3 h.size)).trans (h.rng i h1 h2 h3), fun i h1 h2 => (k.own i h1 (Nat.lt_of_lt_of_le h2 h.size)).trans (h.own i h1 h2)⟩
theorem KpR.of_below {lo hi E : Nat} {A B : World} (h : Below A.heap.size A B) : KpR lo hi E A B := ⟨h.size, fun i _ _ h3 => h.block i h3, fun i _ h2 => h.block i h2⟩
theorem KpR.mono {lo hi E lo' hi' E' : Nat} {A B : World} (h : KpR lo hi E A B) (h1 : lo ≤ lo') (h2 : hi' ≤ hi) (h3 : E ≤ E') : KpR lo' hi' E' A B :=
  ⟨h.size, fun i a b c => h.rng i (by omega) (by omega) c, fun i a b => h.own i (by omega) b⟩
/-- KpR from a world on abides, from where that world ends -/
theorem Abd.kpr {β : Type} {lo hi E B : Nat} {w : World} (hw : w.heap.size ≤ B) : Abd B (fun (_ : β) W => KpR lo hi E w W) :=
  ⟨fun s W W' hs hb => hs.trans (KpR.of_below hb), fun s W l o o' hs hB hl ho => ⟨Nat.le_trans hs.size (by rw [World.putObj_size]; exact Nat.le_refl _), fun i a b c => (World.putObj_heap_other (by omega)).trans (hs.rng i a b c), fun i a c => (World.putObj_heap_other (by omega)).trans (hs.own i a c)⟩⟩
/-- the blocks from lo to hi lie as they lay -/
def Rg (lo hi : Nat) (w W : World) : Prop := w.heap.size ≤ W.heap.size ∧ ∀ k, lo ≤ k → k < hi → W.heap[k]? = w.heap[k]?
theorem Rg.refl (lo hi : Nat) (w : World) : Rg lo hi w w := ⟨Nat.le_refl _, fun _ _ _ => rfl⟩
theorem Rg.trans {lo hi : Nat} {a b c : World} (h : Rg lo hi a b) (k : Rg lo hi b c) : Rg lo hi a c := ⟨Nat.le_trans h.1 k.1, fun i h1 h2 => (k.2 i h1 h2).trans (h.2 i h1 h2)⟩
theorem Rg.mono {lo hi lo' hi' : Nat} {a b : World} (h : Rg lo hi a b) (h1 : lo ≤ lo') (h2 : hi' ≤ hi) : Rg lo' hi' a b := ⟨h.1, fun i a b => h.2 i (by omega) (by omega)⟩
theorem Rg.of_below {lo hi B : Nat} {a b : World} (h : Below B a b) (hi' : hi ≤ B) : Rg lo hi a b := ⟨h.size, fun i _ h2 => h.block i (by omega)⟩
theorem KpR.rg {lo hi E : Nat} {A B : World} (h : KpR lo hi E A B) (hh : hi ≤ A.heap.size) : Rg lo hi A B := ⟨h.size, fun i h1 h2 => h.rng i h1 h2 (by omega)⟩
theorem Rg.cell {lo hi b o : Nat} {A B : World} (h : Rg lo hi A B) (h1 : lo ≤ b ∧ b < hi) : B.cell? ⟨b, o, none⟩ = A.cell? ⟨b, o, none⟩ := by
  have := h.2 b h1.1 h1.2
  unfold World.cell?
  rw [this]
theorem KpR.cell_own {lo hi E b o : Nat} {A B : World} (h : KpR lo hi E A B) (h1 : E ≤ b) (h2 : b < A.heap.size) : B.cell? ⟨b, o, none⟩ = A.cell? ⟨b, o, none⟩ := by
  have := h.own b h1 h2
  unfold World.cell?
  rw [this]
/-- what a function that is ranged over promises: it hands xs on in turn, whatever the caller's invariant, as long as the rounds leave its blocks alone -/
def Its {α : Type} (P : Program) (gf : Nat) (lb : Array Value) (lo hi : Nat) (enc : α → Value) (xs : List α) (w : World) : Prop :=
  ∀ (l : Nat) (J Jx : List α → World → Prop) (W : World), Rg lo hi w W → Abd W.heap.size J → Abd W.heap.size Jx →
    (∀ pre x W1 m, J pre W1 → x ∈ xs → pre.length < xs.length → YieldAt Fence.wide m P l #[enc x] W1 fun e W' => (e = .returned (.bool true) ∧ J (pre ++ [x]) W' ∧ KpR lo hi W.heap.size W1 W') ∨ (e = .returned (.bool false) ∧ Jx (pre ++ [x]) W' ∧ KpR lo hi W.heap.size W1 W')) →
    J [] W →
    Calls P gf (#[.func (.yield l) #[] #[]] ++ lb) W fun e W' => (∃ v, e = .returned v) ∧ (J xs W' ∨ ∃ pre, Jx pre W')
theorem Its.later {α : Type} {P : Program} {gf : Nat} {lb : Array Value} {lo hi : Nat} {enc : α → Value} {xs : List α} {w w' : World} (h : Its P gf lb lo hi enc xs w) (hb : Rg lo hi w w') : Its P gf lb lo hi enc xs w' :=
  fun l J Jx W hW => h l J Jx W (hb.trans hW)
theorem room_free (k : Nat) : Fence.wide.room k := room_wide k
theorem yieldAt_any {P : Program} {l m m' : Nat} {args : Array Value} {W : World} {R : Ending → World → Prop} (h : YieldAt Fence.wide m P l args W R) : YieldAt Fence.wide m' P l args W R := by
  obtain ⟨fn, tmps, assign, body, hy, hR⟩ := h
  exact ⟨fn, tmps, assign, body, hy, hR.1, fun c cs _ => hR.2 c cs (room_wide _)⟩
/-- how a round may be left -/
def lvPost {α : Type} (B lo hi : Nat) (I Ix : List α → World → Prop) (xs : List α) (W : World) : Exit → Act → World → Prop
  | .normal, _, W' => KpR lo hi B W W' ∧ I xs W'
  | .ret, _, W' => KpR lo hi B W W' ∧ Ix xs W'
  | _, _, _ => False
section
variable {α : Type} {P : Program} {gf : Nat} {lb : Array Value} {lo hi : Nat} {enc : α → Value} {xs : List α} {w0 w W1 : World}
/-- the rounds of a loop whose record lies at l -/
theorem rng_core {l : Nat} {fn : FuncId} {tmps : Array Value} {p : Tmp} {assign body : Code} {D : Nat} (hl : W1.heap[l]? = some (.loop { state := .ready, pending := none, fn, tmps, params := #[p], assign, body, defers := D })) (hwl : w.heap.size ≤ l) (hW1 : Below w.heap.size w W1)
    (hits : Its P gf lb lo hi enc xs w0) (hb0 : Rg lo hi w0 w) (hhi : hi ≤ w.heap.size)
    (I Ix : List α → World → Prop) (hI : Abd w.heap.size I) (hIx : Abd w.heap.size Ix) (h0 : I [] w)
    (X : World → Prop) (hX : Abd (β := Unit) W1.heap.size (fun _ W => X W)) (hXl : ∀ A o, X A → X (A.putObj l o)) (hXk : ∀ A B, X A → KpR lo hi w.heap.size A B → X B) (hX1 : X W1)
    (Ax : α → Act → World → Prop) (hAx : ∀ x a', Abd w.heap.size (fun (_ : Unit) W => Ax x a' W))
    (hassign : ∀ (m : Nat) (pre : List α) (x : α) (W : World) (K : Act → World → Prop), I pre W → x ∈ xs → (∀ a' W', Below W.heap.size W W' → Ax x a' W' → K a' W') → assign.wpIn (Fence.wide.inRound l) m P (Exit.then K (fun _ _ _ => False)) { tmps := tmps.setIfInBounds p (enc x), defers := [] } W)
    (hbody : ∀ (m : Nat) (pre : List α) (x : α) (a' : Act) (W : World), (∃ r, W.heap[l]? = some (.loop r)) → I pre W → Ax x a' W → x ∈ xs → pre.length < xs.length → body.wpIn (Fence.wide.inRound l) m P (lvPost w.heap.size lo hi I Ix (pre ++ [x]) W) a' W) :
    Calls P gf (#[.func (.yield l) #[] #[]] ++ lb) W1 fun e W => (∃ v, e = .returned v) ∧
      ((I xs W ∧ W.heap[l]? = some (.loop { state := .ready, pending := none, fn, tmps, params := #[p], assign, body, defers := D }) ∧ X W) ∨
       (∃ pre, Ix pre W ∧ W.heap[l]? = some (.loop { state := .done, pending := some .ret, fn, tmps, params := #[p], assign, body, defers := D }) ∧ X W)) := by
  have hlt1 : l < W1.heap.size := (Array.getElem?_eq_some_iff.1 hl).1
  have hsz : w.heap.size ≤ W1.heap.size := hW1.size
  have keepl : ∀ {A B : World} {o : Obj}, Below A.heap.size A B → A.heap[l]? = some o → B.heap[l]? = some o := fun hb ho => (hb.block l (Array.getElem?_eq_some_iff.1 ho).1).trans ho
  have J1 : ∀ (I : List α → World → Prop) (o : Obj), Abd w.heap.size I → o.isCells = false → Abd W1.heap.size (fun pre W => I pre W ∧ W.heap[l]? = some o ∧ X W) := fun I o hI ho =>
    ⟨fun s A B hs hb => ⟨hI.more s A B hs.1 hb, keepl hb hs.2.1, hX.more () A B hs.2.2 hb⟩,
     fun s A k o1 o2 hs hk h1 h2 => ⟨hI.turn s A k o1 o2 hs.1 (by omega) h1 h2, (World.putObj_heap_other (by omega)).trans hs.2.1, hX.turn () A k o1 o2 hs.2.2 hk h1 h2⟩⟩
  refine (hits l (fun pre W => I pre W ∧ W.heap[l]? = some (.loop { state := .ready, pending := none, fn, tmps, params := #[p], assign, body, defers := D }) ∧ X W)
    (fun pre W => Ix pre W ∧ W.heap[l]? = some (.loop { state := .done, pending := some .ret, fn, tmps, params := #[p], assign, body, defers := D }) ∧ X W) W1 (hb0.trans (Rg.of_below hW1 hhi)) (J1 I _ hI rfl) (J1 Ix _ hIx rfl) ?_ ⟨?_, hl, hX1⟩).mono ?_
  · rintro pre x W m ⟨hJ, hr, hx⟩ hmem hlen
    have hy : (Instr.yield l #[enc x]).run P W = .ok (.round l fn (tmps.setIfInBounds p (enc x)) assign body) W := by
      have := run_yield (P := P) (args := #[enc x]) hr rfl
      simpa using this
    refine ⟨_, _, _, _, hy, roundIn_of_wpIn trivial ?_⟩
    refine hassign m pre x W _ hJ hmem (fun a' Wa hba hax => ?_)
    have hra := keepl hba hr
    have hia := hI.more pre W Wa hJ hba
    have hxa := hX.more () W Wa hx hba
    have hlta : l < Wa.heap.size := (Array.getElem?_eq_some_iff.1 hra).1
    refine ⟨_, run_beginRound hra rfl, ?_⟩
    have hrb := World.putObj_heap_same (o := .loop { state := .busy, pending := none, fn, tmps, params := #[p], assign, body, defers := D }) hlta
    refine wpIn_mono (hbody m pre x a' _ ⟨_, hrb⟩ (hI.turn pre Wa l _ _ hia hwl hra rfl) ((hAx x a').turn () Wa l _ _ hax hwl hra rfl) hmem hlen) ?_
    have kp : ∀ {W3 : World} {o : Obj}, KpR lo hi w.heap.size (Wa.putObj l (.loop { state := .busy, pending := none, fn, tmps, params := #[p], assign, body, defers := D })) W3 → KpR lo hi W1.heap.size W (W3.putObj l o) := fun {W3 o} h => by
      have hs3 : Wa.heap.size ≤ W3.heap.size := by have := h.size; rwa [World.putObj_size] at this
      refine ⟨by rw [World.putObj_size]; exact Nat.le_trans hba.size hs3, fun k a b c => ?_, fun k a c => ?_⟩
      · have e1 := h.rng k a b (by rw [World.putObj_size]; exact Nat.lt_of_lt_of_le c hba.size)
        rw [World.putObj_heap_other (by omega), e1, World.putObj_heap_other (by omega), hba.block k c]
      · have e1 := h.own k (by omega) (by rw [World.putObj_size]; exact Nat.lt_of_lt_of_le c hba.size)
        rw [World.putObj_heap_other (by omega), e1, World.putObj_heap_other (by omega), hba.block k c]
    rintro e a3 W3 hp
    cases e with
    | normal =>
      obtain ⟨hk3, hJ3⟩ := hp
      have hr3 := (hk3.own l hwl (by rw [World.putObj_size]; exact hlta)).trans hrb
      have hlt3 : l < W3.heap.size := (Array.getElem?_eq_some_iff.1 hr3).1
      exact ⟨_, _, run_endRound none hr3, .inl ⟨rfl, ⟨hI.turn _ W3 l _ _ hJ3 hwl hr3 rfl, World.putObj_heap_same hlt3, hXl _ _ (hXk _ _ (hXl _ _ hxa) hk3)⟩, kp hk3⟩⟩
    | ret =>
      obtain ⟨hk3, hJ3⟩ := hp
      have hr3 := (hk3.own l hwl (by rw [World.putObj_size]; exact hlta)).trans hrb
      have hlt3 : l < W3.heap.size := (Array.getElem?_eq_some_iff.1 hr3).1
      exact ⟨_, _, run_endRound (some .ret) hr3, .inr ⟨rfl, ⟨hIx.turn _ W3 l _ _ hJ3 hwl hr3 rfl, World.putObj_heap_same hlt3, hXl _ _ (hXk _ _ (hXl _ _ hxa) hk3)⟩, kp hk3⟩⟩
    | exit id => exact hp.elim
    | goto t => exact hp.elim
    | panic ch => exact hp.elim
    | outgrown => exact hp.elim
  · exact hI.more [] w W1 h0 ⟨hW1.os, hW1.tape, hW1.output, hW1.size, hW1.block⟩
  · rintro e W ⟨hv, h | ⟨pre, h⟩⟩
    · exact ⟨hv, .inl h⟩
    · exact ⟨hv, .inr ⟨pre, h⟩⟩
/-- **a loop over a function** -/
theorem wp_rng {n : Nat} {g : Operand} {p : Tmp} {assign body : Code} {Q : Exit → Act → World → Prop} {a : Act} (hg : a.eval g = .func (.func gf) #[] lb) (eg : ∀ args w, (callFunc gf args).run P w = .ok (.enter gf args) w)
    (hits : Its P gf lb lo hi enc xs w0) (hb0 : Rg lo hi w0 w) (hhi : hi ≤ w.heap.size)
    (I Ix : List α → World → Prop) (hI : Abd w.heap.size I) (hIx : Abd w.heap.size Ix) (h0 : I [] w)
    (Ax : α → Act → World → Prop) (hAx : ∀ x a', Abd w.heap.size (fun (_ : Unit) W => Ax x a' W))
    (hassign : ∀ (l m : Nat) (pre : List α) (x : α) (W : World) (K : Act → World → Prop), I pre W → x ∈ xs → (∀ a' W', Below W.heap.size W W' → Ax x a' W' → K a' W') → assign.wpIn (Fence.wide.inRound l) m P (Exit.then K (fun _ _ _ => False)) { tmps := a.tmps.setIfInBounds p (enc x), defers := [] } W)
    (hbody : ∀ (l m : Nat) (pre : List α) (x : α) (a' : Act) (W : World), w.heap.size ≤ l → (∃ r, W.heap[l]? = some (.loop r)) → I pre W → Ax x a' W → x ∈ xs → pre.length < xs.length → body.wpIn (Fence.wide.inRound l) m P (lvPost w.heap.size lo hi I Ix (pre ++ [x]) W) a' W)
    (hdone : ∀ (D : Nat) (W : World), w.heap.size ≤ D → I xs W → W.heap[D]? = some (.deferred (some [])) → Q .normal { a with defers := { target := .collected D, args := #[] } :: a.defers } W)
    (hstop : ∀ (D : Nat) (pre : List α) (W : World), w.heap.size ≤ D → Ix pre W → W.heap[D]? = some (.deferred (some [])) → Code.ret.wpIn Fence.wide n P Q { a with defers := { target := .collected D, args := #[] } :: a.defers } W) :
    (Code.rangeFunc g #[p] assign body).wpIn Fence.wide n P Q a w := by
  refine wpIn_rangeFunc ?_
  intro fn hfn
  have hsW : ((w.alloc (.deferred (some []))).alloc (.loop { state := .ready, pending := none, fn, tmps := a.tmps, params := #[p], assign, body, defers := w.heap.size })).heap.size = w.heap.size + 2 := by simp
  have hb1 : Below w.heap.size w ((w.alloc (.deferred (some []))).alloc (.loop { state := .ready, pending := none, fn, tmps := a.tmps, params := #[p], assign, body, defers := w.heap.size })) := ((Below.refl _ _).alloc (Nat.le_refl _) _).alloc (by simp) _
  have hr1 : ((w.alloc (.deferred (some []))).alloc (.loop { state := .ready, pending := none, fn, tmps := a.tmps, params := #[p], assign, body, defers := w.heap.size })).heap[w.heap.size + 1]? = some (.loop { state := .ready, pending := none, fn, tmps := a.tmps, params := #[p], assign, body, defers := w.heap.size }) := by
    have := World.alloc_heap_new (w.alloc (.deferred (some []))) (.loop { state := .ready, pending := none, fn, tmps := a.tmps, params := #[p], assign, body, defers := w.heap.size }); rwa [World.size_alloc] at this
  have hd1 : ((w.alloc (.deferred (some []))).alloc (.loop { state := .ready, pending := none, fn, tmps := a.tmps, params := #[p], assign, body, defers := w.heap.size })).heap[w.heap.size]? = some (.deferred (some [])) := (Below.heap_alloc _ _ _ (by simp)).trans (World.alloc_heap_new w _)
  obtain ⟨W1, hW1⟩ : ∃ W1, (w.alloc (.deferred (some []))).alloc (.loop { state := .ready, pending := none, fn, tmps := a.tmps, params := #[p], assign, body, defers := w.heap.size }) = W1 := ⟨_, rfl⟩
  rw [hW1] at hsW hb1 hr1 hd1
  refine ⟨w.heap.size + 1, [{ target := .collected w.heap.size, args := #[] }], W1, { target := .fn (.func gf) lb, args := #[.func (.yield (w.heap.size + 1)) #[] #[]] }, W1, gf, #[.func (.yield (w.heap.size + 1)) #[] #[]] ++ lb, W1, ?_, ?_, fun _ _ => trivial, ?_, fun h => by simp [Fence.wide] at h, ?_⟩
  · rw [← hW1]; exact run_enterLoop_outer _ _ _ _ _
  · simp only [resolve, hg]
    simp [go_sem]
  · simp [invoke, go_sem, eg]
  refine callsIn_wide.2 ((rng_core (w := w) hr1 (by omega) hb1 hits hb0 hhi I Ix hI hIx h0 (fun W => W.heap[w.heap.size]? = some (.deferred (some []))) ?_ (fun A o h => (World.putObj_heap_other (by omega)).trans h) (fun A B h hk => (hk.own _ (Nat.le_refl _) (Array.getElem?_eq_some_iff.1 h).1).trans h) hd1 Ax hAx (hassign _) (fun m pre x a' W hr => hbody _ m pre x a' W (by omega) hr)).mono ?_)
  · exact ⟨fun _ A B h hb => (hb.block _ (Array.getElem?_eq_some_iff.1 h).1).trans h, fun _ A k o o' h hk h1 h2 => (World.putObj_heap_other (by rw [hsW] at hk; omega)).trans h⟩
  · rintro e W ⟨⟨v, rfl⟩, ⟨hJ, hr, hx⟩ | ⟨pre, hJ, hr, hx⟩⟩
    · exact ⟨none, _, run_endLoop hr (by simp), hdone _ _ (Nat.le_refl _) (hI.turn _ W _ _ _ hJ (by omega) hr rfl) ((World.putObj_heap_other (by omega)).trans hx)⟩
    · exact ⟨some .ret, _, run_endLoop hr (by simp), hstop _ pre _ (Nat.le_refl _) (hIx.turn _ W _ _ _ hJ (by omega) hr rfl) ((World.putObj_heap_other (by omega)).trans hx)⟩
/-- **a loop over a function in a round of another** -/
theorem wp_rng_in {n l₀ : Nat} {r₀ : Loop} {g : Operand} {p : Tmp} {assign body : Code} {Q : Exit → Act → World → Prop} {a : Act} (hl₀ : w.heap[l₀]? = some (.loop r₀)) (hg : a.eval g = .func (.func gf) #[] lb) (eg : ∀ args w, (callFunc gf args).run P w = .ok (.enter gf args) w)
    (hits : Its P gf lb lo hi enc xs w0) (hb0 : Rg lo hi w0 w) (hhi : hi ≤ w.heap.size)
    (I Ix : List α → World → Prop) (hI : Abd w.heap.size I) (hIx : Abd w.heap.size Ix) (h0 : I [] w)
    (Ax : α → Act → World → Prop) (hAx : ∀ x a', Abd w.heap.size (fun (_ : Unit) W => Ax x a' W))
    (hassign : ∀ (l m : Nat) (pre : List α) (x : α) (W : World) (K : Act → World → Prop), I pre W → x ∈ xs → (∀ a' W', Below W.heap.size W W' → Ax x a' W' → K a' W') → assign.wpIn (Fence.wide.inRound l) m P (Exit.then K (fun _ _ _ => False)) { tmps := a.tmps.setIfInBounds p (enc x), defers := [] } W)
    (hbody : ∀ (l m : Nat) (pre : List α) (x : α) (a' : Act) (W : World), w.heap.size ≤ l → (∃ r, W.heap[l]? = some (.loop r)) → I pre W → Ax x a' W → x ∈ xs → pre.length < xs.length → body.wpIn (Fence.wide.inRound l) m P (lvPost w.heap.size lo hi I Ix (pre ++ [x]) W) a' W)
    (hdone : ∀ (W : World), I xs W → Q .normal a W)
    (hstop : ∀ (pre : List α) (W : World), Ix pre W → Code.ret.wpIn (Fence.wide.inRound l₀) n P Q a W) :
    (Code.rangeFunc g #[p] assign body).wpIn (Fence.wide.inRound l₀) n P Q a w := by
  refine wpIn_rangeFunc ?_
  intro fn hfn
  have hsW : (w.alloc (.loop { state := .ready, pending := none, fn, tmps := a.tmps, params := #[p], assign, body, defers := r₀.defers })).heap.size = w.heap.size + 1 := by simp
  have hb1 : Below w.heap.size w (w.alloc (.loop { state := .ready, pending := none, fn, tmps := a.tmps, params := #[p], assign, body, defers := r₀.defers })) := (Below.refl _ _).alloc (Nat.le_refl _) _
  have hr1 := World.alloc_heap_new w (.loop { state := .ready, pending := none, fn, tmps := a.tmps, params := #[p], assign, body, defers := r₀.defers })
  obtain ⟨W1, hW1⟩ : ∃ W1, w.alloc (.loop { state := .ready, pending := none, fn, tmps := a.tmps, params := #[p], assign, body, defers := r₀.defers }) = W1 := ⟨_, rfl⟩
  rw [hW1] at hsW hb1 hr1
  refine ⟨w.heap.size, [], W1, { target := .fn (.func gf) lb, args := #[.func (.yield w.heap.size) #[] #[]] }, W1, gf, #[.func (.yield w.heap.size) #[] #[]] ++ lb, W1, ?_, ?_, fun _ _ => trivial, ?_, fun h => by simp [Fence.wide, Fence.inRound] at h, ?_⟩
  · rw [← hW1]; exact run_enterLoop_inner hl₀ _ _ _ _ _
  · simp only [resolve, hg]
    simp [go_sem]
  · simp [invoke, go_sem, eg]
  refine CallsIn.inRound l₀ (callsIn_wide.2 ((rng_core (w := w) hr1 (Nat.le_refl _) hb1 hits hb0 hhi I Ix hI hIx h0 (fun W => True) (Abd.pure _ _) (fun A o h => trivial) (fun A B h hk => trivial) trivial Ax hAx (hassign _) (fun m pre x a' W hr => hbody _ m pre x a' W (Nat.le_refl _) hr)).mono ?_))
  rintro e W ⟨⟨v, rfl⟩, ⟨hJ, hr, hx⟩ | ⟨pre, hJ, hr, hx⟩⟩
  · exact ⟨none, _, run_endLoop hr (by simp), hdone _ (hI.turn _ W _ _ _ hJ (Nat.le_refl _) hr rfl)⟩
  · exact ⟨some .ret, _, run_endLoop hr (by simp), hstop pre _ (hIx.turn _ W _ _ _ hJ (Nat.le_refl _) hr rfl)⟩
end
end Go.Proofs.YtolkbbbbahhfaaaGreat
/-
  Regions that draw their order, in a round of a loop over a function: what yields in all worlds that meet a property may be taken first.
-/
namespace Go.Proofs.YtolkbbbbahhfaaaGreat
open Go.RowKit
set_option linter.unusedVariables false
set_option linter.unusedSimpArgs false

section
variable {l n : Nat} {P : Program} {ops : Array Oper} {Q : Exit → Act → World → Prop} {md : Region.Mode} {S : World → Prop}
/-- no statement of the region defers a call -/
def NoDefer (ops : Array Oper) : Prop := ∀ (i : Nat) (o : Oper), ops[i]? = some o → ∀ c, o.op ≠ .defer c
theorem noDefer_of {ops : Array Oper} (h : ops.all (fun o => match o.op with | .defer _ => false | _ => true) = true) : NoDefer ops := fun i o ho c e => by
  have h1 := (Array.all_eq_true.1 h) i (Array.getElem?_eq_some_iff.1 ho).1
  rw [(Array.getElem?_eq_some_iff.1 ho).2, e] at h1
  cases h1
theorem semR {o : Oper} (h : ∀ c, o.op ≠ .defer c) (ρ : Operand → Value) : Oper.semAt (Fence.wide.inRound l).round ρ o = execOp ρ o := Oper.semAt_some l ρ o h
theorem takeOp {i : Nat} {o : Oper} {v : Value} {a : Act} (hd : NoDefer ops) (hi : ops[i]? = some o) (hy : YieldsIf P ops S o v a) {K : Act → World → Prop} {w : World} (hS : S w) (h : K (a.put o.dst v) w) : wpOpIn (Fence.wide.inRound l) n P ops Q i K a w := by
  unfold wpOpIn
  simp only [hi]
  rcases hy with ⟨hw, hv⟩ | ⟨hw, rfl⟩
  · rw [if_pos hw]
    exact ⟨fun _ _ => trivial, by rw [semR (hd i o hi), hv w hS]; exact h⟩
  · rw [if_neg (by rw [hw]; simp)]
    exact ⟨fun _ _ => trivial, h⟩
/-- an operation that is apart from one that yields does not hang on whether that one has come up -/
theorem swapOp {j : Nat} {oi oj : Oper} {v : Value} (hd : NoDefer ops) (hj : ops[j]? = some oj) (hap : oi.apart ops oj = true) (hsi : ∀ cs b, oi.op ≠ .select cs b) (hsj : ∀ cs b, oj.op ≠ .select cs b)
    (hQ : ∀ c a w, Q (.panic c) (a.put oi.dst v) w → Q (.panic c) a w) {K : Act → World → Prop} {a : Act} {w : World} (hy : YieldsIf P ops S oi v a) (h : wpOpIn (Fence.wide.inRound l) n P ops Q j K (a.put oi.dst v) w) :
    wpOpIn (Fence.wide.inRound l) n P ops Q j (fun a' w' => YieldsIf P ops S oi v a' ∧ K (a'.put oi.dst v) w') a w := by
  obtain ⟨h1, h2, h3⟩ := Oper.apart_spec hap
  have keep : ∀ (a : Act), YieldsIf P ops S oi v a → ∀ u, YieldsIf P ops S oi v (a.put oj.dst u) := fun a hy u => hy.of_same (execOp_put oi hsi a oj.dst u h3) (wanted_put oi a oj.dst u h3)
  have hdj := hd j oj hj
  unfold wpOpIn at *
  simp only [hj] at *
  rw [wanted_put oj a oi.dst v h1] at h
  by_cases hw : Region.wanted oj (yielded ops a.tmps) = true
  · rw [if_pos hw] at h ⊢
    refine ⟨fun _ _ => trivial, ?_⟩
    have h := h.2
    rw [semR (hdj), execOp_put oj hsj a oi.dst v h1] at h
    rw [semR (hdj)]
    generalize hr : (execOp a.eval oj).run P w = r at *
    cases r with
    | ok x w' =>
      cases x with
      | value u => exact ⟨keep a hy u, by rw [← Act.put_comm a v u h2]; exact h⟩
      | skip => exact ⟨keep a hy _, by rw [← Act.put_comm a v undef h2]; exact h⟩
      | defer d => exact ⟨keep { a with defers := d :: a.defers } (hy.of_same rfl rfl) _, by rw [← Act.put_comm _ v undef h2, ← Act.put_defers]; exact h⟩
      | enter f args =>
        refine ⟨h.1, CallsIn.mono h.2 fun e w'' he => ?_⟩
        cases e with
        | returned u => exact ⟨keep a hy u, by rw [← Act.put_comm a v u h2]; exact he⟩
        | panicked c => exact hQ _ _ _ he
        | outgrown => exact he
      | row row args => exact ⟨h.1, RowsIn.mono h.2 fun u w'' he => ⟨keep a hy u, by rw [← Act.put_comm a v u h2]; exact he⟩⟩
      | round l f tmps assign body =>
        refine ⟨h.1, RoundIn.mono h.2 fun e w'' he => ?_⟩
        cases e with
        | returned u => exact ⟨keep a hy u, by rw [← Act.put_comm a v u h2]; exact he⟩
        | panicked c => exact hQ _ _ _ he
        | outgrown => exact he
      | _ => exact h
    | halt x w' =>
      cases x with
      | panic u => exact hQ _ _ _ h
      | _ => exact h
  · rw [if_neg hw] at h ⊢
    exact ⟨fun _ _ => trivial, keep a hy _, by rw [← Act.put_comm a v undef h2]; exact h.2⟩
/-- whatever order, with S behind every operation -/
def AnyR (l n : Nat) (P : Program) (md : Region.Mode) (ops : Array Oper) (Q : Exit → Act → World → Prop) (S : World → Prop) : Nat → Array Bool → Act → World → Prop
  | 0, listed, a, w => Region.ready md ops listed = [] ∧ Q .normal a w
  | fuel + 1, listed, a, w => (Region.ready md ops listed = [] → Q .normal a w) ∧ ∀ i ∈ Region.ready md ops listed, wpOpIn (Fence.wide.inRound l) n P ops Q i (fun a' w' => S w' ∧ AnyR l n P md ops Q S fuel (listed.setIfInBounds i true) a' w') a w
theorem anyR_in : ∀ (fuel : Nat) (listed : Array Bool) (a : Act) (w : World), AnyR l n P md ops Q S fuel listed a w → wpAnyIn (Fence.wide.inRound l) n P md ops Q fuel listed a w
  | 0, _, _, _, h => h
  | fuel + 1, _, _, _, h => ⟨h.1, fun i hi => wpOpIn_mono (fun a' w' h' => anyR_in fuel _ a' w' h'.2) (h.2 i hi)⟩
theorem anyR_first {i : Nat} {oi : Oper} {v : Value} (hd : NoDefer ops) (hi : ops[i]? = some oi) (hsel : ∀ (j : Nat) (o : Oper) cs b, ops[j]? = some o → o.op ≠ .select cs b) (hQ : ∀ c a w, Q (.panic c) (a.put oi.dst v) w → Q (.panic c) a w) :
    ∀ (fuel : Nat) (listed : Array Bool) (a : Act) (w : World), (∀ j oj, ops[j]? = some oj → j ≠ i → listed.getD j true = false → (∀ e ∈ oj.after, Region.binds md e = true → e.on ≠ i) → oi.apart ops oj = true) →
      i ∈ Region.ready md ops listed → YieldsIf P ops S oi v a → S w → AnyR l n P md ops Q S fuel (listed.setIfInBounds i true) (a.put oi.dst v) w → AnyR l n P md ops Q S (fuel + 1) listed a w := by
  intro fuel
  induction fuel with
  | zero =>
    intro listed a w _ hr hy hS H
    refine ⟨fun h => (by rw [h] at hr; cases hr), fun j hj => ?_⟩
    by_cases hji : j = i
    · subst hji; exact takeOp hd hi hy hS ⟨hS, H⟩
    · have := ready_mono hj hji
      rw [H.1] at this
      cases this
  | succ fuel ih =>
    intro listed a w hfree hr hy hS H
    refine ⟨fun h => (by rw [h] at hr; cases hr), fun j hj => ?_⟩
    by_cases hji : j = i
    · subst hji; exact takeOp hd hi hy hS ⟨hS, H⟩
    · obtain ⟨hjun, oj, hoj, hall⟩ := mem_ready.1 hj
      have hnot : ∀ e ∈ oj.after, Region.binds md e = true → e.on ≠ i := fun e he hb heq => by
        have h1 := hall e he hb
        have h0 := (mem_ready.1 hr).1
        rw [heq] at h1
        rcases Nat.lt_or_ge i listed.size with h' | h'
        · simp [h'] at h0 h1; rw [h0] at h1; cases h1
        · simp [Array.getElem?_eq_none h'] at h1
      have h2 := swapOp hd hoj (hfree j oj hoj hji hjun hnot) (fun cs b => hsel i oi cs b hi) (fun cs b => hsel j oj cs b hoj) hQ hy (H.2 j (ready_mono hj hji))
      have hfree' : ∀ k ok, ops[k]? = some ok → k ≠ i → (listed.setIfInBounds j true).getD k true = false → (∀ e ∈ ok.after, Region.binds md e = true → e.on ≠ i) → oi.apart ops ok = true := fun k ok hk hki hun hno => by
        refine hfree k ok hk hki ?_ hno
        by_cases hjk : j = k
        · subst hjk; exact hjun
        · rw [getD_set_ne true hjk] at hun; exact hun
      refine wpOpIn_mono (fun a' w' h3 => ⟨h3.2.1, ih (listed.setIfInBounds j true) a' w' hfree' (ready_mono hr (Ne.symm hji)) h3.1 h3.2.1 ?_⟩) h2
      rw [Array.setIfInBounds_comm _ _ hji]
      exact h3.2.2
/-- number i is taken first -/
theorem anyR_take {i : Nat} {oi : Oper} {v : Value} {fuel : Nat} {listed : Array Bool} {a : Act} {w : World} (hd : NoDefer ops) (hi : ops[i]? = some oi) (hs : Region.noSelect ops = true) (hf : Region.free md ops listed i = true) (hr : (Region.ready md ops listed).contains i = true)
    (hQ : ∀ c a w, Q (.panic c) (a.put oi.dst v) w → Q (.panic c) a w) (hy : YieldsIf P ops S oi v a) (hS : S w) (h : AnyR l n P md ops Q S fuel (listed.setIfInBounds i true) (a.put oi.dst v) w) : AnyR l n P md ops Q S (fuel + 1) listed a w :=
  anyR_first hd hi (Region.noSelect_spec hs) hQ fuel listed a w (Region.free_spec hi hf) (by simpa using hr) hy hS h
/-- number i alone may come up -/
theorem anyR_one {i : Nat} {o : Oper} {fuel : Nat} {listed : Array Bool} {a : Act} {w : World} (hd : NoDefer ops) (hi : ops[i]? = some o) (hr : Region.ready md ops listed = [i]) (hw : Region.wanted o (yielded ops a.tmps) = true)
    (h : o.uponIn (Fence.wide.inRound l) n P a (fun a' w' => S w' ∧ AnyR l n P md ops Q S fuel (listed.setIfInBounds i true) a' w') Q ((execOp a.eval o).run P w)) : AnyR l n P md ops Q S (fuel + 1) listed a w := by
  refine ⟨fun h0 => (by rw [hr] at h0; cases h0), fun j hj => ?_⟩
  rw [hr, List.mem_singleton] at hj
  subst hj
  unfold wpOpIn
  simp only [hi]
  rw [if_pos hw]
  exact ⟨fun _ _ => trivial, by rw [semR (hd j o hi)]; exact h⟩
theorem anyR_done {listed : Array Bool} {a : Act} {w : World} (hr : Region.ready md ops listed = []) (h : Q .normal a w) : ∀ fuel, AnyR l n P md ops Q S fuel listed a w
  | 0 => ⟨hr, h⟩
  | _ + 1 => ⟨fun _ => h, by rw [hr]; simp⟩
/-- the beginning -/
theorem regionR {id : Nat} {a : Act} {w : World} (hm : P.follows .mixedOrders = true) (hS : S w.drew) (h : S w.drew → AnyR l n P .any ops Q S ops.size (Array.replicate ops.size false) a w.drew) : (Code.region id ops true).wpIn (Fence.wide.inRound l) n P Q a w :=
  wpIn_region_any hm (anyR_in _ _ _ _ (h hS))
/-- a call -/
theorem upon_call {o : Oper} {a : Act} {w : World} {next : Act → World → Prop} {f : FuncId} {args : Array Value} {R : Ending → World → Prop} (he : (execOp a.eval o).run P w = .ok (.enter f args) w) (hc : Calls P f args w R)
    (h : ∀ e w', R e w' → ∃ v, e = .returned v ∧ next (a.put o.dst v) w') : o.uponIn (Fence.wide.inRound l) n P a next Q ((execOp a.eval o).run P w) := by
  rw [he]
  refine ⟨fun h => by simp [Fence.wide, Fence.inRound] at h, CallsIn.inRound l (CallsIn.mono (callsIn_wide.2 hc) fun e w' hr => ?_)⟩
  obtain ⟨v, rfl, hn⟩ := h e w' hr
  exact hn
/-- a round of a loop around -/
theorem upon_round {o : Oper} {a : Act} {w : World} {next : Act → World → Prop} {l0 m : Nat} {fn : FuncId} {tmps : Array Value} {assign body : Code} {R : Ending → World → Prop} (he : (execOp a.eval o).run P w = .ok (.round l0 fn tmps assign body) w) (hR : RoundIn Fence.wide m P l0 fn tmps assign body w R)
    (h : ∀ e w', R e w' → ∃ v, e = .returned v ∧ next (a.put o.dst v) w') : o.uponIn (Fence.wide.inRound l) n P a next Q ((execOp a.eval o).run P w) := by
  rw [he]
  refine ⟨fun h => by simp [Fence.wide, Fence.inRound] at h, ?_⟩
  refine RoundIn.mono (n := n - 1) (F := Fence.wide.inRound l) ⟨trivial, fun c cs _ => hR.2 c cs (room_wide _)⟩ fun e w' hr => ?_
  obtain ⟨v, rfl, hn⟩ := h e w' hr
  exact hn
theorem upon_value {o : Oper} {a : Act} {w : World} {next : Act → World → Prop} {v : Value} (he : (execOp a.eval o).run P w = .ok (.value v) w) (h : next (a.put o.dst v) w) : o.uponIn (Fence.wide.inRound l) n P a next Q ((execOp a.eval o).run P w) := by
  rw [he]; exact h
end
end Go.Proofs.YtolkbbbbahhfaaaGreat
/-
  A text is split into those of trees.
-/
namespace Go.Proofs.YtolkbbbbahhfaaaGreat
open Go.RowKit Fld
set_option linter.unusedVariables false
set_option linter.unusedSimpArgs false
set_option maxRecDepth 100000

theorem extract_S (s : List UInt8) (a b : Nat) : (⟨s.toArray⟩ : ByteArray).extract a b = ⟨((s.drop a).take (b - a)).toArray⟩ := by
  apply ByteArray.ext
  simp [ByteArray.data_extract]
theorem tr_open {cur : List UInt8} {o : Nat} {acc : List (List UInt8)} {s : List UInt8} {p : Nat} (h : s[p]? = some 91) : Tr.trF cur o acc (s.drop p) = Tr.trF (cur ++ [91]) (o + 1) acc (s.drop (p + 1)) := by
  have hlt : p < s.length := by
    rcases Nat.lt_or_ge p s.length with g | g
    · exact g
    · rw [List.getElem?_eq_none g] at h; cases h
  rw [List.getElem?_eq_getElem hlt] at h
  injection h with h
  rw [List.drop_eq_getElem_cons hlt, h, Tr.trF, if_pos rfl]
theorem tr_close {cur : List UInt8} {o : Nat} {acc : List (List UInt8)} {s : List UInt8} {p : Nat} (h : s[p]? = some 93) : Tr.trF cur o acc (s.drop p) = if o = 0 then ([], false) else if o = 1 then Tr.trF [] 0 (acc ++ [cur ++ [93]]) (s.drop (p + 1)) else Tr.trF (cur ++ [93]) (o - 1) acc (s.drop (p + 1)) := by
  have hlt : p < s.length := by
    rcases Nat.lt_or_ge p s.length with g | g
    · exact g
    · rw [List.getElem?_eq_none g] at h; cases h
  rw [List.getElem?_eq_getElem hlt] at h
  injection h with h
  rw [List.drop_eq_getElem_cons hlt, h, Tr.trF, if_neg (by decide), if_pos rfl]
theorem tr_other {cur : List UInt8} {o : Nat} {acc : List (List UInt8)} {s : List UInt8} {p : Nat} {c : UInt8} (h : s[p]? = some c) (h1 : c ≠ 91) (h2 : c ≠ 93) : Tr.trF cur o acc (s.drop p) = ([], false) := by
  have hlt : p < s.length := by
    rcases Nat.lt_or_ge p s.length with g | g
    · exact g
    · rw [List.getElem?_eq_none g] at h; cases h
  rw [List.getElem?_eq_getElem hlt] at h
  injection h with h
  rw [List.drop_eq_getElem_cons hlt, h, Tr.trF, if_neg h1, if_neg h2]
theorem cut_step {s : List UInt8} {a p : Nat} {c : UInt8} (h : s[p]? = some c) (ha : a ≤ p) : (s.drop a).take (p + 1 - a) = (s.drop a).take (p - a) ++ [c] := by
  rw [show p + 1 - a = p - a + 1 from by omega, List.take_add_one, List.getElem?_drop, show a + (p - a) = p from by omega, h]; rfl
/-- the texts of trees, and whether there are no others -/
def ResT (r : List (List UInt8) × Bool) (w : World) (e : Ending) (w' : World) : Prop :=
  ∃ A q c, e = .returned (.tuple #[.slice A q c, .bool r.2]) ∧ w'.ownsRow w.heap.size 80 1 (.slice A q c) q (strs r.1) ∧ Below w.heap.size w w'
theorem ResT.none {r : List (List UInt8) × Bool} {w w' : World} (h : r = ([], false)) (hb : Below w.heap.size w w') : ResT r w (.returned (.tuple #[.slice none 0 0, .bool false])) w' := by
  subst h; exact ⟨_, _, _, rfl, World.ownsRow_nil .., hb⟩
set_option maxHeartbeats 2000000 in
theorem treesIn_any (s : List UInt8) (w : World) (hn : s.length ≤ 1048576) :
    Calls Tryz.prog 130 #[.string ⟨s.toArray⟩] w (ResT (Tr.trF [] 0 [] s) w) := by
  obtain ⟨i0, hi, hz0, hz1, hz2⟩ := info_parts info_tree
  have HN := Lib.hid hn
  obtain ⟨S, hS⟩ : ∃ S : ByteArray, S = ⟨s.toArray⟩ := ⟨_, rfl⟩
  have HSZ : Hid (S.size = s.length) := by rw [Hid, hS]; exact size_S s
  have HS := Lib.hid hS
  rw [← hS]
  have hs20 : S.size ≤ 1048576 := by rw [HSZ.out]; exact hn
  clear hS hn
  go_enter Tryz.func130, Tryz.ntmps130
  go_wp2_with fail
  go_loopw [4, 5, 6] (fun v a o wr => ∃ (p st op q cv : Nat) (Av : Option Addr) (acc : List (List UInt8)), p ≤ S.size ∧ st ≤ p ∧ op ≤ p ∧ q ≤ p ∧ v = .slice Av q cv ∧ a = .int .i64 st ∧ o = .int .i64 op ∧ wr.heap[w.heap.size]? = some (.stringIter S p) ∧ Hid (Tr.trF [] 0 [] s = Tr.trF ((s.drop st).take (p - st)) op acc (s.drop p)) ∧ Hid (wr.ownsRow w.heap.size 80 1 (.slice Av q cv) q (strs acc)) ∧ Below w.heap.size w wr) (fun _ _ _ wr => S.size - wr.iterPos w.heap.size)
  case atStart => exact ⟨0, 0, 0, 0, 0, none, [], Nat.zero_le _, Nat.le_refl _, Nat.le_refl _, Nat.le_refl _, rfl, rfl, rfl, World.iter_heap w S 0, by simp [Hid], World.ownsRow_nil .., (Below.refl _ _).alloc (Nat.le_refl _) _⟩
  case round =>
    obtain ⟨p, st, op, q, cv, Av, acc, hp, hst, hop, hq, rfl, rfl, rfl, hit, HE, HO, HBw⟩ := hrel
    have hlt := (Array.getElem?_eq_some_iff.1 hit).1
    by_cases hps : p < S.size
    · obtain ⟨c, hc⟩ := at_lt (show p < s.length by rw [← HSZ.out]; exact hps)
      have hbyte : S[p]'hps = c := by
        have hS := HS.out
        subst hS
        exact byte_at hc hps
      have HIT := Lib.hid hit
      by_cases hasc : c.toNat < 128
      · have hnx : ∀ ty, (Instr.next (.pointer (some ⟨w.heap.size, 0, none⟩)) true ty).run Tryz.prog wr = _ := fun ty => Lib.run_next_ascii_at wr w.heap.size S p ty hit hps (by rw [hbyte]; exact hasc)
        rw [hbyte] at hnx
        have hit2 := Lib.iterAt_heap wr w.heap.size S p (p + 1) hit
        have HO2 := Lib.hid (own_iterAt (p' := p + 1) HO.out hit)
        have HB2 := Lib.hid (Lib.below_iterAt HBw (k := w.heap.size) (Nat.le_refl _) S (p + 1))
        have hsz2 : (wr.iterAt w.heap.size S (p + 1)).heap.size = wr.heap.size := Lib.iterAt_size ..
        have hW1 : w.heap.size < (wr.iterAt w.heap.size S (p + 1)).heap.size := by rw [hsz2]; exact hlt
        by_cases h91 : c = 91
        · subst h91
          have e91 : ((91 : UInt8).toNat : Int) = 91 := rfl
          rw [e91] at hnx
          have HE2 : Hid (Tr.trF [] 0 [] s = Tr.trF ((s.drop st).take (p + 1 - st)) (op + 1) acc (s.drop (p + 1))) := by rw [Hid, HE.out, tr_open hc, cut_step hc hst]
          generalize hW : wr.iterAt w.heap.size S (p + 1) = W at *
          have HH2 := Lib.hid hit2
          have t0 : ((op : Int) + 1 == 0) = false := beq_f (by omega)
          clear hc hbyte hasc HE HBw HO hit hW hit2 hsz2
          go_wp2
          go_roundw
          case rel => exact ⟨p + 1, st, op + 1, q, cv, Av, acc, by omega, by omega, by omega, by omega, rfl, rfl, by go_num, HH2.out, HE2, HO2, HB2.out⟩
          case measure =>
            simp only [World.iterPos, HH2.out, HIT.out]
            omega
        · by_cases h93 : c = 93
          · subst h93
            have e93 : ((93 : UInt8).toNat : Int) = 93 := rfl
            rw [e93] at hnx
            have HTC := Lib.hid (HE.out.trans (tr_close hc))
            have HCUT : Hid ((s.drop st).take (p + 1 - st) = (s.drop st).take (p - st) ++ [93]) := cut_step hc hst
            generalize hW : wr.iterAt w.heap.size S (p + 1) = W at *
            have HH2 := Lib.hid hit2
            clear hc hbyte hasc HE HBw HO hit hW hit2 hsz2
            rcases (show op = 0 ∨ op = 1 ∨ 2 ≤ op by omega) with rfl | rfl | h2
            · have G : Hid (Tr.trF [] 0 [] s = ([], false)) := by rw [Hid, HTC.out, if_pos rfl]
              clear HTC
              go_wp2
              go_ret2
              exact ResT.none G.out HB2.out
            · have HE2 : Hid (Tr.trF [] 0 [] s = Tr.trF ((s.drop (p + 1)).take (p + 1 - (p + 1))) 0 (acc ++ [(s.drop st).take (p + 1 - st)]) (s.drop (p + 1))) := by
                rw [Hid, HTC.out, if_neg (by decide), if_pos rfl, Nat.sub_self, List.take_zero, HCUT.out]
              have HX : Hid (S.extract st (p + 1) = ⟨((s.drop st).take (p + 1 - st)).toArray⟩) := by rw [Hid, HS.out]; exact extract_S s st (p + 1)
              obtain ⟨X, hX⟩ : ∃ X, X = S.extract st (p + 1) := ⟨_, rfl⟩
              have HXX : Hid (S.extract st (p + 1) = X) := hX.symm
              have hown2 := HO2.out
              have hp1 : p + 1 ≤ S.size := hps
              clear HTC
              have hsl : ∀ W, (Instr.slice 9 (.string S) (some (.int .i64 (st : Int))) (some (.int .i64 ((p : Int) + 1))) none).run Tryz.prog W = .ok (.string X) W := fun W => by
                rw [run_slice_string W 9 S .i64 .i64 st ((p : Int) + 1) Tryz.underlying9 (by omega) (by omega) (by omega)]
                rw [← HXX.out]
                congr 3
              clear hX
              go_wp2_with (at_builtin; (refine wpList_append_lies _ rfl (.tmp 28) (.tmp 34) 76 rfl w.heap.size 80 i0 _ 1 16 Tryz.underlying76 hi hz0 hz1 hz2 rfl (by omega) (.slice Av q cv) q (strs acc) rfl (hown2.alloc _) ⟨W.heap.size, 0, none⟩ 1 1 [.string X] rfl rfl (World.news_of_block (cs := #[.string X]) (heap_alloc_new _ _)) (by simp [Value.oneCell']) (by omega) (by simp only [maxLen]; omega) (by omega) (by simp; omega) (W.heap.size + 1) (by simp) ?_); intro g2 cap2 w3 hown3 hgrow3 hat3 hlt3)
              have e1 : strs acc ++ [Value.string X] = strs (acc ++ [(s.drop st).take (p + 1 - st)]) := by rw [← HXX.out, HX.out]; simp [strs]
              rw [e1] at hown3
              have GI : Hid (w3.heap[w.heap.size]? = some (.stringIter S (p + 1))) := by
                rw [Hid, hgrow3.block _ (by simp; omega) (own_ne_iter HO2.out HH2.out), Lib.alloc_old _ _ _ hW1]
                exact HH2.out
              have G3 := Lib.hid hown3
              have GB3 : Hid (Below w.heap.size w w3) := (HB2.out.alloc (by omega) _).grown hgrow3 (by simp; omega) (fun z hz => (HO2.out.lt z hz).1)
              clear hown3 hgrow3 hat3 hown2 e1 hsl
              go_wp2
              go_roundw
              case rel => exact ⟨p + 1, p + 1, 0, q + 1, cap2, _, _, by omega, by omega, by omega, by omega, rfl, by go_num, rfl, GI.out, HE2, G3, GB3.out⟩
              case measure =>
                simp only [World.iterPos, GI.out, HIT.out]
                omega
            · have HE2 : Hid (Tr.trF [] 0 [] s = Tr.trF ((s.drop st).take (p + 1 - st)) (op - 1) acc (s.drop (p + 1))) := by
                rw [Hid, HTC.out, if_neg (by omega), if_neg (by omega), HCUT.out]
              have t0 : ((op : Int) - 1 == 0) = false := beq_f (by omega)
              clear HTC
              go_wp2
              go_roundw
              case rel => exact ⟨p + 1, st, op - 1, q, cv, Av, acc, by omega, by omega, by omega, by omega, rfl, rfl, by go_num, HH2.out, HE2, HO2, HB2.out⟩
              case measure =>
                simp only [World.iterPos, HH2.out, HIT.out]
                omega
          · have G : Hid (Tr.trF [] 0 [] s = ([], false)) := by rw [Hid, HE.out]; exact tr_other hc h91 h93
            have t1 : ((c.toNat : Int) == 91) = false := beq_f (fun e => h91 (UInt8.toNat_inj.1 (by simp; omega)))
            have t2 : ((c.toNat : Int) == 93) = false := beq_f (fun e => h93 (UInt8.toNat_inj.1 (by simp; omega)))
            generalize hW : wr.iterAt w.heap.size S (p + 1) = W at *
            clear hc hbyte hasc HE HBw HO hit hW hit2 hsz2 h91 h93
            go_wp2
            go_ret2
            exact ResT.none G.out HB2.out
      · have hd := decode_high S p hps (by rw [hbyte]; omega)
        have hnx : ∀ ty, (Instr.next (.pointer (some ⟨w.heap.size, 0, none⟩)) true ty).run Tryz.prog wr = _ := fun ty => Lib.run_next_any_at wr w.heap.size S p ty hit hps
        have h91 : c ≠ 91 := fun e => by subst e; exact hasc (by decide)
        have h93 : c ≠ 93 := fun e => by subst e; exact hasc (by decide)
        have G : Hid (Tr.trF [] 0 [] s = ([], false)) := by rw [Hid, HE.out]; exact tr_other hc h91 h93
        have HB2 := Lib.hid (Lib.below_iterAt HBw (k := w.heap.size) (Nat.le_refl _) S (p + (Utf8.decode S p).2))
        generalize hW : wr.iterAt w.heap.size S (p + (Utf8.decode S p).2) = W at *
        obtain ⟨rn, hrn⟩ : ∃ rn, rn = (Utf8.decode S p).1 := ⟨_, rfl⟩
        rw [← hrn] at hnx hd
        have t1 : ((rn : Int) == 91) = false := beq_f (by have := hd.1; omega)
        have t2 : ((rn : Int) == 93) = false := beq_f (by have := hd.1; omega)
        clear hc hbyte hasc HE HBw HO hit hW h91 h93 hrn hd
        go_wp2
        go_ret2
        exact ResT.none G.out HB2.out
    · have hnx : ∀ ty, (Instr.next (.pointer (some ⟨w.heap.size, 0, none⟩)) true ty).run Tryz.prog wr = _ := fun ty => Lib.run_next_end_at wr w.heap.size S p ty hit hps
      have e : Tr.trF [] 0 [] s = (acc, op == 0) := by
        have hl : s.length ≤ p := by have := HSZ.out; unfold Hid at this; omega
        have := HE.out
        rw [List.drop_of_length_le hl] at this
        rw [this]
        simp [Tr.trF]
      have G : Hid (ResT (Tr.trF [] 0 [] s) w (.returned (.tuple #[.slice Av q cv, .bool (op == 0)])) wr) := by
        rw [Hid, e]; exact ⟨Av, q, cv, rfl, HO.out, HBw⟩
      by_cases h0 : op = 0
      · subst h0
        clear HBw HE e hit
        go_wp2
        go_ret2
        exact G.out
      · have t0 : ((op : Int) == 0) = false := beq_f (by omega)
        have t1 : (op == 0) = false := by simp [h0]
        rw [t1] at G
        clear HBw HE e hit h0 t1
        go_wp2
        go_ret2
        exact G.out
end Go.Proofs.YtolkbbbbahhfaaaGreat
/-
  The program's order of forests, by texts, and the text of a product.
-/
namespace Go.Proofs.YtolkbbbbahhfaaaGreat
open Go.RowKit Fld
set_option linter.unusedVariables false
set_option linter.unusedSimpArgs false
set_option maxRecDepth 100000

/-- the first number that is not 0 -/
def orL : List Int → Int
  | [] => 0
  | a :: r => if a = 0 then orL r else a
theorem orL_at {xs : List Int} {k : Nat} {a : Int} (h : xs[k]? = some a) : orL (xs.drop k) = if a = 0 then orL (xs.drop (k + 1)) else a := by
  obtain ⟨q, e⟩ := List.getElem?_eq_some_iff.1 h
  rw [List.drop_eq_getElem_cons q, e, orL]
theorem orInts_any (A : Option Addr) (n c B : Nat) (xs : List Int) (w : World) (hl : xs.length = n) (hn : n ≤ 1048576) (h : Row w B A (ints xs)) :
    Calls Tryz.prog 120 #[.slice A n c] w fun e w' => e = .returned (.int .i64 (orL xs)) ∧ w = w' := by
  have HL := Lib.hid hl
  clear hl
  go_enter Tryz.func120, Tryz.ntmps120
  go_wp2_with fail
  go_loop [8] (fun i => ∃ k : Nat, k ≤ n ∧ i = .int .i64 k ∧ Hid (orL xs = orL (xs.drop k))) (fun i => n - (intOf i).toNat)
  case atStart => exact ⟨0, Nat.zero_le _, rfl, rfl⟩
  case round =>
    obtain ⟨k, hk, rfl, HC⟩ := hrel
    by_cases hlt : k < n
    · obtain ⟨a, ha⟩ := at_lt (show k < xs.length by rw [HL.out]; exact hlt)
      obtain ⟨b, o, rfl, _, hc⟩ := h k _ (ints_at ha)
      have HS := Lib.hid (orL_at ha)
      clear ha
      by_cases hz : a = 0
      · subst hz
        have HN : Hid (orL xs = orL (xs.drop (k + 1))) := by rw [Hid, HC.out, HS.out, if_pos rfl]
        clear HC HS
        go_wp2
        go_round
        case rel => exact ⟨k + 1, by omega, by go_num, HN⟩
        case measure => simp [intOf]; omega
      · have HN : Hid (orL xs = a) := by rw [Hid, HC.out, HS.out, if_neg hz]
        have t := bne_t hz
        clear HC HS hz
        go_wp2
        go_ret
        exact ⟨ret_i64 HN.out.symm, rfl⟩
    · obtain rfl : k = n := by omega
      have HN : Hid (orL xs = 0) := by rw [Hid, HC.out, List.drop_eq_nil_of_le (by rw [HL.out]; exact Nat.le_refl _)]; rfl
      clear HC
      go_wp2
      go_ret
      exact ⟨ret_i64 HN.out.symm, rfl⟩
/-- texts in turn, then which list ends first -/
def cmpTs : List (List UInt8) → List (List UInt8) → Int
  | a :: f, b :: g => if Tr.cmpT a b = 0 then cmpTs f g else Tr.cmpT a b
  | _ :: _, [] => 1
  | [], _ :: _ => -1
  | [], [] => 0
theorem cmpTs_at {f g : List (List UInt8)} {k : Nat} {a b : List UInt8} (hf : f[k]? = some a) (hg : g[k]? = some b) : cmpTs (f.drop k) (g.drop k) = if Tr.cmpT a b = 0 then cmpTs (f.drop (k + 1)) (g.drop (k + 1)) else Tr.cmpT a b := by
  obtain ⟨q, e⟩ := List.getElem?_eq_some_iff.1 hf
  obtain ⟨q2, e2⟩ := List.getElem?_eq_some_iff.1 hg
  rw [List.drop_eq_getElem_cons q, e, List.drop_eq_getElem_cons q2, e2, cmpTs]
theorem cmpTs_one {f g : List (List UInt8)} {k : Nat} {a : List UInt8} (hf : f[k]? = some a) (hg : g.length ≤ k) : cmpTs (f.drop k) (g.drop k) = 1 := by
  obtain ⟨q, e⟩ := List.getElem?_eq_some_iff.1 hf
  rw [List.drop_eq_getElem_cons q, e, List.drop_eq_nil_of_le hg, cmpTs]
theorem cmpTs_two {f g : List (List UInt8)} {k : Nat} (hf : f.length ≤ k) (hg : k < g.length) : cmpTs (f.drop k) (g.drop k) = -1 := by
  rw [List.drop_eq_nil_of_le hf, List.drop_eq_getElem_cons hg, cmpTs]
theorem cmpTs_end {f g : List (List UInt8)} {k : Nat} (hf : f.length ≤ k) (hg : g.length ≤ k) : cmpTs (f.drop k) (g.drop k) = 0 := by
  rw [List.drop_eq_nil_of_le hf, List.drop_eq_nil_of_le hg, cmpTs]
theorem cmpT_bd (x y : List UInt8) : -1 ≤ Tr.cmpT x y ∧ Tr.cmpT x y ≤ 1 := by
  unfold Tr.cmpT
  repeat' split
  all_goals omega
theorem forestTrees_any (s : List UInt8) (w : World) (hn : s.length ≤ 1048576) :
    Calls Tryz.prog 99 #[.string ⟨s.toArray⟩] w fun e w' => ∃ A q c, e = .returned (.slice A q c) ∧ w'.ownsRow w.heap.size 80 1 (.slice A q c) q (strs (Tr.trF [] 0 [] s).1) ∧ Below w.heap.size w w' := by
  go_enter Tryz.func99, Tryz.ntmps99
  go_wp2_with fail
  refine (treesIn_any s _ hn).mono ?_
  rintro e w2 ⟨A, q, c, rfl, own2, bel2⟩
  have O := Lib.hid own2
  have B := Lib.hid bel2
  clear own2 bel2
  go_wp2
  go_ret
  exact ⟨A, q, c, rfl, O.out, B.out⟩
theorem productOf_any (A : Option Addr) (base n c : Nat) (ss : List (List UInt8)) (w : World) (hn : n ≤ 12) (hs16 : ∀ s ∈ ss, s.length ≤ 16) (hbase : base ≤ w.heap.size) (h : w.ownsRow base 80 1 (.slice A n c) n (strs ss)) :
    Calls Tryz.prog 54 #[.slice A n c] w fun e w' => e = .returned (.string ⟨(Tr.sortT ss).flatten.toArray⟩) ∧ Below base w w' := by
  have hl : ss.length = n := by rw [← strs_length]; exact own_len h
  have hsl : (Tr.sortT ss).length = n := by rw [(sortT_perm ss).length_eq]; exact hl
  have HSL := Lib.hid hsl
  have hft : (Tr.sortT ss).flatten.length ≤ 1048576 := by
    have : ∀ (l : List (List UInt8)), (∀ s ∈ l, s.length ≤ 16) → l.flatten.length ≤ 16 * l.length := fun l => by
      induction l with
      | nil => intro _; simp
      | cons a r ih => intro q; have h1 := q a (by simp); have h2 := ih (fun s hs => q s (by simp [hs])); rw [List.flatten_cons, List.length_append, List.length_cons]; omega
    have := this (Tr.sortT ss) (fun s hs => hs16 s ((sortT_perm ss).mem_iff.1 hs))
    omega
  have HFT := Lib.hid hft
  have C0 := sortFunc_any A base n c ss w hn hs16 hbase h
  clear hl hsl hs16 h hft
  go_enter Tryz.func54, Tryz.ntmps54
  go_wp2_with fail
  refine C0.mono ?_
  rintro e w1 ⟨rfl, h1, h2, h3⟩
  have HR : Hid (Row w1 w1.heap.size A (strs (Tr.sortT ss))) := row_of_own h1
  have HB1 := Lib.hid h2
  clear h1 h2 C0
  go_wp2_with fail
  refine (textOf_any A n c w1.heap.size (Tr.sortT ss) w1 HSL.out (by omega) HFT.out (Nat.le_refl _) HR.out).mono ?_
  rintro e w2 ⟨rfl, bel2⟩
  have GB := Lib.hid (HB1.out.trans (bel2.mono h3))
  clear bel2
  go_wp2
  go_ret
  exact ⟨rfl, GB.out⟩
end Go.Proofs.YtolkbbbbahhfaaaGreat
/-
  The branches of a tree by its text.
-/
namespace Go.Proofs.YtolkbbbbahhfaaaGreat
open Go.RowKit Fld
set_option linter.unusedVariables false
set_option linter.unusedSimpArgs false
set_option maxRecDepth 100000

/-- texts of the call's own -/
def ResTs (l : List (List UInt8)) (w : World) (e : Ending) (w' : World) : Prop :=
  ∃ A q c, e = .returned (.slice A q c) ∧ q = l.length ∧ w'.ownsRow w.heap.size 80 1 (.slice A q c) q (strs l) ∧ Below w.heap.size w w'
theorem branches_any (x : List UInt8) (w : World) (hx : Tr.isTx x = true) :
    Calls Tryz.prog 97 #[.string ⟨x.toArray⟩] w (ResTs (Tr.brT x) w) := by
  obtain ⟨⟨h2, h16⟩, _, _⟩ := Tr.br_parts hx
  obtain ⟨S, hS⟩ : ∃ S : ByteArray, S = ⟨x.toArray⟩ := ⟨_, rfl⟩
  have hsz : S.size = x.length := by rw [hS]; exact size_S x
  have HX : Hid (S.extract 1 (x.length - 1) = ⟨(Tr.inner x).toArray⟩) := by
    rw [Hid, hS, extract_S]; unfold Tr.inner; rw [show x.length - 1 - 1 = x.length - 2 from by omega]
  obtain ⟨X, hX⟩ : ∃ X, X = S.extract 1 (x.length - 1) := ⟨_, rfl⟩
  have hXX : X = ⟨(Tr.inner x).toArray⟩ := by rw [hX]; exact HX.out
  have HXX : Hid (S.extract 1 (x.length - 1) = X) := hX.symm
  have hil : (Tr.inner x).length ≤ 1048576 := by unfold Tr.inner; rw [List.length_take]; omega
  have C0 := treesIn_any (Tr.inner x) w hil
  rw [← hXX] at C0
  have hsl : ∀ W, (Instr.slice 80 (.string S) (some (.int .i64 1)) (some (.int .i64 ((S.size : Int) - 1))) none).run Tryz.prog W = .ok (.string X) W := fun W => by
    have h9 := run_slice_string W 80 S .i64 .i64 1 ((S.size : Int) - 1) Tryz.underlying80 (by omega) (by omega) (by omega)
    rw [show (S.size : Int) - 1 = ((x.length - 1 : Nat) : Int) from by omega] at h9 ⊢
    rw [h9, ← HXX.out]
    congr 3
  rw [← hS]
  have hs2 : 2 ≤ S.size := by omega
  have hs16 : S.size ≤ 16 := by omega
  clear hX hXX hS hsz h2 h16 hil hx
  go_enter Tryz.func97, Tryz.ntmps97
  go_wp2_with fail
  refine C0.mono ?_
  rintro e w1 ⟨A, q, c, rfl, own1, bel1⟩
  have G : Hid (ResTs (Tr.brT x) w (.returned (.slice A q c)) w1) := by
    refine ⟨A, q, c, rfl, ?_, own1, bel1⟩
    have := own_len own1
    rw [strs_length] at this
    exact this.symm
  clear own1 bel1
  go_wp2
  go_ret
  exact G.out
end Go.Proofs.YtolkbbbbahhfaaaGreat
/-
  A list of lists beside a code, as calls hand it back.
-/
namespace Go.Proofs.YtolkbbbbahhfaaaGreat
open Go.RowKit Fld
set_option linter.unusedVariables false
set_option linter.unusedSimpArgs false
set_option maxRecDepth 100000

/-- a list of lists that the call owns, beside a code -/
def ResM (r : List (List Int) × Int) (w : World) (e : Ending) (w' : World) : Prop :=
  r.1.length + total r.1 ≤ 1048576 ∧ ∃ A c vs, e = .returned (.tuple #[.slice A r.1.length c, .int .i64 r.2]) ∧ OwnMat w' w.heap.size w'.heap.size (.slice A r.1.length c) r.1.length r.1 vs ∧ Below w.heap.size w w'
theorem OwnMat.nil' (w : World) (lo hi : Nat) : OwnMat w lo hi (.slice none 0 0) 0 [] [] :=
  ⟨⟨World.ownsRow_nil _ _ _ _, fun g e => by simp [Value.ownBlock] at e⟩, rfl, fun r row hr => by simp at hr, fun r s u t g _ hu => by simp at hu⟩
theorem ResM.nil {r : List (List Int) × Int} {w w' : World} {k : Int} (h : r = ([], k)) (hb : Below w.heap.size w w') : ResM r w (.returned (.tuple #[.slice none 0 0, .int .i64 k])) w' := by
  subst h
  exact ⟨by simp [total], none, 0, [], rfl, OwnMat.nil' _ _ _, hb⟩
theorem ResM.of {r : List (List Int) × Int} {w w' : World} {A : Option Addr} {n c : Nat} {m : List (List Int)} {vs : List Value} {k : Int} (h : r = (m, k)) (hn : m.length + total m ≤ 1048576)
    (ho : OwnMat w' w.heap.size w'.heap.size (.slice A n c) n m vs) (hb : Below w.heap.size w w') : ResM r w (.returned (.tuple #[.slice A n c, .int .i64 k])) w' := by
  subst h
  have e := ho.size
  subst e
  exact ⟨hn, A, c, vs, rfl, ho, hb⟩
/-- lists in memory below a bound: the model's -/
def LowMat (w : World) (hi : Nat) (A : Option Addr) (m : List (List Int)) : Prop := Mat w hi A m
theorem LowMat.below {w w' : World} {hi B : Nat} {A : Option Addr} {m : List (List Int)} (h : LowMat w hi A m) (hb : Below B w w') (hB : hi ≤ B) : LowMat w' hi A m := Mat.below h hb hB
theorem LowMat.within {w w' : World} {hi lo' hi' : Nat} {A : Option Addr} {m : List (List Int)} (h : LowMat w hi A m) (hb : Within lo' hi' w w') (hs : hi ≤ w.heap.size) (hd : hi ≤ lo') : LowMat w' hi A m :=
  Mat.keep h fun b o hbb => World.cell?_of_block (hb.block b (by omega) (by omega))
theorem LowMat.mat {w : World} {hi : Nat} {A : Option Addr} {m : List (List Int)} (h : LowMat w hi A m) : Mat w hi A m := h
theorem LowMat.drewN {w : World} {hi : Nat} {A : Option Addr} {m : List (List Int)} (h : LowMat w hi A m) (k : Nat) : LowMat (w.drewN k) hi A m := h
def ResMl (r : List (List Int) × Int) (w : World) (e : Ending) (w' : World) : Prop :=
  r.1.length + total r.1 ≤ 1048576 ∧ ∃ A c, e = .returned (.tuple #[.slice A r.1.length c, .int .i64 r.2]) ∧ LowMat w' w'.heap.size A r.1 ∧ Below w.heap.size w w'
theorem ResMl.nil {r : List (List Int) × Int} {w w' : World} {k : Int} (h : r = ([], k)) (hb : Below w.heap.size w w') : ResMl r w (.returned (.tuple #[.slice none 0 0, .int .i64 k])) w' := by
  subst h
  exact ⟨by simp [total], none, 0, rfl, fun k r hr => by simp at hr, hb⟩
theorem ResMl.of {r : List (List Int) × Int} {w w' : World} {A : Option Addr} {n c : Nat} {m : List (List Int)} {k : Int} (h : r = (m, k)) (hl : m.length = n) (hn : m.length + total m ≤ 1048576)
    (ho : Mat w' w'.heap.size A m) (hb : Below w.heap.size w w') : ResMl r w (.returned (.tuple #[.slice A n c, .int .i64 k])) w' := by
  subst h hl
  exact ⟨hn, A, c, rfl, ho, hb⟩
end Go.Proofs.YtolkbbbbahhfaaaGreat
/-
  The model's copy of a list of lists.
-/
namespace Go.Proofs.YtolkbbbbahhfaaaGreat
open Go.RowKit Fld
set_option linter.unusedVariables false
set_option linter.unusedSimpArgs false
set_option maxRecDepth 100000

theorem Mat.vals {w : World} {B : Nat} {A : Option Addr} {m : List (List Int)} (h : Mat w B A m) : ∃ vs, Row w B A vs ∧ Vals w B m vs := by
  cases m with
  | nil => exact ⟨[], Row.nil _ _ _, Vals.nil _ _⟩
  | cons x m =>
    obtain ⟨b, o, _, _, rfl, hb, _⟩ := h 0 x rfl
    refine ⟨(List.range (x :: m).length).map fun k => (w.cell? ⟨b, o + k, none⟩).getD (.bool false), fun k v hv => ?_, ?_, fun k r hr => ?_⟩
    · rw [List.getElem?_map] at hv
      rcases Nat.lt_or_ge k (x :: m).length with hk | hk
      · rw [List.getElem?_range hk] at hv
        obtain ⟨r, hr⟩ := at_lt hk
        obtain ⟨b', o', Ak, ck, e, hb', hc, _⟩ := h k r hr
        cases e
        rw [Option.map_some, hc] at hv
        injection hv with hv
        exact ⟨b, o, rfl, hb, by rw [hc]; exact congrArg some hv⟩
      · rw [List.getElem?_eq_none (by simp only [List.length_range]; exact hk)] at hv
        cases hv
    · rw [List.length_map, List.length_range]
    · obtain ⟨b', o', Ak, ck, e, hb', hc, h1, h2, h3⟩ := h k r hr
      cases e
      have hk : k < (x :: m).length := by
        rcases Nat.lt_or_ge k (x :: m).length with y | y
        · exact y
        · rw [List.getElem?_eq_none y] at hr; cases hr
      refine ⟨Ak, ck, ?_, h1, h2, h3⟩
      rw [List.getElem?_map, List.getElem?_range hk, Option.map_some, hc]; rfl
theorem Vals.app {w : World} {B : Nat} {m m' : List (List Int)} {vs vs' : List Value} (h : Vals w B m vs) (h' : Vals w B m' vs') : Vals w B (m ++ m') (vs ++ vs') := by
  have hl := h.1
  refine ⟨by rw [List.length_append, List.length_append, h.1, h'.1], fun k r hr => ?_⟩
  rcases Nat.lt_or_ge k m.length with g | g
  · rw [List.getElem?_append_left g] at hr
    obtain ⟨A, c, q1, q2⟩ := h.2 k r hr
    exact ⟨A, c, by rw [List.getElem?_append_left (by omega)]; exact q1, q2⟩
  · rw [List.getElem?_append_right g] at hr
    obtain ⟨A, c, q1, q2⟩ := h'.2 _ r hr
    exact ⟨A, c, by rw [List.getElem?_append_right (by omega), hl]; exact q1, q2⟩
theorem OwnMat.vals {w : World} {lo hi n : Nat} {v : Value} {m : List (List Int)} {vs : List Value} (h : OwnMat w lo hi v n m vs) : Vals w hi m vs := by
  refine ⟨h.len, fun k r hr => ?_⟩
  obtain ⟨A, c, e, o⟩ := h.inner k r hr
  obtain ⟨h1, h2⟩ := own_cap o.1
  exact ⟨A, c, e, h1, h2, o.row⟩
set_option maxHeartbeats 1000000 in
theorem l01Own2_any (A : Option Addr) (n c B : Nat) (f : List (List Int)) (w : World) (hl : f.length = n) (hn : n + total f ≤ 1048576) (h1 : ∀ r ∈ f, 1 ≤ r.length) (hB : B ≤ w.heap.size) (h : Mat w B A f) :
    Calls Tryz.prog 89 #[.slice A n c] w (NewMat n f w) := by
  obtain ⟨j0, hj, hy0, hy1, hy2⟩ := info_parts info_row
  have HL := Lib.hid hl
  have HN := Lib.hid hn
  have H1 := Lib.hid h1
  have hn' : n ≤ 1048576 := by omega
  clear hl hn h1
  go_enter Tryz.func89, Tryz.ntmps89
  go_wp2_with fail
  go_loopw [3, 4] (fun v i wr => ∃ (k g cap : Nat), k ≤ n ∧ v = .slice (some ⟨g, 0, none⟩) k cap ∧ i = .int .i64 k ∧ GrowM w g k cap (f.take k) wr) (fun _ i _ => n - (intOf i).toNat)
  case atStart => exact ⟨0, _, 0, Nat.zero_le _, rfl, rfl, GrowM.start ..⟩
  case round =>
    obtain ⟨k, g, cap, hk, rfl, rfl, vs, HM, HBel⟩ := hrel
    have hsz := HBel.size
    by_cases hlt : k < n
    · obtain ⟨r, hr⟩ := at_lt (show k < f.length by rw [HL.out]; exact hlt)
      obtain ⟨b, o, Ak, ck, rfl, hb, hc, hrc, hcm, hrow⟩ := (h.below HBel hB) k r hr
      have hrl : r.length ≤ 1048576 := by have := row_total hr; have := HN.out; omega
      have hr1 := H1.out r (List.mem_of_getElem? hr)
      obtain ⟨x0, hx0⟩ := at_lt (show 0 < r.length by omega)
      obtain ⟨br, orr, rfl, _, _⟩ := hrow 0 _ (ints_at hx0)
      have HS : Hid (f.take (k + 1) = f.take k ++ [r]) := by
        rw [Hid, List.take_add_one, hr, Option.toList_some]
      have HM' := Lib.hid HM
      have HB1 := Lib.hid HBel
      have HRO := Lib.hid hrow
      clear hr HM HBel hrow hx0
      go_wp2_with fail
      refine (l01Own_any ⟨br, orr, none⟩ r.length ck B r _ rfl hrl (by omega) HRO.out).mono ?_
      rintro e w3 ⟨A3, c3, rfl, own3, bel3⟩
      have hs3 := bel3.size
      have HM3 := Lib.hid (HM'.out.below bel3 (Nat.le_refl _))
      have HB3 : Hid (Below w.heap.size w w3) := HB1.out.trans (bel3.mono hsz)
      have HO3 := Lib.hid own3
      have hownO := HM3.out.outer.1
      clear own3 bel3
      go_wp2_with (at_builtin; refine wpList_append_lies _ rfl (.tmp 12) (.tmp 18) 22 rfl w.heap.size 23 j0 _ 1 24 Tryz.underlying22 hj hy0 hy1 hy2 rfl (by omega) (.slice (some ⟨g, 0, none⟩) k cap) k vs rfl (hownO.alloc _) ⟨w3.heap.size, 0, none⟩ 1 1 [.slice A3 r.length c3] rfl rfl (World.news_of_block (cs := #[.slice A3 r.length c3]) (heap_alloc_new _ _)) (by simp [Value.oneCell']) (by omega) (by simp only [maxLen]; omega) (by omega) (by simp; omega) (w3.heap.size + 1) (by simp) ?_; intro g5 cap5 w5 hown5 hgrow5 hat5 hlt5)
      have hs5 : w3.heap.size ≤ w5.heap.size := by have := hgrow5.size; simp at this; omega
      have G : Hid (GrowM w g5 (k + 1) cap5 (f.take (k + 1)) w5) := by
        rw [Hid, HS.out]
        refine ⟨_, HM3.out.push (row := r) hs3 rfl HO3.out hsz hown5 hgrow5, ?_⟩
        exact (HB3.out.alloc (by omega) _).grown hgrow5 (by simp; omega) (fun q hq => (hownO.lt q hq).1)
      clear hown5 hgrow5 hat5 hownO
      go_wp2
      go_roundw
      case rel => exact ⟨k + 1, g5, cap5, by omega, rfl, by go_num, G.out⟩
      case measure => simp [intOf]; omega
    · obtain rfl : k = n := by omega
      rw [List.take_of_length_le (by rw [HL.out]; exact Nat.le_refl _)] at HM
      have G : Hid (NewMat k f w (.returned (.slice (some ⟨g, 0, none⟩) k cap)) wr) := GrowM.done ⟨vs, HM, HBel⟩
      clear HM HBel
      go_wp2
      go_ret
      exact G.out
end Go.Proofs.YtolkbbbbahhfaaaGreat
/-
  What TimesForests answers, the program's and the model's.
-/
namespace Go.Proofs.YtolkbbbbahhfaaaGreat
open Go.RowKit Fld
set_option linter.unusedVariables false
set_option linter.unusedSimpArgs false
set_option maxRecDepth 100000

theorem strs_app (a b : List (List UInt8)) : strs a ++ strs b = strs (a ++ b) := by simp [strs]
theorem strs_one (l : List (List UInt8)) : ∀ u ∈ strs l, u.oneCell' = true := fun u hu => by
  unfold strs at hu
  rw [List.mem_map] at hu
  obtain ⟨x, _, rfl⟩ := hu
  rfl
set_option maxHeartbeats 1000000 in
theorem l03Times_any (A A' : Option Addr) (n n' c c' B B' : Nat) (f g : List (List Int)) (w : World) (hl : f.length = n) (hl' : g.length = n') (h8 : n + n' ≤ 8) (ht : n + total f ≤ 1048576) (hlv : ∀ r ∈ f ++ g, Tr.isLv r = true) (hB : B ≤ w.heap.size) (hB' : B' ≤ w.heap.size) (h : Mat w B A f) (h' : Mat w B' A' g) (hA : A' = none → n' = 0 ∧ c' = 0) :
    Calls Tryz.prog 162 #[.slice A n c, .slice A' n' c'] w (ResRws (Tr.sortL (f ++ g)) w) := by
  obtain ⟨j0, hj, hy0, hy1, hy2⟩ := info_parts info_row
  have HL := Lib.hid hl
  have HL' := Lib.hid hl'
  have HLV := Lib.hid hlv
  have C0 := l01Own2_any A n c B f w hl ht (fun r hr => (lv_bd (hlv r (by simp [hr]))).1) hB h
  have HFG : Hid ((f ++ g).length = n + n') := by rw [Hid, List.length_append, hl, hl']
  clear hl hl' hlv
  have fin : ∀ (A9 : Option Addr) (c9 : Nat) (us : List Value) (w9 : World), w9.ownsRow w.heap.size 23 1 (.slice A9 (n + n') c9) (n + n') us → Vals w9 w9.heap.size (f ++ g) us → Below w.heap.size w w9 → Calls Tryz.prog 142 #[.slice A9 (n + n') c9] w9 (ResRws (Tr.sortL (f ++ g)) w) := by
    intro A9 c9 us w9 ho hv hb
    refine (l03Sort_any A9 (n + n') c9 w9.heap.size (f ++ g) w9 HFG.out h8 HLV.out (Nat.le_refl _) (Rws.mat ⟨us, row_of_own ho, hv⟩)).mono ?_
    rintro e w10 ⟨b, o, cap, rfl, hc, hr, bel⟩
    exact ⟨b, o, cap, rfl, hc, hr, hb.trans (bel.mono hb.size)⟩
  have HFIN := Lib.hid fin
  clear fin
  cases hA' : A' with
  | none =>
    obtain ⟨e1, e2⟩ := hA hA'
    subst hA' e1 e2
    have hg : g = [] := List.eq_nil_of_length_eq_zero HL'.out
    subst hg
    clear hA
    go_enter Tryz.func162, Tryz.ntmps162
    go_wp2_with fail
    refine C0.mono ?_
    rintro e w1 ⟨A1, c1, vs1, rfl, own1, bel1⟩
    have hown := own1.outer.1
    have GB := Lib.hid bel1
    have GO := Lib.hid own1
    clear own1 bel1 C0
    go_wp2_with (at_builtin; refine wpList_append_own_none rfl (.tmp 6) (.tmp 7) 22 rfl w.heap.size 23 j0 1 Tryz.underlying22 hj (.slice A1 n c1) n vs1 rfl hown rfl ?_)
    clear hown
    go_wp2_with fail
    refine (HFIN.out A1 c1 vs1 w1 GO.out.outer.1 (by rw [List.append_nil]; exact GO.out.vals) GB.out).mono ?_
    rintro e w2 hr
    obtain ⟨b, o, cap, rfl, hc, hr1, bel⟩ := hr
    have G1 := Lib.hid hr1
    have G2 := Lib.hid bel
    have G3 := Lib.hid hc
    clear hr1 bel hc
    go_wp2
    go_ret
    exact ⟨b, o, cap, by first | rfl | (rw [List.append_nil]; rfl), G3.out, G1.out, G2.out⟩
  | some ad =>
    subst hA'
    obtain ⟨us, hrow, hvals⟩ := h'.vals
    have HROW := Lib.hid hrow
    have HVALS := Lib.hid hvals
    have HUL : Hid (us.length = n' * 1) := by rw [Hid, hvals.1, HL'.out, Nat.mul_one]
    have HU1 : Hid (∀ u ∈ us, u.oneCell' = true) := fun u hu => Vals.one (v := u) hvals u hu
    clear hrow hvals hA
    go_enter Tryz.func162, Tryz.ntmps162
    go_wp2_with fail
    refine C0.mono ?_
    rintro e w1 ⟨A1, c1, vs1, rfl, own1, bel1⟩
    have hown := own1.outer.1
    have GB := Lib.hid bel1
    have hs1 := bel1.size
    have GO := Lib.hid own1
    have HNW : Hid (∀ q z, us[q]? = some z → w1.cell? (ad.add q) = some z) := row_news (Row.below HROW.out bel1 hB')
    clear own1 bel1 C0
    go_wp2_with (at_builtin; refine wpList_append_own _ rfl (.tmp 6) (.tmp 7) 22 rfl w.heap.size 23 j0 _ 1 24 Tryz.underlying22 hj hy0 hy1 hy2 rfl (by omega) (.slice A1 n c1) n vs1 rfl hown ad n' c' us rfl HUL.out HNW.out HU1.out (by simp only [maxLen]; omega) (by omega) (by omega) ?_; intro v5 w5 own5 hgrow5 _; obtain ⟨A5, c5, rfl⟩ := own_shape' own5)
    have GB5 : Hid (Below w.heap.size w w5) := GB.out.grown hgrow5 (by omega) (fun z hz => (GO.out.outer.1.lt z hz).1)
    have GO5 := Lib.hid own5
    have GV5 : Hid (Vals w5 w5.heap.size (f ++ g) (vs1 ++ us)) := by
      have hs5 := hgrow5.size
      have v1 : Vals w5 w5.heap.size f vs1 := by
        have o5 : ∀ (k : Nat) (r : List Int), f[k]? = some r → ∃ (A : Option Addr) (c : Nat), vs1[k]? = some (Value.slice A r.length c) ∧ r.length ≤ c ∧ c ≤ maxLen ∧ Row w5 w5.heap.size A (ints r) := fun k r hr => by
          obtain ⟨A9, c9, e9, o9⟩ := GO.out.inner k r hr
          obtain ⟨q1, q2⟩ := own_cap o9.1
          have o10 := o9.grown hgrow5 (own_types o9.1 GO.out.outer.1 (by decide))
          exact ⟨A9, c9, e9, q1, q2, (OwnR.row o10).more hs5⟩
        exact ⟨GO.out.len, o5⟩
      have v2 : Vals w5 w5.heap.size g us := (HVALS.out.below GB5.out hB').more (by omega)
      exact v1.app v2
    clear own5 hgrow5 hown
    go_wp2_with fail
    refine (HFIN.out A5 c5 (vs1 ++ us) w5 GO5.out GV5.out GB5.out).mono ?_
    rintro e w2 hr
    obtain ⟨b, o, cap, rfl, hc, hr1, bel⟩ := hr
    have G1 := Lib.hid hr1
    have G2 := Lib.hid bel
    have G3 := Lib.hid hc
    clear hr1 bel hc
    go_wp2
    go_ret
    exact ⟨b, o, cap, by first | rfl | (rw [List.append_nil]; rfl), G3.out, G1.out, G2.out⟩
theorem own_none {w : World} {lo : Nat} {T : TypeId} {A : Option Addr} {n c : Nat} {vs : List Value} (h : w.ownsRow lo T 1 (.slice A n c) n vs) : A = none → n = 0 ∧ c = 0 := fun e => by
  rcases h.2 with ⟨q, rfl⟩ | ⟨g, cap, cur, q, _⟩
  · cases q; exact ⟨rfl, rfl⟩
  · cases q; cases e
end Go.Proofs.YtolkbbbbahhfaaaGreat
/-
  Cuts by functions that are ranged over: what each of them hands on.
-/
namespace Go.Proofs.YtolkbbbbahhfaaaGreat
open Go.RowKit Fld Go.Shelf
set_option linter.unusedVariables false
set_option linter.unusedSimpArgs false
set_option maxRecDepth 100000
attribute [local go_sem] Oper.semAt_some

/-- an append of a slice that is nil -/
theorem run_append_nil {P : Program} (w : World) (t ty e : TypeId) (i : TypeInfo) (ht : P.underlying t = some (.slice e)) (hi : P.info? e = some i)
    (base : Option Addr) (n c : Nat) (hc : n ≤ c) : (Builtin.append_ #[t, t] ty #[.slice base n c, .slice none 0 0]).run P w = .ok (.slice base n c) w := by
  cases base <;> simp [Builtin.append_, run_underlying ht, sizeOf, typeInfo, hi, hc, storeCells, loadCells, loadCellsFrom, Builtin.lenOf, Builtin.firstCells]
theorem wpList_append_nil {P : Program} (w : World) {ops : Array Oper} {rest : List Oper} {o : Oper} {a : Act} {Q : Exit → Act → World → Prop}
    (hg : o.guard = none) (s x : Operand) (t : TypeId) (hop : o.op = Op.call { callee := Callee.builtin Builtin.append, args := #[s, x], argTypes := #[t, t] })
    (e : TypeId) (i : TypeInfo) (ht : P.underlying t = some (.slice e)) (hi : P.info? e = some i)
    (base : Option Addr) (n c : Nat) (hc : n ≤ c) (hs : a.eval s = .slice base n c) (hx : a.eval x = .slice none 0 0)
    (hK : wpList P ops Q rest (a.put o.dst (.slice base n c)) w) : wpList P ops Q (o :: rest) a w := by
  refine wpList_plain hg fun K hK' => ?_
  have hrun := run_append_nil w t o.type e i ht hi base n c hc
  unfold Oper.wp
  simp [execOp, hop, resolve, invoke, builtin, hs, hx, hrun, Result.andThen]
  exact hK' _ _ hK
def encC (c : Ct) : Value := .agg #[.string ⟨c.1.flatten.toArray⟩, .string ⟨c.2.flatten.toArray⟩]
theorem fTimes_any (f g : List Tx) (w : World) (hf : ∀ t ∈ f, Tr.isTx t = true) (hg : ∀ t ∈ g, Tr.isTx t = true) (hb : byT f + byT g ≤ 16) :
    Calls Tryz.prog 179 #[.string ⟨f.flatten.toArray⟩, .string ⟨g.flatten.toArray⟩] w fun e w' => e = .returned (.string ⟨(Tr.sortT (f ++ g)).flatten.toArray⟩) ∧ Below w.heap.size w w' := by
  obtain ⟨i0, hi, hz0, hz1, hz2⟩ := info_parts info_tree
  have lf := len_byT hf
  have lg := len_byT hg
  have C0 := fun w' => forestTrees_any f.flatten w' (by rw [byT_flat]; omega)
  have C1 := fun w' => forestTrees_any g.flatten w' (by rw [byT_flat]; omega)
  have e1 : (Tr.trF [] 0 [] f.flatten).1 = f := by rw [tr_flat f [] hf]; rfl
  have e2 : (Tr.trF [] 0 [] g.flatten).1 = g := by rw [tr_flat g [] hg]; rfl
  simp only [e1] at C0
  simp only [e2] at C1
  have H16 : Hid (∀ s ∈ f ++ g, s.length ≤ 16) := fun s hs => by
    rw [List.mem_append] at hs
    rcases hs with hs | hs
    · exact (Tr.br_parts (hf s hs)).1.2
    · exact (Tr.br_parts (hg s hs)).1.2
  have HFG := Lib.hid (show f.length + g.length ≤ 8 by omega)
  obtain ⟨S, hS⟩ : ∃ S : ByteArray, S = ⟨f.flatten.toArray⟩ := ⟨_, rfl⟩
  obtain ⟨T, hT⟩ : ∃ T : ByteArray, T = ⟨g.flatten.toArray⟩ := ⟨_, rfl⟩
  rw [← hS, ← hT]
  simp only [← hS] at C0
  simp only [← hT] at C1
  clear hS hT e1 e2 hf hg hb lf lg
  go_enter Tryz.func179, Tryz.ntmps179
  go_wp2_with fail
  refine (C0 _).mono ?_
  rintro e w1 ⟨A1, q1, c1, rfl, own1, bel1⟩
  have hs1 := bel1.size
  have GB1 := Lib.hid bel1
  have HO1 := Lib.hid own1
  have hq1 : q1 = f.length := by rw [← strs_length]; exact (own_len own1).symm
  have HQ1 := Lib.hid hq1
  clear own1 bel1 hq1
  go_wp2_with fail
  refine (C1 _).mono ?_
  rintro e w2 ⟨A2, q2, c2, rfl, own2, bel2⟩
  have hq2 : q2 = g.length := by rw [← strs_length]; exact (own_len own2).symm
  have HQ2 := Lib.hid hq2
  have hs2 := bel2.size
  have own1' := ((OwnR.of HO1.out).below bel2 (Nat.le_refl _)).1
  have HO1' := Lib.hid own1'
  have GB2 := Lib.hid (GB1.out.trans (bel2.mono hs1))
  have hs02 := GB2.out.size
  have hq8 : q1 + q2 ≤ 8 := by rw [HQ1.out, HQ2.out]; exact HFG.out
  clear hq2
  rcases own2.2 with ⟨hv, h0⟩ | ⟨g2, cap2, cur2, hv, _⟩
  · injection hv with ea eb ec
    subst ea ec
    have hq0 : q2 = 0 := h0
    subst hq0
    have hg0 : g = [] := List.eq_nil_of_length_eq_zero HQ2.out.symm
    have HP : Hid (∀ W, Below w2.heap.size w2 W → Calls Tryz.prog 54 #[.slice A1 q1 c1] w2 fun e w' => e = .returned (.string ⟨(Tr.sortT (f ++ g)).flatten.toArray⟩) ∧ Below w.heap.size w2 w') := fun W _ => by
      rw [hg0, List.append_nil]
      exact productOf_any A1 w.heap.size q1 c1 f w2 (by omega) (fun s hs => H16.out s (by simp [hs])) hs02 HO1'.out
    clear own2 bel2
    have hqc := (own_cap own1').1
    go_wp2_with (at_builtin; refine wpList_append_nil _ rfl (.tmp 6) (.tmp 8) 76 rfl 80 i0 Tryz.underlying76 hi A1 q1 c1 hqc rfl rfl ?_)
    refine (HP.out _ (Below.refl _ _)).mono ?_
    rintro e w6 ⟨rfl, bel6⟩
    have GB6 : Hid (Below w.heap.size w w6) := GB2.out.trans bel6
    clear bel6
    go_wp2
    go_ret
    exact ⟨by rw [hg0, List.append_nil]; rfl, GB6.out⟩
  · injection hv with ea eb ec
    subst ea ec
    have HNW := Lib.hid (row_news (row_of_own own2))
    have HNL : Hid ((strs g).length = q2 * 1) := by rw [Hid, strs_length, Nat.mul_one]; exact HQ2.out.symm
    have HON := Lib.hid (strs_one g)
    have HSA := Lib.hid (strs_app f g)
    clear own2 bel2
    go_wp2_with (at_builtin; refine wpList_append_own _ rfl (.tmp 6) (.tmp 8) 76 rfl w.heap.size 80 i0 _ 1 16 Tryz.underlying76 hi hz0 hz1 hz2 rfl (by omega) (.slice A1 q1 c1) q1 (strs f) rfl own1' ⟨g2, 0, none⟩ q2 _ (strs g) rfl HNL.out HNW.out HON.out (by simp only [maxLen]; omega) (by omega) (by omega) ?_; intro v5 w5 own5 hgrow5 _; obtain ⟨A5, c5, rfl⟩ := own_shape' own5)
    rw [HSA.out] at own5
    have GB5 : Hid (Below w.heap.size w w5) := GB2.out.grown hgrow5 (by omega) (fun z hz => by have := (HO1'.out.lt z hz).1; omega)
    have HO5 := Lib.hid own5
    clear own5 hgrow5 own1'
    go_wp2_with fail
    refine (productOf_any A5 w.heap.size (q1 + q2) c5 (f ++ g) w5 (by omega) H16.out GB5.out.size HO5.out).mono ?_
    rintro e w6 ⟨rfl, bel6⟩
    have GB6 : Hid (Below w.heap.size w w6) := GB5.out.trans bel6
    clear bel6
    go_wp2
    go_ret
    exact ⟨rfl, GB6.out⟩
theorem cell_oth {w : World} {b g k : Nat} {o : Nat} {v x : Value} (h : w.cell? ⟨b, o, none⟩ = some x) (hne : b ≠ g) : (w.setCell ⟨g, k, none⟩ v).cell? ⟨b, o, none⟩ = some x :=
  (World.cell?_of_block (heap_setCell_other w ⟨g, k, none⟩ b v hne)).trans h
theorem info_ct : (Tryz.prog.info? 79).map (·.size) = some 2 := by kernel_rfl
/-- block g is a cut -/
def CtB (w : World) (g : Nat) (a b : ByteArray) : Prop := w.heap[g]? = some (.cells #[.string a, .string b] 79 (0, 0))
theorem CtB.c0 {w : World} {g : Nat} {a b : ByteArray} (h : CtB w g a b) : w.cell? ⟨g, 0, none⟩ = some (.string a) := by rw [cell_of_row w g 0 _ _ _ h]; rfl
theorem CtB.c1 {w : World} {g : Nat} {a b : ByteArray} (h : CtB w g a b) : w.cell? ⟨g, 1, none⟩ = some (.string b) := by rw [cell_of_row w g 1 _ _ _ h]; rfl
theorem CtB.free {w : World} {g : Nat} {a b : ByteArray} (h : CtB w g a b) (k : Nat) : w.frozen? ⟨g, k, none⟩ = false := frozen_of_row w g k _ _ h
theorem CtB.lt {w : World} {g : Nat} {a b : ByteArray} (h : CtB w g a b) : g < w.heap.size := (Array.getElem?_eq_some_iff.1 h).1
theorem CtB.below {w w' : World} {g B : Nat} {a b : ByteArray} (h : CtB w g a b) (hb : Below B w w') (hg : g < B) : CtB w' g a b := (hb.block g hg).trans h
theorem CtB.next {w w' : World} {g : Nat} {a b : ByteArray} (h : CtB w g a b) (hb : Below w.heap.size w w') : CtB w' g a b := h.below hb h.lt
theorem CtB.alloc {w : World} {g : Nat} {a b : ByteArray} (h : CtB w g a b) (o : Obj) : CtB (w.alloc o) g a b := h.next ((Below.refl _ _).alloc (Nat.le_refl _) _)
theorem CtB.new (w : World) (a b : ByteArray) : CtB (w.alloc (.cells #[.string a, .string b] 79)) w.heap.size a b := heap_alloc_new w _
theorem CtB.stored {w : World} {g : Nat} {a b : ByteArray} (h : CtB w g a b) (x y : ByteArray) : CtB ((w.setCell ⟨g, 0, none⟩ (.string x)).setCell ⟨g, 1, none⟩ (.string y)) g x y := by
  have h1 := heap_setCell_same w g 0 _ _ (.string x) h
  have h2 := heap_setCell_same (w.setCell ⟨g, 0, none⟩ (.string x)) g 1 _ _ (.string y) h1
  exact h2
set_option maxHeartbeats 2000000 in
theorem beside_any (c d : Ct) (w : World) {m n : Nat} (hc : OkC m c) (hd : OkC n d) (hmn : m + n ≤ 16) :
    Calls Tryz.prog 159 #[encC c, encC d] w fun e w' => e = .returned (encC (besT c d)) ∧ Below w.heap.size w w' := by
  obtain ⟨c1, c2, c3⟩ := hc
  obtain ⟨d1, d2, d3⟩ := hd
  have T1 := fun W => fTimes_any c.1 d.1 W c1 d1 (by omega)
  have T2 := fun W => fTimes_any c.2 d.2 W c2 d2 (by omega)
  have EB : Hid (encC (besT c d) = .agg #[.string ⟨(Tr.sortT (c.1 ++ d.1)).flatten.toArray⟩, .string ⟨(Tr.sortT (c.2 ++ d.2)).flatten.toArray⟩]) := rfl
  rw [show encC c = .agg #[.string ⟨c.1.flatten.toArray⟩, .string ⟨c.2.flatten.toArray⟩] from rfl, show encC d = .agg #[.string ⟨d.1.flatten.toArray⟩, .string ⟨d.2.flatten.toArray⟩] from rfl, EB.out]
  obtain ⟨ca, hca⟩ : ∃ x : ByteArray, x = ⟨c.1.flatten.toArray⟩ := ⟨_, rfl⟩
  obtain ⟨cb, hcb⟩ : ∃ x : ByteArray, x = ⟨c.2.flatten.toArray⟩ := ⟨_, rfl⟩
  obtain ⟨da, hda⟩ : ∃ x : ByteArray, x = ⟨d.1.flatten.toArray⟩ := ⟨_, rfl⟩
  obtain ⟨db, hdb⟩ : ∃ x : ByteArray, x = ⟨d.2.flatten.toArray⟩ := ⟨_, rfl⟩
  obtain ⟨ra, hra⟩ : ∃ x : ByteArray, x = ⟨(Tr.sortT (c.1 ++ d.1)).flatten.toArray⟩ := ⟨_, rfl⟩
  obtain ⟨rb, hrb⟩ : ∃ x : ByteArray, x = ⟨(Tr.sortT (c.2 ++ d.2)).flatten.toArray⟩ := ⟨_, rfl⟩
  simp only [← hca, ← hda, ← hra] at T1
  simp only [← hcb, ← hdb, ← hrb] at T2
  rw [← hca, ← hcb, ← hda, ← hdb, ← hra, ← hrb]
  clear hca hcb hda hdb hra hrb EB c1 c2 c3 d1 d2 d3
  obtain ⟨W0, hW0⟩ : ∃ W0 : World, W0 = ((w.alloc (.cells #[.string ca, .string cb] 79)).alloc (.cells #[.string da, .string db] 79)).alloc (.cells #[.string ⟨#[]⟩, .string ⟨#[]⟩] 79) := ⟨_, rfl⟩
  have F0 : CtB W0 w.heap.size ca cb := by rw [hW0]; exact ((CtB.new w ca cb).alloc _).alloc _
  have F1 : CtB W0 (w.heap.size + 1) da db := by rw [hW0]; exact (by simpa using CtB.new (w.alloc (.cells #[.string ca, .string cb] 79)) da db : CtB _ (w.heap.size + 1) da db).alloc _
  have F2 : CtB W0 (w.heap.size + 2) ⟨#[]⟩ ⟨#[]⟩ := by rw [hW0]; simpa using CtB.new ((w.alloc (.cells #[.string ca, .string cb] 79)).alloc (.cells #[.string da, .string db] 79)) ⟨#[]⟩ ⟨#[]⟩
  have FB : Below w.heap.size w W0 := by rw [hW0]; exact (((Below.refl _ _).alloc (Nat.le_refl _) _).alloc (by simp) _).alloc (by simp; omega) _
  have FS : W0.heap.size = w.heap.size + 3 := by rw [hW0]; simp
  have HK : Hid (∀ W, Below W0.heap.size W0 W → W.cell? ⟨w.heap.size, 0, none⟩ = some (.string ca) ∧ W.cell? ⟨w.heap.size, 1, none⟩ = some (.string cb) ∧ W.cell? ⟨w.heap.size + 1, 0, none⟩ = some (.string da) ∧ W.cell? ⟨w.heap.size + 1, 1, none⟩ = some (.string db)) := fun W hb => ⟨(F0.next hb).c0, (F0.next hb).c1, (F1.next hb).c0, (F1.next hb).c1⟩
  have H2 : Hid (∀ W, Below W0.heap.size W0 W → CtB W (w.heap.size + 2) ⟨#[]⟩ ⟨#[]⟩) := fun W hb => F2.next hb
  have HB := Lib.hid FB
  have HS := Lib.hid FS
  clear F0 F1 F2 FB FS
  go_enter Tryz.func159, Tryz.ntmps159
  go_wp2_with fail
  change Code.wp _ _ _ _ (((w.alloc (.cells #[.string ca, .string cb] 79)).alloc (.cells #[.string da, .string db] 79)).alloc (.cells #[.string ⟨#[]⟩, .string ⟨#[]⟩] 79))
  rw [← hW0]
  clear hW0
  go_region_held3 (fun W => W.cell? ⟨w.heap.size, 0, none⟩ = some (.string ca) ∧ W.cell? ⟨w.heap.size, 1, none⟩ = some (.string cb) ∧ W.cell? ⟨w.heap.size + 1, 0, none⟩ = some (.string da) ∧ W.cell? ⟨w.heap.size + 1, 1, none⟩ = some (.string db))
    (first | exact HK.out _ (Below.refl _ _).drew | exact HK.out _ (below_drewN (Below.refl _ _) _) | exact HK.out _ (below_undrew' (a := 1) bel2) | exact HK.out w3 ((below_undrew' (a := 1) bel2).trans (bel3.mono bel2.size)) | (have hz := HK.out w3 ((below_undrew' (a := 1) bel2).trans (bel3.mono bel2.size)); exact ⟨cell_oth (cell_oth hz.1 (by omega)) (by omega), cell_oth (cell_oth hz.2.1 (by omega)) (by omega), cell_oth (cell_oth hz.2.2.1 (by omega)) (by omega), cell_oth (cell_oth hz.2.2.2 (by omega)) (by omega)⟩))
    (first
      | (go_at_call 179; refine (T1 _).mono ?_; clear T1; rintro e w2 ⟨rfl, bel2⟩)
      | (go_at_call 179; refine (T2 _).mono ?_; clear T2; rintro e w3 ⟨rfl, bel3⟩)
      | (have hz := H2.out w3 ((below_undrew' (a := 1) bel2).trans (bel3.mono bel2.size)); have z0 := hz.c0; have z1 := hz.c1; have f0 := hz.free 0; have f1 := hz.free 1; clear hz; go_simp))
  have hb3 : Below W0.heap.size W0 w3 := (below_undrew' (a := 1) bel2).trans (bel3.mono bel2.size)
  have R := (H2.out w3 hb3).stored ra rb
  have GB : Hid (Below w.heap.size w ((w3.setCell ⟨w.heap.size + 1 + 1, 0, none⟩ (.string ra)).setCell ⟨w.heap.size + 1 + 1, 1, none⟩ (.string rb))) := by
    have h0 : Below w.heap.size w w3 := HB.out.trans (hb3.mono HB.out.size)
    exact below_set (below_set h0 (by omega) _) (by omega) _
  have HR := Lib.hid R
  clear R bel2 bel3 hb3
  go_wp2
  refine bodyPost_ret (v := .agg #[.string ra, .string rb]) ?_ rfl ⟨rfl, GB.out⟩
  exact results_cell_row rfl _ _ (w.heap.size + 2) 79 _ (0, 0) _ rfl HR.out Tryz.underlying79 rfl info_ct
end Go.Proofs.YtolkbbbbahhfaaaGreat
/-
  Cuts by functions that are ranged over: the closures.
-/
namespace Go.Proofs.YtolkbbbbahhfaaaGreat
open Go.RowKit Fld Go.Shelf
set_option linter.unusedVariables false
set_option linter.unusedSimpArgs false
set_option maxRecDepth 100000
attribute [local go_sem] Oper.semAt_some

theorem CtB.range {w : World} {b : Nat} {x y : ByteArray} (h : CtB w b x y) : w.rangeAt b 0 [.string x, .string y] := fun j v hv => by
  rw [cell_of_row w b (0 + j) _ _ _ h, Nat.zero_add]
  simpa using hv
theorem CtB.yields {ops : Array Oper} {S : World → Prop} {o : Oper} {a : Act} (hw : Region.wanted o (yielded ops a.tmps) = true) (z : Operand) (ho : o.op = .load 79 z) (b : Nat) (hx : a.eval z = .pointer (some ⟨b, 0, none⟩)) (x y : ByteArray) (hS : ∀ w, S w → CtB w b x y) :
    YieldsIf Tryz.prog ops S o (.agg #[.string x, .string y]) a := yieldsIf_load_mid hw 79 z ho b 0 hx [.string x, .string y] _ (fun w h => (hS w h).range) Tryz.underlying79 rfl info_ct
/-- a value that hands on xs, whose blocks lie from lo to hi -/
def IsSeq (w : World) (lo hi : Nat) (v : Value) (xs : List Ct) : Prop :=
  ∃ (gf : Nat) (lb : Array Value), v = .func (.func gf) #[] lb ∧ (∀ args w, (callFunc gf args).run Tryz.prog w = .ok (.enter gf args) w) ∧ Its Tryz.prog gf lb lo hi encC xs w ∧ lo ≤ hi ∧ hi ≤ w.heap.size
theorem IsSeq.later {w w' : World} {lo hi : Nat} {v : Value} {xs : List Ct} (h : IsSeq w lo hi v xs) (hb : Rg lo hi w w') : IsSeq w' lo hi v xs := by
  obtain ⟨gf, lb, e, eg, hi1, h1, h2⟩ := h
  exact ⟨gf, lb, e, eg, hi1.later hb, h1, Nat.le_trans h2 hb.1⟩
theorem encC_nil : encC ([], []) = .agg #[.string ⟨#[]⟩, .string ⟨#[]⟩] := rfl
set_option maxHeartbeats 1000000 in
theorem noCutting_its (w : World) : Its Tryz.prog 128 #[] w.heap.size w.heap.size encC [([], [])] w := fun l J Jx W hW hJ hJx hY h0 => by
  have hy := fun m => hY [] ([], []) W m h0 (by simp) (by simp)
  rw [encC_nil] at hy
  refine (callsIn_wide (n := 3)).1 ?_
  refine callsIn_of_wp Tryz.func128 rfl trivial ?_ rfl
  simp only [Tryz.ntmps128, List.size_toArray, List.length_cons, List.length_nil, Nat.reduceAdd, Nat.reduceSub, Array.replicate_succ, Array.replicate_zero, List.push_toArray, List.append_toArray, List.nil_append, List.cons_append]
  obtain ⟨fn, tmps, assign, body, hyy, hR⟩ := hy 2
  clear hy hY
  gi_wp2
  refine hR.mono ?_
  rintro e W' (⟨rfl, hJ', hk⟩ | ⟨rfl, hJx', hk⟩)
  · gi_wp2
    go_end0
    exact ⟨⟨_, rfl⟩, .inl hJ'⟩
  · gi_wp2
    go_end0
    exact ⟨⟨_, rfl⟩, .inr ⟨_, hJx'⟩⟩
theorem togT_snoc (p q : List Ct) (x : Ct) : togT (p ++ [x]) q = togT p q ++ q.map (besT x) := by unfold togT; simp
set_option maxHeartbeats 4000000 in
theorem together_its (w : World) (g1 g2 LO HI lo1 hi1 lo2 hi2 : Nat) (v1 v2 : Value) (p q : List Ct) (h1 : w.cell? ⟨g1, 0, none⟩ = some v1) (h2 : w.cell? ⟨g2, 0, none⟩ = some v2) (s1 : IsSeq w lo1 hi1 v1 p) (s2 : IsSeq w lo2 hi2 v2 q)
    (b1 : LO ≤ lo1) (b2 : hi1 ≤ HI) (b3 : LO ≤ lo2) (b4 : hi2 ≤ HI) (b5 : LO ≤ g1 ∧ g1 < HI) (b6 : LO ≤ g2 ∧ g2 < HI) (bHI : HI ≤ w.heap.size) {m n : Nat} (hp : ∀ c ∈ p, OkC m c) (hq : ∀ c ∈ q, OkC n c) (hmn : m + n ≤ 16) :
    Its Tryz.prog 158 #[.pointer (some ⟨g1, 0, none⟩), .pointer (some ⟨g2, 0, none⟩)] LO HI encC (togT p q) w := fun l J Jx W hW hJ hJx hY h0 => by
  obtain ⟨gf1, lb1, rfl, eg1, hit1, _, z1⟩ := s1
  obtain ⟨gf2, lb2, rfl, eg2, hit2, _, z2⟩ := s2
  have HP := Lib.hid hp
  have HQ := Lib.hid hq
  have hc1 := (hW.cell (o := 0) b5).trans h1
  have hc2 := (hW.cell (o := 0) b6).trans h2
  have hWs := hW.1
  have HYY := Lib.hid hY
  clear hY hp hq
  have bW1 : Below W.heap.size W (W.alloc (.cells #[.func (.yield l) #[] #[]] 124)) := (Below.refl _ _).alloc (Nat.le_refl _) _
  have hcy : (W.alloc (.cells #[.func (.yield l) #[] #[]] 124)).cell? ⟨W.heap.size, 0, none⟩ = some (.func (.yield l) #[] #[]) := by rw [cell_of_row _ _ 0 _ _ _ (heap_alloc_new W _)]; rfl
  have hc1' := (bW1.cell (p := ⟨g1, 0, none⟩) (by show g1 < W.heap.size; omega)).trans hc1
  refine (callsIn_wide (n := 3)).1 ?_
  refine callsIn_of_wp_marks Tryz.func158 rfl trivial ?_ rfl
  simp only [Tryz.ntmps158, List.size_toArray, List.length_cons, List.length_nil, Nat.reduceAdd, Nat.reduceSub, Array.replicate_succ, Array.replicate_zero, List.push_toArray, List.append_toArray, List.nil_append, List.cons_append]
  gi_wp2
  obtain ⟨W1, hW1⟩ : ∃ W1, W1 = W.alloc (.cells #[.func (.yield l) #[] #[]] 124) := ⟨_, rfl⟩
  have hs1 : W1.heap.size = W.heap.size + 1 := by rw [hW1]; simp
  rw [← hW1] at bW1 hcy hc1' ⊢
  clear hW1
  have hbw : Rg LO HI w W1 := hW.trans (Rg.of_below bW1 (by omega))
  have hc2' := (bW1.cell (p := ⟨g2, 0, none⟩) (by show g2 < W.heap.size; omega)).trans hc2
  have J1 : J [] W1 := hJ.more [] W W1 h0 bW1
  refine wp_rng (lo := lo1) (hi := hi1) (xs := p) (w0 := w) (enc := encC) rfl eg1 hit1 (hbw.mono b1 b2) (by omega)
    (fun pre W' => J (togT pre q) W' ∧ KpR LO HI W.heap.size W1 W') (fun pre W' => ∃ po, Jx po W')
    (((hJ.map fun pre => togT pre q).up (by omega)).and (Abd.kpr (Nat.le_refl _))) ((hJx.up (by omega)).ex) ⟨J1, KpR.refl _ _ _ _⟩
    (fun x a' W' => ∃ bc, W1.heap.size ≤ bc ∧ CtB W' bc ⟨x.1.flatten.toArray⟩ ⟨x.2.flatten.toArray⟩ ∧ a' = { tmps := #[.func (.yield l) #[] #[], .pointer (some ⟨g1, 0, none⟩), .pointer (some ⟨g2, 0, none⟩), .pointer (some ⟨W.heap.size, 0, none⟩), .pointer (some ⟨bc, 0, none⟩), undef, .func (.func gf1) #[] lb1, encC x, undef, undef, undef, undef, undef, undef, undef, undef], defers := [] })
    (fun x a' => ⟨fun _ A B h hb => by obtain ⟨bc, e1, e2, e3⟩ := h; exact ⟨bc, e1, e2.next hb, e3⟩, fun _ A k o o' h hk ho hc => by
      obtain ⟨bc, e1, e2, e3⟩ := h
      refine ⟨bc, e1, (World.putObj_heap_other (fun e => ?_)).trans e2, e3⟩
      subst e
      rw [show A.heap[bc]? = _ from e2] at ho
      cases ho
      cases hc⟩) ?assign ?body ?done ?stop
  case assign =>
    rintro l1 m1 pre x Wr K ⟨hJ1, hK1⟩ hx hK
    rw [show encC x = .agg #[.string ⟨x.1.flatten.toArray⟩, .string ⟨x.2.flatten.toArray⟩] from rfl] at hK ⊢
    obtain ⟨xa, hxa⟩ : ∃ z : ByteArray, z = ⟨x.1.flatten.toArray⟩ := ⟨_, rfl⟩
    obtain ⟨xb, hxb⟩ : ∃ z : ByteArray, z = ⟨x.2.flatten.toArray⟩ := ⟨_, rfl⟩
    rw [← hxa, ← hxb] at hK ⊢
    clear hxa hxb
    simp only [List.setIfInBounds_toArray, List.set_cons_succ, List.set_cons_zero]
    gi_wp2
    exact hK _ _ ((Below.refl _ _).alloc (Nat.le_refl _) _) ⟨Wr.heap.size, hK1.size, CtB.new Wr xa xb, rfl⟩
  case body =>
    rintro l1 m1 pre x a' R hl1 ⟨r1, hr1⟩ ⟨hJ1, hK1⟩ ⟨bc, hbc, hCt, rfl⟩ hx hlen
    have hR1 := hK1.size
    have hc2R := ((hK1.rg (by omega)).cell (o := 0) b6).trans hc2'
    have hyR := (hK1.cell_own (o := 0) (Nat.le_refl _) (by omega)).trans hcy
    have hbR : Rg LO HI w R := hbw.trans (hK1.rg (by omega))
    have hbcR := hCt.lt
    gi_wp2
    refine wp_rng_in (l₀ := l1) (r₀ := r1) (lo := lo2) (hi := hi2) (xs := q) (w0 := w) (enc := encC) hr1 rfl eg2 hit2 (hbR.mono b3 b4) (by omega)
      (fun pre2 W' => J (togT pre q ++ pre2.map (besT x)) W' ∧ KpR LO HI W.heap.size R W') (fun pre2 W' => (∃ po, Jx po W') ∧ KpR LO HI W.heap.size R W')
      (((hJ.map fun (pre2 : List Ct) => togT pre q ++ pre2.map (besT x)).up (by omega)).and (Abd.kpr (Nat.le_refl _))) (((hJx.up (by omega)).ex).and (Abd.kpr (Nat.le_refl _))) ⟨by rw [List.map_nil, List.append_nil]; exact hJ1, KpR.refl _ _ _ _⟩
      (fun y a' W' => ∃ bd, R.heap.size ≤ bd ∧ CtB W' bd ⟨y.1.flatten.toArray⟩ ⟨y.2.flatten.toArray⟩ ∧ a' = { tmps := #[.func (.yield l) #[] #[], .pointer (some ⟨g1, 0, none⟩), .pointer (some ⟨g2, 0, none⟩), .pointer (some ⟨W.heap.size, 0, none⟩), .pointer (some ⟨bc, 0, none⟩), .pointer (some ⟨bd, 0, none⟩), .func (.func gf1) #[] lb1, encC x, .func (.func gf2) #[] lb2, encC y, undef, undef, undef, undef, undef, undef], defers := [] })
      (fun x a' => ⟨fun _ A B h hb => by obtain ⟨bc, e1, e2, e3⟩ := h; exact ⟨bc, e1, e2.next hb, e3⟩, fun _ A k o o' h hk ho hc => by
        obtain ⟨bc, e1, e2, e3⟩ := h
        refine ⟨bc, e1, (World.putObj_heap_other (fun e => ?_)).trans e2, e3⟩
        subst e
        rw [show A.heap[bc]? = _ from e2] at ho
        cases ho
        cases hc⟩) ?assign2 ?body2 ?done2 ?stop2
    case assign2 =>
      rintro l2 m2 pre2 y Wr K ⟨hJ2, hK2⟩ hy hK
      rw [show encC y = .agg #[.string ⟨y.1.flatten.toArray⟩, .string ⟨y.2.flatten.toArray⟩] from rfl] at hK ⊢
      obtain ⟨xa, hxa⟩ : ∃ z : ByteArray, z = ⟨y.1.flatten.toArray⟩ := ⟨_, rfl⟩
      obtain ⟨xb, hxb⟩ : ∃ z : ByteArray, z = ⟨y.2.flatten.toArray⟩ := ⟨_, rfl⟩
      rw [← hxa, ← hxb] at hK ⊢
      clear hxa hxb
      simp only [List.setIfInBounds_toArray, List.set_cons_succ, List.set_cons_zero]
      gi_wp2
      exact hK _ _ ((Below.refl _ _).alloc (Nat.le_refl _) _) ⟨Wr.heap.size, hK2.size, CtB.new Wr xa xb, rfl⟩
    case body2 =>
      rintro l2 m2 pre2 y a'' R2 hl2 _ ⟨hJ2, hK2⟩ ⟨bd, hbd, hDt, rfl⟩ hy hlen2
      have hR2 := hK2.size
      have hyR2 := (hK2.cell_own (o := 0) (Nat.le_refl _) (by omega)).trans hyR
      have hCt2 : CtB R2 bc _ _ := (hK2.own bc (by omega) (by omega)).trans hCt
      gi_wp2_with fail
      refine regionR (S := fun V => V.cell? ⟨W.heap.size, 0, none⟩ = some (.func (.yield l) #[] #[]) ∧ CtB V bc ⟨x.1.flatten.toArray⟩ ⟨x.2.flatten.toArray⟩ ∧ CtB V bd ⟨y.1.flatten.toArray⟩ ⟨y.2.flatten.toArray⟩) (by kernel_rfl) ⟨hyR2, hCt2, hDt⟩ ?_
      intro hS0
      refine anyR_take (i := 0) (v := .func (.yield l) #[] #[]) (noDefer_of (by kernel_rfl)) rfl (by kernel_rfl) (by kernel_rfl) (by kernel_rfl) (fun _ _ _ h => h) (.inl ⟨by kernel_rfl, fun V hV => ?_⟩) hS0 ?_
      · have hc := hV.1
        go_simp
      refine anyR_take (i := 1) (v := encC x) (noDefer_of (by kernel_rfl)) rfl (by kernel_rfl) (by kernel_rfl) (by kernel_rfl) (fun _ _ _ h => h) (CtB.yields (by kernel_rfl) (.tmp 4) rfl bc rfl _ _ (fun V hV => hV.2.1)) hS0 ?_
      refine anyR_take (i := 2) (v := encC y) (noDefer_of (by kernel_rfl)) rfl (by kernel_rfl) (by kernel_rfl) (by kernel_rfl) (fun _ _ _ h => h) (CtB.yields (by kernel_rfl) (.tmp 5) rfl bd rfl _ _ (fun V hV => hV.2.2)) hS0 ?_
      simp only [Act.put, List.setIfInBounds_toArray, List.set_cons_succ, List.set_cons_zero, List.getElem_toArray, List.getElem_cons_zero, List.getElem_cons_succ]
      refine anyR_one (i := 3) (noDefer_of (by kernel_rfl)) rfl (by kernel_rfl) (by kernel_rfl) ?_
      refine upon_call (f := 159) (args := #[encC x, encC y]) ?_ (beside_any x y _ (HP.out x hx) (HQ.out y hy) hmn) ?_
      · go_simp
      rintro e V ⟨rfl, hbV⟩
      have hbV2 : Below R2.heap.size R2 V := below_undrew' (a := 1) hbV
      have hJV := hJ.more _ R2 V hJ2 hbV2
      have hsV := hbV2.size
      have hmem : besT x y ∈ togT p q := by
        unfold togT
        rw [List.mem_flatMap]
        exact ⟨x, hx, List.mem_map.2 ⟨y, hy, rfl⟩⟩
      have hlt : (togT pre q ++ pre2.map (besT x)).length < (togT p q).length := by
        rw [List.length_append, List.length_map, togT_length, togT_length]
        have : (pre.length + 1) * q.length ≤ p.length * q.length := Nat.mul_le_mul_right _ hlen
        rw [Nat.succ_mul] at this
        omega
      have SV : V.cell? ⟨W.heap.size, 0, none⟩ = some (.func (.yield l) #[] #[]) ∧ CtB V bc ⟨x.1.flatten.toArray⟩ ⟨x.2.flatten.toArray⟩ ∧ CtB V bd ⟨y.1.flatten.toArray⟩ ⟨y.2.flatten.toArray⟩ :=
        ⟨(hbV2.cell (p := ⟨W.heap.size, 0, none⟩) (by show W.heap.size < R2.heap.size; omega)).trans hyR2, hCt2.next hbV2, hDt.next hbV2⟩
      have hbdR := hDt.lt
      obtain ⟨fn, tmps, assign, body, hyy, hR⟩ := HYY.out _ (besT x y) V 2 hJV hmem hlt
      refine ⟨_, rfl, SV, ?_⟩
      refine anyR_one (i := 4) (noDefer_of (by kernel_rfl)) rfl (by kernel_rfl) (by kernel_rfl) ?_
      refine upon_round (l0 := l) (fn := fn) (tmps := tmps) (assign := assign) (body := body) ?_ hR ?_
      · go_simp
      rintro e V2 (⟨rfl, hJV2, hkV⟩ | ⟨rfl, hJV2, hkV⟩)
      · have SV2 : V2.cell? ⟨W.heap.size, 0, none⟩ = some (.func (.yield l) #[] #[]) ∧ CtB V2 bc ⟨x.1.flatten.toArray⟩ ⟨x.2.flatten.toArray⟩ ∧ CtB V2 bd ⟨y.1.flatten.toArray⟩ ⟨y.2.flatten.toArray⟩ :=
          ⟨(hkV.cell_own (Nat.le_refl _) (by omega)).trans SV.1, (hkV.own bc (by omega) (by omega)).trans SV.2.1, (hkV.own bd (by omega) (by omega)).trans SV.2.2⟩
        refine ⟨_, rfl, SV2, ?_⟩
        refine anyR_one (i := 5) (noDefer_of (by kernel_rfl)) rfl (by kernel_rfl) (by kernel_rfl) (upon_value (v := .bool false) (by go_simp) ⟨SV2, anyR_done (by kernel_rfl) ?_ _⟩)
        have hK3 := (KpR.of_below hbV2 (lo := LO) (hi := HI) (E := W.heap.size)).trans hkV
        simp only [Act.put, List.setIfInBounds_toArray, List.set_cons_succ, List.set_cons_zero, List.getElem_toArray, List.getElem_cons_zero, List.getElem_cons_succ]
        gi_wp2
        exact ⟨hK3.mono b3 b4 (by omega), by rw [List.map_append, ← List.append_assoc]; exact hJV2, hK2.trans hK3⟩
      · have SV2 : V2.cell? ⟨W.heap.size, 0, none⟩ = some (.func (.yield l) #[] #[]) ∧ CtB V2 bc ⟨x.1.flatten.toArray⟩ ⟨x.2.flatten.toArray⟩ ∧ CtB V2 bd ⟨y.1.flatten.toArray⟩ ⟨y.2.flatten.toArray⟩ :=
          ⟨(hkV.cell_own (Nat.le_refl _) (by omega)).trans SV.1, (hkV.own bc (by omega) (by omega)).trans SV.2.1, (hkV.own bd (by omega) (by omega)).trans SV.2.2⟩
        refine ⟨_, rfl, SV2, ?_⟩
        refine anyR_one (i := 5) (noDefer_of (by kernel_rfl)) rfl (by kernel_rfl) (by kernel_rfl) (upon_value (v := .bool true) (by go_simp) ⟨SV2, anyR_done (by kernel_rfl) ?_ _⟩)
        have hK3 := (KpR.of_below hbV2 (lo := LO) (hi := HI) (E := W.heap.size)).trans hkV
        simp only [Act.put, List.setIfInBounds_toArray, List.set_cons_succ, List.set_cons_zero, List.getElem_toArray, List.getElem_cons_zero, List.getElem_cons_succ]
        gi_wp2
        exact ⟨hK3.mono b3 b4 (by omega), ⟨_, hJV2⟩, hK2.trans hK3⟩
    case done2 =>
      rintro Wd ⟨hJd, hKd⟩
      gi_wp2
      exact ⟨hKd.mono b1 b2 (by omega), by rw [togT_snoc]; exact hJd, hK1.trans hKd⟩
    case stop2 =>
      rintro pre2 Wd ⟨⟨po, hJd⟩, hKd⟩
      gi_wp2
      exact ⟨hKd.mono b1 b2 (by omega), po, hJd⟩
  case done =>
    rintro D Wd hD ⟨hJd, _⟩ hDo
    gi_wp2
    refine ⟨by simp, .inl ⟨_, _, rfl, run_takeDeferred hDo, ?_⟩⟩
    exact ⟨_, results_none rfl _ _ _, ⟨_, rfl⟩, .inl (hJ.turn _ Wd D _ _ hJd (by omega) hDo rfl)⟩
  case stop =>
    rintro D pre Wd hD ⟨po, hJd⟩ hDo
    gi_wp2
    refine ⟨by simp, .inl ⟨_, _, rfl, run_takeDeferred hDo, ?_⟩⟩
    exact ⟨_, results_none rfl _ _ _, ⟨_, rfl⟩, .inr ⟨po, hJx.turn _ Wd D _ _ hJd (by omega) hDo rfl⟩⟩
end Go.Proofs.YtolkbbbbahhfaaaGreat
/-
  Cuts of a tree: the closure over those of its branches.
-/
namespace Go.Proofs.YtolkbbbbahhfaaaGreat
open Go.RowKit Fld Go.Shelf
set_option linter.unusedVariables false
set_option linter.unusedSimpArgs false
set_option maxRecDepth 100000
attribute [local go_sem] Oper.semAt_some

theorem encC_root (c : Ct) : encC (rootC c) = .agg #[.string ⟨c.1.flatten.toArray⟩, .string ⟨(Tr.wrap (Tr.sortS c.2)).toArray⟩] := by
  unfold encC rootC
  simp
theorem encC_all (x : Tx) : encC ([x], []) = .agg #[.string ⟨x.toArray⟩, .string ⟨#[]⟩] := by
  unfold encC
  simp
set_option maxHeartbeats 4000000 in
theorem cuts_its (w : World) (gb gt LO HI lo1 hi1 : Nat) (v1 : Value) (p : List Ct) (x : Tx) (h1 : w.cell? ⟨gb, 0, none⟩ = some v1) (h2 : w.cell? ⟨gt, 0, none⟩ = some (.string ⟨x.toArray⟩)) (s1 : IsSeq w lo1 hi1 v1 p)
    (b1 : LO ≤ lo1) (b2 : hi1 ≤ HI) (b5 : LO ≤ gb ∧ gb < HI) (b6 : LO ≤ gt ∧ gt < HI) (bHI : HI ≤ w.heap.size) {m : Nat} (hp : ∀ c ∈ p, OkC m c) (hm : m ≤ 14) :
    Its Tryz.prog 98 #[.pointer (some ⟨gb, 0, none⟩), .pointer (some ⟨gt, 0, none⟩)] LO HI encC (p.map rootC ++ [([x], [])]) w := fun l J Jx W hW hJ hJx hY h0 => by
  obtain ⟨gf1, lb1, rfl, eg1, hit1, _, z1⟩ := s1
  have HP := Lib.hid hp
  have hc1 := (hW.cell (o := 0) b5).trans h1
  have hc2 := (hW.cell (o := 0) b6).trans h2
  have hWs := hW.1
  have HYY := Lib.hid hY
  obtain ⟨X, hX⟩ : ∃ X : ByteArray, X = ⟨x.toArray⟩ := ⟨_, rfl⟩
  have HX := Lib.hid hX
  rw [← hX] at hc2 h2
  clear hY hp hX
  have bW1 : Below W.heap.size W (W.alloc (.cells #[.func (.yield l) #[] #[]] 124)) := (Below.refl _ _).alloc (Nat.le_refl _) _
  have hcy : (W.alloc (.cells #[.func (.yield l) #[] #[]] 124)).cell? ⟨W.heap.size, 0, none⟩ = some (.func (.yield l) #[] #[]) := by rw [cell_of_row _ _ 0 _ _ _ (heap_alloc_new W _)]; rfl
  have hc1' := (bW1.cell (p := ⟨gb, 0, none⟩) (by show gb < W.heap.size; omega)).trans hc1
  refine (callsIn_wide (n := 3)).1 ?_
  refine callsIn_of_wp_marks Tryz.func98 rfl trivial ?_ rfl
  simp only [Tryz.ntmps98, List.size_toArray, List.length_cons, List.length_nil, Nat.reduceAdd, Nat.reduceSub, Array.replicate_succ, Array.replicate_zero, List.push_toArray, List.append_toArray, List.nil_append, List.cons_append]
  gi_wp2
  obtain ⟨W1, hW1⟩ : ∃ W1, W1 = W.alloc (.cells #[.func (.yield l) #[] #[]] 124) := ⟨_, rfl⟩
  have hs1 : W1.heap.size = W.heap.size + 1 := by rw [hW1]; simp
  rw [← hW1] at bW1 hcy hc1' ⊢
  clear hW1
  have hbw : Rg LO HI w W1 := hW.trans (Rg.of_below bW1 (by omega))
  have hc2' := (bW1.cell (p := ⟨gt, 0, none⟩) (by show gt < W.heap.size; omega)).trans hc2
  have J1 : J [] W1 := hJ.more [] W W1 h0 bW1
  refine wp_rng (lo := lo1) (hi := hi1) (xs := p) (w0 := w) (enc := encC) rfl eg1 hit1 (hbw.mono b1 b2) (by omega)
    (fun pre W' => J (pre.map rootC) W' ∧ KpR LO HI W.heap.size W1 W') (fun pre W' => ∃ po, Jx po W')
    (((hJ.map fun (pre : List Ct) => pre.map rootC).up (by omega)).and (Abd.kpr (Nat.le_refl _))) ((hJx.up (by omega)).ex) ⟨J1, KpR.refl _ _ _ _⟩
    (fun x a' W' => ∃ bc, W1.heap.size ≤ bc ∧ CtB W' bc ⟨x.1.flatten.toArray⟩ ⟨x.2.flatten.toArray⟩ ∧ a' = { tmps := #[.func (.yield l) #[] #[], .pointer (some ⟨gb, 0, none⟩), .pointer (some ⟨gt, 0, none⟩), .pointer (some ⟨W.heap.size, 0, none⟩), .pointer (some ⟨bc, 0, none⟩), .func (.func gf1) #[] lb1, encC x, undef, undef, undef, undef, undef, undef, undef, undef, undef, undef, undef, undef, undef, undef], defers := [] })
    (fun x a' => ⟨fun _ A B h hb => by obtain ⟨bc, e1, e2, e3⟩ := h; exact ⟨bc, e1, e2.next hb, e3⟩, fun _ A k o o' h hk ho hc => by
      obtain ⟨bc, e1, e2, e3⟩ := h
      refine ⟨bc, e1, (World.putObj_heap_other (fun e => ?_)).trans e2, e3⟩
      subst e
      rw [show A.heap[bc]? = _ from e2] at ho
      cases ho
      cases hc⟩) ?assign ?body ?done ?stop
  case assign =>
    rintro l1 m1 pre x Wr K ⟨hJ1, hK1⟩ hx hK
    rw [show encC x = .agg #[.string ⟨x.1.flatten.toArray⟩, .string ⟨x.2.flatten.toArray⟩] from rfl] at hK ⊢
    obtain ⟨xa, hxa⟩ : ∃ z : ByteArray, z = ⟨x.1.flatten.toArray⟩ := ⟨_, rfl⟩
    obtain ⟨xb, hxb⟩ : ∃ z : ByteArray, z = ⟨x.2.flatten.toArray⟩ := ⟨_, rfl⟩
    rw [← hxa, ← hxb] at hK ⊢
    clear hxa hxb
    simp only [List.setIfInBounds_toArray, List.set_cons_succ, List.set_cons_zero]
    gi_wp2
    exact hK _ _ ((Below.refl _ _).alloc (Nat.le_refl _) _) ⟨Wr.heap.size, hK1.size, CtB.new Wr xa xb, rfl⟩
  case body =>
    rintro l1 m1 pre c a' R hl1 _ ⟨hJ1, hK1⟩ ⟨bc, hbc, hCt, rfl⟩ hx hlen
    have hR1 := hK1.size
    have hyR := (hK1.cell_own (o := 0) (Nat.le_refl _) (by omega)).trans hcy
    have hbcR := hCt.lt
    obtain ⟨k1, k2, k3⟩ := HP.out c hx
    have l2 := len_byT k2
    have hr := encC_root c
    have CT := fun V => forestTrees_any c.2.flatten V (by rw [byT_flat]; omega)
    have e2 : (Tr.trF [] 0 [] c.2.flatten).1 = c.2 := by rw [tr_flat c.2 [] k2]; rfl
    simp only [e2] at CT
    obtain ⟨ca, hca⟩ : ∃ z : ByteArray, z = ⟨c.1.flatten.toArray⟩ := ⟨_, rfl⟩
    obtain ⟨cb, hcb⟩ : ∃ z : ByteArray, z = ⟨c.2.flatten.toArray⟩ := ⟨_, rfl⟩
    obtain ⟨rb, hrb⟩ : ∃ z : ByteArray, z = ⟨(Tr.wrap (Tr.sortS c.2)).toArray⟩ := ⟨_, rfl⟩
    rw [← hca, ← hrb] at hr
    rw [← hca, ← hcb] at hCt
    simp only [← hcb] at CT
    have HRB := Lib.hid hrb
    have HRC := Lib.hid hr
    clear hca hcb hrb hr
    gi_wp2_with fail
    refine regionR (S := fun V => V.cell? ⟨W.heap.size, 0, none⟩ = some (.func (.yield l) #[] #[]) ∧ CtB V bc ca cb) (by kernel_rfl) ⟨hyR, hCt⟩ ?_
    intro hS0
    refine anyR_take (i := 0) (v := .func (.yield l) #[] #[]) (noDefer_of (by kernel_rfl)) rfl (by kernel_rfl) (by kernel_rfl) (by kernel_rfl) (fun _ _ _ h => h) (.inl ⟨by kernel_rfl, fun V hV => ?_⟩) hS0 ?_
    · have hc := hV.1
      go_simp
    refine anyR_take (i := 1) (v := .pointer (some ⟨bc, 0, none⟩)) (noDefer_of (by kernel_rfl)) rfl (by kernel_rfl) (by kernel_rfl) (by kernel_rfl) (fun _ _ _ h => h) (.inl ⟨by kernel_rfl, fun V hV => ?_⟩) hS0 ?_
    · go_simp
    refine anyR_take (i := 3) (v := .pointer (some ⟨bc, 1, none⟩)) (noDefer_of (by kernel_rfl)) rfl (by kernel_rfl) (by kernel_rfl) (by kernel_rfl) (fun _ _ _ h => h) (.inl ⟨by kernel_rfl, fun V hV => ?_⟩) hS0 ?_
    · go_simp
    simp only [Act.put, List.setIfInBounds_toArray, List.set_cons_succ, List.set_cons_zero, List.getElem_toArray, List.getElem_cons_zero, List.getElem_cons_succ]
    refine anyR_take (i := 2) (v := .string ca) (noDefer_of (by kernel_rfl)) rfl (by kernel_rfl) (by kernel_rfl) (by kernel_rfl) (fun _ _ _ h => h) (.inl ⟨by kernel_rfl, fun V hV => ?_⟩) hS0 ?_
    · have hc := hV.2.c0
      go_simp
    refine anyR_take (i := 4) (v := .string cb) (noDefer_of (by kernel_rfl)) rfl (by kernel_rfl) (by kernel_rfl) (by kernel_rfl) (fun _ _ _ h => h) (.inl ⟨by kernel_rfl, fun V hV => ?_⟩) hS0 ?_
    · have hc := hV.2.c1
      go_simp
    simp only [Act.put, List.setIfInBounds_toArray, List.set_cons_succ, List.set_cons_zero, List.getElem_toArray, List.getElem_cons_zero, List.getElem_cons_succ]
    refine anyR_one (i := 5) (noDefer_of (by kernel_rfl)) rfl (by kernel_rfl) (by kernel_rfl) ?_
    refine upon_call (f := 99) (args := #[.string cb]) ?_ (CT _) ?_
    · go_simp
    rintro e V ⟨A, q, cc, rfl, hown, hbV⟩
    have hbV2 : Below R.heap.size R V := below_undrew' (a := 1) hbV
    have hq : q = c.2.length := by rw [← strs_length]; exact (own_len hown).symm
    have CR := rootOn_any A _ q cc c.2 V (by omega) (by rw [byT_flat]; omega) hbV.size hown
    rw [← HRB.out] at CR
    have SV : V.cell? ⟨W.heap.size, 0, none⟩ = some (.func (.yield l) #[] #[]) ∧ CtB V bc ca cb := ⟨(hbV2.cell (p := ⟨W.heap.size, 0, none⟩) (by show W.heap.size < R.heap.size; omega)).trans hyR, hCt.next hbV2⟩
    refine ⟨_, rfl, SV, ?_⟩
    refine anyR_one (i := 6) (noDefer_of (by kernel_rfl)) rfl (by kernel_rfl) (by kernel_rfl) ?_
    refine upon_call (f := 95) (args := #[.slice A q cc]) ?_ CR ?_
    · go_simp
    rintro e V2 ⟨rfl, hbV3⟩
    have hbV4 : Below R.heap.size R V2 := hbV2.trans hbV3
    have SV2 : V2.cell? ⟨W.heap.size, 0, none⟩ = some (.func (.yield l) #[] #[]) ∧ CtB V2 bc ca cb := ⟨(hbV4.cell (p := ⟨W.heap.size, 0, none⟩) (by show W.heap.size < R.heap.size; omega)).trans hyR, hCt.next hbV4⟩
    have hsV := hbV4.size
    refine ⟨_, rfl, SV2, ?_⟩
    refine anyR_one (i := 7) (noDefer_of (by kernel_rfl)) rfl (by kernel_rfl) (by kernel_rfl) (upon_value (v := .agg #[.string ca, .string rb]) (by go_simp) ⟨SV2, ?_⟩)
    have hJV := hJ.more _ R V2 hJ1 hbV4
    have hmem : rootC c ∈ p.map rootC ++ [([x], [])] := by rw [List.mem_append]; exact .inl (List.mem_map.2 ⟨c, hx, rfl⟩)
    have hlt : (pre.map rootC).length < (p.map rootC ++ [([x], [])]).length := by rw [List.length_append, List.length_map, List.length_map]; omega
    obtain ⟨fn, tmps, assign, body, hyy, hR⟩ := HYY.out _ (rootC c) V2 2 hJV hmem hlt
    rw [HRC.out] at hyy
    refine anyR_one (i := 8) (noDefer_of (by kernel_rfl)) rfl (by kernel_rfl) (by kernel_rfl) ?_
    refine upon_round (l0 := l) (fn := fn) (tmps := tmps) (assign := assign) (body := body) ?_ hR ?_
    · go_simp
    rintro e V3 (⟨rfl, hJV2, hkV⟩ | ⟨rfl, hJV2, hkV⟩)
    · have SV3 : V3.cell? ⟨W.heap.size, 0, none⟩ = some (.func (.yield l) #[] #[]) ∧ CtB V3 bc ca cb := ⟨(hkV.cell_own (Nat.le_refl _) (by omega)).trans SV2.1, (hkV.own bc (by omega) (by omega)).trans SV2.2⟩
      refine ⟨_, rfl, SV3, ?_⟩
      refine anyR_one (i := 9) (noDefer_of (by kernel_rfl)) rfl (by kernel_rfl) (by kernel_rfl) (upon_value (v := .bool false) (by go_simp) ⟨SV3, anyR_done (by kernel_rfl) ?_ _⟩)
      have hK3 := (KpR.of_below hbV4 (lo := LO) (hi := HI) (E := W.heap.size)).trans hkV
      simp only [Act.put, List.setIfInBounds_toArray, List.set_cons_succ, List.set_cons_zero, List.getElem_toArray, List.getElem_cons_zero, List.getElem_cons_succ]
      gi_wp2
      exact ⟨hK3.mono b1 b2 (by omega), by rw [List.map_append]; exact hJV2, hK1.trans hK3⟩
    · have SV3 : V3.cell? ⟨W.heap.size, 0, none⟩ = some (.func (.yield l) #[] #[]) ∧ CtB V3 bc ca cb := ⟨(hkV.cell_own (Nat.le_refl _) (by omega)).trans SV2.1, (hkV.own bc (by omega) (by omega)).trans SV2.2⟩
      refine ⟨_, rfl, SV3, ?_⟩
      refine anyR_one (i := 9) (noDefer_of (by kernel_rfl)) rfl (by kernel_rfl) (by kernel_rfl) (upon_value (v := .bool true) (by go_simp) ⟨SV3, anyR_done (by kernel_rfl) ?_ _⟩)
      have hK3 := (KpR.of_below hbV4 (lo := LO) (hi := HI) (E := W.heap.size)).trans hkV
      simp only [Act.put, List.setIfInBounds_toArray, List.set_cons_succ, List.set_cons_zero, List.getElem_toArray, List.getElem_cons_zero, List.getElem_cons_succ]
      gi_wp2
      exact ⟨hK3.mono b1 b2 (by omega), ⟨_, hJV2⟩⟩
  case done =>
    rintro D Wd hD ⟨hJd, hKd⟩ hDo
    have hyd := (hKd.cell_own (o := 0) (Nat.le_refl _) (by omega)).trans hcy
    have htd := ((hKd.rg (by omega)).cell (o := 0) b6).trans hc2'
    have hmem : ([x], []) ∈ p.map rootC ++ [([x], [])] := by rw [List.mem_append]; exact .inr (by simp)
    have hlt : (p.map rootC).length < (p.map rootC ++ [([x], [])]).length := by rw [List.length_append]; simp
    obtain ⟨fn, tmps, assign, body, hyy, hR⟩ := HYY.out _ ([x], []) Wd 2 hJd hmem hlt
    rw [encC_all, ← HX.out] at hyy
    have hDs := (Array.getElem?_eq_some_iff.1 hDo).1
    gi_wp2
    refine hR.mono ?_
    rintro e V (⟨rfl, hJV, hkV⟩ | ⟨rfl, hJV, hkV⟩)
    · have hDV := (hkV.own D (by omega) hDs).trans hDo
      gi_wp2
      refine ⟨by simp, .inl ⟨_, _, rfl, run_takeDeferred hDV, ?_⟩⟩
      exact ⟨_, results_none rfl _ _ _, ⟨_, rfl⟩, .inl (hJ.turn _ V D _ _ hJV (by omega) hDV rfl)⟩
    · have hDV := (hkV.own D (by omega) hDs).trans hDo
      gi_wp2
      refine ⟨by simp, .inl ⟨_, _, rfl, run_takeDeferred hDV, ?_⟩⟩
      exact ⟨_, results_none rfl _ _ _, ⟨_, rfl⟩, .inr ⟨_, hJx.turn _ V D _ _ hJV (by omega) hDV rfl⟩⟩
  case stop =>
    rintro D pre Wd hD ⟨po, hJd⟩ hDo
    gi_wp2
    refine ⟨by simp, .inl ⟨_, _, rfl, run_takeDeferred hDo, ?_⟩⟩
    exact ⟨_, results_none rfl _ _ _, ⟨_, rfl⟩, .inr ⟨po, hJx.turn _ Wd D _ _ hJd (by omega) hDo rfl⟩⟩
end Go.Proofs.YtolkbbbbahhfaaaGreat
/-
  Cuts of forests and trees: the functions that make the closures.
-/
namespace Go.Proofs.YtolkbbbbahhfaaaGreat
open Go.RowKit Fld Go.Shelf
set_option linter.unusedVariables false
set_option linter.unusedSimpArgs false
set_option maxRecDepth 100000

theorem run_store_func {P : Program} {w : World} {a : Addr} {m : Mode} (f : Fn) (cs lb : Array Value) : (store a (.func f cs lb) m).run P w = stored P w a (.func f cs lb) m := run_store P w a _ m rfl
attribute [local go_sem] run_store_func
theorem box_new (w : World) (v : Value) (T : TypeId) : (w.alloc (.cells #[v] T)).cell? ⟨w.heap.size, 0, none⟩ = some v := by rw [cell_of_row _ _ 0 _ _ _ (heap_alloc_new w _)]; rfl
set_option maxHeartbeats 1000000 in
theorem together_any (v1 v2 : Value) (w : World) (p q : List Ct) (lo1 hi1 lo2 hi2 LO : Nat) (s1 : IsSeq w lo1 hi1 v1 p) (s2 : IsSeq w lo2 hi2 v2 q) (b1 : LO ≤ lo1) (b3 : LO ≤ lo2) (hLO : LO ≤ w.heap.size) {m n : Nat} (hp : ∀ c ∈ p, OkC m c) (hq : ∀ c ∈ q, OkC n c) (hmn : m + n ≤ 16) :
    Calls Tryz.prog 129 #[v1, v2] w fun e w' => ∃ v, e = .returned v ∧ IsSeq w' LO w'.heap.size v (togT p q) ∧ Below w.heap.size w w' := by
  have G : Hid (IsSeq ((w.alloc (.cells #[v1] 86)).alloc (.cells #[v2] 86)) LO ((w.alloc (.cells #[v1] 86)).alloc (.cells #[v2] 86)).heap.size (.func (.func 158) #[] #[.pointer (some ⟨w.heap.size, 0, none⟩), .pointer (some ⟨w.heap.size + 1, 0, none⟩)]) (togT p q)) := by
    have hs : ((w.alloc (.cells #[v1] 86)).alloc (.cells #[v2] 86)).heap.size = w.heap.size + 2 := by simp
    have hb : Below w.heap.size w ((w.alloc (.cells #[v1] 86)).alloc (.cells #[v2] 86)) := ((Below.refl _ _).alloc (Nat.le_refl _) _).alloc (by simp) _
    have h1 : ((w.alloc (.cells #[v1] 86)).alloc (.cells #[v2] 86)).cell? ⟨w.heap.size, 0, none⟩ = some v1 := (((Below.refl _ _).alloc (Nat.le_refl _) _).cell (p := ⟨w.heap.size, 0, none⟩) (by simp)).trans (box_new w v1 _)
    have h2 : ((w.alloc (.cells #[v1] 86)).alloc (.cells #[v2] 86)).cell? ⟨w.heap.size + 1, 0, none⟩ = some v2 := by
      have := box_new (w.alloc (.cells #[v1] 86)) v2 86
      rwa [World.size_alloc] at this
    have z1 : hi1 ≤ w.heap.size := by obtain ⟨_, _, _, _, _, _, z⟩ := s1; exact z
    have z2 : hi2 ≤ w.heap.size := by obtain ⟨_, _, _, _, _, _, z⟩ := s2; exact z
    exact ⟨_, _, rfl, enters_of Tryz.func158 (by kernel_rfl) rfl, together_its _ _ _ LO _ lo1 hi1 lo2 hi2 v1 v2 p q h1 h2 (s1.later (Rg.of_below hb z1)) (s2.later (Rg.of_below hb z2)) b1 (by omega) b3 (by omega) (by omega) (by omega) (Nat.le_refl _) hp hq hmn, by omega, Nat.le_refl _⟩
  have f1 := s1
  have f2 := s2
  obtain ⟨gf1, lb1, rfl, _⟩ := f1
  obtain ⟨gf2, lb2, rfl, _⟩ := f2
  clear s1 s2 hp hq
  go_enter Tryz.func129, Tryz.ntmps129
  go_wp2
  go_ret
  exact ⟨_, rfl, by simpa using G.out, ((Below.refl _ _).alloc (Nat.le_refl _) _).alloc (by simp) _⟩
/-- the cuts of a tree of at most d nodes are handed on -/
def CutsAt (d : Nat) : Prop := ∀ (x : Tx) (w : World), Tr.isTx x = true → x.length / 2 ≤ d →
  Calls Tryz.prog 58 #[.string ⟨x.toArray⟩] w fun e w' => ∃ v, e = .returned v ∧ IsSeq w' w.heap.size w'.heap.size v (cts x) ∧ Below w.heap.size w w'
set_option maxHeartbeats 2000000 in
theorem cutsOf_at (d : Nat) (IH : CutsAt d) (A : Option Addr) (n c B : Nat) (ts : List Tx) (w : World) (hl : ts.length = n) (hts : ∀ t ∈ ts, Tr.isTx t = true ∧ t.length / 2 ≤ d) (h16 : byT ts ≤ 16) (hB : B ≤ w.heap.size) (h : Row w B A (strs ts)) :
    Calls Tryz.prog 96 #[.slice A n c] w fun e w' => ∃ v, e = .returned v ∧ IsSeq w' w.heap.size w'.heap.size v (ctsOf ts) ∧ Below w.heap.size w w' := by
  have hn8 : n ≤ 8 := by have := len_byT (ts := ts) (fun t ht => (hts t ht).1); omega
  have HL := Lib.hid hl
  have HT := Lib.hid hts
  have H16 := Lib.hid h16
  clear hl hts h16
  go_enter Tryz.func96, Tryz.ntmps96
  go_wp2_with fail
  go_loopw [3, 8] (fun v i wr => ∃ (k : Nat), k ≤ n ∧ i = .int .i64 k ∧ Hid (∃ lo hi, w.heap.size ≤ lo ∧ IsSeq wr lo hi v (ctsOf (ts.take k))) ∧ Hid (Below w.heap.size w wr)) (fun _ i _ => n - (intOf i).toNat)
  case atStart => exact ⟨0, Nat.zero_le _, rfl, ⟨w.heap.size, w.heap.size, Nat.le_refl _, _, _, rfl, enters_of Tryz.func128 (by kernel_rfl) rfl, noCutting_its w, Nat.le_refl _, Nat.le_refl _⟩, Below.refl _ _⟩
  case round =>
    obtain ⟨k, hk, rfl, HS, HB⟩ := hrel
    by_cases hlt : k < n
    · obtain ⟨b, hb⟩ := at_lt (show k < ts.length by rw [HL.out]; exact hlt)
      obtain ⟨hbx, hbd⟩ := HT.out b (List.mem_of_getElem? hb)
      obtain ⟨ba, oa, rfl, _, hcw⟩ := (h.below HB.out hB) k _ (strs_at hb)
      obtain ⟨lo, hi, hlo, hseq⟩ := HS.out
      have HSQ := Lib.hid hseq
      have HLO := Lib.hid hlo
      have hsz := HB.out.size
      have CT := fun W => IH b W hbx hbd
      have o1 : ∀ c ∈ ctsOf (ts.take k), OkC (byT (ts.take k)) c := ctsOf_ok (fun t ht => (HT.out t (List.mem_of_mem_take ht)).1)
      have o2 : ∀ c ∈ cts b, OkC b.length c := cts_ok hbx
      have hst := ctsOf_step hb
      have hsum : byT (ts.take k) + b.length ≤ 16 := by
        have e1 : byT (ts.take (k + 1)) = byT (ts.take k) + b.length := by
          rw [List.take_add_one, hb, Option.toList_some, byT_app]; simp [byT]
        have e2 : byT (ts.take (k + 1)) ≤ byT ts := by
          have := byT_app (ts.take (k + 1)) (ts.drop (k + 1))
          rw [List.take_append_drop] at this
          omega
        have := H16.out
        omega
      have HO1 := Lib.hid o1
      have HO2 := Lib.hid o2
      have HST := Lib.hid hst
      have HSUM := Lib.hid hsum
      obtain ⟨X, hX⟩ : ∃ X : ByteArray, X = ⟨b.toArray⟩ := ⟨_, rfl⟩
      simp only [← hX] at CT
      rw [← hX] at hcw
      clear hb hbx hbd hseq hlo HS o1 o2 hst hsum hX
      go_wp2_with fail
      refine (CT _).mono ?_
      rintro e w2 ⟨v2, rfl, hs2, hb2⟩
      have hz2 := hb2.size
      have z1 : hi ≤ wr.heap.size := by obtain ⟨_, _, _, _, _, _, z⟩ := HSQ.out; exact z
      have TG := together_any _ _ w2 _ _ lo hi wr.heap.size w2.heap.size w.heap.size (HSQ.out.later (Rg.of_below hb2 z1)) hs2 HLO.out hsz (by omega) HO1.out HO2.out HSUM.out
      have HB2 := Lib.hid (HB.out.trans (hb2.mono hsz))
      clear hs2 hb2 HSQ
      go_wp2_with fail
      refine TG.mono ?_
      rintro e w3 ⟨v3, rfl, hs3, hb3⟩
      have HB3 : Hid (Below w.heap.size w w3) := HB2.out.trans (hb3.mono (by omega))
      have HS3 : Hid (∃ lo hi, w.heap.size ≤ lo ∧ IsSeq w3 lo hi v3 (ctsOf (ts.take (k + 1)))) := by rw [Hid, HST.out]; exact ⟨_, _, Nat.le_refl _, hs3⟩
      clear hs3 hb3 TG
      go_wp2
      go_roundw
      case rel => exact ⟨k + 1, by omega, by go_num, HS3, HB3⟩
      case measure => simp [intOf]; omega
    · obtain rfl : k = n := by omega
      have G : Hid (∃ lo hi, w.heap.size ≤ lo ∧ IsSeq wr lo hi u3 (ctsOf ts)) := by
        have := HS.out
        rw [List.take_of_length_le (by rw [HL.out]; exact Nat.le_refl _)] at this
        exact this
      clear HS
      go_wp2
      go_ret
      obtain ⟨lo, hi, hlo, gf, lb, e1, e2, e3, e4, e5⟩ := G.out
      exact ⟨_, rfl, ⟨gf, lb, e1, e2, fun l J Jx W hW hJ hJx hY h0 => e3 l J Jx W (hW.mono hlo e5) hJ hJx (fun pre x W1 m hj hx hlen => by
        obtain ⟨fn, tmps, assign, body, hy, hR⟩ := hY pre x W1 m hj hx hlen
        exact ⟨fn, tmps, assign, body, hy, hR.mono fun e W' hh => hh.elim (fun ⟨q1, q2, q3⟩ => .inl ⟨q1, q2, q3.mono hlo e5 (Nat.le_refl _)⟩) (fun ⟨q1, q2, q3⟩ => .inr ⟨q1, q2, q3.mono hlo e5 (Nat.le_refl _)⟩)⟩) h0, HB.out.size, Nat.le_refl _⟩, HB.out⟩
theorem cutsAt_zero : CutsAt 0 := fun x w hx hd => by have := (Tr.br_parts hx).1.1; omega
set_option maxHeartbeats 2000000 in
theorem cutsAt_succ (d : Nat) (IH : CutsAt d) : CutsAt (d + 1) := fun x w hx hd => by
  obtain ⟨⟨h2, h16⟩, hbr, h7⟩ := Tr.br_parts hx
  have hby := br_byT hx
  have CB := fun W => branches_any x W hx
  have hce := cts_eq hx
  obtain ⟨L, hL⟩ : ∃ L, L = cts x := ⟨_, rfl⟩
  rw [← hL] at hce ⊢
  clear hL
  obtain ⟨R, hR⟩ : ∃ R, R = ctsOf (Tr.brT x) := ⟨_, rfl⟩
  rw [← hR] at hce
  have HRR := Lib.hid hR
  have hts : ∀ t ∈ Tr.brT x, Tr.isTx t = true ∧ t.length / 2 ≤ d := fun t ht => ⟨(hbr t ht).1, by have := mem_byT ht; omega⟩
  have o1 : ∀ c ∈ R, OkC (byT (Tr.brT x)) c := by rw [hR]; exact ctsOf_ok (fun t ht => (hts t ht).1)
  clear hR
  have HO1 := Lib.hid o1
  have HTS := Lib.hid hts
  have HCE := Lib.hid hce
  obtain ⟨X, hX⟩ : ∃ X : ByteArray, X = ⟨x.toArray⟩ := ⟨_, rfl⟩
  have HX := Lib.hid hX
  rw [← hX]
  simp only [← hX] at CB
  have hct := box_new w (.string X) 80
  have bW : Below w.heap.size w (w.alloc (.cells #[.string X] 80)) := (Below.refl _ _).alloc (Nat.le_refl _) _
  clear hX hx o1 hts hce hbr
  go_enter Tryz.func58, Tryz.ntmps58
  go_wp2_with fail
  refine (CB _).mono ?_
  rintro e w2 ⟨A, q, c, rfl, hq, own2, bel2⟩
  have b2 : Below w.heap.size w w2 := bW.trans (bel2.mono (by simp))
  have hct2 := (bel2.cell (p := ⟨w.heap.size, 0, none⟩) (by simp)).trans hct
  have hz2 : w.heap.size + 1 ≤ w2.heap.size := by have := bel2.size; simpa using this
  have CC := cutsOf_at d IH A q c w2.heap.size (Tr.brT x) w2 hq.symm HTS.out (by omega) (Nat.le_refl _) (row_of_own own2)
  rw [← HRR.out] at CC
  clear own2 bel2 CB hct hq
  go_wp2_with fail
  refine CC.mono ?_
  rintro e w3 ⟨v3, rfl, hs3, hb3⟩
  have hz3 := hb3.size
  have hct3 := (hb3.cell (p := ⟨w.heap.size, 0, none⟩) (by show w.heap.size < w2.heap.size; omega)).trans hct2
  have b4 : Below w3.heap.size w3 (w3.alloc (.cells #[v3] 86)) := (Below.refl _ _).alloc (Nat.le_refl _) _
  have G : Hid (IsSeq (w3.alloc (.cells #[v3] 86)) w.heap.size (w3.alloc (.cells #[v3] 86)).heap.size (.func (.func 98) #[] #[.pointer (some ⟨w3.heap.size, 0, none⟩), .pointer (some ⟨w.heap.size, 0, none⟩)]) L) := by
    have hs : (w3.alloc (.cells #[v3] 86)).heap.size = w3.heap.size + 1 := by simp
    have h1 := box_new w3 v3 86
    have h2 := (b4.cell (p := ⟨w.heap.size, 0, none⟩) (by show w.heap.size < w3.heap.size; omega)).trans hct3
    rw [HX.out] at h2
    rw [HCE.out]
    exact ⟨_, _, rfl, enters_of Tryz.func98 (by kernel_rfl) rfl, cuts_its _ _ _ w.heap.size _ w2.heap.size w3.heap.size v3 _ x h1 h2 (hs3.later (Rg.of_below b4 (Nat.le_refl _))) (by omega) (by omega) (by omega) (by omega) (Nat.le_refl _) HO1.out (by omega), by omega, Nat.le_refl _⟩
  have GB : Hid (Below w.heap.size w (w3.alloc (.cells #[v3] 86))) := (b2.trans (hb3.mono (by omega))).alloc (by omega) _
  obtain ⟨gf, lb, rfl, _⟩ := hs3
  have hf1 : (Value.func (.func gf) #[] lb).oneCell' = true := rfl
  have hz4 := box_new w3 .nilFunc 86
  have hf4 : (w3.alloc (.cells #[.nilFunc] 86)).frozen? ⟨w3.heap.size, 0, none⟩ = false := frozen_of_row _ _ 0 _ _ (heap_alloc_new w3 _)
  clear CC hb3 b2 b4 hct2 hct3 HX
  go_wp2
  go_ret
  exact ⟨_, rfl, by simpa using G.out, GB.out⟩
theorem cutsAt_all : ∀ d, CutsAt d
  | 0 => cutsAt_zero
  | d+1 => cutsAt_succ d (cutsAt_all d)
end Go.Proofs.YtolkbbbbahhfaaaGreat
/-
  The program's tally: a map keyed by what a cut leaves.
-/
namespace Go.Proofs.YtolkbbbbahhfaaaGreat
open Go.RowKit Fld Go.Maps Go.MapKept Go.ChangeMaps
set_option linter.unusedVariables false
set_option linter.unusedSimpArgs false
set_option maxRecDepth 100000

theorem laidC : laidOutB Tryz.prog = true := by kernel_rfl
theorem lawC : WideMaps.KeyLaw Tryz.prog 79 := deep_law_laid laidC (m := 2) (by omega) (of_decide_eq_true (by kernel_rfl)) (by kernel_rfl) (by kernel_rfl)
theorem keyedC : Keyed Tryz.prog 79 := Keyed.of_law lawC
theorem key_some {a b : ByteArray} (ha : a.size ≤ maxLen) (hb : b.size ≤ maxLen) : ∃ l, keyOf Tryz.prog 79 (.agg #[.string a, .string b]) = some l := by
  have hkt : Tryz.prog.keyType 79 = true := by kernel_rfl
  have hc : Tryz.prog.cellsOf 79 = 2 := by kernel_rfl
  have hsz : 2 ≤ Tryz.prog.types.size := of_decide_eq_true (by kernel_rfl)
  obtain ⟨m, hm⟩ : ∃ m, Tryz.prog.types.size = m + 2 := ⟨_, (Nat.sub_add_cancel hsz).symm⟩
  unfold keyOf
  simp only [Tryz.underlying79]
  rw [if_pos (by simp [hkt, Value.formed, Tryz.underlying79, hc]), hm]
  unfold Program.keyLits
  simp only [Tryz.underlying79, Value.cells]
  have hcf : Tryz.prog.cellsOf 74 = 1 := by kernel_rfl
  rw [if_pos ⟨by rw [hc]; rfl, by simp⟩]
  simp [List.mapM_cons, List.mapM_nil, Program.keyLits, Tryz.underlying74, hcf, ha, hb]
/-- what a cut leaves, as two texts -/
abbrev Kx := List UInt8 × List UInt8
def keyV (x : Kx) : Value := .agg #[.string ⟨x.1.toArray⟩, .string ⟨x.2.toArray⟩]
def Small (x : Kx) : Prop := x.1.length ≤ 1048576 ∧ x.2.length ≤ 1048576
noncomputable def kap (x : Kx) : Lit := (keyOf Tryz.prog 79 (keyV x)).getD (.bool false)
theorem kap_key {x : Kx} (h : Small x) : keyOf Tryz.prog 79 (keyV x) = some (kap x) := by
  obtain ⟨l, hl⟩ := key_some (a := ⟨x.1.toArray⟩) (b := ⟨x.2.toArray⟩) (by simp [ByteArray.size, maxLen]; have := h.1; omega) (by simp [ByteArray.size, maxLen]; have := h.2; omega)
  unfold kap keyV
  rw [hl]; rfl
theorem kap_inj {x y : Kx} (hx : Small x) (hy : Small y) (h : kap x = kap y) : x = y := by
  have := keyedC.inj (kap_key hx) (h ▸ kap_key hy)
  unfold keyV at this
  simp only [Value.agg.injEq, Array.mk.injEq, List.cons.injEq, Value.string.injEq, ByteArray.mk.injEq, and_true] at this
  exact Prod.ext this.1 this.2
theorem kap_lit {x : Kx} (h : Small x) : WideAt.IsKeyLit (kap x) := keyedC.key (kap_key h)
def HoldsG (D : DataW Unit) (f : Kx → Int) : Prop :=
  (∀ x, Small x → D.atKey (kap x) (.lit (.int .i64 0)) = .lit (.int .i64 (f x))) ∧ ∀ x, Small x → Maps.has D (kap x) = decide (f x ≠ 0)
/-- block b is a tally with the numbers f -/
def MapG (w : World) (b n : Nat) (f : Kx → Int) : Prop :=
  ∃ D : DataW Unit, w.ownsMap Tryz.prog 79 (plainElem Tryz.prog 2) b n D ∧ HoldsG D f
def bumpG (f : Kx → Int) (x : Kx) : Kx → Int := fun y => if y = x then f x + 1 else f y
theorem zeroCountC (w : World) : (zeroValue 2).run Tryz.prog w = .ok (.int .i64 0) w := by kernel_rfl
theorem MapG.made (w : World) : MapG (w.alloc (.map #[] 0)) w.heap.size 0 (fun _ => 0) :=
  ⟨.map [], World.ownsMap_made _ _ _ _, fun x _ => by simp [DataW.atKey], fun x _ => by simp [Maps.has]⟩
theorem MapG.same {w w' : World} {b n : Nat} {f : Kx → Int} (h : MapG w b n f) (hb : w'.heap[b]? = w.heap[b]?) : MapG w' b n f := by
  obtain ⟨D, ⟨es, clock, h1, r⟩, h2⟩ := h
  exact ⟨D, ⟨es, clock, hb.trans h1, r⟩, h2⟩
theorem MapG.lt {w : World} {b n : Nat} {f : Kx → Int} (h : MapG w b n f) : b < w.heap.size := by
  obtain ⟨D, h1, _⟩ := h
  exact h1.lt
theorem HoldsG.put {D : DataW Unit} {f : Kx → Int} {x : Kx} (h : HoldsG D f) (hm : IsMap D) (hx : Small x) (hz : f x + 1 ≠ 0) : HoldsG (D.put (kap x) (.lit (.int .i64 (f x + 1)))) (bumpG f x) := by
  refine ⟨fun y hy => ?_, fun y hy => ?_⟩
  · unfold bumpG
    by_cases e : y = x
    · subst e
      rw [if_pos rfl, Maps.atKey_put_same hm (kap_lit hx)]
    · rw [if_neg e, Maps.atKey_put_other (fun q => e (kap_inj hy hx q))]; exact h.1 y hy
  · unfold bumpG
    by_cases e : y = x
    · subst e
      rw [if_pos rfl, Maps.has_put_same hm (kap_lit hx), decide_eq_true hz]
    · rw [if_neg e, Maps.has_put_other (fun q => e (kap_inj hy hx q))]; exact h.2 y hy
/-- 'counts[c]++': the entry is found or made, then stored -/
theorem MapG.entry {w : World} {b n : Nat} {f : Kx → Int} {x : Kx} (h : MapG w b n f) (hx : Small x) (hn : n < maxLen) (hz : f x + 1 ≠ 0) (hwf : (Lit.int .i64 (f x + 1)).wf = true) :
    ∃ v0 st es1 c1, (Instr.mapEntry 83 (.map (some b)) (keyV x)).run Tryz.prog w = .ok (.tuple #[v0, goInt st]) (setBlock w b (.map es1 c1)) ∧
      ∀ w2 : World, w2.heap[b]? = some (.map es1 c1) → ∃ es2 c2, (Instr.entryStore 83 (.map (some b)) (goInt st) (.int .i64 (f x + 1))).run Tryz.prog w2 = .ok () (setBlock w2 b (.map es2 c2)) ∧ MapG (setBlock w2 b (.map es2 c2)) b (n + 1) (bumpG f x) := by
  obtain ⟨D, hown, hD⟩ := h
  have hm := hown.isMap
  obtain ⟨w', hu, hown', _⟩ := hown.update keyedC Tryz.underlying83 hn (kap_key hx) (plainElem_int Tryz.underlying2 hwf)
  obtain ⟨es, clock, hb, F, hs, hDe⟩ := hown
  obtain ⟨v0, st, es1, c1, hrun, _, hst⟩ := WideElems.entry_then_store lawC Tryz.underlying83 (fun u => zeroCountC u) hb F (kap_key hx)
  refine ⟨v0, st, es1, c1, hrun, fun w2 hw2 => ?_⟩
  obtain ⟨es2, c2, h1, h2⟩ := hst w2 (.int .i64 (f x + 1)) hw2
  refine ⟨es2, c2, h1, ?_⟩
  rw [hu] at h2
  injection h2 with _ h3
  subst h3
  exact MapG.same ⟨_, hown', hD.put hm hx hz⟩ ((heap_setBlock_same hw2 _).trans (heap_setBlock_same hb _).symm)
theorem MapG.look {w : World} {b n : Nat} {f : Kx → Int} {x : Kx} (h : MapG w b n f) (hx : Small x) : (Instr.lookup 83 (.map (some b)) (keyV x) false).run Tryz.prog w = .ok (.int .i64 (f x)) w := by
  obtain ⟨D, hown, hD⟩ := h
  obtain ⟨c, hrun, hat, _⟩ := hown.lookup_int keyedC Tryz.underlying83 Tryz.underlying2 (zeroCountC w) (kap_key hx)
  have h9 := hat.symm.trans (hD.1 x hx)
  obtain rfl : c = f x := by simpa using h9
  exact hrun
section
open Go.WideElems Go.ChangeShapes Go.WideShapes
variable {H : Type} {P : Program} {w : World} {t k e : TypeId} {R : Value → Option (DataW H × List MemPlace)} {b : Nat} {es : Array MapEntry} {clock : Nat}
theorem result_inj {α : Type} {a b : α} {u v : World} (h : Result.ok a u = Result.ok b v) : u = v := by injection h
theorem result_val {α : Type} {a b : α} {u v : World} (h : Result.ok a u = Result.ok b v) : a = b := by injection h
theorem setBlock_inj {o1 o2 : Obj} (hb : w.heap[b]? = some (.map es clock)) (h : setBlock w b o1 = setBlock w b o2) : o1 = o2 := by
  have := congrArg (fun W : World => W.heap[b]?) h
  simp only [heap_setBlock_same hb] at this
  exact Option.some.inj this
/-- what 'mapEntry' leaves in the block: what was there, or one entry more -/
theorem entry_shape (K : WideMaps.KeyLaw P k) (ht : P.underlying t = some (.map k e)) {z : Value} (hz : ∀ u : World, (zeroValue e).run P u = .ok z u) (hb : w.heap[b]? = some (.map es clock)) (F : Fit P k R es clock)
    {key : Value} {kl : Lit} (hkey : keyOf P k key = some kl) {r : Value} {es1 : Array MapEntry} {c1 : Nat} (hrun : (Instr.mapEntry t (.map (some b)) key).run P w = .ok r (setBlock w b (.map es1 c1))) :
    (es1 = es ∧ c1 = clock) ∨ ((∀ x ∈ es.toList, x.key ≠ key) ∧ es1 = es.push ⟨key, z, clock⟩ ∧ c1 = clock + 1 ∧ (Instr.mapUpdate t (.map (some b)) key z).run P w = .ok () (setBlock w b (.map es1 c1))) := by
  rcases K.find w hkey es.toList F.keys with ⟨h1, h2⟩ | ⟨j, e0, h1, h2, h3⟩
  · have e1 : (Instr.mapEntry t (.map (some b)) key).run P w = .ok (.tuple #[z, goInt clock]) (setBlock w b (.map (es.push ⟨key, z, clock⟩) (clock + 1))) := by
      simp [Instr.mapEntry, run_underlying ht, MapKept.run_getObj_map hb, K.check w false hkey, h1, hz, MapKept.run_setObj_map _ hb, Result.andThen, setBlock]
    have e2 : (Instr.mapUpdate t (.map (some b)) key z).run P w = .ok () (setBlock w b (.map (es.push ⟨key, z, clock⟩) (clock + 1))) := by
      simp [Instr.mapUpdate, run_underlying ht, MapKept.run_getObj_map hb, K.check w false hkey, h1, MapKept.run_setObj_map _ hb, Result.andThen, setBlock]
    rw [hrun] at e1
    injection e1 with _ e1
    have := setBlock_inj hb e1
    injection this with a1 a2
    subst a1 a2
    exact .inr ⟨h2, rfl, rfl, e2⟩
  · have hj : es[j]? = some e0 := by simpa using h2
    have hsame : es.modify j (fun e => { e with key := key }) = es := by
      apply Array.ext'
      rw [Array.toList_modify, modify_eq_set _ _ _ _ h2]
      have : ({ e0 with key := key } : MapEntry) = e0 := by rw [← h3]
      rw [this]
      exact set_self _ _ _ h2
    have e1 : (Instr.mapEntry t (.map (some b)) key).run P w = .ok (.tuple #[e0.val, goInt e0.born]) (setBlock w b (.map es clock)) := by
      simp [Instr.mapEntry, run_underlying ht, MapKept.run_getObj_map hb, K.check w false hkey, h1, hj, h3, K.stays w hkey, hsame, MapKept.run_setObj_map _ hb, Result.andThen, setBlock]
    rw [hrun] at e1
    injection e1 with _ e1
    have := setBlock_inj hb e1
    injection this with a1 a2
    exact .inl ⟨a1, a2⟩
theorem entry_look_gen {q : IntKind} {n : Nat} {D : DataW H} {es1 : Array MapEntry} {c1 : Nat} (K : WideMaps.KeyLaw P k) (ht : P.underlying t = some (.map k e)) (he : P.underlying e = some (.int q)) (hz : ∀ u : World, (zeroValue e).run P u = .ok (.int q 0) u) (hn : n < maxLen) (hown : w.ownsMap P k (plainElem P e) b n D)
    {key : Value} {kl : Lit} (hkey : keyOf P k key = some kl) {r : Value} (hrun : (Instr.mapEntry t (.map (some b)) key).run P w = .ok r (setBlock w b (.map es1 c1))) {c : Int} (hl : (Instr.lookup t (.map (some b)) key false).run P w = .ok (.int q c) w) (w2 : World) (hw2 : w2.heap[b]? = some (.map es1 c1)) :
    (Instr.lookup t (.map (some b)) key false).run P w2 = .ok (.int q c) w2 := by
  have K' := Keyed.of_law K
  have hw0 : (Lit.int q 0).wf = true := by cases q <;> decide
  have hm := hown.isMap
  obtain ⟨w', hu, hown', _⟩ := hown.update K' ht hn hkey (val := .int q 0) (plainElem_int he hw0)
  obtain ⟨c9, hr9, hat9, _⟩ := hown.lookup_int K' ht he (hz w) hkey
  have hc9 := result_val (hr9.symm.trans hl)
  simp only [Value.int.injEq, true_and] at hc9
  obtain ⟨es, clock, hb, F, hs, hDe⟩ := hown
  have hsh := entry_shape (es := es) (clock := clock) (es1 := es1) (c1 := c1) (z := .int q 0) K ht hz hb F hkey hrun
  rcases hsh with hsh | ⟨h2, hes, hcs, hup⟩
  · obtain ⟨e7, e8⟩ := hsh
    rw [e7, e8] at hw2
    have h3 : w2.ownsMap P k (plainElem P e) b n D := ⟨_, _, hw2, F, hs, hDe⟩
    obtain ⟨c3, hrun3, hat3, _⟩ := h3.lookup_int K' ht he (hz w2) hkey
    have := hat3.symm.trans hat9
    simp only [DataW.lit.injEq, Lit.int.injEq, true_and] at this
    rw [hrun3, this, hc9]
  · have hw := result_inj (hu.symm.trans hup)
    subst hw
    have hf : c = 0 := by
      rcases Maps.fit_look false K' ht (hz w) hb F hkey with ⟨hrun2, _, _⟩ | ⟨e0, y, he0, hk0, _⟩
      · have e2 := result_val (hrun2.symm.trans hl)
        simp only [Bool.false_eq_true, if_false, Value.int.injEq, true_and] at e2
        exact e2.symm
      · exact absurd hk0 (h2 e0 he0)
    obtain ⟨es2, c2, hb2, F2, hs2, hD2⟩ := hown'
    rw [heap_setBlock_same hb] at hb2
    have h3 : w2.ownsMap P k (plainElem P e) b (n + 1) (D.put kl (.lit (.int q 0))) := ⟨es2, c2, hw2.trans hb2, F2, hs2, hD2⟩
    obtain ⟨c3, hrun3, hat, _⟩ := h3.lookup_int K' ht he (hz w2) hkey
    rw [Maps.atKey_put_same hm (K'.key hkey)] at hat
    simp only [DataW.lit.injEq, Lit.int.injEq, true_and] at hat
    rw [hrun3, ← hat, hf]
end
/-- a lookup that comes up behind the entry finds the same number -/
theorem MapG.entry_look {w : World} {b n : Nat} {f : Kx → Int} {x : Kx} (h : MapG w b n f) (hx : Small x) (hn : n < maxLen) {r : Value} {es1 : Array MapEntry} {c1 : Nat}
    (hrun : (Instr.mapEntry 83 (.map (some b)) (keyV x)).run Tryz.prog w = .ok r (setBlock w b (.map es1 c1))) :
    ∀ w2 : World, w2.heap[b]? = some (.map es1 c1) → (Instr.lookup 83 (.map (some b)) (keyV x) false).run Tryz.prog w2 = .ok (.int .i64 (f x)) w2 := by
  have h1 := h.look hx
  obtain ⟨D, hown, hD⟩ := h
  have hz : ∀ u : World, (zeroValue 2).run Tryz.prog u = .ok (.int .i64 0) u := zeroCountC
  have hk := kap_key hx
  generalize keyV x = kv at hk h1 hrun ⊢
  intro w2 hw2
  have h2 := entry_look_gen (c := f x) (P := Tryz.prog) (t := 83) (k := 79) (e := 2) (q := .i64) lawC Tryz.underlying83 Tryz.underlying2 hz hn hown hk hrun
  exact h2 h1 w2 hw2
end Go.Proofs.YtolkbbbbahhfaaaGreat
/-
  The program's tally of what a function yields.
-/
namespace Go.Proofs.YtolkbbbbahhfaaaGreat
open Go.RowKit
set_option linter.unusedVariables false
set_option linter.unusedSimpArgs false
set_option maxRecDepth 100000

def keyOfC (c : Ct) : Kx := (c.1.flatten, c.2.flatten)
def tl (L : List Ct) : Kx → Int := L.foldl (fun f c => bumpG f (keyOfC c)) (fun _ => 0)
theorem tl_snoc (L : List Ct) (c : Ct) : tl (L ++ [c]) = bumpG (tl L) (keyOfC c) := by unfold tl; rw [List.foldl_append, List.foldl_cons, List.foldl_nil]
theorem tl_bd (L : List Ct) (k : Kx) : 0 ≤ tl L k ∧ tl L k ≤ L.length := by
  have h : ∀ (L : List Ct) (f : Kx → Int) (n : Nat), (∀ k, 0 ≤ f k ∧ f k ≤ n) → ∀ k, 0 ≤ L.foldl (fun f c => bumpG f (keyOfC c)) f k ∧ L.foldl (fun f c => bumpG f (keyOfC c)) f k ≤ ((n + L.length : Nat) : Int) := fun L => by
    induction L with
    | nil => intro f n h k; simpa using h k
    | cons a r ih =>
      intro f n h k
      rw [List.foldl_cons]
      have := ih (bumpG f (keyOfC a)) (n + 1) (fun k => by
        unfold bumpG
        have h1 := h k
        have h2 := h (keyOfC a)
        split <;> omega) k
      rw [List.length_cons]; omega
  have := h L (fun _ => 0) 0 (fun k => by simp) k
  unfold tl
  omega
theorem encC_key (x : Ct) : encC x = keyV (keyOfC x) := rfl
theorem KpR.block {lo hi E b : Nat} {w : World} {o0 o : Obj} (h1 : ¬ (lo ≤ b ∧ b < hi)) (h2 : b < E) : KpR lo hi E w (ChangeMaps.setBlock w b o) := by
  refine ⟨by simp [ChangeMaps.setBlock], fun k h3 h4 _ => ?_, fun k h3 _ => ?_⟩
  · simp only [ChangeMaps.setBlock]; rw [Array.getElem?_setIfInBounds_ne (by omega)]
  · simp only [ChangeMaps.setBlock]; rw [Array.getElem?_setIfInBounds_ne (by omega)]
section
variable {l n : Nat} {P : Program} {ops : Array Oper} {Q : Exit → Act → World → Prop} {md : Region.Mode} {S : World → Prop}
/-- two numbers may come up -/
theorem anyR_two {i j : Nat} {oi oj : Oper} {fuel : Nat} {listed : Array Bool} {a : Act} {w : World} (hd : NoDefer ops) (hi : ops[i]? = some oi) (hj : ops[j]? = some oj) (hr : Region.ready md ops listed = [i, j]) (hwi : Region.wanted oi (yielded ops a.tmps) = true) (hwj : Region.wanted oj (yielded ops a.tmps) = true)
    (h1 : oi.uponIn (Fence.wide.inRound l) n P a (fun a' w' => S w' ∧ AnyR l n P md ops Q S fuel (listed.setIfInBounds i true) a' w') Q ((execOp a.eval oi).run P w))
    (h2 : oj.uponIn (Fence.wide.inRound l) n P a (fun a' w' => S w' ∧ AnyR l n P md ops Q S fuel (listed.setIfInBounds j true) a' w') Q ((execOp a.eval oj).run P w)) : AnyR l n P md ops Q S (fuel + 1) listed a w := by
  refine ⟨fun h0 => (by rw [hr] at h0; cases h0), fun k hk => ?_⟩
  rw [hr, List.mem_cons, List.mem_singleton] at hk
  rcases hk with rfl | rfl
  · unfold wpOpIn
    simp only [hi]
    rw [if_pos hwi]
    exact ⟨fun _ _ => trivial, by rw [semR (hd k oi hi)]; exact h1⟩
  · unfold wpOpIn
    simp only [hj]
    rw [if_pos hwj]
    exact ⟨fun _ _ => trivial, by rw [semR (hd k oj hj)]; exact h2⟩
theorem upon_skip {o : Oper} {a : Act} {w w' : World} {next : Act → World → Prop} (he : (execOp a.eval o).run P w = .ok .skip w') (h : next (a.put o.dst undef) w') : o.uponIn (Fence.wide.inRound l) n P a next Q ((execOp a.eval o).run P w) := by
  rw [he]; exact h
theorem upon_val {o : Oper} {a : Act} {w w' : World} {next : Act → World → Prop} {v : Value} (he : (execOp a.eval o).run P w = .ok (.value v) w') (h : next (a.put o.dst v) w') : o.uponIn (Fence.wide.inRound l) n P a next Q ((execOp a.eval o).run P w) := by
  rw [he]; exact h
end
theorem MapG.abd {B b : Nat} (hB : b < B) : Abd B (fun (pre : List Ct) W => MapG W b pre.length (tl pre)) := ⟨fun s W W' h hb => h.same (hb.block b h.lt), fun s W l o o' h hl _ _ => h.same (World.putObj_heap_other (fun e => by omega))⟩
set_option maxHeartbeats 4000000 in
theorem tallyOf_any (v : Value) (L : List Ct) (lo hi : Nat) (w : World) (hs : IsSeq w lo hi v L) (hL : L.length ≤ 1000) (hsm : ∀ c ∈ L, Small (keyOfC c)) :
    Calls Tryz.prog 57 #[v] w fun e w' => ∃ b, e = .returned (.map (some b)) ∧ MapG w' b L.length (tl L) ∧ Below w.heap.size w w' := by
  obtain ⟨gf, lb, rfl, eg, hit, h1, h2⟩ := hs
  have HSM := Lib.hid hsm
  obtain ⟨w1, hw1⟩ : ∃ w1, w1 = (w.alloc (.map #[] 0)).alloc (.cells #[.map (some w.heap.size)] 83) := ⟨_, rfl⟩
  have b1 : Below w.heap.size w w1 := by rw [hw1]; exact ((Below.refl _ _).alloc (Nat.le_refl _) _).alloc (by simp) _
  have z1 : w1.heap.size = w.heap.size + 2 := by rw [hw1]; simp
  have hm1 : MapG w1 w.heap.size 0 (tl []) := by
    rw [hw1]
    exact (MapG.made w).same (heap_alloc_old _ _ (by simp))
  have hc1 : w1.cell? ⟨w.heap.size + 1, 0, none⟩ = some (.map (some w.heap.size)) := by
    rw [hw1, cell_of_row _ _ _ _ _ _ (heap_alloc2_new w _ _)]; rfl
  have hit1 := hit.later (Rg.of_below b1 h2)
  clear hsm
  refine (callsIn_wide (n := 3)).1 ?_
  refine callsIn_of_wp_marks Tryz.func57 rfl trivial ?_ rfl
  simp only [Tryz.ntmps57, List.size_toArray, List.length_cons, List.length_nil, Nat.reduceAdd, Nat.reduceSub, Array.replicate_succ, Array.replicate_zero, List.push_toArray, List.append_toArray, List.nil_append, List.cons_append]
  refine wpIn_wide.2 ?_
  have hmm := @run_makeMap Tryz.prog
  go_wp2_with fail
  rw [← hw1]
  clear hw1 hmm
  refine (wpIn_wide (n := 3)).1 ?_
  refine wp_rng (lo := lo) (hi := hi) (xs := L) (w0 := w1) (enc := encC) rfl eg hit1 (Rg.refl _ _ _) (by omega)
    (fun pre W' => (W'.cell? ⟨w.heap.size + 1, 0, none⟩ = some (.map (some w.heap.size)) ∧ MapG W' w.heap.size pre.length (tl pre)) ∧ (Below w.heap.size w W' ∧ KpR lo hi w1.heap.size w1 W')) (fun pre W' => False)
    (((Abd.cell w1.heap.size _ (fun (pre : List Ct) => .map (some w.heap.size))).and (MapG.abd (by omega))).and ((Abd.below (by omega) (Nat.le_refl _)).and (Abd.kpr (Nat.le_refl _)))) ⟨fun _ _ _ h _ => h, fun _ _ _ _ _ h _ _ _ => h⟩ ⟨⟨hc1, hm1⟩, b1, KpR.refl _ _ _ _⟩
    (fun x a' W' => ∃ gc, w1.heap.size ≤ gc ∧ CtB W' gc ⟨x.1.flatten.toArray⟩ ⟨x.2.flatten.toArray⟩ ∧ a' = { tmps := #[.func (.func gf) #[] lb, undef, .map none, .pointer (some ⟨w.heap.size + 1, 0, none⟩), .pointer (some ⟨gc, 0, none⟩), .map (some w.heap.size), .func (.func gf) #[] lb, encC x, undef, undef, undef, undef, undef, undef, undef], defers := [] })
    (fun x a' => ⟨fun _ A B h hb => by obtain ⟨bc, e1, e2, e3⟩ := h; exact ⟨bc, e1, e2.next hb, e3⟩, fun _ A k o o' h hk ho hc => by
      obtain ⟨bc, e1, e2, e3⟩ := h
      refine ⟨bc, e1, (World.putObj_heap_other (fun e => ?_)).trans e2, e3⟩
      subst e
      rw [show A.heap[bc]? = _ from e2] at ho
      cases ho
      cases hc⟩) ?assign ?body ?done ?stop
  case assign =>
    rintro l1 m1 pre x Wr K ⟨⟨hI1, hI2⟩, hI3, hI4⟩ hx hK
    have hz4 := hI4.size
    clear hI1 hI2 hI3 hI4 hit hit1 hm1 hc1 b1 z1 eg
    rw [show encC x = .agg #[.string ⟨x.1.flatten.toArray⟩, .string ⟨x.2.flatten.toArray⟩] from rfl] at hK ⊢
    obtain ⟨xa, hxa⟩ : ∃ z : ByteArray, z = ⟨x.1.flatten.toArray⟩ := ⟨_, rfl⟩
    obtain ⟨xb, hxb⟩ : ∃ z : ByteArray, z = ⟨x.2.flatten.toArray⟩ := ⟨_, rfl⟩
    rw [← hxa, ← hxb] at hK ⊢
    clear hxa hxb
    simp only [List.setIfInBounds_toArray, List.set_cons_succ, List.set_cons_zero]
    have ha : (Instr.alloc 79 true (.tuple #[])).run Tryz.prog Wr = .ok (.pointer (some ⟨Wr.heap.size, 0, none⟩)) (Wr.alloc (.cells #[.string ⟨#[]⟩, .string ⟨#[]⟩] 79)) := by kernel_rfl
    gi_wp2
    simp only [Oper.semAt, execOp, Sem.run_bind, ha, Result.andThen_ok, Sem.run_pure]
    gi_wp2
    have hcn : CtB (Wr.alloc (.cells #[.string ⟨#[]⟩, .string ⟨#[]⟩] 79)) Wr.heap.size ⟨#[]⟩ ⟨#[]⟩ := CtB.new Wr _ _
    have y0 := hcn.c0
    have y1 := hcn.c1
    have y2 := hcn.free 0
    have y3 := hcn.free 1
    simp only [Oper.semAt]
    go_simp
    gi_wp2
    exact hK _ _ ((Below.refl _ _).alloc (Nat.le_refl _) _) ⟨Wr.heap.size, hz4, CtB.new Wr xa xb, rfl⟩
  case body =>
    rintro l1 m1 pre x a' R hl1 _ ⟨⟨hc, hm⟩, hb, hk4⟩ ⟨gc, hgc, hCt, rfl⟩ hx hlen
    have hxs := HSM.out x hx
    have hfb := tl_bd pre (keyOfC x)
    obtain ⟨N, hN⟩ : ∃ N, N = tl pre (keyOfC x) := ⟨_, rfl⟩
    have hmd : MapG R.drew w.heap.size pre.length (tl pre) := hm.same rfl
    have hlk := hmd.look hxs
    have hwf : (Lit.int .i64 (N + 1)).wf = true := by simp [Lit.wf, IntKind.min, IntKind.max, IntKind.signed, IntKind.bits]; omega
    have hwr : IntKind.i64.wrap (N + 1) = N + 1 := IntWalk.i64_in _ (by omega)
    obtain ⟨v0, st, es1, c1, hent, hst⟩ := hmd.entry hxs (by simp only [maxLen]; omega) (by omega) (by rw [← hN]; exact hwf)
    have hbl := hm.lt
    have hbh : ∃ o, R.heap[w.heap.size]? = some o := ⟨_, Array.getElem?_eq_getElem hbl⟩
    have hlk2 := hmd.entry_look hxs (by simp only [maxLen]; omega) hent
    rw [← hN] at hlk hst hlk2
    gi_wp2_with fail
    refine regionR (S := fun V => V.cell? ⟨w.heap.size + 1, 0, none⟩ = some (.map (some w.heap.size)) ∧ CtB V gc ⟨x.1.flatten.toArray⟩ ⟨x.2.flatten.toArray⟩) (by kernel_rfl) ⟨hc, hCt⟩ ?_
    intro hS0
    refine anyR_take (i := 0) (v := .map (some w.heap.size)) (noDefer_of (by kernel_rfl)) rfl (by kernel_rfl) (by kernel_rfl) (by kernel_rfl) (fun _ _ _ h => h) (.inl ⟨by kernel_rfl, fun V hV => ?_⟩) hS0 ?_
    · have hc := hV.1
      go_simp
    refine anyR_take (i := 1) (v := keyV (keyOfC x)) (noDefer_of (by kernel_rfl)) rfl (by kernel_rfl) (by kernel_rfl) (by kernel_rfl) (fun _ _ _ h => h) (CtB.yields (by kernel_rfl) (.tmp 4) rfl gc rfl _ _ (fun V hV => hV.2)) hS0 ?_
    simp only [Act.put, List.setIfInBounds_toArray, List.set_cons_succ, List.set_cons_zero, List.getElem_toArray, List.getElem_cons_zero, List.getElem_cons_succ]
    have hz1 : w1.heap.size ≤ R.heap.size := hk4.size
    have hbo := hbl
    have D1 : ∀ (V : World) (o : Obj), V.heap.size = R.heap.size → (∀ i, i ≠ w.heap.size → V.heap[i]? = R.heap[i]?) → (V.cell? ⟨w.heap.size + 1, 0, none⟩ = some (.map (some w.heap.size)) ∧ CtB V gc ⟨x.1.flatten.toArray⟩ ⟨x.2.flatten.toArray⟩) := fun V o _ hV =>
      ⟨(World.cell?_of_block (a := ⟨w.heap.size + 1, 0, none⟩) (show V.heap[w.heap.size + 1]? = R.heap[w.heap.size + 1]? from hV (w.heap.size + 1) (by omega))).trans hc, (hV gc (by omega)).trans hCt⟩
    have hB1 : ∀ (V : World) (o : Obj) (i : Nat), i ≠ w.heap.size → (ChangeMaps.setBlock V w.heap.size o).heap[i]? = V.heap[i]? := fun V o i hi => by
      simp only [ChangeMaps.setBlock]; rw [Array.getElem?_setIfInBounds_ne (by omega)]
    have hS1 := D1 (ChangeMaps.setBlock R.drew w.heap.size (.map es1 c1)) (.map es1 c1) (by simp [ChangeMaps.setBlock]) (fun i hi => hB1 _ _ i hi)
    have hw1b : (ChangeMaps.setBlock R.drew w.heap.size (.map es1 c1)).heap[w.heap.size]? = some (.map es1 c1) := by
      simp only [ChangeMaps.setBlock]; rw [Array.getElem?_setIfInBounds_self_of_lt (by exact hbl)]
    obtain ⟨es2, c2, hsto, hm2⟩ := hst _ hw1b
    unfold goInt at hsto
    have hS2 := D1 (ChangeMaps.setBlock (ChangeMaps.setBlock R.drew w.heap.size (.map es1 c1)) w.heap.size (.map es2 c2)) (.map es2 c2) (by simp [ChangeMaps.setBlock]) (fun i hi => (hB1 _ _ i hi).trans (hB1 _ _ i hi))
    have hlk3 := hlk2 _ hw1b
    obtain ⟨kv, hkv⟩ : ∃ kv, kv = keyV (keyOfC x) := ⟨_, rfl⟩
    rw [← hkv] at hlk hent hlk3 ⊢
    have HN := Lib.hid hN
    clear hN hkv hlk2 hst hmd hc1 hm1 hit hit1
    have HFIN : Hid (KpR lo hi w1.heap.size R (ChangeMaps.setBlock (ChangeMaps.setBlock R.drew w.heap.size (.map es1 c1)) w.heap.size (.map es2 c2)) ∧ ((((ChangeMaps.setBlock (ChangeMaps.setBlock R.drew w.heap.size (.map es1 c1)) w.heap.size (.map es2 c2)).cell? ⟨w.heap.size + 1, 0, none⟩ = some (.map (some w.heap.size)) ∧ MapG (ChangeMaps.setBlock (ChangeMaps.setBlock R.drew w.heap.size (.map es1 c1)) w.heap.size (.map es2 c2)) w.heap.size (pre ++ [x]).length (tl (pre ++ [x]))) ∧ (Below w.heap.size w (ChangeMaps.setBlock (ChangeMaps.setBlock R.drew w.heap.size (.map es1 c1)) w.heap.size (.map es2 c2)) ∧ KpR lo hi w1.heap.size w1 (ChangeMaps.setBlock (ChangeMaps.setBlock R.drew w.heap.size (.map es1 c1)) w.heap.size (.map es2 c2)))))) := by
      have hk9 : KpR lo hi w1.heap.size R (ChangeMaps.setBlock (ChangeMaps.setBlock R.drew w.heap.size (.map es1 c1)) w.heap.size (.map es2 c2)) := ⟨by simp [ChangeMaps.setBlock], fun i _ h4 _ => (hB1 _ _ i (by omega)).trans (hB1 _ _ i (by omega)), fun i h3 _ => (hB1 _ _ i (by omega)).trans (hB1 _ _ i (by omega))⟩
      refine ⟨hk9, ⟨hS2.1, ?_⟩, ⟨hb.os, hb.tape, hb.output, Nat.le_trans hb.size hk9.size, fun i hi9 => ((hB1 _ (.map es2 c2) i (by omega)).trans (hB1 _ (.map es1 c1) i (by omega))).trans (hb.block i hi9)⟩, hk4.trans hk9⟩
      rw [List.length_append, tl_snoc]
      exact hm2
    refine anyR_two (i := 2) (j := 4) (noDefer_of (by kernel_rfl)) rfl rfl (by kernel_rfl) (by kernel_rfl) (by kernel_rfl) ?_ ?_
    · refine upon_val (v := .int .i64 N) (w' := R.drew) ?_ ⟨hS0, ?_⟩
      · go_simp
        try (first | (rw [hlk]; rfl) | (rw [hent]; rfl))
      simp only [Act.put, List.setIfInBounds_toArray, List.set_cons_succ, List.set_cons_zero, List.getElem_toArray, List.getElem_cons_zero, List.getElem_cons_succ]
      refine anyR_take (i := 3) (v := .int .i64 (N + 1)) (noDefer_of (by kernel_rfl)) rfl (by kernel_rfl) (by kernel_rfl) (by kernel_rfl) (fun _ _ _ h => h) (.inl ⟨by kernel_rfl, fun V hV => by go_simp⟩) hS0 ?_
      simp only [Act.put, List.setIfInBounds_toArray, List.set_cons_succ, List.set_cons_zero, List.getElem_toArray, List.getElem_cons_zero, List.getElem_cons_succ]
      refine anyR_one (i := 4) (noDefer_of (by kernel_rfl)) rfl (by kernel_rfl) (by kernel_rfl) (upon_val (v := .tuple #[v0, goInt st]) (w' := ChangeMaps.setBlock R.drew w.heap.size (.map es1 c1)) ?_ ⟨hS1, ?_⟩)
      · go_simp
        try (first | (rw [hlk]; rfl) | (rw [hent]; rfl))
      simp only [Act.put, List.setIfInBounds_toArray, List.set_cons_succ, List.set_cons_zero, List.getElem_toArray, List.getElem_cons_zero, List.getElem_cons_succ]
      refine anyR_one (i := 5) (noDefer_of (by kernel_rfl)) rfl (by kernel_rfl) (by kernel_rfl) (upon_val (v := goInt st) (w' := ChangeMaps.setBlock R.drew w.heap.size (.map es1 c1)) ?_ ⟨hS1, ?_⟩)
      · go_simp
        try (first | (rw [hlk]; rfl) | (rw [hent]; rfl))
      simp only [Act.put, List.setIfInBounds_toArray, List.set_cons_succ, List.set_cons_zero, List.getElem_toArray, List.getElem_cons_zero, List.getElem_cons_succ]
      refine anyR_one (i := 6) (noDefer_of (by kernel_rfl)) rfl (by kernel_rfl) (by kernel_rfl) (upon_skip (w' := ChangeMaps.setBlock (ChangeMaps.setBlock R.drew w.heap.size (.map es1 c1)) w.heap.size (.map es2 c2)) ?_ ⟨hS2, anyR_done (by kernel_rfl) ?_ _⟩)
      · go_simp
        try (rw [hsto]; rfl)
      simp only [Act.put, List.setIfInBounds_toArray, List.set_cons_succ, List.set_cons_zero, List.getElem_toArray, List.getElem_cons_zero, List.getElem_cons_succ]
      gi_wp2
      exact HFIN.out
    · refine upon_val (v := .tuple #[v0, goInt st]) (w' := ChangeMaps.setBlock R.drew w.heap.size (.map es1 c1)) ?_ ⟨hS1, ?_⟩
      · go_simp
        try (rw [hent]; rfl)
      simp only [Act.put, List.setIfInBounds_toArray, List.set_cons_succ, List.set_cons_zero, List.getElem_toArray, List.getElem_cons_zero, List.getElem_cons_succ]
      refine anyR_take (i := 5) (v := goInt st) (noDefer_of (by kernel_rfl)) rfl (by kernel_rfl) (by kernel_rfl) (by kernel_rfl) (fun _ _ _ h => h) (.inl ⟨by kernel_rfl, fun V hV => by go_simp⟩) hS1 ?_
      simp only [Act.put, List.setIfInBounds_toArray, List.set_cons_succ, List.set_cons_zero, List.getElem_toArray, List.getElem_cons_zero, List.getElem_cons_succ]
      refine anyR_one (i := 2) (noDefer_of (by kernel_rfl)) rfl (by kernel_rfl) (by kernel_rfl) (upon_val (v := .int .i64 N) (w' := ChangeMaps.setBlock R.drew w.heap.size (.map es1 c1)) ?_ ⟨hS1, ?_⟩)
      · go_simp
        try (rw [hlk3]; rfl)
      simp only [Act.put, List.setIfInBounds_toArray, List.set_cons_succ, List.set_cons_zero, List.getElem_toArray, List.getElem_cons_zero, List.getElem_cons_succ]
      refine anyR_one (i := 3) (noDefer_of (by kernel_rfl)) rfl (by kernel_rfl) (by kernel_rfl) (upon_val (v := .int .i64 (N + 1)) (w' := ChangeMaps.setBlock R.drew w.heap.size (.map es1 c1)) ?_ ⟨hS1, ?_⟩)
      · go_simp
      simp only [Act.put, List.setIfInBounds_toArray, List.set_cons_succ, List.set_cons_zero, List.getElem_toArray, List.getElem_cons_zero, List.getElem_cons_succ]
      refine anyR_one (i := 6) (noDefer_of (by kernel_rfl)) rfl (by kernel_rfl) (by kernel_rfl) (upon_skip (w' := ChangeMaps.setBlock (ChangeMaps.setBlock R.drew w.heap.size (.map es1 c1)) w.heap.size (.map es2 c2)) ?_ ⟨hS2, anyR_done (by kernel_rfl) ?_ _⟩)
      · go_simp
        try (rw [hsto]; rfl)
      simp only [Act.put, List.setIfInBounds_toArray, List.set_cons_succ, List.set_cons_zero, List.getElem_toArray, List.getElem_cons_zero, List.getElem_cons_succ]
      gi_wp2
      exact HFIN.out
  case done =>
    rintro D Wd hD ⟨⟨hc, hm⟩, hb, hk⟩ hDo
    go_wp2
    refine ⟨by simp, .inl ⟨_, _, rfl, run_takeDeferred hDo, ?_⟩⟩
    exact ⟨.map (some w.heap.size), by simp [results, Tryz.f57, go_sem], w.heap.size, rfl, (MapG.abd (B := w1.heap.size) (by omega)).turn L Wd D _ _ hm hD hDo rfl, (Abd.below (β := Unit) (B := w1.heap.size) (by omega) (Nat.le_refl _)).turn () Wd D _ _ hb hD hDo rfl⟩
  case stop =>
    rintro D pre Wd hD hJd hDo
    exact hJd.elim
end Go.Proofs.YtolkbbbbahhfaaaGreat
/-
  What RootOn answers, the program's and the model's.
-/
namespace Go.Proofs.YtolkbbbbahhfaaaGreat
open Go.RowKit Fld
set_option linter.unusedVariables false
set_option linter.unusedSimpArgs false
set_option maxRecDepth 100000

def rootA (f : List (List Int)) : List Int × Int := if isFor f = true then (if total f = 8 then ([], 3) else (Tr.can (Tr.up f), 0)) else ([], 1)
theorem rootA_no {f : List (List Int)} (h : isFor f = false) : rootA f = ([], 1) := if_neg (by rw [h]; simp)
theorem rootA_big {f : List (List Int)} (h : isFor f = true) (h8 : total f = 8) : rootA f = ([], 3) := by unfold rootA; rw [if_pos h, if_pos h8]
theorem rootA_yes {f : List (List Int)} (h : isFor f = true) (h8 : ¬ total f = 8) : rootA f = (Tr.can (Tr.up f), 0) := by unfold rootA; rw [if_pos h, if_neg h8]
theorem up_outL (f : List (List Int)) : Tr.up f = outL f.flatten := rfl
set_option maxHeartbeats 2000000 in
theorem l03Root_any (A : Option Addr) (k c B : Nat) (f : List (List Int)) (w : World) (hl : f.length = k) (hlv : ∀ r ∈ f, Tr.isLv r = true) (h7 : total f ≤ 7) (hB : B ≤ w.heap.size) (h : Mat w B A f) :
    Calls Tryz.prog 118 #[.slice A k c] w (NewRow 2 (total f + 1) (ints (Tr.can (Tr.up f))) w) := by
  obtain ⟨i0, hi, hz0, hz1, hz2⟩ := info_parts info_i64
  have HL := Lib.hid hl
  have HLV := Lib.hid hlv
  have HFT : Hid (f.flatten.length = total f) := flat_total f
  have HUP := Lib.hid (up_lv hlv h7)
  have hk8 : k ≤ 7 := by
    have := len_total (f := f) (fun r hr => (lv_bd (hlv r hr)).1)
    omega
  obtain ⟨s, hs⟩ : ∃ s, s = total f := ⟨_, rfl⟩
  rw [← hs] at HFT h7 ⊢
  clear hl hlv hs
  go_enter Tryz.func118, Tryz.ntmps118
  go_wp2_with fail
  go_loopw [3, 4] (fun v i W => ∃ (q g cap j : Nat), q ≤ k ∧ v = .slice (some ⟨g, 0, none⟩) j cap ∧ i = .int .i64 q ∧ Hid (j = (f.take q).flatten.length + 1) ∧ Growing w 2 g j cap (ints (outL (f.take q).flatten)) W) (fun _ i _ => k - (intOf i).toNat)
  case atStart => exact ⟨0, w.heap.size, 1, 1, Nat.zero_le _, rfl, rfl, rfl, World.ownsRow_lit (base := w.heap.size) (size := 1) (e := 2) w #[.int .i64 0] 1 (Nat.le_refl _) (by simp [maxLen]) rfl, (Below.refl _ _).alloc (Nat.le_refl _) _⟩
  case round =>
    obtain ⟨q, g, cp2, j, hq, rfl, rfl, HJ, HG⟩ := hrel
    have hsz := HG.2.size
    by_cases hlt2 : q < k
    · obtain ⟨r, hr⟩ := at_lt (show q < f.length by rw [HL.out]; exact hlt2)
      have hrl := HLV.out r (List.mem_of_getElem? hr)
      have hr8 : r.length ≤ 8 := (Tr.isLv_iff.1 hrl).2.1
      have HRT : Hid ((f.take (q + 1)).flatten = (f.take q).flatten ++ r) := flat_take' hr
      have hfl : (f.take q).flatten.length + r.length ≤ 8 := by
        have h1 := flat_le' f (q + 1)
        rw [HRT.out, List.length_append] at h1
        have := HFT.out; omega
      obtain ⟨F, hF⟩ : ∃ F, F = (f.take q).flatten := ⟨_, rfl⟩
      rw [← hF] at HRT hfl HG HJ
      have HRL := Lib.hid hrl
      have HRR := Lib.hid hr
      have HFL2 := Lib.hid hfl
      have F0 : Hid (Growing w 2 g j cp2 (ints (outL (F ++ r.take 0))) wr) := by
        rw [Hid, List.take_zero, List.append_nil]; exact HG
      have hj8 : j ≤ 9 := by have := HJ.out; omega
      have J0 : Hid (j = F.length + 0 + 1) := HJ
      clear hrl hr hF HG HJ hfl
      go_wp2_with fail
      go_loopw [3, 5] (fun v i W => ∃ (e g cap j : Nat), e ≤ r.length ∧ j ≤ 9 ∧ v = .slice (some ⟨g, 0, none⟩) j cap ∧ i = .int .i64 e ∧ Hid (j = F.length + e + 1) ∧ Growing w 2 g j cap (ints (outL (F ++ r.take e))) W) (fun _ i _ => r.length - (intOf i).toNat)
      case atStart => exact ⟨0, g, cp2, j, Nat.zero_le _, hj8, rfl, rfl, J0, F0.out⟩
      case round =>
        obtain ⟨e, g, cp2, j, he, hj9, rfl, rfl, HJ, HG⟩ := hrel
        have hsz := HG.2.size
        obtain ⟨b, o, Ar, cr, rfl, _, hcr, _, _, hrr⟩ := (h.below HG.2 hB) q r HRR.out
        by_cases hlt3 : e < r.length
        · obtain ⟨x, hx⟩ := at_lt hlt3
          obtain ⟨br, orr, rfl, _, hcx⟩ := hrr e _ (ints_at hx)
          obtain ⟨x0, x8⟩ := lv_el HRL.out hx
          have HXE : Hid (r.take (e + 1) = r.take e ++ [x]) := by rw [Hid, List.take_add_one, hx]; rfl
          have HG' := Lib.hid HG
          have hown := HG.1
          clear hx HG hrr
          go_wp2_with (at_builtin; refine wpList_append_lies _ rfl (.tmp 22) (.tmp 31) 23 rfl w.heap.size 2 i0 _ 1 8 Tryz.underlying23 hi hz0 hz1 hz2 rfl (by omega) (.slice (some ⟨g, 0, none⟩) j cp2) j (ints (outL (F ++ r.take e))) rfl (hown.alloc _) ⟨wr.heap.size, 0, none⟩ 1 1 [.int .i64 (x + 1)] rfl rfl (World.news_of_block (cs := #[.int .i64 (x + 1)]) (heap_alloc_new _ _)) (by simp [Value.oneCell']) (by omega) (by simp only [maxLen]; omega) (by omega) (by simp; omega) (wr.heap.size + 1) (by simp) ?_; intro g4 cap4 w4 hown4 hgrow4 hat4 hlt4)
          rw [outL_push, List.append_assoc, ← HXE.out] at hown4
          have G := Lib.hid (HG'.out.step ((Below.refl _ _).alloc (Nat.le_refl _) _) hown4 hgrow4)
          clear hown4 hgrow4 hat4 hown
          go_wp2
          go_roundw
          case rel => exact ⟨e + 1, g4, cap4, j + 1, by omega, by have := HJ.out; have := HFL2.out; omega, rfl, by go_num, by have := HJ.out; rw [Hid]; omega, G.out⟩
          case measure => simp [intOf]; omega
        · obtain rfl : e = r.length := by omega
          have G : Hid (Growing w 2 g j cp2 (ints (outL (f.take (q + 1)).flatten)) wr) := by
            rw [Hid, HRT.out]
            rw [List.take_length] at HG
            exact HG
          have GJ : Hid (j = (f.take (q + 1)).flatten.length + 1) := by
            have := HJ.out
            rw [Hid, HRT.out, List.length_append]; omega
          clear HG hrr HJ
          go_wp2
          go_roundw
          case rel => exact ⟨q + 1, g, cp2, j, by omega, rfl, by go_num, GJ, G.out⟩
          case measure => simp [intOf]; omega
    · obtain rfl : q = k := by omega
      rw [List.take_of_length_le (by rw [HL.out]; exact Nat.le_refl _), ← up_outL] at HG
      have e : j = s + 1 := by
        have h1 := HJ.out
        rw [List.take_of_length_le (by rw [HL.out]; exact Nat.le_refl _)] at h1
        have := HFT.out; omega
      subst e
      have HUL : Hid ((Tr.up f).length = s + 1) := by rw [Hid, up_outL, outL_length, HFT.out]
      have HROW : Hid (Row wr wr.heap.size (some ⟨g, 0, none⟩) (ints (Tr.up f))) := row_of_own (HG.1)
      have HB1 := Lib.hid HG.2
      clear HG HJ
      go_wp2_with fail
      refine (l03Canon_any _ (s + 1) cp2 wr.heap.size (Tr.up f) wr HUL.out HUP.out (Nat.le_refl _) HROW.out).mono ?_
      rintro e w2 ⟨A2, c2, rfl, own2, bel2⟩
      have G : Hid (NewRow 2 (s + 1) (ints (Tr.can (Tr.up f))) w (.returned (.slice A2 (s + 1) c2)) w2) := ⟨_, _, rfl, ((OwnR.of own2).more hsz (Nat.le_refl _)).1, HB1.out.trans (bel2.mono hsz)⟩
      clear own2 bel2
      go_wp2
      go_ret
      exact G.out
end Go.Proofs.YtolkbbbbahhfaaaGreat
/-
  A result beside a code, handed back.
-/
namespace Go.Proofs.YtolkbbbbahhfaaaGreat
open Go.RowKit Fld
set_option linter.unusedVariables false

theorem ResI.of' {r : Int × Int} {w w' : World} {x k : Int} (h : r = (x, k)) (hb : Below w.heap.size w w') : ResI r w (.returned (.tuple #[.int .i64 x, .int .i64 k])) w' := by
  subst h; exact ⟨rfl, hb⟩
end Go.Proofs.YtolkbbbbahhfaaaGreat
/-
  Plain: how many cuts there are, and how long their texts.
-/
namespace Go.Proofs.YtolkbbbbahhfaaaGreat
set_option linter.unusedVariables false
set_option linter.unusedSimpArgs false
set_option maxRecDepth 100000

def cntN : Nat → Tx → Nat
  | 0, _ => 0
  | k+1, x => (Tr.brT x).foldl (fun a b => a * cntN k b) 1 + 1
theorem ctF_lenN : ∀ (k : Nat) (x : Tx), (ctF k x).length = cntN k x
  | 0, x => rfl
  | k+1, x => by
    rw [ctF_succ, List.length_append, List.length_map, cntN]
    congr 1
    have : ∀ (ts : List Tx) (acc : List Ct), (ts.foldl (fun acc b => togT acc (ctF k b)) acc).length = ts.foldl (fun a b => a * cntN k b) acc.length := fun ts => by
      induction ts with
      | nil => intro acc; rw [List.foldl_nil, List.foldl_nil]
      | cons a r ih =>
        intro acc
        rw [List.foldl_cons, List.foldl_cons, ih, togT_length, ctF_lenN k a]
    exact this _ _
def chkNN (x : Tx) : Bool := decide (cntN 8 x ≤ 1000)
theorem chkNN_all : Tr.allT.all chkNN = true := by decide +kernel
theorem cts_lenN {x : Tx} (h : Tr.isTx x = true) : (cts x).length = cntN 8 x ∧ cntN 8 x ≤ 1000 := by
  refine ⟨by unfold cts; exact ctF_lenN 8 x, ?_⟩
  have := Tr.tx_of chkNN_all h
  unfold chkNN at this
  exact of_decide_eq_true this
end Go.Proofs.YtolkbbbbahhfaaaGreat
/-
  CountCut, the program's way.
-/
namespace Go.Proofs.YtolkbbbbahhfaaaGreat
open Go.RowKit Fld
set_option linter.unusedVariables false
set_option linter.unusedSimpArgs false
set_option maxRecDepth 100000

def wantK (f : List (List Int)) (r : List Int) : Kx := ((Tr.sortT (f.map Tr.txt)).flatten, if r.length = 0 then [] else Tr.txt r)
def countCutA (t : List Int) (f : List (List Int)) (r : List Int) : Int × Int := if Tr.isLv t = true ∧ isFor f = true ∧ (r.length = 0 ∨ Tr.isLv r = true) then (tl (cts (Tr.txt t)) (wantK f r), 0) else (0, 1)
set_option maxHeartbeats 4000000 in
theorem pCountCut_L (A A' A2 : Option Addr) (n n' n2 c c' c2 B B' B2 : Nat) (t : List Int) (f : List (List Int)) (r : List Int) (w : World) (hl : t.length = n) (hl' : f.length = n') (hl2 : r.length = n2) (hn : n ≤ 1048576) (hn' : n' + total f ≤ 1048576) (hn2 : n2 ≤ 1048576) (hB : B ≤ w.heap.size) (hB' : B' ≤ w.heap.size) (hB2 : B2 ≤ w.heap.size) (h : Row w B A (ints t)) (h' : Mat w B' A' f) (h2 : Row w B2 A2 (ints r)) (hc : n ≤ c) (hc2 : n2 ≤ c2) :
    Calls Tryz.prog 25 #[.slice A n c, .slice A' n' c', .slice A2 n2 c2] w (ResI (countCutA t f r) w) := by
  have C0 := isLevels_any A n c B t w hl (by omega) h
  cases hlv : Tr.isLv t
  · have G : Hid (countCutA t f r = (0, 1)) := if_neg (by rw [hlv]; simp)
    rw [hlv] at C0
    clear hl
    go_enter Tryz.func25, Tryz.ntmps25
    go_wp2_with fail
    refine C0.mono ?_
    rintro e w' ⟨rfl, d, rfl⟩
    go_wp2
    go_ret2
    exact ResI.of' G.out (below_drewN (Below.refl _ _) d)
  · rw [hlv] at C0
    have CF := fun d => isForest_any A' n' c' B' f (w.drewN d) hl' hn' hB' (h'.drewN d)
    cases hfo : isFor f
    · have G : Hid (countCutA t f r = (0, 1)) := if_neg (by rw [hfo]; simp)
      simp only [hfo] at CF
      clear hl hl'
      go_enter Tryz.func25, Tryz.ntmps25
      go_wp2_with fail
      refine C0.mono ?_
      rintro e w' ⟨rfl, d, rfl⟩
      go_wp2_with fail
      refine (CF d).mono ?_
      rintro e w2 ⟨rfl, bel2⟩
      have G2 : Hid (Below w.heap.size w w2) := (below_drewN (Below.refl _ _) d).trans bel2
      clear bel2
      go_wp2
      go_ret2
      exact ResI.of' G.out G2.out
    · have hrows := fun r hr => (tr_lv (for_rows hfo r hr)).1
      have h8 : total f ≤ 8 := by
        unfold isFor at hfo
        simp only [Bool.and_eq_true, decide_eq_true_eq] at hfo
        exact hfo.2
      have hn8 := len_total (f := f) (fun r hr => (lv_bd (hrows r hr)).1)
      obtain ⟨l1, l8⟩ := lv_bd hlv
      have hx := Tr.tx_txt hlv
      simp only [hfo] at CF
      have CT := fun W (hW : Below w.heap.size w W) => treesOf_any A' n' c' B' f W hl' (by omega) hrows (by have := hW.size; omega) (h'.below hW hB')
      have CO := fun W (hW : Below w.heap.size w W) => treeOf_any A n c B t W hl (by omega) (by omega) hc (by have := hW.size; omega) (h.below hW hB)
      have CU := fun W => cutsAt_all 8 (Tr.txt t) W hx (by have := (Tr.br_parts hx).1.2; omega)
      have hs16 : ∀ s ∈ f.map Tr.txt, s.length ≤ 16 := fun s hs => by
        obtain ⟨r, hr, rfl⟩ := List.mem_map.1 hs
        exact (Tr.br_parts (Tr.tx_txt (hrows r hr))).1.2
      have hn8' : n' ≤ 8 := by omega
      have hsm : ∀ c ∈ cts (Tr.txt t), Small (keyOfC c) := fun c hc => by
        have h1 := (cts_ok hx c hc).2.2
        have h2 := (Tr.br_parts hx).1.2
        exact ⟨by show c.1.flatten.length ≤ _; rw [byT_flat]; omega, by show c.2.flatten.length ≤ _; rw [byT_flat]; omega⟩
      have hll : (cts (Tr.txt t)).length ≤ 1000 := by have := cts_lenN hx; omega
      have hwf : (Tr.sortT (f.map Tr.txt)).flatten.length ≤ 16 := by
        rw [byT_flat, byT_perm (sortT_perm _), ← byT_flat, flat_txt hrows]; omega
      obtain ⟨LC, hLC⟩ : ∃ L, L = cts (Tr.txt t) := ⟨_, rfl⟩
      obtain ⟨XT, hXT⟩ : ∃ X : ByteArray, X = ⟨(Tr.txt t).toArray⟩ := ⟨_, rfl⟩
      simp only [← hXT] at CO CU
      simp only [← hLC] at CU hsm hll
      have TL := fun v lo hi W (hs : IsSeq W lo hi v LC) => tallyOf_any v LC lo hi W hs hll hsm
      have HLC := Lib.hid hLC
      clear hXT
      by_cases h0 : n2 = 0
      · have G : Hid (countCutA t f r = (tl (cts (Tr.txt t)) (wantK f r), 0)) := if_pos ⟨hlv, hfo, .inl (by omega)⟩
        have HWK : Hid (wantK f r = ((Tr.sortT (f.map Tr.txt)).flatten, [])) := by unfold wantK; rw [Hid, if_pos (by omega)]
        subst h0
        clear hl hl' hl2
        go_enter Tryz.func25, Tryz.ntmps25
        go_wp2_with fail
        refine C0.mono ?_
        rintro e w' ⟨rfl, d, rfl⟩
        go_wp2_with fail
        refine (CF d).mono ?_
        rintro e w2 ⟨rfl, bel2⟩
        have G2 : Hid (Below w.heap.size w w2) := (below_drewN (Below.refl _ _) d).trans bel2
        clear bel2
        go_wp2_with fail
        refine (CT _ G2.out).mono ?_
        rintro e w3 ⟨rfl, own3, bel3⟩
        have hz2 := G2.out.size
        have hz3 := bel3.size
        go_wp2_with fail
        refine (productOf_any (some ⟨w2.heap.size, 0, none⟩) w2.heap.size n' n' (f.map Tr.txt) w3 (by omega) hs16 hz3 own3).mono ?_
        rintro e w4 ⟨rfl, bel4⟩
        have G4 : Hid (Below w.heap.size w w4) := (G2.out.trans (bel3.mono hz2)).trans (bel4.mono hz2)
        obtain ⟨X, hX⟩ : ∃ X : ByteArray, X = ⟨(Tr.sortT (f.map Tr.txt)).flatten.toArray⟩ := ⟨_, rfl⟩
        have HX := Lib.hid hX
        rw [← hX]
        clear hX own3 bel3 bel4
        go_wp2_with fail
        clear CT CF C0 hs16 hx l1 l8 hrows hLC
        have HSK : Small (wantK f r) := by rw [HWK.out]; exact ⟨by show (Tr.sortT (f.map Tr.txt)).flatten.length ≤ 1048576; omega, by simp⟩
        have hkv : keyV (wantK f r) = .agg #[.string X, .string ⟨#[]⟩] := by rw [HWK.out, HX.out]; rfl
        obtain ⟨W5, hW5⟩ : ∃ W5, W5 = w4.alloc (.cells #[.string X, .string ⟨#[]⟩] 79) := ⟨_, rfl⟩
        have hCt : CtB W5 w4.heap.size X ⟨#[]⟩ := by rw [hW5]; exact CtB.new w4 _ _
        have hz4 := G4.out.size
        have G5 : Hid (Below w.heap.size w W5) := by rw [hW5]; exact G4.out.alloc hz4 _
        have hz5 : W5.heap.size = w4.heap.size + 1 := by rw [hW5]; simp
        have hlt5 : w4.heap.size < W5.heap.size := by omega
        rw [← hW5]
        clear hW5 hz5
        have KK : Hid (∀ V, Below W5.heap.size W5 V → V.cell? ⟨w4.heap.size, 0, none⟩ = some (.string X) ∧ V.cell? ⟨w4.heap.size, 1, none⟩ = some (.string ⟨#[]⟩)) := fun V hV => ⟨(hCt.next hV).c0, (hCt.next hV).c1⟩
        go_region_held3 (fun V => V.cell? ⟨w4.heap.size, 0, none⟩ = some (.string X) ∧ V.cell? ⟨w4.heap.size, 1, none⟩ = some (.string ⟨#[]⟩))
          (first | exact KK.out _ (Below.refl _ _).drew | exact KK.out _ (below_drewN (Below.refl _ _) _) | exact KK.out _ (below_undrew' (a := 1) bel6) | exact KK.out _ ((below_undrew' (a := 1) bel6).trans (bel7.mono (below_undrew' (a := 1) bel6).size)) | exact KK.out _ (((below_undrew' (a := 1) bel6).trans (bel7.mono (below_undrew' (a := 1) bel6).size)).trans (bel8.mono ((below_undrew' (a := 1) bel6).trans (bel7.mono (below_undrew' (a := 1) bel6).size)).size)))
          (first
            | (go_at_call 56; refine (CO _ (by first | exact G5.out.drew | exact below_drewN G5.out _)).mono ?_; rintro e w6 ⟨rfl, bel6⟩)
            | (go_at_call 58; refine (CU w6).mono ?_; rintro e w7 ⟨v7, rfl, hs7, bel7⟩)
            | (go_at_call 57; refine (TL v7 _ _ w7 hs7).mono ?_; rintro e w8 ⟨b8, rfl, hm8, bel8⟩; have hlk := hm8.look HSK; rw [hkv] at hlk))
        have G9 : Hid (Below w.heap.size w w8) := G5.out.trans ((((below_undrew' (a := 1) bel6).trans (bel7.mono (below_undrew' (a := 1) bel6).size)).trans (bel8.mono ((below_undrew' (a := 1) bel6).trans (bel7.mono (below_undrew' (a := 1) bel6).size)).size)).mono G5.out.size)
        have E9 : Hid (countCutA t f r = (tl LC (wantK f r), 0)) := by rw [Hid, HLC.out]; exact G.out
        clear bel6 bel7 bel8 hm8 hlk hs7 KK hCt G
        go_wp2
        go_ret2
        exact ResI.of' E9.out G9.out
      · have C2 := fun W (hW : Below w.heap.size w W) => isLevels_any A2 n2 c2 B2 r W hl2 (by omega) (h2.below hW hB2)
        cases hlv2 : Tr.isLv r
        · have G : Hid (countCutA t f r = (0, 1)) := if_neg (fun hh => by rcases hh.2.2 with h | h; (· omega); (· rw [hlv2] at h; cases h))
          simp only [hlv2] at C2
          have hp2 : 0 < n2 := by omega
          clear hl hl' hl2 CT CO CU
          go_enter Tryz.func25, Tryz.ntmps25
          go_wp2_with fail
          refine C0.mono ?_
          rintro e w' ⟨rfl, d, rfl⟩
          go_wp2_with fail
          refine (CF d).mono ?_
          rintro e w2 ⟨rfl, bel2⟩
          have G2 : Hid (Below w.heap.size w w2) := (below_drewN (Below.refl _ _) d).trans bel2
          clear bel2
          go_wp2_with fail
          refine (C2 _ G2.out).mono ?_
          rintro e w3 ⟨rfl, d3, rfl⟩
          go_wp2
          go_ret2
          exact ResI.of' G.out (below_drewN G2.out _)
        · have G : Hid (countCutA t f r = (tl (cts (Tr.txt t)) (wantK f r), 0)) := if_pos ⟨hlv, hfo, .inr hlv2⟩
          obtain ⟨k1, k8⟩ := lv_bd hlv2
          have CO2 := fun W (hW : Below w.heap.size w W) => treeOf_any A2 n2 c2 B2 r W hl2 (by omega) (by omega) hc2 (by have := hW.size; omega) (h2.below hW hB2)
          obtain ⟨XR, hXR⟩ : ∃ X : ByteArray, X = ⟨(Tr.txt r).toArray⟩ := ⟨_, rfl⟩
          have HXR := Lib.hid hXR
          have hr16 : (Tr.txt r).length ≤ 16 := (Tr.br_parts (Tr.tx_txt hlv2)).1.2
          simp only [← hXR] at CO2
          simp only [hlv2] at C2
          have hp2 : 0 < n2 := by omega
          clear hl hl' hl2 hXR
          go_enter Tryz.func25, Tryz.ntmps25
          go_wp2_with fail
          refine C0.mono ?_
          rintro e w' ⟨rfl, d, rfl⟩
          go_wp2_with fail
          refine (CF d).mono ?_
          rintro e w2 ⟨rfl, bel2⟩
          have G2 : Hid (Below w.heap.size w w2) := (below_drewN (Below.refl _ _) d).trans bel2
          clear bel2
          go_wp2_with fail
          refine (C2 _ G2.out).mono ?_
          rintro e w2' ⟨rfl, d2, rfl⟩
          have G2' : Hid (Below w.heap.size w (w2.drewN d2)) := below_drewN G2.out _
          go_wp2_with fail
          refine (CT _ G2'.out).mono ?_
          rintro e w3 ⟨rfl, own3, bel3⟩
          have hz2 := G2.out.size
          have hz3 := bel3.size
          go_wp2_with fail
          refine (productOf_any (some ⟨w2.heap.size, 0, none⟩) w2.heap.size n' n' (f.map Tr.txt) w3 (by omega) hs16 hz3 own3).mono ?_
          rintro e w4 ⟨rfl, bel4⟩
          have G4 : Hid (Below w.heap.size w w4) := (G2'.out.trans (bel3.mono hz2)).trans (bel4.mono hz2)
          obtain ⟨X, hX⟩ : ∃ X : ByteArray, X = ⟨(Tr.sortT (f.map Tr.txt)).flatten.toArray⟩ := ⟨_, rfl⟩
          have HX := Lib.hid hX
          rw [← hX]
          clear hX own3 bel3 bel4
          have hCtA : CtB (w4.alloc (.cells #[.string X, .string ⟨#[]⟩] 79)) w4.heap.size X ⟨#[]⟩ := CtB.new w4 _ _
          have hz4 := G4.out.size
          have GA : Hid (Below w.heap.size w (w4.alloc (.cells #[.string X, .string ⟨#[]⟩] 79))) := G4.out.alloc hz4 _
          go_wp2_with fail
          refine (CO2 _ GA.out).mono ?_
          rintro e w5 ⟨rfl, bel5⟩
          have hz5' := bel5.size
          have hzA : (w4.alloc (.cells #[.string X, .string ⟨#[]⟩] 79)).heap.size = w4.heap.size + 1 := by simp
          have hCt5 := hCtA.next bel5
          have y0 := hCt5.c0
          have y1 := hCt5.c1
          have y2 := hCt5.free 1
          have GB5 : Hid (Below w.heap.size w w5) := GA.out.trans (bel5.mono GA.out.size)
          have HWK : Hid (wantK f r = ((Tr.sortT (f.map Tr.txt)).flatten, Tr.txt r)) := by unfold wantK; rw [Hid, if_neg (by omega)]
          have HSK : Small (wantK f r) := by rw [HWK.out]; exact ⟨by show (Tr.sortT (f.map Tr.txt)).flatten.length ≤ 1048576; omega, by show (Tr.txt r).length ≤ 1048576; omega⟩
          have hkv : keyV (wantK f r) = .agg #[.string X, .string XR] := by rw [HWK.out, HX.out, HXR.out]; rfl
          obtain ⟨W5, hW5⟩ : ∃ W5, W5 = w5.setCell ⟨w4.heap.size, 1, none⟩ (.string XR) := ⟨_, rfl⟩
          have hCt : CtB W5 w4.heap.size X XR := by
            rw [hW5]
            have := heap_setCell_same w5 w4.heap.size 1 _ _ (.string XR) hCt5
            simpa [CtB] using this
          have G5 : Hid (Below w.heap.size w W5) := by rw [hW5]; exact below_set GB5.out hz4 _
          have hlt5 : w4.heap.size < W5.heap.size := by rw [hW5, World.size_setCell]; omega
          clear CT CF C0 C2 CO2 hs16 hx l1 l8 hrows hLC hz5' hzA bel5 hCtA GA
          go_wp2_with fail
          rw [← hW5]
          clear hW5 y0 y1 y2 hCt5
          have KK : Hid (∀ V, Below W5.heap.size W5 V → V.cell? ⟨w4.heap.size, 0, none⟩ = some (.string X) ∧ V.cell? ⟨w4.heap.size, 1, none⟩ = some (.string XR)) := fun V hV => ⟨(hCt.next hV).c0, (hCt.next hV).c1⟩
          go_region_held3 (fun V => V.cell? ⟨w4.heap.size, 0, none⟩ = some (.string X) ∧ V.cell? ⟨w4.heap.size, 1, none⟩ = some (.string XR))
            (first | exact KK.out _ (Below.refl _ _).drew | exact KK.out _ (below_drewN (Below.refl _ _) _) | exact KK.out _ (below_undrew' (a := 1) bel6) | exact KK.out _ ((below_undrew' (a := 1) bel6).trans (bel7.mono (below_undrew' (a := 1) bel6).size)) | exact KK.out _ (((below_undrew' (a := 1) bel6).trans (bel7.mono (below_undrew' (a := 1) bel6).size)).trans (bel8.mono ((below_undrew' (a := 1) bel6).trans (bel7.mono (below_undrew' (a := 1) bel6).size)).size)))
            (first
              | (go_at_call 56; refine (CO _ (by first | exact G5.out.drew | exact below_drewN G5.out _)).mono ?_; rintro e w6 ⟨rfl, bel6⟩)
              | (go_at_call 58; refine (CU w6).mono ?_; rintro e w7 ⟨v7, rfl, hs7, bel7⟩)
              | (go_at_call 57; refine (TL v7 _ _ w7 hs7).mono ?_; rintro e w8 ⟨b8, rfl, hm8, bel8⟩; have hlk := hm8.look HSK; rw [hkv] at hlk))
          have G9 : Hid (Below w.heap.size w w8) := G5.out.trans ((((below_undrew' (a := 1) bel6).trans (bel7.mono (below_undrew' (a := 1) bel6).size)).trans (bel8.mono ((below_undrew' (a := 1) bel6).trans (bel7.mono (below_undrew' (a := 1) bel6).size)).size)).mono G5.out.size)
          have E9 : Hid (countCutA t f r = (tl LC (wantK f r), 0)) := by rw [Hid, HLC.out]; exact G.out
          clear bel6 bel7 bel8 hm8 hlk hs7 KK hCt G
          go_wp2
          go_ret2
          exact ResI.of' E9.out G9.out
end Go.Proofs.YtolkbbbbahhfaaaGreat
/-
  Plain: the program's cuts and the model's are the same, each as often.
-/
namespace Go.Proofs.YtolkbbbbahhfaaaGreat
set_option linter.unusedVariables false
set_option maxRecDepth 100000

/-- the key of a cut in the program's tally -/
def keyC (c : Ct) : List UInt8 × List UInt8 := (c.1.flatten, c.2.flatten)
/-- the key of a cut of the model -/
def keyS (s : Spl) : List UInt8 × List UInt8 := ((s.1.map Tr.txt).flatten, (s.2.1.map Tr.txt).flatten)
def eqK (a b : List UInt8 × List UInt8) : Bool := a.1 == b.1 && a.2 == b.2
def cntK (P : List (List UInt8 × List UInt8)) (k : List UInt8 × List UInt8) : Nat := P.foldl (fun n p => if eqK p k = true then n + 1 else n) 0
def chkK (t : List Int) : Bool :=
  let P := (cts (Tr.txt t)).map keyC
  let M := (spF 8 t).map fun s => (keyS s, s.2.2)
  M.all (fun e => decide (((cntK P e.1 : Nat) : Int) = e.2)) && P.all (fun p => M.any fun e => eqK e.1 p)
theorem chkK_6 : (Tr.allLv.filter fun t => Tr.can t == t && decide (t.length ≤ 6)).all chkK = true := by decide +kernel
theorem chkK_7 : (Tr.allLv.filter fun t => Tr.can t == t && decide (t.length = 7)).all chkK = true := by decide +kernel
def canL8 : List (List Int) := Tr.allLv.filter fun t => Tr.can t == t && decide (t.length = 8)
theorem chkK_8a : (canL8.take 40).all chkK = true := by decide +kernel
theorem chkK_8b : ((canL8.drop 40).take 40).all chkK = true := by decide +kernel
theorem chkK_8c : (canL8.drop 80).all chkK = true := by decide +kernel
theorem chkK_8 : canL8.all chkK = true := by
  rw [← List.take_append_drop 40 canL8, List.all_append, chkK_8a, ← List.take_append_drop 40 (canL8.drop 40), List.all_append, chkK_8b, List.drop_drop, chkK_8c]; rfl
theorem chkK_tr {t : List Int} (h : Tr.isLv t = true) (hc : Tr.can t = t) : chkK t = true := by
  have hm := Tr.mem_all (Tr.isLv_iff.1 h)
  have hl := (lv_bd h).2
  have he : (Tr.can t == t) = true := by rw [hc]; exact beq_self_eq_true t
  have : t.length ≤ 6 ∨ t.length = 7 ∨ t.length = 8 := by omega
  rcases this with h6 | h7 | h8
  · exact List.all_eq_true.1 chkK_6 t (List.mem_filter.2 ⟨hm, by rw [he, decide_eq_true h6]; rfl⟩)
  · exact List.all_eq_true.1 chkK_7 t (List.mem_filter.2 ⟨hm, by rw [he, decide_eq_true h7]; rfl⟩)
  · exact List.all_eq_true.1 chkK_8 t (List.mem_filter.2 ⟨hm, by rw [he, decide_eq_true h8]; rfl⟩)
theorem eqK_iff {a b : List UInt8 × List UInt8} : eqK a b = true ↔ a = b := by
  unfold eqK
  rw [Bool.and_eq_true, beq_iff_eq, beq_iff_eq, Prod.ext_iff]
/-- a cut of the model is as often among the program's cuts -/
theorem cut_count {t : List Int} (h : Tr.isLv t = true) (hc : Tr.can t = t) {s : Spl} (hs : s ∈ spF 8 t) : ((cntK ((cts (Tr.txt t)).map keyC) (keyS s) : Nat) : Int) = s.2.2 := by
  have h1 := chkK_tr h hc
  unfold chkK at h1
  simp only [Bool.and_eq_true, List.all_eq_true] at h1
  exact of_decide_eq_true (h1.1 (keyS s, s.2.2) (List.mem_map.2 ⟨s, hs, rfl⟩))
/-- a cut of the program is one of the model's -/
theorem cut_model {t : List Int} (h : Tr.isLv t = true) (hc : Tr.can t = t) {c : Ct} (hs : c ∈ cts (Tr.txt t)) : ∃ s ∈ spF 8 t, keyS s = keyC c := by
  have h1 := chkK_tr h hc
  unfold chkK at h1
  simp only [Bool.and_eq_true, List.all_eq_true] at h1
  have h2 := h1.2 (keyC c) (List.mem_map.2 ⟨c, hs, rfl⟩)
  rw [List.any_eq_true] at h2
  obtain ⟨e, he, hk⟩ := h2
  obtain ⟨s, hs, rfl⟩ := List.mem_map.1 he
  exact ⟨s, hs, eqK_iff.1 hk⟩
end Go.Proofs.YtolkbbbbahhfaaaGreat
/-
  The model's way to put a cut into a list of them.
-/
namespace Go.Proofs.YtolkbbbbahhfaaaGreat
open Go.RowKit Fld
set_option linter.unusedVariables false
set_option linter.unusedSimpArgs false
set_option maxRecDepth 100000

theorem info_spl : (Tryz.prog.info? 116).map (fun i => (i.zero, i.size, i.bytes)) = some (some (.agg #[.slice none 0 0, .slice none 0 0, .int .i64 0]), 3, 56) := by kernel_rfl
/-- the cells of a list of cuts -/
def spCs (S : List (Spl × SpAt)) : List Value := (S.map fun e => spC e.1 e.2).flatten
theorem spCs_snoc (S : List (Spl × SpAt)) (e : Spl × SpAt) : spCs (S ++ [e]) = spCs S ++ spC e.1 e.2 := by simp [spCs]
theorem spCs_len (S : List (Spl × SpAt)) : (spCs S).length = S.length * 3 := by
  unfold spCs
  rw [List.length_flatten, List.map_map]
  induction S with
  | nil => rfl
  | cons a r ih => rw [List.map_cons, List.sum_cons, ih, List.length_cons]; simp [spC]; omega
theorem spCs_at {S : List (Spl × SpAt)} {k j : Nat} {e : Spl × SpAt} {v : Value} (h : S[k]? = some e) (hv : (spC e.1 e.2)[j]? = some v) : (spCs S)[k * 3 + j]? = some v := by
  have hj : j < 3 := by have := (List.getElem?_eq_some_iff.1 hv).1; simpa [spC] using this
  induction S generalizing k with
  | nil => simp at h
  | cons a r ih =>
    have e1 : spCs (a :: r) = spC a.1 a.2 ++ spCs r := by simp [spCs]
    have l3 : (spC a.1 a.2).length = 3 := rfl
    cases k with
    | zero =>
      simp only [List.getElem?_cons_zero, Option.some.injEq] at h
      subst h
      rw [e1, Nat.zero_mul, Nat.zero_add, List.getElem?_append_left (by omega)]; exact hv
    | succ k =>
      simp only [List.getElem?_cons_succ] at h
      rw [e1, List.getElem?_append_right (by omega), l3, show (k + 1) * 3 + j - 3 = k * 3 + j by omega]
      exact ih h
/-- a list that a call makes out of cuts that lay before -/
def OutP (W : World) (S : List Spl) (g q cap : Nat) (wr : World) : Prop := ∃ P : List (Spl × SpAt), P.map (·.1) = S ∧ P.length = q ∧ wr.ownsRow W.heap.size 116 3 (.slice (some ⟨g, 0, none⟩) q cap) q (spCs P) ∧ (∀ e ∈ P, IsSp W W.heap.size e.1 e.2)
theorem OutP.len {W wr : World} {S : List Spl} {g q cap : Nat} (h : OutP W S g q cap wr) : S.length = q := by
  obtain ⟨P, e1, e2, _⟩ := h
  rw [← e1, List.length_map]; exact e2
theorem OutP.start (W : World) : OutP W [] W.heap.size 0 0 (W.alloc (.cells #[] 116)) :=
  ⟨[], rfl, rfl, World.ownsRow_lit (base := W.heap.size) (size := 3) (e := 116) W #[] 0 (Nat.le_refl _) (Nat.zero_le _) rfl, fun e he => by cases he⟩
theorem OutP.below {W wr w2 : World} {S : List Spl} {g q cap : Nat} (h : OutP W S g q cap wr) (hb : Below wr.heap.size wr w2) : OutP W S g q cap w2 := by
  obtain ⟨P, e1, e2, h1, h2⟩ := h
  refine ⟨P, e1, e2, ⟨h1.1, ?_⟩, h2⟩
  rcases h1.2 with h | ⟨g', cap', cur, e, hb', hg, r⟩
  · exact .inl h
  · exact .inr ⟨g', cap', cur, e, hb', (hb.block g' (Array.getElem?_eq_some_iff.1 hg).1).trans hg, r⟩
theorem OutP.res {W wr : World} {S : List Spl} {g q cap : Nat} (h : OutP W S g q cap wr) (hb : Below W.heap.size W wr) : ResSp S W (.returned (.slice (some ⟨g, 0, none⟩) q cap)) wr := by
  have hl := h.len
  obtain ⟨P, e1, e2, h1, h2⟩ := h
  have hc : q ≤ cap ∧ cap ≤ maxLen := by
    rcases h1.2 with ⟨hv, _⟩ | ⟨g', cap', cur, e, _, _, h3, h4, _⟩
    · cases hv
    · injection e with _ _ ec; subst ec; exact ⟨h3, h4⟩
  refine ⟨_, cap, by rw [hl], by omega, hc.2, fun k s hs => ?_, hb⟩
  have hk : k < q := by rw [← hl]; exact (List.getElem?_eq_some_iff.1 hs).1
  rw [← e1, List.getElem?_map, Option.map_eq_some_iff] at hs
  obtain ⟨e, he, rfl⟩ := hs
  refine ⟨g, 0, e.2, rfl, (h1.lt g rfl).2, fun j v hv => ?_, ((h2 e (List.mem_of_getElem? he)).below hb (Nat.le_refl _)).more hb.size⟩
  have hj : j < 3 := by have := (List.getElem?_eq_some_iff.1 hv).1; simpa [spC] using this
  rw [Nat.zero_add]
  exact (h1.cellAt (k * 3 + j) (by omega)).trans (spCs_at he hv)
theorem OutP.push {W w4 : World} {S : List Spl} {q g4 cap4 : Nat} {s : Spl} {p : SpAt} (hP : ∃ P : List (Spl × SpAt), P.map (·.1) = S ∧ P.length = q ∧ w4.ownsRow W.heap.size 116 3 (.slice (some ⟨g4, 0, none⟩) (q + 1) cap4) (q + 1) (spCs P ++ spC s p) ∧ (∀ e ∈ P, IsSp W W.heap.size e.1 e.2)) (hs : IsSp W W.heap.size s p) : OutP W (S ++ [s]) g4 (q + 1) cap4 w4 := by
  obtain ⟨P, e1, e2, h1, h2⟩ := hP
  refine ⟨P ++ [(s, p)], by simp [e1], by simp [e2], by rw [spCs_snoc]; exact h1, fun e he => ?_⟩
  rw [List.mem_append, List.mem_singleton] at he
  rcases he with he | rfl
  · exact h2 e he
  · exact hs
theorem putGo_stop (c : Spl) (S : List Spl) : putGo c true S = S := by unfold putGo; rfl
theorem putGo_lt {c e : Spl} {S : List Spl} (h : ordSp c e < 0) : putGo c false (e :: S) = c :: e :: putGo c true S := by rw [putGo_stop, putGo, if_pos h]
theorem putGo_eq {c e : Spl} {S : List Spl} (h : ordSp c e = 0) : putGo c false (e :: S) = (e.1, e.2.1, e.2.2 + c.2.2) :: putGo c true S := by rw [putGo_stop, putGo, if_neg (by omega), if_pos h]
theorem putGo_gt {c e : Spl} {S : List Spl} (h1 : ¬ ordSp c e < 0) (h2 : ordSp c e ≠ 0) : putGo c false (e :: S) = e :: putGo c false S := by rw [putGo, if_neg h1, if_neg h2]
theorem putGo_end (c : Spl) : putGo c false [] = [c] := by rw [putGo]
theorem drop_at' {α : Type} {L : List α} {k : Nat} {x : α} (h : L[k]? = some x) : L.drop k = x :: L.drop (k + 1) := by
  obtain ⟨hlt, e⟩ := List.getElem?_eq_some_iff.1 h
  rw [List.drop_eq_getElem_cons hlt, e]
set_option maxHeartbeats 8000000 in
theorem l05Put_any (A : Option Addr) (n c : Nat) (S : List Spl) (s : Spl) (p : SpAt) (w : World) {m : Nat} (hl : S.length = n) (hn : n ≤ 100000) (hS : ∀ e ∈ S, OkSp m e) (hsum : sumC S + s.2.2 ≤ 1000000) (ks : OkSp m s) (hm : m ≤ 8) (h : Spls w w.heap.size A S) (hs : IsSp w w.heap.size s p) :
    Calls Tryz.prog 117 #[.slice A n c, .agg #[.slice p.A s.1.length p.c, .slice p.A' s.2.1.length p.c', .int .i64 s.2.2]] w (ResSp (putSp S s) w) := by
  obtain ⟨i0, hi, hz0, hz1, hz2⟩ := info_parts info_spl
  have HL := Lib.hid hl
  have HS := Lib.hid hS
  have HSM := Lib.hid hsum
  have HK := Lib.hid ks
  have HI := Lib.hid hs
  have HPG : Hid (putSp S s = [] ++ putGo s false (S.drop 0)) := rfl
  obtain ⟨v1, hv1⟩ : ∃ v, v = Value.slice p.A s.1.length p.c := ⟨_, rfl⟩
  obtain ⟨v2, hv2⟩ : ∃ v, v = Value.slice p.A' s.2.1.length p.c' := ⟨_, rfl⟩
  obtain ⟨x, hx⟩ : ∃ x, x = s.2.2 := ⟨_, rfl⟩
  have HSC : Hid (spC s p = [v1, v2, .int .i64 x]) := by rw [Hid, hv1, hv2, hx]; rfl
  have HSV : Hid (∀ (e : Spl) (q : SpAt) (B' : Nat) (W : World), OkSp m e → w.heap.size ≤ W.heap.size → Below w.heap.size w W → B' ≤ W.heap.size → IsSp W B' e q → Calls Tryz.prog 143 #[.agg #[v1, v2, .int .i64 x], .agg #[.slice q.A e.1.length q.c, .slice q.A' e.2.1.length q.c', .int .i64 e.2.2]] W fun e' w' => e' = .returned (.int .i64 (ordSp s e)) ∧ Below W.heap.size W w') := fun e q B' W ke hW hb hB' he => by
    rw [hv1, hv2, hx]
    exact l05Order_any s e p q w.heap.size B' W ks ke hm hm hW hB' (hs.below hb (Nat.le_refl _)) he
  rw [← hv1, ← hv2, ← hx]
  have HV : Hid (v1.oneCell' = true ∧ v2.oneCell' = true) := by rw [hv1, hv2]; exact ⟨rfl, rfl⟩
  have hx1 : 1 ≤ x ∧ x ≤ 1000000 := by rw [hx]; have := ks.2.2.2; have := len_sumC hS; omega
  clear hl hS hsum ks hs hv1 hv2 hx
  obtain ⟨W0, hW0⟩ : ∃ W0 : World, W0 = w.alloc (.cells #[v1, v2, .int .i64 x] 116) := ⟨_, rfl⟩
  have b0 : Below w.heap.size w W0 := by rw [hW0]; exact (Below.refl _ _).alloc (Nat.le_refl _) _
  have z0 : W0.heap.size = w.heap.size + 1 := by rw [hW0]; simp
  obtain ⟨f0, f1, f2⟩ : W0.cell? ⟨w.heap.size, 0, none⟩ = some v1 ∧ W0.cell? ⟨w.heap.size, 1, none⟩ = some v2 ∧ W0.cell? ⟨w.heap.size, 2, none⟩ = some (.int .i64 x) := by
    rw [hW0]; exact range3 (heap_alloc_new w _)
  have HBX : Hid (∀ V, Below W0.heap.size W0 V → V.cell? ⟨w.heap.size, 0, none⟩ = some v1 ∧ V.cell? ⟨w.heap.size, 1, none⟩ = some v2 ∧ V.cell? ⟨w.heap.size, 2, none⟩ = some (.int .i64 x)) := fun V hb => ⟨(hb.cell (p := ⟨w.heap.size, 0, none⟩) (by show w.heap.size < W0.heap.size; omega)).trans f0, (hb.cell (p := ⟨w.heap.size, 1, none⟩) (by show w.heap.size < W0.heap.size; omega)).trans f1, (hb.cell (p := ⟨w.heap.size, 2, none⟩) (by show w.heap.size < W0.heap.size; omega)).trans f2⟩
  have HI0 : Hid (IsSp W0 W0.heap.size s p) := (HI.out.below b0 (Nat.le_refl _)).more (by omega)
  have HH0 : Hid (Spls W0 w.heap.size A S) := h.below b0 (Nat.le_refl _)
  have HB0 := Lib.hid b0
  have HLE : Hid (∀ (O T : List Spl), putSp S s = O ++ T → O.length ≤ n + 1) := fun O T e => by
    have h1 : ∀ S : List Spl, (putGo s false S).length ≤ S.length + 1 := fun S => by
      induction S with
      | nil => simp [putGo]
      | cons a r ih =>
        unfold putGo
        split
        · simp
        · split
          · simp
          · simp only [List.length_cons]; omega
    have h2 := h1 S
    rw [show putGo s false S = putSp S s from rfl, e, List.length_append, HL.out] at h2
    omega
  have HS0 := OutP.start W0
  have HO0 := Lib.hid HS0
  clear f0 f1 f2 b0 HS0 h HI
  go_enter Tryz.func117, Tryz.ntmps117
  go_wp2_with fail
  rw [← hW0]
  obtain ⟨g0, hg0⟩ : ∃ g, g = w.heap.size + 1 := ⟨_, rfl⟩
  rw [z0] at HO0
  rw [← hg0] at HO0 z0 ⊢
  have hlt0 : w.heap.size < W0.heap.size := by omega
  clear hW0 z0 hg0
  go_loopw [5, 6, 7] (fun v d i wr => ∃ (k g q cap : Nat) (done : Bool) (O : List Spl), k ≤ n ∧ v = .slice (some ⟨g, 0, none⟩) q cap ∧ d = .bool done ∧ i = .int .i64 k ∧ Hid (OutP W0 O g q cap wr) ∧ Hid (putSp S s = O ++ putGo s done (S.drop k)) ∧ Hid (Below W0.heap.size W0 wr)) (fun _ _ i _ => n - (intOf i).toNat)
  case atStart => exact ⟨0, g0, 0, 0, false, [], by omega, rfl, rfl, rfl, HO0, HPG, (Below.refl _ _).alloc (Nat.le_refl _) _⟩
  case round =>
    obtain ⟨k, g, q, cap, done, O, hk, rfl, rfl, rfl, HO, HG, HB⟩ := hrel
    have hsz := HB.out.size
    have hql : q ≤ n + 1 := by have := HLE.out O _ HG.out; rw [HO.out.len] at this; exact this
    by_cases hlt : k < n
    · obtain ⟨e, he⟩ := at_lt (show k < S.length by rw [HL.out]; exact hlt)
      obtain ⟨b, o, pe, rfl, hbB, hrg, hie⟩ := HH0.out k e he
      have hke := HS.out e (List.mem_of_getElem? he)
      have hdr := drop_at' he
      have hbe : ∀ V, Below W0.heap.size W0 V → V.cell? ⟨b, o + k * 3, none⟩ = some (.slice pe.A e.1.length pe.c) ∧ V.cell? ⟨b, o + k * 3 + 1, none⟩ = some (.slice pe.A' e.2.1.length pe.c') ∧ V.cell? ⟨b, o + k * 3 + 2, none⟩ = some (.int .i64 e.2.2) := fun V hb =>
        have hr := range_below hrg hb (show b < W0.heap.size by omega)
        ⟨hr 0 _ rfl, hr 1 _ rfl, hr 2 _ rfl⟩
      have HBE := Lib.hid hbe
      have HIE : Hid (IsSp W0 W0.heap.size e pe) := hie.more (by omega)
      have HDR := Lib.hid hdr
      have HE := Lib.hid he
      have HKE := Lib.hid hke
      have HHIE := Lib.hid hie
      have hy63 : 0 ≤ e.2.2 ∧ e.2.2 ≤ 1000000 := by
        have h1 := HSM.out
        have h2 := mem_sumC HS.out (List.mem_of_getElem? he)
        have h3 := hke.2.2.2
        have h4 := HK.out.2.2.2
        omega
      have HY := Lib.hid hy63
      clear hbe hdr he hke hie hrg hy63
      obtain ⟨c0, c1, c2⟩ := HBE.out _ HB.out
      obtain ⟨z, hz⟩ : ∃ z, z = ordSp s e := ⟨_, rfl⟩
      have HV1 : Hid (∀ u ∈ [v1, v2, .int .i64 x], u.oneCell' = true) := fun u hu => by
        simp only [List.mem_cons, List.not_mem_nil, or_false] at hu
        rcases hu with h | h | h
        · rw [h]; exact HV.out.1
        · rw [h]; exact HV.out.2
        · rw [h]; rfl
      have T1 := fun d => HSV.out e pe w.heap.size (wr.drewN d) HKE.out (by have := HB0.out.size; show _ ≤ wr.heap.size; omega) (below_drewN (HB0.out.trans (HB.out.mono (by omega))) d) (by have := HB0.out.size; show _ ≤ wr.heap.size; omega) ((HHIE.out.below HB.out (by omega)).drewN d)
      obtain ⟨n1, hn1⟩ : ∃ x, x = e.1.length := ⟨_, rfl⟩
      obtain ⟨n2, hn2⟩ : ∃ x, x = e.2.1.length := ⟨_, rfl⟩
      obtain ⟨y, hy⟩ : ∃ x, x = e.2.2 := ⟨_, rfl⟩
      have HSE : Hid (∀ z : Int, spC (e.1, e.2.1, z) pe = [.slice pe.A n1 pe.c, .slice pe.A' n2 pe.c', .int .i64 z]) := fun z => by rw [hn1, hn2]; rfl
      have HYE := Lib.hid hy
      have HZE := Lib.hid hz
      have HKC : Hid (∀ V, Below W0.heap.size W0 V → (V.cell? ⟨w.heap.size, 0, none⟩ = some v1 ∧ V.cell? ⟨w.heap.size, 1, none⟩ = some v2 ∧ V.cell? ⟨w.heap.size, 2, none⟩ = some (.int .i64 x)) ∧ V.cell? ⟨b, o + k * 3, none⟩ = some (.slice pe.A n1 pe.c) ∧ V.cell? ⟨b, o + k * 3 + 1, none⟩ = some (.slice pe.A' n2 pe.c') ∧ V.cell? ⟨b, o + k * 3 + 2, none⟩ = some (.int .i64 y)) := fun V hb => ⟨HBX.out V hb, by rw [hn1, hn2, hy]; exact HBE.out V hb⟩
      simp only [← hn1, ← hn2, ← hy, ← hz] at T1
      rw [← hn1] at c0
      rw [← hn2] at c1
      rw [← hy] at c2
      clear hn1 hn2 hy hz
      cases done
      · clear c0 c1 c2
        go_wp2_with fail
        go_region_held3 (fun V => (V.cell? ⟨w.heap.size, 0, none⟩ = some v1 ∧ V.cell? ⟨w.heap.size, 1, none⟩ = some v2 ∧ V.cell? ⟨w.heap.size, 2, none⟩ = some (.int .i64 x)) ∧ V.cell? ⟨b, o + k * 3, none⟩ = some (.slice pe.A n1 pe.c) ∧ V.cell? ⟨b, o + k * 3 + 1, none⟩ = some (.slice pe.A' n2 pe.c') ∧ V.cell? ⟨b, o + k * 3 + 2, none⟩ = some (.int .i64 y))
          (first | exact HKC.out _ HB.out.drew | exact HKC.out _ (below_drewN HB.out _) | exact HKC.out _ (HB.out.trans ((below_undrew' (a := 1) bel3).mono hsz)))
          (first
            | (go_at_call 143; refine (T1 _).mono ?_; rintro e' w3 ⟨rfl, bel3⟩))
        clear T1
        have B3 : Hid (Below W0.heap.size W0 w3) := HB.out.trans ((below_undrew' (a := 1) bel3).mono hsz)
        have S3 : wr.heap.size ≤ w3.heap.size := (below_undrew' (a := 1) bel3).size
        have HO3 : Hid (OutP W0 O g q cap w3) := HO.out.below (below_undrew' (a := 1) bel3)
        obtain ⟨P, e1, e2, own, hP⟩ := HO3.out
        have E1 := Lib.hid e1
        have E2 := Lib.hid e2
        have HPP := Lib.hid hP
        have HOWN := Lib.hid own
        have hlo := fun q' hq => (own.lt q' hq).1
        have HLO := Lib.hid hlo
        clear e1 e2 hP hlo
        obtain ⟨⟨f0, f1, f2⟩, c0, c1, c2⟩ := HKC.out _ B3.out
        clear bel3
        rcases Int.lt_trichotomy z 0 with hz | hz | hz
        · have t1 : decide (z < 0) = true := decide_eq_true hz
          have t2 : (z == 0) = false := beq_f (by omega)
          have HPS : Hid (putSp S s = ((O ++ [s]) ++ [e]) ++ putGo s true (S.drop (k + 1))) := by
            rw [Hid, HG.out, HDR.out, putGo_lt (by rw [← HZE.out]; exact hz)]; simp
          clear hz
          go_wp2_with (first | (at_builtin; refine wpList_append_lies _ rfl (.tmp 27) (.tmp 29) 113 rfl W0.heap.size 116 i0 _ 3 56 Tryz.underlying113 hi hz0 hz1 hz2 rfl (by omega) (.slice (some ⟨g, 0, none⟩) q cap) q (spCs P) rfl (own.alloc _) ⟨w3.heap.size, 0, none⟩ 1 1 [v1, v2, .int .i64 x] rfl rfl (World.news_of_block (cs := #[v1, v2, .int .i64 x]) (heap_alloc_new _ _)) HV1.out (by omega) (by simp only [maxLen]; omega) (by omega) (by simp; omega) (w3.heap.size + 1) (by simp) ?_; intro g4 cap4 w4 hown4 hgrow4 hat4 hlt4; have GB4 : Hid (Below W0.heap.size W0 w4) := (B3.out.alloc (by omega) _).grown hgrow4 (by simp; omega) HLO.out; obtain ⟨-, d0, d1, d2⟩ := HKC.out _ GB4.out; have hs4 : w3.heap.size + 1 ≤ w4.heap.size := by have := hgrow4.size; simp at this; omega) | (at_builtin; refine wpList_append_lies _ rfl (.tmp 43) (.tmp 45) 113 rfl W0.heap.size 116 i0 _ 3 56 Tryz.underlying113 hi hz0 hz1 hz2 rfl (by omega) (.slice (some ⟨g4, 0, none⟩) (q + 1) cap4) (q + 1) (spCs P ++ [v1, v2, .int .i64 x]) rfl ((hown4.alloc _).alloc _) ⟨w4.heap.size + 1, 0, none⟩ 1 1 [.slice pe.A n1 pe.c, .slice pe.A' n2 pe.c', .int .i64 y] rfl rfl (World.news_of_block (cs := #[.slice pe.A n1 pe.c, .slice pe.A' n2 pe.c', .int .i64 y]) (heap_alloc2_new _ _ _)) (by simp [Value.oneCell']) (by omega) (by simp only [maxLen]; omega) (by omega) (by simp; omega) (w4.heap.size + 2) (by simp) ?_; intro g5 cap5 w5 hown5 hgrow5 hat5 hlt5))
          have GB5 : Hid (Below W0.heap.size W0 w5) := ((GB4.out.alloc (by omega) _).alloc (by simp; omega) _).grown hgrow5 (by simp; omega) (fun q' hq => (hown4.lt q' hq).1)
          have GO5 : Hid (OutP W0 ((O ++ [s]) ++ [e]) g5 (q + 1 + 1) cap5 w5) := OutP.push ⟨P ++ [(s, p)], by simp [E1.out], by simp [E2.out], by rw [spCs_snoc, show spC s p = _ from HSC.out]; have h9 := HSE.out y; rw [HYE.out] at h9; rw [show spC e pe = _ from h9, ← HYE.out]; exact hown5, fun e' he' => by
            rcases List.mem_append.1 he' with h | h
            · exact HPP.out _ h
            · rw [List.mem_singleton] at h; subst h; exact HI0.out⟩ HIE.out
          clear hown4 hgrow4 hat4 own c0 c1 c2 f0 f1 f2 d0 d1 d2 hown5 hgrow5 hat5
          go_wp2
          go_roundw
          case rel => exact ⟨k + 1, g5, q + 1 + 1, cap5, true, (O ++ [s]) ++ [e], by omega, rfl, rfl, by go_num, GO5.out, HPS.out, GB5.out⟩
          case measure => simp [intOf]; omega
        · have t1 : decide (z < 0) = false := decide_eq_false (by omega)
          have t2 : (z == 0) = true := beq_t hz
          have HPS : Hid (putSp S s = (O ++ [(e.1, e.2.1, e.2.2 + s.2.2)]) ++ putGo s true (S.drop (k + 1))) := by
            rw [Hid, HG.out, HDR.out, putGo_eq (by rw [← HZE.out]; exact hz)]; simp
          have hyb : 0 ≤ y ∧ y ≤ 1000000 := by rw [HYE.out]; exact HY.out
          have k2 := (HKC.out _ (B3.out.alloc (by omega) (.cells #[.slice pe.A n1 pe.c, .slice pe.A' n2 pe.c', .int .i64 y] 116))).1.2.2
          have HXS : Hid (x = s.2.2) := by have h9 := HSC.out; simp only [spC, List.cons.injEq, Value.int.injEq, and_true, true_and] at h9; exact h9.2.2.symm
          clear hz
          go_wp2_with (at_builtin; refine wpList_append_lies _ rfl (.tmp 43) (.tmp 45) 113 rfl W0.heap.size 116 i0 _ 3 56 Tryz.underlying113 hi hz0 hz1 hz2 rfl (by omega) (.slice (some ⟨g, 0, none⟩) q cap) q (spCs P) rfl ((own.alloc _).alloc _) ⟨w3.heap.size + 1, 0, none⟩ 1 1 [.slice pe.A n1 pe.c, .slice pe.A' n2 pe.c', .int .i64 (y + x)] rfl rfl (World.news_of_block (cs := #[.slice pe.A n1 pe.c, .slice pe.A' n2 pe.c', .int .i64 (y + x)]) (heap_alloc2_new _ _ _)) (by simp [Value.oneCell']) (by omega) (by simp only [maxLen]; omega) (by omega) (by simp; omega) (w3.heap.size + 2) (by simp) ?_; intro g4 cap4 w4 hown4 hgrow4 hat4 hlt4)
          have GB4 : Hid (Below W0.heap.size W0 w4) := ((B3.out.alloc (by omega) _).alloc (by simp; omega) _).grown hgrow4 (by simp; omega) HLO.out
          have GO4 : Hid (OutP W0 (O ++ [(e.1, e.2.1, e.2.2 + s.2.2)]) g4 (q + 1) cap4 w4) := OutP.push ⟨P, E1.out, E2.out, by rw [show spC (e.1, e.2.1, e.2.2 + s.2.2) pe = _ from HSE.out _, ← HYE.out, ← HXS.out]; exact hown4, HPP.out⟩ (HIE.out.count _)
          clear hown4 hgrow4 hat4 own c0 c1 c2 f0 f1 f2 k2
          go_wp2
          go_roundw
          case rel => exact ⟨k + 1, g4, q + 1, cap4, true, O ++ [(e.1, e.2.1, e.2.2 + s.2.2)], by omega, rfl, rfl, by go_num, GO4.out, HPS.out, GB4.out⟩
          case measure => simp [intOf]; omega
        · have t1 : decide (z < 0) = false := decide_eq_false (by omega)
          have t2 : (z == 0) = false := beq_f (by omega)
          have HPS : Hid (putSp S s = (O ++ [e]) ++ putGo s false (S.drop (k + 1))) := by
            rw [Hid, HG.out, HDR.out, putGo_gt (by rw [← HZE.out]; omega) (by rw [← HZE.out]; omega)]; simp
          clear hz
          go_wp2_with (at_builtin; refine wpList_append_lies _ rfl (.tmp 43) (.tmp 45) 113 rfl W0.heap.size 116 i0 _ 3 56 Tryz.underlying113 hi hz0 hz1 hz2 rfl (by omega) (.slice (some ⟨g, 0, none⟩) q cap) q (spCs P) rfl ((own.alloc _).alloc _) ⟨w3.heap.size + 1, 0, none⟩ 1 1 [.slice pe.A n1 pe.c, .slice pe.A' n2 pe.c', .int .i64 y] rfl rfl (World.news_of_block (cs := #[.slice pe.A n1 pe.c, .slice pe.A' n2 pe.c', .int .i64 y]) (heap_alloc2_new _ _ _)) (by simp [Value.oneCell']) (by omega) (by simp only [maxLen]; omega) (by omega) (by simp; omega) (w3.heap.size + 2) (by simp) ?_; intro g4 cap4 w4 hown4 hgrow4 hat4 hlt4)
          have GB4 : Hid (Below W0.heap.size W0 w4) := ((B3.out.alloc (by omega) _).alloc (by simp; omega) _).grown hgrow4 (by simp; omega) HLO.out
          have GO4 : Hid (OutP W0 (O ++ [e]) g4 (q + 1) cap4 w4) := OutP.push ⟨P, E1.out, E2.out, by have h9 := HSE.out y; rw [HYE.out] at h9; rw [show spC e pe = _ from h9, ← HYE.out]; exact hown4, HPP.out⟩ HIE.out
          clear hown4 hgrow4 hat4 own c0 c1 c2 f0 f1 f2
          go_wp2
          go_roundw
          case rel => exact ⟨k + 1, g4, q + 1, cap4, false, O ++ [e], by omega, rfl, rfl, by go_num, GO4.out, HPS.out, GB4.out⟩
          case measure => simp [intOf]; omega
      · clear T1
        obtain ⟨P, e1, e2, own, hP⟩ := HO.out
        have E1 := Lib.hid e1
        have E2 := Lib.hid e2
        have HPP := Lib.hid hP
        have HOWN := Lib.hid own
        have hlo := fun q' hq => (own.lt q' hq).1
        have HLO := Lib.hid hlo
        clear e1 e2 hP hlo
        have HPS : Hid (putSp S s = (O ++ [e]) ++ putGo s true (S.drop (k + 1))) := by
          rw [Hid, HG.out, HDR.out, putGo_stop, putGo_stop]; simp
        go_wp2_with (at_builtin; refine wpList_append_lies _ rfl (.tmp 43) (.tmp 45) 113 rfl W0.heap.size 116 i0 _ 3 56 Tryz.underlying113 hi hz0 hz1 hz2 rfl (by omega) (.slice (some ⟨g, 0, none⟩) q cap) q (spCs P) rfl ((own.alloc _).alloc _) ⟨wr.heap.size + 1, 0, none⟩ 1 1 [.slice pe.A n1 pe.c, .slice pe.A' n2 pe.c', .int .i64 y] rfl rfl (World.news_of_block (cs := #[.slice pe.A n1 pe.c, .slice pe.A' n2 pe.c', .int .i64 y]) (heap_alloc2_new _ _ _)) (by simp [Value.oneCell']) (by omega) (by simp only [maxLen]; omega) (by omega) (by simp; omega) (wr.heap.size + 2) (by simp) ?_; intro g2 cap2 w2 hown2 hgrow2 hat2 hlt2)
        have hs2 : wr.heap.size ≤ w2.heap.size := by have := hgrow2.size; simp at this; omega
        have GB : Hid (Below W0.heap.size W0 w2) := ((HB.out.alloc hsz _).alloc (by simp; omega) _).grown hgrow2 (by simp; omega) HLO.out
        have GO : Hid (OutP W0 (O ++ [e]) g2 (q + 1) cap2 w2) := OutP.push ⟨P, E1.out, E2.out, by have h9 := HSE.out y; rw [HYE.out] at h9; rw [show spC e pe = _ from h9, ← HYE.out]; exact hown2, HPP.out⟩ HIE.out
        clear hown2 hgrow2 hat2 own
        go_wp2
        go_roundw
        case rel => exact ⟨k + 1, g2, q + 1, cap2, true, O ++ [e], by omega, rfl, rfl, by go_num, GO.out, HPS.out, GB.out⟩
        case measure => simp [intOf]; omega
    · have HV1 : Hid (∀ u ∈ [v1, v2, .int .i64 x], u.oneCell' = true) := fun u hu => by
        simp only [List.mem_cons, List.not_mem_nil, or_false] at hu
        rcases hu with h | h | h
        · rw [h]; exact HV.out.1
        · rw [h]; exact HV.out.2
        · rw [h]; rfl
      obtain rfl : k = n := by omega
      have HDN : Hid (S.drop k = []) := List.drop_eq_nil_of_le (by rw [HL.out]; exact Nat.le_refl _)
      cases done
      · obtain ⟨P, e1, e2, own, hP⟩ := HO.out
        have E1 := Lib.hid e1
        have E2 := Lib.hid e2
        have HPP := Lib.hid hP
        have hlo := fun q' hq => (own.lt q' hq).1
        have HLO := Lib.hid hlo
        have HPS : Hid (putSp S s = O ++ [s]) := by rw [Hid, HG.out, HDN.out, putGo_end]
        clear e1 e2 hP hlo
        obtain ⟨f0, f1, f2⟩ := HBX.out _ HB.out
        go_wp2_with (at_builtin; refine wpList_append_lies _ rfl (.tmp 49) (.tmp 51) 113 rfl W0.heap.size 116 i0 _ 3 56 Tryz.underlying113 hi hz0 hz1 hz2 rfl (by omega) (.slice (some ⟨g, 0, none⟩) q cap) q (spCs P) rfl (own.alloc _) ⟨wr.heap.size, 0, none⟩ 1 1 [v1, v2, .int .i64 x] rfl rfl (World.news_of_block (cs := #[v1, v2, .int .i64 x]) (heap_alloc_new _ _)) HV1.out (by omega) (by simp only [maxLen]; omega) (by omega) (by simp; omega) (wr.heap.size + 1) (by simp) ?_; intro g4 cap4 w4 hown4 hgrow4 hat4 hlt4)
        have GB4 : Hid (Below W0.heap.size W0 w4) := (HB.out.alloc (by omega) _).grown hgrow4 (by simp; omega) HLO.out
        have GO4 : Hid (OutP W0 (O ++ [s]) g4 (q + 1) cap4 w4) := OutP.push ⟨P, E1.out, E2.out, by rw [show spC s p = _ from HSC.out]; exact hown4, HPP.out⟩ HI0.out
        clear hown4 hgrow4 hat4 own f0 f1 f2
        go_wp2
        go_ret
        rw [HPS.out]
        obtain ⟨A', c', hr⟩ := GO4.out.res GB4.out
        rw [GO4.out.len] at hr
        exact ⟨A', c', by rw [GO4.out.len]; exact hr.1, by rw [GO4.out.len]; exact hr.2.1, hr.2.2.1, hr.2.2.2.1, HB0.out.trans (hr.2.2.2.2.mono HB0.out.size)⟩
      · have HPS : Hid (putSp S s = O) := by rw [Hid, HG.out, HDN.out, putGo_stop, List.append_nil]
        go_wp2
        go_ret
        rw [HPS.out]
        obtain ⟨A', c', hr⟩ := HO.out.res HB.out
        rw [HO.out.len] at hr
        exact ⟨A', c', by rw [HO.out.len]; exact hr.1, by rw [HO.out.len]; exact hr.2.1, hr.2.2.1, hr.2.2.2.1, HB0.out.trans (hr.2.2.2.2.mono HB0.out.size)⟩
end Go.Proofs.YtolkbbbbahhfaaaGreat
/-
  The model's products of lists of cuts.
-/
namespace Go.Proofs.YtolkbbbbahhfaaaGreat
open Go.RowKit Fld
set_option linter.unusedVariables false
set_option linter.unusedSimpArgs false
set_option maxRecDepth 100000

theorem sumC_nonneg {m : Nat} {S : List Spl} (h : ∀ s ∈ S, OkSp m s) : 0 ≤ sumC S := by have := len_sumC h; omega
theorem sumC_take {m : Nat} {S : List Spl} (h : ∀ s ∈ S, OkSp m s) (k : Nat) : sumC (S.take k) ≤ sumC S := by
  have e : sumC S = sumC (S.take k) + sumC (S.drop k) := by rw [← sumC_app, List.take_append_drop]
  have := sumC_nonneg (m := m) (S := S.drop k) (fun s hs => h s (List.mem_of_mem_drop hs))
  omega
theorem take_snoc {α : Type} {L : List α} {k : Nat} {x : α} (h : L[k]? = some x) : L.take (k + 1) = L.take k ++ [x] := by rw [List.take_add_one, h, Option.toList_some]
theorem rowS_snoc (a b : Spl) (B out : List Spl) : rowS a (B ++ [b]) out = putSp (rowS a B out) (mulSp a b) := by unfold rowS; rw [List.foldl_append, List.foldl_cons, List.foldl_nil]
theorem foldS_snoc (a : Spl) (A B out : List Spl) : (A ++ [a]).foldl (fun out a => rowS a B out) out = rowS a B (A.foldl (fun out a => rowS a B out) out) := by rw [List.foldl_append, List.foldl_cons, List.foldl_nil]
/-- what is put is never more than the whole product -/
theorem prodSp_le {m n i k : Nat} {A B : List Spl} {a b : Spl} (hA : ∀ s ∈ A, OkSp m s) (hB : ∀ s ∈ B, OkSp n s) (ha : A[i]? = some a) (hb : B[k]? = some b) : sumC (rowS a (B.take k) ((A.take i).foldl (fun out a => rowS a B out) [])) + (mulSp a b).2.2 ≤ sumC A * sumC B := by
  rw [rowS_sum, foldS_sum, show sumC ([] : List Spl) = 0 from rfl]
  have h1 := sumC_take hA (i + 1)
  have h2 := sumC_take hB (k + 1)
  rw [take_snoc ha, sumC_app] at h1
  rw [take_snoc hb, sumC_app] at h2
  have e1 : sumC [a] = a.2.2 := by simp [sumC]
  have e2 : sumC [b] = b.2.2 := by simp [sumC]
  rw [e1] at h1
  rw [e2] at h2
  have g1 := (hA a (List.mem_of_getElem? ha)).2.2.2
  have g3 := sumC_nonneg hB
  have h3 := Int.mul_le_mul_of_nonneg_right h1 g3
  have h4 := Int.mul_le_mul_of_nonneg_left h2 (show 0 ≤ a.2.2 by omega)
  rw [Int.add_mul] at h3
  rw [Int.mul_add] at h4
  show 0 + _ + _ + a.2.2 * b.2.2 ≤ _
  omega
theorem rowS_okp {m n i k : Nat} {A B : List Spl} {a : Spl} (hA : ∀ s ∈ A, OkSp m s) (hB : ∀ s ∈ B, OkSp n s) (ha : A[i]? = some a) : ∀ s ∈ rowS a (B.take k) ((A.take i).foldl (fun out a => rowS a B out) []), OkSp (m + n) s :=
  rowS_ok (hA a (List.mem_of_getElem? ha)) (fun s hs => hB s (List.mem_of_mem_take hs)) (foldS_ok hB (fun s hs => hA s (List.mem_of_mem_take hs)) (fun s hs => by cases hs))
theorem okSp_len {m : Nat} {s : Spl} (h : OkSp m s) : s.1.length + s.2.1.length ≤ m :=
  have h1 := len_total (f := s.1) (fun r hr => (lv_bd (h.1 r hr)).1)
  have h2 := len_total (f := s.2.1) (fun r hr => (lv_bd (h.2.1 r hr)).1)
  have h3 := h.2.2.1
  by omega
/-- a list of cuts that a call has made so far -/
def BldS (W : World) (S : List Spl) (v : Value) (wr : World) : Prop := ∃ A c, v = .slice A S.length c ∧ S.length ≤ c ∧ c ≤ maxLen ∧ Spls wr wr.heap.size A S ∧ Below W.heap.size W wr
theorem BldS.start (W : World) : BldS W [] (.slice (some ⟨W.heap.size, 0, none⟩) 0 0) (W.alloc (.cells #[] 116)) := ⟨_, 0, rfl, Nat.le_refl _, Nat.zero_le _, fun k s hs => (by simp at hs), (Below.refl _ _).alloc (Nat.le_refl _) _⟩
theorem BldS.next {W wr w2 : World} {S T : List Spl} {v : Value} {e : Ending} (h : Below W.heap.size W wr) (hr : ResSp T wr e w2) : ∃ v2, e = .returned v2 ∧ BldS W T v2 w2 := by
  obtain ⟨A, c, e1, h1, h2, h3, h4⟩ := hr
  exact ⟨_, e1, A, c, rfl, h1, h2, h3, h.trans (h4.mono h.size)⟩
/-- what l03Times hands back -/
theorem times_out (A A' : Option Addr) (c c' B B' : Nat) (f g : List (List Int)) (w : World) (h8 : f.length + g.length ≤ 8) (ht : f.length + total f ≤ 100) (hlv : ∀ r ∈ f ++ g, Tr.isLv r = true) (hB : B ≤ w.heap.size) (hB' : B' ≤ w.heap.size) (h : Mat w B A f) (h' : Mat w B' A' g) (hg : g.length ≤ c') (hA : A' = none → c' = 0) :
    Calls Tryz.prog 162 #[.slice A f.length c, .slice A' g.length c'] w fun e w' => ∃ b o cap, e = .returned (.slice (some ⟨b, o, none⟩) (Tr.sortL (f ++ g)).length cap) ∧ (Tr.sortL (f ++ g)).length ≤ cap ∧ Mat w' w'.heap.size (some ⟨b, o, none⟩) (Tr.sortL (f ++ g)) ∧ Below w.heap.size w w' := by
  refine (l03Times_any A A' f.length g.length c c' B B' f g w rfl rfl h8 (by omega) hlv hB hB' h h' (fun e => ⟨by have := hA e; omega, hA e⟩)).mono ?_
  rintro e w' ⟨b, o, cap, rfl, h1, h2, h3⟩
  exact ⟨b, o, cap, rfl, h1, h2.mat, h3⟩
set_option maxHeartbeats 8000000 in
theorem l05Times_any (Aa Ab : Option Addr) (na ca nb cb : Nat) (SA SB : List Spl) (w : World) {m n : Nat} (hla : SA.length = na) (hlb : SB.length = nb) (hna : na ≤ 100000) (hnb : nb ≤ 100000) (hA : ∀ s ∈ SA, OkSp m s) (hB : ∀ s ∈ SB, OkSp n s) (hmn : m + n ≤ 8) (hsum : sumC SA * sumC SB ≤ 100000) (h : Spls w w.heap.size Aa SA) (h' : Spls w w.heap.size Ab SB) :
    Calls Tryz.prog 141 #[.slice Aa na ca, .slice Ab nb cb] w (ResSp (timesS SA SB) w) := by
  have HLA := Lib.hid hla
  have HLB := Lib.hid hlb
  have HOA := Lib.hid hA
  have HOB := Lib.hid hB
  have HSM := Lib.hid hsum
  have HSA := Lib.hid h
  have HSB := Lib.hid h'
  clear hla hlb hA hB hsum h h'
  go_enter Tryz.func141, Tryz.ntmps141
  go_wp2_with fail
  go_loopw [5, 6] (fun v i wr => ∃ (k : Nat), k ≤ na ∧ i = .int .i64 k ∧ Hid (BldS w ((SA.take k).foldl (fun out a => rowS a SB out) []) v wr)) (fun _ i _ => na - (intOf i).toNat)
  case atStart => exact ⟨0, by omega, rfl, BldS.start w⟩
  case round =>
    obtain ⟨i, hi, rfl, HBL⟩ := hrel
    by_cases hlt : i < na
    · obtain ⟨a, ha⟩ := at_lt (show i < SA.length by rw [HLA.out]; exact hlt)
      obtain ⟨ba, oa, ⟨A1, c1, A1', c1'⟩, rfl, hba, hra, hia⟩ := HSA.out i a ha
      have HRA := Lib.hid hra
      have HIA := Lib.hid hia
      have HA := Lib.hid ha
      clear hra hia ha
      go_wp2_with fail
      go_loopw [5, 7] (fun v i' wr => ∃ (k : Nat), k ≤ nb ∧ i' = .int .i64 k ∧ Hid (BldS w (rowS a (SB.take k) ((SA.take i).foldl (fun out a => rowS a SB out) [])) v wr)) (fun _ i' _ => nb - (intOf i').toNat)
      case atStart => exact ⟨0, by omega, rfl, HBL.out⟩
      case round =>
        obtain ⟨k, hk, rfl, HBK⟩ := hrel
        by_cases hlk : k < nb
        · obtain ⟨b, hb⟩ := at_lt (show k < SB.length by rw [HLB.out]; exact hlk)
          obtain ⟨bb, ob, ⟨A2, c2, A2', c2'⟩, rfl, hbb, hrb, hib⟩ := HSB.out k b hb
          have HRB := Lib.hid hrb
          have HIB := Lib.hid hib
          have HB := Lib.hid hb
          clear hrb hib hb
          obtain ⟨S, hS⟩ : ∃ S, S = rowS a (SB.take k) ((SA.take i).foldl (fun out a => rowS a SB out) []) := ⟨_, rfl⟩
          have HOS : Hid (∀ s ∈ S, OkSp (m + n) s) := by rw [hS]; exact rowS_okp HOA.out HOB.out HA.out
          have HLE := prodSp_le HOA.out HOB.out HA.out HB.out
          rw [← hS] at HLE HBK
          have HSS := Lib.hid hS
          have hns := len_sumC HOS.out
          have hOa := HOA.out a (List.mem_of_getElem? HA.out)
          have hOb := HOB.out b (List.mem_of_getElem? HB.out)
          have hOm := mulSp_ok hOa hOb
          have hm1 := hOm.2.2.2
          have hsum := HSM.out
          obtain ⟨Ao, co, rfl, hco, hcm, hSp, hBel⟩ := HBK.out
          have hz1 := hBel.size
          obtain ⟨q, hq⟩ : ∃ q, q = S.length := ⟨_, rfl⟩
          obtain ⟨q1, hq1⟩ : ∃ q, q = (Tr.sortL (a.1 ++ b.1)).length := ⟨_, rfl⟩
          obtain ⟨q2, hq2⟩ : ∃ q, q = (Tr.sortL (a.2.1 ++ b.2.1)).length := ⟨_, rfl⟩
          obtain ⟨M1, hM1⟩ : ∃ q, q = Tr.sortL (a.1 ++ b.1) := ⟨_, rfl⟩
          obtain ⟨M2, hM2⟩ : ∃ q, q = Tr.sortL (a.2.1 ++ b.2.1) := ⟨_, rfl⟩
          obtain ⟨z, hz⟩ : ∃ z, z = a.2.2 * b.2.2 := ⟨_, rfl⟩
          obtain ⟨S', hS'⟩ : ∃ z, z = putSp S (mulSp a b) := ⟨_, rfl⟩
          have T3 : ∀ (W : World) (r1 o1 k1 r2 o2 k2 : Nat), q1 ≤ k1 → q2 ≤ k2 → Mat W W.heap.size (some ⟨r1, o1, none⟩) M1 → Mat W W.heap.size (some ⟨r2, o2, none⟩) M2 → Below wr.heap.size wr W → Calls Tryz.prog 117 #[.slice Ao q co, .agg #[.slice (some ⟨r1, o1, none⟩) q1 k1, .slice (some ⟨r2, o2, none⟩) q2 k2, .int .i64 z]] W (ResSp S' W) := by
            intro W r1 o1 k1 r2 o2 k2 e1 e2 e3 e4 e5
            rw [hq, hq1, hq2, hz, hS']
            rw [hM1] at e3
            rw [hM2] at e4
            rw [hq1] at e1
            rw [hq2] at e2
            exact l05Put_any Ao S.length co S (mulSp a b) ⟨some ⟨r1, o1, none⟩, k1, some ⟨r2, o2, none⟩, k2⟩ W rfl (by omega) HOS.out (by omega) hOm hmn ((hSp.below e5 (Nat.le_refl _)).more e5.size) ⟨e1, (fun h => by cases h), e3, e2, (fun h => by cases h), e4⟩
          have T1 : ∀ W, Below wr.heap.size wr W → Calls Tryz.prog 162 #[.slice A1 a.1.length c1, .slice A2 b.1.length c2] W fun e w' => ∃ b o cap, e = .returned (.slice (some ⟨b, o, none⟩) q1 cap) ∧ q1 ≤ cap ∧ Mat w' w'.heap.size (some ⟨b, o, none⟩) M1 ∧ Below W.heap.size W w' := by
            intro W hW
            rw [hq1, hM1]
            have g1 := okSp_len hOa
            have g2 := okSp_len hOb
            have g3 := hOa.2.2.1
            have hB1 := hBel.trans (hW.mono hz1)
            exact times_out A1 A2 c1 c2 w.heap.size w.heap.size a.1 b.1 W (by omega) (by omega) (fun r hr => (List.mem_append.1 hr).elim (hOa.1 r) (hOb.1 r)) hB1.size hB1.size (HIA.out.2.2.1.below hB1 (Nat.le_refl _)) (HIB.out.2.2.1.below hB1 (Nat.le_refl _)) HIB.out.1 HIB.out.2.1
          have T2 : ∀ W, Below wr.heap.size wr W → Calls Tryz.prog 162 #[.slice A1' a.2.1.length c1', .slice A2' b.2.1.length c2'] W fun e w' => ∃ b o cap, e = .returned (.slice (some ⟨b, o, none⟩) q2 cap) ∧ q2 ≤ cap ∧ Mat w' w'.heap.size (some ⟨b, o, none⟩) M2 ∧ Below W.heap.size W w' := by
            intro W hW
            rw [hq2, hM2]
            have g1 := okSp_len hOa
            have g2 := okSp_len hOb
            have g3 := hOa.2.2.1
            have hB1 := hBel.trans (hW.mono hz1)
            exact times_out A1' A2' c1' c2' w.heap.size w.heap.size a.2.1 b.2.1 W (by omega) (by omega) (fun r hr => (List.mem_append.1 hr).elim (hOa.2.1 r) (hOb.2.1 r)) hB1.size hB1.size (HIA.out.2.2.2.2.2.below hB1 (Nat.le_refl _)) (HIB.out.2.2.2.2.2.below hB1 (Nat.le_refl _)) HIB.out.2.2.2.1 HIB.out.2.2.2.2.1
          have hmw : IntKind.i64.wrap (a.2.2 * b.2.2) = z := by
            rw [hz]
            have e1 : (mulSp a b).2.2 = a.2.2 * b.2.2 := rfl
            exact IntWalk.i64_in _ (by omega)
          obtain ⟨l1, hl1⟩ : ∃ q, q = a.1.length := ⟨_, rfl⟩
          obtain ⟨l2, hl2⟩ : ∃ q, q = a.2.1.length := ⟨_, rfl⟩
          obtain ⟨l3, hl3⟩ : ∃ q, q = b.1.length := ⟨_, rfl⟩
          obtain ⟨l4, hl4⟩ : ∃ q, q = b.2.1.length := ⟨_, rfl⟩
          obtain ⟨x, hx⟩ : ∃ q, q = a.2.2 := ⟨_, rfl⟩
          obtain ⟨y, hy⟩ : ∃ q, q = b.2.2 := ⟨_, rfl⟩
          have KK : Hid (∀ V, Below wr.heap.size wr V → (V.cell? ⟨ba, oa + i * 3, none⟩ = some (.slice A1 l1 c1) ∧ V.cell? ⟨ba, oa + i * 3 + 1, none⟩ = some (.slice A1' l2 c1') ∧ V.cell? ⟨ba, oa + i * 3 + 2, none⟩ = some (.int .i64 x)) ∧ V.cell? ⟨bb, ob + k * 3, none⟩ = some (.slice A2 l3 c2) ∧ V.cell? ⟨bb, ob + k * 3 + 1, none⟩ = some (.slice A2' l4 c2') ∧ V.cell? ⟨bb, ob + k * 3 + 2, none⟩ = some (.int .i64 y)) := fun V hV => by
            have hB1 := hBel.trans (hV.mono hz1)
            have r1 := range_below HRA.out hB1 hba
            have r2 := range_below HRB.out hB1 hbb
            rw [hl1, hl2, hl3, hl4, hx, hy]
            exact ⟨⟨r1 0 _ rfl, r1 1 _ rfl, r1 2 _ rfl⟩, r2 0 _ rfl, r2 1 _ rfl, r2 2 _ rfl⟩
          rw [← hl1, ← hl3] at T1
          rw [← hl2, ← hl4] at T2
          rw [← hx, ← hy] at hmw
          have HBEL := Lib.hid hBel
          have HT := Lib.hid hS'
          have HQ := Lib.hid hq
          rw [← hq]
          clear hl1 hl2 hl3 hl4 hx hy hM1 hM2 hq hq1 hq2 hz hS' hm1 hsum hOm hOa hOb HLE hns hS hSp hBel HBK
          go_wp2_with fail
          go_region_held3 (fun V => (V.cell? ⟨ba, oa + i * 3, none⟩ = some (.slice A1 l1 c1) ∧ V.cell? ⟨ba, oa + i * 3 + 1, none⟩ = some (.slice A1' l2 c1') ∧ V.cell? ⟨ba, oa + i * 3 + 2, none⟩ = some (.int .i64 x)) ∧ V.cell? ⟨bb, ob + k * 3, none⟩ = some (.slice A2 l3 c2) ∧ V.cell? ⟨bb, ob + k * 3 + 1, none⟩ = some (.slice A2' l4 c2') ∧ V.cell? ⟨bb, ob + k * 3 + 2, none⟩ = some (.int .i64 y))
            (first | exact KK.out _ (Below.refl _ _).drew | exact KK.out _ (below_drewN (Below.refl _ _) _) | exact KK.out _ (below_undrew' (a := 1) bel2) | exact KK.out _ ((below_undrew' (a := 1) bel2).trans (bel3.mono (below_undrew' (a := 1) bel2).size)) | exact KK.out _ (((below_undrew' (a := 1) bel2).trans (bel3.mono (below_undrew' (a := 1) bel2).size)).trans (bel4.mono ((below_undrew' (a := 1) bel2).trans (bel3.mono (below_undrew' (a := 1) bel2).size)).size)))
            (first
              | (go_at_call 162; refine (T1 _ (by first | exact (Below.refl _ _).drew | exact below_drewN (Below.refl _ _) _)).mono ?_; clear T1; rintro e w2 ⟨r1, o1, k1, rfl, hk1, hM1, bel2⟩)
              | (go_at_call 162; refine (T2 _ (below_undrew' (a := 1) bel2)).mono ?_; clear T2; rintro e w3 ⟨r2, o2, k2, rfl, hk2, hM2, bel3⟩)
              | (go_at_call 117; refine (T3 _ r1 o1 k1 r2 o2 k2 hk1 hk2 ((hM1.below bel3 (Nat.le_refl _)).more bel3.size) hM2 ((below_undrew' (a := 1) bel2).trans (bel3.mono (below_undrew' (a := 1) bel2).size))).mono ?_; rintro e w4 hN; obtain ⟨A4, k4, rfl, z1, z2, z3, bel4⟩ := hN))
          have B9 : Below wr.heap.size wr w4 := ((below_undrew' (a := 1) bel2).trans (bel3.mono (below_undrew' (a := 1) bel2).size)).trans (bel4.mono ((below_undrew' (a := 1) bel2).trans (bel3.mono (below_undrew' (a := 1) bel2).size)).size)
          have E : S' = rowS a (SB.take (k + 1)) ((SA.take i).foldl (fun out a => rowS a SB out) []) := by rw [take_snoc HB.out, rowS_snoc, ← HSS.out, HT.out]
          have G4 : Hid (BldS w (rowS a (SB.take (k + 1)) ((SA.take i).foldl (fun out a => rowS a SB out) [])) (.slice A4 S'.length k4) w4) := by
            rw [Hid, ← E]
            exact ⟨A4, k4, rfl, z1, z2, z3, HBEL.out.trans (B9.mono hz1)⟩
          clear E B9 bel2 bel3 bel4 hM1 hM2 z1 z2 z3 T3 hmw KK
          go_wp2
          go_roundw
          case rel => exact ⟨k + 1, by omega, by go_num, G4⟩
          case measure => simp [intOf]; omega
        · obtain rfl : k = nb := by omega
          have G4 : Hid (BldS w ((SA.take (i + 1)).foldl (fun out a => rowS a SB out) []) u5 wr) := by
            rw [Hid, take_snoc HA.out, foldS_snoc]
            have := HBK.out
            rwa [List.take_of_length_le (by rw [HLB.out]; exact Nat.le_refl _)] at this
          clear HBK
          go_wp2
          go_roundw
          case rel => exact ⟨i + 1, by omega, by go_num, G4⟩
          case measure => simp [intOf]; omega
    · obtain rfl : i = na := by omega
      have G4 : Hid (BldS w (timesS SA SB) u5 wr) := by
        have := HBL.out
        rwa [List.take_of_length_le (by rw [HLA.out]; exact Nat.le_refl _)] at this
      clear HBL
      obtain ⟨A9, c9, rfl, h1, h2, h3, h4⟩ := G4.out
      have H3 := Lib.hid h3
      have H4 := Lib.hid h4
      clear h3 h4 G4
      go_wp2
      go_ret
      exact ⟨A9, c9, rfl, h1, h2, H3.out, H4.out⟩
end Go.Proofs.YtolkbbbbahhfaaaGreat
/-
  The model's branches of a tree.
-/
namespace Go.Proofs.YtolkbbbbahhfaaaGreat
open Go.RowKit Fld
set_option linter.unusedVariables false
set_option linter.unusedSimpArgs false
set_option maxRecDepth 100000

theorem l03Branches_any (A : Option Addr) (n c B : Nat) (t : List Int) (w : World) (hl : t.length = n) (hlv : Tr.isLv t = true) (hB : B ≤ w.heap.size) (h : Row w B A (ints t)) :
    Calls Tryz.prog 116 #[.slice A n c] w (ResRws (Tr.branL t) w) := by
  have HL := Lib.hid hl
  have HLV := Lib.hid hlv
  obtain ⟨hclv, hcl⟩ := lv_can hlv
  have HCL : Hid ((Tr.can t).length = n) := hcl.trans hl
  have HCLV := Lib.hid hclv
  obtain ⟨_, PS, P7⟩ := Tr.can_parts hclv
  have HPS : Hid (∀ p ∈ Tr.partsL (Tr.can t), Tr.isLv p = true) := fun p hp => (PS p hp).1
  have HP7 : Hid ((Tr.partsL (Tr.can t)).length ≤ 8) := by rw [Hid]; omega
  clear hl hlv hclv hcl PS P7
  go_enter Tryz.func116, Tryz.ntmps116
  go_wp2_with fail
  refine (l03Canon_any A n c B t w HL.out HLV.out hB h).mono ?_
  rintro e w1 ⟨A1, c1, rfl, own1, bel1⟩
  have hs1 := bel1.size
  have HB1 := Lib.hid bel1
  have HR1 : Hid (Row w1 w1.heap.size A1 (ints (Tr.can t))) := row_of_own own1
  clear own1 bel1
  go_wp2_with fail
  refine (l03Parts_any A1 n c1 w1.heap.size (Tr.can t) w1 HCL.out HCLV.out (Nat.le_refl _) HR1.out).mono ?_
  rintro e w2 ⟨A2, c2, vs2, rfl, own2, bel2⟩
  have hs2 := bel2.size
  have HB2 := Lib.hid (HB1.out.trans (bel2.mono hs1))
  have HM2 : Hid (Mat w2 w2.heap.size A2 (Tr.partsL (Tr.can t))) := own2.mat
  clear own2 bel2
  go_wp2_with fail
  refine (l03Sort_any A2 (Tr.partsL (Tr.can t)).length c2 w2.heap.size (Tr.partsL (Tr.can t)) w2 rfl HP7.out HPS.out (Nat.le_refl _) HM2.out).mono ?_
  rintro e w3 ⟨b, o, cap, rfl, hcap, hrws, bel3⟩
  have G : Hid (ResRws (Tr.branL t) w (.returned (.slice (some ⟨b, o, none⟩) (Tr.sortL (Tr.partsL (Tr.can t))).length cap)) w3) := ⟨b, o, cap, rfl, hcap, hrws, HB2.out.trans (bel3.mono (by omega))⟩
  clear hrws bel3
  go_wp2
  go_ret
  exact G.out
end Go.Proofs.YtolkbbbbahhfaaaGreat
