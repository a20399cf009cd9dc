/-
  Lists of trees with their numbers in memory.
-/
import Derived.Test.YtnnihdkhblbdgaaSCan
import Derived.Test.YtnnihdkhblbdgaaSumP
import Derived.Test.YtnnihdkhblbdgaaCmpX
import Derived.Test.YtnnihdkhblbdgaaOwn1
namespace Go.Proofs.Ytnnihdkhblbdgaa
open Go.RowKit Fld
set_option linter.unusedVariables false
set_option linter.unusedSimpArgs false
set_option maxRecDepth 100000

theorem info_cnt : (Try.prog.info? 97).map (fun i => (i.zero, i.size, i.bytes)) = some (some (.agg #[.slice none 0 0, .int .i64 0]), 2, 32) := by kernel_rfl
/-- a row in a block of numbers -/
def TRow (w : World) (B : Nat) (A : Option Addr) (vs : List Value) : Prop :=
  ∀ k v, vs[k]? = some v → ∃ b o cur fr, A = some ⟨b, o, none⟩ ∧ b < B ∧ w.cell? ⟨b, o + k, none⟩ = some v ∧ w.heap[b]? = some (.cells cur 2 fr)
theorem TRow.row {w : World} {B : Nat} {A : Option Addr} {vs : List Value} (h : TRow w B A vs) : Row w B A vs := fun k v hv => by
  obtain ⟨b, o, _, _, e, hb, hc, _⟩ := h k v hv
  exact ⟨b, o, e, hb, hc⟩
theorem TRow.keep {w w' : World} {B : Nat} {A : Option Addr} {vs : List Value} (h : TRow w B A vs) (hk : ∀ b, b < B → (∃ cur fr, w.heap[b]? = some (.cells cur 2 fr)) → w'.heap[b]? = w.heap[b]?) : TRow w' B A vs := fun k v hv => by
  obtain ⟨b, o, cur, fr, e, hb, hc, ht⟩ := h k v hv
  have := hk b hb ⟨cur, fr, ht⟩
  exact ⟨b, o, cur, fr, e, hb, (World.cell?_of_block this).trans hc, this.trans ht⟩
theorem TRow.below {w w' : World} {B B' : Nat} {A : Option Addr} {vs : List Value} (h : TRow w B A vs) (hb : Below B' w w') (hB : B ≤ B') : TRow w' B A vs := h.keep fun b hlt _ => hb.block b (by omega)
theorem TRow.more {w : World} {B B' : Nat} {A : Option Addr} {vs : List Value} (h : TRow w B A vs) (hB : B ≤ B') : TRow w B' A vs := fun k v hv => by
  obtain ⟨b, o, cur, fr, e, hb, hc, ht⟩ := h k v hv
  exact ⟨b, o, cur, fr, e, by omega, hc, ht⟩
theorem TRow.own {w : World} {base : Nat} {A : Option Addr} {n c : Nat} {vs : List Value} (h : w.ownsRow base 2 1 (.slice A n c) n vs) : TRow w w.heap.size A vs := fun k v hv => by
  obtain ⟨b, o, e, hb, hc⟩ := row_of_own h k v hv
  rcases h.2 with ⟨h1, _⟩ | ⟨g, cap, cur, h1, _, hg, _⟩
  · injection h1 with e1; rw [e1] at e; cases e
  · injection h1 with e1; rw [e1] at e; cases e
    exact ⟨_, _, cur, (0, 0), e1, hb, hc, hg⟩
abbrev Sum := List (List Int × Int)
/-- values that are trees with their numbers, two cells each -/
def Cnts (w : World) (B : Nat) (m : Sum) (vs : List Value) : Prop :=
  vs.length = 2 * m.length ∧ ∀ (k : Nat) (e : List Int × Int), m[k]? = some e → ∃ (A : Option Addr) (c : Nat), vs[2 * k]? = some (Value.slice A e.1.length c) ∧ vs[2 * k + 1]? = some (.int .i64 e.2) ∧ e.1.length ≤ c ∧ c ≤ maxLen ∧ TRow w B A (ints e.1)
theorem Cnts.nil (w : World) (B : Nat) : Cnts w B [] [] := ⟨rfl, fun k r h => by simp at h⟩
theorem Cnts.below {w w' : World} {B B' : Nat} {m : Sum} {vs : List Value} (h : Cnts w B m vs) (hb : Below B' w w') (hB : B ≤ B') : Cnts w' B m vs :=
  ⟨h.1, fun k r hr => by obtain ⟨A, c, e1, e2, e3, e4, e5⟩ := h.2 k r hr; exact ⟨A, c, e1, e2, e3, e4, e5.below hb hB⟩⟩
theorem Cnts.more {w : World} {B B' : Nat} {m : Sum} {vs : List Value} (h : Cnts w B m vs) (hB : B ≤ B') : Cnts w B' m vs :=
  ⟨h.1, fun k r hr => by obtain ⟨A, c, e1, e2, e3, e4, e5⟩ := h.2 k r hr; exact ⟨A, c, e1, e2, e3, e4, e5.more hB⟩⟩
theorem Cnts.next {w w' : World} {m : Sum} {vs : List Value} (h : Cnts w w.heap.size m vs) (hb : Below w.heap.size w w') : Cnts w' w'.heap.size m vs := (h.below hb (Nat.le_refl _)).more hb.size
theorem Cnts.push {w : World} {B : Nat} {m : Sum} {vs : List Value} {A : Option Addr} {c : Nat} {t : List Int} {x : Int} (h : Cnts w B m vs) (hc : t.length ≤ c) (hm : c ≤ maxLen) (hr : TRow w B A (ints t)) : Cnts w B (m ++ [(t, x)]) (vs ++ [.slice A t.length c, .int .i64 x]) := by
  have hl := h.1
  refine ⟨by simp [hl]; omega, fun k e he => ?_⟩
  rcases Nat.lt_or_ge k m.length with g | g
  · rw [List.getElem?_append_left g] at he
    obtain ⟨A', c', q1, q2, q3⟩ := h.2 k e he
    exact ⟨A', c', by rw [List.getElem?_append_left (by omega)]; exact q1, by rw [List.getElem?_append_left (by omega)]; exact q2, q3⟩
  · rw [List.getElem?_append_right g] at he
    have hk : k - m.length = 0 := by
      rcases Nat.eq_zero_or_pos (k - m.length) with y | y
      · exact y
      · rw [List.getElem?_eq_none (by simp; omega)] at he; cases he
    rw [hk] at he
    simp only [List.getElem?_cons_zero, Option.some.injEq] at he
    subst he
    exact ⟨A, c, by rw [List.getElem?_append_right (by omega), show 2 * k - vs.length = 0 by omega]; rfl, by rw [List.getElem?_append_right (by omega), show 2 * k + 1 - vs.length = 1 by omega]; rfl, hc, hm, hr⟩
theorem Cnts.one {m : Sum} {vs : List Value} {w : World} {B : Nat} (h : Cnts w B m vs) : ∀ u ∈ vs, u.oneCell' = true := by
  intro u hu
  obtain ⟨j, hj⟩ := List.mem_iff_getElem?.1 hu
  have hl := h.1
  have hjl : j < vs.length := by
    rcases Nat.lt_or_ge j vs.length with y | y
    · exact y
    · rw [List.getElem?_eq_none y] at hj; cases hj
  obtain ⟨A, c, e1, e2, _⟩ := h.2 (j / 2) _ (List.getElem?_eq_getElem (by omega))
  rcases Nat.mod_two_eq_zero_or_one j with e | e
  · rw [show 2 * (j / 2) = j by omega, hj] at e1; injection e1 with e1; subst e1; rfl
  · rw [show 2 * (j / 2) + 1 = j by omega, hj] at e2; injection e2 with e2; subst e2; rfl
theorem Cnts.grown {w w' : World} {B lo n : Nat} {m : Sum} {vs us : List Value} {v : Value} (h : Cnts w B m vs) (ho : w.ownsRow lo 97 2 v n us) (hB : B ≤ w.heap.size) (hg : w.grownBy w' v.ownBlock) : Cnts w' B m vs :=
  ⟨h.1, fun k r hr => by
    obtain ⟨A, c, e1, e2, e3, e4, e5⟩ := h.2 k r hr
    refine ⟨A, c, e1, e2, e3, e4, e5.keep fun b hb hx => hg.block b (by omega) fun e => ?_⟩
    obtain ⟨cur, fr, hx⟩ := hx
    rcases ho.2 with ⟨h1, _⟩ | ⟨g, cap, cur', h1, _, hgg, _⟩
    · rw [h1] at e; cases e
    · rw [h1] at e
      have e' : b = g := by simpa [Value.ownBlock] using e
      rw [e', hgg] at hx
      injection hx with hx
      injection hx with _ ht
      exact absurd ht (by decide)⟩
/-- a sum that a call makes -/
def OutS (W : World) (S : Sum) (g q cap : Nat) (vs : List Value) (wr : World) : Prop := wr.ownsRow W.heap.size 97 2 (.slice (some ⟨g, 0, none⟩) q cap) q vs ∧ Cnts wr wr.heap.size S vs ∧ Below W.heap.size W wr
theorem OutS.below {W wr w2 : World} {S : Sum} {g q cap : Nat} {vs : List Value} (h : OutS W S g q cap vs wr) (hb : Below wr.heap.size wr w2) : OutS W S g q cap vs w2 := by
  obtain ⟨h1, h2, h3⟩ := h
  have hs := h3.size
  refine ⟨⟨h1.1, ?_⟩, h2.next hb, h3.trans (hb.mono hs)⟩
  rcases h1.2 with h | ⟨g', cap', cur, e, hb', hg, r⟩
  · exact .inl h
  · exact .inr ⟨g', cap', cur, e, hb', (hb.block g' (Array.getElem?_eq_some_iff.1 hg).1).trans hg, r⟩
theorem OutS.len {W wr : World} {S : Sum} {g q cap : Nat} {vs : List Value} (h : OutS W S g q cap vs wr) : S.length = q := by
  have h1 := h.1.1
  have h2 := h.2.1.1
  omega
theorem OutS.start (W : World) : OutS W [] W.heap.size 0 0 [] (W.alloc (.cells #[] 97)) :=
  ⟨World.ownsRow_lit (base := W.heap.size) (size := 2) (e := 97) W #[] 0 (Nat.le_refl _) (Nat.zero_le _) rfl, Cnts.nil _ _, (Below.refl _ _).alloc (Nat.le_refl _) _⟩
theorem OutS.push {W wr w4 : World} {S : Sum} {g q cap g4 cap4 c : Nat} {vs : List Value} {A : Option Addr} {t : List Int} {x : Int} {o : Obj} (h : OutS W S g q cap vs wr) (hr : TRow wr wr.heap.size A (ints t)) (hc : t.length ≤ c) (hm : c ≤ maxLen)
    (h4 : w4.ownsRow W.heap.size 97 2 (.slice (some ⟨g4, 0, none⟩) (q + 1) cap4) (q + 1) (vs ++ [.slice A t.length c, .int .i64 x])) (hg : (wr.alloc o).grownBy w4 (Value.ownBlock (.slice (some ⟨g, 0, none⟩) q cap))) : OutS W (S ++ [(t, x)]) g4 (q + 1) cap4 (vs ++ [.slice A t.length c, .int .i64 x]) w4 := by
  obtain ⟨h1, h2, h3⟩ := h
  have hs := h3.size
  have hal : Below wr.heap.size wr (wr.alloc o) := (Below.refl _ _).alloc (Nat.le_refl _) _
  have hsz : wr.heap.size ≤ w4.heap.size := by have := hg.size; simp at this; omega
  refine ⟨h4, ?_, ?_⟩
  · have := (Cnts.push (x := x) h2 hc hm hr).below hal (Nat.le_refl _)
    exact (this.grown (h1.alloc o) (by simp) hg).more hsz
  · exact (h3.alloc hs o).grown hg (by simp; omega) (fun k hk => by
      have := h1.lt k hk; exact this.1)
/-- a sum in memory -/
def Sms (w : World) (A : Option Addr) (m : Sum) : Prop := ∃ vs, Row w w.heap.size A vs ∧ Cnts w w.heap.size m vs
theorem Sms.next {w w' : World} {A : Option Addr} {m : Sum} (h : Sms w A m) (hb : Below w.heap.size w w') : Sms w' A m := by
  obtain ⟨vs, h1, h2⟩ := h
  exact ⟨vs, (h1.below hb (Nat.le_refl _)).more hb.size, h2.next hb⟩
theorem Sms.drewN {w : World} {A : Option Addr} {m : Sum} (h : Sms w A m) (k : Nat) : Sms (w.drewN k) A m := h.next (below_drewN (Below.refl _ _) k)
theorem Sms.nil (w : World) (A : Option Addr) : Sms w A [] := ⟨[], Row.nil _ _ _, Cnts.nil _ _⟩
theorem Sms.at {w : World} {A : Option Addr} {m : Sum} (h : Sms w A m) {k : Nat} {e : List Int × Int} (he : m[k]? = some e) : ∃ b o Ak ck, A = some ⟨b, o, none⟩ ∧ b < w.heap.size ∧ w.cell? ⟨b, o + k * 2, none⟩ = some (.slice Ak e.1.length ck) ∧ w.cell? ⟨b, o + k * 2 + 1, none⟩ = some (.int .i64 e.2) ∧ e.1.length ≤ ck ∧ ck ≤ maxLen ∧ TRow w w.heap.size Ak (ints e.1) := by
  obtain ⟨vs, h1, h2⟩ := h
  obtain ⟨A', c', q1, q2, q3, q4, q5⟩ := h2.2 k e he
  obtain ⟨b, o, rfl, hb, hc⟩ := h1 _ _ q1
  obtain ⟨b', o', e', _, hc'⟩ := h1 _ _ q2
  cases e'
  exact ⟨b, o, A', c', rfl, hb, by rw [Nat.mul_comm k 2]; exact hc, by rw [Nat.mul_comm k 2, Nat.add_assoc]; exact hc', q3, q4, q5⟩
theorem row_of_own2 {w : World} {base : Nat} {e : TypeId} {A : Option Addr} {n c : Nat} {vs : List Value} (h : w.ownsRow base e 2 (.slice A n c) n vs) : Row w w.heap.size A vs := by
  intro k v hv
  rcases h.2 with ⟨_, h0⟩ | ⟨g, cap, cur, hs, _, hg, _⟩
  · have : vs = [] := List.eq_nil_of_length_eq_zero (by rw [h.1, h0])
    subst this; simp at hv
  · injection hs with e1 e2 e3
    subst e1 e3
    have hk : k < n * 2 := by
      rw [← h.1]
      rcases Nat.lt_or_ge k vs.length with g | g
      · exact g
      · rw [List.getElem?_eq_none g] at hv; cases hv
    refine ⟨g, 0, rfl, (Array.getElem?_eq_some_iff.1 hg).1, ?_⟩
    rw [Nat.zero_add, h.cellAt k hk]; exact hv
/-- what a call hands back that makes a sum: n: its length -/
def NewSum (n : Nat) (m : Sum) (w : World) (e : Ending) (w' : World) : Prop := ∃ A c, e = .returned (.slice A n c) ∧ n ≤ c ∧ c ≤ maxLen ∧ Sms w' A m ∧ Below w.heap.size w w'
theorem OutS.done {w W wr : World} {S : Sum} {g q cap : Nat} {vs : List Value} (h : OutS W S g q cap vs wr) (hb : Below w.heap.size w W) : NewSum S.length S w (.returned (.slice (some ⟨g, 0, none⟩) q cap)) wr := by
  have e := h.len
  obtain ⟨h1, h2, h3⟩ := h
  have hc : q ≤ cap ∧ cap ≤ maxLen := by
    rcases h1.2 with ⟨h, _⟩ | ⟨g', cap', cur, h, _, _, h3, h4, _⟩
    · injection h with a b d; cases a
    · injection h with a b d; subst d; exact ⟨h3, h4⟩
  exact ⟨_, _, by rw [e], by rw [e]; exact hc.1, hc.2, ⟨vs, row_of_own2 h1, h2⟩, hb.trans (h3.mono hb.size)⟩
theorem atL_at {t : List Int} : ∀ {S : Sum} {a : Nat}, (∀ j e, j < a → S[j]? = some e → Tr.beforeL e.1 t = true) → (a = S.length ∨ ∃ e, S[a]? = some e ∧ Tr.beforeL e.1 t = false) → Tr.atL t S = a
  | [], a, _, h => by
    rcases h with h | ⟨e, h, _⟩
    · rw [h]; rfl
    · simp at h
  | s :: S, 0, _, h => by
    rcases h with h | ⟨e, h, g⟩
    · simp at h
    · simp only [List.getElem?_cons_zero, Option.some.injEq] at h
      rw [Tr.atL, h, if_neg (by rw [g]; simp)]
  | s :: S, a+1, h1, h => by
    have h2 := h1 0 s (by omega) rfl
    rw [Tr.atL, if_pos h2, atL_at (S := S) (a := a) (fun j e hj he => h1 (j + 1) e (by omega) (by simpa using he)) (by
      rcases h with h | ⟨e, h, g⟩
      · left; simpa using h
      · right; exact ⟨e, by simpa using h, g⟩)]
end Go.Proofs.Ytnnihdkhblbdgaa
