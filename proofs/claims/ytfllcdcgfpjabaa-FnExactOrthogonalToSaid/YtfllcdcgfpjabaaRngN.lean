/-
  A loop over a function whose rounds may turn cells laid since (an append in place): what a round keeps is blocks lo to hi, and whatever is no cell. The laws of XRngL in that form.
-/
import Derived.RangeFuncNested
import Derived.RangeFuncCalls
import Derived.RangeFuncLeaves
import Derived.WalkKit
namespace Go.Proofs.Ytfllcdcgfpjabaa
open Go.RowKit
set_option linter.unusedVariables false

/-- an invariant that bears new blocks, and turns of blocks from B on that are no cells -/
structure Abd2 {β : Type} (B : Nat) (J : β → World → Prop) : Prop where
  more : ∀ s W W', J s W → Below W.heap.size W W' → J s W'
  turn : ∀ s W l o o', J s W → B ≤ l → W.heap[l]? = some o → o.isCells = false → J s (W.putObj l o')
theorem Abd2.and {β : Type} {B : Nat} {J K : β → World → Prop} (h : Abd2 B J) (k : Abd2 B K) : Abd2 B (fun s W => J s W ∧ K s W) :=
  ⟨fun s W W' hs hb => ⟨h.more s W W' hs.1 hb, k.more s W W' hs.2 hb⟩, fun s W l o o' hs hB hl ho => ⟨h.turn s W l o o' hs.1 hB hl ho, k.turn s W l o o' hs.2 hB hl ho⟩⟩
theorem Abd2.pure {β : Type} (B : Nat) (p : β → Prop) : Abd2 B (fun s (_ : World) => p s) := ⟨fun _ _ _ hs _ => hs, fun _ _ _ _ _ hs _ _ _ => hs⟩
theorem Abd2.up {β : Type} {B B' : Nat} {J : β → World → Prop} (h : Abd2 B J) (hB : B ≤ B') : Abd2 B' J := ⟨h.more, fun s W l o o' hs hl h1 h2 => h.turn s W l o o' hs (Nat.le_trans hB hl) h1 h2⟩
theorem Abd2.map {β γ : Type} {B : Nat} {J : β → World → Prop} (h : Abd2 B J) (f : γ → β) : Abd2 B (fun s W => J (f s) W) := ⟨fun s W W' hs hb => h.more _ W W' hs hb, fun s W l o o' hs hl h1 h2 => h.turn _ W l o o' hs hl h1 h2⟩
theorem Abd2.ex {β γ : Type} {B : Nat} {J : β → World → Prop} (h : Abd2 B J) : Abd2 B (fun (_ : γ) W => ∃ s, J s W) := ⟨fun _ W W' hs hb => hs.elim fun s hs => ⟨s, h.more s W W' hs hb⟩, fun _ W l o o' hs hl h1 h2 => hs.elim fun s hs => ⟨s, h.turn s W l o o' hs hl h1 h2⟩⟩
/-- a cell of the caller's -/
theorem Abd2.cell {β : Type} (B : Nat) (p : Addr) (f : β → Value) : Abd2 B (fun s W => W.cell? p = some (f s)) :=
  ⟨fun s W W' hs hb => (hb.cell (World.block_lt_of_cell? W p hs)).trans hs, fun s W l o o' hs _ hl ho => cell_kept hs (grownBy_putObj' W l o') (fun r e => by cases e; exact ⟨o, hl, ho⟩)⟩
theorem Abd2.frozen {β : Type} (B : Nat) (p : Addr) (f : β → Value) : Abd2 B (fun s W => W.cell? p = some (f s) ∧ W.frozen? p = false) :=
  ⟨fun s W W' hs hb => ⟨(hb.cell (World.block_lt_of_cell? W p hs.1)).trans hs.1, by
      have hlt := World.block_lt_of_cell? W p hs.1
      have := hb.block p.block hlt
      unfold World.frozen? at *
      rw [this]; exact hs.2⟩,
   fun s W l o o' hs _ hl ho => ⟨cell_kept hs.1 (grownBy_putObj' W l o') (fun r e => by cases e; exact ⟨o, hl, ho⟩), (frozen_kept hs.1 (grownBy_putObj' W l o') (fun r e => by cases e; exact ⟨o, hl, ho⟩)).trans hs.2⟩⟩
theorem Abd2.below {β : Type} {B n : Nat} {w : World} (hn : n ≤ B) (hw : n ≤ w.heap.size) : Abd2 B (fun (_ : β) W => Below n w W) :=
  ⟨fun s W W' hs hb => hs.trans (hb.mono (Nat.le_trans hw hs.size)), fun s W l o o' hs hB hl ho => hs.grown (grownBy_putObj' W l o') (Nat.le_trans hw hs.size) (fun k e => by cases e; exact Nat.le_trans hn hB)⟩
/-- what lies in blocks lo to hi lies on, and whatever was laid from E on and is no cell -/
structure KpW (lo hi E : Nat) (W W' : World) : Prop where
  size : W.heap.size ≤ W'.heap.size
  rng : ∀ k, lo ≤ k → k < hi → k < W.heap.size → W'.heap[k]? = W.heap[k]?
  own : ∀ k o, E ≤ k → W.heap[k]? = some o → o.isCells = false → W'.heap[k]? = some o
theorem KpW.refl (lo hi E : Nat) (W : World) : KpW lo hi E W W := ⟨Nat.le_refl _, fun _ _ _ _ => rfl, fun _ _ _ h _ => h⟩
theorem KpW.trans {lo hi E : Nat} {A B C : World} (h : KpW lo hi E A B) (k : KpW lo hi E B C) : KpW lo hi E A C :=
  ⟨Nat.le_trans h.size k.size, fun i h1 h2 h3 => (k.rng i h1 h2 (Nat.lt_of_lt_of_le h3 h.size)).trans (h.rng i h1 h2 h3), fun i o h1 h2 h3 => k.own i o h1 (h.own i o h1 h2 h3) h3⟩
theorem KpW.of_below {lo hi E : Nat} {A B : World} (h : Below A.heap.size A B) : KpW lo hi E A B := ⟨h.size, fun i _ _ h3 => h.block i h3, fun i o _ h2 _ => (h.block i (Array.getElem?_eq_some_iff.1 h2).1).trans h2⟩
/-- an owned row grows: nothing else turns -/
theorem KpW.grown {lo hi E : Nat} {A B : World} {v : Value} {base n : Nat} {T : TypeId} {vs : List Value} (hg : A.grownBy B v.ownBlock) (ho : A.ownsRow base T 1 v n vs) (hb : hi ≤ base) : KpW lo hi E A B :=
  ⟨hg.size, fun k _ h2 h3 => hg.block k h3 (fun e => by have := (ho.lt k e.symm).1; omega), fun k o _ h2 h3 => by
    refine (hg.block k (Array.getElem?_eq_some_iff.1 h2).1 (fun e => ?_)).trans h2
    rcases ho.2 with ⟨rfl, _⟩ | ⟨g, cap, cur, rfl, _, hc, _⟩
    · simp [Value.ownBlock] at e
    · have e2 : k = g := by simpa [Value.ownBlock] using e
      subst e2
      rw [hc] at h2
      injection h2 with h2
      subst h2
      simp [Obj.isCells] at h3⟩
theorem KpW.set {lo hi E b o : Nat} {w : World} {c : Value} (v : Value) (h1 : ¬ (lo ≤ b ∧ b < hi)) (hc : w.cell? ⟨b, o, none⟩ = some c) : KpW lo hi E w (w.setCell ⟨b, o, none⟩ v) :=
  ⟨by rw [World.size_setCell]; exact Nat.le_refl _, fun k h3 h4 _ => heap_setCell_other w ⟨b, o, none⟩ k v (by show k ≠ b; omega), fun k ob h3 h4 h5 => by
    refine (heap_setCell_other w ⟨b, o, none⟩ k v (fun e => ?_)).trans h4
    have e2 : k = b := e
    subst e2
    unfold World.cell? at hc
    rw [show w.heap[({ block := k, off := o } : Addr).block]? = some ob from h4] at hc
    cases ob <;> first | exact absurd h5 (by decide) | exact absurd hc (by intro hh; cases hh) | (simp only [Obj.isCells] at h5; cases h5)⟩
/-- the blocks from lo to hi lie as they lay -/
def Rg2 (lo hi : Nat) (w W : World) : Prop := w.heap.size ≤ W.heap.size ∧ ∀ k, lo ≤ k → k < hi → W.heap[k]? = w.heap[k]?
theorem Rg2.refl (lo hi : Nat) (w : World) : Rg2 lo hi w w := ⟨Nat.le_refl _, fun _ _ _ => rfl⟩
theorem Rg2.trans {lo hi : Nat} {a b c : World} (h : Rg2 lo hi a b) (k : Rg2 lo hi b c) : Rg2 lo hi a c := ⟨Nat.le_trans h.1 k.1, fun i h1 h2 => (k.2 i h1 h2).trans (h.2 i h1 h2)⟩
theorem Rg2.mono {lo hi lo' hi' : Nat} {a b : World} (h : Rg2 lo hi a b) (h1 : lo ≤ lo') (h2 : hi' ≤ hi) : Rg2 lo' hi' a b := ⟨h.1, fun i a b => h.2 i (by omega) (by omega)⟩
theorem Rg2.of_below {lo hi B : Nat} {a b : World} (h : Below B a b) (hi' : hi ≤ B) : Rg2 lo hi a b := ⟨h.size, fun i _ h2 => h.block i (by omega)⟩
/-- what a function that is ranged over promises: it hands xs on in turn, whatever the caller's invariant, as long as the rounds leave its blocks alone -/
def Its2 {α : Type} (P : Program) (gf : Nat) (lb : Array Value) (lo hi : Nat) (enc : α → Value) (xs : List α) (w : World) : Prop :=
  ∀ (l : Nat) (J Jx : List α → World → Prop) (W : World), Rg2 lo hi w W → Abd2 W.heap.size J → Abd2 W.heap.size Jx →
    (∀ pre x W1 m, J pre W1 → x ∈ xs → pre.length < xs.length → YieldAt Fence.wide m P l #[enc x] W1 fun e W' => (e = .returned (.bool true) ∧ J (pre ++ [x]) W' ∧ KpW lo hi W.heap.size W1 W') ∨ (e = .returned (.bool false) ∧ Jx (pre ++ [x]) W' ∧ KpW lo hi W.heap.size W1 W')) →
    J [] W →
    Calls P gf (#[.func (.yield l) #[] #[]] ++ lb) W fun e W' => (∃ v, e = .returned v) ∧ (J xs W' ∨ ∃ pre, Jx pre W')
theorem Its2.later {α : Type} {P : Program} {gf : Nat} {lb : Array Value} {lo hi : Nat} {enc : α → Value} {xs : List α} {w w' : World} (h : Its2 P gf lb lo hi enc xs w) (hb : Rg2 lo hi w w') : Its2 P gf lb lo hi enc xs w' :=
  fun l J Jx W hW => h l J Jx W (hb.trans hW)
theorem room_free2 (k : Nat) : Fence.wide.room k := room_wide k
theorem yieldAt_any2 {P : Program} {l m m' : Nat} {args : Array Value} {W : World} {R : Ending → World → Prop} (h : YieldAt Fence.wide m P l args W R) : YieldAt Fence.wide m' P l args W R := by
  obtain ⟨fn, tmps, assign, body, hy, hR⟩ := h
  exact ⟨fn, tmps, assign, body, hy, hR.1, fun c cs _ => hR.2 c cs (room_wide _)⟩
/-- how a round may be left -/
def lvPost2 {α : Type} (B lo hi : Nat) (I Ix : List α → World → Prop) (xs : List α) (W : World) : Exit → Act → World → Prop
  | .normal, _, W' => KpW lo hi B W W' ∧ I xs W'
  | .ret, _, W' => KpW lo hi B W W' ∧ Ix xs W'
  | _, _, _ => False
section
variable {α : Type} {P : Program} {gf : Nat} {lb : Array Value} {lo hi : Nat} {enc : α → Value} {xs : List α} {w0 w W1 : World}
/-- the rounds of a loop whose record lies at l -/
theorem rng_core2 {l : Nat} {fn : FuncId} {tmps : Array Value} {p : Tmp} {assign body : Code} {D : Nat} (hl : W1.heap[l]? = some (.loop { state := .ready, pending := none, fn, tmps, params := #[p], assign, body, defers := D })) (hwl : w.heap.size ≤ l) (hW1 : Below w.heap.size w W1)
    (hits : Its2 P gf lb lo hi enc xs w0) (hb0 : Rg2 lo hi w0 w) (hhi : hi ≤ w.heap.size)
    (I Ix : List α → World → Prop) (hI : Abd2 w.heap.size I) (hIx : Abd2 w.heap.size Ix) (h0 : I [] w)
    (X : World → Prop) (hX : Abd2 (β := Unit) W1.heap.size (fun _ W => X W)) (hXl : ∀ A o, X A → X (A.putObj l o)) (hXk : ∀ A B, X A → KpW lo hi w.heap.size A B → X B) (hX1 : X W1)
    (Ax : α → Act → World → Prop) (hAx : ∀ x a', Abd2 w.heap.size (fun (_ : Unit) W => Ax x a' W))
    (hassign : ∀ (m : Nat) (pre : List α) (x : α) (W : World) (K : Act → World → Prop), I pre W → x ∈ xs → (∀ a' W', Below W.heap.size W W' → Ax x a' W' → K a' W') → assign.wpIn (Fence.wide.inRound l) m P (Exit.then K (fun _ _ _ => False)) { tmps := tmps.setIfInBounds p (enc x), defers := [] } W)
    (hbody : ∀ (m : Nat) (pre : List α) (x : α) (a' : Act) (W : World), (∃ r, W.heap[l]? = some (.loop r)) → I pre W → Ax x a' W → x ∈ xs → pre.length < xs.length → body.wpIn (Fence.wide.inRound l) m P (lvPost2 w.heap.size lo hi I Ix (pre ++ [x]) W) a' W) :
    Calls P gf (#[.func (.yield l) #[] #[]] ++ lb) W1 fun e W => (∃ v, e = .returned v) ∧
      ((I xs W ∧ W.heap[l]? = some (.loop { state := .ready, pending := none, fn, tmps, params := #[p], assign, body, defers := D }) ∧ X W) ∨
       (∃ pre, Ix pre W ∧ W.heap[l]? = some (.loop { state := .done, pending := some .ret, fn, tmps, params := #[p], assign, body, defers := D }) ∧ X W)) := by
  have hlt1 : l < W1.heap.size := (Array.getElem?_eq_some_iff.1 hl).1
  have hsz : w.heap.size ≤ W1.heap.size := hW1.size
  have keepl : ∀ {A B : World} {o : Obj}, Below A.heap.size A B → A.heap[l]? = some o → B.heap[l]? = some o := fun hb ho => (hb.block l (Array.getElem?_eq_some_iff.1 ho).1).trans ho
  have J1 : ∀ (I : List α → World → Prop) (o : Obj), Abd2 w.heap.size I → o.isCells = false → Abd2 W1.heap.size (fun pre W => I pre W ∧ W.heap[l]? = some o ∧ X W) := fun I o hI ho =>
    ⟨fun s A B hs hb => ⟨hI.more s A B hs.1 hb, keepl hb hs.2.1, hX.more () A B hs.2.2 hb⟩,
     fun s A k o1 o2 hs hk h1 h2 => ⟨hI.turn s A k o1 o2 hs.1 (by omega) h1 h2, (World.putObj_heap_other (by omega)).trans hs.2.1, hX.turn () A k o1 o2 hs.2.2 hk h1 h2⟩⟩
  refine (hits l (fun pre W => I pre W ∧ W.heap[l]? = some (.loop { state := .ready, pending := none, fn, tmps, params := #[p], assign, body, defers := D }) ∧ X W)
    (fun pre W => Ix pre W ∧ W.heap[l]? = some (.loop { state := .done, pending := some .ret, fn, tmps, params := #[p], assign, body, defers := D }) ∧ X W) W1 (hb0.trans (Rg2.of_below hW1 hhi)) (J1 I _ hI rfl) (J1 Ix _ hIx rfl) ?_ ⟨?_, hl, hX1⟩).mono ?_
  · rintro pre x W m ⟨hJ, hr, hx⟩ hmem hlen
    have hy : (Instr.yield l #[enc x]).run P W = .ok (.round l fn (tmps.setIfInBounds p (enc x)) assign body) W := by
      have := run_yield (P := P) (args := #[enc x]) hr rfl
      simpa using this
    refine ⟨_, _, _, _, hy, roundIn_of_wpIn trivial ?_⟩
    refine hassign m pre x W _ hJ hmem (fun a' Wa hba hax => ?_)
    have hra := keepl hba hr
    have hia := hI.more pre W Wa hJ hba
    have hxa := hX.more () W Wa hx hba
    have hlta : l < Wa.heap.size := (Array.getElem?_eq_some_iff.1 hra).1
    refine ⟨_, run_beginRound hra rfl, ?_⟩
    have hrb := World.putObj_heap_same (o := .loop { state := .busy, pending := none, fn, tmps, params := #[p], assign, body, defers := D }) hlta
    refine wpIn_mono (hbody m pre x a' _ ⟨_, hrb⟩ (hI.turn pre Wa l _ _ hia hwl hra rfl) ((hAx x a').turn () Wa l _ _ hax hwl hra rfl) hmem hlen) ?_
    have kp : ∀ {W3 : World} {o : Obj}, KpW lo hi w.heap.size (Wa.putObj l (.loop { state := .busy, pending := none, fn, tmps, params := #[p], assign, body, defers := D })) W3 → KpW lo hi W1.heap.size W (W3.putObj l o) := fun {W3 o} h => by
      have hs3 : Wa.heap.size ≤ W3.heap.size := by have := h.size; rwa [World.putObj_size] at this
      refine ⟨by rw [World.putObj_size]; exact Nat.le_trans hba.size hs3, fun k a b c => ?_, fun k ob a c hc => ?_⟩
      · have e1 := h.rng k a b (by rw [World.putObj_size]; exact Nat.lt_of_lt_of_le c hba.size)
        rw [World.putObj_heap_other (by omega), e1, World.putObj_heap_other (by omega), hba.block k c]
      · have hka : Wa.heap[k]? = some ob := (hba.block k (Array.getElem?_eq_some_iff.1 c).1).trans c
        have e1 := h.own k ob (by omega) ((World.putObj_heap_other (by omega)).trans hka) hc
        rw [World.putObj_heap_other (by omega), e1]
    rintro e a3 W3 hp
    cases e with
    | normal =>
      obtain ⟨hk3, hJ3⟩ := hp
      have hr3 := hk3.own l _ hwl hrb rfl
      have hlt3 : l < W3.heap.size := (Array.getElem?_eq_some_iff.1 hr3).1
      exact ⟨_, _, run_endRound none hr3, .inl ⟨rfl, ⟨hI.turn _ W3 l _ _ hJ3 hwl hr3 rfl, World.putObj_heap_same hlt3, hXl _ _ (hXk _ _ (hXl _ _ hxa) hk3)⟩, kp hk3⟩⟩
    | ret =>
      obtain ⟨hk3, hJ3⟩ := hp
      have hr3 := hk3.own l _ hwl hrb rfl
      have hlt3 : l < W3.heap.size := (Array.getElem?_eq_some_iff.1 hr3).1
      exact ⟨_, _, run_endRound (some .ret) hr3, .inr ⟨rfl, ⟨hIx.turn _ W3 l _ _ hJ3 hwl hr3 rfl, World.putObj_heap_same hlt3, hXl _ _ (hXk _ _ (hXl _ _ hxa) hk3)⟩, kp hk3⟩⟩
    | exit id => exact hp.elim
    | goto t => exact hp.elim
    | panic ch => exact hp.elim
    | outgrown => exact hp.elim
  · exact hI.more [] w W1 h0 ⟨hW1.os, hW1.tape, hW1.output, hW1.size, hW1.block⟩
  · rintro e W ⟨hv, h | ⟨pre, h⟩⟩
    · exact ⟨hv, .inl h⟩
    · exact ⟨hv, .inr ⟨pre, h⟩⟩
/-- **a loop over a function** -/
theorem wp_rng2 {n : Nat} {g : Operand} {p : Tmp} {assign body : Code} {Q : Exit → Act → World → Prop} {a : Act} (hg : a.eval g = .func (.func gf) #[] lb) (eg : ∀ args w, (callFunc gf args).run P w = .ok (.enter gf args) w)
    (hits : Its2 P gf lb lo hi enc xs w0) (hb0 : Rg2 lo hi w0 w) (hhi : hi ≤ w.heap.size)
    (I Ix : List α → World → Prop) (hI : Abd2 w.heap.size I) (hIx : Abd2 w.heap.size Ix) (h0 : I [] w)
    (Ax : α → Act → World → Prop) (hAx : ∀ x a', Abd2 w.heap.size (fun (_ : Unit) W => Ax x a' W))
    (hassign : ∀ (l m : Nat) (pre : List α) (x : α) (W : World) (K : Act → World → Prop), I pre W → x ∈ xs → (∀ a' W', Below W.heap.size W W' → Ax x a' W' → K a' W') → assign.wpIn (Fence.wide.inRound l) m P (Exit.then K (fun _ _ _ => False)) { tmps := a.tmps.setIfInBounds p (enc x), defers := [] } W)
    (hbody : ∀ (l m : Nat) (pre : List α) (x : α) (a' : Act) (W : World), w.heap.size ≤ l → (∃ r, W.heap[l]? = some (.loop r)) → I pre W → Ax x a' W → x ∈ xs → pre.length < xs.length → body.wpIn (Fence.wide.inRound l) m P (lvPost2 w.heap.size lo hi I Ix (pre ++ [x]) W) a' W)
    (hdone : ∀ (D : Nat) (W : World), w.heap.size ≤ D → I xs W → W.heap[D]? = some (.deferred (some [])) → Q .normal { a with defers := { target := .collected D, args := #[] } :: a.defers } W)
    (hstop : ∀ (D : Nat) (pre : List α) (W : World), w.heap.size ≤ D → Ix pre W → W.heap[D]? = some (.deferred (some [])) → Code.ret.wpIn Fence.wide n P Q { a with defers := { target := .collected D, args := #[] } :: a.defers } W) :
    (Code.rangeFunc g #[p] assign body).wpIn Fence.wide n P Q a w := by
  refine wpIn_rangeFunc ?_
  intro fn hfn
  have hsW : ((w.alloc (.deferred (some []))).alloc (.loop { state := .ready, pending := none, fn, tmps := a.tmps, params := #[p], assign, body, defers := w.heap.size })).heap.size = w.heap.size + 2 := by simp
  have hb1 : Below w.heap.size w ((w.alloc (.deferred (some []))).alloc (.loop { state := .ready, pending := none, fn, tmps := a.tmps, params := #[p], assign, body, defers := w.heap.size })) := ((Below.refl _ _).alloc (Nat.le_refl _) _).alloc (by simp) _
  have hr1 : ((w.alloc (.deferred (some []))).alloc (.loop { state := .ready, pending := none, fn, tmps := a.tmps, params := #[p], assign, body, defers := w.heap.size })).heap[w.heap.size + 1]? = some (.loop { state := .ready, pending := none, fn, tmps := a.tmps, params := #[p], assign, body, defers := w.heap.size }) := by
    have := World.alloc_heap_new (w.alloc (.deferred (some []))) (.loop { state := .ready, pending := none, fn, tmps := a.tmps, params := #[p], assign, body, defers := w.heap.size }); rwa [World.size_alloc] at this
  have hd1 : ((w.alloc (.deferred (some []))).alloc (.loop { state := .ready, pending := none, fn, tmps := a.tmps, params := #[p], assign, body, defers := w.heap.size })).heap[w.heap.size]? = some (.deferred (some [])) := (Below.heap_alloc _ _ _ (by simp)).trans (World.alloc_heap_new w _)
  obtain ⟨W1, hW1⟩ : ∃ W1, (w.alloc (.deferred (some []))).alloc (.loop { state := .ready, pending := none, fn, tmps := a.tmps, params := #[p], assign, body, defers := w.heap.size }) = W1 := ⟨_, rfl⟩
  rw [hW1] at hsW hb1 hr1 hd1
  refine ⟨w.heap.size + 1, [{ target := .collected w.heap.size, args := #[] }], W1, { target := .fn (.func gf) lb, args := #[.func (.yield (w.heap.size + 1)) #[] #[]] }, W1, gf, #[.func (.yield (w.heap.size + 1)) #[] #[]] ++ lb, W1, ?_, ?_, fun _ _ => trivial, ?_, fun h => by simp [Fence.wide] at h, ?_⟩
  · rw [← hW1]; exact run_enterLoop_outer _ _ _ _ _
  · simp only [resolve, hg]
    simp [go_sem]
  · simp [invoke, go_sem, eg]
  refine callsIn_wide.2 ((rng_core2 (w := w) hr1 (by omega) hb1 hits hb0 hhi I Ix hI hIx h0 (fun W => W.heap[w.heap.size]? = some (.deferred (some []))) ?_ (fun A o h => (World.putObj_heap_other (by omega)).trans h) (fun A B h hk => hk.own _ _ (Nat.le_refl _) h rfl) hd1 Ax hAx (hassign _) (fun m pre x a' W hr => hbody _ m pre x a' W (by omega) hr)).mono ?_)
  · exact ⟨fun _ A B h hb => (hb.block _ (Array.getElem?_eq_some_iff.1 h).1).trans h, fun _ A k o o' h hk h1 h2 => (World.putObj_heap_other (by rw [hsW] at hk; omega)).trans h⟩
  · rintro e W ⟨⟨v, rfl⟩, ⟨hJ, hr, hx⟩ | ⟨pre, hJ, hr, hx⟩⟩
    · exact ⟨none, _, run_endLoop hr (by simp), hdone _ _ (Nat.le_refl _) (hI.turn _ W _ _ _ hJ (by omega) hr rfl) ((World.putObj_heap_other (by omega)).trans hx)⟩
    · exact ⟨some .ret, _, run_endLoop hr (by simp), hstop _ pre _ (Nat.le_refl _) (hIx.turn _ W _ _ _ hJ (by omega) hr rfl) ((World.putObj_heap_other (by omega)).trans hx)⟩
end
end Go.Proofs.Ytfllcdcgfpjabaa
