/-
  Rows and lists in new blocks: what a call has made, wherever it lies.
-/
import Derived.Test.YtchimobmkmgkmaaTqR
namespace Go.Proofs.Ytchimobmkmgkmaa
open Go.RowKit Fld
set_option linter.unusedVariables false
set_option linter.unusedSimpArgs false
set_option maxRecDepth 100000

/-- values in blocks from lo on -/
def RowF (w : World) (lo : Nat) (A : Option Addr) (vs : List Value) : Prop := ∀ k v, vs[k]? = some v → ∃ b o, A = some ⟨b, o, none⟩ ∧ lo ≤ b ∧ w.cell? ⟨b, o + k, none⟩ = some v
def MatF (w : World) (lo : Nat) (A : Option Addr) (m : List (List Int)) : Prop :=
  ∀ k r, m[k]? = some r → ∃ b o Ak ck, A = some ⟨b, o, none⟩ ∧ lo ≤ b ∧ w.cell? ⟨b, o + k, none⟩ = some (.slice Ak r.length ck) ∧ r.length ≤ ck ∧ ck ≤ maxLen ∧ RowF w lo Ak (ints r)
theorem RowF.row {w : World} {lo : Nat} {A : Option Addr} {vs : List Value} (h : RowF w lo A vs) : Row w w.heap.size A vs := fun k v hv => by
  obtain ⟨b, o, e, _, hc⟩ := h k v hv
  exact ⟨b, o, e, lt_of_cell hc, hc⟩
theorem MatF.mat {w : World} {lo : Nat} {A : Option Addr} {m : List (List Int)} (h : MatF w lo A m) : Mat w w.heap.size A m := fun k r hr => by
  obtain ⟨b, o, Ak, ck, e, _, hc, h1, h2, h3⟩ := h k r hr
  exact ⟨b, o, Ak, ck, e, lt_of_cell hc, hc, h1, h2, h3.row⟩
theorem RowF.keep {w w' : World} {lo : Nat} {A : Option Addr} {vs : List Value} (h : RowF w lo A vs) (hk : ∀ g, lo ≤ g → g < w.heap.size → w'.heap[g]? = w.heap[g]?) : RowF w' lo A vs := fun k v hv => by
  obtain ⟨b, o, e, hl, hc⟩ := h k v hv
  exact ⟨b, o, e, hl, (World.cell?_of_block (a := ⟨b, o + k, none⟩) (hk b hl (lt_of_cell hc))).trans hc⟩
theorem MatF.keep {w w' : World} {lo : Nat} {A : Option Addr} {m : List (List Int)} (h : MatF w lo A m) (hk : ∀ g, lo ≤ g → g < w.heap.size → w'.heap[g]? = w.heap[g]?) : MatF w' lo A m := fun k r hr => by
  obtain ⟨b, o, Ak, ck, e, hl, hc, h1, h2, h3⟩ := h k r hr
  exact ⟨b, o, Ak, ck, e, hl, (World.cell?_of_block (a := ⟨b, o + k, none⟩) (hk b hl (lt_of_cell hc))).trans hc, h1, h2, h3.keep hk⟩
theorem RowF.next {w w' : World} {lo : Nat} {A : Option Addr} {vs : List Value} (h : RowF w lo A vs) (hb : Below w.heap.size w w') : RowF w' lo A vs := h.keep fun g _ hg => hb.block g hg
theorem MatF.next {w w' : World} {lo : Nat} {A : Option Addr} {m : List (List Int)} (h : MatF w lo A m) (hb : Below w.heap.size w w') : MatF w' lo A m := h.keep fun g _ hg => hb.block g hg
theorem RowF.less {w : World} {lo lo' : Nat} {A : Option Addr} {vs : List Value} (h : RowF w lo A vs) (hl : lo' ≤ lo) : RowF w lo' A vs := fun k v hv => by
  obtain ⟨b, o, e, h1, hc⟩ := h k v hv
  exact ⟨b, o, e, by omega, hc⟩
theorem MatF.less {w : World} {lo lo' : Nat} {A : Option Addr} {m : List (List Int)} (h : MatF w lo A m) (hl : lo' ≤ lo) : MatF w lo' A m := fun k r hr => by
  obtain ⟨b, o, Ak, ck, e, h1, hc, h2, h3, h4⟩ := h k r hr
  exact ⟨b, o, Ak, ck, e, by omega, hc, h2, h3, h4.less hl⟩
theorem RowF.of_own {w : World} {lo : Nat} {T : TypeId} {A : Option Addr} {n c : Nat} {vs : List Value} (h : w.ownsRow lo T 1 (.slice A n c) n vs) : RowF w lo A vs := fun k v hv => by
  obtain ⟨b, o, e, _, hc⟩ := row_of_own h k v hv
  exact ⟨b, o, e, by rw [e] at h; exact (h.lt b rfl).1, hc⟩
theorem MatF.of_sys {w : World} {lo hi n c : Nat} {A : Option Addr} {m : List (List Int)} {vs : List Value} (h : OwnSys w lo hi (.slice A n c) n m vs) : MatF w lo A m := fun k r hr => by
  obtain ⟨Ak, ck, h1, h2⟩ := h.inner k r hr
  obtain ⟨b, o, e, hl, hc⟩ := RowF.of_own h.outer.1 k _ h1
  have := own_cap h2.1
  exact ⟨b, o, Ak, ck, e, hl, hc, this.1, this.2, RowF.of_own h2.1⟩
theorem MatF.of_mat {w : World} {lo hi n c : Nat} {A : Option Addr} {m : List (List Int)} {vs : List Value} (h : OwnMat w lo hi (.slice A n c) n m vs) : MatF w lo A m := fun k r hr => by
  obtain ⟨Ak, ck, h1, h2⟩ := h.inner k r hr
  obtain ⟨b, o, e, hl, hc⟩ := RowF.of_own h.outer.1 k _ h1
  have := own_cap h2.1
  exact ⟨b, o, Ak, ck, e, hl, hc, this.1, this.2, RowF.of_own h2.1⟩
theorem MatF.nil (w : World) (lo : Nat) (A : Option Addr) : MatF w lo A [] := fun k r h => by simp at h
theorem RowF.nil (w : World) (lo : Nat) (A : Option Addr) : RowF w lo A [] := fun k r h => by simp at h
theorem MatF.drewN {w : World} {lo : Nat} {A : Option Addr} {m : List (List Int)} (h : MatF w lo A m) (k : Nat) : MatF (w.drewN k) lo A m := h
theorem RowF.drewN {w : World} {lo : Nat} {A : Option Addr} {vs : List Value} (h : RowF w lo A vs) (k : Nat) : RowF (w.drewN k) lo A vs := h

/-- a new pair of rows and a list, in new blocks -/
def NewF (n n' : Nat) (m : List (List Int)) (b : List Int) (w : World) (e : Ending) (w' : World) : Prop :=
  ∃ A c D d, e = .returned (.agg #[.slice A n c, .slice D n' d]) ∧ n ≤ c ∧ n' ≤ d ∧ MatF w' w.heap.size A m ∧ RowF w' w.heap.size D (ints b) ∧ Below w.heap.size w w'
/-- the pair is laid into the result's box -/
theorem NewF.put {w w2 : World} {g lo n c n' d : Nat} {T : TypeId} {u v : Value} {A D : Option Addr} {m : List (List Int)} {b : List Int} (hx : Bx w2 g T u v) (hg : w.heap.size ≤ g) (hlo : g < lo) (hc : n ≤ c) (hd : n' ≤ d) (hm : MatF w2 lo A m) (hr : RowF w2 lo D (ints b)) (hb : Below w.heap.size w w2) :
    Bx ((w2.setCell ⟨g, 0, none⟩ (.slice A n c)).setCell ⟨g, 1, none⟩ (.slice D n' d)) g T (.slice A n c) (.slice D n' d) ∧ NewF n n' m b w (.returned (.agg #[.slice A n c, .slice D n' d])) ((w2.setCell ⟨g, 0, none⟩ (.slice A n c)).setCell ⟨g, 1, none⟩ (.slice D n' d)) := by
  have hk : ∀ k, k ≠ g → ((w2.setCell ⟨g, 0, none⟩ (.slice A n c)).setCell ⟨g, 1, none⟩ (.slice D n' d)).heap[k]? = w2.heap[k]? := fun k hk => by
    rw [Below.heap_setCell _ _ _ _ (by show k ≠ g; exact hk), Below.heap_setCell _ _ _ _ (by show k ≠ g; exact hk)]
  exact ⟨hx.stored _ _, A, c, D, d, rfl, hc, hd, (hm.keep fun k h1 _ => hk k (by omega)).less (by omega), (hr.keep fun k h1 _ => hk k (by omega)).less (by omega), below_set (below_set hb hg _) hg _⟩
theorem NewF.lead {n n' : Nat} {m : List (List Int)} {b : List Int} {w W w' : World} {e : Ending} (hb : Below w.heap.size w W) (h : NewF n n' m b W e w') : NewF n n' m b w e w' := by
  obtain ⟨A, c, D, d, he, hc, hd, hm, hr, h2⟩ := h
  exact ⟨A, c, D, d, he, hc, hd, hm.less hb.size, hr.less hb.size, hb.trans (h2.mono hb.size)⟩
end Go.Proofs.Ytchimobmkmgkmaa
