/-
  Results laid into their box: tableaus beside codes.
-/
import Derived.Test.YtchimobmkmgkmaaTqF
namespace Go.Proofs.Ytchimobmkmgkmaa
open Go.RowKit Fld
set_option linter.unusedVariables false
set_option linter.unusedSimpArgs false
set_option maxRecDepth 100000

theorem results_boxed {P : Program} {fn : Func} {p u : Tmp} {ty : TypeId} (h : fn.results = #[.cell p ty, .tmp u]) (tmps : Array Value) (w : World) (g : Nat) (t : TypeId) (cs : Array Value) (fr : Nat × Nat) (d : TypeDesc) (x : Value)
    (hp : tmps.getD p undef = .pointer (some ⟨g, 0, none⟩)) (hg : w.heap[g]? = some (.cells cs t fr))
    (hu : P.underlying ty = some d) (hd : (match d with | .struct _ | .array _ _ => true | _ => false) = true) (hi : (P.info? ty).map (·.size) = some cs.size) (hx : tmps.getD u undef = x) :
    (results fn tmps).run P w = .ok (.tuple #[.agg cs, x]) w := by
  rw [results_box h tmps w g t cs fr d hp hg hu hd hi, hx]
theorem ResT.put {w w5 : World} {g lo mid n c n' d : Nat} {A D : Option Addr} {m : List (List Int)} {b : List Int} {vs : List Value} {T : TypeId} {u v : Value} {r : (List (List Int) × List Int) × Int} {k : Int} (hr : r = ((m, b), k)) (hl : m.length = n) (hl' : b.length = n') (h8 : n ≤ 8) (h8' : n' ≤ 8) (ht : total m ≤ 64) (hx : Bx w5 g T u v) (hg : w.heap.size ≤ g) (hlo : g < lo) (hlm : lo ≤ mid) (hm : mid ≤ w5.heap.size)
    (o : OwnMat w5 lo mid (.slice A n c) n m vs) (p : OwnR w5 mid w5.heap.size 2 (.slice D n' d) n' (ints b)) (hb : Below w.heap.size w w5) :
    Bx ((w5.setCell ⟨g, 0, none⟩ (.slice A n c)).setCell ⟨g, 1, none⟩ (.slice D n' d)) g T (.slice A n c) (.slice D n' d) ∧ ResT r w (.returned (.tuple #[.agg #[.slice A n c, .slice D n' d], .int .i64 k])) ((w5.setCell ⟨g, 0, none⟩ (.slice A n c)).setCell ⟨g, 1, none⟩ (.slice D n' d)) := by
  have hk : ∀ k, k ≠ g → ((w5.setCell ⟨g, 0, none⟩ (.slice A n c)).setCell ⟨g, 1, none⟩ (.slice D n' d)).heap[k]? = w5.heap[k]? := fun k hk => by
    rw [Below.heap_setCell _ _ _ _ (by show k ≠ g; exact hk), Below.heap_setCell _ _ _ _ (by show k ≠ g; exact hk)]
  have hs : ((w5.setCell ⟨g, 0, none⟩ (.slice A n c)).setCell ⟨g, 1, none⟩ (.slice D n' d)).heap.size = w5.heap.size := by simp [World.setCell]
  subst hr hl hl'
  refine ⟨hx.stored _ _, ⟨h8, ht, h8'⟩, A, c, vs, D, d, mid, rfl, by omega, by rw [hs]; exact hm, (o.keep fun k h1 _ => hk k (by omega)).more (by omega) (Nat.le_refl _), ?_, below_set (below_set hb hg _) hg _⟩
  rw [hs]; exact p.keep fun k h1 _ => hk k (by omega)
theorem ResTL.put {w w5 : World} {g lo n c n' d : Nat} {A D : Option Addr} {m : List (List Int)} {b : List Int} {T : TypeId} {u v : Value} {r : (List (List Int) × List Int) × Int} {k : Int} (hr : r = ((m, b), k)) (hl : m.length = n) (hl' : b.length = n') (h8 : n ≤ 8) (h8' : n' ≤ 8) (ht : total m ≤ 64) (hx : Bx w5 g T u v) (hg : w.heap.size ≤ g) (hlo : g < lo)
    (o : MatF w5 lo A m) (p : RowF w5 lo D (ints b)) (hb : Below w.heap.size w w5) :
    Bx ((w5.setCell ⟨g, 0, none⟩ (.slice A n c)).setCell ⟨g, 1, none⟩ (.slice D n' d)) g T (.slice A n c) (.slice D n' d) ∧ ResTL r w (.returned (.tuple #[.agg #[.slice A n c, .slice D n' d], .int .i64 k])) ((w5.setCell ⟨g, 0, none⟩ (.slice A n c)).setCell ⟨g, 1, none⟩ (.slice D n' d)) := by
  have hk : ∀ k, k ≠ g → ((w5.setCell ⟨g, 0, none⟩ (.slice A n c)).setCell ⟨g, 1, none⟩ (.slice D n' d)).heap[k]? = w5.heap[k]? := fun k hk => by
    rw [Below.heap_setCell _ _ _ _ (by show k ≠ g; exact hk), Below.heap_setCell _ _ _ _ (by show k ≠ g; exact hk)]
  subst hr hl hl'
  exact ⟨hx.stored _ _, ⟨h8, ht, h8'⟩, A, c, D, d, rfl, (o.keep fun k h1 _ => hk k (by omega)).mat, (p.keep fun k h1 _ => hk k (by omega)).row, below_set (below_set hb hg _) hg _⟩
theorem scaleM_wide {m : List (List Int)} {q : Nat} (y : Int) (h : Wide m q) : Wide (scaleM y m) q := fun r hr => by
  unfold scaleM at hr; obtain ⟨x, hx, rfl⟩ := List.mem_map.1 hr; rw [scaleL_length]; exact h x hx
theorem scale_ok {m : List (List Int)} {b : List Int} {n : Nat} (y : Int) (h : SchOk m b n) : SchOk (scaleM y m) (scaleL y b) n := h.map (q := 0) (g := scaleL y) (fun r hr => (scaleL_length y r).trans hr) (fun r => scaleL_num y r)
theorem inv_ok {m : List (List Int)} {b : List Int} {n : Nat} (h : SchOk m b n) : SchOk (invM m b) (negL b) n := by
  refine ⟨(invM_length m b).trans h.len, (negL_length b).trans h.lenb, fun r hr => ?_, fun r hr => ?_, negL_num b⟩
  · unfold invM at hr; obtain ⟨x, hx, rfl⟩ := List.mem_map.1 hr; rw [lessL_length (by rw [h.wide x hx, h.lenb])]; exact h.wide x hx
  · unfold invM at hr; obtain ⟨x, hx, rfl⟩ := List.mem_map.1 hr; exact lessL_num b x
/-- a tableau known by its cells, below a bound: the model's -/
def LowT (w : World) (hi : Nat) (A : Option Addr) (m : List (List Int)) (D : Option Addr) (b : List Int) : Prop := Mat w hi A m ∧ Row w hi D (ints b)
theorem LowT.below {w w' : World} {hi B : Nat} {A D : Option Addr} {m : List (List Int)} {b : List Int} (h : LowT w hi A m D b) (hb : Below B w w') (hB : hi ≤ B) : LowT w' hi A m D b := ⟨h.1.below hb hB, h.2.below hb hB⟩
theorem LowT.within {w w' : World} {hi lo' hi' : Nat} {A D : Option Addr} {m : List (List Int)} {b : List Int} (h : LowT w hi A m D b) (hb : Within lo' hi' w w') (hs : hi ≤ w.heap.size) (hd : hi ≤ lo') : LowT w' hi A m D b :=
  ⟨Mat.keep h.1 fun b o hbb => World.cell?_of_block (hb.block b (by omega) (by omega)), Row.keep h.2 fun b o hbb => World.cell?_of_block (hb.block b (by omega) (by omega))⟩
theorem LowT.mat {w : World} {hi : Nat} {A D : Option Addr} {m : List (List Int)} {b : List Int} (h : LowT w hi A m D b) : Mat w hi A m := h.1
theorem LowT.row {w : World} {hi : Nat} {A D : Option Addr} {m : List (List Int)} {b : List Int} (h : LowT w hi A m D b) : Row w hi D (ints b) := h.2
end Go.Proofs.Ytchimobmkmgkmaa
