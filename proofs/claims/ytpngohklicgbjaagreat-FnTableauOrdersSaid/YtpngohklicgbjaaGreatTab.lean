/-
  Tableaus in memory: an argument opened; sizes, copies, comparisons, marks.
-/
import Derived.Test.YtpngohklicgbjaaGreatBase
import Derived.Test.YtpngohklicgbjaaGreatNest
import Derived.Test.YtpngohklicgbjaaGreatNestc
import Derived.Test.YtpngohklicgbjaaGreatMarks
import Derived.Deep.SlicePairs
namespace Go.Proofs.YtpngohklicgbjaaGreat
open Go.ChangeShapes Go.WideShapes Go.RowKit Fld
set_option linter.unusedVariables false
set_option linter.unusedSimpArgs false
set_option maxRecDepth 100000

section
variable {H : Type} {enc : TypeId × Value → H} {P : Program} {w : World} {d : DataW H} {ps : List MemPlace}
/-- what came in as a tableau -/
theorem isTab_of {t q r : TypeId} {f0 f1 : Field} {base : Nat} {v : Value} (ht : P.underlying t = some (.struct #[f0, f1])) (ct : P.cellsOf t = 2) (o0 : f0.offset = 0) (o1 : f1.offset = 1)
    (t0 : P.underlying f0.type = some (.slice q)) (t1 : P.underlying f1.type = some (.slice r)) (hq : P.underlying q = some (.slice r)) (hr : P.underlying r = some (.int .i64)) (c0 : P.cellsOf f0.type = 1) (c1 : P.cellsOf f1.type = 1) (cq : P.cellsOf q = 1) (cr : P.cellsOf r = 1)
    (hval : Value.okWide P w .any base t v) (h : DataW.Trod enc P w 0 (fun _ => true) true t v d ps) :
    ∃ A len cap m A' len' cap' b, v = .agg #[.slice A len cap, .slice A' len' cap'] ∧ IsMat w A len cap m ∧ IsRow .i64 w A' len' cap' b := by
  obtain ⟨cs, rfl, hcs⟩ := okWide_struct ht hval
  obtain ⟨fuel, hf⟩ := h
  rw [ct] at hcs
  obtain ⟨y0, y1, n, _, _, g0, g1⟩ := trod_struct2 ht hf
  have hl : cs.toList.length = 2 := by simpa using hcs
  match hcl : cs.toList, hl with
  | [v0, v1], _ =>
    have e : cs = #[v0, v1] := by rw [← Array.toArray_toList (xs := cs), hcl]
    subst e
    simp [Value.cells, o0, o1, c0, c1] at g0 g1
    obtain ⟨Ak, lk, ck, hv0⟩ : ∃ Ak lk ck, v0 = .slice Ak lk ck := by
      rcases Go.Deep.open_int_rows t0 hq hr cq cr g0 with ⟨hcs, _⟩ | ⟨x', l', c', _, _, _, _, hcs, _⟩
      · injection hcs with hcs _; exact ⟨_, _, _, hcs⟩
      · injection hcs with hcs _; exact ⟨_, _, _, hcs⟩
    obtain ⟨Bk, lk', ck', hv1⟩ : ∃ Ak lk ck, v1 = .slice Ak lk ck := by
      rcases open_ints t1 hr cr g1 with ⟨hcs, _⟩ | ⟨x', l', c', _, hcs, _⟩
      · injection hcs with hcs _; exact ⟨_, _, _, hcs⟩
      · injection hcs with hcs _; exact ⟨_, _, _, hcs⟩
    subst hv0 hv1
    obtain ⟨m, hm⟩ := isMat_of (a := Ak) (len := lk) (cap := ck) t0 hq hr cq cr ⟨n, g0⟩
    obtain ⟨b, hb⟩ := isRow_of (a := Bk) (len := lk') (cap := ck') t1 hr cr ⟨n, g1⟩
    exact ⟨Ak, lk, ck, m, Bk, lk', ck', b, rfl, hm, hb⟩
end

theorem below_undrawn {w w' : World} {a : Nat} (h : Below (w.drewN a).heap.size (w.drewN a) w') : Below w.heap.size w w' := ⟨h.os, h.tape, h.output, h.size, h.block⟩
/-- block g holds two values -/
def Bx (w : World) (g : Nat) (T : TypeId) (u v : Value) : Prop := w.heap[g]? = some (.cells #[u, v] T (0, 0))
theorem Bx.c0 {w : World} {g : Nat} {T : TypeId} {u v : Value} (h : Bx w g T u v) : w.cell? ⟨g, 0, none⟩ = some u := by rw [cell_of_row w g 0 _ _ _ h]; rfl
theorem Bx.c1 {w : World} {g : Nat} {T : TypeId} {u v : Value} (h : Bx w g T u v) : w.cell? ⟨g, 1, none⟩ = some v := by rw [cell_of_row w g 1 _ _ _ h]; rfl
theorem Bx.free {w : World} {g : Nat} {T : TypeId} {u v : Value} (h : Bx w g T u v) (k : Nat) : w.frozen? ⟨g, k, none⟩ = false := frozen_of_row w g k _ _ h
theorem Bx.lt {w : World} {g : Nat} {T : TypeId} {u v : Value} (h : Bx w g T u v) : g < w.heap.size := (Array.getElem?_eq_some_iff.1 h).1
theorem Bx.below {w w' : World} {g B : Nat} {T : TypeId} {u v : Value} (h : Bx w g T u v) (hb : Below B w w') (hg : g < B) : Bx w' g T u v := (hb.block g hg).trans h
theorem Bx.next {w w' : World} {g : Nat} {T : TypeId} {u v : Value} (h : Bx w g T u v) (hb : Below w.heap.size w w') : Bx w' g T u v := h.below hb h.lt
theorem Bx.within {w w' : World} {g lo hi : Nat} {T : TypeId} {u v : Value} (h : Bx w g T u v) (hb : Within lo hi w w') (hg : g < lo ∨ hi ≤ g) : Bx w' g T u v := (hb.block g h.lt hg).trans h
theorem Bx.new (w : World) (T : TypeId) (u v : Value) : Bx (w.alloc (.cells #[u, v] T)) w.heap.size T u v := heap_alloc_new w _
theorem Bx.stored {w : World} {g : Nat} {T : TypeId} {u v : Value} (h : Bx w g T u v) (x y : Value) : Bx ((w.setCell ⟨g, 0, none⟩ x).setCell ⟨g, 1, none⟩ y) g T x y := by
  unfold Bx at h ⊢
  have h1 : (w.setCell ⟨g, 0, none⟩ x).heap[g]? = some (.cells #[x, v] T (0, 0)) := by
    simp only [World.setCell, Array.getElem?_modify, if_pos, h, Option.map_some]; rfl
  simp only [World.setCell, Array.getElem?_modify, if_pos, h, Option.map_some] at h1 ⊢; rfl

theorem Within.of_below {lo hi : Nat} {w w' : World} (h : Below w.heap.size w w') : Within lo hi w w' := ⟨h.os, h.tape, h.output, h.size, fun g hg _ => h.block g hg⟩
theorem Within.wide {lo hi lo' hi' : Nat} {w w' : World} (h : Within lo hi w w') (h1 : lo' ≤ lo) (h2 : hi ≤ hi') : Within lo' hi' w w' := ⟨h.os, h.tape, h.output, h.size, fun g hg hd => h.block g hg (by omega)⟩
end Go.Proofs.YtpngohklicgbjaaGreat
