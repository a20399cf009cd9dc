/-
  A list of the call's own that grows by append.
-/
import Derived.Test.YtnnihdkhblbdgaaSlices
import Derived.Deep.AppendLies
import Derived.Deep.RegionHeld3
import Derived.Outline
namespace Go.Proofs.Ytnnihdkhblbdgaa
open Go.RowKit Fld
set_option linter.unusedVariables false
set_option linter.unusedSimpArgs false
set_option maxRecDepth 100000

theorem grow_ints {xs : List Int} {j : Nat} {x : Int} (h : xs[j]? = some x) : ints (xs.take j) ++ [.int .i64 x] = ints (xs.take (j + 1)) := by
  rw [List.take_add_one, h]; simp [ints, intsK]
/-- a list of the call's own that grows -/
def Growing (w : World) (T : TypeId) (g j cap : Nat) (vs : List Value) (wr : World) : Prop := wr.ownsRow w.heap.size T 1 (.slice (some ⟨g, 0, none⟩) j cap) j vs ∧ Below w.heap.size w wr
theorem Growing.start (w : World) (T : TypeId) : Growing w T w.heap.size 0 0 [] (w.alloc (.cells #[] T)) :=
  ⟨World.ownsRow_lit w #[] 0 (Nat.le_refl _) (Nat.zero_le _) rfl, (Below.refl _ _).alloc (Nat.le_refl _) _⟩
theorem Growing.step {w wr w1 w2 : World} {T : TypeId} {g j cap g2 cap2 : Nat} {vs us : List Value} (h : Growing w T g j cap vs wr) (hb : Below wr.heap.size wr w1) (h2 : w2.ownsRow w.heap.size T 1 (.slice (some ⟨g2, 0, none⟩) (j + 1) cap2) (j + 1) us)
    (hg : w1.grownBy w2 (Value.ownBlock (.slice (some ⟨g, 0, none⟩) j cap))) : Growing w T g2 (j + 1) cap2 us w2 :=
  ⟨h2, (h.2.trans (hb.mono h.2.size)).grown hg (Nat.le_trans h.2.size hb.size) (fun k hk => (h.1.lt k hk).1)⟩
theorem Growing.done {w wr : World} {T : TypeId} {g n cap : Nat} {vs : List Value} (h : Growing w T g n cap vs wr) : NewRow T n vs w (.returned (.slice (some ⟨g, 0, none⟩) n cap)) wr := ⟨_, _, rfl, h.1, h.2⟩
end Go.Proofs.Ytnnihdkhblbdgaa
