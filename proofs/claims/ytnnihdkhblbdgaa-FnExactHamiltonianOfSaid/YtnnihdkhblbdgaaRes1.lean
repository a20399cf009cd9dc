/-
  A list beside a code, as a function of this program hands it back.
-/
import Derived.Test.YtnnihdkhblbdgaaMark1
namespace Go.Proofs.Ytnnihdkhblbdgaa
open Go.RowKit Fld
set_option linter.unusedVariables false
set_option linter.unusedSimpArgs false
set_option maxRecDepth 100000

theorem OwnR.drewN {w : World} {lo hi : Nat} {T : TypeId} {v : Value} {n : Nat} {vs : List Value} (h : OwnR w lo hi T v n vs) (k : Nat) : OwnR (w.drewN k) lo hi T v n vs := h.keep fun _ _ _ => rfl
/-- a list that the call owns, beside a code -/
def ResL (r : List Int × Int) (w : World) (e : Ending) (w' : World) : Prop :=
  r.1.length ≤ 1048576 ∧ ∃ A c, e = .returned (.tuple #[.slice A r.1.length c, .int .i64 r.2]) ∧ w'.ownsRow w.heap.size 2 1 (.slice A r.1.length c) r.1.length (ints r.1) ∧ Below w.heap.size w w'
theorem ResL.nil {r : List Int × Int} {w w' : World} {k : Int} (h : r = ([], k)) (hb : Below w.heap.size w w') : ResL r w (.returned (.tuple #[.slice none 0 0, .int .i64 k])) w' := by
  subst h
  exact ⟨Nat.zero_le _, none, 0, rfl, World.ownsRow_nil .., hb⟩
theorem ResL.of {r : List Int × Int} {w w' : World} {A : Option Addr} {n c : Nat} {xs : List Int} {k : Int} (h : r = (xs, k)) (hl : xs.length = n) (hn : n ≤ 1048576)
    (ho : w'.ownsRow w.heap.size 2 1 (.slice A n c) n (ints xs)) (hb : Below w.heap.size w w') : ResL r w (.returned (.tuple #[.slice A n c, .int .i64 k])) w' := by
  subst h; subst hl
  exact ⟨hn, A, c, rfl, ho, hb⟩
/-- a number beside a code -/
def ResI (r : Int × Int) (w : World) (e : Ending) (w' : World) : Prop :=
  e = .returned (.tuple #[.int .i64 r.1, .int .i64 r.2]) ∧ Below w.heap.size w w'
/-- a test -/
def ResB (b : Bool) (w : World) (e : Ending) (w' : World) : Prop := e = .returned (.bool b) ∧ Below w.heap.size w w'
end Go.Proofs.Ytnnihdkhblbdgaa
