/-
  A number that a call hands back.
-/
import Derived.Test.YtplpcodknidgpaaBase
namespace Go.Proofs.Ytplpcodknidgpaa
open Go.RowKit
/-- one number, with memory made -/
def Res1 (r : Int) (w : World) (e : Ending) (w' : World) : Prop := e = .returned (.int .i64 r) ∧ Below w.heap.size w w'
theorem Res1.of {r x : Int} {w w' : World} (h : r = x) (hb : Below w.heap.size w w') : Res1 r w (.returned (.int .i64 x)) w' := by subst h; exact ⟨rfl, hb⟩
end Go.Proofs.Ytplpcodknidgpaa
