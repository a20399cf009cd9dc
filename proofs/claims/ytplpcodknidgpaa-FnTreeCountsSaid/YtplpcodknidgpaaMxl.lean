/-
  A cell of the library's that strings.Count reads: it holds some integer.
-/
import Derived.Test.YtplpcodknidgpaaBase
import Derived.Test.YtplpcodknidgpaaShelf
import Derived.HandedShaped
namespace Go.Proofs.Ytplpcodknidgpaa
open Go.RowKit
set_option linter.unusedVariables false

def MxCell (w : World) : Prop := ∃ m : Int, w.cell? ⟨Try.laysM138_ren.g 1, 0, none⟩ = some (.int .i64 m)
theorem mx_of (w : World) (h : w.ShapedOpen Try.prog) : MxCell w := Try.laysM138.s1_3 w h
theorem MxCell.below {w w' : World} (h : MxCell w) (hb : Below w.heap.size w w') : MxCell w' := by
  obtain ⟨m, hm⟩ := h
  exact ⟨m, (hb.cell (p := ⟨_, 0, none⟩) (World.block_lt_of_cell? w _ hm)).trans hm⟩
theorem MxCell.next {w w' : World} (h : MxCell w) (hb : Below w.heap.size w w') : MxCell w' := h.below hb
theorem MxCell.drew {w : World} (h : MxCell w) (k : Nat) : MxCell (w.drewN k) := h
end Go.Proofs.Ytplpcodknidgpaa
