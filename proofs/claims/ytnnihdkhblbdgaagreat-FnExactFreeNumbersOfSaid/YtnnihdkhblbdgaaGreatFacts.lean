/-
  Closed facts of the program, one by one.
-/
import Derived.Test.YtnnihdkhblbdgaaGreatBase
namespace Go.Proofs.YtnnihdkhblbdgaaGreat.Facts
open Go Go.ChangeShapes Go.WideShapes Go.ChangeAt Go.RowKit
theorem and_t {a b : Bool} (h : a = true) (k : b = true) : (a && b) = true := by rw [h, k]; rfl
theorem k2 : (laidOutB Tryz.prog) = true := by kernel_rfl
theorem k3 : (mapsRowed Tryz.prog) = true := by kernel_rfl
theorem k7 : (Tryz.prog.stops == []) = true := by kernel_rfl
theorem k9 : (Tryz.prog.stopKnobs == []) = true := by kernel_rfl
theorem k23b : (Tryz.prog.stopsHeard) = true := by kernel_rfl
end Go.Proofs.YtnnihdkhblbdgaaGreat.Facts
