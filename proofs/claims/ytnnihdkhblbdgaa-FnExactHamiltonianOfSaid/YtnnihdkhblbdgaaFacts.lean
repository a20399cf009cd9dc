/-
  Closed facts of the program, one by one.
-/
import Derived.Test.YtnnihdkhblbdgaaBase
namespace Go.Proofs.Ytnnihdkhblbdgaa.Facts
open Go Go.ChangeShapes Go.WideShapes Go.ChangeAt Go.RowKit
theorem and_t {a b : Bool} (h : a = true) (k : b = true) : (a && b) = true := by rw [h, k]; rfl
theorem k2 : (laidOutB Try.prog) = true := by kernel_rfl
theorem k3 : (mapsRowed Try.prog) = true := by kernel_rfl
theorem k7 : (Try.prog.stops == []) = true := by kernel_rfl
theorem k9 : (Try.prog.stopKnobs == []) = true := by kernel_rfl
theorem k23b : (Try.prog.stopsHeard) = true := by kernel_rfl
end Go.Proofs.Ytnnihdkhblbdgaa.Facts
