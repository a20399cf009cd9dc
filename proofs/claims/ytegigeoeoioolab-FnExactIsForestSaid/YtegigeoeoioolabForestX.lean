/-
  What IsForest answers, the program's and the model's.
-/
import Derived.Test.YtegigeoeoioolabForestS
namespace Go.Proofs.Ytegigeoeoioolab
open Go.RowKit Fld
set_option linter.unusedVariables false
set_option maxRecDepth 100000

theorem pIsForest_L (A : Option Addr) (n c B : Nat) (f : List (List Int)) (w : World) (hl : f.length = n) (hn : n + total f ≤ 1048576) (hB : B ≤ w.heap.size) (h : Mat w B A f) :
    Calls Try.prog 45 #[.slice A n c] w (ResB (isFor f) w) := isForest_any A n c B f w hl hn hB h
theorem sIsForest_L (A : Option Addr) (n c B : Nat) (f : List (List Int)) (w : World) (hl : f.length = n) (hn : n + total f ≤ 1048576) (hB : B ≤ w.heap.size) (h : Mat w B A f) :
    Calls Try.prog 44 #[.slice A n c] w (ResB (isFor f) w) := by
  have C0 := l03Forest_any A n c B f w hl hn hB h
  clear hl
  go_enter Try.func44, Try.ntmps44
  go_wp2_with fail
  refine C0.mono ?_
  rintro e w' ⟨rfl, bel⟩
  have G := Lib.hid bel
  clear bel
  go_wp2
  go_ret
  exact ⟨rfl, G.out⟩
end Go.Proofs.Ytegigeoeoioolab
