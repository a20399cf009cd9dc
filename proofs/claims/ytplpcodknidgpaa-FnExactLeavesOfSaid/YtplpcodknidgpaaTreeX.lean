/-
  Trees: the model's test and its canonical lists, beside the program's.
-/
import Derived.Test.YtplpcodknidgpaaCan
import Derived.Test.YtplpcodknidgpaaSCan
namespace Go.Proofs.Ytplpcodknidgpaa
open Go.RowKit Fld
set_option linter.unusedVariables false
set_option linter.unusedSimpArgs false
set_option maxRecDepth 100000

theorem pIsTree_L (A : Option Addr) (n c B : Nat) (t : List Int) (w : World) (hl : t.length = n) (hn : n ≤ 1048576) (hB : B ≤ w.heap.size) (h : Row w B A (ints t)) (hc : n ≤ c) :
    Calls Try.prog 15 #[.slice A n c] w (ResB (isTr t) w) := isTree_any A n c B t w hl (by omega) hc hB h
end Go.Proofs.Ytplpcodknidgpaa
