/-
  A free tree is superfluous where a tree's product with itself is one of its trees: gone through.
-/
import Derived.Test.YtjmjdcfgbaepkaaGreatTurP
import Derived.Test.YtjmjdcfgbaepkaaGreatSupP
namespace Go.Proofs.YtjmjdcfgbaepkaaGreat.Tr
set_option maxRecDepth 100000

def halfP (t : List Int) : Bool := (treesL (t.length / 2)).any fun h => (turnsL t).any fun u => decide (u = can (gl h 0 h))
def chkY (t : List Int) : Bool := !decide (can t = t) || (decide (t.length % 2 = 0) && halfP t) == supT (txt t)
theorem chkY_0 : ((allLv.drop 0).take 197).all chkY = true := by decide +kernel
theorem chkY_1 : ((allLv.drop 197).take 143).all chkY = true := by decide +kernel
theorem chkY_2 : ((allLv.drop 340).take 143).all chkY = true := by decide +kernel
theorem chkY_3 : ((allLv.drop 483).take 143).all chkY = true := by decide +kernel
theorem drop_noneY : (allLv.drop 626).all chkY = true := by
  rw [List.drop_of_length_le (by decide +kernel)]; rfl
theorem chkY_all : allLv.all chkY = true := all_dropP (a := 0) (k := 197) (b := 197) chkY_0 (all_dropP (a := 197) (k := 143) (b := 340) chkY_1 (all_dropP (a := 340) (k := 143) (b := 483) chkY_2 (all_dropP (a := 483) (k := 143) (b := 626) chkY_3 drop_noneY rfl) rfl) rfl) rfl
theorem sup_half {t : List Int} (h : isLv t = true) (hc : can t = t) : (decide (t.length % 2 = 0) && halfP t) = supT (txt t) := by
  have h1 := all_of chkY_all (isLv_iff.1 h)
  unfold chkY at h1
  rw [hc] at h1
  simpa using h1
end Go.Proofs.YtjmjdcfgbaepkaaGreat.Tr
