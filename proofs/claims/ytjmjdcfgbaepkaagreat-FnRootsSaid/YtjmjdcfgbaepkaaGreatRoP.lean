/-
  Rerooting a tree gives one with the same trees, each as often: gone through, the first half.
-/
import Derived.Test.YtjmjdcfgbaepkaaGreatTurP
namespace Go.Proofs.YtjmjdcfgbaepkaaGreat.Tr
set_option maxRecDepth 100000

def chkZ (t : List Int) : Bool := !decide (can t = t) || (List.range t.length).all fun k => (turnsL (turnF 9 t k)).isPerm (turnsL t)
theorem chkZ_0 : ((allLv.drop 0).take 65).all chkZ = true := by decide +kernel
theorem chkZ_1 : ((allLv.drop 65).take 66).all chkZ = true := by decide +kernel
theorem chkZ_2 : ((allLv.drop 131).take 66).all chkZ = true := by decide +kernel
theorem chkZ_3 : ((allLv.drop 197).take 33).all chkZ = true := by decide +kernel
theorem chkZ_4 : ((allLv.drop 230).take 33).all chkZ = true := by decide +kernel
theorem chkZ_5 : ((allLv.drop 263).take 33).all chkZ = true := by decide +kernel
theorem chkZ_6 : ((allLv.drop 296).take 33).all chkZ = true := by decide +kernel
theorem chkZ_7 : ((allLv.drop 329).take 33).all chkZ = true := by decide +kernel
theorem chkZ_8 : ((allLv.drop 362).take 33).all chkZ = true := by decide +kernel
theorem chkZ_9 : ((allLv.drop 395).take 33).all chkZ = true := by decide +kernel
end Go.Proofs.YtjmjdcfgbaepkaaGreat.Tr
