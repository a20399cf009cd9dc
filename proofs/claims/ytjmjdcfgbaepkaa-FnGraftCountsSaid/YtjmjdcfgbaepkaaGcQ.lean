/-
  Graft sums against cuts and symmetries: gone through: more.
-/
import Derived.Test.YtjmjdcfgbaepkaaGcP
namespace Go.Proofs.Ytjmjdcfgbaepkaa.Tr
set_option maxRecDepth 100000

theorem chkGc_5 : ((allLv.drop 23).take 10).all chkGc = true := by decide +kernel
theorem chkGc_6 : ((allLv.drop 33).take 11).all chkGc = true := by decide +kernel
theorem chkGc_7 : ((allLv.drop 44).take 10).all chkGc = true := by decide +kernel
theorem chkGc_8 : ((allLv.drop 54).take 11).all chkGc = true := by decide +kernel
end Go.Proofs.Ytjmjdcfgbaepkaa.Tr
