/-
  Graft sums against cuts and symmetries: gone through.
-/
import Derived.Test.YtjmjdcfgbaepkaaSumP
import Derived.Test.YtjmjdcfgbaepkaaGrfU
import Derived.Test.YtjmjdcfgbaepkaaTreeF
namespace Go.Proofs.Ytjmjdcfgbaepkaa.Tr
set_option maxRecDepth 100000

/-- the graft sum, plainly -/
def gsP (u v : List Int) : List (List Int × Int) := sumTo (fun k => can (gl u k v)) u.length
def okG (z : Int) : Bool := decide (0 ≤ z ∧ z ≤ 1000000000)
theorem okG_iff {z : Int} : okG z = true ↔ 0 ≤ z ∧ z ≤ 1000000000 := by simp [okG]
def chkGc (u : List Int) : Bool := upTo (8 - u.length) fun v => okG (syM u) && okG (syM v) && (gsP u v).all fun p => let c : Int := (cntT (txt p.1) (txt u) (txt v) (p.1.length - 1) : Nat)
  decide (p.2 * syM p.1 = c * syM u * syM v) && okG (syM p.1) && okG (c * syM u) && okG (c * syM u * syM v)
theorem chkGc_0 : ((allLv.drop 0).take 2).all chkGc = true := by decide +kernel
theorem chkGc_1 : ((allLv.drop 2).take 2).all chkGc = true := by decide +kernel
theorem chkGc_2 : ((allLv.drop 4).take 5).all chkGc = true := by decide +kernel
theorem chkGc_3 : ((allLv.drop 9).take 7).all chkGc = true := by decide +kernel
theorem chkGc_4 : ((allLv.drop 16).take 7).all chkGc = true := by decide +kernel
end Go.Proofs.Ytjmjdcfgbaepkaa.Tr
