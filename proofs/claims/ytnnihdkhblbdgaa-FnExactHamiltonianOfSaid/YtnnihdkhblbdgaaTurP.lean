/-
  Rerooting a level list and its canonical one gives the same trees, each as often: gone through.
-/
import Derived.Test.YtnnihdkhblbdgaaGrfP
namespace Go.Proofs.Ytnnihdkhblbdgaa.Tr
set_option maxRecDepth 100000

def turnsL (t : List Int) : List (List Int) := (List.range t.length).map (turnF 9 t)
def chkP (t : List Int) : Bool := (turnsL t).isPerm (turnsL (can t))
theorem chkP_0 : ((allLv.drop 0).take 65).all chkP = true := by decide +kernel
theorem chkP_1 : ((allLv.drop 65).take 66).all chkP = true := by decide +kernel
theorem chkP_2 : ((allLv.drop 131).take 66).all chkP = true := by decide +kernel
theorem chkP_3 : ((allLv.drop 197).take 33).all chkP = true := by decide +kernel
theorem chkP_4 : ((allLv.drop 230).take 33).all chkP = true := by decide +kernel
theorem chkP_5 : ((allLv.drop 263).take 33).all chkP = true := by decide +kernel
theorem chkP_6 : ((allLv.drop 296).take 33).all chkP = true := by decide +kernel
theorem chkP_7 : ((allLv.drop 329).take 33).all chkP = true := by decide +kernel
theorem chkP_8 : ((allLv.drop 362).take 33).all chkP = true := by decide +kernel
theorem chkP_9 : ((allLv.drop 395).take 33).all chkP = true := by decide +kernel
theorem chkP_10 : ((allLv.drop 428).take 33).all chkP = true := by decide +kernel
theorem chkP_11 : ((allLv.drop 461).take 33).all chkP = true := by decide +kernel
theorem chkP_12 : ((allLv.drop 494).take 33).all chkP = true := by decide +kernel
theorem chkP_13 : ((allLv.drop 527).take 33).all chkP = true := by decide +kernel
theorem chkP_14 : ((allLv.drop 560).take 33).all chkP = true := by decide +kernel
theorem chkP_15 : ((allLv.drop 593).take 33).all chkP = true := by decide +kernel
theorem all_dropP {p : List Int → Bool} {l : List (List Int)} {a k b : Nat} (h1 : ((l.drop a).take k).all p = true) (h2 : (l.drop b).all p = true) (e : b = a + k) : (l.drop a).all p = true := by
  subst e
  rw [← List.take_append_drop k (l.drop a), List.all_append, h1, List.drop_drop, h2]; rfl
theorem drop_noneP : (allLv.drop 626).all chkP = true := by
  rw [List.drop_of_length_le (by decide +kernel)]; rfl
theorem chkP_all : allLv.all chkP = true := (all_dropP (a := 0) (k := 65) (b := 65) chkP_0 (all_dropP (a := 65) (k := 66) (b := 131) chkP_1 (all_dropP (a := 131) (k := 66) (b := 197) chkP_2 (all_dropP (a := 197) (k := 33) (b := 230) chkP_3 (all_dropP (a := 230) (k := 33) (b := 263) chkP_4 (all_dropP (a := 263) (k := 33) (b := 296) chkP_5 (all_dropP (a := 296) (k := 33) (b := 329) chkP_6 (all_dropP (a := 329) (k := 33) (b := 362) chkP_7 (all_dropP (a := 362) (k := 33) (b := 395) chkP_8 (all_dropP (a := 395) (k := 33) (b := 428) chkP_9 (all_dropP (a := 428) (k := 33) (b := 461) chkP_10 (all_dropP (a := 461) (k := 33) (b := 494) chkP_11 (all_dropP (a := 494) (k := 33) (b := 527) chkP_12 (all_dropP (a := 527) (k := 33) (b := 560) chkP_13 (all_dropP (a := 560) (k := 33) (b := 593) chkP_14 (all_dropP (a := 593) (k := 33) (b := 626) chkP_15 drop_noneP rfl) rfl) rfl) rfl) rfl) rfl) rfl) rfl) rfl) rfl) rfl) rfl) rfl) rfl) rfl) rfl)
theorem turns_perm {t : List Int} (h : isLv t = true) : (turnsL t).Perm (turnsL (can t)) := by
  have h1 := all_of chkP_all (isLv_iff.1 h)
  unfold chkP at h1
  exact List.isPerm_iff.1 h1
end Go.Proofs.Ytnnihdkhblbdgaa.Tr
