/-
  Superfluous free trees, gone through.
-/
import Derived.Test.YtjmjdcfgbaepkaaGreatGrfP
namespace Go.Proofs.YtjmjdcfgbaepkaaGreat.Tr
set_option maxRecDepth 100000

def halfL (t : List Int) (k : Nat) : Bool := decide ((trunkL t k).length = (branchL t k).length) && decide (turnF 9 (trunkL t k) (parL t (t.getD k 0 - 1) k) = can (branchL t k))
def doubleL (t : List Int) (n : Nat) : Bool := (List.range n).any fun k => halfL t (k + 1)
def sqT (x b : List UInt8) : Bool := decide (rootT (brT b ++ [b]) = x)
def supT (x : List UInt8) : Bool := ((List.range (x.length / 2)).map fun k => rerF 8 x k []).any fun y => (brT y).any (sqT y)
def chkW (t : List Int) : Bool := !decide (can t = t) || (doubleL t (t.length - 1) == supT (txt t))
theorem chkW_0 : ((allLv.drop 0).take 197).all chkW = true := by decide +kernel
theorem chkW_1 : ((allLv.drop 197).take 73).all chkW = true := by decide +kernel
theorem chkW_2 : ((allLv.drop 270).take 70).all chkW = true := by decide +kernel
theorem chkW_3 : ((allLv.drop 340).take 70).all chkW = true := by decide +kernel
theorem chkW_4 : ((allLv.drop 410).take 70).all chkW = true := by decide +kernel
theorem chkW_5 : ((allLv.drop 480).take 70).all chkW = true := by decide +kernel
theorem chkW_6 : ((allLv.drop 550).take 150).all chkW = true := by decide +kernel
theorem all_dropW {p : List Int → Bool} {l : List (List Int)} {a k : Nat} (h1 : ((l.drop a).take k).all p = true) (h2 : (l.drop (a + k)).all p = true) : (l.drop a).all p = true := by
  rw [← List.take_append_drop k (l.drop a), List.all_append, h1, List.drop_drop, h2]; rfl
theorem drop_noneW : (allLv.drop 700).all chkW = true := by
  rw [List.drop_of_length_le (by decide +kernel)]; rfl
theorem chkW_all : allLv.all chkW = true :=
  all_dropW (a := 0) (k := 197) chkW_0 (all_dropW (a := 197) (k := 73) chkW_1 (all_dropW (a := 270) (k := 70) chkW_2 (all_dropW (a := 340) (k := 70) chkW_3 (all_dropW (a := 410) (k := 70) chkW_4 (all_dropW (a := 480) (k := 70) chkW_5 (all_dropW (a := 550) (k := 150) chkW_6 drop_noneW))))))
theorem sup_eq {t : List Int} (h : isLv t = true) (hc : can t = t) : doubleL t (t.length - 1) = supT (txt t) := by
  have h1 := all_of chkW_all (isLv_iff.1 h)
  unfold chkW at h1
  rw [decide_eq_true hc] at h1
  simpa using h1
theorem doubleL_step (t : List Int) (n : Nat) : doubleL t (n + 1) = (doubleL t n || halfL t (n + 1)) := by
  unfold doubleL
  rw [List.range_succ, List.any_append]; simp
end Go.Proofs.YtjmjdcfgbaepkaaGreat.Tr
