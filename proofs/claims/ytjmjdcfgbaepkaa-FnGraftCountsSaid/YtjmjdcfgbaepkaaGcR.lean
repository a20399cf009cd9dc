/-
  Graft sums against cuts and symmetries: gone through: the end.
-/
import Derived.Test.YtjmjdcfgbaepkaaGcQ
namespace Go.Proofs.Ytjmjdcfgbaepkaa.Tr
set_option maxRecDepth 100000

theorem chkGc_9 : ((allLv.drop 65).take 33).all chkGc = true := by decide +kernel
theorem chkGc_10 : ((allLv.drop 98).take 33).all chkGc = true := by decide +kernel
theorem chkGc_11 : ((allLv.drop 131).take 33).all chkGc = true := by decide +kernel
theorem chkGc_12 : ((allLv.drop 164).take 33).all chkGc = true := by decide +kernel
theorem all_dropGc {p : List Int → Bool} {l : List (List Int)} {a k b : Nat} (h1 : ((l.drop a).take k).all p = true) (h2 : (l.drop b).all p = true) (e : b = a + k) : (l.drop a).all p = true := by
  subst e
  rw [← List.take_append_drop k (l.drop a), List.all_append, h1, List.drop_drop, h2]; rfl
theorem chkGc_13 : (allLv.drop 197).all chkGc = true := by decide +kernel
theorem chkGc_all : allLv.all chkGc = true := (all_dropGc (a := 0) (k := 2) (b := 2) chkGc_0 (all_dropGc (a := 2) (k := 2) (b := 4) chkGc_1 (all_dropGc (a := 4) (k := 5) (b := 9) chkGc_2 (all_dropGc (a := 9) (k := 7) (b := 16) chkGc_3 (all_dropGc (a := 16) (k := 7) (b := 23) chkGc_4 (all_dropGc (a := 23) (k := 10) (b := 33) chkGc_5 (all_dropGc (a := 33) (k := 11) (b := 44) chkGc_6 (all_dropGc (a := 44) (k := 10) (b := 54) chkGc_7 (all_dropGc (a := 54) (k := 11) (b := 65) chkGc_8 (all_dropGc (a := 65) (k := 33) (b := 98) chkGc_9 (all_dropGc (a := 98) (k := 33) (b := 131) chkGc_10 (all_dropGc (a := 131) (k := 33) (b := 164) chkGc_11 (all_dropGc (a := 164) (k := 33) (b := 197) chkGc_12 chkGc_13 rfl) rfl) rfl) rfl) rfl) rfl) rfl) rfl) rfl) rfl) rfl) rfl) rfl)
theorem gc_parts {u v : List Int} (hu : isLv u = true) (hv : isLv v = true) (h8 : u.length + v.length ≤ 8) :
    (0 ≤ syM u ∧ syM u ≤ 1000000000) ∧ (0 ≤ syM v ∧ syM v ≤ 1000000000) ∧ ∀ p ∈ gsP u v, p.2 * syM p.1 = ((cntT (txt p.1) (txt u) (txt v) (p.1.length - 1) : Nat) : Int) * syM u * syM v ∧ (0 ≤ syM p.1 ∧ syM p.1 ≤ 1000000000) ∧
      (0 ≤ ((cntT (txt p.1) (txt u) (txt v) (p.1.length - 1) : Nat) : Int) * syM u ∧ ((cntT (txt p.1) (txt u) (txt v) (p.1.length - 1) : Nat) : Int) * syM u ≤ 1000000000) ∧
      (0 ≤ ((cntT (txt p.1) (txt u) (txt v) (p.1.length - 1) : Nat) : Int) * syM u * syM v ∧ ((cntT (txt p.1) (txt u) (txt v) (p.1.length - 1) : Nat) : Int) * syM u * syM v ≤ 1000000000) := by
  have h1 := all_of chkGc_all (isLv_iff.1 hu)
  unfold chkGc at h1
  have h2 := upTo_of h1 hv (by omega)
  simp only [Bool.and_eq_true, List.all_eq_true, okG_iff, decide_eq_true_eq] at h2
  exact ⟨h2.1.1, h2.1.2, fun p hp => ⟨(h2.2 p hp).1.1.1, (h2.2 p hp).1.1.2, (h2.2 p hp).1.2, (h2.2 p hp).2⟩⟩
end Go.Proofs.Ytjmjdcfgbaepkaa.Tr
