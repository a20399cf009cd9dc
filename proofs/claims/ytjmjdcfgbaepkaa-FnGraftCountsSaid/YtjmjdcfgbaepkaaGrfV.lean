/-
  Grafting at all nodes of a level list and of its canonical one gives the same trees, each as often: gone through.
-/
import Derived.Test.YtjmjdcfgbaepkaaGrfP
namespace Go.Proofs.Ytjmjdcfgbaepkaa.Tr
set_option maxRecDepth 100000

def chkGv (u : List Int) : Bool := upTo (8 - u.length) fun v => ((List.range u.length).map fun k => txt (gl u k v)).isPerm ((List.range u.length).map fun k => grfF 8 (txt u) k (txt v)) && (List.range u.length).all fun k => isLv (gl u k v)
theorem chkGv_0 : ((allLv.drop 0).take 9).all chkGv = true := by decide +kernel
theorem chkGv_1 : ((allLv.drop 9).take 14).all chkGv = true := by decide +kernel
theorem chkGv_2 : ((allLv.drop 23).take 21).all chkGv = true := by decide +kernel
theorem chkGv_3 : ((allLv.drop 44).take 21).all chkGv = true := by decide +kernel
theorem chkGv_4 : ((allLv.drop 65).take 66).all chkGv = true := by decide +kernel
theorem chkGv_5 : ((allLv.drop 131).take 66).all chkGv = true := by decide +kernel
theorem all_dropGv {p : List Int → Bool} {l : List (List Int)} {a k b : Nat} (h1 : ((l.drop a).take k).all p = true) (h2 : (l.drop b).all p = true) (e : b = a + k) : (l.drop a).all p = true := by
  subst e
  rw [← List.take_append_drop k (l.drop a), List.all_append, h1, List.drop_drop, h2]; rfl
theorem chkGv_6 : (allLv.drop 197).all chkGv = true := by decide +kernel
theorem chkGv_all : allLv.all chkGv = true := (all_dropGv (a := 0) (k := 9) (b := 9) chkGv_0 (all_dropGv (a := 9) (k := 14) (b := 23) chkGv_1 (all_dropGv (a := 23) (k := 21) (b := 44) chkGv_2 (all_dropGv (a := 44) (k := 21) (b := 65) chkGv_3 (all_dropGv (a := 65) (k := 66) (b := 131) chkGv_4 (all_dropGv (a := 131) (k := 66) (b := 197) chkGv_5 chkGv_6 rfl) rfl) rfl) rfl) rfl) rfl)
theorem graft_perm {u v : List Int} (hu : isLv u = true) (hv : isLv v = true) (h8 : u.length + v.length ≤ 8) :
    ((List.range u.length).map fun k => txt (gl u k v)).Perm ((List.range u.length).map fun k => grfF 8 (txt u) k (txt v)) ∧ ∀ k, k < u.length → isLv (gl u k v) = true := by
  have h1 := all_of chkGv_all (isLv_iff.1 hu)
  unfold chkGv at h1
  have h2 := upTo_of h1 hv (by omega)
  simp only [Bool.and_eq_true, List.all_eq_true, List.mem_range] at h2
  exact ⟨List.isPerm_iff.1 h2.1, fun k hk => h2.2 k hk⟩
end Go.Proofs.Ytjmjdcfgbaepkaa.Tr
