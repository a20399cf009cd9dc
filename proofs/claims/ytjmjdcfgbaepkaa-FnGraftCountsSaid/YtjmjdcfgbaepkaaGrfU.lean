/-
  All cuts of a list and of its text, gone through.
-/
import Derived.Test.YtjmjdcfgbaepkaaGrfP
namespace Go.Proofs.Ytjmjdcfgbaepkaa.Tr
set_option maxRecDepth 100000

def cutsT (x : List UInt8) (n : Nat) : List (List UInt8 × List UInt8) := (List.range n).map fun k => cutF 8 x (k + 1)
def cutsL (t : List Int) (n : Nat) : List (List UInt8 × List UInt8) := (List.range n).map fun k => (txt (trunkL t (k + 1)), txt (branchL t (k + 1)))
def chkU (t : List Int) : Bool := (cutsL t (t.length - 1)).isPerm (cutsT (txt t) (t.length - 1)) && (List.range (t.length - 1)).all fun k => isLv (trunkL t (k + 1)) && isLv (branchL t (k + 1))
theorem chkU_0 : ((allLv.drop 0).take 197).all chkU = true := by decide +kernel
theorem chkU_1 : ((allLv.drop 197).take 48).all chkU = true := by decide +kernel
theorem chkU_2 : ((allLv.drop 245).take 50).all chkU = true := by decide +kernel
theorem chkU_3 : ((allLv.drop 295).take 50).all chkU = true := by decide +kernel
theorem chkU_4 : ((allLv.drop 345).take 50).all chkU = true := by decide +kernel
theorem chkU_5 : ((allLv.drop 395).take 50).all chkU = true := by decide +kernel
theorem chkU_6 : ((allLv.drop 445).take 50).all chkU = true := by decide +kernel
theorem chkU_7 : ((allLv.drop 495).take 50).all chkU = true := by decide +kernel
theorem chkU_8 : ((allLv.drop 545).take 50).all chkU = true := by decide +kernel
theorem chkU_9 : ((allLv.drop 595).take 105).all chkU = true := by decide +kernel
theorem all_dropU {p : List Int → Bool} {l : List (List Int)} {a k : Nat} (h1 : ((l.drop a).take k).all p = true) (h2 : (l.drop (a + k)).all p = true) : (l.drop a).all p = true := by
  rw [← List.take_append_drop k (l.drop a), List.all_append, h1, List.drop_drop, h2]; rfl
theorem drop_noneU : (allLv.drop 700).all chkU = true := by
  rw [List.drop_of_length_le (by decide +kernel)]; rfl
theorem chkU_all : allLv.all chkU = true :=
  all_dropU (a := 0) (k := 197) chkU_0 (all_dropU (a := 197) (k := 48) chkU_1 (all_dropU (a := 245) (k := 50) chkU_2 (all_dropU (a := 295) (k := 50) chkU_3 (all_dropU (a := 345) (k := 50) chkU_4 (all_dropU (a := 395) (k := 50) chkU_5 (all_dropU (a := 445) (k := 50) chkU_6 (all_dropU (a := 495) (k := 50) chkU_7 (all_dropU (a := 545) (k := 50) chkU_8 (all_dropU (a := 595) (k := 105) chkU_9 drop_noneU)))))))))
theorem cuts_perm {t : List Int} (h : isLv t = true) : (cutsL t (t.length - 1)).Perm (cutsT (txt t) (t.length - 1)) := by
  have h1 := all_of chkU_all (isLv_iff.1 h)
  unfold chkU at h1
  rw [Bool.and_eq_true] at h1
  exact List.isPerm_iff.1 h1.1
theorem cuts_lv {t : List Int} (h : isLv t = true) {k : Nat} (h1 : 1 ≤ k) (hk : k < t.length) : isLv (trunkL t k) = true ∧ isLv (branchL t k) = true := by
  have h2 := all_of chkU_all (isLv_iff.1 h)
  unfold chkU at h2
  rw [Bool.and_eq_true, List.all_eq_true] at h2
  have h3 := h2.2 (k - 1) (by rw [List.mem_range]; omega)
  rw [show k - 1 + 1 = k from by omega, Bool.and_eq_true] at h3
  exact h3
/-- how many of the first n are both -/
def cntT (x : List UInt8) (a b : List UInt8) (n : Nat) : Nat := (cutsT x n).countP fun p => decide (p.1 = a) && decide (p.2 = b)
def cntL (t : List Int) (a b : List UInt8) (n : Nat) : Nat := (cutsL t n).countP fun p => decide (p.1 = a) && decide (p.2 = b)
theorem cnt_eq {t : List Int} (h : isLv t = true) (a b : List UInt8) : cntL t a b (t.length - 1) = cntT (txt t) a b (t.length - 1) := by
  unfold cntL cntT
  exact (cuts_perm h).countP_eq _
theorem cntT_step (x a b : List UInt8) (n : Nat) : cntT x a b (n + 1) = cntT x a b n + (if (cutF 8 x (n + 1)).1 = a ∧ (cutF 8 x (n + 1)).2 = b then 1 else 0) := by
  unfold cntT cutsT
  rw [List.range_succ, List.map_append, List.countP_append]
  congr 1
  simp only [List.map_cons, List.map_nil, List.countP_cons, List.countP_nil, Nat.zero_add]
  by_cases h : (cutF 8 x (n + 1)).1 = a ∧ (cutF 8 x (n + 1)).2 = b
  · rw [if_pos h, if_pos (by simp [h.1, h.2])]
  · rw [if_neg h, if_neg (by
      intro e
      simp only [Bool.and_eq_true, decide_eq_true_eq] at e
      exact h e)]
theorem cntL_step (t : List Int) (a b : List UInt8) (n : Nat) : cntL t a b (n + 1) = cntL t a b n + (if txt (trunkL t (n + 1)) = a ∧ txt (branchL t (n + 1)) = b then 1 else 0) := by
  unfold cntL cutsL
  rw [List.range_succ, List.map_append, List.countP_append]
  congr 1
  simp only [List.map_cons, List.map_nil, List.countP_cons, List.countP_nil, Nat.zero_add]
  by_cases h : txt (trunkL t (n + 1)) = a ∧ txt (branchL t (n + 1)) = b
  · rw [if_pos h, if_pos (by simp [h.1, h.2])]
  · rw [if_neg h, if_neg (by
      intro e
      simp only [Bool.and_eq_true, decide_eq_true_eq] at e
      exact h e)]
theorem cntT_le (x a b : List UInt8) (n : Nat) : cntT x a b n ≤ n := by
  unfold cntT
  have := List.countP_le_length (p := fun p : List UInt8 × List UInt8 => decide (p.1 = a) && decide (p.2 = b)) (l := cutsT x n)
  unfold cutsT at *
  rw [List.length_map, List.length_range] at this
  exact this
theorem cntL_le (t : List Int) (a b : List UInt8) (n : Nat) : cntL t a b n ≤ n := by
  unfold cntL
  have := List.countP_le_length (p := fun p : List UInt8 × List UInt8 => decide (p.1 = a) && decide (p.2 = b)) (l := cutsL t n)
  unfold cutsL at *
  rw [List.length_map, List.length_range] at this
  exact this
theorem txt_can_iff {a b : List Int} (ha : isLv a = true) (hb : isLv b = true) (h : ∀ t, isLv t = true → lvl (txt t) = can t) : (can a = can b) ↔ (txt a = txt b) :=
  ⟨fun e => by rw [← (can_can ha).2, ← (can_can hb).2, e], fun e => by rw [← h a ha, ← h b hb, e]⟩
end Go.Proofs.Ytjmjdcfgbaepkaa.Tr
