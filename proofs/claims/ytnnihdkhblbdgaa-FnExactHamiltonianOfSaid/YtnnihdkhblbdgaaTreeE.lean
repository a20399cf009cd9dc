/-
  Branches of texts; densities, gone through.
-/
import Derived.Test.YtnnihdkhblbdgaaTreeC5
namespace Go.Proofs.Ytnnihdkhblbdgaa.Tr
set_option maxRecDepth 100000

/-- the text of a tree -/
def isTx (x : List UInt8) : Bool := isLv (lvl x) && (txt (lvl x) == x)
theorem tx_mem {x : List UInt8} (h : isTx x = true) : x ∈ allT := by
  unfold isTx at h
  simp only [Bool.and_eq_true, beq_iff_eq] at h
  rw [← h.2]; exact txt_mem h.1
theorem tx_of {p : List UInt8 → Bool} (h : allT.all p = true) {x : List UInt8} (hx : isTx x = true) : p x = true := List.all_eq_true.1 h x (tx_mem hx)
def chkT (t : List Int) : Bool := isTx (txt t)
theorem chkT_all : allLv.all chkT = true := by decide +kernel
theorem tx_txt {t : List Int} (h : isLv t = true) : isTx (txt t) = true := all_of chkT_all (isLv_iff.1 h)
/-- a product, factor by factor -/
def mulK {α : Type} (f : α → Int) (a : Int) (l : List α) (k : Nat) : Int := (l.take k).foldl (fun o x => o * f x) a
theorem mulK_zero {α : Type} (f : α → Int) (a : Int) (l : List α) : mulK f a l 0 = a := rfl
theorem mulK_step {α : Type} {f : α → Int} {a : Int} {l : List α} {k : Nat} {x : α} (h : l[k]? = some x) : mulK f a l (k + 1) = mulK f a l k * f x := by
  unfold mulK
  rw [List.take_add_one, h, Option.toList_some, List.foldl_append]; rfl
def small (z : Int) : Bool := decide (1 ≤ z ∧ z ≤ 1000000)
theorem small_iff {z : Int} : small z = true ↔ 1 ≤ z ∧ z ≤ 1000000 := by simp [small]
def chkB (x : List UInt8) : Bool := decide (2 ≤ x.length) && decide (x.length ≤ 16) && (brT x).all (fun b => isTx b && decide (b.length < x.length)) && decide ((brT x).length ≤ 7)
theorem chkB_all : allT.all chkB = true := by decide +kernel
theorem br_parts {x : List UInt8} (h : isTx x = true) : (2 ≤ x.length ∧ x.length ≤ 16) ∧ (∀ b ∈ brT x, isTx b = true ∧ b.length < x.length) ∧ (brT x).length ≤ 7 := by
  have h1 := tx_of chkB_all h
  unfold chkB at h1
  simp only [Bool.and_eq_true, decide_eq_true_eq, List.all_eq_true] at h1
  exact ⟨h1.1.1, h1.1.2, h1.2⟩
def den (x : List UInt8) : Int := denF 8 x
def denM (t : List Int) : Int := denL 8 t
def chkD (x : List UInt8) : Bool := decide (den x = mulK den ((x.length / 2 : Nat) : Int) (brT x) (brT x).length) && (List.range ((brT x).length + 1)).all (fun k => small (mulK den ((x.length / 2 : Nat) : Int) (brT x) k))
theorem chkD_all : allT.all chkD = true := by decide +kernel
theorem den_parts {x : List UInt8} (h : isTx x = true) : den x = mulK den ((x.length / 2 : Nat) : Int) (brT x) (brT x).length ∧ ∀ k, k ≤ (brT x).length → 1 ≤ mulK den ((x.length / 2 : Nat) : Int) (brT x) k ∧ mulK den ((x.length / 2 : Nat) : Int) (brT x) k ≤ 1000000 := by
  have h1 := tx_of chkD_all h
  unfold chkD at h1
  simp only [Bool.and_eq_true, decide_eq_true_eq, List.all_eq_true, List.mem_range, small_iff] at h1
  exact ⟨h1.1, fun k hk => h1.2 k (by omega)⟩
theorem den_bd {x : List UInt8} (h : isTx x = true) : 1 ≤ den x ∧ den x ≤ 1000000 := by
  have h1 := den_parts h
  rw [h1.1]; exact h1.2 _ (Nat.le_refl _)
def chkE (t : List Int) : Bool := decide (denM t = mulK denM (t.length : Int) (partsL t) (partsL t).length) && (List.range ((partsL t).length + 1)).all (fun k => small (mulK denM (t.length : Int) (partsL t) k)) && decide (den (txt t) = denM t)
theorem chkE_all : allLv.all chkE = true := by decide +kernel
theorem denM_parts {t : List Int} (h : isLv t = true) : (denM t = mulK denM (t.length : Int) (partsL t) (partsL t).length ∧ ∀ k, k ≤ (partsL t).length → 1 ≤ mulK denM (t.length : Int) (partsL t) k ∧ mulK denM (t.length : Int) (partsL t) k ≤ 1000000) ∧ den (txt t) = denM t := by
  have h1 := all_of chkE_all (isLv_iff.1 h)
  unfold chkE at h1
  simp only [Bool.and_eq_true, decide_eq_true_eq, List.all_eq_true, List.mem_range, small_iff] at h1
  exact ⟨⟨h1.1.1, fun k hk => h1.1.2 k (by omega)⟩, h1.2⟩
theorem denM_bd {t : List Int} (h : isLv t = true) : 1 ≤ denM t ∧ denM t ≤ 1000000 := by
  have h1 := (denM_parts h).1
  rw [h1.1]; exact h1.2 _ (Nat.le_refl _)
end Go.Proofs.Ytnnihdkhblbdgaa.Tr
