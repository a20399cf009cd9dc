/-
  For the law FnNumberings, plain: the numbers of numberings are those of a polynomial (gone through).
-/
import Derived.Test.YtjmjdcfgbaepkaaNmbP
namespace Go.Proofs.Ytjmjdcfgbaepkaa.Tr
set_option maxRecDepth 100000

def chsTo (n : Nat) : Nat → Int
  | 0 => 1
  | j+1 => (chsTo n j * ((n : Int) + 2 - ((j : Int) + 1))).tdiv ((j : Int) + 1)
def sgnTo : Nat → Int
  | 0 => 1
  | j+1 => -sgnTo j
/-- the differences, added up to a place: of the numbers behind place a of a list -/
def accTo (n : Nat) (l : List Int) (a : Nat) : Nat → Int
  | 0 => 0
  | j+1 => accTo n l a j + sgnTo j * chsTo n (j + 1) * l.getD (a + (j + 1)) 0
def rowR (n : Nat) (x : List UInt8) : List Int := (nm 0 x).take (n + 1)
/-- the list of values: 2, 1 or none to be found -/
def stV (n : Nat) (x : List UInt8) : Nat → List Int
  | 0 => let l := 0 :: accTo n (0 :: 0 :: rowR n x) 1 (n + 1) :: rowR n x; l.set 0 (accTo n l 0 (n + 1))
  | 1 => 0 :: accTo n (0 :: 0 :: rowR n x) 1 (n + 1) :: rowR n x
  | _ => 0 :: 0 :: rowR n x
def bnS (b z : Int) : Bool := decide (-b ≤ z ∧ z ≤ b)
theorem bnS_iff {b z : Int} : bnS b z = true ↔ -b ≤ z ∧ z ≤ b := by simp [bnS]
def chkNc (n : Nat) : Bool := (List.range (n + 1)).all fun j => bnS 1000 (chsTo n (j + 1)) && bnS 100000 (chsTo n j * ((n : Int) + 2 - ((j : Int) + 1))) && decide (sgnTo j = 1 ∨ sgnTo j = -1) && bnS 1000 (sgnTo j * chsTo n (j + 1))
theorem chkNc_all : (List.range 9).all chkNc = true := by decide +kernel
theorem chs_parts {n j : Nat} (h : n ≤ 8) (hj : j ≤ n) : (-1000 ≤ chsTo n (j + 1) ∧ chsTo n (j + 1) ≤ 1000) ∧ (-100000 ≤ chsTo n j * ((n : Int) + 2 - ((j : Int) + 1)) ∧ chsTo n j * ((n : Int) + 2 - ((j : Int) + 1)) ≤ 100000) ∧ (sgnTo j = 1 ∨ sgnTo j = -1) ∧ (-1000 ≤ sgnTo j * chsTo n (j + 1) ∧ sgnTo j * chsTo n (j + 1) ≤ 1000) := by
  have h1 := List.all_eq_true.1 chkNc_all n (by rw [List.mem_range]; omega)
  have h2 := List.all_eq_true.1 h1 j (by rw [List.mem_range]; omega)
  simp only [Bool.and_eq_true, bnS_iff, decide_eq_true_eq] at h2
  exact ⟨h2.1.1.1, h2.1.1.2, h2.1.2, h2.2⟩
def chkNl (n : Nat) (x : List UInt8) (a : Nat) : Bool := (List.range (n + 2)).all fun j => bnS 100000000000000 (accTo n (stV n x (a + 1)) a j) && bnS 100000000000000 ((stV n x (a + 1)).getD (a + (j + 1)) 0) && bnS 100000000000000 (sgnTo j * chsTo n (j + 1) * (stV n x (a + 1)).getD (a + (j + 1)) 0)
def chkNv (x : List UInt8) : Bool := let n := x.length / 2
  chkNl n x 1 && chkNl n x 0 && decide ((rowR n x).length = n + 1) &&
  decide ((stV n x 0).getD 1 0 = (if n % 2 = 1 then -1 else 1) * (nm 1 x).getD 1 0) && decide ((stV n x 0).getD 0 0 = (if n % 2 = 1 then -1 else 1) * (nm 1 x).getD 2 0) && (List.range 11).all fun k => decide ((nm 1 x).getD k 0 ≤ (nm 0 x).getD k 0)
theorem chkNv_all : allT.all chkNv = true := by decide +kernel
theorem v_parts {x : List UInt8} (h : isTx x = true) {n : Nat} (hn : x.length / 2 = n) :
    (∀ a j, a ≤ 1 → j ≤ n + 1 → (-100000000000000 ≤ accTo n (stV n x (a + 1)) a j ∧ accTo n (stV n x (a + 1)) a j ≤ 100000000000000) ∧ (-100000000000000 ≤ (stV n x (a + 1)).getD (a + (j + 1)) 0 ∧ (stV n x (a + 1)).getD (a + (j + 1)) 0 ≤ 100000000000000) ∧
      (-100000000000000 ≤ sgnTo j * chsTo n (j + 1) * (stV n x (a + 1)).getD (a + (j + 1)) 0 ∧ sgnTo j * chsTo n (j + 1) * (stV n x (a + 1)).getD (a + (j + 1)) 0 ≤ 100000000000000)) ∧
    (rowR n x).length = n + 1 ∧ (stV n x 0).getD 1 0 = (if n % 2 = 1 then -1 else 1) * (nm 1 x).getD 1 0 ∧ (stV n x 0).getD 0 0 = (if n % 2 = 1 then -1 else 1) * (nm 1 x).getD 2 0 ∧ ∀ k, k ≤ 10 → (nm 1 x).getD k 0 ≤ (nm 0 x).getD k 0 := by
  subst hn
  have h1 : chkNv x = true := tx_of chkNv_all h
  unfold chkNv chkNl at h1
  simp only [Bool.and_eq_true, decide_eq_true_eq, List.all_eq_true, List.mem_range, bnS_iff] at h1
  obtain ⟨⟨⟨⟨⟨a1, a0⟩, a2⟩, a3⟩, a4⟩, a5⟩ := h1
  refine ⟨fun a j ha hj => ?_, a2, a3, a4, fun k hk => a5 k (by omega)⟩
  rcases Nat.lt_or_ge a 1 with q | q
  · obtain rfl : a = 0 := by omega
    have := a0 j (by omega)
    exact ⟨this.1.1, this.1.2, this.2⟩
  · obtain rfl : a = 1 := by omega
    have := a1 j (by omega)
    exact ⟨this.1.1, this.1.2, this.2⟩
/-- one list's end is the next one's beginning -/
theorem stV_end (n : Nat) (x : List UInt8) {a : Nat} (ha : a ≤ 1) : (stV n x (a + 1)).set a (accTo n (stV n x (a + 1)) a (n + 1)) = stV n x a := by
  rcases Nat.lt_or_ge a 1 with q | q
  · obtain rfl : a = 0 := by omega
    rfl
  · obtain rfl : a = 1 := by omega
    rfl
theorem stV_begin (n : Nat) (x : List UInt8) {a : Nat} (ha : a ≤ 1) : (stV n x (a + 1)).set a (accTo n (stV n x (a + 1)) a 0) = stV n x (a + 1) := by
  rcases Nat.lt_or_ge a 1 with q | q
  · obtain rfl : a = 0 := by omega
    rfl
  · obtain rfl : a = 1 := by omega
    rfl
theorem stV_length (n : Nat) (x : List UInt8) (hR : (rowR n x).length = n + 1) (a : Nat) : (stV n x a).length = n + 3 := by
  match a with
  | 0 => simp [stV, hR]
  | 1 => simp [stV, hR]
  | a + 2 => simp [stV, hR]
/-- the rows while the numbers come in -/
def rowK (x : List UInt8) (k : Nat) : List Int := 0 :: 0 :: (nm 0 x).take k
theorem rowK_step {x : List UInt8} {k : Nat} (hk : k < (nm 0 x).length) : rowK x k ++ [(nm 0 x).getD k 0] = rowK x (k + 1) := by
  unfold rowK
  rw [List.take_add_one, List.getD_eq_getElem?_getD, List.getElem?_eq_getElem hk]
  simp
theorem rowK_end (n : Nat) (x : List UInt8) : rowK x (n + 1) = stV n x 2 := rfl
end Go.Proofs.Ytjmjdcfgbaepkaa.Tr
