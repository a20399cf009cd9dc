/-
  Rising and strict numberings, counted plainly: by texts and by level lists, gone through.
-/
import Derived.Test.YtjmjdcfgbaepkaaTreeE
namespace Go.Proofs.Ytjmjdcfgbaepkaa.Tr
set_option maxRecDepth 100000

/-! by texts -/
/-- the product of the first lists' numbers at a place -/
def wayK (bs : List (List Int)) (j i : Nat) : Int := (bs.take i).foldl (fun o l => o * l.getD j 0) 1
theorem wayK_zero (bs : List (List Int)) (j : Nat) : wayK bs j 0 = 1 := rfl
theorem wayK_step {bs : List (List Int)} {j i : Nat} {l : List Int} (h : bs[i]? = some l) : wayK bs j (i + 1) = wayK bs j i * l.getD j 0 := by
  unfold wayK
  rw [List.take_add_one, h, Option.toList_some, List.foldl_append]; rfl
/-- the first numbers, up to a place, the others 0 -/
def numT (bs : List (List Int)) (g : Nat) : Nat → List Int
  | 0 => List.replicate 11 0
  | k+1 => (numT bs g k).set (k + 1) ((numT bs g k).getD k 0 + wayK bs (k + 1 - g) bs.length)
theorem numT_length (bs : List (List Int)) (g : Nat) : ∀ k, (numT bs g k).length = 11
  | 0 => by simp [numT]
  | k+1 => by rw [numT, List.length_set, numT_length bs g k]
def nmF : Nat → Nat → List UInt8 → List Int
  | 0, _, _ => []
  | d+1, g, x => numT ((brT x).map (nmF d g)) g 10
def nm (g : Nat) (x : List UInt8) : List Int := nmF 8 g x
def bnd (z : Int) : Bool := decide (0 ≤ z ∧ z ≤ 1000000000)
theorem bnd_iff {z : Int} : bnd z = true ↔ 0 ≤ z ∧ z ≤ 1000000000 := by simp [bnd]
def chkN (g : Nat) (x : List UInt8) : Bool := decide (nm g x = numT ((brT x).map (nm g)) g 10) && decide ((nm g x).length = 11) && (nm g x).all bnd &&
  (List.range 11).all (fun j => (List.range ((brT x).length + 1)).all fun i => bnd (wayK ((brT x).map (nm g)) j i)) && (List.range 11).all (fun k => (numT ((brT x).map (nm g)) g k).all bnd)
theorem chkN_0 : allT.all (chkN 0) = true := by decide +kernel
theorem chkN_1 : allT.all (chkN 1) = true := by decide +kernel
theorem nm_parts {g : Nat} (hg : g ≤ 1) {x : List UInt8} (h : isTx x = true) : nm g x = numT ((brT x).map (nm g)) g 10 ∧ (nm g x).length = 11 ∧ (∀ z ∈ nm g x, 0 ≤ z ∧ z ≤ 1000000000) ∧
    (∀ j i, j ≤ 10 → i ≤ (brT x).length → 0 ≤ wayK ((brT x).map (nm g)) j i ∧ wayK ((brT x).map (nm g)) j i ≤ 1000000000) ∧ ∀ k, k ≤ 10 → ∀ z ∈ numT ((brT x).map (nm g)) g k, 0 ≤ z ∧ z ≤ 1000000000 := by
  have h1 : chkN g x = true := by
    rcases Nat.lt_or_ge g 1 with q | q
    · rw [show g = 0 by omega]; exact tx_of chkN_0 h
    · rw [show g = 1 by omega]; exact tx_of chkN_1 h
  unfold chkN at h1
  simp only [Bool.and_eq_true, decide_eq_true_eq, List.all_eq_true, List.mem_range, bnd_iff] at h1
  exact ⟨h1.1.1.1.1, h1.1.1.1.2, h1.1.1.2, fun j i hj hi => h1.1.2 j (by omega) i (by omega), fun k hk z hz => h1.2 k (by omega) z hz⟩

/-! by level lists -/
/-- the sum of some numbers from a place on downwards -/
def dnS (l : List Int) (q : Nat) : Nat → Int
  | 0 => 0
  | i+1 => dnS l q i + l.getD (q - i) 0
def rnF : Nat → Nat → List Int → List Int
  | 0, _, _ => []
  | d+1, g, t => (List.range 10).map fun m => ((partsL t).map (rnF d g)).foldl (fun o l => o * dnS l (m - g) (m + 1 - g)) 1
/-- the numbers of numberings whose root has the number k - m -/
def rn (g : Nat) (t : List Int) : List Int := rnF 8 g t
def rnS (g : Nat) (m : Nat) (p : List Int) : Int := dnS (rn g p) (m - g) (m + 1 - g)
def chkQ (g : Nat) (t : List Int) : Bool := decide ((rn g t).length = 10) && (List.range 10).all (fun m => decide ((rn g t).getD m 0 = mulK (rnS g m) 1 (partsL t) (partsL t).length) && bnd ((rn g t).getD m 0) &&
  (List.range ((partsL t).length + 1)).all (fun i => bnd (mulK (rnS g m) 1 (partsL t) i)) && (List.range 11).all (fun i => bnd (dnS (rn g t) m i))) && (List.range 11).all (fun k => decide ((nm g (txt t)).getD k 0 = dnS (rn g t) (k - 1) k))
theorem all_drop {p : List Int → Bool} {l : List (List Int)} {a k b : Nat} (h1 : ((l.drop a).take k).all p = true) (h2 : (l.drop b).all p = true) (e : b = a + k) : (l.drop a).all p = true := by
  subst e
  rw [← List.take_append_drop k (l.drop a), List.all_append, h1, List.drop_drop, h2]; rfl
theorem drop_all (p : List Int → Bool) : (allLv.drop 626).all p = true := by
  rw [List.drop_of_length_le (by decide +kernel)]; rfl
theorem chkQ0_0 : ((allLv.drop 0).take 66).all (chkQ 0) = true := by decide +kernel
theorem chkQ0_1 : ((allLv.drop 66).take 65).all (chkQ 0) = true := by decide +kernel
theorem chkQ0_2 : ((allLv.drop 131).take 66).all (chkQ 0) = true := by decide +kernel
theorem chkQ0_3 : ((allLv.drop 197).take 43).all (chkQ 0) = true := by decide +kernel
theorem chkQ0_4 : ((allLv.drop 240).take 43).all (chkQ 0) = true := by decide +kernel
theorem chkQ0_5 : ((allLv.drop 283).take 43).all (chkQ 0) = true := by decide +kernel
theorem chkQ0_6 : ((allLv.drop 326).take 43).all (chkQ 0) = true := by decide +kernel
theorem chkQ0_7 : ((allLv.drop 369).take 43).all (chkQ 0) = true := by decide +kernel
theorem chkQ0_8 : ((allLv.drop 412).take 43).all (chkQ 0) = true := by decide +kernel
theorem chkQ0_9 : ((allLv.drop 455).take 43).all (chkQ 0) = true := by decide +kernel
theorem chkQ0_10 : ((allLv.drop 498).take 43).all (chkQ 0) = true := by decide +kernel
theorem chkQ0_11 : ((allLv.drop 541).take 43).all (chkQ 0) = true := by decide +kernel
theorem chkQ0_12 : ((allLv.drop 584).take 42).all (chkQ 0) = true := by decide +kernel
theorem chkQ0_all : allLv.all (chkQ 0) = true := (all_drop (a := 0) (k := 66) (b := 66) chkQ0_0 (all_drop (a := 66) (k := 65) (b := 131) chkQ0_1 (all_drop (a := 131) (k := 66) (b := 197) chkQ0_2 (all_drop (a := 197) (k := 43) (b := 240) chkQ0_3 (all_drop (a := 240) (k := 43) (b := 283) chkQ0_4 (all_drop (a := 283) (k := 43) (b := 326) chkQ0_5 (all_drop (a := 326) (k := 43) (b := 369) chkQ0_6 (all_drop (a := 369) (k := 43) (b := 412) chkQ0_7 (all_drop (a := 412) (k := 43) (b := 455) chkQ0_8 (all_drop (a := 455) (k := 43) (b := 498) chkQ0_9 (all_drop (a := 498) (k := 43) (b := 541) chkQ0_10 (all_drop (a := 541) (k := 43) (b := 584) chkQ0_11 (all_drop (a := 584) (k := 42) (b := 626) chkQ0_12 (drop_all (chkQ 0)) rfl) rfl) rfl) rfl) rfl) rfl) rfl) rfl) rfl) rfl) rfl) rfl) rfl)
theorem chkQ1_0 : ((allLv.drop 0).take 66).all (chkQ 1) = true := by decide +kernel
theorem chkQ1_1 : ((allLv.drop 66).take 65).all (chkQ 1) = true := by decide +kernel
theorem chkQ1_2 : ((allLv.drop 131).take 66).all (chkQ 1) = true := by decide +kernel
theorem chkQ1_3 : ((allLv.drop 197).take 43).all (chkQ 1) = true := by decide +kernel
theorem chkQ1_4 : ((allLv.drop 240).take 43).all (chkQ 1) = true := by decide +kernel
theorem chkQ1_5 : ((allLv.drop 283).take 43).all (chkQ 1) = true := by decide +kernel
theorem chkQ1_6 : ((allLv.drop 326).take 43).all (chkQ 1) = true := by decide +kernel
theorem chkQ1_7 : ((allLv.drop 369).take 43).all (chkQ 1) = true := by decide +kernel
theorem chkQ1_8 : ((allLv.drop 412).take 43).all (chkQ 1) = true := by decide +kernel
theorem chkQ1_9 : ((allLv.drop 455).take 43).all (chkQ 1) = true := by decide +kernel
theorem chkQ1_10 : ((allLv.drop 498).take 43).all (chkQ 1) = true := by decide +kernel
theorem chkQ1_11 : ((allLv.drop 541).take 43).all (chkQ 1) = true := by decide +kernel
theorem chkQ1_12 : ((allLv.drop 584).take 42).all (chkQ 1) = true := by decide +kernel
theorem chkQ1_all : allLv.all (chkQ 1) = true := (all_drop (a := 0) (k := 66) (b := 66) chkQ1_0 (all_drop (a := 66) (k := 65) (b := 131) chkQ1_1 (all_drop (a := 131) (k := 66) (b := 197) chkQ1_2 (all_drop (a := 197) (k := 43) (b := 240) chkQ1_3 (all_drop (a := 240) (k := 43) (b := 283) chkQ1_4 (all_drop (a := 283) (k := 43) (b := 326) chkQ1_5 (all_drop (a := 326) (k := 43) (b := 369) chkQ1_6 (all_drop (a := 369) (k := 43) (b := 412) chkQ1_7 (all_drop (a := 412) (k := 43) (b := 455) chkQ1_8 (all_drop (a := 455) (k := 43) (b := 498) chkQ1_9 (all_drop (a := 498) (k := 43) (b := 541) chkQ1_10 (all_drop (a := 541) (k := 43) (b := 584) chkQ1_11 (all_drop (a := 584) (k := 42) (b := 626) chkQ1_12 (drop_all (chkQ 1)) rfl) rfl) rfl) rfl) rfl) rfl) rfl) rfl) rfl) rfl) rfl) rfl) rfl)
theorem rn_parts {g : Nat} (hg : g ≤ 1) {t : List Int} (h : isLv t = true) : (rn g t).length = 10 ∧
    (∀ m, m < 10 → (rn g t).getD m 0 = mulK (rnS g m) 1 (partsL t) (partsL t).length ∧ (0 ≤ (rn g t).getD m 0 ∧ (rn g t).getD m 0 ≤ 1000000000) ∧
      (∀ i, i ≤ (partsL t).length → 0 ≤ mulK (rnS g m) 1 (partsL t) i ∧ mulK (rnS g m) 1 (partsL t) i ≤ 1000000000) ∧ ∀ i, i ≤ 10 → 0 ≤ dnS (rn g t) m i ∧ dnS (rn g t) m i ≤ 1000000000) ∧
    ∀ k, k ≤ 10 → (nm g (txt t)).getD k 0 = dnS (rn g t) (k - 1) k := by
  have h1 : chkQ g t = true := by
    rcases Nat.lt_or_ge g 1 with q | q
    · rw [show g = 0 by omega]; exact all_of chkQ0_all (isLv_iff.1 h)
    · rw [show g = 1 by omega]; exact all_of chkQ1_all (isLv_iff.1 h)
  unfold chkQ at h1
  simp only [Bool.and_eq_true, decide_eq_true_eq, List.all_eq_true, List.mem_range, bnd_iff] at h1
  exact ⟨h1.1.1, fun m hm => ⟨(h1.1.2 m hm).1.1.1, (h1.1.2 m hm).1.1.2, fun i hi => (h1.1.2 m hm).1.2 i (by omega), fun i hi => (h1.1.2 m hm).2 i (by omega)⟩, fun k hk => h1.2 k (by omega)⟩
end Go.Proofs.Ytjmjdcfgbaepkaa.Tr
