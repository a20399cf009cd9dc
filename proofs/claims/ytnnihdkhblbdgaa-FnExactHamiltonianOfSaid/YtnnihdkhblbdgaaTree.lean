/-
  Level lists, their canonical lists and texts, as plain functions; all 626 of them can be gone through.
-/
import Derived.Test.YtnnihdkhblbdgaaBase
namespace Go.Proofs.Ytnnihdkhblbdgaa.Tr
set_option maxRecDepth 100000

/-- a level list -/
def Lv (t : List Int) : Prop := 0 < t.length ∧ t.length ≤ 8 ∧ t.getD 0 0 = 0 ∧ ∀ i, i < t.length → 1 ≤ i → 1 ≤ t.getD i 0 ∧ t.getD i 0 ≤ t.getD (i - 1) 0 + 1
instance (t : List Int) : Decidable (Lv t) := by unfold Lv; infer_instance
def isLv (t : List Int) : Bool := decide (Lv t)
theorem isLv_iff {t : List Int} : isLv t = true ↔ Lv t := by simp [isLv]

/-- all level lists of n + 1 nodes -/
def gen : Nat → List (List Int)
  | 0 => [[0]]
  | n+1 => (gen n).flatMap fun t => (List.range ((t.getD n 0).toNat + 1)).map fun k : Nat => t ++ [(k : Int) + 1]
def allLv : List (List Int) := (List.range 8).flatMap gen
theorem mem_gen : ∀ (n : Nat) (t : List Int), t.length = n + 1 → t.getD 0 0 = 0 → (∀ i, i < t.length → 1 ≤ i → 1 ≤ t.getD i 0 ∧ t.getD i 0 ≤ t.getD (i - 1) 0 + 1) → t ∈ gen n
  | 0, t, hl, h0, _ => by
    match t, hl with
    | [x], _ => simp at h0; subst h0; simp [gen]
  | n+1, t, hl, h0, hs => by
    rcases List.eq_nil_or_concat t with rfl | ⟨u, x, rfl⟩
    · simp at hl
    have hu : u.length = n + 1 := by simpa using hl
    have hg : ∀ i, i < u.length → (u.concat x).getD i 0 = u.getD i 0 := fun i hi => by
      rw [List.concat_eq_append, List.getD_eq_getElem?_getD, List.getElem?_append_left hi, ← List.getD_eq_getElem?_getD]
    have hx : (u.concat x).getD (n + 1) 0 = x := by
      rw [List.concat_eq_append, List.getD_eq_getElem?_getD, List.getElem?_append_right (by omega), hu]; simp
    have h1 := mem_gen n u hu (by rw [← hg 0 (by omega)]; exact h0) (fun i hi h1 => by
      have := hs i (by simp; omega) h1
      rw [hg i hi, hg (i - 1) (by omega)] at this
      exact this)
    have h2 := hs (n + 1) (by simp; omega) (by omega)
    rw [hx, hg (n + 1 - 1) (by omega), Nat.add_sub_cancel] at h2
    unfold gen
    rw [List.mem_flatMap]
    refine ⟨u, h1, ?_⟩
    rw [List.mem_map]
    refine ⟨(x - 1).toNat, by rw [List.mem_range]; omega, ?_⟩
    rw [List.concat_eq_append]
    congr 2
    omega
theorem mem_all {t : List Int} (h : Lv t) : t ∈ allLv := by
  obtain ⟨h0, h1, h2, h3⟩ := h
  unfold allLv
  rw [List.mem_flatMap]
  exact ⟨t.length - 1, by rw [List.mem_range]; omega, mem_gen _ t (by omega) h2 h3⟩
theorem all_of {p : List Int → Bool} (h : allLv.all p = true) {t : List Int} (ht : Lv t) : p t = true := List.all_eq_true.1 h t (mem_all ht)

/-! ## the model's -/
/-- a branch's list grows by a node -/
def addNode (out : List (List Int)) (x : Int) : List (List Int) :=
  let o := if x = 1 then out ++ [[]] else out
  o.set (o.length - 1) ((o.getD (o.length - 1) []) ++ [x - 1])
def partsL (t : List Int) : List (List Int) := (t.drop 1).foldl addNode []
/-- lexicographically less -/
def lessL : List Int → List Int → Bool
  | [], [] => false
  | [], _ :: _ => true
  | _ :: _, [] => false
  | x :: xs, y :: ys => if x = y then lessL xs ys else decide (x < y)
/-- put in ahead of the first one that is less -/
def insD (part : List Int) : List (List Int) → List (List Int)
  | [] => [part]
  | s :: r => if lessL s part then part :: s :: r else s :: insD part r
def up (f : List (List Int)) : List Int := 0 :: f.flatten.map (· + 1)
def canF : Nat → List Int → List Int
  | 0, _ => []
  | d+1, t => up (((partsL t).map (canF d)).foldl (fun s p => insD p s) [])
def can (t : List Int) : List Int := canF 8 t

/-! ## the program's -/
/-- the parts of a list that begin at its records from below -/
def splF : Nat → List Int → List (List Int)
  | 0, _ => []
  | _+1, [] => []
  | f+1, x :: xs => (x :: xs.takeWhile (fun y => decide (x < y))) :: splF f (xs.dropWhile (fun y => decide (x < y)))
def leS : List UInt8 → List UInt8 → Bool
  | [], _ => true
  | _ :: _, [] => false
  | x :: xs, y :: ys => if x = y then leS xs ys else decide (x < y)
def insS (p : List UInt8) : List (List UInt8) → List (List UInt8)
  | [] => [p]
  | s :: r => if leS p s then p :: s :: r else s :: insS p r
def sortS : List (List UInt8) → List (List UInt8)
  | [] => []
  | p :: r => insS p (sortS r)
def wrap (ss : List (List UInt8)) : List UInt8 := 91 :: (ss.flatten ++ [93])
def txtF : Nat → List Int → List UInt8
  | 0, _ => []
  | d+1, t => wrap (sortS ((splF t.length (t.drop 1)).map (txtF d)))
def txt (t : List Int) : List UInt8 := txtF 8 t
/-- the levels of a text -/
def lvlF : Int → List UInt8 → List Int
  | _, [] => []
  | l, c :: r => if c = 91 then l :: lvlF (l + 1) r else lvlF (l - 1) r
def lvl (s : List UInt8) : List Int := lvlF 0 s

def chk1 (t : List Int) : Bool := (lvl (txt t) == can t) && isLv (can t) && ((can t).length == t.length) && ((txt t).length == 2 * t.length)
theorem chk1_all : allLv.all chk1 = true := by decide +kernel
/-! ## the library's sort is this one -/
theorem leS_eq : ∀ x y : List UInt8, decide (x ≤ y) = leS x y
  | [], y => by simp [leS, List.nil_le]
  | a :: x, [] => by
    have h : ¬ (a :: x ≤ []) := fun h => h (by exact List.Lex.nil)
    simp [leS, h]
  | a :: x, b :: y => by
    have ih := leS_eq x y
    rw [leS]
    by_cases e : a = b
    · subst e
      rw [if_pos rfl, ← ih]
      congr 1
      rw [List.cons_le_cons_iff]
      exact propext ⟨fun h => h.elim (fun h => absurd h (UInt8.lt_irrefl a)) (·.2), fun h => .inr ⟨rfl, h⟩⟩
    · rw [if_neg e]
      congr 1
      rw [List.cons_le_cons_iff]
      exact propext ⟨fun h => h.elim id (fun h => absurd h.1 e), .inl⟩
theorem insS_perm (p : List UInt8) : ∀ l, (insS p l).Perm (p :: l)
  | [] => List.Perm.refl _
  | s :: r => by
    rw [insS]
    split
    · exact List.Perm.refl _
    · exact ((insS_perm p r).cons s).trans (List.Perm.swap p s r)
theorem sortS_perm : ∀ l, (sortS l).Perm l
  | [] => List.Perm.refl _
  | p :: r => (insS_perm p (sortS r)).trans ((sortS_perm r).cons p)
theorem leS_tr {a b c : List UInt8} (h : leS a b = true) (k : leS b c = true) : leS a c = true := by
  rw [← leS_eq] at *; simp only [decide_eq_true_eq] at *; exact List.le_trans h k
theorem leS_to {a b : List UInt8} (h : leS a b = false) : leS b a = true := by
  rw [← leS_eq] at *; simp only [decide_eq_true_eq, decide_eq_false_iff_not] at *; exact (List.le_total a b).resolve_left h
theorem leS_as {a b : List UInt8} (h : leS a b = true) (k : leS b a = true) : a = b := by
  rw [← leS_eq] at *; simp only [decide_eq_true_eq] at *; exact List.le_antisymm h k
theorem insS_sorted (p : List UInt8) : ∀ l, l.Pairwise (fun a b => leS a b = true) → (insS p l).Pairwise (fun a b => leS a b = true)
  | [], _ => by simp [insS]
  | s :: r, h => by
    rw [insS]
    rw [List.pairwise_cons] at h
    cases e : leS p s
    · rw [if_neg (by simp)]
      rw [List.pairwise_cons]
      refine ⟨fun x hx => ?_, insS_sorted p r h.2⟩
      rw [(insS_perm p r).mem_iff, List.mem_cons] at hx
      rcases hx with rfl | hx
      · exact leS_to e
      · exact h.1 x hx
    · rw [if_pos rfl]
      rw [List.pairwise_cons]
      refine ⟨fun x hx => ?_, List.pairwise_cons.2 h⟩
      rw [List.mem_cons] at hx
      rcases hx with rfl | hx
      · exact e
      · exact leS_tr e (h.1 x hx)
theorem sortS_sorted : ∀ l, (sortS l).Pairwise (fun a b => leS a b = true)
  | [] => List.Pairwise.nil
  | p :: r => insS_sorted p _ (sortS_sorted r)
theorem merge_eq (l : List (List UInt8)) : (l.mergeSort fun x y => decide (x ≤ y)) = sortS l := by
  rw [show (fun x y : List UInt8 => decide (x ≤ y)) = leS from funext fun x => funext fun y => leS_eq x y]
  refine List.Perm.eq_of_pairwise (le := fun a b => leS a b = true) (fun a b _ _ h1 h2 => leS_as h1 h2) (List.pairwise_mergeSort (le := leS) (fun a b c => leS_tr) (fun a b => ?_) l) (sortS_sorted l) ((List.mergeSort_perm l leS).trans (sortS_perm l).symm)
  cases e : leS a b
  · simp [leS_to e]
  · simp
theorem sortS_length (l : List (List UInt8)) : (sortS l).length = l.length := (sortS_perm l).length_eq
end Go.Proofs.Ytnnihdkhblbdgaa.Tr
