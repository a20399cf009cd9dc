/-
  Stage weights, plain: by the branches of a text, in any order.
-/
import Derived.Test.YtolkbbbbahhfaaaTabN
import Derived.Test.YtolkbbbbahhfaaaBra
import Derived.Test.YtolkbbbbahhfaaaTreeC
namespace Go.Proofs.Ytolkbbbbahhfaaa
open Go.RowKit Fld
set_option linter.unusedVariables false
set_option linter.unusedSimpArgs false
set_option maxRecDepth 100000

def mulL (a b : List Int) : List Int := List.zipWith (fun x y => x * y % 10007) a b
theorem mulL_length {a b : List Int} {n : Nat} (ha : a.length = n) (hb : b.length = n) : (mulL a b).length = n := by unfold mulL; rw [List.length_zipWith]; omega
theorem mulL_at {a b : List Int} {j : Nat} {x y : Int} (hx : a[j]? = some x) (hy : b[j]? = some y) : (mulL a b)[j]? = some (x * y % 10007) := by
  unfold mulL; rw [List.getElem?_zipWith, hx, hy]
theorem mulL_num : ∀ a b : List Int, allNum (mulL a b) = true
  | [], _ => by simp [mulL, allNum]
  | _ :: _, [] => by simp [mulL, allNum]
  | x :: a, y :: b => by
    have := mulL_num a b
    rw [allNum_iff] at this ⊢
    intro z hz
    unfold mulL at hz
    rw [List.zipWith_cons_cons, List.mem_cons] at hz
    rcases hz with rfl | hz
    · omega
    · exact this z hz
theorem mod_three (x y z : Int) : x * y % 10007 * z % 10007 = x * y * z % 10007 := by
  rw [Int.mul_emod, Int.emod_emod, ← Int.mul_emod]
theorem mulL_right : ∀ a b c : List Int, mulL (mulL a b) c = mulL (mulL a c) b
  | [], b, c => by simp [mulL]
  | x :: a, [], c => by cases c <;> simp [mulL]
  | x :: a, y :: b, [] => by simp [mulL]
  | x :: a, y :: b, z :: c => by
    have h := mulL_right a b c
    unfold mulL at h ⊢
    rw [List.zipWith_cons_cons, List.zipWith_cons_cons, List.zipWith_cons_cons, List.zipWith_cons_cons, h, mod_three, mod_three, Int.mul_right_comm]
/-- the stage weights of a text -/
def swF (m : List (List Int)) (n : Nat) : Nat → List UInt8 → List Int
  | 0, _ => List.replicate n 1
  | k+1, x => (Tr.brT x).foldl (fun a b => mulL a (appL m (swF m n k b))) (List.replicate n 1)
theorem foldW_congr (m : List (List Int)) (f g : List UInt8 → List Int) : ∀ (L : List (List UInt8)) (a : List Int), (∀ b ∈ L, f b = g b) → L.foldl (fun a b => mulL a (appL m (f b))) a = L.foldl (fun a b => mulL a (appL m (g b))) a
  | [], _, _ => rfl
  | b :: L, a, h => by rw [List.foldl_cons, List.foldl_cons, h b (by simp), foldW_congr m f g L _ (fun c hc => h c (by simp [hc]))]
theorem swF_fuel (m : List (List Int)) (n : Nat) : ∀ (k j : Nat) (x : List UInt8), Tr.isTx x = true → x.length ≤ k → x.length ≤ j → swF m n k x = swF m n j x := fun k => by
  induction k with
  | zero => intro j x hx h1 h2; have := (Tr.br_parts hx).1.1; omega
  | succ k ih =>
    intro j x hx h1 h2
    cases j with
    | zero => have := (Tr.br_parts hx).1.1; omega
    | succ j =>
      have hb := (Tr.br_parts hx).2.1
      exact foldW_congr m _ _ _ _ fun b hm => ih j b (hb b hm).1 (by have := (hb b hm).2; omega) (by have := (hb b hm).2; omega)
def sw (m : List (List Int)) (n : Nat) (x : List UInt8) : List Int := swF m n 16 x
theorem sw_eq {m : List (List Int)} {n : Nat} {x : List UInt8} (hx : Tr.isTx x = true) : sw m n x = (Tr.brT x).foldl (fun a b => mulL a (appL m (sw m n b))) (List.replicate n 1) := by
  have h := (Tr.br_parts hx).1
  unfold sw
  rw [swF_fuel m n 16 17 x hx (by omega) (by omega)]; rfl
/-- what the first k branches make -/
def swTo (m : List (List Int)) (n : Nat) (L : List (List UInt8)) (k : Nat) : List Int := (L.take k).foldl (fun a b => mulL a (appL m (sw m n b))) (List.replicate n 1)
theorem swTo_succ {m : List (List Int)} {n k : Nat} {L : List (List UInt8)} {b : List UInt8} (h : L[k]? = some b) : swTo m n L (k + 1) = mulL (swTo m n L k) (appL m (sw m n b)) := by
  unfold swTo; rw [List.take_add_one, h]; simp
theorem fold_len {m : List (List Int)} {n : Nat} (hm : m.length = n) (f : List UInt8 → List Int) : ∀ (L : List (List UInt8)) (a : List Int), a.length = n → (L.foldl (fun a b => mulL a (appL m (f b))) a).length = n
  | [], a, h => h
  | b :: L, a, h => by rw [List.foldl_cons]; exact fold_len hm f L _ (mulL_length h ((appL_length m _).trans hm))
theorem fold_num {m : List (List Int)} (f : List UInt8 → List Int) : ∀ (L : List (List UInt8)) (a : List Int), allNum a = true → allNum (L.foldl (fun a b => mulL a (appL m (f b))) a) = true
  | [], a, h => h
  | b :: L, a, h => by rw [List.foldl_cons]; exact fold_num f L _ (mulL_num _ _)
theorem swTo_len {m : List (List Int)} {n : Nat} (hm : m.length = n) (L : List (List UInt8)) (k : Nat) : (swTo m n L k).length = n := fold_len hm _ _ _ (by simp)
theorem swTo_num (m : List (List Int)) (n : Nat) (L : List (List UInt8)) (k : Nat) : allNum (swTo m n L k) = true := fold_num _ _ _ (ones_num n)
theorem sw_len {m : List (List Int)} {n : Nat} (hm : m.length = n) {x : List UInt8} (hx : Tr.isTx x = true) : (sw m n x).length = n := by rw [sw_eq hx]; exact fold_len hm _ _ _ (by simp)
theorem sw_num {m : List (List Int)} {n : Nat} {x : List UInt8} (hx : Tr.isTx x = true) : allNum (sw m n x) = true := by rw [sw_eq hx]; exact fold_num _ _ _ (ones_num n)
theorem swTo_br {m : List (List Int)} {n q : Nat} {x : List UInt8} (hx : Tr.isTx x = true) (hq : (Tr.brT x).length = q) : swTo m n (Tr.brT x) q = sw m n x := by
  rw [sw_eq hx]; unfold swTo; rw [List.take_of_length_le (by omega)]
def chkW (t : List Int) : Bool := ((Tr.partsL t).map Tr.txt).isPerm (Tr.brT (Tr.txt t))
theorem chkW_all : Tr.allLv.all chkW = true := by decide +kernel
theorem swTo_parts {m : List (List Int)} {n q : Nat} {t : List Int} (h : Tr.isLv t = true) (hq : (Tr.partsL t).length = q) : swTo m n ((Tr.partsL t).map Tr.txt) q = sw m n (Tr.txt t) := by
  have h1 : ((Tr.partsL t).map Tr.txt).Perm (Tr.brT (Tr.txt t)) := by
    have := Tr.all_of chkW_all (Tr.isLv_iff.1 h)
    unfold chkW at this
    exact List.isPerm_iff.1 this
  rw [sw_eq (Tr.tx_txt h)]; unfold swTo; rw [List.take_of_length_le (by rw [List.length_map]; omega)]
  exact h1.foldl_eq' (fun x _ y _ z => mulL_right _ _ _) _
end Go.Proofs.Ytolkbbbbahhfaaa
