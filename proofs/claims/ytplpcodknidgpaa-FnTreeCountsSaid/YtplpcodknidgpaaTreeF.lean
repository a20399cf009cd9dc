/-
  Symmetries, the program's and the model's, gone through.
-/
import Derived.Test.YtplpcodknidgpaaTreeE
namespace Go.Proofs.Ytplpcodknidgpaa.Tr
set_option maxRecDepth 100000

def sy (x : List UInt8) : Int := symF 8 x
def syM (t : List Int) : Int := symL 8 t
def symMK (f : List Int → Int) (bs : List (List Int)) : Nat → Int × Int
  | 0 => (1, 0)
  | k+1 => let s := symMK f bs k
    let run := if k = 0 ∨ bs.getD k [] ≠ bs.getD (k - 1) [] then 1 else s.2 + 1
    (s.1 * run * f (bs.getD k []), run)
def chkS (x : List UInt8) : Bool := decide (sy x = (symK sy (brT x) (brT x).length).1) && (List.range ((brT x).length + 1)).all (fun k => small (symK sy (brT x) k).1 && decide (0 ≤ (symK sy (brT x) k).2 ∧ (symK sy (brT x) k).2 ≤ 8)) && (List.range (brT x).length).all (fun k => small ((symK sy (brT x) (k + 1)).2 * sy ((brT x).getD k [])))
theorem chkS_all : allT.all chkS = true := by decide +kernel
theorem sy_parts {x : List UInt8} (h : isTx x = true) : sy x = (symK sy (brT x) (brT x).length).1 ∧
    (∀ k, k ≤ (brT x).length → (1 ≤ (symK sy (brT x) k).1 ∧ (symK sy (brT x) k).1 ≤ 1000000) ∧ 0 ≤ (symK sy (brT x) k).2 ∧ (symK sy (brT x) k).2 ≤ 8) ∧
    ∀ k, k < (brT x).length → 1 ≤ (symK sy (brT x) (k + 1)).2 * sy ((brT x).getD k []) ∧ (symK sy (brT x) (k + 1)).2 * sy ((brT x).getD k []) ≤ 1000000 := by
  have h1 := tx_of chkS_all h
  unfold chkS at h1
  simp only [Bool.and_eq_true, decide_eq_true_eq, List.all_eq_true, List.mem_range, small_iff] at h1
  exact ⟨h1.1.1, fun k hk => h1.1.2 k (by omega), fun k hk => h1.2 k hk⟩
def chkM (t : List Int) : Bool := decide (syM t = (symMK syM (branL t) (branL t).length).1) && (List.range ((branL t).length + 1)).all (fun k => small (symMK syM (branL t) k).1 && decide (0 ≤ (symMK syM (branL t) k).2 ∧ (symMK syM (branL t) k).2 ≤ 8)) && (List.range (branL t).length).all (fun k => small ((symMK syM (branL t) k).1 * (symMK syM (branL t) (k + 1)).2)) && decide (sy (txt t) = syM t) && (branL t).all (fun p => isLv p && decide (can p = p) && decide (p.length < t.length)) && decide ((branL t).length ≤ 7)
theorem chkM_all : allLv.all chkM = true := by decide +kernel
theorem syM_parts {t : List Int} (h : isLv t = true) : (syM t = (symMK syM (branL t) (branL t).length).1 ∧
    (∀ k, k ≤ (branL t).length → (1 ≤ (symMK syM (branL t) k).1 ∧ (symMK syM (branL t) k).1 ≤ 1000000) ∧ 0 ≤ (symMK syM (branL t) k).2 ∧ (symMK syM (branL t) k).2 ≤ 8) ∧
    ∀ k, k < (branL t).length → 1 ≤ (symMK syM (branL t) k).1 * (symMK syM (branL t) (k + 1)).2 ∧ (symMK syM (branL t) k).1 * (symMK syM (branL t) (k + 1)).2 ≤ 1000000) ∧ sy (txt t) = syM t ∧ (∀ p ∈ branL t, (isLv p = true ∧ can p = p) ∧ p.length < t.length) ∧ (branL t).length ≤ 7 := by
  have h1 := all_of chkM_all (isLv_iff.1 h)
  unfold chkM at h1
  simp only [Bool.and_eq_true, decide_eq_true_eq, List.all_eq_true, List.mem_range, small_iff] at h1
  exact ⟨⟨h1.1.1.1.1.1, fun k hk => h1.1.1.1.1.2 k (by omega), fun k hk => h1.1.1.1.2 k hk⟩, h1.1.1.2, h1.1.2, h1.2⟩
end Go.Proofs.Ytplpcodknidgpaa.Tr
