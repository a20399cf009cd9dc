/-
  Determinants modulo 10007: equal numbers, a row brought to the top, a column cleared. No Go in sight.
-/
import Derived.Test.YtdgdanpkekcckaaDet
namespace Go.Proofs.Ytdgdanpkekcckaa.Det
theorem sm_mod (p : Int) {n : Nat} {f g : Nat → Int} (h : ∀ i, i < n → f i % p = g i % p) : sm n f % p = sm n g % p := by
  induction n with
  | zero => rfl
  | succ n ih => rw [sm, sm, Int.add_emod, ih (fun i hi => h i (by omega)), h n (by omega), ← Int.add_emod]
theorem det_mod (p : Int) : ∀ {n : Nat} {A B : Nat → Nat → Int}, (∀ i, i < n → ∀ j, j < n → A i j % p = B i j % p) → det n A % p = det n B % p
  | 0, _, _, _ => rfl
  | n+1, A, B, h => by
    rw [det, det]
    refine sm_mod p fun j hj => ?_
    have h1 := h 0 (by omega) j hj
    have h2 := det_mod p (n := n) (A := fun i k => A (i + 1) (sk j k)) (B := fun i k => B (i + 1) (sk j k)) (fun i hi k hk => h (i + 1) (by omega) _ (sk_bd hk))
    rw [Int.mul_emod (sgn j * A 0 j), Int.mul_emod (sgn j) (A 0 j), h1, h2, ← Int.mul_emod (sgn j), ← Int.mul_emod]
/-- a first column of zeros -/
theorem det_col_zero {n : Nat} {A : Nat → Nat → Int} (hn : 0 < n) (h : ∀ i, i < n → A i 0 = 0) : det n A = 0 :=
  (det_col_alt n).zero (fun k i => A i k) 0 hn (fun i hi => h i hi)
/-- a first column of zeros but at the top -/
theorem det_top {n : Nat} {A : Nat → Nat → Int} (h : ∀ i, i < n → A (i + 1) 0 = 0) : det (n + 1) A = A 0 0 * det n (fun i j => A (i + 1) (j + 1)) := by
  rw [det, sm_one 0 (by omega) (fun j hj hne => ?_)]
  · rw [det_ext (n := n) (B := fun i j => A (i + 1) (j + 1)) (fun i _ j _ => by rw [sk_ge (by omega)])]
    show 1 * A 0 0 * _ = _
    rw [Int.one_mul]
  · have z : det n (fun i k => A (i + 1) (sk j k)) = 0 := det_col_zero (by omega) (fun i hi => by rw [sk_lt (by omega)]; exact h i hi)
    rw [z]; omega
/-- the row i brought to the top -/
def toTop (i : Nat) (A : Nat → Nat → Int) : Nat → Nat → Int := fun r j => if r = 0 then A i j else A (sk i (r - 1)) j
theorem det_toTop (n : Nat) : ∀ (i : Nat) (A : Nat → Nat → Int), i < n → det n (toTop i A) = sgn i * det n A
  | 0, A, _ => by
    rw [det_ext (n := n) (B := A) (fun r _ j _ => ?_)]
    · show _ = 1 * _; rw [Int.one_mul]
    · unfold toTop sk
      split
      · exact congrArg (fun t => A t j) (by omega)
      · split <;> exact congrArg (fun t => A t j) (by omega)
  | i+1, A, hi => by
    rw [det_ext (n := n) (B := toTop i (swp A i (i + 1))) (fun r _ j _ => ?_), det_toTop n i _ (by omega), (det_alt n).swap A i (i + 1) (by omega) hi (by omega), sgn_succ, Int.mul_neg, Int.neg_mul]
    unfold toTop swp sk
    repeat' split
    all_goals first | omega | exact congrArg (fun t => A t j) (by omega)
/-- multiples of the row i added to the rows before m -/
def clr (A : Nat → Nat → Int) (i : Nat) (c : Nat → Int) (m : Nat) : Nat → Nat → Int := fun k j => if k < m ∧ k ≠ i then A k j + c k * A i j else A k j
theorem det_clr (n : Nat) (A : Nat → Nat → Int) (i : Nat) (c : Nat → Int) (hi : i < n) : ∀ m, m ≤ n → det n (clr A i c m) = det n A
  | 0, _ => det_ext fun k _ j _ => if_neg (by omega)
  | m+1, hm => by
    rw [← det_clr n A i c hi m (by omega)]
    by_cases e : m = i
    · refine det_ext fun k _ j _ => ?_
      unfold clr
      by_cases g : k < m ∧ k ≠ i
      · rw [if_pos g, if_pos (by omega)]
      · rw [if_neg g, if_neg (by omega)]
    · refine (det_alt n).addRow (clr A i c m) (clr A i c (m + 1)) m i (c m) (by omega) hi e (fun k _ hk j _ => ?_) (fun j _ => ?_)
      · unfold clr
        by_cases g : k < m ∧ k ≠ i
        · rw [if_pos g, if_pos (by omega)]
        · rw [if_neg g, if_neg (by omega)]
      · unfold clr
        rw [if_pos (by omega), if_neg (by omega), if_neg (by omega)]
/-- the first column cleared by the row i, where f is what A i 0 has for an inverse -/
theorem det_clear (n : Nat) (A : Nat → Nat → Int) (i : Nat) (f : Int) (hi : i < n + 1) (hf : (A i 0 * f) % 10007 = 1) :
    det (n + 1) A % 10007 = sgn i * (A i 0 * det n (fun k j => A (sk i k) (j + 1) - A (sk i k) 0 * f * A i (j + 1))) % 10007 := by
  have e1 := det_clr (n + 1) A i (fun k => - (A k 0 * f)) hi (n + 1) (Nat.le_refl _)
  generalize hB : clr A i (fun k => - (A k 0 * f)) (n + 1) = B at e1
  have hBi : ∀ j, B i j = A i j := fun j => by rw [← hB]; exact if_neg (by omega)
  have hBk : ∀ k j, k < n + 1 → k ≠ i → B k j = A k j - A k 0 * f * A i j := fun k j h1 h2 => by
    rw [← hB]; unfold clr; rw [if_pos ⟨h1, h2⟩]; grind
  have e2 := det_toTop (n + 1) i B hi
  have e3 : det (n + 1) A = sgn i * det (n + 1) (toTop i B) := by
    rw [e2, ← e1, ← Int.mul_assoc, sgn_sq, Int.one_mul]
  have e4 : det (n + 1) (toTop i B) % 10007 = det (n + 1) (fun r j => if 1 ≤ r ∧ j = 0 then 0 else toTop i B r j) % 10007 := by
    refine det_mod 10007 fun r hr j hj => ?_
    by_cases g : 1 ≤ r ∧ j = 0
    · rw [if_pos g]
      obtain ⟨g1, rfl⟩ := g
      have : toTop i B r 0 = B (sk i (r - 1)) 0 := if_neg (by omega)
      rw [this, hBk _ _ (sk_bd (by omega)) sk_ne]
      generalize A (sk i (r - 1)) 0 = a
      generalize A i 0 = b at hf
      have h1 : a - a * f * b = a * (1 - b * f) := by grind
      rw [h1, Int.mul_emod, Int.sub_emod, hf]
      simp
    · rw [if_neg g]
  rw [e3, Int.mul_emod, e4, ← Int.mul_emod, det_top (fun k hk => if_pos ⟨by omega, rfl⟩)]
  refine congrArg (fun t => sgn i * t % 10007) ?_
  rw [if_neg (by omega)]
  have e5 : toTop i B 0 0 = A i 0 := hBi 0
  rw [e5]
  refine congrArg (A i 0 * ·) (det_ext fun k hk j hj => ?_)
  rw [if_neg (by omega)]
  show B (sk i (k + 1 - 1)) (j + 1) = _
  rw [Nat.add_sub_cancel, hBk _ _ (sk_bd hk) sk_ne]
end Go.Proofs.Ytdgdanpkekcckaa.Det
