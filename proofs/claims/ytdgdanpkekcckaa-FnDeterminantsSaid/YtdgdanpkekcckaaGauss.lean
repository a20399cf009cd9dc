/-
  Elimination by Gauss and Jordan, modulo 10007: what one step does to a determinant, where it stops, what stands at the end. No Go in sight.
-/
import Derived.Test.YtdgdanpkekcckaaDetMod
namespace Go.Proofs.Ytdgdanpkekcckaa.Det
set_option linter.unusedVariables false

/-- unit columns before c, and nothing left to divide by in the column c -/
theorem det_stop : ∀ (c n : Nat) (M : Nat → Nat → Int), c < n → (∀ i, i < n → ∀ k, k < c → M i k = if i = k then 1 else 0) → (∀ i, c ≤ i → i < n → M i c = 0) → det n M = 0
  | 0, n, M, hc, _, h0 => det_col_zero hc (fun i hi => h0 i (Nat.zero_le _) hi)
  | c+1, n, M, hc, hu, h0 => by
    obtain ⟨n, rfl⟩ : ∃ n', n = n' + 1 := ⟨n - 1, by omega⟩
    rw [det_top (fun i hi => by rw [hu (i + 1) (by omega) 0 (by omega), if_neg (by omega)])]
    rw [det_stop c n (fun i j => M (i + 1) (j + 1)) (by omega) (fun i hi k hk => ?_) (fun i hi hi2 => h0 (i + 1) (by omega) (by omega)), Int.mul_zero]
    show M (i + 1) (k + 1) = _
    rw [hu (i + 1) (by omega) (k + 1) (by omega)]
    by_cases e : i = k
    · rw [if_pos (by omega), if_pos e]
    · rw [if_neg (by omega), if_neg e]
theorem det_unit {n : Nat} {M : Nat → Nat → Int} (h : ∀ i, i < n → ∀ k, k < n → M i k = if i = k then 1 else 0) : det n M = 1 :=
  (det_ext h).trans (det_one n)
/-- one step: the row c is scaled, and taken from the others -/
theorem gauss_step {n c : Nat} {M M3 : Nat → Nat → Int} {x s : Int} (hc : c < n) (hs : x * s % 10007 = 1) (hx : M c c = x)
    (h3 : ∀ i, i < n → ∀ k, k < n → M3 i k % 10007 = (if i = c then M c k * s else M i k - M i c * (M c k * s)) % 10007) : x * det n M3 % 10007 = det n M % 10007 := by
  have e1 : det n (upd M c (fun k => s * M c k)) = s * det n M :=
    (det_alt n).scale _ _ c s hc (fun i _ hne j _ => upd_ne M _ j hne) (fun j _ => upd_at M c _ j)
  have e2 := det_clr n (upd M c (fun k => s * M c k)) c (fun k => - (M k c)) hc n (Nat.le_refl _)
  have e3 : det n M3 % 10007 = det n (clr (upd M c (fun k => s * M c k)) c (fun k => - (M k c)) n) % 10007 := by
    refine det_mod 10007 fun i hi k hk => ?_
    rw [h3 i hi k hk]
    unfold clr
    by_cases e : i = c
    · rw [if_pos e, if_neg (fun g => g.2 e), e, upd_at, Int.mul_comm]
    · rw [if_neg e, if_pos ⟨hi, e⟩, upd_ne M _ k e, upd_at]
      congr 1
      grind
  rw [e2, e1] at e3
  have e4 : x * det n M3 % 10007 = x * (s * det n M) % 10007 := by rw [Int.mul_emod, e3, ← Int.mul_emod]
  rw [e4, ← Int.mul_assoc, Int.mul_emod, hs, Int.one_mul, Int.emod_emod]
end Go.Proofs.Ytdgdanpkekcckaa.Det
