/-
  Determinants of products, and inverses: plain.
-/
import Derived.Test.YtdgdanpkekcckaaDetMod
namespace Go.Proofs.Ytdgdanpkekcckaa
set_option linter.unusedVariables false
set_option linter.unusedSimpArgs false
set_option maxRecDepth 100000

namespace Det
section
variable {n : Nat} {D : (Nat → Nat → Int) → Int} (h : Alt n D)
include h
/-- a row that is a sum of multiples of any vectors -/
theorem Alt.vecs (A : Nat → Nat → Int) (r : Nat) (c : Nat → Int) (v : Nat → Nat → Int) (hr : r < n) : ∀ m, D (upd A r (fun j => sm m (fun k => c k * v k j))) = sm m (fun k => c k * D (upd A r (v k)))
  | 0 => h.zero _ r hr (fun j _ => by rw [upd_at]; rfl)
  | m+1 => by
    have e := h.sum2 A r (fun j => sm m (fun k => c k * v k j)) (fun j => c m * v m j) hr
    have e2 : D (upd A r (fun j => c m * v m j)) = c m * D (upd A r (v m)) := h.scale _ _ r (c m) hr (fun i _ hne j _ => by rw [upd_ne _ _ _ hne, upd_ne _ _ _ hne]) (fun j _ => by rw [upd_at, upd_at])
    rw [Alt.vecs A r c v hr m, e2] at e
    exact e
theorem Alt.clr (A : Nat → Nat → Int) (i : Nat) (c : Nat → Int) (hi : i < n) : ∀ m, m ≤ n → D (clr A i c m) = D A
  | 0, _ => h.ext _ _ fun k _ j _ => if_neg (by omega)
  | m+1, hm => by
    rw [← Alt.clr A i c hi m (by omega)]
    by_cases e : m = i
    · refine h.ext _ _ fun k _ j _ => ?_
      unfold Det.clr
      by_cases g : k < m ∧ k ≠ i
      · rw [if_pos g, if_pos (by omega)]
      · rw [if_neg g, if_neg (by omega)]
    · refine h.addRow (Det.clr A i c m) (Det.clr A i c (m + 1)) m i (c m) (by omega) hi e (fun k _ hk j _ => ?_) (fun j _ => ?_)
      · unfold Det.clr
        by_cases g : k < m ∧ k ≠ i
        · rw [if_pos g, if_pos (by omega)]
        · rw [if_neg g, if_neg (by omega)]
      · unfold Det.clr
        rw [if_pos (by omega), if_neg (by omega), if_neg (by omega)]
theorem Alt.toTop : ∀ (i : Nat) (A : Nat → Nat → Int), i < n → D (toTop i A) = sgn i * D A
  | 0, A, _ => by
    rw [h.ext (Det.toTop 0 A) A (fun r _ j _ => ?_)]
    · show _ = 1 * _; rw [Int.one_mul]
    · unfold Det.toTop sk
      split
      · exact congrArg (fun t => A t j) (by omega)
      · split <;> exact congrArg (fun t => A t j) (by omega)
  | i+1, A, hi => by
    rw [h.ext (Det.toTop (i + 1) A) (Det.toTop i (swp A i (i + 1))) (fun r _ j _ => ?_), Alt.toTop i _ (by omega), h.swap A i (i + 1) (by omega) hi (by omega), sgn_succ, Int.mul_neg, Int.neg_mul]
    unfold Det.toTop swp sk
    repeat' split
    all_goals first | omega | exact congrArg (fun t => A t j) (by omega)
end
def dl (k j : Nat) : Int := if k = j then 1 else 0
theorem sm_dl (n : Nat) (c : Nat → Int) {j : Nat} (hj : j < n) : sm n (fun k => c k * dl k j) = c j := by
  rw [sm_one j hj (fun i _ hne => by show c i * (if i = j then (1 : Int) else 0) = 0; rw [if_neg hne, Int.mul_zero])]
  show c j * (if j = j then (1 : Int) else 0) = c j
  rw [if_pos rfl, Int.mul_one]
/-- the row r is the unit row k: the column k may be cleared -/
def cross (A : Nat → Nat → Int) (r k : Nat) : Nat → Nat → Int := fun i j => if i = r then dl k j else if j = k then 0 else A i j
theorem Alt.cross {n : Nat} {D : (Nat → Nat → Int) → Int} (h : Alt n D) (A : Nat → Nat → Int) (r k : Nat) (hr : r < n) : D (upd A r (dl k)) = D (cross A r k) := by
  rw [← h.clr (upd A r (dl k)) r (fun i => - A i k) hr n (Nat.le_refl _)]
  refine h.ext _ _ fun i hi j hj => ?_
  unfold Det.clr Det.cross
  by_cases e : i = r
  · rw [if_neg (by omega), if_pos e, e, upd_at]
  · rw [if_pos ⟨hi, e⟩, if_neg e, upd_ne _ _ _ e, upd_at]
    unfold dl
    by_cases e2 : j = k
    · subst e2; rw [if_pos rfl, if_pos rfl, Int.mul_one]; exact Int.add_right_neg _
    · rw [if_neg e2, if_neg (fun e => e2 e.symm), Int.mul_zero, Int.add_zero]
/-- a form on the matrices with one row and one column less -/
def bord (k : Nat) (M : Nat → Nat → Int) : Nat → Nat → Int := fun i j => if i = 0 then dl k j else if j = k then 0 else M (i - 1) (if j < k then j else j - 1)
theorem bord_alt {n k : Nat} {D : (Nat → Nat → Int) → Int} (h : Alt (n + 1) D) (hk : k < n + 1) : Alt n (fun M => D (bord k M)) := by
  have hj : ∀ j, j < n + 1 → j ≠ k → (if j < k then j else j - 1) < n := fun j hj hne => by split <;> omega
  refine ⟨fun A B hAB => h.ext _ _ fun i hi j hjn => ?_, fun r x y A B C hr hs he => h.lin (r + 1) x y _ _ _ (by omega) (fun i hi hne j hjn => ?_) (fun j hjn => ?_), fun r A hr he => h.adj (r + 1) _ (by omega) fun j hjn => ?_⟩
  · unfold bord
    by_cases e : i = 0
    · rw [if_pos e, if_pos e]
    · rw [if_neg e, if_neg e]
      by_cases e2 : j = k
      · rw [if_pos e2, if_pos e2]
      · rw [if_neg e2, if_neg e2]; exact hAB _ (by omega) _ (hj j hjn e2)
  · unfold bord
    by_cases e : i = 0
    · rw [if_pos e, if_pos e, if_pos e]; exact ⟨rfl, rfl⟩
    · rw [if_neg e, if_neg e, if_neg e]
      by_cases e2 : j = k
      · rw [if_pos e2, if_pos e2, if_pos e2]; exact ⟨rfl, rfl⟩
      · rw [if_neg e2, if_neg e2, if_neg e2]; exact hs (i - 1) (by omega) (by omega) _ (hj j hjn e2)
  · unfold bord
    rw [if_neg (Nat.succ_ne_zero r), if_neg (Nat.succ_ne_zero r), if_neg (Nat.succ_ne_zero r)]
    by_cases e2 : j = k
    · rw [if_pos e2, if_pos e2, if_pos e2]; omega
    · rw [if_neg e2, if_neg e2, if_neg e2]; exact he _ (hj j hjn e2)
  · unfold bord
    rw [if_neg (Nat.succ_ne_zero r), if_neg (Nat.succ_ne_zero (r + 1))]
    by_cases e2 : j = k
    · rw [if_pos e2, if_pos e2]
    · rw [if_neg e2, if_neg e2]; exact he _ (hj j hjn e2)
/-- there is but one alternating form, to a factor -/
theorem Alt.only : ∀ {n : Nat} {D : (Nat → Nat → Int) → Int}, Alt n D → ∀ A, D A = det n A * D dl
  | 0, D, h, A => by rw [h.ext A dl (fun i hi => by omega)]; show _ = 1 * _; rw [Int.one_mul]
  | n+1, D, h, A => by
    have e0 : D A = sm (n + 1) (fun k => A 0 k * D (upd A 0 (dl k))) := by
      rw [← h.vecs A 0 (A 0) dl (by omega) (n + 1)]
      refine h.ext _ _ fun i _ j hj => ?_
      by_cases e : i = 0
      · subst e; rw [upd_at, sm_dl (n + 1) (A 0) hj]
      · rw [upd_ne _ _ _ e]
    have e1 : ∀ k, k < n + 1 → D (upd A 0 (dl k)) = det n (fun i j => A (i + 1) (sk k j)) * (sgn k * D dl) := by
      intro k hk
      have ih := Alt.only (bord_alt h hk) (fun i j => A (i + 1) (sk k j))
      have f1 : D (upd A 0 (dl k)) = D (bord k (fun i j => A (i + 1) (sk k j))) := by
        rw [h.cross A 0 k (by omega)]
        refine h.ext _ _ fun i _ j _ => ?_
        unfold Det.cross bord
        by_cases e : i = 0
        · rw [if_pos e, if_pos e]
        · rw [if_neg e, if_neg e]
          by_cases e2 : j = k
          · rw [if_pos e2, if_pos e2]
          · rw [if_neg e2, if_neg e2]
            have g1 : i - 1 + 1 = i := by omega
            have g2 : sk k (if j < k then j else j - 1) = j := by
              rcases Nat.lt_or_ge j k with g | g
              · rw [if_pos g]; exact sk_lt g
              · rw [if_neg (by omega), sk_ge (by omega)]; omega
            show A i j = A (i - 1 + 1) (sk k (if j < k then j else j - 1))
            rw [g1, g2]
      have f2 : D (bord k dl) = sgn k * D dl := by
        rw [← h.toTop k dl hk]
        refine h.ext _ _ fun i hi j hj => ?_
        unfold bord Det.toTop
        by_cases e : i = 0
        · rw [if_pos e, if_pos e]
        · rw [if_neg e, if_neg e]
          unfold dl sk
          by_cases e2 : j = k
          · rw [if_pos e2, if_neg (by split <;> omega)]
          · rw [if_neg e2]
            by_cases e3 : i - 1 = (if j < k then j else j - 1)
            · rw [if_pos e3, if_pos (by split at e3 <;> split <;> omega)]
            · rw [if_neg e3, if_neg (by split at e3 <;> split <;> omega)]
      rw [f1, ih, f2]
    rw [e0, det]
    have e2 : sm (n + 1) (fun k => A 0 k * D (upd A 0 (dl k))) = sm (n + 1) (fun k => D dl * (sgn k * A 0 k * det n (fun i j => A (i + 1) (sk k j)))) := sm_congr fun k hk => by
      rw [e1 k hk]
      ac_rfl
    rw [e2, sm_mul, Int.mul_comm]
/-- the determinant of a product -/
theorem det_prod (n : Nat) (A B : Nat → Nat → Int) : det n (fun i j => sm n (fun k => A i k * B k j)) = det n A * det n B := by
  have h := det_alt n
  have hE : Alt n (fun M => det n (fun i j => sm n (fun k => M i k * B k j))) := by
    refine ⟨fun A1 A2 hA => h.ext _ _ fun i hi j hj => sm_congr fun k hk => by rw [hA i hi k hk], fun r x y A1 A2 A3 hr hs he => h.lin r x y _ _ _ hr (fun i hi hne j hj => ⟨sm_congr fun k hk => by rw [(hs i hi hne k hk).1], sm_congr fun k hk => by rw [(hs i hi hne k hk).2]⟩) (fun j hj => ?_), fun r A1 hr he => h.adj r _ hr fun j hj => sm_congr fun k hk => by rw [he k hk]⟩
    rw [← sm_mul, ← sm_mul, ← sm_add]
    refine sm_congr fun k hk => ?_
    rw [he k hk, Int.add_mul, Int.mul_assoc, Int.mul_assoc]
  have e := Alt.only hE A
  have e2 : det n (fun i j => sm n (fun k => dl i k * B k j)) = det n B := det_ext fun i hi j _ => by
    rw [sm_one i hi (fun k _ hne => by unfold dl; rw [if_neg (fun e => hne e.symm), Int.zero_mul])]
    unfold dl
    rw [if_pos rfl, Int.one_mul]
  rw [← e2]
  exact e
/-- cofactors: the column k is the unit column l, or the row l is the unit row k -/
def cof (n : Nat) (A : Nat → Nat → Int) (k l : Nat) : Int := det n (fun r j => if j = k then (if r = l then 1 else 0) else A r j)
theorem cof_row {n : Nat} (A : Nat → Nat → Int) {k l : Nat} (hk : k < n) (hl : l < n) : cof n A k l = det n (upd A l (dl k)) := by
  rw [(det_alt n).cross A l k hl]
  have e := (det_col_alt n).cross (fun j r => A r j) k l hk
  have e1 : cof n A k l = det n (fun i j => upd (fun j r => A r j) k (dl l) j i) := det_ext fun r _ j _ => by
    unfold upd dl
    by_cases g : j = k
    · rw [if_pos g, if_pos g]
      by_cases g2 : r = l
      · rw [if_pos g2, if_pos g2.symm]
      · rw [if_neg g2, if_neg (fun e => g2 e.symm)]
    · rw [if_neg g, if_neg g]
  rw [e1]
  refine Eq.trans e (det_ext fun r _ j _ => ?_)
  unfold Det.cross dl
  by_cases g : j = k
  · by_cases g2 : r = l
    · rw [if_pos g, if_pos g2.symm, if_pos g2, if_pos g.symm]
    · rw [if_pos g, if_neg (fun e => g2 e.symm), if_neg g2, if_pos g]
  · by_cases g2 : r = l
    · rw [if_neg g, if_pos g2, if_pos g2, if_neg (fun e => g e.symm)]
    · rw [if_neg g, if_neg g2, if_neg g2, if_neg g]
theorem cof_right {n : Nat} (A : Nat → Nat → Int) {i l : Nat} (hi : i < n) (hl : l < n) : sm n (fun k => A i k * cof n A k l) = (if i = l then 1 else 0) * det n A := by
  have e : sm n (fun k => A i k * cof n A k l) = sm n (fun k => A i k * det n (upd A l (dl k))) := sm_congr fun k hk => by rw [cof_row A hk hl]
  rw [e, ← (det_alt n).vecs A l (A i) dl hl n]
  have e2 : det n (upd A l (fun j => sm n (fun k => A i k * dl k j))) = det n (upd A l (A i)) := det_ext fun r _ j hj => by
    by_cases g : r = l
    · subst g; rw [upd_at, upd_at, sm_dl n (A i) hj]
    · rw [upd_ne _ _ _ g, upd_ne _ _ _ g]
  rw [e2]
  by_cases g : i = l
  · subst g
    rw [if_pos rfl, Int.one_mul]
    exact det_ext fun r _ j _ => by
      by_cases g : r = i
      · subst g; rw [upd_at]
      · rw [upd_ne _ _ _ g]
  · rw [if_neg g, Int.zero_mul]
    exact (det_alt n).same _ i l hi hl g fun j _ => by rw [upd_at, upd_ne _ _ _ g]
theorem cof_left {n : Nat} (A : Nat → Nat → Int) {i l : Nat} (hi : i < n) (hl : l < n) : sm n (fun k => cof n A i k * A k l) = (if i = l then 1 else 0) * det n A := by
  have h := det_col_alt n
  have e : sm n (fun k => cof n A i k * A k l) = sm n (fun k => A k l * det n (fun r j => upd (fun j r => A r j) i (dl k) j r)) := sm_congr fun k hk => by
    rw [Int.mul_comm]
    refine congrArg (A k l * ·) (det_ext fun r _ j _ => ?_)
    unfold upd dl
    by_cases g : j = i
    · rw [if_pos g, if_pos g]
      by_cases g2 : r = k
      · rw [if_pos g2, if_pos g2.symm]
      · rw [if_neg g2, if_neg (fun e => g2 e.symm)]
    · rw [if_neg g, if_neg g]
  rw [e]
  have e1 := h.vecs (fun j r => A r j) i (fun k => A k l) dl hi n
  refine Eq.trans e1.symm ?_
  have e2 : det n (fun r j => upd (fun j r => A r j) i (fun r => sm n (fun k => A k l * dl k r)) j r) = det n (fun r j => upd (fun j r => A r j) i (fun r => A r l) j r) := det_ext fun r hr j _ => by
    by_cases g : j = i
    · subst g; rw [upd_at, upd_at, sm_dl n (fun k => A k l) hr]
    · rw [upd_ne _ _ _ g, upd_ne _ _ _ g]
  refine Eq.trans e2 ?_
  by_cases g : i = l
  · subst g
    rw [if_pos rfl, Int.one_mul]
    exact det_ext fun r _ j _ => by
      by_cases g : j = i
      · subst g; rw [upd_at]
      · rw [upd_ne _ _ _ g]
  · rw [if_neg g, Int.zero_mul]
    exact h.same _ i l hi hl g fun j _ => by rw [upd_at, upd_ne _ _ _ (Ne.symm g)]
end Det
end Go.Proofs.Ytdgdanpkekcckaa
