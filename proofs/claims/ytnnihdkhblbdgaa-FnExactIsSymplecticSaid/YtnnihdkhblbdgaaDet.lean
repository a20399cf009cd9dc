/-
  Determinants by the first row, on functions of two indices: sums, alternating maps, columns, the rule of Cramer. No Go in sight.
-/
namespace Go.Proofs.Ytnnihdkhblbdgaa.Det
/-! sums -/
def sm : Nat → (Nat → Int) → Int
  | 0, _ => 0
  | n+1, f => sm n f + f n
theorem sm_congr {n : Nat} {f g : Nat → Int} (h : ∀ i, i < n → f i = g i) : sm n f = sm n g := by
  induction n with
  | zero => rfl
  | succ n ih => rw [sm, sm, ih (fun i hi => h i (by omega)), h n (by omega)]
theorem sm_zero {n : Nat} {f : Nat → Int} (h : ∀ i, i < n → f i = 0) : sm n f = 0 := by
  induction n with
  | zero => rfl
  | succ n ih => rw [sm, ih (fun i hi => h i (by omega)), h n (by omega)]; rfl
theorem sm_add (n : Nat) (f g : Nat → Int) : sm n (fun i => f i + g i) = sm n f + sm n g := by
  induction n with
  | zero => rfl
  | succ n ih => simp only [sm, ih]; omega
theorem sm_mul (n : Nat) (c : Int) (f : Nat → Int) : sm n (fun i => c * f i) = c * sm n f := by
  induction n with
  | zero => simp [sm]
  | succ n ih => simp only [sm, ih, Int.mul_add]
theorem sm_comm (n m : Nat) (f : Nat → Nat → Int) : sm n (fun i => sm m (f i)) = sm m (fun j => sm n (fun i => f i j)) := by
  induction n with
  | zero => simp only [sm]; exact (sm_zero (fun _ _ => rfl)).symm
  | succ n ih => simp only [sm, ih, sm_add]
theorem sm_one {n : Nat} {f : Nat → Int} (c : Nat) (hc : c < n) (h : ∀ i, i < n → i ≠ c → f i = 0) : sm n f = f c := by
  induction n with
  | zero => omega
  | succ n ih =>
    rw [sm]
    by_cases e : c = n
    · subst e; rw [sm_zero (fun i hi => h i (by omega) (by omega))]; omega
    · rw [ih (by omega) (fun i hi => h i (by omega)), h n (by omega) (by omega)]; omega
theorem sm_two {n : Nat} {f : Nat → Int} (c : Nat) (hc : c + 1 < n) (h : ∀ i, i < n → i ≠ c → i ≠ c + 1 → f i = 0) : sm n f = f c + f (c + 1) := by
  induction n with
  | zero => omega
  | succ n ih =>
    rw [sm]
    by_cases e : c + 1 = n
    · subst e; rw [sm_one c (by omega) (fun i hi hn => h i (by omega) hn (by omega))]
    · rw [ih (by omega) (fun i hi => h i (by omega)), h n (by omega) (by omega) (by omega)]; omega
theorem sm_tri (N : Nat) (g : Nat → Nat → Int) :
    sm (N + 1) (fun j => sm N (fun k => g j k)) = sm (N + 1) (fun j => sm j (fun k => g j k + g k (j - 1))) := by
  induction N with
  | zero => simp [sm]
  | succ N ih =>
    have e1 : sm (N + 1) (fun j => sm (N + 1) (fun k => g j k)) = sm (N + 1) (fun j => sm N (fun k => g j k)) + sm (N + 1) (fun j => g j N) := by
      rw [← sm_add]; rfl
    have e2 : ∀ f : Nat → Int, sm (N + 1 + 1) f = sm (N + 1) f + f (N + 1) := fun _ => rfl
    rw [e2, e2, e1, ih]
    show _ + sm (N + 1) (fun j => g j N) + sm (N + 1) (fun k => g (N + 1) k) = _ + sm (N + 1) (fun k => g (N + 1) k + g k (N + 1 - 1))
    rw [sm_add, Nat.add_sub_cancel, Int.add_assoc, Int.add_comm (sm (N + 1) fun j => g j N)]

/-! the determinant by the first row -/
def sgn (j : Nat) : Int := if j % 2 = 0 then 1 else -1
theorem sgn_succ (j : Nat) : sgn (j + 1) = - sgn j := by unfold sgn; split <;> split <;> omega
theorem sgn_sq (j : Nat) : sgn j * sgn j = 1 := by unfold sgn; split <;> rfl
def sk (j k : Nat) : Nat := if k < j then k else k + 1
theorem sk_lt {j k : Nat} (h : k < j) : sk j k = k := if_pos h
theorem sk_ge {j k : Nat} (h : j ≤ k) : sk j k = k + 1 := if_neg (by omega)
theorem sk_bd {j k n : Nat} (h : k < n) : sk j k < n + 1 := by unfold sk; split <;> omega
theorem sk_ne {j k : Nat} : sk j k ≠ j := by unfold sk; split <;> omega
theorem sk_sk {j k l : Nat} (h : k < j) : sk j (sk k l) = sk k (sk (j - 1) l) := by unfold sk; split <;> split <;> split <;> (try split) <;> omega
def det : Nat → (Nat → Nat → Int) → Int
  | 0, _ => 1
  | n+1, A => sm (n + 1) fun j => sgn j * A 0 j * det n (fun i k => A (i + 1) (sk j k))
theorem det_ext : ∀ {n : Nat} {A B : Nat → Nat → Int}, (∀ i, i < n → ∀ j, j < n → A i j = B i j) → det n A = det n B
  | 0, _, _, _ => rfl
  | n+1, A, B, h => by
    rw [det, det]
    refine sm_congr fun j hj => ?_
    rw [h 0 (by omega) j hj, det_ext (n := n) fun i hi k hk => h (i + 1) (by omega) _ (sk_bd hk)]

/-- alternating and linear in n vectors of length n -/
structure Alt (n : Nat) (D : (Nat → Nat → Int) → Int) : Prop where
  ext : ∀ A B : Nat → Nat → Int, (∀ i, i < n → ∀ j, j < n → A i j = B i j) → D A = D B
  lin : ∀ (r : Nat) (x y : Int) (A B C : Nat → Nat → Int), r < n → (∀ i, i < n → i ≠ r → ∀ j, j < n → A i j = B i j ∧ A i j = C i j) →
    (∀ j, j < n → A r j = x * B r j + y * C r j) → D A = x * D B + y * D C
  adj : ∀ (r : Nat) (A : Nat → Nat → Int), r + 1 < n → (∀ j, j < n → A r j = A (r + 1) j) → D A = 0

theorem det_lin : ∀ (n r : Nat) (x y : Int) (A B C : Nat → Nat → Int), r < n → (∀ i, i < n → i ≠ r → ∀ j, j < n → A i j = B i j ∧ A i j = C i j) →
    (∀ j, j < n → A r j = x * B r j + y * C r j) → det n A = x * det n B + y * det n C
  | 0, r, _, _, _, _, _, h, _, _ => by omega
  | n+1, 0, x, y, A, B, C, _, hs, hr => by
    simp only [det]
    rw [← sm_mul, ← sm_mul, ← sm_add]
    refine sm_congr fun j hj => ?_
    rw [hr j hj, det_ext (n := n) (A := fun i k => A (i + 1) (sk j k)) (B := fun i k => B (i + 1) (sk j k)) fun i hi k hk => (hs (i + 1) (by omega) (by omega) _ (sk_bd hk)).1,
      det_ext (n := n) (A := fun i k => C (i + 1) (sk j k)) (B := fun i k => B (i + 1) (sk j k)) fun i hi k hk => by
        have h1 := hs (i + 1) (by omega) (by omega) _ (sk_bd (j := j) hk); rw [← h1.2, h1.1]]
    grind
  | n+1, r+1, x, y, A, B, C, h, hs, hr => by
    simp only [det]
    rw [← sm_mul, ← sm_mul, ← sm_add]
    refine sm_congr fun j hj => ?_
    have h0 := hs 0 (by omega) (by omega) j hj
    rw [det_lin n r x y (fun i k => A (i + 1) (sk j k)) (fun i k => B (i + 1) (sk j k)) (fun i k => C (i + 1) (sk j k)) (by omega)
      (fun i hi hne k hk => hs (i + 1) (by omega) (by omega) _ (sk_bd hk)) (fun k hk => hr _ (sk_bd hk)), ← h0.1, ← h0.2]
    grind
theorem det_adj : ∀ (n r : Nat) (A : Nat → Nat → Int), r + 1 < n → (∀ j, j < n → A r j = A (r + 1) j) → det n A = 0
  | 0, _, _, h, _ => by omega
  | 1, _, _, h, _ => by omega
  | n+2, 0, A, _, he => by
    have e : det (n + 2) A = sm (n + 1 + 1) fun j => sm (n + 1) fun k => sgn j * A 0 j * (sgn k * A 1 (sk j k) * det n (fun i l => A (i + 2) (sk j (sk k l)))) := by
      rw [det]
      refine sm_congr fun j hj => ?_
      rw [det, ← sm_mul]
    rw [e, sm_tri]
    refine sm_zero fun j hj => sm_zero fun k hk => ?_
    have e1 : sk j k = k := sk_lt hk
    have e2 : sk k (j - 1) = j := by rw [sk_ge (by omega)]; omega
    have e3 : sgn (j - 1) = - sgn j := by
      have := sgn_succ (j - 1); rw [show j - 1 + 1 = j from by omega] at this; omega
    rw [e1, e2, e3, det_ext (n := n) (A := fun i l => A (i + 2) (sk j (sk k l))) (B := fun i l => A (i + 2) (sk k (sk (j - 1) l))) (fun i _ l _ => by rw [sk_sk hk]),
      ← he k (by omega), ← he j (by omega)]
    grind
  | n+2, r+1, A, h, he => by
    rw [det]
    refine sm_zero fun j hj => ?_
    rw [det_adj (n + 1) r (fun i k => A (i + 1) (sk j k)) (by omega) (fun k hk => he _ (sk_bd hk))]
    omega
theorem det_alt (n : Nat) : Alt n (det n) := ⟨fun _ _ h => det_ext h, fun r x y A B C => det_lin n r x y A B C, fun r A => det_adj n r A⟩

/-! what alternating maps do -/
def upd (A : Nat → Nat → Int) (r : Nat) (v : Nat → Int) : Nat → Nat → Int := fun i j => if i = r then v j else A i j
theorem upd_at (A : Nat → Nat → Int) (r : Nat) (v : Nat → Int) (j : Nat) : upd A r v r j = v j := if_pos rfl
theorem upd_ne (A : Nat → Nat → Int) {r i : Nat} (v : Nat → Int) (j : Nat) (h : i ≠ r) : upd A r v i j = A i j := if_neg h
def swp (A : Nat → Nat → Int) (p q : Nat) : Nat → Nat → Int := fun i j => if i = p then A q j else if i = q then A p j else A i j

section
variable {n : Nat} {D : (Nat → Nat → Int) → Int} (h : Alt n D)
include h

theorem Alt.zero (A : Nat → Nat → Int) (r : Nat) (hr : r < n) (hz : ∀ j, j < n → A r j = 0) : D A = 0 := by
  have := h.lin r 0 0 A A A hr (fun _ _ _ _ _ => ⟨rfl, rfl⟩) (fun j hj => by rw [hz j hj]; rfl)
  omega
theorem Alt.scale (A B : Nat → Nat → Int) (r : Nat) (c : Int) (hr : r < n) (hs : ∀ i, i < n → i ≠ r → ∀ j, j < n → A i j = B i j) (he : ∀ j, j < n → A r j = c * B r j) : D A = c * D B := by
  have := h.lin r c 0 A B B hr (fun i hi hne j hj => ⟨hs i hi hne j hj, hs i hi hne j hj⟩) (fun j hj => by rw [he j hj]; omega)
  omega
theorem Alt.sum2 (A : Nat → Nat → Int) (r : Nat) (u v : Nat → Int) (hr : r < n) : D (upd A r (fun j => u j + v j)) = D (upd A r u) + D (upd A r v) := by
  have := h.lin r 1 1 (upd A r (fun j => u j + v j)) (upd A r u) (upd A r v) hr (fun i _ hne j _ => by rw [upd_ne _ _ _ hne, upd_ne _ _ _ hne, upd_ne _ _ _ hne]; exact ⟨rfl, rfl⟩)
    (fun j _ => by rw [upd_at, upd_at, upd_at]; omega)
  omega
/-- where two rows that are alike give 0, two rows that change places turn the sign -/
theorem Alt.swap_of (p q : Nat) (hp : p < n) (hq : q < n) (hpq : p ≠ q) (h0 : ∀ A : Nat → Nat → Int, (∀ j, j < n → A p j = A q j) → D A = 0) (A : Nat → Nat → Int) : D (swp A p q) = - D A := by
  have e0 := h0 (upd (upd A p (fun j => A p j + A q j)) q (fun j => A p j + A q j)) (fun j _ => by rw [upd_at, upd_ne _ _ _ hpq, upd_at])
  rw [h.sum2 _ q _ _ hq] at e0
  have e1 : ∀ v : Nat → Int, D (upd (upd A p (fun j => A p j + A q j)) q v) = D (upd (upd A p (A p)) q v) + D (upd (upd A p (A q)) q v) := by
    intro v
    have c : ∀ u : Nat → Int, D (upd (upd A p u) q v) = D (upd (upd A q v) p u) := fun u => h.ext _ _ fun i _ j _ => by
      unfold upd; by_cases hi : i = q <;> by_cases hi2 : i = p <;> simp [hi, hi2]
      all_goals (intro hh; omega)
    rw [c, c, c, h.sum2 _ p _ _ hp]
  rw [e1, e1] at e0
  have z1 : D (upd (upd A p (A p)) q (A p)) = 0 := h0 _ (fun j _ => by rw [upd_at, upd_ne _ _ _ hpq, upd_at])
  have z2 : D (upd (upd A p (A q)) q (A q)) = 0 := h0 _ (fun j _ => by rw [upd_at, upd_ne _ _ _ hpq, upd_at])
  have i1 : D (upd (upd A p (A p)) q (A q)) = D A := h.ext _ _ fun i _ j _ => by
    unfold upd; by_cases hi : i = q <;> by_cases hi2 : i = p <;> simp [hi, hi2]
    all_goals (intro hh; omega)
  have i2 : D (upd (upd A p (A q)) q (A p)) = D (swp A p q) := h.ext _ _ fun i _ j _ => by
    unfold upd swp; by_cases hi : i = q <;> by_cases hi2 : i = p <;> simp [hi, hi2]
    all_goals (intro hh; omega)
  omega
theorem Alt.same_lt : ∀ (d p : Nat) (A : Nat → Nat → Int), p + d + 1 < n → (∀ j, j < n → A p j = A (p + d + 1) j) → D A = 0
  | 0, p, A, hq, he => h.adj p A hq he
  | d+1, p, A, hq, he => by
    have e := h.swap_of (p + d + 1) (p + d + 2) (by omega) (by omega) (by omega) (fun B hB => h.adj _ B (by omega) hB) A
    have z := Alt.same_lt d p (swp A (p + d + 1) (p + d + 2)) (by omega) (fun j hj => by
      unfold swp; rw [if_neg (by omega), if_neg (by omega), if_pos rfl]; exact he j hj)
    omega
theorem Alt.same (A : Nat → Nat → Int) (p q : Nat) (hp : p < n) (hq : q < n) (hpq : p ≠ q) (he : ∀ j, j < n → A p j = A q j) : D A = 0 := by
  rcases Nat.lt_or_ge p q with g | g
  · exact h.same_lt (q - p - 1) p A (by omega) (fun j hj => by rw [show p + (q - p - 1) + 1 = q from by omega]; exact he j hj)
  · exact h.same_lt (p - q - 1) q A (by omega) (fun j hj => by rw [show q + (p - q - 1) + 1 = p from by omega]; exact (he j hj).symm)
theorem Alt.swap (A : Nat → Nat → Int) (p q : Nat) (hp : p < n) (hq : q < n) (hpq : p ≠ q) : D (swp A p q) = - D A :=
  h.swap_of p q hp hq hpq (fun B hB => h.same B p q hp hq hpq hB) A
/-- a multiple of another row added to a row changes nothing -/
theorem Alt.addRow (A B : Nat → Nat → Int) (p q : Nat) (c : Int) (hp : p < n) (hq : q < n) (hpq : p ≠ q) (hs : ∀ i, i < n → i ≠ p → ∀ j, j < n → B i j = A i j) (he : ∀ j, j < n → B p j = A p j + c * A q j) : D B = D A := by
  have := h.lin p 1 c B A (upd A p (A q)) hp (fun i hi hne j hj => ⟨hs i hi hne j hj, by rw [upd_ne _ _ _ hne]; exact hs i hi hne j hj⟩) (fun j hj => by rw [upd_at, he j hj]; omega)
  have z := h.same (upd A p (A q)) p q hp hq hpq (fun j _ => by rw [upd_at, upd_ne _ _ _ (Ne.symm hpq)])
  rw [z] at this
  omega
/-- a sum of multiples of all rows in a row's place -/
theorem Alt.comb (A : Nat → Nat → Int) (p : Nat) (c : Nat → Int) (hp : p < n) : ∀ m, m ≤ n → D (upd A p (fun j => sm m (fun i => c i * A i j))) = (if p < m then c p else 0) * D A := by
  intro m
  induction m with
  | zero => intro _; rw [h.zero _ p hp (fun j _ => by rw [upd_at]; rfl)]; simp
  | succ m ih =>
    intro hm
    have e : D (upd A p (fun j => sm (m + 1) (fun i => c i * A i j))) = D (upd A p (fun j => sm m (fun i => c i * A i j))) + D (upd A p (fun j => c m * A m j)) := by
      rw [← h.sum2 _ p _ _ hp]; rfl
    rw [e, ih (by omega)]
    have e2 : D (upd A p (fun j => c m * A m j)) = c m * D (upd A p (A m)) := h.scale _ _ p (c m) hp (fun i _ hne j _ => by rw [upd_ne _ _ _ hne, upd_ne _ _ _ hne]) (fun j _ => by rw [upd_at, upd_at])
    rw [e2]
    by_cases hpm : p = m
    · subst hpm
      rw [if_neg (by omega), if_pos (by omega), h.ext (upd A p (A p)) A (fun i _ j _ => by unfold upd; split <;> simp_all)]
      omega
    · rw [h.same (upd A p (A m)) p m hp (by omega) hpm (fun j _ => by rw [upd_at, upd_ne _ _ _ (Ne.symm hpm)])]
      by_cases hlt : p < m
      · rw [if_pos hlt, if_pos (by omega)]; omega
      · rw [if_neg hlt, if_neg (by omega)]; omega
end

/-! columns -/
theorem det_col_lin : ∀ (n c : Nat) (x y : Int) (A B C : Nat → Nat → Int), c < n → (∀ j, j < n → j ≠ c → ∀ i, i < n → A i j = B i j ∧ A i j = C i j) →
    (∀ i, i < n → A i c = x * B i c + y * C i c) → det n A = x * det n B + y * det n C
  | 0, _, _, _, _, _, _, h, _, _ => by omega
  | n+1, c, x, y, A, B, C, hc, hs, he => by
    simp only [det]
    rw [← sm_mul, ← sm_mul, ← sm_add]
    refine sm_congr fun j hj => ?_
    by_cases hjc : j = c
    · subst hjc
      rw [he 0 (by omega), det_ext (n := n) (A := fun i k => A (i + 1) (sk j k)) (B := fun i k => B (i + 1) (sk j k)) fun i hi k hk => (hs _ (sk_bd hk) sk_ne (i + 1) (by omega)).1,
        det_ext (n := n) (A := fun i k => C (i + 1) (sk j k)) (B := fun i k => B (i + 1) (sk j k)) fun i hi k hk => by
          have h1 := hs _ (sk_bd (j := j) hk) sk_ne (i + 1) (by omega); rw [← h1.2, h1.1]]
      grind
    · have h0 := hs j hj hjc 0 (by omega)
      have hcs : ∃ c', c' < n ∧ sk j c' = c := by
        rcases Nat.lt_or_ge c j with g | g
        · exact ⟨c, by omega, sk_lt g⟩
        · exact ⟨c - 1, by omega, by rw [sk_ge (by omega)]; omega⟩
      obtain ⟨c', hc', rfl⟩ := hcs
      rw [det_col_lin n c' x y (fun i k => A (i + 1) (sk j k)) (fun i k => B (i + 1) (sk j k)) (fun i k => C (i + 1) (sk j k)) hc'
        (fun k hk hne i hi => hs _ (sk_bd hk) (by intro e; apply hne; unfold sk at e; split at e <;> split at e <;> omega) (i + 1) (by omega)) (fun i hi => he (i + 1) (by omega)), ← h0.1, ← h0.2]
      grind
theorem det_col_adj : ∀ (n c : Nat) (A : Nat → Nat → Int), c + 1 < n → (∀ i, i < n → A i c = A i (c + 1)) → det n A = 0
  | 0, _, _, h, _ => by omega
  | n+1, c, A, hc, he => by
    rw [det, sm_two c hc (fun j hj h1 h2 => ?_)]
    · rw [det_ext (n := n) (A := fun i k => A (i + 1) (sk (c + 1) k)) (B := fun i k => A (i + 1) (sk c k)) fun i hi k hk => ?_, sgn_succ, he 0 (by omega)]
      · grind
      · unfold sk
        by_cases h1 : k < c
        · rw [if_pos (by omega), if_pos h1]
        · by_cases h2 : k = c
          · subst h2; rw [if_pos (by omega), if_neg (by omega)]; exact he (i + 1) (by omega)
          · rw [if_neg (by omega), if_neg (by omega)]
    · have : ∃ c', c' + 1 < n ∧ sk j c' = c ∧ sk j (c' + 1) = c + 1 := by
        rcases Nat.lt_or_ge (c + 1) j with g | g
        · exact ⟨c, by omega, sk_lt (by omega), sk_lt (by omega)⟩
        · exact ⟨c - 1, by omega, by rw [sk_ge (by omega)]; omega, by rw [sk_ge (by omega)]; omega⟩
      obtain ⟨c', h3, h4, h5⟩ := this
      rw [det_col_adj n c' (fun i k => A (i + 1) (sk j k)) h3 (fun i hi => by rw [h4, h5]; exact he (i + 1) (by omega))]
      omega
theorem det_col_alt (n : Nat) : Alt n (fun A => det n (fun i j => A j i)) :=
  ⟨fun _ _ h => det_ext fun i hi j hj => h j hj i hi, fun r x y _ _ _ hr hs he => det_col_lin n r x y _ _ _ hr (fun j hj hne i hi => hs j hj hne i hi) he,
    fun r _ hr he => det_col_adj n r _ hr he⟩
/-- Cramer: where x solves the system, the right side in a column's place has x's number as a factor -/
theorem cramer (n : Nat) (A : Nat → Nat → Int) (x : Nat → Int) (b : Nat → Int) (k : Nat) (hk : k < n) (hx : ∀ i, i < n → sm n (fun j => A i j * x j) = b i) :
    det n (fun i j => if j = k then b i else A i j) = x k * det n A := by
  have e := (det_col_alt n).comb (fun j i => A i j) k x hk n (Nat.le_refl _)
  rw [if_pos hk] at e
  rw [← e]
  refine det_ext fun i hi j hj => ?_
  unfold upd
  by_cases hjk : j = k
  · rw [if_pos hjk, if_pos hjk, ← hx i hi]; exact sm_congr fun l _ => Int.mul_comm _ _
  · rw [if_neg hjk, if_neg hjk]
theorem det_one (n : Nat) : det n (fun i j => if i = j then 1 else 0) = 1 := by
  induction n with
  | zero => rfl
  | succ n ih =>
    rw [det, sm_one 0 (by omega) (fun j _ hj => by rw [if_neg (by omega)]; omega), det_ext (n := n) (B := fun i j => if i = j then 1 else 0) (fun i _ j _ => by rw [sk_ge (by omega)]; simp), ih]
    rfl
end Go.Proofs.Ytnnihdkhblbdgaa.Det
