/-
  Power series of which finitely many coefficients matter, over the integers, modulo 10007: products, powers, derivatives, compositions, exponentials, logarithms, reverses. No Go in sight.
-/
import Derived.Test.YtfllcdcgfpjabaaField
namespace Go.Proofs.Ytfllcdcgfpjabaa.Ser
open Fld
set_option linter.unusedVariables false

/-! sums of the first n values -/
def sm : Nat → (Nat → Int) → Int
  | 0, _ => 0
  | n+1, f => sm n f + f n
theorem sm_congr {n : Nat} {f g : Nat → Int} (h : ∀ i, i < n → f i = g i) : sm n f = sm n g := by
  induction n with
  | zero => rfl
  | succ n ih => rw [sm, sm, ih (fun i hi => h i (by omega)), h n (by omega)]
theorem sm_add (n : Nat) (f g : Nat → Int) : sm n (fun i => f i + g i) = sm n f + sm n g := by
  induction n with
  | zero => rfl
  | succ n ih => simp only [sm]; rw [ih]; omega
theorem sm_mul (n : Nat) (c : Int) (f : Nat → Int) : sm n (fun i => c * f i) = c * sm n f := by
  induction n with
  | zero => simp [sm]
  | succ n ih => simp only [sm]; rw [ih, Int.mul_add]
theorem sm_mulr (n : Nat) (c : Int) (f : Nat → Int) : sm n (fun i => f i * c) = sm n f * c := by
  induction n with
  | zero => simp [sm]
  | succ n ih => simp only [sm]; rw [ih, Int.add_mul]
theorem sm_zero {n : Nat} {f : Nat → Int} (h : ∀ i, i < n → f i = 0) : sm n f = 0 := by
  induction n with
  | zero => rfl
  | succ n ih => rw [sm, ih (fun i hi => h i (by omega)), h n (by omega)]; rfl
theorem sm_swap (m n : Nat) (F : Nat → Nat → Int) : sm m (fun i => sm n (F i)) = sm n (fun j => sm m (fun i => F i j)) := by
  induction m with
  | zero => exact (sm_zero (fun i _ => rfl)).symm
  | succ m ih => simp only [sm]; rw [ih, ← sm_add]
theorem sm_first (n : Nat) (f : Nat → Int) : sm (n + 1) f = f 0 + sm n (fun i => f (i + 1)) := by
  induction n with
  | zero => simp [sm]
  | succ n ih => rw [sm, ih, sm]; omega
theorem sm_rev (n : Nat) (f : Nat → Int) : sm (n + 1) (fun i => f (n - i)) = sm (n + 1) f := by
  induction n with
  | zero => rfl
  | succ n ih =>
    rw [sm_first, Nat.sub_zero]
    show _ = sm (n + 1) f + f (n + 1)
    have e : sm (n + 1) (fun i => f (n + 1 - (i + 1))) = sm (n + 1) (fun i => f (n - i)) := sm_congr (fun i _ => by rw [Nat.add_sub_add_right])
    rw [e, ih]; omega
theorem sm_tri (N : Nat) (F : Nat → Nat → Int) : sm N (fun i => sm (i + 1) (F i)) = sm N (fun j => sm (N - j) (fun k => F (j + k) j)) := by
  induction N with
  | zero => rfl
  | succ N ih =>
    have e : sm N (fun j => sm (N + 1 - j) (fun k => F (j + k) j)) = sm N (fun j => sm (N - j) (fun k => F (j + k) j) + F N j) := sm_congr (fun j hj => by
      rw [show N + 1 - j = (N - j) + 1 from by omega, sm, show j + (N - j) = N from by omega])
    have e2 : sm (N + 1 - N) (fun k => F (N + k) N) = F N N := by rw [show N + 1 - N = 0 + 1 from by omega]; simp [sm]
    show sm N (fun i => sm (i + 1) (F i)) + (sm N (F N) + F N N) = sm N (fun j => sm (N + 1 - j) (fun k => F (j + k) j)) + sm (N + 1 - N) (fun k => F (N + k) N)
    rw [e, e2, sm_add, ih]; omega
theorem sm_le {m n : Nat} {f : Nat → Int} (h : m ≤ n) (hz : ∀ i, m ≤ i → i < n → f i = 0) : sm n f = sm m f := by
  induction n with
  | zero => obtain rfl : m = 0 := by omega
            rfl
  | succ n ih =>
    by_cases e : m = n + 1
    · rw [e]
    · rw [sm, ih (by omega) (fun i h1 h2 => hz i h1 (by omega)), hz n (by omega) (by omega)]; omega
theorem sm_one {n k : Nat} {f : Nat → Int} (hk : k < n) (h : ∀ i, i < n → i ≠ k → f i = 0) : sm n f = f k := by
  induction n with
  | zero => omega
  | succ n ih =>
    rw [sm]
    by_cases e : k = n
    · rw [sm_zero (fun i hi => h i (by omega) (by omega)), e]; omega
    · rw [ih (by omega) (fun i h1 h2 => h i (by omega) h2), h n (by omega) (by omega)]; omega
theorem sm_eqm {n : Nat} {f g : Nat → Int} (h : ∀ i, i < n → Eqm (f i) (g i)) : Eqm (sm n f) (sm n g) := by
  induction n with
  | zero => exact Eqm.refl _
  | succ n ih => exact (ih (fun i hi => h i (by omega))).add (h n (by omega))

/-! series: all their coefficients -/
def cv (f g : Nat → Int) : Nat → Int := fun n => sm (n + 1) fun i => f i * g (n - i)
def ad (f g : Nat → Int) : Nat → Int := fun n => f n + g n
def sc (c : Int) (f : Nat → Int) : Nat → Int := fun n => c * f n
def one : Nat → Int := fun n => if n = 0 then 1 else 0
def vr : Nat → Int := fun n => if n = 1 then 1 else 0
theorem cv_comm (f g : Nat → Int) : cv f g = cv g f := funext fun n => by
  show sm (n + 1) (fun i => f i * g (n - i)) = sm (n + 1) (fun i => g i * f (n - i))
  rw [← sm_rev n (fun i => g i * f (n - i))]
  exact sm_congr (fun i hi => by rw [Int.mul_comm, show n - (n - i) = i from by omega])
theorem cv_assoc (f g h : Nat → Int) : cv (cv f g) h = cv f (cv g h) := funext fun n => by
  show sm (n + 1) (fun i => sm (i + 1) (fun j => f j * g (i - j)) * h (n - i)) = sm (n + 1) (fun j => f j * sm (n - j + 1) (fun k => g k * h (n - j - k)))
  have e1 : sm (n + 1) (fun i => sm (i + 1) (fun j => f j * g (i - j)) * h (n - i)) = sm (n + 1) (fun i => sm (i + 1) (fun j => f j * g (i - j) * h (n - i))) :=
    sm_congr (fun i _ => (sm_mulr _ _ _).symm)
  rw [e1, sm_tri]
  refine sm_congr (fun j hj => ?_)
  rw [← sm_mul, show n + 1 - j = n - j + 1 from by omega]
  refine sm_congr (fun k hk => ?_)
  rw [show j + k - j = k from by omega, show n - (j + k) = n - j - k from by omega, Int.mul_assoc]
theorem cv_one (f : Nat → Int) : cv f one = f := funext fun n => by
  show sm (n + 1) (fun i => f i * one (n - i)) = f n
  rw [sm_one (k := n) (by omega) (fun i hi hne => by unfold one; rw [if_neg (by omega)]; omega)]
  unfold one; rw [if_pos (by omega)]; omega
theorem one_cv (f : Nat → Int) : cv one f = f := by rw [cv_comm, cv_one]
theorem cv_ad (f g h : Nat → Int) : cv f (ad g h) = ad (cv f g) (cv f h) := funext fun n => by
  show sm (n + 1) (fun i => f i * (g (n - i) + h (n - i))) = sm (n + 1) _ + sm (n + 1) _
  rw [← sm_add]; exact sm_congr (fun i _ => Int.mul_add _ _ _)
theorem ad_cv (f g h : Nat → Int) : cv (ad f g) h = ad (cv f h) (cv g h) := by rw [cv_comm, cv_ad, cv_comm h f, cv_comm h g]
theorem cv_sc (c : Int) (f g : Nat → Int) : cv f (sc c g) = sc c (cv f g) := funext fun n => by
  show sm (n + 1) (fun i => f i * (c * g (n - i))) = c * sm (n + 1) _
  rw [← sm_mul]; exact sm_congr (fun i _ => Int.mul_left_comm _ _ _)
theorem sc_cv (c : Int) (f g : Nat → Int) : cv (sc c f) g = sc c (cv f g) := by rw [cv_comm, cv_sc, cv_comm]
theorem cv_zero_at (f g : Nat → Int) : cv f g 0 = f 0 * g 0 := by simp [cv, sm]

/-! powers -/
def pwr (f : Nat → Int) : Nat → Nat → Int
  | 0 => one
  | n+1 => cv (pwr f n) f
theorem pwr_one (f : Nat → Int) : pwr f 1 = f := one_cv f
theorem pwr_add (f : Nat → Int) (m n : Nat) : pwr f (m + n) = cv (pwr f m) (pwr f n) := by
  induction n with
  | zero => exact (cv_one _).symm
  | succ n ih => show cv (pwr f (m + n)) f = cv _ (cv (pwr f n) f); rw [ih, cv_assoc]
theorem pwr_low {f : Nat → Int} (h0 : f 0 = 0) : ∀ n k, k < n → pwr f n k = 0
  | 0, k, h => by omega
  | n+1, k, h => sm_zero (fun i hi => by
      rcases Nat.lt_or_ge i n with g | g
      · rw [pwr_low h0 n i g]; omega
      · rw [show k - i = 0 from by omega, h0]; omega)
theorem pwr_cv (f g : Nat → Int) : ∀ n, pwr (cv f g) n = cv (pwr f n) (pwr g n)
  | 0 => (cv_one _).symm
  | n+1 => by
    show cv (pwr (cv f g) n) (cv f g) = cv (cv (pwr f n) f) (cv (pwr g n) g)
    rw [pwr_cv f g n, cv_assoc, cv_assoc]
    congr 1
    rw [← cv_assoc, cv_comm (pwr g n) f, cv_assoc]
theorem pwr_one_n : ∀ n, pwr one n = one
  | 0 => rfl
  | n+1 => by show cv (pwr one n) one = one; rw [cv_one, pwr_one_n n]

/-! compositions -/
def cmp (a b : Nat → Int) : Nat → Int := fun k => sm (k + 1) fun n => a n * pwr b n k
theorem cmp_ge {b : Nat → Int} (a : Nat → Int) (h0 : b 0 = 0) {k M : Nat} (h : k < M) : sm M (fun n => a n * pwr b n k) = cmp a b k :=
  sm_le (by omega) (fun i h1 h2 => by rw [pwr_low h0 i k (by omega)]; omega)
theorem cmp_at0 (a b : Nat → Int) : cmp a b 0 = a 0 := by simp [cmp, sm, pwr, one]
theorem cmp_ad (a b c : Nat → Int) : cmp (ad a b) c = ad (cmp a c) (cmp b c) := funext fun k => by
  show sm (k + 1) (fun n => (a n + b n) * pwr c n k) = sm (k + 1) _ + sm (k + 1) _
  rw [← sm_add]; exact sm_congr (fun i _ => Int.add_mul _ _ _)
theorem cmp_sc (s : Int) (a c : Nat → Int) : cmp (sc s a) c = sc s (cmp a c) := funext fun k => by
  show sm (k + 1) (fun n => (s * a n) * pwr c n k) = s * sm (k + 1) _
  rw [← sm_mul]; exact sm_congr (fun i _ => Int.mul_assoc _ _ _)
theorem cmp_one (c : Nat → Int) : cmp one c = one := funext fun k => by
  show sm (k + 1) (fun n => one n * pwr c n k) = one k
  rw [sm_one (k := 0) (by omega) (fun i hi hne => by unfold one; rw [if_neg (by omega)]; omega)]
  unfold one; rw [if_pos rfl, Int.one_mul]; rfl
theorem cmp_vr {c : Nat → Int} (h0 : c 0 = 0) : cmp vr c = c := funext fun k => by
  rw [← cmp_ge vr h0 (show k < k + 2 by omega), sm_one (k := 1) (by omega) (fun i hi hne => by unfold vr; rw [if_neg hne]; omega)]
  unfold vr; rw [if_pos rfl, Int.one_mul, pwr_one]
theorem cmp_cv (f g : Nat → Int) {c : Nat → Int} (h0 : c 0 = 0) : cmp (cv f g) c = cv (cmp f c) (cmp g c) := funext fun k => by
  have e1 : cmp (cv f g) c k = sm (k + 1) (fun i => sm (k + 1 - i) (fun j => f i * g j * pwr c (i + j) k)) := by
    show sm (k + 1) (fun n => sm (n + 1) (fun i => f i * g (n - i)) * pwr c n k) = _
    have : sm (k + 1) (fun n => sm (n + 1) (fun i => f i * g (n - i)) * pwr c n k) = sm (k + 1) (fun n => sm (n + 1) (fun i => f i * g (n - i) * pwr c n k)) := sm_congr (fun i _ => (sm_mulr _ _ _).symm)
    rw [this, sm_tri]
    refine sm_congr (fun i hi => sm_congr (fun j hj => ?_))
    rw [show i + j - i = j from by omega]
  have e2 : sm (k + 1) (fun i => sm (k + 1 - i) (fun j => f i * g j * pwr c (i + j) k)) = sm (k + 1) (fun i => sm (k + 1) (fun j => f i * g j * pwr c (i + j) k)) :=
    sm_congr (fun i hi => (sm_le (by omega) (fun j h1 h2 => by rw [pwr_low h0 (i + j) k (by omega)]; omega)).symm)
  have e3 : cv (cmp f c) (cmp g c) k = sm (k + 1) (fun l => sm (k + 1) (fun i => sm (k + 1) (fun j => f i * g j * (pwr c i l * pwr c j (k - l))))) := by
    show sm (k + 1) (fun l => cmp f c l * cmp g c (k - l)) = _
    refine sm_congr (fun l hl => ?_)
    rw [← cmp_ge f h0 (show l < k + 1 by omega), ← cmp_ge g h0 (show k - l < k + 1 by omega), ← sm_mulr]
    refine sm_congr (fun i hi => ?_)
    rw [← sm_mul]
    exact sm_congr (fun j hj => by grind)
  rw [e1, e2, e3]
  refine Eq.trans ?_ (sm_swap _ _ _).symm
  refine sm_congr (fun i hi => ?_)
  refine Eq.trans ?_ (sm_swap _ _ _).symm
  refine sm_congr (fun j hj => ?_)
  rw [sm_mul, pwr_add]; rfl
theorem cmp_pwr (b : Nat → Int) {c : Nat → Int} (h0 : c 0 = 0) : ∀ n, cmp (pwr b n) c = pwr (cmp b c) n
  | 0 => cmp_one c
  | n+1 => by show cmp (cv (pwr b n) b) c = cv _ _; rw [cmp_cv _ _ h0, cmp_pwr b h0 n]
theorem cmp_assoc (a : Nat → Int) {b c : Nat → Int} (hb : b 0 = 0) (hc : c 0 = 0) : cmp (cmp a b) c = cmp a (cmp b c) := funext fun k => by
  show sm (k + 1) (fun n => cmp a b n * pwr c n k) = sm (k + 1) (fun m => a m * pwr (cmp b c) m k)
  have e : sm (k + 1) (fun n => cmp a b n * pwr c n k) = sm (k + 1) (fun n => sm (k + 1) (fun m => a m * (pwr b m n * pwr c n k))) :=
    sm_congr (fun n hn => by
      rw [← cmp_ge a hb (show n < k + 1 by omega), ← sm_mulr]
      exact sm_congr (fun m _ => Int.mul_assoc _ _ _))
  rw [e, sm_swap]
  refine sm_congr (fun m hm => ?_)
  rw [sm_mul, ← cmp_pwr b hc m]; rfl

/-! derivatives -/
def dv (f : Nat → Int) : Nat → Int := fun k => ((k : Int) + 1) * f (k + 1)
theorem dv_ad (f g : Nat → Int) : dv (ad f g) = ad (dv f) (dv g) := funext fun k => Int.mul_add _ _ _
theorem dv_sc (c : Int) (f : Nat → Int) : dv (sc c f) = sc c (dv f) := funext fun k => Int.mul_left_comm _ _ _
theorem dv_one : dv one = fun _ => 0 := funext fun k => by show ((k : Int) + 1) * one (k + 1) = 0; unfold one; rw [if_neg (by omega)]; omega
theorem dv_cv (f g : Nat → Int) : dv (cv f g) = ad (cv (dv f) g) (cv f (dv g)) := funext fun n => by
  have e0 : ((n : Int) + 1) * sm (n + 1 + 1) (fun i => f i * g (n + 1 - i)) = sm (n + 1 + 1) (fun i => (i : Int) * f i * g (n + 1 - i)) + sm (n + 1 + 1) (fun i => f i * (((n + 1 - i : Nat) : Int) * g (n + 1 - i))) := by
    rw [← sm_mul, ← sm_add]
    refine sm_congr (fun i hi => ?_)
    have : ((n + 1 - i : Nat) : Int) = (n : Int) + 1 - i := by omega
    rw [this]; grind
  have e1 : sm (n + 1 + 1) (fun i => (i : Int) * f i * g (n + 1 - i)) = cv (dv f) g n := by
    rw [sm_first]
    have : ((0 : Nat) : Int) * f 0 * g (n + 1 - 0) = 0 := by simp
    rw [this, Int.zero_add]
    refine sm_congr (fun i hi => ?_)
    show ((i + 1 : Nat) : Int) * f (i + 1) * g (n + 1 - (i + 1)) = ((i : Int) + 1) * f (i + 1) * g (n - i)
    rw [Nat.add_sub_add_right]; rfl
  have e2 : sm (n + 1 + 1) (fun i => f i * (((n + 1 - i : Nat) : Int) * g (n + 1 - i))) = cv f (dv g) n := by
    rw [sm, Nat.sub_self]
    have : f (n + 1) * (((0 : Nat) : Int) * g 0) = 0 := by simp
    rw [this, Int.add_zero]
    refine sm_congr (fun i hi => ?_)
    show f i * (((n + 1 - i : Nat) : Int) * g (n + 1 - i)) = f i * ((((n - i : Nat) : Int) + 1) * g (n - i + 1))
    rw [show n + 1 - i = n - i + 1 from by omega]; rfl
  show ((n : Int) + 1) * sm (n + 1 + 1) (fun i => f i * g (n + 1 - i)) = cv (dv f) g n + cv f (dv g) n
  rw [e0, e1, e2]
theorem dv_pwr (f : Nat → Int) : ∀ n, dv (pwr f (n + 1)) = sc ((n : Int) + 1) (cv (pwr f n) (dv f))
  | 0 => by rw [pwr_one]; show dv f = sc (0 + 1) (cv one (dv f)); rw [one_cv]; funext k; unfold sc; omega
  | n+1 => by
    show dv (cv (pwr f (n + 1)) f) = _
    rw [dv_cv, dv_pwr f n, sc_cv, cv_assoc, cv_comm (dv f) f, ← cv_assoc]
    funext k
    show ((n : Int) + 1) * cv (pwr f (n + 1)) (dv f) k + cv (pwr f (n + 1)) (dv f) k = (((n + 1 : Nat) : Int) + 1) * cv (pwr f (n + 1)) (dv f) k
    grind
theorem dv_cmp (a : Nat → Int) {b : Nat → Int} (hb : b 0 = 0) : dv (cmp a b) = cv (cmp (dv a) b) (dv b) := funext fun k => by
  have e1 : dv (cmp a b) k = sm (k + 1) (fun n => ((n : Int) + 1) * a (n + 1) * cv (pwr b n) (dv b) k) := by
    show ((k : Int) + 1) * sm (k + 1 + 1) (fun n => a n * pwr b n (k + 1)) = _
    rw [sm_first, Int.mul_add, ← sm_mul]
    have : pwr b 0 (k + 1) = 0 := by show one (k + 1) = 0; unfold one; rw [if_neg (by omega)]
    rw [this, Int.mul_zero, Int.mul_zero, Int.zero_add]
    refine sm_congr (fun n hn => ?_)
    have h : dv (pwr b (n + 1)) k = sc ((n : Int) + 1) (cv (pwr b n) (dv b)) k := by rw [dv_pwr]
    have h2 : ((k : Int) + 1) * pwr b (n + 1) (k + 1) = ((n : Int) + 1) * cv (pwr b n) (dv b) k := h
    rw [Int.mul_left_comm, h2]; grind
  have e2 : cv (cmp (dv a) b) (dv b) k = sm (k + 1) (fun i => sm (k + 1) (fun n => dv a n * (pwr b n i * dv b (k - i)))) := by
    show sm (k + 1) (fun i => cmp (dv a) b i * dv b (k - i)) = _
    refine sm_congr (fun i hi => ?_)
    rw [← cmp_ge (dv a) hb (show i < k + 1 by omega), ← sm_mulr]
    exact sm_congr (fun n _ => Int.mul_assoc _ _ _)
  rw [e1, e2]
  refine Eq.trans ?_ (sm_swap _ _ _).symm
  refine sm_congr (fun n hn => ?_)
  rw [sm_mul]; rfl

/-! congruence: the first N coefficients, modulo the prime -/
def Cg (N : Nat) (f g : Nat → Int) : Prop := ∀ k, k < N → Eqm (f k) (g k)
theorem Cg.refl (N : Nat) (f : Nat → Int) : Cg N f f := fun _ _ => Eqm.refl _
theorem Cg.symm {N : Nat} {f g : Nat → Int} (h : Cg N f g) : Cg N g f := fun k hk => (h k hk).symm
theorem Cg.trans {N : Nat} {f g h : Nat → Int} (a : Cg N f g) (b : Cg N g h) : Cg N f h := fun k hk => (a k hk).trans (b k hk)
theorem Cg.of_eq {N : Nat} {f g : Nat → Int} (h : f = g) : Cg N f g := h ▸ Cg.refl _ _
theorem Cg.less {M N : Nat} {f g : Nat → Int} (h : Cg N f g) (hm : M ≤ N) : Cg M f g := fun k hk => h k (by omega)
theorem Cg.cv {N : Nat} {f f' g g' : Nat → Int} (h : Cg N f f') (h' : Cg N g g') : Cg N (cv f g) (cv f' g') := fun k hk =>
  sm_eqm (fun i hi => (h i (by omega)).mul (h' (k - i) (by omega)))
theorem Cg.ad {N : Nat} {f f' g g' : Nat → Int} (h : Cg N f f') (h' : Cg N g g') : Cg N (ad f g) (ad f' g') := fun k hk => (h k hk).add (h' k hk)
theorem Cg.sc {N : Nat} {c d : Int} {f g : Nat → Int} (hc : Eqm c d) (h : Cg N f g) : Cg N (sc c f) (sc d g) := fun k hk => hc.mul (h k hk)
theorem Cg.pwr {N : Nat} {f g : Nat → Int} (h : Cg N f g) : ∀ n, Cg N (pwr f n) (pwr g n)
  | 0 => Cg.refl _ _
  | n+1 => (Cg.pwr h n).cv h
theorem Cg.cmp {N : Nat} {a a' b b' : Nat → Int} (h : Cg N a a') (h' : Cg N b b') : Cg N (cmp a b) (cmp a' b') := fun k hk =>
  sm_eqm (fun i hi => (h i (by omega)).mul (h'.pwr i k hk))
theorem Cg.dv {N : Nat} {f g : Nat → Int} (h : Cg (N + 1) f g) : Cg N (dv f) (dv g) := fun k hk => (Eqm.refl _).mul (h (k + 1) (by omega))
theorem unit_cancel {u c a b : Int} (hu : Eqm (u * c) 1) (h : Eqm (c * a) (c * b)) : Eqm a b := by
  have e : ∀ x : Int, Eqm (u * (c * x)) x := fun x => by
    rw [← Int.mul_assoc]; exact (hu.mul (Eqm.refl x)).trans (Eqm.of_eq (Int.one_mul _))
  exact ((e a).symm.trans ((Eqm.refl u).mul h)).trans (e b)
theorem cancel {c a b : Int} (h0 : 0 < c) (h1 : c < 10007) (h : Eqm (c * a) (c * b)) : Eqm a b := unit_cancel (inv_mul c h0 h1) h
theorem Cg.of_dv {N : Nat} {f g : Nat → Int} (hN : N ≤ 64) (h0 : Eqm (f 0) (g 0)) (h : Cg N (Ser.dv f) (Ser.dv g)) : Cg (N + 1) f g := fun k hk => by
  cases k with
  | zero => exact h0
  | succ k => exact cancel (c := (k : Int) + 1) (by omega) (by omega) (h k (by omega))
theorem low_cv {k : Nat} {f g f' g' : Nat → Int} (hf : ∀ i, i < k → Eqm (f i) (f' i)) (hg : Cg (k + 1) g g') (h : Eqm (cv f g k) (cv f' g' k)) : Eqm (f k * g 0) (f' k * g' 0) := by
  have e : ∀ x y : Nat → Int, Ser.cv x y k = sm k (fun i => x i * y (k - i)) + x k * y 0 := fun x y => by
    show sm k (fun i => x i * y (k - i)) + x k * y (k - k) = _
    rw [Nat.sub_self]
  rw [e, e] at h
  have h2 : Eqm (sm k (fun i => f i * g (k - i))) (sm k (fun i => f' i * g' (k - i))) := sm_eqm (fun i hi => (hf i hi).mul (hg (k - i) (by omega)))
  unfold Eqm at *; omega
theorem below_ind {N : Nat} {f g : Nat → Int} (h : ∀ k, k < N → (∀ i, i < k → Eqm (f i) (g i)) → Eqm (f k) (g k)) : Cg N f g := fun k => by
  induction k using Nat.strongRecOn with
  | ind k ih => exact fun hk => h k hk (fun i hi => ih i hi (by omega))
/-- a quotient is one only -/
theorem quot_one {N : Nat} {q q' b : Nat → Int} {u : Int} (hu : Eqm (u * b 0) 1) (h : Cg N (cv q b) (cv q' b)) : Cg N q q' :=
  below_ind (fun k hk ih => by
    have := low_cv ih (Cg.refl (k + 1) b) (h k hk)
    rw [Int.mul_comm, Int.mul_comm (q' k)] at this
    exact unit_cancel hu this)
/-- what grows alike is alike -/
theorem ode_one {N : Nat} {f f' g : Nat → Int} (hN : N ≤ 64) (h0 : Eqm (f 0) (f' 0)) (h : Cg N (dv f) (cv f g)) (h' : Cg N (dv f') (cv f' g)) : Cg (N + 1) f f' :=
  below_ind (fun k hk ih => by
    cases k with
    | zero => exact h0
    | succ k =>
      refine cancel (c := (k : Int) + 1) (by omega) (by omega) ?_
      refine (h k (by omega)).trans (Eqm.trans ?_ (h' k (by omega)).symm)
      exact sm_eqm (fun i hi => (ih i (by omega)).mul (Eqm.refl _)))

/-! the exponential -/
def ex : Nat → Int
  | 0 => 1
  | n+1 => ex n * inv ((n : Int) + 1) % 10007
theorem dv_ex {N : Nat} (hN : N ≤ 64) : Cg N (dv ex) ex := fun k hk => by
  show Eqm (((k : Int) + 1) * (ex k * inv ((k : Int) + 1) % 10007)) (ex k)
  have h1 := inv_mul ((k : Int) + 1) (by omega) (by omega)
  refine ((Eqm.refl _).mul (Eqm.mod _)).trans ?_
  have e : ((k : Int) + 1) * (ex k * inv ((k : Int) + 1)) = ex k * (inv ((k : Int) + 1) * ((k : Int) + 1)) := by grind
  rw [e]
  exact ((Eqm.refl _).mul h1).trans (Eqm.of_eq (Int.mul_one _))
def xp (b : Nat → Int) : Nat → Int := cmp ex b
theorem xp_at0 (b : Nat → Int) : xp b 0 = 1 := cmp_at0 _ _
theorem dv_xp {N : Nat} (hN : N ≤ 64) {b : Nat → Int} (h0 : b 0 = 0) : Cg N (dv (xp b)) (cv (xp b) (dv b)) := by
  unfold xp; rw [dv_cmp _ h0]
  exact ((dv_ex hN).cmp (Cg.refl _ _)).cv (Cg.refl _ _)
theorem xp_ad {N : Nat} (hN : N ≤ 64) {a b : Nat → Int} (ha : a 0 = 0) (hb : b 0 = 0) : Cg (N + 1) (xp (ad a b)) (cv (xp a) (xp b)) := by
  refine ode_one (g := dv (ad a b)) hN ?_ (dv_xp hN (by unfold ad; omega)) ?_
  · rw [xp_at0, cv_zero_at, xp_at0, xp_at0]; exact Eqm.refl _
  · rw [dv_cv, dv_ad, cv_ad]
    refine Cg.ad (((dv_xp hN ha).cv (Cg.refl _ _)).trans (Cg.of_eq ?_)) (((Cg.refl _ _).cv (dv_xp hN hb)).trans (Cg.of_eq ?_))
    · rw [cv_assoc, cv_comm (dv a), ← cv_assoc]
    · rw [← cv_assoc]

/-! logarithms: L is one of f as far as N + 1 coefficients -/
def IsLog (N : Nat) (L f : Nat → Int) : Prop := Eqm (L 0) 0 ∧ Cg N (cv (dv L) f) (dv f)
theorem IsLog.one {N : Nat} (hN : N ≤ 64) {L L' f : Nat → Int} (hf : Eqm (f 0) 1) (h : IsLog N L f) (h' : IsLog N L' f) : Cg (N + 1) L L' :=
  Cg.of_dv hN (h.1.trans h'.1.symm) (quot_one (u := 1) (by rw [Int.one_mul]; exact hf) (h.2.trans h'.2.symm))
theorem isLog_xp {N : Nat} (hN : N ≤ 64) {b : Nat → Int} (h0 : b 0 = 0) : IsLog N b (xp b) := ⟨h0 ▸ Eqm.refl _, by
  rw [cv_comm]; exact (dv_xp hN h0).symm⟩
theorem xp_log {N : Nat} (hN : N ≤ 64) {L f : Nat → Int} (h0 : L 0 = 0) (hf : Eqm (f 0) 1) (h : IsLog N L f) : Cg (N + 1) (xp L) f :=
  ode_one hN ((Eqm.of_eq (xp_at0 L)).trans hf.symm) (dv_xp hN h0) (by rw [cv_comm]; exact h.2.symm)
theorem IsLog.cg {N : Nat} {L L' f f' : Nat → Int} (h : IsLog N L f) (hL : Cg (N + 1) L L') (hf : Cg (N + 1) f f') : IsLog N L' f' :=
  ⟨(hL 0 (by omega)).symm.trans h.1, ((hL.dv.cv (hf.less (by omega))).symm.trans h.2).trans hf.dv⟩
/-- the logarithm as a sum of powers of r = 1 - f -/
def lg (r : Nat → Int) : Nat → (Nat → Int)
  | 0 => fun _ => 0
  | n+1 => ad (lg r n) (sc (-(inv ((n : Int) + 1))) (pwr r (n + 1)))
theorem dv_lg {N : Nat} (r : Nat → Int) : ∀ n, n ≤ 64 → Cg N (cv (dv (lg r n)) (ad one (sc (-1) r))) (sc (-1) (cv (dv r) (ad one (sc (-1) (pwr r n)))))
  | 0, _ => fun k hk => by
    refine Eqm.of_eq ?_
    have e1 : dv (lg r 0) = fun _ => 0 := funext fun k => by show ((k : Int) + 1) * 0 = 0; omega
    have e2 : ad one (sc (-1) (pwr r 0)) = fun _ => 0 := funext fun k => by show one k + (-1) * one k = 0; omega
    have z : ∀ f : Nat → Int, cv f (fun _ => 0) = fun _ => 0 := fun f => funext fun k => sm_zero (fun i _ => Int.mul_zero _)
    rw [e1, e2, cv_comm, z, z]; rfl
  | n+1, hn => by
    have ih := dv_lg (N := N) r n (by omega)
    have e0 : ∀ c : Int, dv (ad (lg r n) (sc c (pwr r (n + 1)))) = ad (dv (lg r n)) (sc (c * ((n : Int) + 1)) (cv (pwr r n) (dv r))) := fun c => by
      rw [dv_ad, dv_sc, dv_pwr]
      funext k
      show dv (lg r n) k + c * (((n : Int) + 1) * cv (pwr r n) (dv r) k) = dv (lg r n) k + c * ((n : Int) + 1) * cv (pwr r n) (dv r) k
      rw [Int.mul_assoc]
    have e1 : dv (lg r (n + 1)) = ad (dv (lg r n)) (sc (-(inv ((n : Int) + 1)) * ((n : Int) + 1)) (cv (pwr r n) (dv r))) := e0 _
    rw [e1, ad_cv]
    have h1 := inv_mul ((n : Int) + 1) (by omega) (by omega)
    have h2 : Eqm (-(inv ((n : Int) + 1)) * ((n : Int) + 1)) (-1) := by
      rw [Int.neg_mul]; exact h1.neg
    refine (ih.ad (Cg.cv (Cg.sc h2 (Cg.refl _ _)) (Cg.refl _ _))).trans (Cg.of_eq ?_)
    have e3 : pwr r (n + 1) = cv (pwr r n) r := rfl
    rw [e3, sc_cv, cv_ad, cv_one, cv_sc, cv_ad, cv_one, cv_sc, cv_ad, cv_one, cv_sc, cv_comm (pwr r n) (dv r), cv_assoc]
    funext k
    show -1 * (dv r k + -1 * cv (dv r) (pwr r n) k) + -1 * (cv (dv r) (pwr r n) k + -1 * cv (dv r) (cv (pwr r n) r) k) = -1 * (dv r k + -1 * cv (dv r) (cv (pwr r n) r) k)
    omega
theorem isLog_lg {N : Nat} (hN : N ≤ 64) {f r : Nat → Int} (h0 : r 0 = 0) (hr : r = ad one (sc (-1) f)) : IsLog N (lg r N) f := by
  constructor
  · have : ∀ n, lg r n 0 = 0 := fun n => by
      induction n with
      | zero => rfl
      | succ n ih =>
        show lg r n 0 + -(inv ((n : Int) + 1)) * pwr r (n + 1) 0 = 0
        rw [ih, pwr_low h0 (n + 1) 0 (by omega)]; omega
    rw [this]; exact Eqm.refl _
  · have e : f = ad one (sc (-1) r) := by rw [hr]; funext k; show f k = one k + -1 * (one k + -1 * f k); omega
    have e2 : dv f = sc (-1) (dv r) := by rw [hr, dv_ad, dv_sc, dv_one]; funext k; show dv f k = -1 * (0 + -1 * dv f k); omega
    rw [e2]
    conv => lhs; rw [e]
    refine (dv_lg r N hN).trans (Cg.sc (Eqm.refl _) ?_)
    have : Cg N (ad one (sc (-1) (pwr r N))) one := fun k hk => by
      show Eqm (one k + -1 * pwr r N k) (one k)
      rw [pwr_low h0 N k hk]; exact Eqm.of_eq (by omega)
    exact ((Cg.refl _ _).cv this).trans (Cg.of_eq (cv_one _))

/-! reverses -/
theorem low_pwr {k : Nat} {b b' : Nat → Int} (h0 : b 0 = 0) (h0' : b' 0 = 0) (h : ∀ i, i < k → Eqm (b i) (b' i)) (n : Nat) : Eqm (pwr b (n + 2) k) (pwr b' (n + 2) k) := by
  show Eqm (sm (k + 1) _) (sm (k + 1) _)
  have hk : Cg k b b' := fun i hi => h i hi
  refine sm_eqm (fun i hi => ?_)
  by_cases e0 : i = 0
  · rw [e0, pwr_low h0 (n + 1) 0 (by omega), pwr_low h0' (n + 1) 0 (by omega), Int.zero_mul, Int.zero_mul]; exact Eqm.refl _
  · by_cases e1 : i = k
    · rw [e1, Nat.sub_self, h0, h0', Int.mul_zero, Int.mul_zero]; exact Eqm.refl _
    · exact (hk.pwr (n + 1) i (by omega)).mul (h (k - i) (by omega))
theorem cmp_two (a b : Nat → Int) (k : Nat) (hk : 0 < k) : cmp a b k = a 1 * b k + sm (k - 1) (fun n => a (n + 2) * pwr b (n + 2) k) := by
  obtain ⟨m, rfl⟩ : ∃ m, k = m + 1 := ⟨k - 1, by omega⟩
  show sm (m + 1 + 1) _ = _
  rw [sm_first, sm_first, pwr_one]
  have : pwr b 0 (m + 1) = 0 := by show one (m + 1) = 0; unfold one; rw [if_neg (by omega)]
  rw [this, Int.mul_zero, Int.zero_add]; rfl
theorem low_cmp {a b b' : Nat → Int} {k : Nat} (hk : 0 < k) (h0 : b 0 = 0) (h0' : b' 0 = 0) (h : ∀ i, i < k → Eqm (b i) (b' i)) : Eqm (cmp a b k - a 1 * b k) (cmp a b' k - a 1 * b' k) := by
  rw [cmp_two a b k hk, cmp_two a b' k hk]
  have e : Eqm (sm (k - 1) (fun n => a (n + 2) * pwr b (n + 2) k)) (sm (k - 1) (fun n => a (n + 2) * pwr b' (n + 2) k)) := sm_eqm (fun n _ => (Eqm.refl _).mul (low_pwr h0 h0' h n))
  have e1 : ∀ x y : Int, x + y - x = y := fun x y => by omega
  rw [e1, e1]; exact e
/-- what is composed to one series is one -/
theorem rev_one {N : Nat} {a b b' : Nat → Int} {u : Int} (hu : Eqm (u * a 1) 1) (h0 : b 0 = 0) (h0' : b' 0 = 0) (h : Cg N (cmp a b) (cmp a b')) : Cg N b b' :=
  below_ind (fun k hk ih => by
    by_cases e : k = 0
    · rw [e, h0, h0']; exact Eqm.refl _
    · have h1 := low_cmp (a := a) (show 0 < k by omega) h0 h0' ih
      have h2 := h k hk
      have h3 : Eqm (a 1 * b k) (a 1 * b' k) := by
        generalize a 1 * b k = x at *
        generalize a 1 * b' k = y at *
        unfold Eqm at *; omega
      exact unit_cancel hu h3)
theorem rev_left {N : Nat} {a b : Nat → Int} {u : Int} (hu : Eqm (u * a 1) 1) (ha : a 0 = 0) (hb : b 0 = 0) (h : Cg N (cmp a b) vr) : Cg N (cmp b a) vr := by
  refine rev_one (a := a) hu ((cmp_at0 b a).trans hb) (by rfl) ?_
  rw [← cmp_assoc a hb ha]
  refine (Cg.cmp h (Cg.refl _ _)).trans (Cg.of_eq ?_)
  rw [cmp_vr ha]
  funext k
  refine Eq.symm ?_
  show sm (k + 1) (fun n => a n * pwr vr n k) = a k
  have hp : ∀ n k, pwr vr n k = if n = k then 1 else 0 := fun n => by
    induction n with
    | zero => intro k; show one k = _; unfold one; by_cases e : k = 0 <;> simp [e] <;> omega
    | succ n ih =>
      intro k
      show sm (k + 1) (fun i => pwr vr n i * vr (k - i)) = _
      by_cases e : n + 1 = k
      · rw [if_pos e, sm_one (k := n) (by omega) (fun i hi hne => by rw [ih, if_neg (by omega)]; omega), ih, if_pos rfl]
        show 1 * vr (k - n) = 1
        unfold vr; rw [if_pos (by omega)]; rfl
      · rw [if_neg e]
        refine sm_zero (fun i hi => ?_)
        rw [ih]
        by_cases e2 : n = i
        · unfold vr; rw [if_neg (show ¬ (k - i = 1) by omega)]; omega
        · rw [if_neg e2]; omega
  rw [sm_one (k := k) (by omega) (fun i hi hne => by rw [hp, if_neg hne]; omega), hp, if_pos rfl]; omega
theorem rev_unit {N : Nat} {a b : Nat → Int} (hN : 1 < N) (h : Cg N (cmp a b) vr) : Eqm (a 1 * b 1) 1 := by
  have := h 1 hN
  rw [cmp_two a b 1 (by omega)] at this
  refine Eqm.trans (Eqm.of_eq ?_) (this.trans (Eqm.of_eq rfl))
  simp [sm]

/-! the formula of Lagrange -/
def sh (m : Nat) (f : Nat → Int) : Nat → Int := fun k => if k < m then 0 else f (k - m)
theorem sh_cv (m : Nat) (f g : Nat → Int) : cv (sh m f) g = sh m (cv f g) := funext fun k => by
  by_cases h : k < m
  · show sm (k + 1) (fun i => sh m f i * g (k - i)) = if k < m then 0 else _
    rw [if_pos h]
    exact sm_zero (fun i hi => by unfold sh; rw [if_pos (by omega)]; omega)
  · show sm (k + 1) (fun i => sh m f i * g (k - i)) = if k < m then 0 else sm (k - m + 1) (fun i => f i * g (k - m - i))
    rw [if_neg h]
    have e : ∀ n, sm (m + n) (fun i => sh m f i * g (k - i)) = sm n (fun i => f i * g (k - m - i)) := fun n => by
      induction n with
      | zero => exact sm_zero (fun i hi => by unfold sh; rw [if_pos (by omega)]; omega)
      | succ n ih =>
        show sm (m + n) _ + sh m f (m + n) * g (k - (m + n)) = sm n _ + _
        rw [ih]; unfold sh; rw [if_neg (by omega), show m + n - m = n from by omega, show k - (m + n) = k - m - n from by omega]
    rw [← e, show m + (k - m + 1) = k + 1 from by omega]
theorem sh_sh (m n : Nat) (f : Nat → Int) : sh m (sh n f) = sh (m + n) f := funext fun k => by
  unfold sh
  by_cases h : k < m
  · rw [if_pos h, if_pos (by omega)]
  · by_cases h2 : k - m < n
    · rw [if_neg h, if_pos h2, if_pos (by omega)]
    · rw [if_neg h, if_neg h2, if_neg (by omega), show k - m - n = k - (m + n) from by omega]
theorem pwr_sh (h : Nat → Int) : ∀ m, pwr (sh 1 h) m = sh m (pwr h m)
  | 0 => by funext k; show one k = sh 0 one k; unfold sh; rw [if_neg (by omega), Nat.sub_zero]
  | m+1 => by
    show cv (pwr (sh 1 h) m) (sh 1 h) = sh (m + 1) (cv (pwr h m) h)
    rw [pwr_sh h m, sh_cv, cv_comm, sh_cv, sh_sh, cv_comm]
def zd (f : Nat → Int) : Nat → Int := fun k => (k : Int) * f k
theorem zd_cv (f g : Nat → Int) : zd (cv f g) = ad (cv (zd f) g) (cv f (zd g)) := funext fun n => by
  show (n : Int) * sm (n + 1) (fun i => f i * g (n - i)) = sm (n + 1) (fun i => (i : Int) * f i * g (n - i)) + sm (n + 1) (fun i => f i * (((n - i : Nat) : Int) * g (n - i)))
  rw [← sm_mul, ← sm_add]
  refine sm_congr (fun i hi => ?_)
  have : ((n - i : Nat) : Int) = (n : Int) - i := by omega
  rw [this]; grind
theorem zd_pwr (f : Nat → Int) : ∀ n, zd (pwr f (n + 1)) = sc ((n : Int) + 1) (cv (pwr f n) (zd f))
  | 0 => by rw [pwr_one]; show zd f = sc (0 + 1) (cv Ser.one (zd f)); rw [one_cv]; funext k; unfold sc; omega
  | n+1 => by
    show zd (cv (pwr f (n + 1)) f) = _
    rw [zd_cv, zd_pwr f n, sc_cv, cv_assoc, cv_comm (zd f) f, ← cv_assoc]
    funext k
    show ((n : Int) + 1) * cv (pwr f (n + 1)) (zd f) k + cv (pwr f (n + 1)) (zd f) k = (((n + 1 : Nat) : Int) + 1) * cv (pwr f (n + 1)) (zd f) k
    grind
theorem Cg.zd {N : Nat} {f g : Nat → Int} (h : Cg N f g) : Cg N (zd f) (zd g) := fun k hk => (Eqm.refl _).mul (h k hk)
theorem zd_one : zd one = fun _ => 0 := funext fun k => by
  show (k : Int) * one k = 0
  unfold one; by_cases e : k = 0
  · rw [e]; rfl
  · rw [if_neg e]; omega
theorem res_zero {N : Nat} (hN : N ≤ 64) {q h : Nat → Int} (hq : Cg N (cv q h) one) (j : Nat) (hj : j < N) : Eqm (cv (pwr q (j + 1)) (ad h (zd h)) j) (if j = 0 then 1 else 0) := by
  rw [cv_ad]
  have e1 : Cg N (cv (pwr q (j + 1)) h) (pwr q j) := by
    show Cg N (cv (cv (pwr q j) q) h) _
    rw [cv_assoc]
    exact ((Cg.refl _ _).cv hq).trans (Cg.of_eq (cv_one _))
  by_cases e : j = 0
  · subst e
    rw [if_pos rfl]
    show Eqm (cv (pwr q 1) h 0 + cv (pwr q 1) (zd h) 0) 1
    have a1 := e1 0 hj
    have a2 : cv (pwr q 1) (Ser.zd h) 0 = 0 := by rw [cv_zero_at]; show _ * ((0 : Int) * h 0) = 0; simp
    rw [a2, Int.add_zero]
    exact a1
  · rw [if_neg e]
    obtain ⟨i, rfl⟩ : ∃ i, j = i + 1 := ⟨j - 1, by omega⟩
    have a1 := e1 (i + 1) hj
    -- the derivative of q h
    have b1 : Cg N (ad (cv (Ser.zd q) h) (cv q (Ser.zd h))) (fun _ => 0) := by
      rw [← zd_cv, ← zd_one]; exact hq.zd
    have b2 : Cg N (ad (Ser.zd q) (cv (cv q q) (Ser.zd h))) (fun _ => 0) := by
      have b3 : Cg N (cv q (ad (cv (Ser.zd q) h) (cv q (Ser.zd h)))) (fun _ => 0) := ((Cg.refl N q).cv b1).trans (Cg.of_eq (funext fun k => sm_zero (fun i _ => Int.mul_zero _)))
      rw [cv_ad, ← cv_assoc, ← cv_assoc, cv_comm q (Ser.zd q), cv_assoc] at b3
      exact (Cg.ad ((((Cg.refl _ _).cv hq).trans (Cg.of_eq (cv_one _))).symm) (Cg.refl _ _)).trans b3
    have b4 : Cg N (ad (Ser.zd (pwr q (i + 1))) (sc ((i : Int) + 1) (cv (pwr q (i + 2)) (Ser.zd h)))) (fun _ => 0) := by
      have b5 := Cg.sc (Eqm.refl ((i : Int) + 1)) ((Cg.refl N (pwr q i)).cv b2)
      have b6 : sc ((i : Int) + 1) (cv (pwr q i) (fun _ => 0)) = fun _ => 0 := funext fun k => by
        show ((i : Int) + 1) * sm (k + 1) (fun _ => _ * 0) = 0
        rw [sm_zero (fun _ _ => Int.mul_zero _)]; omega
      rw [b6] at b5
      refine Cg.trans (Cg.of_eq ?_) b5
      rw [zd_pwr, cv_ad]
      have : pwr q (i + 2) = cv (pwr q i) (cv q q) := by show cv (cv (pwr q i) q) q = _; rw [cv_assoc]
      rw [this, cv_assoc]
      funext k
      exact (Int.mul_add _ _ _).symm
    have c1 : Eqm (((i : Int) + 1) * pwr q (i + 1) (i + 1) + ((i : Int) + 1) * cv (pwr q (i + 2)) (Ser.zd h) (i + 1)) 0 := by
      have := b4 (i + 1) hj
      exact this
    rw [← Int.mul_add] at c1
    have c2 := no_zero ((i : Int) + 1) _ (by omega) (by omega) c1
    exact (Eqm.add a1 (Eqm.refl _)).trans c2
theorem lagrange {N : Nat} (hN : N ≤ 64) {h q b : Nat → Int} (hq : Cg N (cv q h) one) (hb : Cg (N + 1) (cmp b (sh 1 h)) vr) (n : Nat) (hn : n < N) :
    Eqm (((n : Int) + 1) * b (n + 1)) (pwr q (n + 1) n) := by
  have a0 : sh 1 h 0 = 0 := rfl
  have da : dv (sh 1 h) = ad h (zd h) := funext fun k => by
    show ((k : Int) + 1) * (if k + 1 < 1 then 0 else h (k + 1 - 1)) = h k + (k : Int) * h k
    rw [if_neg (by omega), Nat.add_sub_cancel]; grind
  have h1 : Cg N (cv (cmp (dv b) (sh 1 h)) (ad h (zd h))) one := by
    have := hb.dv
    rw [dv_cmp b a0, da] at this
    refine this.trans (Cg.of_eq (funext fun k => ?_))
    show ((k : Int) + 1) * vr (k + 1) = one k
    unfold vr one
    by_cases e : k = 0
    · rw [if_pos (by omega), if_pos e, e]; rfl
    · rw [if_neg (by omega), if_neg e]; omega
  have h2 : Cg N (cv (cv (cmp (dv b) (sh 1 h)) (ad h (zd h))) (pwr q (n + 1))) (pwr q (n + 1)) := (h1.cv (Cg.refl _ _)).trans (Cg.of_eq (one_cv _))
  have h3 : cv (cv (cmp (dv b) (sh 1 h)) (ad h (zd h))) (pwr q (n + 1)) n = sm (n + 1) (fun m => dv b m * cv (cv (pwr (sh 1 h) m) (ad h (zd h))) (pwr q (n + 1)) n) := by
    rw [cv_assoc]
    have e1 : cv (cmp (dv b) (sh 1 h)) (cv (ad h (zd h)) (pwr q (n + 1))) n = sm (n + 1) (fun i => sm (n + 1) (fun m => dv b m * (pwr (sh 1 h) m i * cv (ad h (zd h)) (pwr q (n + 1)) (n - i)))) := by
      show sm (n + 1) (fun i => cmp (dv b) (sh 1 h) i * _) = _
      refine sm_congr (fun i hi => ?_)
      rw [← cmp_ge (dv b) a0 (show i < n + 1 by omega), ← sm_mulr]
      exact sm_congr (fun m _ => Int.mul_assoc _ _ _)
    rw [e1, sm_swap]
    refine sm_congr (fun m hm => ?_)
    rw [sm_mul, cv_assoc]; rfl
  have h4 : ∀ m, m < n + 1 → Eqm (cv (cv (pwr (sh 1 h) m) (ad h (zd h))) (pwr q (n + 1)) n) (if m = n then 1 else 0) := fun m hm => by
    rw [pwr_sh, sh_cv, sh_cv]
    show Eqm (if n < m then 0 else _) _
    rw [if_neg (by omega)]
    have g1 : pwr q (n + 1) = cv (pwr q m) (pwr q (n - m + 1)) := by rw [← pwr_add]; congr 1; omega
    have g2 : cv (cv (pwr h m) (ad h (zd h))) (pwr q (n + 1)) = cv (pwr (cv q h) m) (cv (pwr q (n - m + 1)) (ad h (zd h))) := by
      rw [g1, pwr_cv, cv_assoc, cv_comm (ad h (zd h)), cv_assoc, ← cv_assoc, cv_comm (pwr h m)]
    rw [g2]
    have g3 : Cg N (cv (pwr (cv q h) m) (cv (pwr q (n - m + 1)) (ad h (zd h)))) (cv (pwr q (n - m + 1)) (ad h (zd h))) :=
      ((hq.pwr m).cv (Cg.refl _ _)).trans (Cg.of_eq (by rw [pwr_one_n, one_cv]))
    refine (g3 (n - m) (by omega)).trans ((res_zero hN hq (n - m) (by omega)).trans (Eqm.of_eq ?_))
    by_cases e : m = n
    · rw [if_pos (by omega), if_pos e]
    · rw [if_neg (by omega), if_neg e]
  have h5 := h2 n hn
  rw [h3] at h5
  refine Eqm.trans ?_ h5
  refine Eqm.trans (Eqm.of_eq ?_) (sm_eqm (g := fun m => dv b m * cv (cv (pwr (sh 1 h) m) (ad h (zd h))) (pwr q (n + 1)) n) (f := fun m => dv b m * (if m = n then 1 else 0)) (fun m hm => (Eqm.refl _).mul (h4 m hm).symm))
  rw [sm_one (k := n) (by omega) (fun i hi hne => by rw [if_neg hne]; omega), if_pos rfl]
  show _ = ((n : Int) + 1) * b (n + 1) * 1
  omega

/-! inverses as sums of powers -/
def gs (r : Nat → Int) : Nat → (Nat → Int)
  | 0 => fun _ => 0
  | n+1 => ad (gs r n) (pwr r n)
theorem gs_cv (r : Nat → Int) : ∀ n, cv (gs r n) (ad one (sc (-1) r)) = ad one (sc (-1) (pwr r n))
  | 0 => by
    have e2 : ad one (sc (-1) (pwr r 0)) = fun _ => 0 := funext fun k => by show one k + (-1) * one k = 0; omega
    rw [e2]
    exact funext fun k => sm_zero (fun i _ => Int.zero_mul _)
  | n+1 => by
    have e1 : gs r (n + 1) = ad (gs r n) (pwr r n) := rfl
    rw [e1, ad_cv, gs_cv r n, cv_ad, cv_one, cv_sc]
    funext k
    show (one k + -1 * pwr r n k) + (pwr r n k + -1 * pwr r (n + 1) k) = one k + -1 * pwr r (n + 1) k
    omega
theorem iv_ok {N : Nat} {b r : Nat → Int} {u : Int} (h0 : r 0 = 0) (hr : Cg N r (ad one (sc (-u) b))) : Cg N (cv (sc u (gs r N)) b) one := by
  rw [sc_cv, ← cv_sc]
  have h1 : Cg N (sc u b) (ad one (sc (-1) r)) := fun k hk => by
    have := hr k hk
    have e : sc u b k = one k + -1 * (ad one (sc (-u) b) k) := by
      show u * b k = one k + -1 * (one k + -u * b k)
      grind
    rw [e]
    exact (Eqm.refl _).add ((Eqm.refl _).mul this.symm)
  refine (Cg.cv (Cg.refl _ _) h1).trans ?_
  rw [gs_cv]
  intro k hk
  show Eqm (one k + -1 * pwr r N k) (one k)
  rw [pwr_low h0 N k hk]; exact Eqm.of_eq (by omega)

/-! there is a reverse -/
def rvs (a : Nat → Int) (u : Int) : Nat → (Nat → Int)
  | 0 => fun k => if k = 1 then u else 0
  | n+1 => fun k => if k = n + 2 then -(cmp a (rvs a u n) (n + 2)) * u else rvs a u n k
theorem rev_step {n : Nat} {a b b' : Nat → Int} {u : Int} (hn : 2 ≤ n) (hu : Eqm (u * a 1) 1) (h0 : b 0 = 0) (h0' : b' 0 = 0) (hb : b n = 0) (h : Cg n (cmp a b) vr) (hlow : ∀ i, i < n → Eqm (b i) (b' i)) (hat : Eqm (b' n) (-(cmp a b n) * u)) : Cg (n + 1) (cmp a b') vr := fun k hk => by
  by_cases e : k = n
  · subst e
    have h1 := low_cmp (a := a) (show 0 < k by omega) h0 h0' hlow
    rw [hb, Int.mul_zero, Int.sub_zero] at h1
    have h2 : Eqm (a 1 * b' k) (-(cmp a b k)) := by
      refine ((Eqm.refl _).mul hat).trans ?_
      have e2 : a 1 * (-(cmp a b k) * u) = -(cmp a b k) * (u * a 1) := by grind
      rw [e2]
      exact ((Eqm.refl _).mul hu).trans (Eqm.of_eq (Int.mul_one _))
    have e3 : vr k = 0 := by unfold vr; rw [if_neg (by omega)]
    rw [e3]
    generalize a 1 * b' k = y at *
    generalize cmp a b' k = x at *
    generalize cmp a b k = z at *
    unfold Eqm at *; omega
  · have hc : Cg n b b' := fun i hi => hlow i hi
    exact ((Cg.refl n a).cmp hc k (by omega)).symm.trans (h k (by omega))
theorem rvs_ok (a : Nat → Int) {u : Int} (hu : Eqm (u * a 1) 1) : ∀ n, rvs a u n 0 = 0 ∧ (∀ k, n + 2 ≤ k → rvs a u n k = 0) ∧ (a 0 = 0 → Cg (n + 2) (cmp a (rvs a u n)) vr)
  | 0 => by
    refine ⟨rfl, fun k hk => ?_, fun ha k hk => ?_⟩
    · show (if k = 1 then u else 0) = 0; rw [if_neg (by omega)]
    · by_cases e : k = 0
      · subst e; rw [cmp_at0, ha]; exact Eqm.refl _
      · obtain rfl : k = 1 := by omega
        rw [cmp_two a _ 1 (by omega)]
        have : sm (1 - 1) (fun n => a (n + 2) * pwr (rvs a u 0) (n + 2) 1) = 0 := rfl
        rw [this, Int.add_zero]
        show Eqm (a 1 * u) 1
        rw [Int.mul_comm]; exact hu
  | n+1 => by
    obtain ⟨i0, i1, i2⟩ := rvs_ok a hu n
    have e0 : rvs a u (n + 1) 0 = 0 := by show (if 0 = n + 2 then -(cmp a (rvs a u n) (n + 2)) * u else rvs a u n 0) = 0; rw [if_neg (by omega), i0]
    refine ⟨e0, fun k hk => ?_, fun ha => ?_⟩
    · show (if k = n + 2 then -(cmp a (rvs a u n) (n + 2)) * u else rvs a u n k) = 0; rw [if_neg (by omega), i1 k (by omega)]
    · refine rev_step (b := rvs a u n) (by omega) hu i0 e0 (i1 _ (by omega)) (i2 ha) (fun i hi => ?_) ?_
      · show Eqm _ (if i = n + 2 then -(cmp a (rvs a u n) (n + 2)) * u else rvs a u n i); rw [if_neg (by omega)]; exact Eqm.refl _
      · show Eqm (if n + 2 = n + 2 then -(cmp a (rvs a u n) (n + 2)) * u else rvs a u n (n + 2)) _; rw [if_pos rfl]; exact Eqm.refl _
theorem rev_ex {N : Nat} {a : Nat → Int} {u : Int} (hu : Eqm (u * a 1) 1) (ha : a 0 = 0) : ∃ b : Nat → Int, b 0 = 0 ∧ Cg N (cmp a b) vr :=
  ⟨rvs a u N, (rvs_ok a hu N).1, ((rvs_ok a hu N).2.2 ha).less (by omega)⟩
/-- the reverse by the formula: q is the inverse of a over the variable -/
def lgr (q : Nat → Int) : Nat → Int
  | 0 => 0
  | n+1 => pwr q (n + 1) n * inv ((n : Int) + 1)
theorem sh_self {a : Nat → Int} (ha : a 0 = 0) : sh 1 (fun k => a (k + 1)) = a := funext fun k => by
  unfold sh
  cases k with
  | zero => rw [if_pos (by omega), ha]
  | succ k => rw [if_neg (by omega)]; rfl
theorem rev_lgr {N : Nat} (hN : N ≤ 64) {a b q : Nat → Int} {u : Int} (hu : Eqm (u * a 1) 1) (ha : a 0 = 0) (hb : b 0 = 0) (h : Cg (N + 1) (cmp a b) vr) (hq : Cg N (cv q (fun k => a (k + 1))) one) : Cg (N + 1) b (lgr q) := fun k hk => by
  cases k with
  | zero => rw [hb]; exact Eqm.refl _
  | succ n =>
    have h1 := rev_left hu ha hb h
    rw [← sh_self ha] at h1
    have h2 := lagrange hN hq h1 n (by omega)
    refine cancel (c := (n : Int) + 1) (by omega) (by omega) (h2.trans ?_)
    show Eqm _ (((n : Int) + 1) * (pwr q (n + 1) n * inv ((n : Int) + 1)))
    have h3 := inv_mul ((n : Int) + 1) (by omega) (by omega)
    have e : ((n : Int) + 1) * (pwr q (n + 1) n * inv ((n : Int) + 1)) = pwr q (n + 1) n * (inv ((n : Int) + 1) * ((n : Int) + 1)) := by grind
    rw [e]
    exact (((Eqm.refl _).mul h3).trans (Eqm.of_eq (Int.mul_one _))).symm
theorem lgr_rev {N : Nat} (hN : N ≤ 64) {a q : Nat → Int} {u : Int} (hu : Eqm (u * a 1) 1) (ha : a 0 = 0) (hq : Cg N (cv q (fun k => a (k + 1))) one) : Cg (N + 1) (cmp a (lgr q)) vr := by
  obtain ⟨b, b0, hb⟩ := rev_ex (N := N + 1) hu ha
  exact ((Cg.refl _ a).cmp (rev_lgr hN hu ha b0 hb hq)).symm.trans hb
theorem isLog_lg' {N : Nat} (hN : N ≤ 64) {f r : Nat → Int} (h0 : r 0 = 0) (hr : Cg (N + 1) r (ad one (sc (-1) f))) : IsLog N (lg r N) f := by
  have h1 : IsLog N (lg r N) (ad one (sc (-1) r)) := isLog_lg hN h0 (by funext k; show r k = one k + -1 * (one k + -1 * r k); omega)
  refine h1.cg (Cg.refl _ _) ?_
  intro k hk
  have := hr k hk
  show Eqm (one k + -1 * r k) (f k)
  have e : f k = one k + -1 * (ad one (sc (-1) f) k) := by show f k = one k + -1 * (one k + -1 * f k); omega
  rw [e]; exact (Eqm.refl _).add ((Eqm.refl _).mul this)
end Go.Proofs.Ytfllcdcgfpjabaa.Ser
