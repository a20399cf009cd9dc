/-
  Lists of numbers as series, and what the operations on them are to answer.
-/
import Derived.Test.YtfllcdcgfpjabaaBase
import Derived.Test.YtfllcdcgfpjabaaSer
namespace Go.Proofs.Ytfllcdcgfpjabaa
open Go.RowKit Fld Ser
set_option linter.unusedVariables false
set_option linter.unusedSimpArgs false
set_option maxRecDepth 100000

/-- the coefficients of a list -/
def co (xs : List Int) : Nat → Int := fun k => xs.getD k 0
/-- the first n coefficients, as numbers of the field -/
def cl (n : Nat) (f : Nat → Int) : List Int := (List.range n).map fun k => f k % 10007
theorem cl_length (n : Nat) (f : Nat → Int) : (cl n f).length = n := by simp [cl]
theorem cl_at (f : Nat → Int) {n k : Nat} (h : k < n) : (cl n f)[k]? = some (f k % 10007) := by
  unfold cl; rw [List.getElem?_map, List.getElem?_range h]; rfl
theorem cl_num (n : Nat) (f : Nat → Int) : allNum (cl n f) = true := by
  rw [allNum_iff]
  intro x hx
  unfold cl at hx
  rw [List.mem_map] at hx
  obtain ⟨k, _, rfl⟩ := hx
  omega
theorem co_at {xs : List Int} {k : Nat} {x : Int} (h : xs[k]? = some x) : co xs k = x := by
  unfold co; rw [List.getD_eq_getElem?_getD, h]; rfl
theorem co_cl (f : Nat → Int) {n k : Nat} (h : k < n) : co (cl n f) k = f k % 10007 := co_at (cl_at f h)
theorem co_cg (n : Nat) (f : Nat → Int) : Cg n (co (cl n f)) f := fun k hk => by rw [co_cl f hk]; exact Eqm.mod _
theorem cl_cg {n : Nat} {f g : Nat → Int} (h : Cg n f g) : cl n f = cl n g := by
  unfold cl
  exact List.map_congr_left (fun k hk => (h k (List.mem_range.1 hk)))
theorem cl_co {xs : List Int} {n : Nat} (hl : xs.length = n) (h : allNum xs = true) : cl n (co xs) = xs := by
  apply List.ext_getElem?
  intro k
  rcases Nat.lt_or_ge k n with g | g
  · obtain ⟨x, hx⟩ := at_lt (show k < xs.length by omega)
    have hn := allNum_iff.1 h x (List.mem_of_getElem? hx)
    rw [cl_at _ g, hx, co_at hx, Int.emod_eq_of_lt hn.1 hn.2]
  · rw [List.getElem?_eq_none (by rw [cl_length]; exact g), List.getElem?_eq_none (by omega)]
theorem co_num {xs : List Int} (h : allNum xs = true) (k : Nat) : 0 ≤ co xs k ∧ co xs k < 10007 := by
  rcases Nat.lt_or_ge k xs.length with g | g
  · obtain ⟨x, hx⟩ := at_lt g
    rw [co_at hx]; exact allNum_iff.1 h x (List.mem_of_getElem? hx)
  · unfold co; rw [List.getD_eq_getElem?_getD, List.getElem?_eq_none g]; exact ⟨by decide, by decide⟩
theorem co_out {xs : List Int} {k : Nat} (h : xs.length ≤ k) : co xs k = 0 := by
  unfold co; rw [List.getD_eq_getElem?_getD, List.getElem?_eq_none h]; rfl

/-- is a list a series -/
def isSer (xs : List Int) : Bool := decide (1 ≤ xs.length ∧ xs.length ≤ 16) && allNum xs
theorem isSer_iff {xs : List Int} : isSer xs = true ↔ 1 ≤ xs.length ∧ xs.length ≤ 16 ∧ allNum xs = true := by simp [isSer, and_assoc]
theorem isSer_len {xs : List Int} (h : xs.length < 1 ∨ 16 < xs.length) : isSer xs = false := by
  unfold isSer; rw [decide_eq_false (by omega)]; rfl
theorem isSer_num {xs : List Int} (h0 : 1 ≤ xs.length) (h1 : xs.length ≤ 16) : isSer xs = allNum xs := by
  unfold isSer; rw [decide_eq_true ⟨h0, h1⟩]; rfl
/-- are two lists series of one length -/
def areSer (xs ys : List Int) : Bool := isSer xs && (isSer ys && decide (xs.length = ys.length))
theorem areSer_iff {xs ys : List Int} : areSer xs ys = true ↔ isSer xs = true ∧ isSer ys = true ∧ xs.length = ys.length := by simp [areSer]
def serCode (xs ys : List Int) : Int := if areSer xs ys = true then 0 else 1

theorem serCode_no {a b : List Int} (h : areSer a b = false) : serCode a b = 1 := if_neg (by rw [h]; simp)
theorem serCode_ok {a b : List Int} (h : areSer a b = true) : serCode a b = 0 := if_pos h
/-- what two series of one length are -/
theorem areSer_parts {a b : List Int} {n n' : Nat} (h : areSer a b = true) (hl : a.length = n) (hl' : b.length = n') : 1 ≤ n ∧ n ≤ 16 ∧ n' = n ∧ allNum a = true ∧ allNum b = true := by
  obtain ⟨h1, h2, h3⟩ := areSer_iff.1 h
  obtain ⟨p1, p2, p3⟩ := isSer_iff.1 h1
  obtain ⟨q1, q2, q3⟩ := isSer_iff.1 h2
  exact ⟨by omega, by omega, by omega, p3, q3⟩
def addSerA (a b : List Int) : List Int × Int := if areSer a b = true then (cl a.length (ad (co a) (co b)), 0) else ([], 1)
def mulSerA (a b : List Int) : List Int × Int := if areSer a b = true then (cl a.length (cv (co a) (co b)), 0) else ([], 1)
/-! compositions: the sum of the first powers -/
def cmT (a b : Nat → Int) (k : Nat) : Nat → Int := fun j => sm k (fun n => a n * pwr b n j)
theorem cmT_end {a b : Nat → Int} {k N : Nat} (h0 : b 0 = 0) (hz : Cg N (pwr b k) (fun _ => 0)) : Cg N (cmT a b k) (cmp a b) := fun j hj => by
  have hp : ∀ m, k ≤ m → Eqm (pwr b m j) 0 := fun m hm => by
    have e : pwr b m = cv (pwr b k) (pwr b (m - k)) := by rw [← pwr_add]; congr 1; omega
    rw [e]
    have h1 : Cg N (cv (pwr b k) (pwr b (m - k))) (cv (fun _ => 0) (pwr b (m - k))) := hz.cv (Cg.refl _ _)
    refine (h1 j hj).trans (Eqm.of_eq ?_)
    exact sm_zero (fun i _ => Int.zero_mul _)
  have hM : ∀ M, k ≤ M → Eqm (sm M (fun n => a n * pwr b n j)) (sm k (fun n => a n * pwr b n j)) := fun M => by
    induction M with
    | zero => intro h; obtain rfl : k = 0 := by omega
              exact Eqm.refl _
    | succ M ih =>
      intro h
      by_cases e : k = M + 1
      · rw [e]; exact Eqm.refl _
      · show Eqm (sm M _ + a M * pwr b M j) _
        have h1 := ih (by omega)
        have h2 : Eqm (a M * pwr b M j) 0 := ((Eqm.refl _).mul (hp M (by omega))).trans (Eqm.of_eq (Int.mul_zero _))
        exact (h1.add h2).trans (Eqm.of_eq (Int.add_zero _))
  show Eqm (sm k _) _
  refine (hM (max k (j + 1)) (by omega)).symm.trans (Eqm.of_eq ?_)
  exact cmp_ge a h0 (by omega)
theorem cmT_step {n : Nat} {a b : Nat → Int} {k : Nat} {x : Int} (hx : a k = x) : cl n (ad (co (cl n (cmT a b k))) (co (cl n (sc x (co (cl n (pwr b k))))))) = cl n (cmT a b (k + 1)) := by
  refine cl_cg (Cg.trans ((co_cg n _).ad ((co_cg n _).trans (Cg.sc (Eqm.refl _) (co_cg n _)))) (Cg.of_eq ?_))
  funext j
  show sm k _ + x * pwr b k j = sm k _ + a k * pwr b k j
  rw [hx]
theorem pwT_step {n : Nat} (b : Nat → Int) (k : Nat) : cl n (cv (co (cl n (pwr b k))) b) = cl n (pwr b (k + 1)) := cl_cg ((co_cg n _).cv (Cg.refl _ _))
end Go.Proofs.Ytfllcdcgfpjabaa
