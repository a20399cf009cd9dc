/-
  Copies, comparisons, marks and sizes of lists of lists of numbers, as the laws call them.
-/
import Derived.Test.YtnnihdkhblbdgaaGreatNest
namespace Go.Proofs.YtnnihdkhblbdgaaGreat
open Go.RowKit Fld
set_option linter.unusedVariables false
set_option linter.unusedSimpArgs false
set_option maxRecDepth 100000

/-- a new row is laid into a place of the outer row -/
theorem OwnMat.put_row {w : World} {lo hi hi' n k q c g cap : Nat} {A : Option Addr} {m : List (List Int)} {vs : List Value} {row : List Int} (h : OwnMat w lo hi (.slice (some ⟨g, 0, none⟩) n cap) n m vs) (hk : k < m.length) (hq : row.length = q)
    (ho : OwnR w hi hi' 2 (.slice A q c) q (ints row)) (hl : lo ≤ hi) (hh : hi ≤ hi') : OwnMat (w.setCell ⟨g, k, none⟩ (.slice A q c)) lo hi' (.slice (some ⟨g, 0, none⟩) n cap) n (m.set k row) (vs.set k (.slice A q c)) := by
  have hs := h.outer.1.stored k (.slice A q c)
  have hg2 : ∀ g', Value.ownBlock (.slice A q c) = some g' → hi ≤ g' := fun g' e => (ho.1.lt g' e).1
  refine ⟨⟨hs.1, fun g' e => by have := h.outer.2 g' e; omega⟩, by rw [List.length_set, List.length_set]; exact h.len, ?_, ?_⟩
  · intro s r hr
    by_cases hsk : k = s
    · subst hsk
      rw [List.getElem?_set_self hk] at hr
      injection hr with hr
      subst hr
      subst hq
      refine ⟨A, c, by rw [List.getElem?_set_self (by rw [h.len]; exact hk)], ?_⟩
      exact (ho.more hl (Nat.le_refl _)).grown hs.2 ((own_types ho.1 h.outer.1 (by decide)).imp id (fun e => e))
    · rw [List.getElem?_set_ne hsk] at hr
      obtain ⟨A2, c2, e2, o2⟩ := h.inner s r hr
      exact ⟨A2, c2, by rw [List.getElem?_set_ne hsk]; exact e2, (o2.more (Nat.le_refl _) hh).grown hs.2 ((own_types o2.1 h.outer.1 (by decide)).imp id (fun e => e))⟩
  · intro r s u t g' hne hu ht hb hb'
    by_cases hrk : k = r
    · subst hrk
      have hks : k ≠ s := hne
      rw [List.getElem?_set_self (by rw [h.len]; exact hk)] at hu
      rw [List.getElem?_set_ne hks] at ht
      injection hu with hu
      subst hu
      have h1 := hg2 g' hb
      have hsl : s < m.length := by
        rcases Nat.lt_or_ge s m.length with x | x
        · exact x
        · rw [List.getElem?_eq_none (by rw [h.len]; exact x)] at ht; cases ht
      obtain ⟨A2, c2, e2, o2⟩ := h.inner s _ (List.getElem?_eq_getElem hsl)
      rw [ht] at e2
      injection e2 with e2
      subst e2
      have := o2.2 g' hb'
      omega
    · rw [List.getElem?_set_ne hrk] at hu
      by_cases hsk : k = s
      · subst hsk
        rw [List.getElem?_set_self (by rw [h.len]; exact hk)] at ht
        injection ht with ht
        subst ht
        have h1 := hg2 g' hb'
        have hrl : r < m.length := by
          rcases Nat.lt_or_ge r m.length with x | x
          · exact x
          · rw [List.getElem?_eq_none (by rw [h.len]; exact x)] at hu; cases hu
        obtain ⟨A2, c2, e2, o2⟩ := h.inner r _ (List.getElem?_eq_getElem hrl)
        rw [hu] at e2
        injection e2 with e2
        subst e2
        have := o2.2 g' hb
        omega
      · rw [List.getElem?_set_ne hsk] at ht
        exact h.apart r s u t g' hne hu ht hb hb'
/-- an outer row of empty rows -/
theorem OwnMat.blank {w w1 : World} {n : Nat} (h : w1.ownsRow w.heap.size 22 1 (.slice (some ⟨w.heap.size, 0, none⟩) n n) n (madeCells (Value.slice none 0 0).cells (n * 1)).toList) (hz : w.heap.size < w1.heap.size) :
    OwnMat w1 w.heap.size w1.heap.size (.slice (some ⟨w.heap.size, 0, none⟩) n n) n (List.replicate n []) (List.replicate n (.slice none 0 0)) := by
  have e : (madeCells (Value.slice none 0 0).cells (n * 1)).toList = List.replicate n (.slice none 0 0) := by rw [Nat.mul_one]; exact toList_madeCells_one _ _
  rw [e] at h
  refine ⟨⟨h, fun g hg => by have : w.heap.size = g := (by simpa [Value.ownBlock] using hg); omega⟩, by simp, ?_, ?_⟩
  · intro r row hr
    rw [List.getElem?_replicate] at hr
    split at hr
    · rename_i hlt
      injection hr with hr
      subst hr
      exact ⟨none, 0, by rw [List.getElem?_replicate, if_pos hlt]; rfl, World.ownsRow_nil _ _ _ _, fun g hg => by simp [Value.ownBlock] at hg⟩
    · cases hr
  · intro r s u t g hne hu ht hb
    rw [List.getElem?_replicate] at hu
    split at hu
    · injection hu with hu; subst hu; simp [Value.ownBlock] at hb
    · cases hu
/-- a new list of lists -/
def NewMat (n : Nat) (m : List (List Int)) (w : World) (e : Ending) (w' : World) : Prop :=
  ∃ A c vs, e = .returned (.slice A n c) ∧ OwnMat w' w.heap.size w'.heap.size (.slice A n c) n m vs ∧ Below w.heap.size w w'
/-- the rows up to k are filled -/
def FillM (w : World) (n : Nat) (m : List (List Int)) (k : Nat) (wr : World) : Prop :=
  ∃ vs, OwnMat wr w.heap.size wr.heap.size (.slice (some ⟨w.heap.size, 0, none⟩) n n) n (m.take k ++ List.replicate (n - k) []) vs ∧ Below w.heap.size w wr ∧ w.heap.size < wr.heap.size
theorem fillM_step {m : List (List Int)} {n k : Nat} {r : List Int} (hl : m.length = n) (h : m[k]? = some r) : (m.take k ++ List.replicate (n - k) []).set k r = m.take (k + 1) ++ List.replicate (n - (k + 1)) [] := by
  have hk : k < n := by
    rcases Nat.lt_or_ge k n with g | g
    · exact g
    · rw [List.getElem?_eq_none (by omega)] at h; cases h
  have e1 : (m.take k).length = k := by simp; omega
  rw [List.set_append, if_neg (by omega), e1, Nat.sub_self, show n - k = (n - (k + 1)) + 1 from by omega, List.replicate_succ, List.set_cons_zero, List.take_add_one, h]
  simp
theorem FillM.step {w wr w2 : World} {n k c : Nat} {A : Option Addr} {m : List (List Int)} {row : List Int} (h : FillM w n m k wr) (hl : m.length = n) (hr : m[k]? = some row)
    (ho : w2.ownsRow wr.heap.size 2 1 (.slice A row.length c) row.length (ints row)) (hb : Below wr.heap.size wr w2) : FillM w n m (k + 1) (w2.setCell ⟨w.heap.size, k, none⟩ (.slice A row.length c)) := by
  obtain ⟨vs, h1, h2, h3⟩ := h
  have hk : k < n := by
    rcases Nat.lt_or_ge k n with g | g
    · exact g
    · rw [List.getElem?_eq_none (by omega)] at hr; cases hr
  have hlen : (m.take k ++ List.replicate (n - k) []).length = n := by simp; omega
  have h4 := (h1.below hb (Nat.le_refl _)).put_row (k := k) (by omega) rfl (OwnR.of ho) (by omega) hb.size
  rw [fillM_step hl hr] at h4
  have hsz : (w2.setCell ⟨w.heap.size, k, none⟩ (.slice A row.length c)).heap.size = w2.heap.size := by simp [World.setCell]
  exact ⟨_, by rw [hsz]; exact h4, below_set (h2.trans (hb.mono (by omega))) (Nat.le_refl _) _, by rw [hsz]; have := hb.size; omega⟩
theorem FillM.done {w wr : World} {n : Nat} {m : List (List Int)} (h : FillM w n m n wr) (hl : m.length = n) : NewMat n m w (.returned (.slice (some ⟨w.heap.size, 0, none⟩) n n)) wr := by
  obtain ⟨vs, h1, h2, _⟩ := h
  rw [Nat.sub_self, List.take_of_length_le (by omega)] at h1
  simp only [List.replicate_zero, List.append_nil] at h1
  exact ⟨_, _, vs, rfl, h1, h2⟩
theorem FillM.start {w w1 : World} {n : Nat} {m : List (List Int)} (h : w1.ownsRow w.heap.size 22 1 (.slice (some ⟨w.heap.size, 0, none⟩) n n) n (madeCells (Value.slice none 0 0).cells (n * 1)).toList) (hg : w.grownBy w1 none) : FillM w n m 0 w1 := by
  have hz : w.heap.size < w1.heap.size := (h.lt w.heap.size rfl).2
  refine ⟨List.replicate n (.slice none 0 0), ?_, (Below.refl _ _).grown hg (Nat.le_refl _) (fun k hk => by cases hk), hz⟩
  simp only [List.take_zero, List.nil_append, Nat.sub_zero]
  exact OwnMat.blank h hz
theorem FillM.cell {w wr w2 : World} {n k : Nat} {m : List (List Int)} (h : FillM w n m k wr) (hl : m.length = n) (hk : k < n) (hb : Below wr.heap.size wr w2) :
    (∃ u, w2.cell? ⟨w.heap.size, k, none⟩ = some u) ∧ w2.frozen? ⟨w.heap.size, k, none⟩ = false := by
  obtain ⟨vs, h1, _, h3⟩ := h
  have h2 := (h1.below hb (Nat.le_refl _)).outer.1
  refine ⟨?_, h2.frozenAt k⟩
  have e := h2.cellAt k (by omega)
  have hv : k < vs.length := by rw [own_len h2]; exact hk
  rw [List.getElem?_eq_getElem hv] at e
  exact ⟨_, e⟩

def eqM (m m' : List (List Int)) : Bool := decide (m = m')
theorem eqM_self (m : List (List Int)) : eqM m m = true := by simp [eqM]
theorem eqM_len {m m' : List (List Int)} (h : m.length ≠ m'.length) : eqM m m' = false := by
  unfold eqM; exact decide_eq_false (fun e => h (by rw [e]))
theorem eqM_at {m m' : List (List Int)} {k : Nat} {x y : List Int} (hx : m[k]? = some x) (hy : m'[k]? = some y) (h : eqL x y = false) : eqM m m' = false := by
  unfold eqM; refine decide_eq_false (fun e => ?_)
  rw [e, hy] at hx
  injection hx with hx
  rw [hx, eqL_self] at h
  cases h
theorem takeM_same {m m' : List (List Int)} {k : Nat} {x y : List Int} (h : m.take k = m'.take k) (hx : m[k]? = some x) (hy : m'[k]? = some y) (he : eqL x y = true) : m.take (k + 1) = m'.take (k + 1) := by
  have e : x = y := by simpa [eqL] using he
  rw [List.take_add_one, List.take_add_one, h, hx, hy, e]
theorem eqM_end {m m' : List (List Int)} {n : Nat} (h : m.take n = m'.take n) (hx : m.length = n) (hy : m'.length = n) : eqM m m' = true := by
  rw [List.take_of_length_le (by omega), List.take_of_length_le (by omega)] at h
  rw [h]; exact eqM_self _
theorem quiet_any {P : Program} {f : FuncId} {args : Array Value} {w : World} {a n : Nat} {v : Value} (h : Calls P f args (w.drewN (a + n)) fun e w' => e = .returned v ∧ ∃ m, w' = (w.drewN (a + n)).drewN m) : Calls P f args (w.drewN (a + n)) fun e w'' => e = .returned v ∧ ∃ m, w'' = w.drewN (a + m) :=
  h.mono fun _ _ ⟨he, m, hm⟩ => ⟨he, n + m, by rw [hm, World.drewN_drewN, Nat.add_assoc]⟩

/-! sizes -/
def szR (left : Int) (used : Nat) : Int := if (used : Int) ≤ left then left - used else -1
theorem szR_neg {left : Int} {used : Nat} (h : left < used) : szR left used = -1 := if_neg (by omega)
theorem szR_pos {left : Int} {used : Nat} (h : (used : Int) ≤ left) : szR left used = left - used := if_pos h
theorem szR_bd (left : Int) (used : Nat) (h : -1 ≤ left) : -1 ≤ szR left used := by unfold szR; split <;> omega
end Go.Proofs.YtnnihdkhblbdgaaGreat
