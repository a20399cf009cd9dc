/-
  Level lists: what the tests answer, the program's and the model's.
-/
import Derived.Test.YtpmfpgfgkeejnaaSlices
import Derived.Test.YtpmfpgfgkeejnaaTree
import Derived.Test.YtpmfpgfgkeejnaaRes1
namespace Go.Proofs.Ytpmfpgfgkeejnaa
open Go.RowKit Fld
set_option linter.unusedVariables false
set_option linter.unusedSimpArgs false
set_option maxRecDepth 100000

theorem below_undrew' {w w' : World} {a : Nat} (h : Below (w.drewN a).heap.size (w.drewN a) w') : Below w.heap.size w w' := ⟨h.os, h.tape, h.output, h.size, h.block⟩
theorem lv_at {t : List Int} {k : Nat} {x : Int} (h : t[k]? = some x) : t.getD k 0 = x := by rw [List.getD_eq_getElem?_getD, h]; rfl
/-- the steps up to a place are those of a level list -/
def StepsTo (t : List Int) (k : Nat) : Prop := ∀ i, i < k → 1 ≤ i → 1 ≤ t.getD i 0 ∧ t.getD i 0 ≤ t.getD (i - 1) 0 + 1
theorem StepsTo.one (t : List Int) : StepsTo t 1 := fun i h1 h2 => by omega
theorem StepsTo.step {t : List Int} {k : Nat} {x y : Int} (h : StepsTo t k) (hx : t.getD k 0 = x) (hy : t.getD (k - 1) 0 = y) (h1 : 1 ≤ x) (h2 : x ≤ y + 1) : StepsTo t (k + 1) := fun i hi h3 => by
  by_cases e : i = k
  · subst e; rw [hx, hy]; exact ⟨h1, h2⟩
  · exact h i (by omega) h3
theorem StepsTo.lv {t : List Int} {n : Nat} (h : StepsTo t n) (hl : t.length = n) (h1 : 1 ≤ n) (h8 : n ≤ 8) (h0 : t.getD 0 0 = 0) : Tr.isLv t = true :=
  Tr.isLv_iff.2 ⟨by omega, by omega, h0, fun i hi h2 => h i (by omega) h2⟩
theorem StepsTo.le {t : List Int} {n : Nat} (h : StepsTo t n) (h0 : t.getD 0 0 = 0) : ∀ k, k < n → t.getD k 0 ≤ (k : Int)
  | 0, _ => by rw [h0]; exact Int.le_refl _
  | k+1, hk => by
    have h1 := StepsTo.le h h0 k (by omega)
    have h2 := (h (k + 1) hk (by omega)).2
    rw [Nat.add_sub_cancel] at h2
    omega
theorem lv_no_len {t : List Int} (h : t.length = 0 ∨ 8 < t.length) : Tr.isLv t = false := by
  apply Bool.eq_false_iff.2
  intro e
  obtain ⟨h0, h1, _⟩ := Tr.isLv_iff.1 e
  omega
theorem lv_no_head {t : List Int} (h : t.getD 0 0 ≠ 0) : Tr.isLv t = false := by
  apply Bool.eq_false_iff.2
  intro e
  exact h (Tr.isLv_iff.1 e).2.2.1
theorem lv_no_at {t : List Int} {k : Nat} {x y : Int} (hx : t.getD k 0 = x) (hy : t.getD (k - 1) 0 = y) (hk : k < t.length) (h1 : 1 ≤ k) (h : x < 1 ∨ y + 1 < x) : Tr.isLv t = false := by
  apply Bool.eq_false_iff.2
  intro e
  have := (Tr.isLv_iff.1 e).2.2.2 k hk h1
  rw [hx, hy] at this
  omega
theorem lv_no_big {t : List Int} {k : Nat} {y : Int} (hy : t.getD k 0 = y) (hk : k < t.length) (h : 8 < y) : Tr.isLv t = false := by
  apply Bool.eq_false_iff.2
  intro e
  have h1 := Tr.isLv_iff.1 e
  have h2 : StepsTo t t.length := h1.2.2.2
  have := h2.le h1.2.2.1 k hk
  have := h1.2.1
  omega
theorem StepsTo.bd {t : List Int} {n k : Nat} {y : Int} (h : StepsTo t n) (h0 : t.getD 0 0 = 0) (hk : k < n) (hy : t.getD k 0 = y) : 0 ≤ y ∧ y ≤ (k : Int) := by
  have h1 := h.le h0 k hk
  rw [hy] at h1
  refine ⟨?_, h1⟩
  rcases Nat.eq_zero_or_pos k with e | e
  · rw [e, h0] at hy; omega
  · have := (h k hk e).1; rw [hy] at this; omega
set_option maxHeartbeats 400000 in
theorem isLevels_any (A : Option Addr) (n c B : Nat) (t : List Int) (w : World) (hl : t.length = n) (hn : n ≤ 9223372036854775807) (h : Row w B A (ints t)) :
    Calls Try.prog 24 #[.slice A n c] w fun e w' => e = .returned (.bool (Tr.isLv t)) ∧ ∃ m, w' = w.drewN m := by
  by_cases h0 : n = 0
  · have G := Lib.hid (lv_no_len (t := t) (.inl (by omega)))
    have tn := beq_t (show (n : Int) = 0 by omega)
    clear hl h0
    go_enter Try.func24, Try.ntmps24
    go_wp2
    go_ret
    exact ⟨ret_bool G.out.symm, 0, rfl⟩
  · have tn := beq_f (show ¬ (n : Int) = 0 by omega)
    by_cases h8 : n ≤ 8
    · obtain ⟨z, hz⟩ := at_lt (show 0 < t.length by omega)
      obtain ⟨b, o, rfl, _, hcz⟩ := h 0 _ (ints_at hz)
      rw [Nat.add_zero] at hcz
      have HL := Lib.hid hl
      have n0' : (0 : Int) < (n : Int) := by omega
      by_cases hz0 : z = 0
      · subst hz0
        have HZ := Lib.hid (lv_at hz)
        clear hl hz h0
        go_enter Try.func24, Try.ntmps24
        go_wp2_with fail
        go_loopw [3] (fun i wr => ∃ j m : Nat, j + 1 ≤ n ∧ i = .int .i64 ((j : Int) + 1) ∧ wr = w.drewN m ∧ Hid (StepsTo t (j + 1))) (fun i _ => n - (intOf i).toNat)
        case atStart => exact ⟨0, 0, by omega, rfl, rfl, StepsTo.one t⟩
        case round =>
          obtain ⟨j, m, hj, rfl, rfl, HT⟩ := hrel
          by_cases hlt : j + 1 < n
          · obtain ⟨x, hx⟩ := at_lt (show j + 1 < t.length by rw [HL.out]; exact hlt)
            obtain ⟨y, hy⟩ := at_lt (show j < t.length by rw [HL.out]; omega)
            obtain ⟨_, _, e1, _, hcx⟩ := h (j + 1) _ (ints_at hx)
            cases e1
            obtain ⟨_, _, e1, _, hcy⟩ := h j _ (ints_at hy)
            cases e1
            obtain ⟨y0, y1⟩ := HT.out.bd HZ.out (by omega) (lv_at hy)
            have j8 : (j : Int) ≤ 8 := by omega
            by_cases hx1 : x < 1
            · have G := Lib.hid (lv_no_at (t := t) (k := j + 1) (lv_at hx) (lv_at hy) (by rw [HL.out]; exact hlt) (by omega) (.inl hx1))
              have hd1 : decide (x < 1) = true := decide_eq_true hx1
              clear hx hy HT
              go_wp2_with fail
              go_quiet (fail)
              go_wp2
              go_ret
              exact ⟨ret_bool G.out.symm, _, World.drewN_drewN ..⟩
            · have hd1 : decide (x < 1) = false := decide_eq_false hx1
              by_cases hx2 : y + 1 < x
              · have G := Lib.hid (lv_no_at (t := t) (k := j + 1) (lv_at hx) (lv_at hy) (by rw [HL.out]; exact hlt) (by omega) (.inr hx2))
                have hd2 : decide (y + 1 < x) = true := decide_eq_true hx2
                clear hx hy HT
                go_wp2_with fail
                go_quiet (fail)
                go_wp2
                go_ret
                exact ⟨ret_bool G.out.symm, _, World.drewN_drewN ..⟩
              · have G : Hid (StepsTo t (j + 1 + 1)) := HT.out.step (lv_at hx) (lv_at hy) (by omega) (by omega)
                have hd2 : decide (y + 1 < x) = false := decide_eq_false hx2
                clear hx hy HT
                go_wp2_with fail
                go_quiet (fail)
                go_wp2
                go_roundw
                case rel => exact ⟨j + 1, _, by omega, by go_num, rfl, G⟩
                case measure => simp [intOf]; omega
          · have G := Lib.hid (HT.out.lv (n := j + 1) (by rw [HL.out]; omega) (by omega) (by omega) HZ.out)
            clear HT
            go_wp2
            go_ret
            exact ⟨ret_bool G.out.symm, _, rfl⟩
      · have G := Lib.hid (lv_no_head (t := t) (by rw [lv_at hz]; exact hz0))
        have tz := bne_t hz0
        clear hl hz h0
        go_enter Try.func24, Try.ntmps24
        go_wp2
        go_ret
        exact ⟨ret_bool G.out.symm, 0, rfl⟩
    · have G := Lib.hid (lv_no_len (t := t) (.inr (by omega)))
      clear hl h0
      go_enter Try.func24, Try.ntmps24
      go_wp2
      go_ret
      exact ⟨ret_bool G.out.symm, 0, rfl⟩
theorem pIsLevels_L (A : Option Addr) (n c B : Nat) (xs : List Int) (w : World) (hl : xs.length = n) (hn : n ≤ 1048576) (hB : B ≤ w.heap.size) (h : Row w B A (ints xs)) :
    Calls Try.prog 24 #[.slice A n c] w (ResB (Tr.isLv xs) w) := (isLevels_any A n c B xs w hl (by omega) h).mono fun e w' ⟨he, m, hw⟩ => ⟨he, hw ▸ below_drewN (Below.refl _ _) m⟩
end Go.Proofs.Ytpmfpgfgkeejnaa
