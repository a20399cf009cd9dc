/-
  The neutral tableau.
-/
import Derived.Test.YtchimobmkmgkmaaTqG
namespace Go.Proofs.Ytchimobmkmgkmaa
open Go.RowKit Fld
set_option linter.unusedVariables false
set_option linter.unusedSimpArgs false
set_option maxRecDepth 100000

def neutralM : List (List Int) := [[0]]
def neutralB : List Int := [0]
def neutralTA : (List (List Int) × List Int) × Int := ((neutralM, neutralB), 0)
theorem neutral_world (w : World) (T T2 T3 : TypeId) :
    Bx ((((w.alloc (.cells #[.slice (some ⟨w.heap.size + 1 + 1, 0, none⟩) 1 1, .slice (some ⟨w.heap.size + 1 + 1 + 1, 0, none⟩) 1 1] T)).alloc (.cells #[.int .i64 0] T2)).alloc (.cells #[.slice (some ⟨w.heap.size + 1, 0, none⟩) 1 1] T3)).alloc (.cells #[.int .i64 0] T2)) w.heap.size T (.slice (some ⟨w.heap.size + 1 + 1, 0, none⟩) 1 1) (.slice (some ⟨w.heap.size + 1 + 1 + 1, 0, none⟩) 1 1) ∧
    NewF 1 1 neutralM neutralB w (.returned (.agg #[.slice (some ⟨w.heap.size + 1 + 1, 0, none⟩) 1 1, .slice (some ⟨w.heap.size + 1 + 1 + 1, 0, none⟩) 1 1])) ((((w.alloc (.cells #[.slice (some ⟨w.heap.size + 1 + 1, 0, none⟩) 1 1, .slice (some ⟨w.heap.size + 1 + 1 + 1, 0, none⟩) 1 1] T)).alloc (.cells #[.int .i64 0] T2)).alloc (.cells #[.slice (some ⟨w.heap.size + 1, 0, none⟩) 1 1] T3)).alloc (.cells #[.int .i64 0] T2)) := by
  obtain ⟨W, hW⟩ : ∃ W, W = ((((w.alloc (.cells #[.slice (some ⟨w.heap.size + 1 + 1, 0, none⟩) 1 1, .slice (some ⟨w.heap.size + 1 + 1 + 1, 0, none⟩) 1 1] T)).alloc (.cells #[.int .i64 0] T2)).alloc (.cells #[.slice (some ⟨w.heap.size + 1, 0, none⟩) 1 1] T3)).alloc (.cells #[.int .i64 0] T2)) := ⟨_, rfl⟩
  rw [← hW]
  have e : W.heap = (((w.heap.push (.cells #[.slice (some ⟨w.heap.size + 1 + 1, 0, none⟩) 1 1, .slice (some ⟨w.heap.size + 1 + 1 + 1, 0, none⟩) 1 1] T)).push (.cells #[.int .i64 0] T2)).push (.cells #[.slice (some ⟨w.heap.size + 1, 0, none⟩) 1 1] T3)).push (.cells #[.int .i64 0] T2) := by rw [hW]; rfl
  have h0 : W.heap[w.heap.size]? = some (.cells #[.slice (some ⟨w.heap.size + 1 + 1, 0, none⟩) 1 1, .slice (some ⟨w.heap.size + 1 + 1 + 1, 0, none⟩) 1 1] T (0, 0)) := by rw [e]; simp only [Array.getElem?_push, Array.size_push]; rw [if_neg (by omega), if_neg (by omega), if_neg (by omega), if_pos trivial]
  have h1 : W.heap[w.heap.size + 1]? = some (.cells #[.int .i64 0] T2 (0, 0)) := by rw [e]; simp only [Array.getElem?_push, Array.size_push]; rw [if_neg (by omega), if_neg (by omega), if_pos trivial]
  have h2 : W.heap[w.heap.size + 1 + 1]? = some (.cells #[.slice (some ⟨w.heap.size + 1, 0, none⟩) 1 1] T3 (0, 0)) := by rw [e]; simp only [Array.getElem?_push, Array.size_push]; rw [if_neg (by omega), if_pos trivial]
  have h3 : W.heap[w.heap.size + 1 + 1 + 1]? = some (.cells #[.int .i64 0] T2 (0, 0)) := by rw [e]; simp only [Array.getElem?_push, Array.size_push]; rw [if_pos trivial]
  have hb : Below w.heap.size w W := by
    rw [hW]; exact ((((Below.refl _ _).alloc (Nat.le_refl _) _).alloc (by simp) _).alloc (by simp; omega) _).alloc (by simp; omega) _
  refine ⟨h0, _, _, _, _, rfl, Nat.le_refl _, Nat.le_refl _, fun k r hr => ?_, fun k v hv => ?_, hb⟩
  · rcases k with _ | k
    · simp [neutralM] at hr
      subst hr
      refine ⟨_, _, _, 1, rfl, by omega, by rw [cell_of_row _ _ 0 _ _ _ h2]; rfl, Nat.le_refl _, by simp [maxLen], fun j v hv => ?_⟩
      rcases j with _ | j
      · simp [ints, intsK] at hv
        subst hv
        exact ⟨_, _, rfl, by omega, by rw [cell_of_row _ _ 0 _ _ _ h1]; rfl⟩
      · simp [ints, intsK] at hv
    · simp [neutralM] at hr
  · rcases k with _ | k
    · simp [neutralB, ints, intsK] at hv
      subst hv
      exact ⟨_, _, rfl, by omega, by rw [cell_of_row _ _ 0 _ _ _ h3]; rfl⟩
    · simp [neutralB, ints, intsK] at hv
theorem neutral_any (w : World) : Calls Try.prog 67 #[] w (NewF 1 1 neutralM neutralB w) := by
  go_enter Try.func67, Try.ntmps67
  go_wp2
  obtain ⟨hx, hn⟩ := neutral_world w 58 65 56
  exact bodyPost_ret (v := .agg #[.slice (some ⟨w.heap.size + 1 + 1, 0, none⟩) 1 1, .slice (some ⟨w.heap.size + 1 + 1 + 1, 0, none⟩) 1 1]) (results_cell_row rfl _ _ w.heap.size 58 _ (0, 0) _ rfl hx Try.underlying58 rfl info_schR) rfl hn
theorem sNeutralTableau_any (w : World) : Calls Try.prog 25 #[] w (NewF 1 1 neutralM neutralB w) := by
  go_enter Try.func25, Try.ntmps25
  go_wp2
  obtain ⟨hx, hn⟩ := neutral_world w 27 2 23
  exact bodyPost_ret (v := .agg #[.slice (some ⟨w.heap.size + 1 + 1, 0, none⟩) 1 1, .slice (some ⟨w.heap.size + 1 + 1 + 1, 0, none⟩) 1 1]) (results_cell_row rfl _ _ w.heap.size 27 _ (0, 0) _ rfl hx Try.underlying27 rfl info_tabR) rfl hn
/-- a tableau of the call's own, without a code -/
def ResT1 (r : (List (List Int) × List Int) × Int) (w : World) (e : Ending) (w' : World) : Prop :=
  (r.1.1.length ≤ 8 ∧ total r.1.1 ≤ 64 ∧ r.1.2.length ≤ 8) ∧ ∃ A c vs D d mid, e = .returned (.agg #[.slice A r.1.1.length c, .slice D r.1.2.length d]) ∧ w.heap.size ≤ mid ∧ mid ≤ w'.heap.size ∧
    OwnMat w' w.heap.size mid (.slice A r.1.1.length c) r.1.1.length r.1.1 vs ∧ OwnR w' mid w'.heap.size 2 (.slice D r.1.2.length d) r.1.2.length (ints r.1.2) ∧ Below w.heap.size w w'
def ResTL1 (r : (List (List Int) × List Int) × Int) (w : World) (e : Ending) (w' : World) : Prop :=
  (r.1.1.length ≤ 8 ∧ total r.1.1 ≤ 64 ∧ r.1.2.length ≤ 8) ∧ ∃ A c D d, e = .returned (.agg #[.slice A r.1.1.length c, .slice D r.1.2.length d]) ∧ Mat w' w'.heap.size A r.1.1 ∧ Row w' w'.heap.size D (ints r.1.2) ∧ Below w.heap.size w w'
theorem sNeutralTableau_L (w : World) : Calls Try.prog 25 #[] w (ResTL1 neutralTA w) := by
  refine (sNeutralTableau_any w).mono ?_
  rintro e w' ⟨A, c, D, d, rfl, _, _, hm, hr, hb⟩
  exact ⟨⟨by simp [neutralTA, neutralM], by simp [neutralTA, neutralM, total], by simp [neutralTA, neutralB]⟩, A, c, D, d, rfl, hm.mat, hr.row, hb⟩
set_option maxHeartbeats 1000000 in
theorem pNeutralTableau_L (w : World) : Calls Try.prog 26 #[] w (ResT1 neutralTA w) := by
  obtain ⟨W0, hW0⟩ : ∃ W0, W0 = w.alloc (.cells #[.slice none 0 0, .slice none 0 0] 27) := ⟨_, rfl⟩
  have HB : Hid (Below w.heap.size w W0) := by rw [hW0]; exact (Below.refl _ _).alloc (Nat.le_refl _) _
  have HX : Hid (Bx W0 w.heap.size 27 (.slice none 0 0) (.slice none 0 0)) := by rw [hW0]; exact Bx.new _ _ _ _
  have hs : W0.heap.size = w.heap.size + 1 := by rw [hW0]; simp
  go_enter Try.func26, Try.ntmps26
  go_wp2_with fail
  rw [← hW0]
  clear hW0
  refine (neutral_any W0).mono ?_
  rintro e w2 ⟨A2, c2, D2, d2, rfl, hc2, hd2, m2, r2, b2⟩
  have HB2 := Lib.hid (HB.out.trans (b2.mono HB.out.size))
  have HX2 := Lib.hid (HX.out.next b2)
  have HM := Lib.hid m2.mat
  have HR := Lib.hid r2.row
  have hz2 := b2.size
  clear m2 r2 b2
  go_wp2_with fail
  refine (tableau_any A2 D2 1 c2 1 d2 w2.heap.size w2.heap.size neutralM neutralB w2 rfl rfl (by omega) (by simp [neutralM, total]) (by omega) (Nat.le_refl _) (Nat.le_refl _) HM.out HR.out).mono ?_
  rintro e w9 ⟨A9, c9, vs9, D9, d9, mid, rfl, l1, l2, o9, p9, b9⟩
  have HB9 := Lib.hid (HB2.out.trans (b9.mono HB2.out.size))
  have HX9 := Lib.hid (HX2.out.next b9)
  have k0 := HX9.out.c0
  have k1 := HX9.out.c1
  have f0 := HX9.out.free 0
  have f1 := HX9.out.free 1
  have HO := Lib.hid o9
  have HP := Lib.hid p9
  clear o9 p9 b9
  go_wp2
  have hk : ∀ k, k ≠ w.heap.size → ((w9.setCell ⟨w.heap.size, 0, none⟩ (.slice A9 1 c9)).setCell ⟨w.heap.size, 1, none⟩ (.slice D9 1 d9)).heap[k]? = w9.heap[k]? := fun k hk => by
    rw [Below.heap_setCell _ _ _ _ (by show k ≠ w.heap.size; exact hk), Below.heap_setCell _ _ _ _ (by show k ≠ w.heap.size; exact hk)]
  have hs9 : ((w9.setCell ⟨w.heap.size, 0, none⟩ (.slice A9 1 c9)).setCell ⟨w.heap.size, 1, none⟩ (.slice D9 1 d9)).heap.size = w9.heap.size := by simp [World.setCell]
  refine bodyPost_ret (v := .agg #[.slice A9 1 c9, .slice D9 1 d9]) (results_cell_row rfl _ _ w.heap.size 27 _ (0, 0) _ rfl (HX9.out.stored _ _) Try.underlying27 rfl info_tabR) rfl ⟨⟨by simp [neutralTA, neutralM], by simp [neutralTA, neutralM, total], by simp [neutralTA, neutralB]⟩, A9, c9, vs9, D9, d9, mid, rfl, by omega, by omega, ?_, ?_, below_set (below_set HB9.out (Nat.le_refl _) _) (Nat.le_refl _) _⟩
  · exact (HO.out.keep fun k h1 _ => hk k (by omega)).more (by omega) (Nat.le_refl _)
  · rw [hs9]; exact HP.out.keep fun k h1 _ => hk k (by omega)
end Go.Proofs.Ytchimobmkmgkmaa
