/-
  What the product of two series is, the program's and the model's alike.
-/
import Derived.Test.YtjdanhjonjmccabArr
import Derived.Test.YtjdanhjonjmccabSerL
import Derived.Test.YtjdanhjonjmccabSerTest
namespace Go.Proofs.Ytjdanhjonjmccab
open Go.RowKit Fld Ser
set_option linter.unusedVariables false
set_option linter.unusedSimpArgs false
set_option maxRecDepth 100000

theorem mulSerA_no {a b : List Int} (h : areSer a b = false) : mulSerA a b = ([], 1) := if_neg (by rw [h]; simp)
theorem mulSerA_yes {a b : List Int} {n : Nat} (h : areSer a b = true) (hl : a.length = n) : mulSerA a b = (cl n (cv (co a) (co b)), 0) := by rw [← hl]; exact if_pos h
set_option maxHeartbeats 1000000 in
theorem pMultiplySeries_L (A A' : Option Addr) (n n' c c' B B' : Nat) (a b : List Int) (w : World) (hl : a.length = n) (hl' : b.length = n') (hn : n ≤ 1048576) (hn' : n' ≤ 1048576) (hB : B ≤ w.heap.size) (hB' : B' ≤ w.heap.size) (h : Row w B A (ints a)) (h' : Row w B' A' (ints b)) :
    Calls Try.prog 17 #[.slice A n c, .slice A' n' c'] w (ResL (mulSerA a b) w) := by
  have HM : Hid (Lists (w.alloc (.cells #[.slice A n c, .slice A' n' c'] 24)) w.heap.size (some ⟨w.heap.size, 0, none⟩) [a, b]) := Lists.two _ hl hl' (Nat.le_refl _) (h.more hB) (h'.more hB')
  have HQ : Hid (∀ r ∈ [a, b], r.length ≤ 1048576) := by intro r hr; simp at hr; rcases hr with rfl | rfl <;> omega
  have HT := serM_two a b
  cases hs : areSer a b
  · have H := Lib.hid (mulSerA_no hs)
    rw [hs] at HT
    have HT' := Lib.hid HT
    clear HT hl hl'
    go_enter Try.func17, Try.ntmps17
    go_wp2_with (go_at_call 61; refine (areSeries_any _ 2 _ w.heap.size [a, b] _ rfl (by omega) HQ.out (by exact HM.out)).mono ?_; rintro e w' ⟨rfl, rfl⟩; rw [HT'.out])
    go_ret2
    exact ResL.nil H.out ((Below.refl _ _).alloc (Nat.le_refl _) _)
  · have H := Lib.hid (mulSerA_yes hs hl)
    obtain ⟨p1, p2, rfl, p4, p5⟩ := areSer_parts hs hl hl'
    rw [hs] at HT
    have HT' := Lib.hid HT
    have HL := Lib.hid hl
    have HL' := Lib.hid hl'
    have P4 := Lib.hid p4
    have P5 := Lib.hid p5
    clear HT hl hl' p4 p5 hs
    go_enter Try.func17, Try.ntmps17
    go_wp2_with fail
    refine (areSeries_any _ 2 _ w.heap.size [a, b] _ rfl (by omega) HQ.out (by exact HM.out)).mono ?_
    rintro e w' ⟨rfl, rfl⟩
    rw [HT'.out]
    have B1 : Below w.heap.size w (w.alloc (.cells #[.slice A n' c, .slice A' n' c'] 24)) := (Below.refl _ _).alloc (Nat.le_refl _) _
    go_wp2_with fail
    refine (seriesOf_any _ n' _ B a _ HL.out p2 P4.out (by simp; omega) (by exact h.below B1 hB)).mono ?_
    rintro e w1 ⟨rfl, b1⟩
    have B2 := B1.trans (b1.mono B1.size)
    clear b1
    go_wp2_with fail
    refine (seriesOf_any _ n' _ B' b _ HL'.out p2 P5.out (Nat.le_trans hB' B2.size) (by exact h'.below B2 hB')).mono ?_
    rintro e w2 ⟨rfl, b2⟩
    have B3 := B2.trans (b2.mono B2.size)
    clear b2
    go_wp2_with fail
    refine (timesS_any (cl 16 (co a)) (cl 16 (co b)) _ (cl_length _ _) (cl_length _ _) (cl_num _ _) (cl_num _ _)).mono ?_
    rintro e w3 ⟨rfl, b3⟩
    have B4 := B3.trans (b3.mono B3.size)
    clear b3
    go_wp2_with fail
    refine (listS_any (cv (co (cl 16 (co a))) (co (cl 16 (co b)))) n' _ p2).mono ?_
    rintro e w4 ⟨A4, c4, rfl, own4, b4⟩
    have HE : Hid (cl n' (cv (co (cl 16 (co a))) (co (cl 16 (co b)))) = cl n' (cv (co a) (co b))) := cl_cg (((co_cg 16 _).less p2).cv ((co_cg 16 _).less p2))
    have N := Lib.hid (NewRow.after B4 ⟨A4, c4, rfl, own4, b4⟩)
    clear own4 b4
    go_wp2
    go_ret2
    obtain ⟨A5, c5, e5, own5, b5⟩ := N.out
    cases e5
    exact ResL.of H.out (cl_length _ _) (by omega) (by rw [← HE.out]; exact own5) b5
end Go.Proofs.Ytjdanhjonjmccab
