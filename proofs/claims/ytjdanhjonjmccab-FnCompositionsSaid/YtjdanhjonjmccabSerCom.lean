/-
  What a composition of series answers, the program's and the model's alike.
-/
import Derived.Test.YtjdanhjonjmccabArr5
import Derived.Test.YtjdanhjonjmccabArr6
import Derived.Test.YtjdanhjonjmccabSerV
import Derived.Test.YtjdanhjonjmccabSerTest
namespace Go.Proofs.Ytjdanhjonjmccab
open Go.RowKit Fld Ser
set_option linter.unusedVariables false
set_option linter.unusedSimpArgs false
set_option maxRecDepth 100000

def comSerA (a b : List Int) : List Int × Int := if areSer a b = true then (if co b 0 = 0 then (cl a.length (cmp (co a) (co b)), 0) else ([], 5)) else ([], 1)
theorem comSerA_no1 {a b : List Int} (hs : areSer a b = false) : comSerA a b = ([], 1) := if_neg (by rw [hs]; simp)
theorem comSerA_no5 {a b : List Int} (hs : areSer a b = true) (hq : co b 0 ≠ 0) : comSerA a b = ([], 5) := (if_pos hs).trans (if_neg (fun h => hq h))
theorem comSerA_yes {a b : List Int} {n : Nat} (hs : areSer a b = true) (hq : co b 0 = 0) (hl : a.length = n) : comSerA a b = (cl n (cmp (co a) (co b)), 0) := by subst hl; exact (if_pos hs).trans (if_pos hq)
set_option maxHeartbeats 2000000 in
theorem sComposeSeries_L (A A' : Option Addr) (n n' c c' B B' : Nat) (a b : List Int) (w : World) (hl : a.length = n) (hl' : b.length = n') (hn : n ≤ 1048576) (hn' : n' ≤ 1048576) (hB : B ≤ w.heap.size) (hB' : B' ≤ w.heap.size) (h : Row w B A (ints a)) (h' : Row w B' A' (ints b)) :
    Calls Try.prog 35 #[.slice A n c, .slice A' n' c'] w (ResL (comSerA a b) w) := by
  cases hs : areSer a b
  · have H := Lib.hid (comSerA_no1 hs)
    have HC := serCode_no hs
    have t : (serCode a b != 0) = true := bne_t (by rw [HC]; omega)
    have t2 : (serCode a b == 0) = false := beq_f (by rw [HC]; omega)
    have HC' := Lib.hid HC
    have HL := Lib.hid hl
    have HL' := Lib.hid hl'
    clear HC hl hl'
    go_enter Try.func35, Try.ntmps35
    go_wp2_with (go_at_call 65; refine (l02Code_any _ _ _ _ _ _ B B' a b _ HL.out HL'.out (by omega) (by omega) h h').mono ?_; rintro e w' ⟨rfl, rfl⟩)
    go_ret2
    rw [HC'.out]
    exact ResL.nil H.out (Below.refl _ _)
  · obtain ⟨p1, p2, rfl, p4, p5⟩ := areSer_parts hs hl hl'
    have HC := serCode_ok hs
    have t : (serCode a b != 0) = false := bne_f (by rw [HC])
    have t2 : (serCode a b == 0) = true := beq_t (by rw [HC])
    obtain ⟨z, hz⟩ := at_lt (show 0 < b.length by omega)
    have ez := co_at hz
    obtain ⟨z0, z1⟩ := num_at p5 hz
    obtain ⟨b0, o0, rfl, hb0, hc⟩ := h' 0 _ (ints_at hz)
    rw [Nat.add_zero] at hc
    by_cases hq : z = 0
    · have hq2 : co b 0 = 0 := by rw [ez]; exact hq
      have H := Lib.hid (comSerA_yes hs hq2 hl)
      have tz : (z != 0) = false := bne_f hq
      have HQ := Lib.hid hq2
      have HZ := Lib.hid hz
      have HL := Lib.hid hl
      have HL' := Lib.hid hl'
      have P4 := Lib.hid p4
      have P5 := Lib.hid p5
      clear hl p4 hl' p5 HC
      clear hq hq2 hz ez
      go_enter Try.func35, Try.ntmps35
      go_wp2_with fail
      refine (l02Code_any _ _ _ _ _ _ B B' a b _ HL.out HL'.out (by omega) (by omega) h h').mono ?_
      rintro e w' ⟨rfl, rfl⟩
      go_wp2_with fail
      refine (l02Compose_any _ _ n' _ _ B B' a b _ HL.out HL'.out (by omega) P4.out P5.out HQ.out hB hB' h h').mono ?_
      rintro e w1 hN
      have N := Lib.hid hN
      obtain ⟨A5, c5, rfl, _, _⟩ := hN
      go_wp2
      go_ret2
      obtain ⟨A6, c6, e6, own6, b6⟩ := N.out
      cases e6
      exact ResL.of H.out (cl_length _ _) (by omega) own6 b6
    · have hq2 : co b 0 ≠ 0 := by rw [ez]; exact hq
      have H := Lib.hid (comSerA_no5 hs hq2)
      have tz : (z != 0) = true := bne_t hq
      have HZ := Lib.hid hz
      have HL := Lib.hid hl
      have HL' := Lib.hid hl'
      have P4 := Lib.hid p4
      have P5 := Lib.hid p5
      clear hl p4 hl' p5 HC
      clear hq hq2 hz ez
      go_enter Try.func35, Try.ntmps35
      go_wp2_with fail
      refine (l02Code_any _ _ _ _ _ _ B B' a b _ HL.out HL'.out (by omega) (by omega) h h').mono ?_
      rintro e w' ⟨rfl, rfl⟩
      go_wp2
      go_ret2
      exact ResL.nil H.out (Below.refl _ _)
set_option maxHeartbeats 2000000 in
theorem pComposeSeries_L (A A' : Option Addr) (n n' c c' B B' : Nat) (a b : List Int) (w : World) (hl : a.length = n) (hl' : b.length = n') (hn : n ≤ 1048576) (hn' : n' ≤ 1048576) (hB : B ≤ w.heap.size) (hB' : B' ≤ w.heap.size) (h : Row w B A (ints a)) (h' : Row w B' A' (ints b)) :
    Calls Try.prog 33 #[.slice A n c, .slice A' n' c'] w (ResL (comSerA a b) w) := by
  have HM : Hid (Lists (w.alloc (.cells #[.slice A n c, .slice A' n' c'] 24)) w.heap.size (some ⟨w.heap.size, 0, none⟩) [a, b]) := Lists.two _ hl hl' (Nat.le_refl _) (h.more hB) (h'.more hB')
  have HQQ : Hid (∀ r ∈ [a, b], r.length ≤ 1048576) := by intro r hr; simp at hr; rcases hr with rfl | rfl <;> omega
  have HT := serM_two a b
  cases hs : areSer a b
  · have H := Lib.hid (comSerA_no1 hs)
    rw [hs] at HT
    have HT' := Lib.hid HT
    clear HT hl hl'
    go_enter Try.func33, Try.ntmps33
    go_wp2_with fail
    refine (areSeries_any _ 2 _ w.heap.size [a, b] _ rfl (by omega) HQQ.out (by exact HM.out)).mono ?_
    rintro e w' ⟨rfl, rfl⟩
    rw [HT'.out]
    go_wp2
    go_ret2
    exact ResL.nil H.out ((Below.refl _ _).alloc (Nat.le_refl _) _)
  · obtain ⟨p1, p2, rfl, p4, p5⟩ := areSer_parts hs hl hl'
    rw [hs] at HT
    have HT' := Lib.hid HT
    obtain ⟨z, hz⟩ := at_lt (show 0 < b.length by omega)
    have ez := co_at hz
    obtain ⟨z0, z1⟩ := num_at p5 hz
    obtain ⟨b0, o0, rfl, hb0, hc⟩ := h' 0 _ (ints_at hz)
    rw [Nat.add_zero] at hc
    by_cases hq : z = 0
    · have hq2 : co b 0 = 0 := by rw [ez]; exact hq
      have H := Lib.hid (comSerA_yes hs hq2 hl)
      have tz : (z != 0) = false := bne_f hq
      have HQ := Lib.hid hq2
      have HZ := Lib.hid hz
      have HL := Lib.hid hl
      have HL' := Lib.hid hl'
      have P4 := Lib.hid p4
      have P5 := Lib.hid p5
      clear HT hl p4 hl' p5
      clear hq hq2 hz ez
      have B1 : Below w.heap.size w (w.alloc (.cells #[.slice A n' c, .slice (some ⟨b0, o0, none⟩) n' c'] 24)) := (Below.refl _ _).alloc (Nat.le_refl _) _
      have hc2 : (w.alloc (.cells #[.slice A n' c, .slice (some ⟨b0, o0, none⟩) n' c'] 24)).cell? ⟨b0, o0, none⟩ = some (.int .i64 z) := (B1.cell (p := ⟨b0, o0, none⟩) (by show b0 < w.heap.size; omega)).trans hc
      go_enter Try.func33, Try.ntmps33
      go_wp2_with fail
      refine (areSeries_any _ 2 _ w.heap.size [a, b] _ rfl (by omega) HQQ.out (by exact HM.out)).mono ?_
      rintro e w' ⟨rfl, rfl⟩
      rw [HT'.out]
      go_wp2_with fail
      refine (seriesOf_any _ n' _ B a _ HL.out p2 P4.out (Nat.le_trans hB B1.size) (by exact h.below B1 hB)).mono ?_
      rintro e w2 ⟨rfl, b2⟩
      have B2 := B1.trans (b2.mono B1.size)
      clear b2
      go_wp2_with fail
      refine (seriesOf_any _ n' _ B' b _ HL'.out p2 P5.out (Nat.le_trans hB' B2.size) (by exact h'.below B2 hB')).mono ?_
      rintro e w3 ⟨rfl, b3⟩
      have B3 := B2.trans (b3.mono B2.size)
      clear b3
      go_wp2_with fail
      refine (atS_any (cl 16 (co a)) (cl 16 (co b)) _ (cl_length _ _) (cl_length _ _) (cl_num _ _) (cl_num _ _) (by rw [co_cl _ (by omega), HQ.out]; rfl)).mono ?_
      rintro e w4 ⟨rfl, b4⟩
      have B4 := B3.trans (b4.mono B3.size)
      clear b4
      go_wp2_with fail
      refine (listS_any (cmp (co (cl 16 (co a))) (co (cl 16 (co b)))) n' _ p2).mono ?_
      rintro e w5 hN
      have HE : Hid (cl n' (cmp (co (cl 16 (co a))) (co (cl 16 (co b)))) = cl n' (cmp (co a) (co b))) := cl_cg (Cg.cmp ((co_cg 16 _).less p2) ((co_cg 16 _).less p2))
      rw [HE.out] at hN
      have N := Lib.hid (NewRow.after B4 hN)
      obtain ⟨A5, c5, rfl, _, _⟩ := hN
      go_wp2
      go_ret2
      obtain ⟨A6, c6, e6, own6, b6⟩ := N.out
      cases e6
      exact ResL.of H.out (cl_length _ _) (by omega) own6 b6
    · have hq2 : co b 0 ≠ 0 := by rw [ez]; exact hq
      have H := Lib.hid (comSerA_no5 hs hq2)
      have tz : (z != 0) = true := bne_t hq
      have HZ := Lib.hid hz
      have HL := Lib.hid hl
      have HL' := Lib.hid hl'
      have P4 := Lib.hid p4
      have P5 := Lib.hid p5
      clear HT hl p4 hl' p5
      clear hq hq2 hz ez
      have B1 : Below w.heap.size w (w.alloc (.cells #[.slice A n' c, .slice (some ⟨b0, o0, none⟩) n' c'] 24)) := (Below.refl _ _).alloc (Nat.le_refl _) _
      have hc2 : (w.alloc (.cells #[.slice A n' c, .slice (some ⟨b0, o0, none⟩) n' c'] 24)).cell? ⟨b0, o0, none⟩ = some (.int .i64 z) := (B1.cell (p := ⟨b0, o0, none⟩) (by show b0 < w.heap.size; omega)).trans hc
      go_enter Try.func33, Try.ntmps33
      go_wp2_with fail
      refine (areSeries_any _ 2 _ w.heap.size [a, b] _ rfl (by omega) HQQ.out (by exact HM.out)).mono ?_
      rintro e w' ⟨rfl, rfl⟩
      rw [HT'.out]
      go_wp2
      go_ret2
      exact ResL.nil H.out (B1)
end Go.Proofs.Ytjdanhjonjmccab
