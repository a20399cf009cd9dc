/-
  What an exponential answers, the program's and the model's alike.
-/
import Derived.Test.YtjdanhjonjmccabArr5
import Derived.Test.YtjdanhjonjmccabArr6
import Derived.Test.YtjdanhjonjmccabSerV
import Derived.Test.YtjdanhjonjmccabSerTest
namespace Go.Proofs.Ytjdanhjonjmccab
open Go.RowKit Fld Ser
set_option linter.unusedVariables false
set_option linter.unusedSimpArgs false
set_option maxRecDepth 100000

def expSerA (a : List Int) : List Int × Int := if isSer a = true then (if co a 0 = 0 then (cl a.length (xp (co a)), 0) else ([], 5)) else ([], 1)
theorem expSerA_no1 {a : List Int} (hs : isSer a = false) : expSerA a = ([], 1) := if_neg (by rw [hs]; simp)
theorem expSerA_no5 {a : List Int} (hs : isSer a = true) (hq : co a 0 ≠ 0) : expSerA a = ([], 5) := (if_pos hs).trans (if_neg (fun h => hq h))
theorem expSerA_yes {a : List Int} {n : Nat} (hs : isSer a = true) (hq : co a 0 = 0) (hl : a.length = n) : expSerA a = (cl n (xp (co a)), 0) := by subst hl; exact (if_pos hs).trans (if_pos hq)
set_option maxHeartbeats 2000000 in
theorem sExpSeries_L (A : Option Addr) (n c B : Nat) (a : List Int) (w : World) (hl : a.length = n) (hn : n ≤ 1048576) (hB : B ≤ w.heap.size) (h : Row w B A (ints a)) :
    Calls Try.prog 23 #[.slice A n c] w (ResL (expSerA a) w) := by
  cases hs : isSer a
  · have H := Lib.hid (expSerA_no1 hs)
    have HL := Lib.hid hl
    clear hl
    go_enter Try.func23, Try.ntmps23
    go_wp2_with fail
    refine (l02Is_any _ _ _ B a _ HL.out (by omega) h).mono ?_
    rintro e w' ⟨rfl, rfl⟩
    rw [hs]
    go_wp2
    go_ret2
    exact ResL.nil H.out (Below.refl _ _)
  · obtain ⟨p1, p2, p4⟩ := isSer_iff.1 hs
    rw [hl] at p1 p2
    obtain ⟨z, hz⟩ := at_lt (show 0 < a.length by omega)
    have ez := co_at hz
    obtain ⟨z0, z1⟩ := num_at p4 hz
    obtain ⟨b0, o0, rfl, hb0, hc⟩ := h 0 _ (ints_at hz)
    rw [Nat.add_zero] at hc
    by_cases hq : z = 0
    · have hq2 : co a 0 = 0 := by rw [ez]; exact hq
      have H := Lib.hid (expSerA_yes hs hq2 hl)
      have tz : (z != 0) = false := bne_f hq
      have HQ := Lib.hid hq2
      have HZ := Lib.hid hz
      have HL := Lib.hid hl
      have P4 := Lib.hid p4
      clear hl p4
      clear hq hq2 hz ez
      go_enter Try.func23, Try.ntmps23
      go_wp2_with fail
      refine (l02Is_any _ _ _ B a _ HL.out (by omega) h).mono ?_
      rintro e w' ⟨rfl, rfl⟩
      rw [hs]
      go_wp2_with fail
      refine (l02Exp_any _ n _ B a _ HL.out (by omega) P4.out HQ.out hB h).mono ?_
      rintro e w1 hN
      have N := Lib.hid hN
      obtain ⟨A5, c5, rfl, _, _⟩ := hN
      go_wp2
      go_ret2
      obtain ⟨A6, c6, e6, own6, b6⟩ := N.out
      cases e6
      exact ResL.of H.out (cl_length _ _) (by omega) own6 b6
    · have hq2 : co a 0 ≠ 0 := by rw [ez]; exact hq
      have H := Lib.hid (expSerA_no5 hs hq2)
      have tz : (z != 0) = true := bne_t hq
      have HZ := Lib.hid hz
      have HL := Lib.hid hl
      have P4 := Lib.hid p4
      clear hl p4
      clear hq hq2 hz ez
      go_enter Try.func23, Try.ntmps23
      go_wp2_with fail
      refine (l02Is_any _ _ _ B a _ HL.out (by omega) h).mono ?_
      rintro e w' ⟨rfl, rfl⟩
      rw [hs]
      go_wp2
      go_ret2
      exact ResL.nil H.out (Below.refl _ _)
set_option maxHeartbeats 2000000 in
theorem pExpSeries_L (A : Option Addr) (n c B : Nat) (a : List Int) (w : World) (hl : a.length = n) (hn : n ≤ 1048576) (hB : B ≤ w.heap.size) (h : Row w B A (ints a)) :
    Calls Try.prog 22 #[.slice A n c] w (ResL (expSerA a) w) := by
  have HM : Hid (Lists (w.alloc (.cells #[.slice A n c] 24)) w.heap.size (some ⟨w.heap.size, 0, none⟩) [a]) := Lists.one _ hl (Nat.le_refl _) (h.more hB)
  have HQQ : Hid (∀ r ∈ [a], r.length ≤ 1048576) := by intro r hr; simp at hr; subst hr; omega
  have HT := serM_one a
  cases hs : isSer a
  · have H := Lib.hid (expSerA_no1 hs)
    rw [hs] at HT
    have HT' := Lib.hid HT
    clear HT hl
    go_enter Try.func22, Try.ntmps22
    go_wp2_with fail
    refine (areSeries_any _ 1 _ w.heap.size [a] _ rfl (by omega) HQQ.out (by exact HM.out)).mono ?_
    rintro e w' ⟨rfl, rfl⟩
    rw [HT'.out]
    go_wp2
    go_ret2
    exact ResL.nil H.out ((Below.refl _ _).alloc (Nat.le_refl _) _)
  · obtain ⟨p1, p2, p4⟩ := isSer_iff.1 hs
    rw [hl] at p1 p2
    rw [hs] at HT
    have HT' := Lib.hid HT
    obtain ⟨z, hz⟩ := at_lt (show 0 < a.length by omega)
    have ez := co_at hz
    obtain ⟨z0, z1⟩ := num_at p4 hz
    obtain ⟨b0, o0, rfl, hb0, hc⟩ := h 0 _ (ints_at hz)
    rw [Nat.add_zero] at hc
    by_cases hq : z = 0
    · have hq2 : co a 0 = 0 := by rw [ez]; exact hq
      have H := Lib.hid (expSerA_yes hs hq2 hl)
      have tz : (z != 0) = false := bne_f hq
      have HQ := Lib.hid hq2
      have HZ := Lib.hid hz
      have HL := Lib.hid hl
      have P4 := Lib.hid p4
      clear HT hl p4
      clear hq hq2 hz ez
      have B1 : Below w.heap.size w (w.alloc (.cells #[.slice (some ⟨b0, o0, none⟩) n c] 24)) := (Below.refl _ _).alloc (Nat.le_refl _) _
      have hc2 : (w.alloc (.cells #[.slice (some ⟨b0, o0, none⟩) n c] 24)).cell? ⟨b0, o0, none⟩ = some (.int .i64 z) := (B1.cell (p := ⟨b0, o0, none⟩) (by show b0 < w.heap.size; omega)).trans hc
      go_enter Try.func22, Try.ntmps22
      go_wp2_with fail
      refine (areSeries_any _ 1 _ w.heap.size [a] _ rfl (by omega) HQQ.out (by exact HM.out)).mono ?_
      rintro e w' ⟨rfl, rfl⟩
      rw [HT'.out]
      go_wp2_with fail
      refine (exponential_any _).mono ?_
      rintro e w2 ⟨rfl, b2⟩
      have B2 := B1.trans (b2.mono B1.size)
      clear b2
      go_wp2_with fail
      refine (seriesOf_any _ n _ B a _ HL.out p2 P4.out (Nat.le_trans hB B2.size) (by exact h.below B2 hB)).mono ?_
      rintro e w3 ⟨rfl, b3⟩
      have B3 := B2.trans (b3.mono B2.size)
      clear b3
      go_wp2_with fail
      refine (atS_any (cl 16 ex) (cl 16 (co a)) _ (cl_length _ _) (cl_length _ _) (cl_num _ _) (cl_num _ _) (by rw [co_cl _ (by omega), HQ.out]; rfl)).mono ?_
      rintro e w4 ⟨rfl, b4⟩
      have B4 := B3.trans (b4.mono B3.size)
      clear b4
      go_wp2_with fail
      refine (listS_any (cmp (co (cl 16 ex)) (co (cl 16 (co a)))) n _ p2).mono ?_
      rintro e w5 hN
      have HE : Hid (cl n (cmp (co (cl 16 ex)) (co (cl 16 (co a)))) = cl n (xp (co a))) := cl_cg (Cg.cmp ((co_cg 16 _).less p2) ((co_cg 16 _).less p2))
      rw [HE.out] at hN
      have N := Lib.hid (NewRow.after B4 hN)
      obtain ⟨A5, c5, rfl, _, _⟩ := hN
      go_wp2
      go_ret2
      obtain ⟨A6, c6, e6, own6, b6⟩ := N.out
      cases e6
      exact ResL.of H.out (cl_length _ _) (by omega) own6 b6
    · have hq2 : co a 0 ≠ 0 := by rw [ez]; exact hq
      have H := Lib.hid (expSerA_no5 hs hq2)
      have tz : (z != 0) = true := bne_t hq
      have HZ := Lib.hid hz
      have HL := Lib.hid hl
      have P4 := Lib.hid p4
      clear HT hl p4
      clear hq hq2 hz ez
      have B1 : Below w.heap.size w (w.alloc (.cells #[.slice (some ⟨b0, o0, none⟩) n c] 24)) := (Below.refl _ _).alloc (Nat.le_refl _) _
      have hc2 : (w.alloc (.cells #[.slice (some ⟨b0, o0, none⟩) n c] 24)).cell? ⟨b0, o0, none⟩ = some (.int .i64 z) := (B1.cell (p := ⟨b0, o0, none⟩) (by show b0 < w.heap.size; omega)).trans hc
      go_enter Try.func22, Try.ntmps22
      go_wp2_with fail
      refine (areSeries_any _ 1 _ w.heap.size [a] _ rfl (by omega) HQQ.out (by exact HM.out)).mono ?_
      rintro e w' ⟨rfl, rfl⟩
      rw [HT'.out]
      go_wp2
      go_ret2
      exact ResL.nil H.out (B1)
end Go.Proofs.Ytjdanhjonjmccab
