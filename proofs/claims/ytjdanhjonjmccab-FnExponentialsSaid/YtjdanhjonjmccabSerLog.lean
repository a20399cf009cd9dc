/-
  What a logarithm answers, the program's and the model's alike.
-/
import Derived.Test.YtjdanhjonjmccabArr5
import Derived.Test.YtjdanhjonjmccabArr6
import Derived.Test.YtjdanhjonjmccabSerV
import Derived.Test.YtjdanhjonjmccabSerTest
namespace Go.Proofs.Ytjdanhjonjmccab
open Go.RowKit Fld Ser
set_option linter.unusedVariables false
set_option linter.unusedSimpArgs false
set_option maxRecDepth 100000

theorem log_same {n : Nat} {a M : List Int} (p1 : 1 ≤ n) (p2 : n ≤ 16) (h1 : co a 0 = 1) (h0 : co M 0 = 0) (h : IsLog 15 (co M) (co (cl 16 (co a)))) : Cg n (co M) (lgS n (co a)) := by
  have e1 : IsLog 15 (co M) (co a) := h.cg (Cg.refl _ _) (co_cg 16 _)
  have e2 : IsLog (n - 1) (co M) (co a) := ⟨e1.1, e1.2.less (by omega)⟩
  have e3 := IsLog.one (by omega) (by rw [h1]; exact Eqm.refl _) e2 (lgS_ok (by omega) (by omega) h1)
  rw [show n - 1 + 1 = n from by omega] at e3
  exact e3
def logSerA (a : List Int) : List Int × Int := if isSer a = true then (if co a 0 = 1 then (cl a.length (lgS a.length (co a)), 0) else ([], 5)) else ([], 1)
theorem logSerA_no1 {a : List Int} (hs : isSer a = false) : logSerA a = ([], 1) := if_neg (by rw [hs]; simp)
theorem logSerA_no5 {a : List Int} (hs : isSer a = true) (hq : co a 0 ≠ 1) : logSerA a = ([], 5) := (if_pos hs).trans (if_neg (fun h => hq h))
theorem logSerA_yes {a : List Int} {n : Nat} (hs : isSer a = true) (hq : co a 0 = 1) (hl : a.length = n) : logSerA a = (cl n (lgS n (co a)), 0) := by subst hl; exact (if_pos hs).trans (if_pos hq)
set_option maxHeartbeats 2000000 in
theorem pLogSeries_L (A : Option Addr) (n c B : Nat) (a : List Int) (w : World) (hl : a.length = n) (hn : n ≤ 1048576) (hB : B ≤ w.heap.size) (h : Row w B A (ints a)) :
    Calls Try.prog 26 #[.slice A n c] w (ResL (logSerA a) w) := by
  have HM : Hid (Lists (w.alloc (.cells #[.slice A n c] 24)) w.heap.size (some ⟨w.heap.size, 0, none⟩) [a]) := Lists.one _ hl (Nat.le_refl _) (h.more hB)
  have HQQ : Hid (∀ r ∈ [a], r.length ≤ 1048576) := by intro r hr; simp at hr; subst hr; omega
  have HT := serM_one a
  cases hs : isSer a
  · have H := Lib.hid (logSerA_no1 hs)
    rw [hs] at HT
    have HT' := Lib.hid HT
    clear HT hl
    go_enter Try.func26, Try.ntmps26
    go_wp2_with fail
    refine (areSeries_any _ 1 _ w.heap.size [a] _ rfl (by omega) HQQ.out (by exact HM.out)).mono ?_
    rintro e w' ⟨rfl, rfl⟩
    rw [HT'.out]
    go_wp2
    go_ret2
    exact ResL.nil H.out ((Below.refl _ _).alloc (Nat.le_refl _) _)
  · obtain ⟨p1, p2, p4⟩ := isSer_iff.1 hs
    rw [hl] at p1 p2
    rw [hs] at HT
    have HT' := Lib.hid HT
    obtain ⟨z, hz⟩ := at_lt (show 0 < a.length by omega)
    have ez := co_at hz
    obtain ⟨z0, z1⟩ := num_at p4 hz
    obtain ⟨b0, o0, rfl, hb0, hc⟩ := h 0 _ (ints_at hz)
    rw [Nat.add_zero] at hc
    by_cases hq : z = 1
    · have hq2 : co a 0 = 1 := by rw [ez]; exact hq
      have H := Lib.hid (logSerA_yes hs hq2 hl)
      have tz : (z != 1) = false := bne_f hq
      have HQ := Lib.hid hq2
      have HZ := Lib.hid hz
      have HL := Lib.hid hl
      have P4 := Lib.hid p4
      clear HT hl p4
      clear hq hq2 hz ez
      have B1 : Below w.heap.size w (w.alloc (.cells #[.slice (some ⟨b0, o0, none⟩) n c] 24)) := (Below.refl _ _).alloc (Nat.le_refl _) _
      have hc2 : (w.alloc (.cells #[.slice (some ⟨b0, o0, none⟩) n c] 24)).cell? ⟨b0, o0, none⟩ = some (.int .i64 z) := (B1.cell (p := ⟨b0, o0, none⟩) (by show b0 < w.heap.size; omega)).trans hc
      go_enter Try.func26, Try.ntmps26
      go_wp2_with fail
      refine (areSeries_any _ 1 _ w.heap.size [a] _ rfl (by omega) HQQ.out (by exact HM.out)).mono ?_
      rintro e w' ⟨rfl, rfl⟩
      rw [HT'.out]
      go_wp2_with fail
      refine (seriesOf_any _ n _ B a _ HL.out p2 P4.out (Nat.le_trans hB B1.size) (by exact h.below B1 hB)).mono ?_
      rintro e w2 ⟨rfl, b2⟩
      have B2 := B1.trans (b2.mono B1.size)
      clear b2
      have HZZ : Hid (co (cl 16 (co a)) 0 = 1) := by unfold Hid; rw [co_cl _ (by omega), HQ.out]; rfl
      go_wp2_with fail
      refine (logarithmS_any (cl 16 (co a)) _ (cl_length _ _) (cl_num _ _) (by rw [HZZ.out]; omega)).mono ?_
      rintro e w3 ⟨M, hM1, hM2, hM3, hM4, rfl, b3⟩
      have B3 := B2.trans (b3.mono B2.size)
      clear b3
      have HX := Lib.hid (log_same p1 p2 HQ.out hM3 hM4)
      have HLL : Hid (M = cl 16 (co M)) := (cl_co hM1 hM2).symm
      clear hM1 hM2 hM3 hM4
      rw [HLL.out]
      go_wp2_with fail
      refine (listS_any (co M) n _ p2).mono ?_
      rintro e w4 hN
      have HE : Hid (cl n (co M) = cl n (lgS n (co a))) := cl_cg HX.out
      rw [HE.out] at hN
      have N := Lib.hid (NewRow.after B3 hN)
      obtain ⟨A5, c5, rfl, _, _⟩ := hN
      go_wp2
      go_ret2
      obtain ⟨A6, c6, e6, own6, b6⟩ := N.out
      cases e6
      exact ResL.of H.out (cl_length _ _) (by omega) own6 b6
    · have hq2 : co a 0 ≠ 1 := by rw [ez]; exact hq
      have H := Lib.hid (logSerA_no5 hs hq2)
      have tz : (z != 1) = true := bne_t hq
      have HZ := Lib.hid hz
      have HL := Lib.hid hl
      have P4 := Lib.hid p4
      clear HT hl p4
      clear hq hq2 hz ez
      have B1 : Below w.heap.size w (w.alloc (.cells #[.slice (some ⟨b0, o0, none⟩) n c] 24)) := (Below.refl _ _).alloc (Nat.le_refl _) _
      have hc2 : (w.alloc (.cells #[.slice (some ⟨b0, o0, none⟩) n c] 24)).cell? ⟨b0, o0, none⟩ = some (.int .i64 z) := (B1.cell (p := ⟨b0, o0, none⟩) (by show b0 < w.heap.size; omega)).trans hc
      go_enter Try.func26, Try.ntmps26
      go_wp2_with fail
      refine (areSeries_any _ 1 _ w.heap.size [a] _ rfl (by omega) HQQ.out (by exact HM.out)).mono ?_
      rintro e w' ⟨rfl, rfl⟩
      rw [HT'.out]
      go_wp2
      go_ret2
      exact ResL.nil H.out (B1)
end Go.Proofs.Ytjdanhjonjmccab
