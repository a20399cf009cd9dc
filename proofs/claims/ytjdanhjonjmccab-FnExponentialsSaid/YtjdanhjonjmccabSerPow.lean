/-
  What a power answers, the program's and the model's alike.
-/
import Derived.Test.YtjdanhjonjmccabArr5
import Derived.Test.YtjdanhjonjmccabArr6
import Derived.Test.YtjdanhjonjmccabSerV
import Derived.Test.YtjdanhjonjmccabSerTest
import Derived.Test.YtjdanhjonjmccabSerLog
namespace Go.Proofs.Ytjdanhjonjmccab
open Go.RowKit Fld Ser
set_option linter.unusedVariables false
set_option linter.unusedSimpArgs false
set_option maxRecDepth 100000

def powSerA (a : List Int) (y : Int) : List Int × Int := if isSer a = true then (if isNum y = true then (if co a 0 = 1 then (cl a.length (xp (sc y (lgS a.length (co a)))), 0) else ([], 5)) else ([], 2)) else ([], 1)
theorem powSerA_no1 {a : List Int} {y : Int} (hs : isSer a = false) : powSerA a y = ([], 1) := if_neg (by rw [hs]; simp)
theorem powSerA_no2 {a : List Int} {y : Int} (hs : isSer a = true) (hy : isNum y = false) : powSerA a y = ([], 2) := (if_pos hs).trans (if_neg (by rw [hy]; simp))
theorem powSerA_no5 {a : List Int} {y : Int} (hs : isSer a = true) (hy : isNum y = true) (hq : co a 0 ≠ 1) : powSerA a y = ([], 5) := ((if_pos hs).trans (if_pos hy)).trans (if_neg (fun h => hq h))
theorem powSerA_yes {a : List Int} {y : Int} {n : Nat} (hs : isSer a = true) (hy : isNum y = true) (hq : co a 0 = 1) (hl : a.length = n) : powSerA a y = (cl n (xp (sc y (lgS n (co a)))), 0) := by subst hl; exact ((if_pos hs).trans (if_pos hy)).trans (if_pos hq)
set_option maxHeartbeats 2000000 in
theorem pPowerOfSeries_L (A : Option Addr) (n c B : Nat) (a : List Int) (y : Int) (w : World) (hl : a.length = n) (hn : n ≤ 1048576) (hB : B ≤ w.heap.size) (h : Row w B A (ints a)) (hy : -9223372036854775808 ≤ y ∧ y ≤ 9223372036854775807) :
    Calls Try.prog 28 #[.slice A n c, .int .i64 y] w (ResL (powSerA a y) w) := by
  have HM : Hid (Lists (w.alloc (.cells #[.slice A n c] 24)) w.heap.size (some ⟨w.heap.size, 0, none⟩) [a]) := Lists.one _ hl (Nat.le_refl _) (h.more hB)
  have HQQ : Hid (∀ r ∈ [a], r.length ≤ 1048576) := by intro r hr; simp at hr; subst hr; omega
  have HT := serM_one a
  cases hs : isSer a
  · have H := Lib.hid (powSerA_no1 (y := y) hs)
    rw [hs] at HT
    have HT' := Lib.hid HT
    clear HT hl
    go_enter Try.func28, Try.ntmps28
    go_wp2_with fail
    refine (areSeries_any _ 1 _ w.heap.size [a] _ rfl (by omega) HQQ.out (by exact HM.out)).mono ?_
    rintro e w' ⟨rfl, rfl⟩
    rw [HT'.out]
    go_wp2
    go_ret2
    exact ResL.nil H.out ((Below.refl _ _).alloc (Nat.le_refl _) _)
  · obtain ⟨p1, p2, p4⟩ := isSer_iff.1 hs
    rw [hl] at p1 p2
    rw [hs] at HT
    have HT' := Lib.hid HT
    cases hy2 : isNum y
    · have H := Lib.hid (powSerA_no2 hs hy2)
      have HL := Lib.hid hl
      have P4 := Lib.hid p4
      clear HT hl p4
      go_enter Try.func28, Try.ntmps28
      go_wp2_with fail
      refine (areSeries_any _ 1 _ w.heap.size [a] _ rfl (by omega) HQQ.out (by exact HM.out)).mono ?_
      rintro e w' ⟨rfl, rfl⟩
      rw [HT'.out]
      go_wp2_with fail
      refine (isNumber_any _ _).mono ?_
      rintro e w' ⟨rfl, rfl⟩
      rw [hy2]
      go_wp2
      go_ret2
      exact ResL.nil H.out ((Below.refl _ _).alloc (Nat.le_refl _) _)
    · obtain ⟨y0, y1⟩ := isNum_iff.1 hy2
      obtain ⟨z, hz⟩ := at_lt (show 0 < a.length by omega)
      have ez := co_at hz
      obtain ⟨z0, z1⟩ := num_at p4 hz
      obtain ⟨b0, o0, rfl, hb0, hc⟩ := h 0 _ (ints_at hz)
      rw [Nat.add_zero] at hc
      by_cases hq : z = 1
      · have hq2 : co a 0 = 1 := by rw [ez]; exact hq
        have H := Lib.hid (powSerA_yes hs hy2 hq2 hl)
        have tz : (z != 1) = false := bne_f hq
        have HQ := Lib.hid hq2
        have HZ := Lib.hid hz
        have HL := Lib.hid hl
        have P4 := Lib.hid p4
        clear HT hl p4
        clear hq hq2 hz ez
        have B1 : Below w.heap.size w (w.alloc (.cells #[.slice (some ⟨b0, o0, none⟩) n c] 24)) := (Below.refl _ _).alloc (Nat.le_refl _) _
        have hc2 : (w.alloc (.cells #[.slice (some ⟨b0, o0, none⟩) n c] 24)).cell? ⟨b0, o0, none⟩ = some (.int .i64 z) := (B1.cell (p := ⟨b0, o0, none⟩) (by show b0 < w.heap.size; omega)).trans hc
        go_enter Try.func28, Try.ntmps28
        go_wp2_with fail
        refine (areSeries_any _ 1 _ w.heap.size [a] _ rfl (by omega) HQQ.out (by exact HM.out)).mono ?_
        rintro e w' ⟨rfl, rfl⟩
        rw [HT'.out]
        go_wp2_with fail
        refine (isNumber_any _ _).mono ?_
        rintro e w' ⟨rfl, rfl⟩
        rw [hy2]
        go_wp2_with fail
        refine (exponential_any _).mono ?_
        rintro e w2 ⟨rfl, b2⟩
        have B2 := B1.trans (b2.mono B1.size)
        clear b2
        go_wp2_with fail
        refine (seriesOf_any _ n _ B a _ HL.out p2 P4.out (Nat.le_trans hB B2.size) (by exact h.below B2 hB)).mono ?_
        rintro e w3 ⟨rfl, b3⟩
        have B3 := B2.trans (b3.mono B2.size)
        clear b3
        have HZZ : Hid (co (cl 16 (co a)) 0 = 1) := by unfold Hid; rw [co_cl _ (by omega), HQ.out]; rfl
        go_wp2_with fail
        refine (logarithmS_any (cl 16 (co a)) _ (cl_length _ _) (cl_num _ _) (by rw [HZZ.out]; omega)).mono ?_
        rintro e w4 ⟨M, hM1, hM2, hM3, hM4, rfl, b4⟩
        have B4 := B3.trans (b4.mono B3.size)
        clear b4
        have HX := Lib.hid (log_same p1 p2 HQ.out hM3 hM4)
        have HM1 := Lib.hid hM1
        have HM2 := Lib.hid hM2
        have HM3 := Lib.hid hM3
        clear hM1 hM2 hM3 hM4
        go_wp2_with fail
        refine (multipleS_any M y _ HM1.out HM2.out y0 y1).mono ?_
        rintro e w5 ⟨rfl, b5⟩
        have B5 := B4.trans (b5.mono B4.size)
        clear b5
        go_wp2_with fail
        refine (atS_any (cl 16 ex) (cl 16 (sc y (co M))) _ (cl_length _ _) (cl_length _ _) (cl_num _ _) (cl_num _ _) (by rw [co_cl _ (by omega)]; show y * co M 0 % 10007 = 0; rw [HM3.out]; simp)).mono ?_
        rintro e w6 ⟨rfl, b6⟩
        have B6 := B5.trans (b6.mono B5.size)
        clear b6
        go_wp2_with fail
        refine (listS_any (cmp (co (cl 16 ex)) (co (cl 16 (sc y (co M))))) n _ p2).mono ?_
        rintro e w7 hN
        have HE : Hid (cl n (cmp (co (cl 16 ex)) (co (cl 16 (sc y (co M))))) = cl n (xp (sc y (lgS n (co a))))) := cl_cg (Cg.cmp ((co_cg 16 _).less p2) (((co_cg 16 _).less p2).trans (Cg.sc (Eqm.refl _) HX.out)))
        rw [HE.out] at hN
        have N := Lib.hid (NewRow.after B6 hN)
        obtain ⟨A5, c5, rfl, _, _⟩ := hN
        go_wp2
        go_ret2
        obtain ⟨A6, c6, e6, own6, b6⟩ := N.out
        cases e6
        exact ResL.of H.out (cl_length _ _) (by omega) own6 b6
      · have hq2 : co a 0 ≠ 1 := by rw [ez]; exact hq
        have H := Lib.hid (powSerA_no5 hs hy2 hq2)
        have tz : (z != 1) = true := bne_t hq
        have HZ := Lib.hid hz
        have HL := Lib.hid hl
        have P4 := Lib.hid p4
        clear HT hl p4
        clear hq hq2 hz ez
        have B1 : Below w.heap.size w (w.alloc (.cells #[.slice (some ⟨b0, o0, none⟩) n c] 24)) := (Below.refl _ _).alloc (Nat.le_refl _) _
        have hc2 : (w.alloc (.cells #[.slice (some ⟨b0, o0, none⟩) n c] 24)).cell? ⟨b0, o0, none⟩ = some (.int .i64 z) := (B1.cell (p := ⟨b0, o0, none⟩) (by show b0 < w.heap.size; omega)).trans hc
        go_enter Try.func28, Try.ntmps28
        go_wp2_with fail
        refine (areSeries_any _ 1 _ w.heap.size [a] _ rfl (by omega) HQQ.out (by exact HM.out)).mono ?_
        rintro e w' ⟨rfl, rfl⟩
        rw [HT'.out]
        go_wp2_with fail
        refine (isNumber_any _ _).mono ?_
        rintro e w' ⟨rfl, rfl⟩
        rw [hy2]
        go_wp2
        go_ret2
        exact ResL.nil H.out (B1)
end Go.Proofs.Ytjdanhjonjmccab
