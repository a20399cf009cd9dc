/-
  What ParseTree answers, the program's and the model's.
-/
import Derived.Test.YtgicbmfcojfjcaaReadX
import Derived.Test.YtgicbmfcojfjcaaRes1
namespace Go.Proofs.Ytgicbmfcojfjcaa
open Go.RowKit Fld
set_option linter.unusedVariables false
set_option linter.unusedSimpArgs false
set_option maxRecDepth 100000

def parseTB (s : List UInt8) : List Int × Int := if (Tr.rdL [] 0 s).2 = true ∧ (Tr.rdL [] 0 s).1.length = 1 ∧ isTr ((Tr.rdL [] 0 s).1.getD 0 []) = true then ((Tr.rdL [] 0 s).1.getD 0 [], 0) else ([], 6)
def parseTA (S : ByteArray) : List Int × Int := parseTB S.data.toList
theorem parseT_yes {s : List UInt8} {t : List Int} (h : (Tr.rdL [] 0 s).2 = true) (h1 : (Tr.rdL [] 0 s).1 = [t]) (h2 : isTr t = true) : parseTB s = (t, 0) := by
  unfold parseTB; rw [h1]; rw [if_pos ⟨h, rfl, h2⟩]; rfl
theorem parseT_no {s : List UInt8} (h : (Tr.rdL [] 0 s).2 = false) : parseTB s = ([], 6) := by
  unfold parseTB; rw [if_neg (fun e => by rw [h] at e; cases e.1)]
theorem parseT_len {s : List UInt8} (h : (Tr.rdL [] 0 s).1.length ≠ 1) : parseTB s = ([], 6) := by
  unfold parseTB; rw [if_neg (fun e => h e.2.1)]
theorem parseT_bad {s : List UInt8} {t : List Int} (h1 : (Tr.rdL [] 0 s).1 = [t]) (h2 : isTr t = false) : parseTB s = ([], 6) := by
  unfold parseTB; rw [h1]; rw [if_neg (fun e => by rw [show [t].getD 0 [] = t from rfl, h2] at e; cases e.2.2)]
theorem for_one (t : List Int) : isFor [t] = isTr t := by
  cases h : isTr t
  · exact isFor_no (okTo_no (k := 0) (okAt_false (r := t) rfl h) (by simp))
  · have h8 := (lv_bd (tr_lv h).1).2
    unfold isFor
    rw [show [t].length = 0 + 1 from rfl, okTo_step, okAt_zero (r := t) rfl h]
    have : total [t] ≤ 8 := by simpa [total] using h8
    rw [decide_eq_true this]; rfl
/-- what ParseForest says tells what ParseTree says -/
theorem parseT_of (s : List UInt8) : ((parseFB s).2 = 0 ∧ ∃ t, (parseFB s).1 = [t] ∧ parseTB s = (t, 0)) ∨ (((parseFB s).2 ≠ 0 ∨ (parseFB s).1.length ≠ 1) ∧ parseTB s = ([], 6)) := by
  by_cases hd : s = [45]
  · refine .inr ⟨.inr ?_, ?_⟩
    · rw [parseF_dash hd]; simp
    · exact parseT_no (by subst hd; rfl)
  · cases h2 : (Tr.rdL [] 0 s).2
    · exact .inr ⟨.inl (by rw [parseF_no hd h2]; simp), parseT_no h2⟩
    · by_cases h3 : (Tr.rdL [] 0 s).1.length = 1
      · obtain ⟨t, ht⟩ := List.length_eq_one_iff.1 h3
        have h4 : (Tr.rdL [] 0 s).1 ≠ [] := by rw [ht]; simp
        cases h5 : isTr t
        · refine .inr ⟨.inl ?_, parseT_bad ht h5⟩
          rw [parseF_bad hd (by rw [ht, for_one, h5])]; simp
        · have e := parseF_yes hd h2 h4 (by rw [ht, for_one, h5])
          refine .inl ⟨by rw [e], t, by rw [e]; exact ht, parseT_yes h2 ht h5⟩
      · refine .inr ⟨?_, parseT_len h3⟩
        by_cases h4 : (Tr.rdL [] 0 s).1 = []
        · exact .inl (by rw [parseF_nil hd h4]; simp)
        · cases h5 : isFor (Tr.rdL [] 0 s).1
          · exact .inl (by rw [parseF_bad hd h5]; simp)
          · exact .inr (by rw [parseF_yes hd h2 h4 h5]; exact h3)
set_option maxHeartbeats 1000000 in
theorem pParseTree_L (S : ByteArray) (w : World) (hn : S.size ≤ 1048576) : Calls Try.prog 27 #[.string S] w (ResL (parseTA S) w) := by
  have C0 := pParseForest_L S w hn
  unfold parseTA
  rcases parseT_of S.data.toList with ⟨h1, t, h2, h3⟩ | ⟨h1, h3⟩
  · have G := Lib.hid h3
    unfold parseFA at C0
    obtain ⟨R, hR⟩ : ∃ R, R = parseFB S.data.toList := ⟨_, rfl⟩
    rw [← hR] at C0 h1 h2
    obtain ⟨m, k⟩ := R
    simp only at h1 h2
    subst h1 h2
    clear h3 hR hn
    go_enter Try.func27, Try.ntmps27
    go_wp2_with fail
    refine C0.mono ?_
    rintro e w1 ⟨z, A1, c1, vs1, rfl, own1, bel1⟩
    change OwnMat w1 w.heap.size w1.heap.size (.slice A1 1 c1) 1 [t] vs1 at own1
    obtain ⟨At, ct, ev, ot⟩ := own1.inner 0 t rfl
    obtain ⟨g, cap, hv⟩ := own_form own1.outer.1 (by omega)
    injection hv with hA _ hcp
    subst hA hcp
    have hcell := own1.outer.1.cellAt 0 (by omega)
    rw [ev] at hcell
    have GB := Lib.hid bel1
    have GO := Lib.hid (ot.more (Nat.le_refl _) (Nat.le_refl _))
    have GN : Hid (t.length ≤ 1048576) := by rw [Hid]; simp [total] at z; omega
    clear own1 bel1 z C0 ev ot
    go_wp2
    go_ret2
    exact ResL.of G.out rfl GN.out GO.out.1 GB.out
  · have G := Lib.hid h3
    unfold parseFA at C0
    obtain ⟨R, hR⟩ : ∃ R, R = parseFB S.data.toList := ⟨_, rfl⟩
    rw [← hR] at C0 h1
    obtain ⟨m, k⟩ := R
    simp only at h1
    clear h3 hR hn
    by_cases hk : k = 0
    · subst hk
      have hm : m.length ≠ 1 := by
        rcases h1 with h1 | h1
        · exact absurd rfl h1
        · exact h1
      have tm := beq_f (show ¬ (m.length : Int) = 1 by omega)
      clear h1
      go_enter Try.func27, Try.ntmps27
      go_wp2_with fail
      refine C0.mono ?_
      rintro e w1 ⟨z, A1, c1, vs1, rfl, own1, bel1⟩
      have GB := Lib.hid bel1
      clear own1 bel1 C0 hm
      simp only at z ⊢
      obtain ⟨q, hq⟩ : ∃ q, q = m.length := ⟨_, rfl⟩
      rw [← hq] at tm z ⊢
      have hq1 : q ≤ 1048576 := by omega
      clear hq z
      go_wp2
      go_ret2
      exact ResL.nil G.out GB.out
    · have tk := beq_f hk
      clear h1
      go_enter Try.func27, Try.ntmps27
      go_wp2_with fail
      refine C0.mono ?_
      rintro e w1 ⟨z, A1, c1, vs1, rfl, own1, bel1⟩
      have GB := Lib.hid bel1
      clear own1 bel1 C0 z hk
      go_wp2
      go_ret2
      exact ResL.nil G.out GB.out
set_option maxHeartbeats 1000000 in
theorem sParseTree_L (S : ByteArray) (w : World) (hn : S.size ≤ 1048576) : Calls Try.prog 26 #[.string S] w (ResL (parseTA S) w) := by
  obtain ⟨s, hs⟩ : ∃ s, s = S.data.toList := ⟨_, rfl⟩
  have hS : S = ⟨s.toArray⟩ := by rw [hs]
  have hsl : s.length ≤ 1048576 := by rw [← size_S s, ← hS]; exact hn
  have C0 := l03Read_any s w hsl
  rw [← hS] at C0
  unfold parseTA
  rw [← hs]
  cases h2 : (Tr.rdL [] 0 s).2
  · have G := Lib.hid (parseT_no h2)
    rw [h2] at C0
    clear hs hS hsl h2
    go_enter Try.func26, Try.ntmps26
    go_wp2_with fail
    refine C0.mono ?_
    rintro e w1 ⟨A1, q1, c1, vs1, rfl, own1, bel1⟩
    have GB := Lib.hid bel1
    clear own1 bel1
    go_wp2
    go_ret2
    exact ResL.nil G.out GB.out
  · have hbd := Tr.rd_bd h2
    rw [h2] at C0
    by_cases h3 : (Tr.rdL [] 0 s).1.length = 1
    · obtain ⟨t, ht⟩ := List.length_eq_one_iff.1 h3
      rw [ht] at C0
      have htl : t.length ≤ 1048576 := by rw [ht] at hbd; simp [Tr.total'] at hbd; omega
      have C1 := fun A n c B w hl hn hB h => sIsTree_L A n c B t w hl hn hB h
      cases h5 : isTr t
      · have G := Lib.hid (parseT_bad ht h5)
        simp only [h5] at C1
        clear hs hS hsl h2 hbd h3 ht h5
        go_enter Try.func26, Try.ntmps26
        go_wp2_with fail
        refine C0.mono ?_
        rintro e w1 ⟨A1, q1, c1, vs1, rfl, own1, bel1⟩
        have e0 : q1 = 1 := own1.size.symm
        subst e0
        obtain ⟨At, ct, ev, ot⟩ := own1.inner 0 t rfl
        obtain ⟨g, cap, hv⟩ := own_form own1.outer.1 (by omega)
        injection hv with hA _ hcp
        subst hA hcp
        have hcell := own1.outer.1.cellAt 0 (by omega)
        rw [ev] at hcell
        have GB1 := Lib.hid bel1
        have hs1 := bel1.size
        have GR := Lib.hid ot.row
        clear own1 bel1 ev ot C0
        go_wp2_with fail
        refine (C1 _ _ _ _ _ rfl htl (Nat.le_refl _) GR.out).mono ?_
        rintro e w2 ⟨rfl, bel2⟩
        have GB := Lib.hid (GB1.out.trans (bel2.mono hs1))
        clear bel2 C1
        go_wp2
        go_ret2
        exact ResL.nil G.out GB.out
      · have G := Lib.hid (parseT_yes h2 ht h5)
        simp only [h5] at C1
        clear hs hS hsl h2 hbd h3 ht h5
        go_enter Try.func26, Try.ntmps26
        go_wp2_with fail
        refine C0.mono ?_
        rintro e w1 ⟨A1, q1, c1, vs1, rfl, own1, bel1⟩
        have e0 : q1 = 1 := own1.size.symm
        subst e0
        obtain ⟨At, ct, ev, ot⟩ := own1.inner 0 t rfl
        obtain ⟨g, cap, hv⟩ := own_form own1.outer.1 (by omega)
        injection hv with hA _ hcp
        subst hA hcp
        have hcell := own1.outer.1.cellAt 0 (by omega)
        rw [ev] at hcell
        have GB1 := Lib.hid bel1
        have hs1 := bel1.size
        have GR := Lib.hid ot.row
        have GO1 := Lib.hid ot
        have hgl := lt_of_cell hcell
        clear own1 bel1 ev ot C0
        go_wp2_with fail
        refine (C1 _ _ _ _ _ rfl htl (Nat.le_refl _) GR.out).mono ?_
        rintro e w2 ⟨rfl, bel2⟩
        have hcell2 := (bel2.cell (p := ⟨g, 0, none⟩) hgl).trans hcell
        have GB := Lib.hid (GB1.out.trans (bel2.mono hs1))
        have GO := Lib.hid ((GO1.out.below bel2 (Nat.le_refl _)).more (Nat.le_refl _) bel2.size)
        clear bel2 C1 hcell
        go_wp2
        go_ret2
        exact ResL.of G.out rfl htl GO.out.1 GB.out
    · have G := Lib.hid (parseT_len h3)
      obtain ⟨m, hm⟩ : ∃ m, m = (Tr.rdL [] 0 s).1 := ⟨_, rfl⟩
      have hml : m.length ≤ 1048576 := by rw [hm]; omega
      rw [← hm] at C0 h3
      have H3 := Lib.hid h3
      clear hs hS hsl h2 hbd h3 hm
      go_enter Try.func26, Try.ntmps26
      go_wp2_with fail
      refine C0.mono ?_
      rintro e w1 ⟨A1, q1, c1, vs1, rfl, own1, bel1⟩
      have e0 := own1.size
      have tq := beq_f (show ¬ (q1 : Int) = 1 by have := H3.out; omega)
      have hq1 : q1 ≤ 1048576 := by omega
      have GB := Lib.hid bel1
      clear own1 bel1 e0 C0
      have tq2 : ¬ (q1 : Int) = 1 := fun e => by rw [e] at tq; cases tq
      clear tq
      go_wp2
      go_ret2
      exact ResL.nil G.out GB.out
end Go.Proofs.Ytgicbmfcojfjcaa
