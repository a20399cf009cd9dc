/-
  What ParseForest answers, the program's and the model's.
-/
import Derived.Test.YtgicbmfcojfjcaaRead
import Derived.Test.YtgicbmfcojfjcaaIn
import Derived.Test.YtgicbmfcojfjcaaLists
import Derived.Test.YtgicbmfcojfjcaaForestS
import Derived.Test.YtgicbmfcojfjcaaResM
namespace Go.Proofs.Ytgicbmfcojfjcaa
open Go.RowKit Fld
set_option linter.unusedVariables false
set_option linter.unusedSimpArgs false
set_option maxRecDepth 100000

/-- what is read of a text -/
def parseFB (s : List UInt8) : List (List Int) × Int := if s = [45] then ([], 0) else if (Tr.rdL [] 0 s).2 = true ∧ (Tr.rdL [] 0 s).1 ≠ [] ∧ isFor (Tr.rdL [] 0 s).1 = true then ((Tr.rdL [] 0 s).1, 0) else ([], 6)
def parseFA (S : ByteArray) : List (List Int) × Int := parseFB S.data.toList
theorem parseF_dash {s : List UInt8} (h : s = [45]) : parseFB s = ([], 0) := if_pos h
theorem parseF_no {s : List UInt8} (h : s ≠ [45]) (h2 : (Tr.rdL [] 0 s).2 = false) : parseFB s = ([], 6) := by
  unfold parseFB; rw [if_neg h, if_neg (fun e => by rw [h2] at e; cases e.1)]
theorem parseF_nil {s : List UInt8} (h : s ≠ [45]) (h2 : (Tr.rdL [] 0 s).1 = []) : parseFB s = ([], 6) := by
  unfold parseFB; rw [if_neg h, if_neg (fun e => e.2.1 h2)]
theorem parseF_bad {s : List UInt8} (h : s ≠ [45]) (h2 : isFor (Tr.rdL [] 0 s).1 = false) : parseFB s = ([], 6) := by
  unfold parseFB; rw [if_neg h, if_neg (fun e => by rw [h2] at e; cases e.2.2)]
theorem parseF_yes {s : List UInt8} (h : s ≠ [45]) (h2 : (Tr.rdL [] 0 s).2 = true) (h3 : (Tr.rdL [] 0 s).1 ≠ []) (h4 : isFor (Tr.rdL [] 0 s).1 = true) : parseFB s = ((Tr.rdL [] 0 s).1, 0) := by
  unfold parseFB; rw [if_neg h, if_pos ⟨h2, h3, h4⟩]
theorem total_eq (f : List (List Int)) : total f = Tr.total' f := rfl
theorem str_of (S : ByteArray) : S = ⟨S.data.toList.toArray⟩ := by
  apply ByteArray.ext; simp
set_option maxHeartbeats 1000000 in
theorem sParseForest_L (S : ByteArray) (w : World) (hn : S.size ≤ 1048576) : Calls Try.prog 31 #[.string S] w (ResM (parseFA S) w) := by
  obtain ⟨s, hs⟩ : ∃ s, s = S.data.toList := ⟨_, rfl⟩
  have hS : S = ⟨s.toArray⟩ := by rw [hs]
  have hsl : s.length ≤ 1048576 := by rw [← size_S s, ← hS]; exact hn
  have C0 := l03Read_any s w hsl
  rw [← hS] at C0
  unfold parseFA
  rw [← hs]
  obtain ⟨R, hR⟩ : ∃ R, R = Tr.rdL [] 0 s := ⟨_, rfl⟩
  have HBD := fun h : (Tr.rdL [] 0 s).2 = true => Tr.rd_bd h
  by_cases hd : s = [45]
  · have G := Lib.hid (parseF_dash hd)
    have hr2 : (Tr.rdL [] 0 s).2 = false := by subst hd; rfl
    rw [hr2] at C0
    have hSS : S = ⟨#[45]⟩ := by rw [hS, hd]
    clear HBD hR hs hS hr2 hsl hn hd
    subst hSS
    go_enter Try.func31, Try.ntmps31
    go_wp2_with fail
    refine C0.mono ?_
    rintro e w1 ⟨A1, q1, c1, vs1, rfl, own1, bel1⟩
    have GB := Lib.hid bel1
    clear own1 bel1
    go_wp2
    go_ret2
    exact ResM.nil G.out GB.out
  · have hne : (S.toList == [45]) = false := by
      rw [ByteArray.toList_eq, ← hs]
      exact beq_eq_false_iff_ne.2 hd
    cases h2 : (Tr.rdL [] 0 s).2
    · have G := Lib.hid (parseF_no hd h2)
      rw [h2] at C0
      clear HBD hR hs hS hsl hd h2
      go_enter Try.func31, Try.ntmps31
      go_wp2_with fail
      refine C0.mono ?_
      rintro e w1 ⟨A1, q1, c1, vs1, rfl, own1, bel1⟩
      have GB := Lib.hid bel1
      clear own1 bel1
      go_wp2
      go_ret2
      exact ResM.nil G.out GB.out
    · have hbd := HBD h2
      rw [← total_eq] at hbd
      have HB0 : Hid ((Tr.rdL [] 0 s).1.length + total (Tr.rdL [] 0 s).1 ≤ 1048576) := by rw [Hid]; omega
      rw [h2] at C0
      by_cases h3 : (Tr.rdL [] 0 s).1 = []
      · have G := Lib.hid (parseF_nil hd h3)
        clear HBD hR hs hS hsl hd h2 hbd
        go_enter Try.func31, Try.ntmps31
        go_wp2_with fail
        refine C0.mono ?_
        rintro e w1 ⟨A1, q1, c1, vs1, rfl, own1, bel1⟩
        have e0 := own1.size
        rw [h3] at e0
        have e0' : q1 = 0 := e0.symm
        subst e0'
        have GB := Lib.hid bel1
        clear own1 bel1 h3 e0
        go_wp2
        go_ret2
        exact ResM.nil G.out GB.out
      · have HP := Lib.hid (show 0 < (Tr.rdL [] 0 s).1.length from List.length_pos_iff.2 h3)
        have C1 := fun A n c B w hl hn hB h => l03Forest_any A n c B (Tr.rdL [] 0 s).1 w hl hn hB h
        cases h4 : isFor (Tr.rdL [] 0 s).1
        · have G := Lib.hid (parseF_bad hd h4)
          simp only [h4] at C1
          clear HBD hR hs hS hsl hd h2 hbd h3 h4
          go_enter Try.func31, Try.ntmps31
          go_wp2_with fail
          refine C0.mono ?_
          rintro e w1 ⟨A1, q1, c1, vs1, rfl, own1, bel1⟩
          have e0 := Lib.hid own1.size
          have HQ : 0 < q1 := by have := HP.out; have := e0.out; omega
          have tq := beq_f (show ¬ (q1 : Int) = 0 by omega)
          have HM := Lib.hid own1.mat
          have hs1 := bel1.size
          have GB1 := Lib.hid bel1
          clear own1 bel1
          go_wp2_with fail
          refine (C1 _ _ _ _ _ e0.out (by have := HB0.out; have := e0.out; omega) (Nat.le_refl _) HM.out).mono ?_
          rintro e w2 ⟨rfl, bel2⟩
          have GB := Lib.hid (GB1.out.trans (bel2.mono hs1))
          clear bel2 C1
          go_wp2
          go_ret2
          exact ResM.nil G.out GB.out
        · have G := Lib.hid (parseF_yes hd h2 h3 h4)
          simp only [h4] at C1
          clear HBD hR hs hS hsl hd h2 hbd h3 h4
          go_enter Try.func31, Try.ntmps31
          go_wp2_with fail
          refine C0.mono ?_
          rintro e w1 ⟨A1, q1, c1, vs1, rfl, own1, bel1⟩
          have e0 := Lib.hid own1.size
          have HQ : 0 < q1 := by have := HP.out; have := e0.out; omega
          have tq := beq_f (show ¬ (q1 : Int) = 0 by omega)
          have HM := Lib.hid own1.mat
          have HO := Lib.hid own1
          have hs1 := bel1.size
          have GB1 := Lib.hid bel1
          clear own1 bel1
          go_wp2_with fail
          refine (C1 _ _ _ _ _ e0.out (by have := HB0.out; have := e0.out; omega) (Nat.le_refl _) HM.out).mono ?_
          rintro e w2 ⟨rfl, bel2⟩
          have GB := Lib.hid (GB1.out.trans (bel2.mono hs1))
          have GO := Lib.hid ((HO.out.below bel2 (Nat.le_refl _)).more (Nat.le_refl _) bel2.size)
          clear bel2 C1
          go_wp2
          go_ret2
          exact ResM.of G.out HB0.out GO.out GB.out
set_option maxHeartbeats 1000000 in
theorem pParseForest_L (S : ByteArray) (w : World) (hn : S.size ≤ 1048576) : Calls Try.prog 32 #[.string S] w (ResM (parseFA S) w) := by
  obtain ⟨s, hs⟩ : ∃ s, s = S.data.toList := ⟨_, rfl⟩
  have hS : S = ⟨s.toArray⟩ := by rw [hs]
  have hsl : s.length ≤ 1048576 := by rw [← size_S s, ← hS]; exact hn
  have C0 := treesIn_any s w hsl
  rw [← hS] at C0
  unfold parseFA
  rw [← hs]
  have HEQ := Lib.hid (Tr.rd_eq s)
  have hsm := Tr.tr_small s [] 0 [] s.length (by simp) (fun x hx => by cases hx) (fun c hc => by cases hc)
  have HSM : Hid (∀ x ∈ (Tr.trF [] 0 [] s).1, x.length ≤ 1048576 ∧ Brk x) := fun x hx => by
    have := hsm.1 x hx
    exact ⟨by omega, this.2⟩
  have HSN : Hid ((Tr.trF [] 0 [] s).1.length ≤ 1048576) := by
    have := hsm.2
    rw [Hid]; simp at this; omega
  clear hsm
  by_cases hd : s = [45]
  · have G := Lib.hid (parseF_dash hd)
    have hSS : S = ⟨#[45]⟩ := by rw [hS, hd]
    clear hs hS hsl hn hd C0 HSM HSN HEQ
    subst hSS
    go_enter Try.func32, Try.ntmps32
    go_wp2
    go_ret2
    exact ResM.nil G.out (Below.refl _ _)
  · have hne : (S.toList == [45]) = false := by
      rw [ByteArray.toList_eq, ← hs]
      exact beq_eq_false_iff_ne.2 hd
    have C1 := fun A n c B w hl hB h => listsOf_any A n c B (Tr.trF [] 0 [] s).1 w hl (by rw [← hl]; exact HSN.out) HSM.out hB h
    have e2 := HEQ.out.1
    cases h2 : (Tr.rdL [] 0 s).2
    · have G := Lib.hid (parseF_no hd h2)
      rw [h2] at e2
      unfold ResT at C0
      rw [← e2] at C0
      clear hs hS hsl hd h2 e2
      go_enter Try.func32, Try.ntmps32
      go_wp2_with fail
      refine C0.mono ?_
      rintro e w1 ⟨A1, q1, c1, rfl, own1, bel1⟩
      have HL1 : Hid ((Tr.trF [] 0 [] s).1.length = q1) := by rw [Hid, ← strs_length]; exact own_len own1
      have HR1 := Lib.hid (row_of_own own1)
      have hs1 := bel1.size
      have HB1 := Lib.hid bel1
      clear own1 bel1 C0
      go_wp2_with fail
      refine (C1 _ _ _ _ _ HL1.out (Nat.le_refl _) HR1.out).mono ?_
      rintro e w2 ⟨A2, c2, vs2, rfl, own2, bel2⟩
      have GB := Lib.hid (HB1.out.trans (bel2.mono hs1))
      clear own2 bel2 C1
      go_wp2
      go_ret2
      exact ResM.nil G.out GB.out
    · have hbd := Tr.rd_bd h2
      rw [← total_eq] at hbd
      have HB0 : Hid ((Tr.rdL [] 0 s).1.length + total (Tr.rdL [] 0 s).1 ≤ 1048576) := by rw [Hid]; omega
      rw [h2] at e2
      have e1 := HEQ.out.2 e2.symm
      unfold ResT at C0
      rw [← e2] at C0
      have HE1 := Lib.hid e1
      by_cases h3 : (Tr.rdL [] 0 s).1 = []
      · have G := Lib.hid (parseF_nil hd h3)
        have HN0 : Hid ((Tr.trF [] 0 [] s).1 = []) := by
          rw [h3] at e1
          exact (List.map_eq_nil_iff.1 e1.symm)
        clear hs hS hsl hd h2 e2 e1 hbd h3
        go_enter Try.func32, Try.ntmps32
        go_wp2_with fail
        refine C0.mono ?_
        rintro e w1 ⟨A1, q1, c1, rfl, own1, bel1⟩
        have hl1 : (Tr.trF [] 0 [] s).1.length = q1 := by rw [← strs_length]; exact own_len own1
        rw [HN0.out] at hl1
        have e0' : q1 = 0 := hl1.symm
        subst e0'
        have HR1 := Lib.hid (row_of_own own1)
        have hs1 := bel1.size
        have HB1 := Lib.hid bel1
        clear own1 bel1 C0 hl1
        go_wp2_with fail
        refine (C1 _ _ _ _ _ (by rw [HN0.out]; rfl) (Nat.le_refl _) HR1.out).mono ?_
        rintro e w2 ⟨A2, c2, vs2, rfl, own2, bel2⟩
        have GB := Lib.hid (HB1.out.trans (bel2.mono hs1))
        clear own2 bel2 C1
        go_wp2
        go_ret2
        exact ResM.nil G.out GB.out
      · have HP := Lib.hid (show 0 < (Tr.rdL [] 0 s).1.length from List.length_pos_iff.2 h3)
        have C2 := fun A n c B w hl hn hB h => isForest_any A n c B (Tr.rdL [] 0 s).1 w hl hn hB h
        have HLL : Hid ((Tr.rdL [] 0 s).1.length = (Tr.trF [] 0 [] s).1.length) := by rw [Hid, e1, List.length_map]
        simp only [← e1] at C1
        cases h4 : isFor (Tr.rdL [] 0 s).1
        · have G := Lib.hid (parseF_bad hd h4)
          simp only [h4] at C2
          clear hs hS hsl hd h2 e2 e1 hbd h3 h4
          go_enter Try.func32, Try.ntmps32
          go_wp2_with fail
          refine C0.mono ?_
          rintro e w1 ⟨A1, q1, c1, rfl, own1, bel1⟩
          have HL1 : Hid ((Tr.trF [] 0 [] s).1.length = q1) := by rw [Hid, ← strs_length]; exact own_len own1
          have HQ : 0 < q1 := by have := HP.out; have := HLL.out; have := HL1.out; omega
          have tq := beq_f (show ¬ (q1 : Int) = 0 by omega)
          have HR1 := Lib.hid (row_of_own own1)
          have hs1 := bel1.size
          have HB1 := Lib.hid bel1
          clear own1 bel1 C0
          go_wp2_with fail
          refine (C1 _ _ _ _ _ HL1.out (Nat.le_refl _) HR1.out).mono ?_
          rintro e w2 ⟨A2, c2, vs2, rfl, own2, bel2⟩
          have HB2 := Lib.hid (HB1.out.trans (bel2.mono hs1))
          have hs2 := HB2.out.size
          have HM2 := Lib.hid own2.mat
          clear own2 bel2 C1
          go_wp2_with fail
          refine (C2 _ _ _ _ _ (by have := HLL.out; have := HL1.out; omega) (by have := HB0.out; have := HLL.out; have := HL1.out; omega) (Nat.le_refl _) HM2.out).mono ?_
          rintro e w3 ⟨rfl, bel3⟩
          have GB := Lib.hid (HB2.out.trans (bel3.mono hs2))
          clear bel3 C2
          go_wp2
          go_ret2
          exact ResM.nil G.out GB.out
        · have G := Lib.hid (parseF_yes hd h2 h3 h4)
          simp only [h4] at C2
          clear hs hS hsl hd h2 e2 e1 hbd h3 h4
          go_enter Try.func32, Try.ntmps32
          go_wp2_with fail
          refine C0.mono ?_
          rintro e w1 ⟨A1, q1, c1, rfl, own1, bel1⟩
          have HL1 : Hid ((Tr.trF [] 0 [] s).1.length = q1) := by rw [Hid, ← strs_length]; exact own_len own1
          have HQ : 0 < q1 := by have := HP.out; have := HLL.out; have := HL1.out; omega
          have tq := beq_f (show ¬ (q1 : Int) = 0 by omega)
          have HR1 := Lib.hid (row_of_own own1)
          have hs1 := bel1.size
          have HB1 := Lib.hid bel1
          clear own1 bel1 C0
          go_wp2_with fail
          refine (C1 _ _ _ _ _ HL1.out (Nat.le_refl _) HR1.out).mono ?_
          rintro e w2 ⟨A2, c2, vs2, rfl, own2, bel2⟩
          have HB2 := Lib.hid (HB1.out.trans (bel2.mono hs1))
          have hs2 := HB2.out.size
          have HM2 := Lib.hid own2.mat
          have HO2 := Lib.hid (own2.more hs1 (Nat.le_refl _))
          clear own2 bel2 C1
          go_wp2_with fail
          refine (C2 _ _ _ _ _ (by have := HLL.out; have := HL1.out; omega) (by have := HB0.out; have := HLL.out; have := HL1.out; omega) (Nat.le_refl _) HM2.out).mono ?_
          rintro e w3 ⟨rfl, bel3⟩
          have GB := Lib.hid (HB2.out.trans (bel3.mono hs2))
          have GO := Lib.hid ((HO2.out.below bel3 (Nat.le_refl _)).more (Nat.le_refl _) bel3.size)
          clear bel3 C2
          go_wp2
          go_ret2
          exact ResM.of G.out HB0.out GO.out GB.out
end Go.Proofs.Ytgicbmfcojfjcaa
