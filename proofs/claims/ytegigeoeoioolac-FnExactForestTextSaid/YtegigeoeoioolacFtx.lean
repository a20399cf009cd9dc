/-
  The texts of forests.
-/
import Derived.Test.YtegigeoeoioolacTreesOfT
import Derived.Test.YtegigeoeoioolacSTxt
namespace Go.Proofs.Ytegigeoeoioolac
open Go.RowKit Fld
set_option linter.unusedVariables false
set_option linter.unusedSimpArgs false
set_option maxRecDepth 100000

def showA (f : List (List Int)) : List UInt8 := if f.length = 0 then [45] else (f.map Tr.txt).flatten
def ftxtA (f : List (List Int)) : List UInt8 × Int := if isFor f = true then (showA f, 0) else ([], 1)
theorem ftxtA_yes {f : List (List Int)} (h : isFor f = true) : ftxtA f = (showA f, 0) := if_pos h
theorem ftxtA_no {f : List (List Int)} (h : isFor f = false) : ftxtA f = ([], 1) := if_neg (by rw [h]; simp)
theorem ResS.of' {r : List UInt8 × Int} {x : List UInt8} {k : Int} {Z : ByteArray} {w w' : World} (h : r = (x, k)) (hz : Z = ⟨x.toArray⟩) (hb : Below w.heap.size w w') : ResS r w (.returned (.tuple #[.string Z, .int .i64 k])) w' := by
  subst h hz; exact ⟨rfl, hb⟩
theorem for_mt {r : List Int} (h : isTr r = true) : Tr.mt r = Tr.txt r := by
  obtain ⟨h1, h2⟩ := tr_lv h
  have := (Tr.mt_parts h1).2.1
  rw [h2] at this; exact this
set_option maxHeartbeats 1000000 in
theorem l03Show_any (A : Option Addr) (n c B : Nat) (f : List (List Int)) (w : World) (hl : f.length = n) (hf : isFor f = true) (hB : B ≤ w.heap.size) (h : Mat w B A f) :
    Calls Try.prog 16 #[.slice A n c] w fun e w' => e = .returned (.string ⟨(showA f).toArray⟩) ∧ Below w.heap.size w w' := by
  have HL := Lib.hid hl
  have HR := Lib.hid (for_rows hf)
  have hlv : ∀ r ∈ f, Tr.isLv r = true := fun r hr => (tr_lv (HR.out r hr)).1
  have h8 := for_total hf
  have hn8 : n ≤ 8 := by
    have := len_total (f := f) (fun r hr => (lv_bd (hlv r hr)).1)
    omega
  have HFL : Hid ((f.map Tr.txt).flatten.length ≤ 16) := by rw [Hid, flat_txt hlv]; omega
  have HZ : Hid (n ≠ 0 → (f.map Tr.txt).flatten ≠ []) := fun hn0 e => by
    have h1 := flat_txt hlv
    rw [e] at h1
    have h2 := len_total (f := f) (fun r hr => (lv_bd (hlv r hr)).1)
    simp at h1; omega
  clear hl hf hlv h8
  go_enter Try.func16, Try.ntmps16
  go_wp2_with fail
  go_loopw [3, 4] (fun v i wr => ∃ (k : Nat) (T : List UInt8), k ≤ n ∧ v = .string ⟨T.toArray⟩ ∧ i = .int .i64 k ∧ Hid (T = ((f.take k).map Tr.txt).flatten) ∧ Below w.heap.size w wr) (fun _ i _ => n - (intOf i).toNat)
  case atStart => exact ⟨0, [], Nat.zero_le _, rfl, rfl, rfl, Below.refl _ _⟩
  case round =>
    obtain ⟨k, T, hk, rfl, rfl, HT, HBw⟩ := hrel
    have hsz := HBw.size
    by_cases hlt : k < n
    · obtain ⟨r, hr⟩ := at_lt (show k < f.length by rw [HL.out]; exact hlt)
      obtain ⟨b, o, Ak, ck, rfl, hb, hc, hrc, hcm, hrow⟩ := (h.below HBw hB) k r hr
      have htr := HR.out r (List.mem_of_getElem? hr)
      have hlv := (tr_lv htr).1
      obtain ⟨r1, r8⟩ := lv_bd hlv
      have hpm := (lv_txt hlv).2.2.2
      have hT : T.length ≤ 16 := by
        have h1 := flat_le (f.map Tr.txt) k
        rw [← List.map_take, ← HT.out] at h1
        have h2 := HFL.out; omega
      have HTN : Hid (T ++ Tr.txt r = ((f.take (k + 1)).map Tr.txt).flatten) := by
        rw [Hid, HT.out, List.take_add_one, hr]; simp
      have C1 := l03Text_any Ak r.length ck B r wr rfl hlv (by omega) hrow
      rw [for_mt htr] at C1
      obtain ⟨M, hM⟩ : ∃ M, M = Tr.txt r := ⟨_, rfl⟩
      rw [← hM] at C1 HTN hpm
      have hm16 : M.length ≤ 16 := by omega
      have HBB := Lib.hid HBw
      clear hr hpm hM hrow HBw htr hlv
      go_wp2_with fail
      refine C1.mono ?_
      rintro e w2 ⟨rfl, bel2⟩
      have GB := Lib.hid (HBB.out.trans (bel2.mono hsz))
      have GE : Hid ((⟨T.toArray⟩ : ByteArray) ++ ⟨M.toArray⟩ = ⟨(T ++ M).toArray⟩) := ByteArray.mk_append_mk T M
      clear bel2 C1
      go_wp2
      go_roundw
      case rel => exact ⟨k + 1, T ++ M, by omega, by rw [GE.out], by go_num, HTN, GB.out⟩
      case measure => simp [intOf]; omega
    · obtain rfl : k = n := by omega
      have HTE : Hid (T = (f.map Tr.txt).flatten) := by
        rw [Hid, HT.out, ← HL.out, List.take_length]
      have GB := Lib.hid HBw
      clear HBw
      by_cases h0 : k = 0
      · have e : T = [] := by
          have := HT.out
          rw [h0] at this
          simpa using this
        have HS : Hid (showA f = [45]) := by unfold showA; rw [Hid, if_pos (by rw [HL.out]; exact h0)]
        subst e
        clear h0 HT HTE
        go_wp2
        go_ret
        exact ⟨by rw [HS.out]; rfl, GB.out⟩
      · have HS : Hid (showA f = T) := by unfold showA; rw [Hid, if_neg (by rw [HL.out]; exact h0), HTE.out]
        have hne : T ≠ [] := by rw [HTE.out]; exact HZ.out h0
        obtain ⟨Z, hZ⟩ : ∃ Z : ByteArray, Z = ⟨T.toArray⟩ := ⟨_, rfl⟩
        have HZZ : Hid (Z = ⟨(showA f).toArray⟩) := by rw [Hid, HS.out]; exact hZ
        have tz : Z.toList.isEmpty = false := by
          rw [hZ, ByteArray.toList_mk]
          cases hT : T with
          | nil => exact absurd hT hne
          | cons a l => rfl
        rw [← hZ]
        clear h0 HT HTE hne hZ
        go_wp2
        go_ret
        exact ⟨congrArg (fun z => Ending.returned (Value.string z)) HZZ.out, GB.out⟩
theorem sForestText_L (A : Option Addr) (n c B : Nat) (f : List (List Int)) (w : World) (hl : f.length = n) (hn : n + total f ≤ 1048576) (hB : B ≤ w.heap.size) (h : Mat w B A f) :
    Calls Try.prog 6 #[.slice A n c] w (ResS (ftxtA f) w) := by
  have C0 := l03Forest_any A n c B f w hl hn hB h
  cases hf : isFor f
  · have G := Lib.hid (ftxtA_no hf)
    rw [hf] at C0
    clear hl
    go_enter Try.func6, Try.ntmps6
    go_wp2_with fail
    refine C0.mono ?_
    rintro e w' ⟨rfl, bel⟩
    have GB := Lib.hid bel
    clear bel
    go_wp2
    go_ret2
    exact ResS.of' G.out rfl GB.out
  · have G := Lib.hid (ftxtA_yes hf)
    rw [hf] at C0
    have HL := Lib.hid hl
    have HF := Lib.hid hf
    clear hl hf
    go_enter Try.func6, Try.ntmps6
    go_wp2_with fail
    refine C0.mono ?_
    rintro e w' ⟨rfl, bel⟩
    have hs := bel.size
    have HB1 := Lib.hid bel
    go_wp2_with fail
    refine (l03Show_any A n c B f w' HL.out HF.out (by omega) (h.below bel hB)).mono ?_
    rintro e w2 ⟨rfl, bel2⟩
    have GB := Lib.hid (HB1.out.trans (bel2.mono hs))
    obtain ⟨Z, hZ⟩ : ∃ Z : ByteArray, Z = ⟨(showA f).toArray⟩ := ⟨_, rfl⟩
    have HZZ := Lib.hid hZ
    rw [← hZ]
    clear bel bel2 hZ
    go_wp2
    go_ret2
    exact ResS.of' G.out HZZ.out GB.out
theorem pForestText_L (A : Option Addr) (n c B : Nat) (f : List (List Int)) (w : World) (hl : f.length = n) (hn : n + total f ≤ 1048576) (hB : B ≤ w.heap.size) (h : Mat w B A f) :
    Calls Try.prog 8 #[.slice A n c] w (ResS (ftxtA f) w) := by
  have C0 := isForest_any A n c B f w hl hn hB h
  cases hf : isFor f
  · have G := Lib.hid (ftxtA_no hf)
    rw [hf] at C0
    clear hl
    go_enter Try.func8, Try.ntmps8
    go_wp2_with fail
    refine C0.mono ?_
    rintro e w' ⟨rfl, bel⟩
    have GB := Lib.hid bel
    clear bel
    go_wp2
    go_ret2
    exact ResS.of' G.out rfl GB.out
  · have G := Lib.hid (ftxtA_yes hf)
    rw [hf] at C0
    have HL := Lib.hid hl
    have hlv : ∀ r ∈ f, Tr.isLv r = true := fun r hr => (tr_lv (for_rows hf r hr)).1
    have h8 := for_total hf
    have HLV := Lib.hid hlv
    have hfl := flat_txt hlv
    have HFL : Hid ((f.map Tr.txt).flatten.length ≤ 1048576) := by rw [Hid, hfl]; omega
    have hn' : n ≤ 1048576 := by omega
    by_cases h0 : n = 0
    · have HS : Hid (showA f = [45]) := by unfold showA; rw [Hid, if_pos (by rw [HL.out]; exact h0)]
      subst h0
      clear hl hf hlv h8 hfl hn
      go_enter Try.func8, Try.ntmps8
      go_wp2_with fail
      refine C0.mono ?_
      rintro e w' ⟨rfl, bel⟩
      have GB := Lib.hid bel
      clear bel
      go_wp2
      go_ret2
      exact ResS.of' G.out (by rw [HS.out]) GB.out
    · have HS : Hid (showA f = (f.map Tr.txt).flatten) := by unfold showA; rw [Hid, if_neg (by rw [HL.out]; exact h0)]
      have t0 : ((n : Int) == 0) = false := beq_f (by omega)
      clear hl hf hlv h8 hfl hn h0
      go_enter Try.func8, Try.ntmps8
      go_wp2_with fail
      refine C0.mono ?_
      rintro e w1 ⟨rfl, bel⟩
      have hs := bel.size
      have HB1 := Lib.hid bel
      have hM := h.below bel hB
      clear bel
      go_wp2_with fail
      refine (treesOf_any A n c B f w1 HL.out hn' HLV.out (by omega) hM).mono ?_
      rintro e w2 ⟨rfl, own2, bel2⟩
      have hs2 := bel2.size
      have HB2 := Lib.hid (HB1.out.trans (bel2.mono hs))
      have HO2 := Lib.hid own2
      clear own2 bel2 hM
      go_wp2_with fail
      refine (textOf_any _ n n w2.heap.size (f.map Tr.txt) w2 (by rw [List.length_map]; exact HL.out) hn' HFL.out (Nat.le_refl _) (row_of_own HO2.out)).mono ?_
      rintro e w3 ⟨rfl, bel3⟩
      have GB := Lib.hid (HB2.out.trans (bel3.mono (by omega)))
      obtain ⟨Z, hZ⟩ : ∃ Z : ByteArray, Z = ⟨((f.map Tr.txt).flatten).toArray⟩ := ⟨_, rfl⟩
      have HZZ : Hid (Z = ⟨(showA f).toArray⟩) := by rw [Hid, HS.out]; exact hZ
      rw [← hZ]
      clear bel3 hZ
      go_wp2
      go_ret2
      exact ResS.of' G.out HZZ.out GB.out
end Go.Proofs.Ytegigeoeoioolac
