/-
  What RootOn answers, the program's and the model's.
-/
import Derived.Test.YtegigeoeoioolabRootP
namespace Go.Proofs.Ytegigeoeoioolab
open Go.RowKit Fld
set_option linter.unusedVariables false
set_option linter.unusedSimpArgs false
set_option maxRecDepth 100000

def rootA (f : List (List Int)) : List Int × Int := if isFor f = true then (if total f = 8 then ([], 3) else (Tr.can (Tr.up f), 0)) else ([], 1)
theorem rootA_no {f : List (List Int)} (h : isFor f = false) : rootA f = ([], 1) := if_neg (by rw [h]; simp)
theorem rootA_big {f : List (List Int)} (h : isFor f = true) (h8 : total f = 8) : rootA f = ([], 3) := by unfold rootA; rw [if_pos h, if_pos h8]
theorem rootA_yes {f : List (List Int)} (h : isFor f = true) (h8 : ¬ total f = 8) : rootA f = (Tr.can (Tr.up f), 0) := by unfold rootA; rw [if_pos h, if_neg h8]
theorem up_outL (f : List (List Int)) : Tr.up f = outL f.flatten := rfl
set_option maxHeartbeats 2000000 in
theorem l03Root_any (A : Option Addr) (k c B : Nat) (f : List (List Int)) (w : World) (hl : f.length = k) (hlv : ∀ r ∈ f, Tr.isLv r = true) (h7 : total f ≤ 7) (hB : B ≤ w.heap.size) (h : Mat w B A f) :
    Calls Try.prog 57 #[.slice A k c] w (NewRow 2 (total f + 1) (ints (Tr.can (Tr.up f))) w) := by
  obtain ⟨i0, hi, hz0, hz1, hz2⟩ := info_parts info_i64
  have HL := Lib.hid hl
  have HLV := Lib.hid hlv
  have HFT : Hid (f.flatten.length = total f) := flat_total f
  have HUP := Lib.hid (up_lv hlv h7)
  have hk8 : k ≤ 7 := by
    have := len_total (f := f) (fun r hr => (lv_bd (hlv r hr)).1)
    omega
  obtain ⟨s, hs⟩ : ∃ s, s = total f := ⟨_, rfl⟩
  rw [← hs] at HFT h7 ⊢
  clear hl hlv hs
  go_enter Try.func57, Try.ntmps57
  go_wp2_with fail
  go_loopw [3, 4] (fun v i W => ∃ (q g cap j : Nat), q ≤ k ∧ v = .slice (some ⟨g, 0, none⟩) j cap ∧ i = .int .i64 q ∧ Hid (j = (f.take q).flatten.length + 1) ∧ Growing w 2 g j cap (ints (outL (f.take q).flatten)) W) (fun _ i _ => k - (intOf i).toNat)
  case atStart => exact ⟨0, w.heap.size, 1, 1, Nat.zero_le _, rfl, rfl, rfl, World.ownsRow_lit (base := w.heap.size) (size := 1) (e := 2) w #[.int .i64 0] 1 (Nat.le_refl _) (by simp [maxLen]) rfl, (Below.refl _ _).alloc (Nat.le_refl _) _⟩
  case round =>
    obtain ⟨q, g, cp2, j, hq, rfl, rfl, HJ, HG⟩ := hrel
    have hsz := HG.2.size
    by_cases hlt2 : q < k
    · obtain ⟨r, hr⟩ := at_lt (show q < f.length by rw [HL.out]; exact hlt2)
      have hrl := HLV.out r (List.mem_of_getElem? hr)
      have hr8 : r.length ≤ 8 := (Tr.isLv_iff.1 hrl).2.1
      have HRT : Hid ((f.take (q + 1)).flatten = (f.take q).flatten ++ r) := flat_take' hr
      have hfl : (f.take q).flatten.length + r.length ≤ 8 := by
        have h1 := flat_le' f (q + 1)
        rw [HRT.out, List.length_append] at h1
        have := HFT.out; omega
      obtain ⟨F, hF⟩ : ∃ F, F = (f.take q).flatten := ⟨_, rfl⟩
      rw [← hF] at HRT hfl HG HJ
      have HRL := Lib.hid hrl
      have HRR := Lib.hid hr
      have HFL2 := Lib.hid hfl
      have F0 : Hid (Growing w 2 g j cp2 (ints (outL (F ++ r.take 0))) wr) := by
        rw [Hid, List.take_zero, List.append_nil]; exact HG
      have hj8 : j ≤ 9 := by have := HJ.out; omega
      have J0 : Hid (j = F.length + 0 + 1) := HJ
      clear hrl hr hF HG HJ hfl
      go_wp2_with fail
      go_loopw [3, 5] (fun v i W => ∃ (e g cap j : Nat), e ≤ r.length ∧ j ≤ 9 ∧ v = .slice (some ⟨g, 0, none⟩) j cap ∧ i = .int .i64 e ∧ Hid (j = F.length + e + 1) ∧ Growing w 2 g j cap (ints (outL (F ++ r.take e))) W) (fun _ i _ => r.length - (intOf i).toNat)
      case atStart => exact ⟨0, g, cp2, j, Nat.zero_le _, hj8, rfl, rfl, J0, F0.out⟩
      case round =>
        obtain ⟨e, g, cp2, j, he, hj9, rfl, rfl, HJ, HG⟩ := hrel
        have hsz := HG.2.size
        obtain ⟨b, o, Ar, cr, rfl, _, hcr, _, _, hrr⟩ := (h.below HG.2 hB) q r HRR.out
        by_cases hlt3 : e < r.length
        · obtain ⟨x, hx⟩ := at_lt hlt3
          obtain ⟨br, orr, rfl, _, hcx⟩ := hrr e _ (ints_at hx)
          obtain ⟨x0, x8⟩ := lv_el HRL.out hx
          have HXE : Hid (r.take (e + 1) = r.take e ++ [x]) := by rw [Hid, List.take_add_one, hx]; rfl
          have HG' := Lib.hid HG
          have hown := HG.1
          clear hx HG hrr
          go_wp2_with (at_builtin; refine wpList_append_lies _ rfl (.tmp 22) (.tmp 31) 24 rfl w.heap.size 2 i0 _ 1 8 Try.underlying24 hi hz0 hz1 hz2 rfl (by omega) (.slice (some ⟨g, 0, none⟩) j cp2) j (ints (outL (F ++ r.take e))) rfl (hown.alloc _) ⟨wr.heap.size, 0, none⟩ 1 1 [.int .i64 (x + 1)] rfl rfl (World.news_of_block (cs := #[.int .i64 (x + 1)]) (heap_alloc_new _ _)) (by simp [Value.oneCell']) (by omega) (by simp only [maxLen]; omega) (by omega) (by simp; omega) (wr.heap.size + 1) (by simp) ?_; intro g4 cap4 w4 hown4 hgrow4 hat4 hlt4)
          rw [outL_push, List.append_assoc, ← HXE.out] at hown4
          have G := Lib.hid (HG'.out.step ((Below.refl _ _).alloc (Nat.le_refl _) _) hown4 hgrow4)
          clear hown4 hgrow4 hat4 hown
          go_wp2
          go_roundw
          case rel => exact ⟨e + 1, g4, cap4, j + 1, by omega, by have := HJ.out; have := HFL2.out; omega, rfl, by go_num, by have := HJ.out; rw [Hid]; omega, G.out⟩
          case measure => simp [intOf]; omega
        · obtain rfl : e = r.length := by omega
          have G : Hid (Growing w 2 g j cp2 (ints (outL (f.take (q + 1)).flatten)) wr) := by
            rw [Hid, HRT.out]
            rw [List.take_length] at HG
            exact HG
          have GJ : Hid (j = (f.take (q + 1)).flatten.length + 1) := by
            have := HJ.out
            rw [Hid, HRT.out, List.length_append]; omega
          clear HG hrr HJ
          go_wp2
          go_roundw
          case rel => exact ⟨q + 1, g, cp2, j, by omega, rfl, by go_num, GJ, G.out⟩
          case measure => simp [intOf]; omega
    · obtain rfl : q = k := by omega
      rw [List.take_of_length_le (by rw [HL.out]; exact Nat.le_refl _), ← up_outL] at HG
      have e : j = s + 1 := by
        have h1 := HJ.out
        rw [List.take_of_length_le (by rw [HL.out]; exact Nat.le_refl _)] at h1
        have := HFT.out; omega
      subst e
      have HUL : Hid ((Tr.up f).length = s + 1) := by rw [Hid, up_outL, outL_length, HFT.out]
      have HROW : Hid (Row wr wr.heap.size (some ⟨g, 0, none⟩) (ints (Tr.up f))) := row_of_own (HG.1)
      have HB1 := Lib.hid HG.2
      clear HG HJ
      go_wp2_with fail
      refine (l03Canon_any _ (s + 1) cp2 wr.heap.size (Tr.up f) wr HUL.out HUP.out (Nat.le_refl _) HROW.out).mono ?_
      rintro e w2 ⟨A2, c2, rfl, own2, bel2⟩
      have G : Hid (NewRow 2 (s + 1) (ints (Tr.can (Tr.up f))) w (.returned (.slice A2 (s + 1) c2)) w2) := ⟨_, _, rfl, ((OwnR.of own2).more hsz (Nat.le_refl _)).1, HB1.out.trans (bel2.mono hsz)⟩
      clear own2 bel2
      go_wp2
      go_ret
      exact G.out
theorem sRootOn_L (A : Option Addr) (n c B : Nat) (f : List (List Int)) (w : World) (hl : f.length = n) (hn : n + total f ≤ 1048576) (hB : B ≤ w.heap.size) (h : Mat w B A f) :
    Calls Try.prog 18 #[.slice A n c] w (ResL (rootA f) w) := by
  have C0 := l03Forest_any A n c B f w hl hn hB h
  cases hf : isFor f
  · have G := Lib.hid (rootA_no hf)
    rw [hf] at C0
    clear hl
    go_enter Try.func18, Try.ntmps18
    go_wp2_with fail
    refine C0.mono ?_
    rintro e w' ⟨rfl, bel⟩
    have GB := Lib.hid bel
    clear bel
    go_wp2
    go_ret2
    exact ResL.nil G.out GB.out
  · rw [hf] at C0
    have HL := Lib.hid hl
    have HN := Lib.hid hn
    have h8 := for_total hf
    have hlv : ∀ r ∈ f, Tr.isLv r = true := fun r hr => (tr_lv (for_rows hf r hr)).1
    have HLV := Lib.hid hlv
    have C1 := fun w1 (hM : Mat w1 B A f) => l03Nodes_any A n c B f w1 hl hn hM
    by_cases e8 : total f = 8
    · have G := Lib.hid (rootA_big hf e8)
      simp only [e8] at C1
      clear hl hn hf hlv h8 e8
      go_enter Try.func18, Try.ntmps18
      go_wp2_with fail
      refine C0.mono ?_
      rintro e w1 ⟨rfl, bel⟩
      have GB := Lib.hid bel
      have hM := h.below bel hB
      clear bel
      go_wp2_with fail
      refine (C1 _ hM).mono ?_
      rintro e w2 ⟨rfl, rfl⟩
      go_wp2
      go_ret2
      exact ResL.nil G.out GB.out
    · have G := Lib.hid (rootA_yes hf e8)
      have h7 : total f ≤ 7 := by omega
      have H7 := Lib.hid h7
      have HCL : Hid ((Tr.can (Tr.up f)).length = total f + 1) := by rw [Hid, (lv_can (up_lv hlv h7)).2, up_outL, outL_length, flat_total]
      have C2 := fun w1 hB1 (hM : Mat w1 B A f) => l03Root_any A n c B f w1 hl hlv h7 hB1 hM
      obtain ⟨s, hs⟩ : ∃ s, s = total f := ⟨_, rfl⟩
      rw [← hs] at HCL h7 e8
      simp only [← hs] at C1 C2
      have t8 : ((s : Int) == 8) = false := beq_f (by omega)
      clear hl hn hf hlv h8 hs
      go_enter Try.func18, Try.ntmps18
      go_wp2_with fail
      refine C0.mono ?_
      rintro e w1 ⟨rfl, bel⟩
      have hs1 := bel.size
      have HB1 := Lib.hid bel
      have hM := h.below bel hB
      clear bel
      go_wp2_with fail
      refine (C1 _ hM).mono ?_
      rintro e w2 ⟨rfl, rfl⟩
      go_wp2_with fail
      refine (C2 _ (by omega) hM).mono ?_
      rintro e w3 ⟨A3, c3, rfl, own3, bel3⟩
      have GB : Hid (Below w.heap.size w w3) := HB1.out.trans (bel3.mono hs1)
      have GO : Hid (w3.ownsRow w.heap.size 2 1 (.slice A3 (s + 1) c3) (s + 1) (ints (Tr.can (Tr.up f)))) := ((OwnR.of own3).more hs1 (Nat.le_refl _)).1
      clear own3 bel3 hM
      go_wp2
      go_ret2
      exact ResL.of G.out HCL.out (by omega) GO.out GB.out
theorem pRootOn_L (A : Option Addr) (n c B : Nat) (f : List (List Int)) (w : World) (hl : f.length = n) (hn : n + total f ≤ 1048576) (hB : B ≤ w.heap.size) (h : Mat w B A f) :
    Calls Try.prog 20 #[.slice A n c] w (ResL (rootA f) w) := by
  have C0 := isForest_any A n c B f w hl hn hB h
  cases hf : isFor f
  · have G := Lib.hid (rootA_no hf)
    rw [hf] at C0
    clear hl
    go_enter Try.func20, Try.ntmps20
    go_wp2_with fail
    refine C0.mono ?_
    rintro e w' ⟨rfl, bel⟩
    have GB := Lib.hid bel
    clear bel
    go_wp2
    go_ret2
    exact ResL.nil G.out GB.out
  · rw [hf] at C0
    have HL := Lib.hid hl
    have HN := Lib.hid hn
    have h8 := for_total hf
    have hlv : ∀ r ∈ f, Tr.isLv r = true := fun r hr => (tr_lv (for_rows hf r hr)).1
    have HLV := Lib.hid hlv
    have hn8 : n ≤ 8 := by
      have := len_total (f := f) (fun r hr => (lv_bd (hlv r hr)).1)
      omega
    have C1 := fun w1 (hM : Mat w1 B A f) => nodesOf_any A n c B f w1 hl hn hM
    by_cases e8 : total f = 8
    · have G := Lib.hid (rootA_big hf e8)
      simp only [e8] at C1
      clear hl hn hf hlv h8 e8
      go_enter Try.func20, Try.ntmps20
      go_wp2_with fail
      refine C0.mono ?_
      rintro e w1 ⟨rfl, bel⟩
      have GB := Lib.hid bel
      have hM := h.below bel hB
      clear bel
      go_wp2_with fail
      refine (C1 _ hM).mono ?_
      rintro e w2 ⟨rfl, rfl⟩
      go_wp2
      go_ret2
      exact ResL.nil G.out GB.out
    · have G := Lib.hid (rootA_yes hf e8)
      have h7 : total f ≤ 7 := by omega
      have HUP := Lib.hid (up_lv hlv h7)
      have HUL : Hid ((Tr.up f).length = total f + 1) := by rw [Hid, up_outL, outL_length, flat_total]
      have HCL : Hid ((Tr.can (Tr.up f)).length = total f + 1) := by rw [Hid, (lv_can HUP.out).2, HUL.out]
      have HRX := Lib.hid (root_txt hlv h7)
      have HFT : Hid ((f.map Tr.txt).flatten.length ≤ 1048574) := by rw [Hid, flat_txt hlv]; omega
      have HN8 : Hid (n ≤ 1048576) := by rw [Hid]; omega
      obtain ⟨s, hs⟩ : ∃ s, s = total f := ⟨_, rfl⟩
      rw [← hs] at HCL h7 e8 HUL
      simp only [← hs] at C1
      clear hl hn hf hlv h8 hs
      go_enter Try.func20, Try.ntmps20
      go_wp2_with fail
      refine C0.mono ?_
      rintro e w1 ⟨rfl, bel⟩
      have hs1 := bel.size
      have HB1 := Lib.hid bel
      have hM := h.below bel hB
      clear bel
      go_wp2_with fail
      refine (C1 _ hM).mono ?_
      rintro e w2 ⟨rfl, rfl⟩
      go_wp2_with fail
      refine (treesOf_any A n c B f w1 HL.out HN8.out HLV.out (by omega) hM).mono ?_
      rintro e w2 ⟨rfl, own2, bel2⟩
      have hs2 := bel2.size
      have HB2 := Lib.hid (HB1.out.trans (bel2.mono hs1))
      have HO2 := Lib.hid own2
      clear own2 bel2 hM
      go_wp2_with fail
      refine (rootOn_any _ w1.heap.size n n (f.map Tr.txt) w2 (by omega) HFT.out hs2 HO2.out).mono ?_
      rintro e w3 ⟨rfl, bel3⟩
      rw [HRX.out]
      have hs3 : w1.heap.size ≤ w3.heap.size := by have := bel3.size; omega
      have HB3 : Hid (Below w.heap.size w w3) := HB2.out.trans (bel3.mono hs1)
      clear bel3
      go_wp2_with fail
      refine (levelsOf_any (Tr.up f) _ HUP.out).mono ?_
      rintro e w4 ⟨A3, c3, rfl, own3, bel4⟩
      rw [HUL.out] at own3 ⊢
      have GB : Hid (Below w.heap.size w w4) := HB3.out.trans (bel4.mono (by omega))
      have GO : Hid (w4.ownsRow w.heap.size 2 1 (.slice A3 (s + 1) c3) (s + 1) (ints (Tr.can (Tr.up f)))) := ((OwnR.of own3).more (by omega) (Nat.le_refl _)).1
      clear own3 bel4
      go_wp2
      go_ret2
      exact ResL.of G.out HCL.out (by omega) GO.out GB.out
end Go.Proofs.Ytegigeoeoioolab
