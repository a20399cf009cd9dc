/-
  What IsSymplectic and SymplecticFault answer, the program's.
-/
import Derived.Test.YtnnihdkhblbdgaaSyX
import Derived.Test.YtnnihdkhblbdgaaSyF
import Derived.Test.YtnnihdkhblbdgaaSyE
import Derived.Lib.SliceRun
namespace Go.Proofs.Ytnnihdkhblbdgaa
open Go.RowKit Fld
set_option linter.unusedVariables false
set_option linter.unusedSimpArgs false
set_option maxRecDepth 100000

theorem own_addrS {w : World} {base n c : Nat} {T : TypeId} {A : Option Addr} {vs : List Value} (h : w.ownsRow base T 1 (.slice A n c) n vs) (hn : 0 < n) : ∃ g, A = some ⟨g, 0, none⟩ := by
  rcases h.2 with ⟨_, k⟩ | ⟨g, cap, cur, hv, _⟩
  · omega
  · injection hv with hv _ _
    exact ⟨g, hv⟩
theorem isTabB_ok {m : List (List Int)} {b : List Int} {n : Nat} (h : isTabB m b = true) (hl : b.length = n) : TbOk n m b := by
  obtain ⟨t1, t2, t3, t4, t5, t6⟩ := isTabB_parts h
  rw [hl] at t1 t2 t3 t5
  exact ⟨t3, hl, t2, t5, t6, t4⟩
theorem sy_same {m : List (List Int)} {b : List Int} {n : Nat} (hn : n ≤ 8) : decide (grL (syL m b) n = grL (syR b) n) = (faultOf (syOk m b) n).isEmpty := by
  rw [Bool.eq_iff_iff, fault_none, decide_eq_true_iff, grL_eq]
  constructor
  · intro h i k hik hk
    have := h i k (by omega) (by omega)
    unfold grV at this
    rwa [if_pos ⟨by omega, hk⟩, if_pos ⟨by omega, hk⟩] at this
  · intro h i k hi hk
    unfold grV
    by_cases q : i < n ∧ k < n
    · rw [if_pos q, if_pos q]
      rcases Nat.le_total i k with g | g
      · exact h i k g q.2
      · rw [syL_comm, syR_comm]; exact h k i g q.1
    · rw [if_neg q, if_neg q]
theorem sy_fault {m : List (List Int)} {b : List Int} {n : Nat} (hn : n ≤ 8) : faultOf (okG (syL m b) (syR b) n) 8 = faultOf (syOk m b) n := by
  refine (IsFault.of (IsFault.less (fault_is (okG (syL m b) (syR b) n) 8) hn (fun i k hi hk => ?_) (fun i k h => ?_))).symm
  · unfold okG grV syOk
    rw [if_pos ⟨hi, hk⟩, if_pos ⟨hi, hk⟩]
  · unfold okG grV
    rw [if_neg (by omega), if_neg (by omega)]
set_option maxHeartbeats 2000000 in
theorem pIsSymplectic_L (A D : Option Addr) (n c n' d B B' : Nat) (m : List (List Int)) (b : List Int) (w : World) (hl : m.length = n) (hl' : b.length = n') (hn : n ≤ 9223372036854775807) (hn' : n' ≤ 9223372036854775807) (hB : B ≤ w.heap.size) (hB' : B' ≤ w.heap.size) (h : Mat w B A m) (r : Row w B' D (ints b)) :
    Calls Try.prog 13 #[.agg #[.slice A n c, .slice D n' d]] w (ResBI (symplA m b) w) := by
  have HL := Lib.hid hl
  have HL' := Lib.hid hl'
  obtain ⟨W0, hW0⟩ : ∃ W0, W0 = w.alloc (.cells #[.slice A n c, .slice D n' d] 29) := ⟨_, rfl⟩
  have HB : Hid (Below w.heap.size w W0) := by rw [hW0]; exact (Below.refl _ _).alloc (Nat.le_refl _) _
  have HM : Hid (Mat W0 B A m) := h.below HB.out hB
  have HR : Hid (Row W0 B' D (ints b)) := r.below HB.out hB'
  have HX : Hid (Bx W0 w.heap.size 29 (.slice A n c) (.slice D n' d)) := by rw [hW0]; exact Bx.new _ _ _ _
  have hz := HB.out.size
  clear hl hl' h r
  cases ht : isTabB m b
  · have G : Hid (symplA m b = (false, 1)) := by unfold symplA; rw [Hid, ht]; rfl
    go_enter Try.func13, Try.ntmps13
    go_wp2_with fail
    rw [← hW0]
    refine (isTableau_any A D n c n' d B B' m b W0 HL.out HL'.out hn hn' (by omega) (by omega) HM.out HR.out).mono ?_
    rintro e w2 ⟨rfl, b2⟩
    rw [ht]
    have HB2 := Lib.hid (HB.out.trans (b2.mono HB.out.size))
    clear b2 hW0 ht
    go_wp2
    go_ret2
    exact ResBI.of G.out HB2.out
  · obtain ⟨t1, t2, t3, t4, t5, t6⟩ := isTabB_parts ht
    rw [HL'.out] at t1 t2 t3 t5
    have hnn : n' = n := by rw [← t3]; exact HL.out
    subst hnn
    have ok := Lib.hid (isTabB_ok ht HL'.out)
    have G : Hid (symplA m b = ((faultOf (syOk m b) n').isEmpty, 0)) := by unfold symplA; rw [Hid, ht, HL'.out]; rfl
    have HW := Lib.hid t5
    clear t3 t4 t5 t6
    go_enter Try.func13, Try.ntmps13
    go_wp2_with fail
    rw [← hW0]
    refine (isTableau_any A D n' c n' d B B' m b W0 HL.out HL'.out hn hn' (by omega) (by omega) HM.out HR.out).mono ?_
    rintro e w2 ⟨rfl, b2⟩
    rw [ht]
    have HB2 := Lib.hid (HB.out.trans (b2.mono HB.out.size))
    have HM2 := Lib.hid (HM.out.below b2 (by omega))
    have HR2 := Lib.hid (HR.out.below b2 (by omega))
    have q0 := (HX.out.next b2).c0
    have q1 := (HX.out.next b2).c1
    have hz2 := b2.size
    clear b2 hW0 ht
    go_wp2_with fail
    refine (schemeOf_any A D n' c n' d B B' n' m b w2 HL.out HL'.out t2 HW.out (by omega) (by omega) (by omega) (by omega) HM2.out HR2.out).mono ?_
    rintro e w3 ⟨A3, c3, D3, d3, rfl, hc3, hd3, m3, r3, b3⟩
    have HB3 := Lib.hid (HB2.out.trans (b3.mono HB2.out.size))
    have HM3 := Lib.hid m3
    have HR3 := Lib.hid r3
    clear b3 q0 q1 m3 r3
    go_wp2_with fail
    refine (sides_any A3 D3 n' c3 d3 w3.heap.size w3.heap.size m b w3 ok.out (Nat.le_refl _) (Nat.le_refl _) HM3.out HR3.out).mono ?_
    rintro e w4 ⟨rfl, b4⟩
    have HB4 := Lib.hid (HB3.out.trans (b4.mono HB3.out.size))
    have L1 := Lib.hid (arrG_size (grL_length (syL m b) n'))
    have L2 := Lib.hid (arrG_size (grL_length (syR b) n'))
    have Z64 : Hid ((arrG zero64).size = 64) := by simp [Hid, zero64, arrG, ints_length]
    obtain ⟨X1, hX1⟩ : ∃ X1, X1 = grL (syL m b) n' := ⟨_, rfl⟩
    obtain ⟨X2, hX2⟩ : ∃ X2, X2 = grL (syR b) n' := ⟨_, rfl⟩
    have HX1 := Lib.hid hX1
    have HX2 := Lib.hid hX2
    simp only [← hX1, ← hX2] at L1 L2 ⊢
    clear b4 hX1 hX2 HX HM HR
    obtain ⟨W5, hW5⟩ : ∃ W5, W5 = (((w4.alloc (.cells (arrG zero64) 54)).alloc (.cells (arrG zero64) 54)).setRow w4.heap.size (arrG X1)).setRow (w4.heap.size + 1) (arrG X2) := ⟨_, rfl⟩
    have hz4 := HB4.out.size
    have B5 : Hid (Below w.heap.size w W5) := by rw [Hid, hW5]; exact below_setRow (below_setRow ((HB4.out.alloc hz4 _).alloc (by simp; omega) _) hz4 _) (by omega) _
    have G1 : Hid (ArrG W5 w4.heap.size X1) := by rw [Hid, hW5]; exact (((ArrG.new w4 zero64).alloc _).put _).putOther (by omega) _
    have G2 : Hid (ArrG W5 (w4.heap.size + 1) X2) := by rw [Hid, hW5]; exact ((ArrG.next zero64 (by simp)).putOther (by omega) _).put _
    have N1 : Hid (ArrG ((w4.alloc (.cells (arrG zero64) 54)).alloc (.cells (arrG zero64) 54)) w4.heap.size zero64) := (ArrG.new w4 zero64).alloc _
    have N2 : Hid (ArrG (((w4.alloc (.cells (arrG zero64) 54)).alloc (.cells (arrG zero64) 54)).setRow w4.heap.size (arrG X1)) (w4.heap.size + 1) zero64) := (ArrG.next zero64 (by simp)).putOther (by omega) _
    have HE : Hid ((Op.equalIn 10000 54 (.agg (arrG X1)) (.agg (arrG X2))).run Try.prog W5 = .ok ((faultOf (syOk m b) n').isEmpty) W5) := by
      rw [Hid, eqGrid W5 (by rw [HX1.out]; exact grL_length _ _) (by rw [HX2.out]; exact grL_length _ _) (by rw [HX1.out]; exact grL_num fun i k _ _ => syL_num m b i k) (by rw [HX2.out]; exact grL_num fun i k _ _ => syR_num b i k), HX1.out, HX2.out, sy_same ok.out.le]
    obtain ⟨F, hF⟩ : ∃ F, F = (faultOf (syOk m b) n').isEmpty := ⟨_, rfl⟩
    rw [← hF] at G HE
    have he := HE.out
    clear hF
    go_wp2_with (first
      | (refine wpList_store_row rfl 54 (.tmp 4) (.tmp 13) rfl w4.heap.size (arrG X1) rfl rfl 54 (arrG zero64) N1.out (by rw [L1.out]; exact info_grd) (by rw [L1.out, Z64.out]) (arrG_cells _) ?_)
      | (refine wpList_store_row rfl 54 (.tmp 5) (.tmp 14) rfl (w4.heap.size + 1) (arrG X2) rfl rfl 54 (arrG zero64) N2.out (by rw [L2.out]; exact info_grd) (by rw [L2.out, Z64.out]) (arrG_cells _) ?_; change wpList _ _ _ _ _ ((((w4.alloc (.cells (arrG zero64) 54)).alloc (.cells (arrG zero64) 54)).setRow w4.heap.size (arrG X1)).setRow (w4.heap.size + 1) (arrG X2)); rw [← hW5]; clear hW5)
      | (refine wpList_load_row rfl 54 (.tmp 4) rfl w4.heap.size rfl 54 (arrG X1) (0, 0) _ G1.out Try.underlying54 rfl (by rw [L1.out]; exact info_grd) ?_)
      | (refine wpList_load_row rfl 54 (.tmp 5) rfl (w4.heap.size + 1) rfl 54 (arrG X2) (0, 0) _ G2.out Try.underlying54 rfl (by rw [L2.out]; exact info_grd) ?_))
    go_wp2
    go_ret2
    exact ResBI.of G.out B5.out
set_option maxHeartbeats 2000000 in
theorem pSymplecticFault_L (A D : Option Addr) (n c n' d B B' : Nat) (m : List (List Int)) (b : List Int) (w : World) (hl : m.length = n) (hl' : b.length = n') (hn : n ≤ 9223372036854775807) (hn' : n' ≤ 9223372036854775807) (hB : B ≤ w.heap.size) (hB' : B' ≤ w.heap.size) (h : Mat w B A m) (r : Row w B' D (ints b)) :
    Calls Try.prog 16 #[.agg #[.slice A n c, .slice D n' d]] w (ResL (faultSA m b) w) := by
  have HL := Lib.hid hl
  have HL' := Lib.hid hl'
  obtain ⟨W0, hW0⟩ : ∃ W0, W0 = w.alloc (.cells #[.slice A n c, .slice D n' d] 29) := ⟨_, rfl⟩
  have HB : Hid (Below w.heap.size w W0) := by rw [hW0]; exact (Below.refl _ _).alloc (Nat.le_refl _) _
  have HM : Hid (Mat W0 B A m) := h.below HB.out hB
  have HR : Hid (Row W0 B' D (ints b)) := r.below HB.out hB'
  have HX : Hid (Bx W0 w.heap.size 29 (.slice A n c) (.slice D n' d)) := by rw [hW0]; exact Bx.new _ _ _ _
  have hz := HB.out.size
  clear hl hl' h r
  cases ht : isTabB m b
  · have G : Hid (faultSA m b = ([], 1)) := by unfold faultSA; rw [Hid, ht]; rfl
    go_enter Try.func16, Try.ntmps16
    go_wp2_with fail
    rw [← hW0]
    refine (isTableau_any A D n c n' d B B' m b W0 HL.out HL'.out hn hn' (by omega) (by omega) HM.out HR.out).mono ?_
    rintro e w2 ⟨rfl, b2⟩
    rw [ht]
    have HB2 := Lib.hid (HB.out.trans (b2.mono HB.out.size))
    clear b2 hW0 ht
    go_wp2
    go_ret2
    exact ResL.nil G.out HB2.out
  · obtain ⟨t1, t2, t3, t4, t5, t6⟩ := isTabB_parts ht
    rw [HL'.out] at t1 t2 t3 t5
    have hnn : n' = n := by rw [← t3]; exact HL.out
    subst hnn
    have ok := Lib.hid (isTabB_ok ht HL'.out)
    have G : Hid (faultSA m b = (faultOf (syOk m b) n', if (faultOf (syOk m b) n').isEmpty = true then 4 else 0)) := by unfold faultSA; rw [Hid, ht, HL'.out]; rfl
    have HW := Lib.hid t5
    clear t3 t4 t5 t6
    go_enter Try.func16, Try.ntmps16
    go_wp2_with fail
    rw [← hW0]
    refine (isTableau_any A D n' c n' d B B' m b W0 HL.out HL'.out hn hn' (by omega) (by omega) HM.out HR.out).mono ?_
    rintro e w2 ⟨rfl, b2⟩
    rw [ht]
    have HB2 := Lib.hid (HB.out.trans (b2.mono HB.out.size))
    have HM2 := Lib.hid (HM.out.below b2 (by omega))
    have HR2 := Lib.hid (HR.out.below b2 (by omega))
    have q0 := (HX.out.next b2).c0
    have q1 := (HX.out.next b2).c1
    have hz2 := b2.size
    clear b2 hW0 ht
    go_wp2_with fail
    refine (schemeOf_any A D n' c n' d B B' n' m b w2 HL.out HL'.out t2 HW.out (by omega) (by omega) (by omega) (by omega) HM2.out HR2.out).mono ?_
    rintro e w3 ⟨A3, c3, D3, d3, rfl, hc3, hd3, m3, r3, b3⟩
    have HB3 := Lib.hid (HB2.out.trans (b3.mono HB2.out.size))
    have HM3 := Lib.hid m3
    have HR3 := Lib.hid r3
    clear b3 q0 q1 m3 r3
    go_wp2_with fail
    refine (sides_any A3 D3 n' c3 d3 w3.heap.size w3.heap.size m b w3 ok.out (Nat.le_refl _) (Nat.le_refl _) HM3.out HR3.out).mono ?_
    rintro e w4 ⟨rfl, b4⟩
    have HB4 := Lib.hid (HB3.out.trans (b4.mono HB3.out.size))
    have HF := Lib.hid (fault_small m b n')
    have HFE : Hid (faultOf (okG (syL m b) (syR b) n') 8 = faultOf (syOk m b) n') := sy_fault ok.out.le
    have C5 := faultIn_any (syL m b) (syR b) n' w4
    rw [HFE.out] at C5
    obtain ⟨X1, hX1⟩ : ∃ X1, X1 = grL (syL m b) n' := ⟨_, rfl⟩
    obtain ⟨X2, hX2⟩ : ∃ X2, X2 = grL (syR b) n' := ⟨_, rfl⟩
    obtain ⟨F, hF⟩ : ∃ F, F = faultOf (syOk m b) n' := ⟨_, rfl⟩
    simp only [← hX1, ← hX2, ← hF] at C5 G HF ⊢
    clear b4 hX1 hX2 HX HM HR HFE hF
    have q22 : ∀ (w : World) (a : Option Addr) (n c n' c' : Nat), (binOp .eql 23 (.slice a n c) (.slice none n' c')).run Try.prog w = .ok (.bool a.isNone) w := fun w a n c n' c' => Lib.run_eql_slice_nil w _ _ a n c n' c' Try.underlying23
    go_wp2_with fail
    refine C5.mono ?_
    rintro e w5 ⟨A5, c5, rfl, hnil, own5, b5⟩
    have hz4 := HB4.out.size
    have HB5 := Lib.hid (HB4.out.trans (b5.mono hz4))
    have HO : Hid (w5.ownsRow w.heap.size 2 1 (.slice A5 F.length c5) F.length (ints F)) := ((OwnR.of own5).more hz4 (Nat.le_refl _)).1
    cases F with
    | nil =>
      have hA := hnil rfl
      subst hA
      clear hnil own5 b5 C5 HO
      go_wp2
      go_ret2
      exact ResL.nil G.out HB5.out
    | cons x F =>
      obtain ⟨g5, rfl⟩ := own_addrS own5 (by simp only [List.length_cons]; omega)
      clear hnil own5 b5 C5
      go_wp2
      go_ret2
      exact ResL.of G.out rfl (Nat.le_trans HF.out (by omega)) HO.out HB5.out
end Go.Proofs.Ytnnihdkhblbdgaa
