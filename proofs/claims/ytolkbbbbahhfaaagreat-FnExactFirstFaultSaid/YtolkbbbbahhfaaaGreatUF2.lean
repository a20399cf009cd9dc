/-
  Texts of this seat, joined: what several laws lean on.
-/
import Derived.Test.YtolkbbbbahhfaaaGreatUF1
/-
  The first fault of a tableau, the program's and the model's.
-/
namespace Go.Proofs.YtolkbbbbahhfaaaGreat
open Go.RowKit Fld
set_option linter.unusedVariables false
set_option linter.unusedSimpArgs false
set_option maxRecDepth 100000

/-- where the first number that is not 0 stands, or -1 -/
def fnz : List Int → Int → Int
  | [], _ => -1
  | x :: L, i => if x = 0 then fnz L (i + 1) else i
theorem drop_atF {L : List Int} {j : Nat} {x : Int} (h : L[j]? = some x) : L.drop j = x :: L.drop (j + 1) := by
  have hlt := (List.getElem?_eq_some_iff.1 h).1
  rw [List.getElem?_eq_getElem hlt] at h
  injection h with h
  rw [List.drop_eq_getElem_cons hlt, h]
theorem fnz_next {L : List Int} {j : Nat} {i : Int} (h : L[j]? = some 0) : fnz (L.drop j) i = fnz (L.drop (j + 1)) (i + 1) := by
  rw [drop_atF h, fnz, if_pos rfl]
theorem fnz_stop {L : List Int} {j : Nat} {x i : Int} (h : L[j]? = some x) (hx : x ≠ 0) : fnz (L.drop j) i = i := by
  rw [drop_atF h, fnz, if_neg hx]
theorem fnz_end {L : List Int} {j : Nat} {i : Int} (h : L.length ≤ j) : fnz (L.drop j) i = -1 := by
  rw [List.drop_of_length_le h]; rfl
theorem treesTo_pre : ∀ (d i : Nat), ∃ X, treesTo (i + d) = treesTo i ++ X
  | 0, i => ⟨[], by simp⟩
  | d + 1, i => by
    obtain ⟨X, hX⟩ := treesTo_pre d i
    exact ⟨X ++ Tr.treesL (i + d + 1), by rw [← Nat.add_assoc, treesTo_step, hX, List.append_assoc]⟩
theorem treesTo_at {q i j : Nat} {t : List Int} (hi : i < q) (h : (Tr.treesL (i + 1))[j]? = some t) : (treesTo q)[(treesTo i).length + j]? = some t := by
  obtain ⟨X, hX⟩ := treesTo_pre (q - (i + 1)) (i + 1)
  rw [show i + 1 + (q - (i + 1)) = q by omega, treesTo_step] at hX
  have hj := (List.getElem?_eq_some_iff.1 h).1
  rw [hX, List.append_assoc, List.getElem?_append_right (by omega), Nat.add_sub_cancel_left, List.getElem?_append_left hj]; exact h
def resAll (m : List (List Int)) (b : List Int) (n k : Nat) : List Int := (treesTo k).map (resT m b n)
theorem resAll_at {m : List (List Int)} {b : List Int} {n k j : Nat} {t : List Int} (h : (treesTo k)[j]? = some t) : (resAll m b n k)[j]? = some (resT m b n t) := by
  unfold resAll; rw [List.getElem?_map, h]; rfl
theorem resAll_len (m : List (List Int)) (b : List Int) (n k : Nat) : (resAll m b n k).length = (treesTo k).length := by simp [resAll]
def faultP (m : List (List Int)) (b : List Int) (n k : Nat) : Int := fnz (resAll m b n k) 0
theorem lv_to {k : Nat} (hk : k ≤ 8) {t : List Int} (h : t ∈ treesTo k) : Tr.isLv t = true := by
  unfold treesTo at h
  rw [List.mem_flatMap] at h
  obtain ⟨n, hn, ht⟩ := h
  rw [List.mem_range] at hn
  exact ((trees_all (n := n + 1) (by omega) (by omega)).1 t ht).1
set_option maxHeartbeats 4000000 in
theorem l09Fault_any (A D : Option Addr) (n c d B B' k : Nat) (m : List (List Int)) (b : List Int) (w : World) (hl : m.length = n) (hl' : b.length = n) (hn1 : 1 ≤ n) (hn : n ≤ 8) (hq : Wide m n) (hnum : ∀ r ∈ m, allNum r = true) (hnb : allNum b = true) (hk1 : 1 ≤ k) (hk6 : k ≤ 6) (hB : B ≤ w.heap.size) (hB' : B' ≤ w.heap.size) (h : Mat w B A m) (r : Row w B' D (ints b)) :
    Calls Tryz.prog 34 #[.agg #[.slice A n c, .slice D n d], .int .i64 (k : Int)] w fun e w' => e = .returned (.int .i64 (faultP m b n k)) ∧ Below w.heap.size w w' := by
  have HL := Lib.hid hl
  have HL' := Lib.hid hl'
  have HQ := Lib.hid hq
  have HN := Lib.hid hnum
  have HNB := Lib.hid hnb
  have C1 := fun w' => l03All_any k w' (by omega) (by omega)
  have hlen := treesTo_len k (by omega)
  have HLV : Hid (∀ t ∈ treesTo k, Tr.isLv t = true) := fun t ht => lv_to (by omega) ht
  have HRA : Hid (∀ j t, (treesTo k)[j]? = some t → (resAll m b n k)[j]? = some (resT m b n t)) := fun j t h => resAll_at h
  have HRL := Lib.hid (resAll_len m b n k)
  have HF : Hid (faultP m b n k = fnz ((resAll m b n k).drop 0) (0 : Nat)) := rfl
  obtain ⟨T, hT⟩ : ∃ T, T = treesTo k := ⟨_, rfl⟩
  simp only [← hT] at C1
  rw [← hT] at hlen HLV HRA HRL
  obtain ⟨N, hN⟩ : ∃ N, N = T.length := ⟨_, rfl⟩
  have HNN : Hid (T.length = N) := hN.symm
  simp only [← hN] at C1
  rw [← hN] at hlen HRL
  obtain ⟨FP, hFP⟩ : ∃ F, F = faultP m b n k := ⟨_, rfl⟩
  have HFP := Lib.hid hFP
  rw [← hFP] at HF
  obtain ⟨RA, hRA⟩ : ∃ R, R = resAll m b n k := ⟨_, rfl⟩
  rw [← hRA] at HF HRA HRL
  obtain ⟨W0, hW0⟩ : ∃ W0, W0 = w.alloc (.cells #[.slice A n c, .slice D n d] 29) := ⟨_, rfl⟩
  have HB0 : Hid (Below w.heap.size w W0) := by rw [hW0]; exact (Below.refl _ _).alloc (Nat.le_refl _) _
  have HX0 : Hid (Bx W0 w.heap.size 29 (.slice A n c) (.slice D n d)) := by rw [hW0]; exact Bx.new _ _ _ _
  have hz0' : w.heap.size < W0.heap.size := HX0.out.lt
  have HM0 := Lib.hid (h.below HB0.out hB)
  have HR0 := Lib.hid (r.below HB0.out hB')
  clear hl hl' hq hnum hnb h r hT hN hFP hRA
  go_enter Tryz.func34, Tryz.ntmps34
  go_wp2_with fail
  rw [← hW0]
  clear hW0
  refine (C1 W0).mono ?_
  rintro e w1 ⟨A1, c1, vs1, rfl, own1, b1⟩
  have hs1 := b1.size
  have FM : Hid (Mat w1 w1.heap.size A1 T) := own1.mat
  have HB1 := Lib.hid (HB0.out.trans (b1.mono HB0.out.size))
  have HM1 := Lib.hid (HM0.out.below b1 (by omega))
  have HR1 := Lib.hid (HR0.out.below b1 (by omega))
  have HX1 := Lib.hid (HX0.out.next b1)
  clear own1 b1 C1 HM0 HR0 HX0 HB0
  go_wp2_with fail
  go_loopw [6] (fun i wr => ∃ j : Nat, j ≤ N ∧ i = .int .i64 j ∧ Hid (Below w1.heap.size w1 wr) ∧ Hid (FP = fnz (RA.drop j) (j : Int))) (fun i _ => N - (intOf i).toNat)
  case atStart => exact ⟨0, Nat.zero_le _, rfl, Below.refl _ _, HF⟩
  case round =>
    obtain ⟨j, hj, rfl, HG, HI⟩ := hrel
    by_cases hlt : j < N
    · obtain ⟨t, ht⟩ := at_lt (show j < T.length by rw [HNN.out]; exact hlt)
      have hlv := HLV.out t (List.mem_of_getElem? ht)
      obtain ⟨q1, q8⟩ := lv_bd hlv
      have hsz := HG.out.size
      obtain ⟨b1, o1, Ak, ck, rfl, hb1, hct, hlc, hcm, hrow⟩ := (FM.out.below HG.out (Nat.le_refl _)) j t ht
      have hbx := HX1.out.next HG.out
      have hmm := HM1.out.below HG.out (by omega)
      have hrr := HR1.out.below HG.out (by omega)
      have C1 := fun V (hV : Below wr.heap.size wr V) => l09Residual_any t A D Ak n c d t.length ck B B' w1.heap.size m b V hlv rfl HL.out HL'.out hn1 hn HQ.out HN.out HNB.out (by have := hV.size; omega) (by have := hV.size; omega) (by have := hV.size; omega) (hmm.below hV (by omega)) (hrr.below hV (by omega)) (hrow.below hV (by omega))
      have TA := HRA.out j t ht
      obtain ⟨V9, hV9⟩ : ∃ V : Int, V = resT m b n t := ⟨_, rfl⟩
      rw [← hV9] at TA
      simp only [← hV9] at C1
      have KK : Hid (∀ V, Below wr.heap.size wr V → V.cell? ⟨w.heap.size, 0, none⟩ = some (.slice A n c) ∧ V.cell? ⟨w.heap.size, 1, none⟩ = some (.slice D n d) ∧ V.cell? ⟨b1, o1 + j, none⟩ = some (.slice Ak t.length ck)) := fun V hV => ⟨(hbx.next hV).c0, (hbx.next hV).c1, (hV.cell (p := ⟨b1, o1 + j, none⟩) (show b1 < _ by omega)).trans hct⟩
      have j0 : (0 : Int) ≤ (j : Int) := Int.natCast_nonneg _
      have j1 : (j : Int) < (N : Int) := by omega
      have HTA := Lib.hid TA
      clear ht hlv hV9 TA hrow hmm hrr hbx hct
      go_wp2_with fail
      go_region_held3 (fun V => V.cell? ⟨w.heap.size, 0, none⟩ = some (.slice A n c) ∧ V.cell? ⟨w.heap.size, 1, none⟩ = some (.slice D n d) ∧ V.cell? ⟨b1, o1 + j, none⟩ = some (.slice Ak t.length ck))
        (first | exact KK.out _ (Below.refl _ _) | exact KK.out _ (Below.refl _ _).drew | exact KK.out _ (below_drewN (Below.refl _ _) _) | exact KK.out _ (below_undrawn (a := 1) be3))
        (first
          | (go_at_call 42; refine (C1 _ (by first | exact (Below.refl _ _).drew | exact below_drewN (Below.refl _ _) _)).mono ?_; clear C1; rintro e w3 ⟨rfl, be3⟩))
      have HB3 := Lib.hid (HG.out.trans ((show Below wr.heap.size wr w3 from below_undrawn (a := 1) be3).mono hsz))
      clear be3 KK HG
      by_cases hv : V9 = 0
      · have HI2 : Hid (FP = fnz (RA.drop (j + 1)) ((j + 1 : Nat) : Int)) := by
          rw [Hid, HI.out, fnz_next (by rw [HTA.out, hv]), Int.natCast_add, Int.natCast_one]
        subst hv
        clear HI HTA
        go_wp2
        go_roundw
        case rel => exact ⟨j + 1, by omega, by go_num, HB3, HI2⟩
        case measure => simp [intOf]; omega
      · have tv := bne_t hv
        have HI2 : Hid (FP = (j : Int)) := HI.out.trans (fnz_stop HTA.out hv)
        clear HI HTA hv
        go_wp2
        go_ret
        exact ⟨ret_i64 (by rw [← HFP.out, HI2.out]), HB1.out.trans (HB3.out.mono HB1.out.size)⟩
    · obtain rfl : j = N := by omega
      have HI2 : Hid (FP = -1) := HI.out.trans (fnz_end (by rw [HRL.out]; exact Nat.le_refl _))
      have HB3 := Lib.hid (HB1.out.trans (HG.out.mono HB1.out.size))
      clear HI HG
      go_wp2
      go_ret
      exact ⟨ret_i64 (by rw [← HFP.out, HI2.out]), HB3.out⟩
/-- what FirstFault answers -/
def faultA (m : List (List Int)) (b : List Int) (k : Int) : Int × Int := if isTabB m b = true then (if 1 ≤ k ∧ k ≤ 6 then (if faultP m b b.length k.toNat < 0 then (0, 4) else (faultP m b b.length k.toNat, 0)) else (0, 2)) else (0, 1)
theorem fnz_bd : ∀ (L : List Int) (i : Int), 0 ≤ i → -1 ≤ fnz L i ∧ fnz L i ≤ i + L.length
  | [], i, h => by simp [fnz]; omega
  | x :: L, i, h => by
    unfold fnz
    have := fnz_bd L (i + 1) (by omega)
    rw [List.length_cons]
    split <;> omega
set_option maxHeartbeats 4000000 in
theorem sFirstFault_L (A D : Option Addr) (n c n' d B B' : Nat) (m : List (List Int)) (b : List Int) (k : Int) (w : World) (hl : m.length = n) (hl' : b.length = n') (hn : n ≤ 9223372036854775807) (hn' : n' ≤ 9223372036854775807) (hB : B ≤ w.heap.size) (hB' : B' ≤ w.heap.size) (h : Mat w B A m) (r : Row w B' D (ints b)) (hk : -9223372036854775808 ≤ k ∧ k ≤ 9223372036854775807) :
    Calls Tryz.prog 19 #[.agg #[.slice A n c, .slice D n' d], .int .i64 k] w (ResI (faultA m b k) w) := by
  have hk' := hk
  have HL := Lib.hid hl
  have HL' := Lib.hid hl'
  obtain ⟨k0, k1⟩ := hk
  obtain ⟨W0, hW0⟩ : ∃ W0, W0 = w.alloc (.cells #[.slice A n c, .slice D n' d] 29) := ⟨_, rfl⟩
  have HB : Hid (Below w.heap.size w W0) := by rw [hW0]; exact (Below.refl _ _).alloc (Nat.le_refl _) _
  have HM : Hid (Mat W0 B A m) := h.below HB.out hB
  have HR : Hid (Row W0 B' D (ints b)) := r.below HB.out hB'
  have HX : Hid (Bx W0 w.heap.size 29 (.slice A n c) (.slice D n' d)) := by rw [hW0]; exact Bx.new _ _ _ _
  have hz := HB.out.size
  clear hl hl' h r
  by_cases hok : isTabB m b = true ∧ 1 ≤ k ∧ k ≤ 6
  · obtain ⟨ht, hr⟩ := hok
    obtain ⟨q, rfl⟩ : ∃ q : Nat, k = (q : Int) := ⟨k.toNat, by omega⟩
    have hq1 : 1 ≤ q ∧ q ≤ 6 := by omega
    have G : Hid (faultA m b (q : Int) = if faultP m b n' q < 0 then (0, 4) else (faultP m b n' q, 0)) := by unfold faultA; rw [Hid, if_pos ht, if_pos hr, HL'.out]; rfl
    have K : Hid (codeTN m b (q : Int) = 0) := by unfold codeTN; rw [Hid, if_pos ht, if_pos hr]
    obtain ⟨t1, t2, t3, t4, t5, t6⟩ := isTabB_parts ht
    rw [HL'.out] at t1 t2 t3 t5
    have hnn : n' = n := by rw [← t3]; exact HL.out
    subst hnn
    have HW := Lib.hid t5
    have HNB := Lib.hid t4
    have HN := Lib.hid t6
    have hbd := fnz_bd (resAll m b n' q) 0 (by omega)
    rw [resAll_len] at hbd
    have hlen := treesTo_len q (by omega)
    have C9 := fun w2 => l09Fault_any A D n' c d B B' q m b w2 HL.out HL'.out t1 t2 HW.out HN.out HNB.out hq1.1 hq1.2
    obtain ⟨FP, hFP⟩ : ∃ F, F = faultP m b n' q := ⟨_, rfl⟩
    have hbd2 : -1 ≤ FP ∧ FP ≤ 690 := by rw [hFP]; unfold faultP; omega
    rw [← hFP] at G
    simp only [← hFP] at C9
    clear t3 t4 t5 t6 hbd hlen hFP
    go_enter Tryz.func19, Tryz.ntmps19
    go_wp2_with fail
    rw [← hW0]
    refine (l09Nodes_any A D n' c n' d B B' m b (q : Int) W0 HL.out HL'.out hn hn' (by omega) (by omega) HM.out HR.out hk').mono ?_
    rintro e w2 ⟨rfl, b2⟩
    rw [K.out]
    have HB2 := Lib.hid (HB.out.trans (b2.mono HB.out.size))
    have hz3 := b2.size
    have C0 := C9 w2 (by omega) (by omega) (HM.out.below b2 (by omega)) (HR.out.below b2 (by omega))
    have q0 := (HX.out.next b2).c0
    have q1 := (HX.out.next b2).c1
    clear b2 hW0 ht hk' hr C9
    go_wp2_with fail
    refine C0.mono ?_
    rintro e w3 ⟨rfl, b3⟩
    have HB3 := Lib.hid (HB2.out.trans (b3.mono HB2.out.size))
    clear b3 C0 q0 q1
    by_cases hneg : FP < 0
    · have GR : Hid (faultA m b (q : Int) = (0, 4)) := G.out.trans (if_pos hneg)
      go_wp2
      go_ret2
      exact ResI.of' GR.out HB3.out
    · have GR : Hid (faultA m b (q : Int) = (FP, 0)) := G.out.trans (if_neg hneg)
      have hpos : 0 ≤ FP := by omega
      go_wp2
      go_ret2
      exact ResI.of' GR.out HB3.out
  · have K1 : codeTN m b k = 1 ∧ faultA m b k = (0, 1) ∨ codeTN m b k = 2 ∧ faultA m b k = (0, 2) := by
      unfold codeTN faultA
      by_cases ht : isTabB m b = true
      · rw [if_pos ht, if_pos ht, if_neg (fun h => hok ⟨ht, h⟩), if_neg (fun h => hok ⟨ht, h⟩)]; exact .inr ⟨rfl, rfl⟩
      · rw [if_neg ht, if_neg ht]; exact .inl ⟨rfl, rfl⟩
    clear hok
    rcases K1 with ⟨K, G⟩ | ⟨K, G⟩
    all_goals
      have HK := Lib.hid K
      have HG := Lib.hid G
      clear K G
      go_enter Tryz.func19, Tryz.ntmps19
      go_wp2_with fail
      rw [← hW0]
      refine (l09Nodes_any A D n c n' d B B' m b k W0 HL.out HL'.out hn hn' (by omega) (by omega) HM.out HR.out hk').mono ?_
      rintro e w2 ⟨rfl, b2⟩
      rw [HK.out]
      have HB2 := Lib.hid (HB.out.trans (b2.mono HB.out.size))
      clear b2 hW0 hk'
      go_wp2
      go_ret2
      exact ResI.of' HG.out HB2.out
set_option maxHeartbeats 4000000 in
theorem pFirstFault_L (A D : Option Addr) (n c n' d B B' : Nat) (m : List (List Int)) (b : List Int) (k : Int) (w : World) (hl : m.length = n) (hl' : b.length = n') (hn : n ≤ 9223372036854775807) (hn' : n' ≤ 9223372036854775807) (hB : B ≤ w.heap.size) (hB' : B' ≤ w.heap.size) (h : Mat w B A m) (r : Row w B' D (ints b)) (hk : -9223372036854775808 ≤ k ∧ k ≤ 9223372036854775807) :
    Calls Tryz.prog 20 #[.agg #[.slice A n c, .slice D n' d], .int .i64 k] w (ResI (faultA m b k) w) := by
  have HL := Lib.hid hl
  have HL' := Lib.hid hl'
  obtain ⟨k0, k1⟩ := hk
  obtain ⟨W0, hW0⟩ : ∃ W0, W0 = w.alloc (.cells #[.slice A n c, .slice D n' d] 29) := ⟨_, rfl⟩
  have HB : Hid (Below w.heap.size w W0) := by rw [hW0]; exact (Below.refl _ _).alloc (Nat.le_refl _) _
  have HM : Hid (Mat W0 B A m) := h.below HB.out hB
  have HR : Hid (Row W0 B' D (ints b)) := r.below HB.out hB'
  have HX : Hid (Bx W0 w.heap.size 29 (.slice A n c) (.slice D n' d)) := by rw [hW0]; exact Bx.new _ _ _ _
  have hz := HB.out.size
  clear hl hl' h r
  cases ht : isTabB m b
  · have G : Hid (faultA m b k = (0, 1)) := by unfold faultA; rw [Hid, if_neg (by rw [ht]; simp)]
    go_enter Tryz.func20, Tryz.ntmps20
    go_wp2_with fail
    rw [← hW0]
    refine (isTableau_any A D n c n' d B B' m b W0 HL.out HL'.out hn hn' (by omega) (by omega) HM.out HR.out).mono ?_
    rintro e w2 ⟨rfl, b2⟩
    rw [ht]
    have HB2 := Lib.hid (HB.out.trans (b2.mono HB.out.size))
    clear b2 hW0 ht
    go_wp2
    go_ret2
    exact ResI.of' G.out HB2.out
  · by_cases hr : 1 ≤ k ∧ k ≤ 6
    · obtain ⟨q, rfl⟩ : ∃ q : Nat, k = (q : Int) := ⟨k.toNat, by omega⟩
      have hq1 : 1 ≤ q ∧ q ≤ 6 := by omega
      have G : Hid (faultA m b (q : Int) = if faultP m b n' q < 0 then (0, 4) else (faultP m b n' q, 0)) := by unfold faultA; rw [Hid, if_pos ht, if_pos hr, HL'.out]; rfl
      obtain ⟨t1, t2, t3, t4, t5, t6⟩ := isTabB_parts ht
      rw [HL'.out] at t1 t2 t3 t5
      have hnn : n' = n := by rw [← t3]; exact HL.out
      subst hnn
      have HW := Lib.hid t5
      have HNB := Lib.hid t4
      have HN := Lib.hid t6
      have tk0 : ¬ ((q : Int) < 1) := by omega
      have HRA : Hid (∀ i j t, i < q → (Tr.treesL (i + 1))[j]? = some t → (resAll m b n' q)[(treesTo i).length + j]? = some (resT m b n' t)) := fun i j t hi h => resAll_at (treesTo_at hi h)
      have HRL := Lib.hid (resAll_len m b n' q)
      have HF : Hid (faultP m b n' q = fnz ((resAll m b n' q).drop (treesTo 0).length) (((treesTo 0).length : Nat) : Int)) := rfl
      have HL8 : Hid (∀ i, i ≤ q → (treesTo i).length ≤ 690) := fun i hi => by have := treesTo_len i (by omega); omega
      have HST : Hid (∀ i, (treesTo (i + 1)).length = (treesTo i).length + (Tr.treesL (i + 1)).length) := fun i => by rw [treesTo_step, List.length_append]
      obtain ⟨FP, hFP⟩ : ∃ F, F = faultP m b n' q := ⟨_, rfl⟩
      obtain ⟨RA, hRA⟩ : ∃ R, R = resAll m b n' q := ⟨_, rfl⟩
      rw [← hFP] at G HF
      rw [← hRA] at HF HRA HRL
      clear t3 t4 t5 t6 hr hFP hRA
      go_enter Tryz.func20, Tryz.ntmps20
      go_wp2_with fail
      rw [← hW0]
      refine (isTableau_any A D n' c n' d B B' m b W0 HL.out HL'.out hn hn' (by omega) (by omega) HM.out HR.out).mono ?_
      rintro e w2 ⟨rfl, b2⟩
      rw [ht]
      have HB2 := Lib.hid (HB.out.trans (b2.mono HB.out.size))
      have HM2 := Lib.hid (HM.out.below b2 (by omega))
      have HR2 := Lib.hid (HR.out.below b2 (by omega))
      have q0 := (HX.out.next b2).c0
      have q1 := (HX.out.next b2).c1
      have hz2 := b2.size
      clear b2 hW0 ht
      go_wp2_with fail
      refine (schemeOf_any A D n' c n' d B B' n' m b w2 HL.out HL'.out t2 HW.out (by omega) (by omega) (by omega) (by omega) HM2.out HR2.out).mono ?_
      rintro e w3 ⟨A3, c3, D3, d3, rfl, hc3, hd3, m3, r3, b3⟩
      have HB3 := Lib.hid (HB2.out.trans (b3.mono HB2.out.size))
      obtain ⟨W4, hW4⟩ : ∃ W, W = w3.alloc (.cells #[.slice A3 n' c3, .slice D3 n' d3] 61) := ⟨_, rfl⟩
      have hb4 : Below w3.heap.size w3 W4 := by rw [hW4]; exact (Below.refl _ _).alloc (Nat.le_refl _) _
      have HX4 : Hid (Bx W4 w3.heap.size 61 (.slice A3 n' c3) (.slice D3 n' d3)) := by rw [hW4]; exact Bx.new _ _ _ _
      have HB4 := Lib.hid (HB3.out.trans (hb4.mono HB3.out.size))
      have HM4 := Lib.hid (m3.below hb4 (Nat.le_refl _))
      have HR4 := Lib.hid (r3.below hb4 (Nat.le_refl _))
      have hz4 := hb4.size
      clear b3 q0 q1 m3 r3 hb4
      go_wp2_with fail
      rw [← hW4]
      clear hW4
      go_loopw [7, 8] (fun v i wr => ∃ (j : Nat), j ≤ q ∧ v = .int .i64 (((treesTo j).length : Nat) : Int) ∧ i = .int .i64 ((j : Int) + 1) ∧ Hid (FP = fnz (RA.drop (treesTo j).length) (((treesTo j).length : Nat) : Int)) ∧ Hid (Below W4.heap.size W4 wr)) (fun _ i _ => q + 1 - (intOf i).toNat)
      case atStart => exact ⟨0, Nat.zero_le _, rfl, rfl, HF, Below.refl _ _⟩
      case round =>
        obtain ⟨j, hj, rfl, rfl, HI, HBB⟩ := hrel
        by_cases hlt : j < q
        · have hsz := HBB.out.size
          have hbx := HX4.out.next HBB.out
          have p0 := hbx.c0
          have p1 := hbx.c1
          have C1 := residuals_any A3 D3 n' c3 d3 w3.heap.size w3.heap.size (j + 1) m b wr HL.out HL'.out t1 t2 HW.out HN.out HNB.out (by omega) (by omega) (by omega) (by omega) (HM4.out.below HBB.out (by omega)) (HR4.out.below HBB.out (by omega))
          rw [Int.natCast_add, Int.natCast_one] at C1
          have h690 := HL8.out j (by omega)
          have h691 := HL8.out (j + 1) (by omega)
          have hst := HST.out j
          have HRAj : Hid (∀ x y, (resL m b n' (j + 1))[x]? = some y → RA[(treesTo j).length + x]? = some y) := fun x y hy => by
            unfold resL at hy
            rw [List.getElem?_map, Option.map_eq_some_iff] at hy
            obtain ⟨t, ht, rfl⟩ := hy
            exact HRA.out j x t hlt ht
          have HRLj : Hid ((resL m b n' (j + 1)).length = (Tr.treesL (j + 1)).length) := resL_len m b n' (j + 1)
          have HST1 : Hid ((treesTo (j + 1)).length = (treesTo j).length + (Tr.treesL (j + 1)).length) := hst
          obtain ⟨N5, hN5⟩ : ∃ N, N = (Tr.treesL (j + 1)).length := ⟨_, rfl⟩
          obtain ⟨K5, hK5⟩ : ∃ N, N = (treesTo j).length := ⟨_, rfl⟩
          obtain ⟨R5, hR5⟩ : ∃ R, R = resL m b n' (j + 1) := ⟨_, rfl⟩
          rw [← hN5] at C1 HRLj HST1 hst
          rw [← hK5] at HST1 hst HRAj HI h690 ⊢
          rw [← hR5] at C1 HRAj HRLj
          clear hN5 hK5 hR5 hbx
          have le1 : (j : Int) + 1 ≤ (q : Int) := by omega
          go_wp2_with fail
          refine C1.mono ?_
          rintro e w5 ⟨A5, c5, rfl, own5, b5⟩
          have HR5 := Lib.hid (row_of_own own5)
          have HB5 := Lib.hid (HBB.out.trans (b5.mono hsz))
          clear own5 b5 C1 p0 p1 HBB
          go_wp2_with fail
          go_loop [7, 31] (fun v i => ∃ x : Nat, x ≤ N5 ∧ v = .int .i64 ((K5 + x : Nat) : Int) ∧ i = .int .i64 x ∧ Hid (FP = fnz (RA.drop (K5 + x)) ((K5 + x : Nat) : Int))) (fun _ i => N5 - (intOf i).toNat)
          case atStart => exact ⟨0, Nat.zero_le _, rfl, rfl, HI⟩
          case round =>
            obtain ⟨x, hx, rfl, rfl, HJ⟩ := hrel
            by_cases hxl : x < N5
            · obtain ⟨y, hy⟩ := at_lt (show x < R5.length by rw [HRLj.out]; exact hxl)
              obtain ⟨b6, o6, rfl, _, hc6⟩ := HR5.out x _ (ints_at hy)
              have HY := Lib.hid (HRAj.out x y hy)
              have x0 : (0 : Int) ≤ (x : Int) := Int.natCast_nonneg _
              by_cases hv : y = 0
              · have HI2 : Hid (FP = fnz (RA.drop (K5 + (x + 1))) ((K5 + (x + 1) : Nat) : Int)) := by
                  rw [Hid, HJ.out, fnz_next (by rw [HY.out, hv]), ← Nat.add_assoc, Int.natCast_add (K5 + x) 1, Int.natCast_one]
                have hwr : IntKind.i64.wrap (((K5 + x : Nat) : Int) + 1) = ((K5 + (x + 1) : Nat) : Int) := by rw [IntWalk.i64_in _ (by omega)]; omega
                subst hv
                clear HJ HY hy
                go_wp2
                go_round
                case rel => exact ⟨x + 1, by omega, by go_num, by go_num, HI2⟩
                case measure => simp [intOf]; omega
              · have tv := bne_t hv
                have HI2 : Hid (FP = ((K5 + x : Nat) : Int)) := HJ.out.trans (fnz_stop HY.out hv)
                have GR : Hid (faultA m b (q : Int) = (((K5 + x : Nat) : Int), 0)) := by rw [Hid, G.out, HI2.out, if_neg (by omega)]
                clear HJ HY hy hv
                go_wp2
                go_ret2
                exact ResI.of' GR.out (HB4.out.trans (HB5.out.mono HB4.out.size))
            · obtain rfl : x = N5 := by omega
              have HJ2 : Hid (FP = fnz (RA.drop (treesTo (j + 1)).length) (((treesTo (j + 1)).length : Nat) : Int)) := by rw [HST1.out]; exact HJ.out
              have HEQ : Hid (((K5 + x : Nat) : Int) = (((treesTo (j + 1)).length : Nat) : Int)) := by rw [HST1.out]; rfl
              clear HJ
              go_wp2
              go_roundw
              case rel => exact ⟨j + 1, by omega, by rw [← HEQ.out], by go_num, HJ2, HB5⟩
              case measure => simp [intOf]; omega
        · obtain rfl : j = q := by omega
          have HI2 : Hid (FP = -1) := HI.out.trans (fnz_end (by rw [HRL.out]; exact Nat.le_refl _))
          have GR : Hid (faultA m b (j : Int) = (0, 4)) := by rw [Hid, G.out, HI2.out]; rfl
          have HBF := Lib.hid (HB4.out.trans (HBB.out.mono HB4.out.size))
          have le1 : ¬ (j : Int) + 1 ≤ (j : Int) := by omega
          clear HI HBB
          go_wp2
          go_ret2
          exact ResI.of' GR.out HBF.out
    · have G : Hid (faultA m b k = (0, 2)) := by unfold faultA; rw [Hid, if_pos ht, if_neg hr]
      by_cases hlo : k < 1
      · go_enter Tryz.func20, Tryz.ntmps20
        go_wp2_with fail
        rw [← hW0]
        refine (isTableau_any A D n c n' d B B' m b W0 HL.out HL'.out hn hn' (by omega) (by omega) HM.out HR.out).mono ?_
        rintro e w2 ⟨rfl, b2⟩
        rw [ht]
        have HB2 := Lib.hid (HB.out.trans (b2.mono HB.out.size))
        clear b2 hW0 ht
        go_wp2
        go_ret2
        exact ResI.of' G.out HB2.out
      · have hhi : 6 < k := by omega
        go_enter Tryz.func20, Tryz.ntmps20
        go_wp2_with fail
        rw [← hW0]
        refine (isTableau_any A D n c n' d B B' m b W0 HL.out HL'.out hn hn' (by omega) (by omega) HM.out HR.out).mono ?_
        rintro e w2 ⟨rfl, b2⟩
        rw [ht]
        have HB2 := Lib.hid (HB.out.trans (b2.mono HB.out.size))
        clear b2 hW0 ht
        go_wp2
        go_ret2
        exact ResI.of' G.out HB2.out
end Go.Proofs.YtolkbbbbahhfaaaGreat
