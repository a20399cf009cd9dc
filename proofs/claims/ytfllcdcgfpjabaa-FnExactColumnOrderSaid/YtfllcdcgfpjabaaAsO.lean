/-
  The numbers up to which a tableau meets its assumptions: the model's.
-/
import Derived.Test.YtfllcdcgfpjabaaAsM
import Derived.Test.YtfllcdcgfpjabaaResBI
import Derived.Test.YtfllcdcgfpjabaaResO
namespace Go.Proofs.Ytfllcdcgfpjabaa
open Go.RowKit Fld
set_option linter.unusedVariables false
set_option linter.unusedSimpArgs false
set_option maxRecDepth 100000

theorem l11Sum_any (A D : Option Addr) (n c d B B' k i : Nat) (kd : Int) (m : List (List Int)) (b : List Int) (w : World) (hl : m.length = n) (hl' : b.length = n) (hn1 : 1 ≤ n) (hn : n ≤ 8) (hq : Wide m n) (hnum : ∀ r ∈ m, allNum r = true) (hnb : allNum b = true) (k0 : 0 ≤ kd) (k2 : kd ≤ 2) (hk : k < 16) (hi : i < n) (hB : B ≤ w.heap.size) (hB' : B' ≤ w.heap.size) (h : Mat w B A m) (r : Row w B' D (ints b)) :
    Calls Try.prog 72 #[.agg #[.slice A n c, .slice D n d], .int .i64 kd, .int .i64 ((k : Int) + 1), .int .i64 i] w (SumIs b m (appL m (List.replicate n 1)) n kd.toNat k i w) := by
  have e : kd = 0 ∨ kd = 1 ∨ kd = 2 := by omega
  rcases e with rfl | rfl | rfl
  · exact l11Sum0_any A D n c d B B' k i m b w hl hl' hn1 hn hq hnum hnb hk hi hB hB' h r
  · exact l11Sum1_any A D n c d B B' k i m b w hl hl' hn1 hn hq hnum hnb hk hi hB hB' h r
  · exact l11Sum2_any A D n c d B B' k i m b w hl hl' hn1 hn hq hnum hnb hk hi hB hB' h r
set_option maxHeartbeats 2000000 in
theorem l11Order_any (A D : Option Addr) (n c d B B' : Nat) (kd : Int) (m : List (List Int)) (b : List Int) (w : World) (hl : m.length = n) (hl' : b.length = n) (hn1 : 1 ≤ n) (hn : n ≤ 8) (hq : Wide m n) (hnum : ∀ r ∈ m, allNum r = true) (hnb : allNum b = true) (k0 : 0 ≤ kd) (k2 : kd ≤ 2) (hB : B ≤ w.heap.size) (hB' : B' ≤ w.heap.size) (h : Mat w B A m) (r : Row w B' D (ints b)) :
    Calls Try.prog 42 #[.agg #[.slice A n c, .slice D n d], .int .i64 kd] w fun e w' => e = .returned (.int .i64 ((ordK m b kd.toNat : Nat) : Int)) ∧ Below w.heap.size w w' := by
  have HL' := Lib.hid hl'
  obtain ⟨W0, hW0⟩ : ∃ W0, W0 = w.alloc (.cells #[.slice A n c, .slice D n d] 29) := ⟨_, rfl⟩
  have HB : Hid (Below w.heap.size w W0) := by rw [hW0]; exact (Below.refl _ _).alloc (Nat.le_refl _) _
  have HM : Hid (Mat W0 B A m) := h.below HB.out hB
  have HR : Hid (Row W0 B' D (ints b)) := r.below HB.out hB'
  have HX : Hid (Bx W0 w.heap.size 29 (.slice A n c) (.slice D n d)) := by rw [hW0]; exact Bx.new _ _ _ _
  have hz := HB.out.size
  have CS := fun k i (hk : k < 16) (hi : i < n) V (hV : Below W0.heap.size W0 V) => l11Sum_any A D n c d B B' k i kd m b V hl hl' hn1 hn hq hnum hnb k0 k2 hk hi (by have := hV.size; omega) (by have := hV.size; omega) (HM.out.below hV (by omega)) (HR.out.below hV (by omega))
  obtain ⟨cl, hcl⟩ : ∃ C, C = appL m (List.replicate n 1) := ⟨_, rfl⟩
  rw [← hcl] at CS
  have HCL := Lib.hid hcl
  clear hl hl' hq hnum hnb h r hcl
  go_enter Try.func42, Try.ntmps42
  go_wp2_with fail
  rw [← hW0]
  clear hW0
  go_loopw [5] (fun kv wr => ∃ k : Nat, k ≤ 16 ∧ kv = .int .i64 ((k : Int) + 1) ∧ Hid (∀ j, j < k → metK b m cl n kd.toNat j) ∧ Hid (Below W0.heap.size W0 wr)) (fun kv _ => 17 - (intOf kv).toNat)
  case atStart => exact ⟨0, by omega, rfl, fun j hj => by omega, Below.refl _ _⟩
  case round =>
    obtain ⟨k, hk, rfl, HK, HBB⟩ := hrel
    by_cases hlt : k < 16
    · have tk : (k : Int) + 1 ≤ 16 := by omega
      go_wp2_with fail
      generalize wo : wr = wq at *
      go_loopw [6] (fun iv wr => ∃ i : Nat, i ≤ n ∧ iv = .int .i64 i ∧ Hid (∀ j, j < i → metI b m cl n kd.toNat k j) ∧ Hid (Below W0.heap.size W0 wr)) (fun iv _ => n - (intOf iv).toNat)
      case atStart => exact ⟨0, by omega, rfl, fun j hj => by omega, HBB⟩
      case round =>
        obtain ⟨i, hi, rfl, HI, HBC⟩ := hrel
        have HX1 := HX.out.next HBC.out
        have q0 := HX1.c0
        have q1 := HX1.c1
        by_cases hil : i < n
        · have C := CS k i hlt hil wr HBC.out
          clear HX1
          go_wp2_with fail
          refine C.mono ?_
          rintro e w2 ⟨v, rfl, hv, b2⟩
          have HB2 := Lib.hid (HBC.out.trans (b2.mono HBC.out.size))
          clear C b2 q0 q1
          by_cases hv0 : v = 0
          · have G : Hid (∀ j, j < i + 1 → metI b m cl n kd.toNat k j) := fun j hj => by
              by_cases e : j = i
              · rw [e]; exact hv.1 hv0
              · exact HI.out j (by omega)
            subst hv0
            clear hv HI HBC
            go_wp2
            go_roundw
            case rel => exact ⟨i + 1, by omega, by go_num, G, HB2⟩
            case measure => simp [intOf]; omega
          · have G : Hid (ordK m b kd.toNat = k) := ordK_no HL'.out HCL.out hlt HK.out hil (fun h => hv0 (hv.2 h))
            have tv := bne_t hv0
            have HBF := Lib.hid (HB.out.trans (HB2.out.mono HB.out.size))
            have hwr : IntKind.i64.wrap ((k : Int) + 1 - 1) = (k : Int) := by rw [IntWalk.i64_in _ (by omega)]; omega
            clear hv hv0 HI HBC HBB HB2
            go_wp2
            go_ret
            exact ⟨ret_i64 (by rw [G.out]), HBF.out⟩
        · obtain rfl : i = n := by omega
          have G : Hid (∀ j, j < k + 1 → metK b m cl i kd.toNat j) := fun j hj => by
            by_cases e : j = k
            · rw [e]; exact HI.out
            · exact HK.out j (by omega)
          clear HI HX1
          go_wp2
          go_roundw
          case rel => exact ⟨k + 1, by omega, by go_num, G, HBC⟩
          case measure => simp [intOf]; omega
    · obtain rfl : k = 16 := by omega
      have G : Hid (ordK m b kd.toNat = 16) := ordK_yes HL'.out HCL.out HK.out
      have HBF := Lib.hid (HB.out.trans (HBB.out.mono HB.out.size))
      clear HK HBB
      go_wp2
      go_ret
      exact ⟨ret_i64 (by rw [G.out]; rfl), HBF.out⟩
set_option maxHeartbeats 2000000 in
theorem sQuadratureOrder_L (A D : Option Addr) (n c n' d B B' : Nat) (m : List (List Int)) (b : List Int) (w : World) (hl : m.length = n) (hl' : b.length = n') (hn : n ≤ 9223372036854775807) (hn' : n' ≤ 9223372036854775807) (hB : B ≤ w.heap.size) (hB' : B' ≤ w.heap.size) (h : Mat w B A m) (r : Row w B' D (ints b)) :
    Calls Try.prog 13 #[.agg #[.slice A n c, .slice D n' d]] w (ResI (quadratureA m b) w) := by
  have HL := Lib.hid hl
  have HL' := Lib.hid hl'
  obtain ⟨W0, hW0⟩ : ∃ W0, W0 = w.alloc (.cells #[.slice A n c, .slice D n' d] 29) := ⟨_, rfl⟩
  have HB : Hid (Below w.heap.size w W0) := by rw [hW0]; exact (Below.refl _ _).alloc (Nat.le_refl _) _
  have HM : Hid (Mat W0 B A m) := h.below HB.out hB
  have HR : Hid (Row W0 B' D (ints b)) := r.below HB.out hB'
  have HX : Hid (Bx W0 w.heap.size 29 (.slice A n c) (.slice D n' d)) := by rw [hW0]; exact Bx.new _ _ _ _
  have hz := HB.out.size
  clear hl hl' h r
  cases ht : isTabB m b
  · have G : Hid (quadratureA m b = (0, 1)) := by unfold quadratureA kindA; rw [Hid, ht]; rfl
    go_enter Try.func13, Try.ntmps13
    go_wp2_with fail
    rw [← hW0]
    refine (l09Is_any A D n c n' d B B' m b W0 HL.out HL'.out hn hn' (by omega) (by omega) HM.out HR.out).mono ?_
    rintro e w2 ⟨rfl, b2⟩
    rw [ht]
    have HB2 := Lib.hid (HB.out.trans (b2.mono HB.out.size))
    clear b2 hW0 ht
    go_wp2
    go_ret2
    exact ResI.of' G.out HB2.out
  · obtain ⟨t1, t2, t3, t4, t5, t6⟩ := isTabB_parts ht
    rw [HL'.out] at t1 t2 t3 t5
    have hnn : n' = n := by rw [← t3]; exact HL.out
    subst hnn
    have HW := Lib.hid t5
    have HNB := Lib.hid t4
    have HN := Lib.hid t6
    clear t3 t4 t5 t6
    have G : Hid (quadratureA m b = (((ordK m b 0 : Nat) : Int), 0)) := by unfold quadratureA kindA; rw [Hid, ht]; rfl
    go_enter Try.func13, Try.ntmps13
    go_wp2_with fail
    rw [← hW0]
    refine (l09Is_any A D n' c n' d B B' m b W0 HL.out HL'.out hn hn' (by omega) (by omega) HM.out HR.out).mono ?_
    rintro e w2 ⟨rfl, b2⟩
    rw [ht]
    have HB2 := Lib.hid (HB.out.trans (b2.mono HB.out.size))
    have HM2 := Lib.hid (HM.out.below b2 (by omega))
    have HR2 := Lib.hid (HR.out.below b2 (by omega))
    have HX2 := HX.out.next b2
    have hz2 := b2.size
    have CO := fun V (hV : Below w2.heap.size w2 V) kd k0 k2 => l11Order_any A D n' c d B B' kd m b V HL.out HL'.out t1 t2 HW.out HN.out HNB.out k0 k2 (by have := hV.size; omega) (by have := hV.size; omega) (HM2.out.below hV (by omega)) (HR2.out.below hV (by omega))
    have q0 := HX2.c0
    have q1 := HX2.c1
    clear b2 hW0 ht HX2
    go_wp2_with fail
    refine (CO _ (Below.refl _ _) 0 (by omega) (by omega)).mono ?_
    rintro e w3 ⟨rfl, b3⟩
    have HB3 := Lib.hid (HB2.out.trans (b3.mono HB2.out.size))
    rw [show ((0 : Int).toNat) = 0 from rfl]
    clear b3 q0 q1 CO
    go_wp2
    go_ret2
    exact ResI.of' G.out HB3.out
set_option maxHeartbeats 2000000 in
theorem sStageOrderOf_L (A D : Option Addr) (n c n' d B B' : Nat) (m : List (List Int)) (b : List Int) (w : World) (hl : m.length = n) (hl' : b.length = n') (hn : n ≤ 9223372036854775807) (hn' : n' ≤ 9223372036854775807) (hB : B ≤ w.heap.size) (hB' : B' ≤ w.heap.size) (h : Mat w B A m) (r : Row w B' D (ints b)) :
    Calls Try.prog 17 #[.agg #[.slice A n c, .slice D n' d]] w (ResI (stageOA m b) w) := by
  have HL := Lib.hid hl
  have HL' := Lib.hid hl'
  obtain ⟨W0, hW0⟩ : ∃ W0, W0 = w.alloc (.cells #[.slice A n c, .slice D n' d] 29) := ⟨_, rfl⟩
  have HB : Hid (Below w.heap.size w W0) := by rw [hW0]; exact (Below.refl _ _).alloc (Nat.le_refl _) _
  have HM : Hid (Mat W0 B A m) := h.below HB.out hB
  have HR : Hid (Row W0 B' D (ints b)) := r.below HB.out hB'
  have HX : Hid (Bx W0 w.heap.size 29 (.slice A n c) (.slice D n' d)) := by rw [hW0]; exact Bx.new _ _ _ _
  have hz := HB.out.size
  clear hl hl' h r
  cases ht : isTabB m b
  · have G : Hid (stageOA m b = (0, 1)) := by unfold stageOA kindA; rw [Hid, ht]; rfl
    go_enter Try.func17, Try.ntmps17
    go_wp2_with fail
    rw [← hW0]
    refine (l09Is_any A D n c n' d B B' m b W0 HL.out HL'.out hn hn' (by omega) (by omega) HM.out HR.out).mono ?_
    rintro e w2 ⟨rfl, b2⟩
    rw [ht]
    have HB2 := Lib.hid (HB.out.trans (b2.mono HB.out.size))
    clear b2 hW0 ht
    go_wp2
    go_ret2
    exact ResI.of' G.out HB2.out
  · obtain ⟨t1, t2, t3, t4, t5, t6⟩ := isTabB_parts ht
    rw [HL'.out] at t1 t2 t3 t5
    have hnn : n' = n := by rw [← t3]; exact HL.out
    subst hnn
    have HW := Lib.hid t5
    have HNB := Lib.hid t4
    have HN := Lib.hid t6
    clear t3 t4 t5 t6
    have G : Hid (stageOA m b = (((ordK m b 1 : Nat) : Int), 0)) := by unfold stageOA kindA; rw [Hid, ht]; rfl
    go_enter Try.func17, Try.ntmps17
    go_wp2_with fail
    rw [← hW0]
    refine (l09Is_any A D n' c n' d B B' m b W0 HL.out HL'.out hn hn' (by omega) (by omega) HM.out HR.out).mono ?_
    rintro e w2 ⟨rfl, b2⟩
    rw [ht]
    have HB2 := Lib.hid (HB.out.trans (b2.mono HB.out.size))
    have HM2 := Lib.hid (HM.out.below b2 (by omega))
    have HR2 := Lib.hid (HR.out.below b2 (by omega))
    have HX2 := HX.out.next b2
    have hz2 := b2.size
    have CO := fun V (hV : Below w2.heap.size w2 V) kd k0 k2 => l11Order_any A D n' c d B B' kd m b V HL.out HL'.out t1 t2 HW.out HN.out HNB.out k0 k2 (by have := hV.size; omega) (by have := hV.size; omega) (HM2.out.below hV (by omega)) (HR2.out.below hV (by omega))
    have q0 := HX2.c0
    have q1 := HX2.c1
    clear b2 hW0 ht HX2
    go_wp2_with fail
    refine (CO _ (Below.refl _ _) 1 (by omega) (by omega)).mono ?_
    rintro e w3 ⟨rfl, b3⟩
    have HB3 := Lib.hid (HB2.out.trans (b3.mono HB2.out.size))
    rw [show ((1 : Int).toNat) = 1 from rfl]
    clear b3 q0 q1 CO
    go_wp2
    go_ret2
    exact ResI.of' G.out HB3.out
set_option maxHeartbeats 2000000 in
theorem sColumnOrder_L (A D : Option Addr) (n c n' d B B' : Nat) (m : List (List Int)) (b : List Int) (w : World) (hl : m.length = n) (hl' : b.length = n') (hn : n ≤ 9223372036854775807) (hn' : n' ≤ 9223372036854775807) (hB : B ≤ w.heap.size) (hB' : B' ≤ w.heap.size) (h : Mat w B A m) (r : Row w B' D (ints b)) :
    Calls Try.prog 19 #[.agg #[.slice A n c, .slice D n' d]] w (ResI (columnA m b) w) := by
  have HL := Lib.hid hl
  have HL' := Lib.hid hl'
  obtain ⟨W0, hW0⟩ : ∃ W0, W0 = w.alloc (.cells #[.slice A n c, .slice D n' d] 29) := ⟨_, rfl⟩
  have HB : Hid (Below w.heap.size w W0) := by rw [hW0]; exact (Below.refl _ _).alloc (Nat.le_refl _) _
  have HM : Hid (Mat W0 B A m) := h.below HB.out hB
  have HR : Hid (Row W0 B' D (ints b)) := r.below HB.out hB'
  have HX : Hid (Bx W0 w.heap.size 29 (.slice A n c) (.slice D n' d)) := by rw [hW0]; exact Bx.new _ _ _ _
  have hz := HB.out.size
  clear hl hl' h r
  cases ht : isTabB m b
  · have G : Hid (columnA m b = (0, 1)) := by unfold columnA kindA; rw [Hid, ht]; rfl
    go_enter Try.func19, Try.ntmps19
    go_wp2_with fail
    rw [← hW0]
    refine (l09Is_any A D n c n' d B B' m b W0 HL.out HL'.out hn hn' (by omega) (by omega) HM.out HR.out).mono ?_
    rintro e w2 ⟨rfl, b2⟩
    rw [ht]
    have HB2 := Lib.hid (HB.out.trans (b2.mono HB.out.size))
    clear b2 hW0 ht
    go_wp2
    go_ret2
    exact ResI.of' G.out HB2.out
  · obtain ⟨t1, t2, t3, t4, t5, t6⟩ := isTabB_parts ht
    rw [HL'.out] at t1 t2 t3 t5
    have hnn : n' = n := by rw [← t3]; exact HL.out
    subst hnn
    have HW := Lib.hid t5
    have HNB := Lib.hid t4
    have HN := Lib.hid t6
    clear t3 t4 t5 t6
    have G : Hid (columnA m b = (((ordK m b 2 : Nat) : Int), 0)) := by unfold columnA kindA; rw [Hid, ht]; rfl
    go_enter Try.func19, Try.ntmps19
    go_wp2_with fail
    rw [← hW0]
    refine (l09Is_any A D n' c n' d B B' m b W0 HL.out HL'.out hn hn' (by omega) (by omega) HM.out HR.out).mono ?_
    rintro e w2 ⟨rfl, b2⟩
    rw [ht]
    have HB2 := Lib.hid (HB.out.trans (b2.mono HB.out.size))
    have HM2 := Lib.hid (HM.out.below b2 (by omega))
    have HR2 := Lib.hid (HR.out.below b2 (by omega))
    have HX2 := HX.out.next b2
    have hz2 := b2.size
    have CO := fun V (hV : Below w2.heap.size w2 V) kd k0 k2 => l11Order_any A D n' c d B B' kd m b V HL.out HL'.out t1 t2 HW.out HN.out HNB.out k0 k2 (by have := hV.size; omega) (by have := hV.size; omega) (HM2.out.below hV (by omega)) (HR2.out.below hV (by omega))
    have q0 := HX2.c0
    have q1 := HX2.c1
    clear b2 hW0 ht HX2
    go_wp2_with fail
    refine (CO _ (Below.refl _ _) 2 (by omega) (by omega)).mono ?_
    rintro e w3 ⟨rfl, b3⟩
    have HB3 := Lib.hid (HB2.out.trans (b3.mono HB2.out.size))
    rw [show ((2 : Int).toNat) = 2 from rfl]
    clear b3 q0 q1 CO
    go_wp2
    go_ret2
    exact ResI.of' G.out HB3.out
set_option maxHeartbeats 2000000 in
theorem sImpliedOrder_L (A D : Option Addr) (n c n' d B B' : Nat) (m : List (List Int)) (b : List Int) (w : World) (hl : m.length = n) (hl' : b.length = n') (hn : n ≤ 9223372036854775807) (hn' : n' ≤ 9223372036854775807) (hB : B ≤ w.heap.size) (hB' : B' ≤ w.heap.size) (h : Mat w B A m) (r : Row w B' D (ints b)) :
    Calls Try.prog 23 #[.agg #[.slice A n c, .slice D n' d]] w (ResI (impliedA m b) w) := by
  have HL := Lib.hid hl
  have HL' := Lib.hid hl'
  obtain ⟨W0, hW0⟩ : ∃ W0, W0 = w.alloc (.cells #[.slice A n c, .slice D n' d] 29) := ⟨_, rfl⟩
  have HB : Hid (Below w.heap.size w W0) := by rw [hW0]; exact (Below.refl _ _).alloc (Nat.le_refl _) _
  have HM : Hid (Mat W0 B A m) := h.below HB.out hB
  have HR : Hid (Row W0 B' D (ints b)) := r.below HB.out hB'
  have HX : Hid (Bx W0 w.heap.size 29 (.slice A n c) (.slice D n' d)) := by rw [hW0]; exact Bx.new _ _ _ _
  have hz := HB.out.size
  clear hl hl' h r
  cases ht : isTabB m b
  · have G : Hid (impliedA m b = (0, 1)) := by unfold impliedA; rw [Hid, ht]; rfl
    go_enter Try.func23, Try.ntmps23
    go_wp2_with fail
    rw [← hW0]
    refine (l09Is_any A D n c n' d B B' m b W0 HL.out HL'.out hn hn' (by omega) (by omega) HM.out HR.out).mono ?_
    rintro e w2 ⟨rfl, b2⟩
    rw [ht]
    have HB2 := Lib.hid (HB.out.trans (b2.mono HB.out.size))
    clear b2 hW0 ht
    go_wp2
    go_ret2
    exact ResI.of' G.out HB2.out
  · obtain ⟨t1, t2, t3, t4, t5, t6⟩ := isTabB_parts ht
    rw [HL'.out] at t1 t2 t3 t5
    have hnn : n' = n := by rw [← t3]; exact HL.out
    subst hnn
    have HW := Lib.hid t5
    have HNB := Lib.hid t4
    have HN := Lib.hid t6
    clear t3 t4 t5 t6
    have G : Hid (impliedA m b = (min4 ((ordK m b 0 : Nat) : Int) (2 * ((ordK m b 1 : Nat) : Int) + 2) (((ordK m b 1 : Nat) : Int) + ((ordK m b 2 : Nat) : Int) + 1), 0)) := by unfold impliedA; rw [Hid, ht]; rfl
    go_enter Try.func23, Try.ntmps23
    go_wp2_with fail
    rw [← hW0]
    refine (l09Is_any A D n' c n' d B B' m b W0 HL.out HL'.out hn hn' (by omega) (by omega) HM.out HR.out).mono ?_
    rintro e w2 ⟨rfl, b2⟩
    rw [ht]
    have HB2 := Lib.hid (HB.out.trans (b2.mono HB.out.size))
    have HM2 := Lib.hid (HM.out.below b2 (by omega))
    have HR2 := Lib.hid (HR.out.below b2 (by omega))
    have HX2 := HX.out.next b2
    have hz2 := b2.size
    have CO := fun V (hV : Below w2.heap.size w2 V) kd k0 k2 => l11Order_any A D n' c d B B' kd m b V HL.out HL'.out t1 t2 HW.out HN.out HNB.out k0 k2 (by have := hV.size; omega) (by have := hV.size; omega) (HM2.out.below hV (by omega)) (HR2.out.below hV (by omega))
    have q0 := HX2.c0
    have q1 := HX2.c1
    clear b2 hW0 ht
    have HX2' := Lib.hid HX2
    clear HX2
    go_wp2_with fail
    refine (CO _ (Below.refl _ _) 1 (by omega) (by omega)).mono ?_
    rintro e w3 ⟨rfl, b3⟩
    have HB3 := Lib.hid (HB2.out.trans (b3.mono HB2.out.size))
    have KK : Hid (∀ V, Below w3.heap.size w3 V → V.cell? ⟨w.heap.size, 0, none⟩ = some (.slice A n' c) ∧ V.cell? ⟨w.heap.size, 1, none⟩ = some (.slice D n' d)) := fun V hV => ⟨((HX2'.out.next b3).next hV).c0, ((HX2'.out.next b3).next hV).c1⟩
    have C1 := fun V (hV : Below w3.heap.size w3 V) kd k0 k2 => CO V (b3.trans (hV.mono b3.size)) kd k0 k2
    have C2 := C1
    have hz3 := b3.size
    rw [show ((1 : Int).toNat) = 1 from rfl]
    have o1 := ordK_le m b 1
    obtain ⟨q, hq⟩ : ∃ q, q = ordK m b 1 := ⟨_, rfl⟩
    rw [← hq] at G o1 ⊢
    have o2 := ordK_le m b 2
    have hmin : ∀ (ts : Array TypeId) (t : TypeId) (x y z : Int) (W : World), (Builtin.min_ ts t #[.int .i64 6, .int .i64 x, .int .i64 y, .int .i64 z]).run Try.prog W = .ok (.int .i64 (min4 x y z)) W := fun ts t x y z W => run_min4 ts t x y z W
    have hw1 : IntKind.i64.wrap (2 * (q : Int)) = 2 * (q : Int) := IntWalk.i64_in _ (by omega)
    have hw2 : IntKind.i64.wrap (2 * (q : Int) + 2) = 2 * (q : Int) + 2 := IntWalk.i64_in _ (by omega)
    have hw3 : IntKind.i64.wrap ((q : Int) + (ordK m b 2 : Nat)) = (q : Int) + (ordK m b 2 : Nat) := IntWalk.i64_in _ (by omega)
    have hw4 : IntKind.i64.wrap ((q : Int) + (ordK m b 2 : Nat) + 1) = (q : Int) + (ordK m b 2 : Nat) + 1 := IntWalk.i64_in _ (by omega)
    clear b3 q0 q1 CO hq
    go_wp2_with fail
    go_region_held3 (fun V => V.cell? ⟨w.heap.size, 0, none⟩ = some (.slice A n' c) ∧ V.cell? ⟨w.heap.size, 1, none⟩ = some (.slice D n' d))
      (first | exact KK.out _ (Below.refl _ _) | exact KK.out _ (Below.refl _ _).drew | exact KK.out _ (below_drewN (Below.refl _ _) _) | exact KK.out _ b4 | exact KK.out _ b5 | exact KK.out _ (below_undrawn (a := 1) b4) | exact KK.out _ ((below_undrawn (a := 1) b4).trans (b5.mono (below_undrawn (a := 1) b4).size)) | exact KK.out _ (b4.trans (b5.mono b4.size)))
      (first
        | (go_at_call 42; refine (C1 _ (by first | exact Below.refl _ _ | exact (Below.refl _ _).drew | exact below_drewN (Below.refl _ _) _) _ (by omega) (by omega)).mono ?_; clear C1; rintro e w4 ⟨rfl, b4⟩)
        | (go_at_call 42; refine (C2 _ (by first | exact b4 | exact below_undrawn (a := 1) b4) _ (by omega) (by omega)).mono ?_; clear C2; rintro e w5 ⟨rfl, b5⟩))
    have hb4 : Below w3.heap.size w3 w4 := below_undrawn (a := 1) b4
    have HBF := Lib.hid (HB3.out.trans ((hb4.trans (b5.mono hb4.size)).mono HB3.out.size))
    clear b4 b5 hb4 KK
    go_wp2
    go_ret2
    exact ResI.of' G.out HBF.out
set_option maxHeartbeats 2000000 in
theorem sMeetsAssumption_L (A D : Option Addr) (n c n' d B B' : Nat) (m : List (List Int)) (b : List Int) (kd k : Int) (w : World) (hkd : -9223372036854775808 ≤ kd ∧ kd ≤ 9223372036854775807) (hk : -9223372036854775808 ≤ k ∧ k ≤ 9223372036854775807) (hl : m.length = n) (hl' : b.length = n') (hn : n ≤ 9223372036854775807) (hn' : n' ≤ 9223372036854775807) (hB : B ≤ w.heap.size) (hB' : B' ≤ w.heap.size) (h : Mat w B A m) (r : Row w B' D (ints b)) :
    Calls Try.prog 21 #[.agg #[.slice A n c, .slice D n' d], .int .i64 kd, .int .i64 k] w (ResBI (meetsA m b kd k) w) := by
  have HL := Lib.hid hl
  have HL' := Lib.hid hl'
  obtain ⟨W0, hW0⟩ : ∃ W0, W0 = w.alloc (.cells #[.slice A n c, .slice D n' d] 29) := ⟨_, rfl⟩
  have HB : Hid (Below w.heap.size w W0) := by rw [hW0]; exact (Below.refl _ _).alloc (Nat.le_refl _) _
  have HM : Hid (Mat W0 B A m) := h.below HB.out hB
  have HR : Hid (Row W0 B' D (ints b)) := r.below HB.out hB'
  have HX : Hid (Bx W0 w.heap.size 29 (.slice A n c) (.slice D n' d)) := by rw [hW0]; exact Bx.new _ _ _ _
  have hz := HB.out.size
  clear hl hl' h r
  cases ht : isTabB m b
  · have G : Hid (meetsA m b kd k = (false, 1)) := by unfold meetsA; rw [Hid, ht]; rfl
    go_enter Try.func21, Try.ntmps21
    go_wp2_with fail
    rw [← hW0]
    refine (l09Is_any A D n c n' d B B' m b W0 HL.out HL'.out hn hn' (by omega) (by omega) HM.out HR.out).mono ?_
    rintro e w2 ⟨rfl, b2⟩
    rw [ht]
    have HB2 := Lib.hid (HB.out.trans (b2.mono HB.out.size))
    clear b2 hW0 ht
    go_wp2
    go_ret2
    exact ResBI.of G.out HB2.out
  · obtain ⟨t1, t2, t3, t4, t5, t6⟩ := isTabB_parts ht
    rw [HL'.out] at t1 t2 t3 t5
    have hnn : n' = n := by rw [← t3]; exact HL.out
    subst hnn
    have HW := Lib.hid t5
    have HNB := Lib.hid t4
    have HN := Lib.hid t6
    clear t3 t4 t5 t6
    go_enter Try.func21, Try.ntmps21
    go_wp2_with fail
    rw [← hW0]
    refine (l09Is_any A D n' c n' d B B' m b W0 HL.out HL'.out hn hn' (by omega) (by omega) HM.out HR.out).mono ?_
    rintro e w2 ⟨rfl, b2⟩
    rw [ht]
    have HB2 := Lib.hid (HB.out.trans (b2.mono HB.out.size))
    have HM2 := Lib.hid (HM.out.below b2 (by omega))
    have HR2 := Lib.hid (HR.out.below b2 (by omega))
    have HX2 := HX.out.next b2
    have hz2 := b2.size
    obtain ⟨kd0, kd1⟩ := hkd
    have CO := fun V (hV : Below w2.heap.size w2 V) kd k0 k2 => l11Order_any A D n' c d B B' kd m b V HL.out HL'.out t1 t2 HW.out HN.out HNB.out k0 k2 (by have := hV.size; omega) (by have := hV.size; omega) (HM2.out.below hV (by omega)) (HR2.out.below hV (by omega))
    have q0 := HX2.c0
    have q1 := HX2.c1
    clear b2 hW0 HX2
    by_cases g1 : 0 ≤ kd ∧ kd ≤ 2
    · by_cases g2 : 0 ≤ k ∧ k ≤ 16
      · have G : Hid (meetsA m b kd k = (decide (k ≤ ((ordK m b kd.toNat : Nat) : Int)), 0)) := by unfold meetsA; rw [Hid, ht, if_pos rfl, if_pos ⟨g1.1, g1.2, g2.1, g2.2⟩]
        have i1 : isIn kd 0 2 = true := isIn_yes g1.1 g1.2
        have i2 : isIn k 0 16 = true := isIn_yes g2.1 g2.2
        clear ht
        go_wp2_with (go_at_call 46; refine (l01In_any _ _ _ _).mono ?_; rintro e w4 ⟨rfl, rfl⟩; first | rw [i1] | rw [i2])
        refine (CO _ (Below.refl _ _) kd g1.1 g1.2).mono ?_
        rintro e w3 ⟨rfl, b3⟩
        have HB3 := Lib.hid (HB2.out.trans (b3.mono HB2.out.size))
        clear b3 q0 q1 CO
        go_wp2
        go_ret2
        exact ResBI.of G.out HB3.out
      · have G : Hid (meetsA m b kd k = (false, 2)) := by unfold meetsA; rw [Hid, ht, if_pos rfl, if_neg (by omega)]
        have i1 : isIn kd 0 2 = true := isIn_yes g1.1 g1.2
        have i2 : isIn k 0 16 = false := by cases h : isIn k 0 16; rfl; exact absurd (isIn_iff.1 h) (by omega)
        clear ht
        go_wp2_with (go_at_call 46; refine (l01In_any _ _ _ _).mono ?_; rintro e w4 ⟨rfl, rfl⟩; first | rw [i1] | rw [i2])
        go_ret2
        exact ResBI.of G.out HB2.out
    · have G : Hid (meetsA m b kd k = (false, 2)) := by unfold meetsA; rw [Hid, ht, if_pos rfl, if_neg (by omega)]
      have i1 : isIn kd 0 2 = false := by cases h : isIn kd 0 2; rfl; exact absurd (isIn_iff.1 h) (by omega)
      clear ht
      go_wp2_with (go_at_call 46; refine (l01In_any _ _ _ _).mono ?_; rintro e w4 ⟨rfl, rfl⟩; rw [i1])
      go_ret2
      exact ResBI.of G.out HB2.out
end Go.Proofs.Ytfllcdcgfpjabaa
