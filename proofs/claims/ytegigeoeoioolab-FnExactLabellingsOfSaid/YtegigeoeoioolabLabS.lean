/-
  What LabellingsOf answers, the program's and the model's.
-/
import Derived.Test.YtegigeoeoioolabLab
namespace Go.Proofs.Ytegigeoeoioolab
open Go.RowKit Fld
set_option linter.unusedVariables false
set_option linter.unusedSimpArgs false
set_option maxRecDepth 100000

theorem factorial_any (n : Nat) (w : World) (h1 : 1 ≤ n) (h8 : n ≤ 8) : Calls Try.prog 71 #[.int .i64 n] w fun e w' => e = .returned (.int .i64 (factN n)) ∧ w = w' := by
  go_enter Try.func71, Try.ntmps71
  go_wp2_with fail
  go_loop [3, 4] (fun v i => ∃ (j : Nat) (a : Int), 1 ≤ j ∧ j ≤ n ∧ v = .int .i64 a ∧ i = .int .i64 ((j : Int) + 1) ∧ Hid (a = factN j)) (fun _ i => n + 1 - (intOf i).toNat)
  case atStart => exact ⟨1, 1, Nat.le_refl _, h1, rfl, rfl, rfl⟩
  case round =>
    obtain ⟨j, a, hj1, hj, rfl, rfl, HA⟩ := hrel
    by_cases hlt : j < n
    · have HS : Hid (a * ((j : Int) + 1) = factN (j + 1)) := by rw [Hid, HA.out]; rfl
      have hb := factN_small (j + 1) (by omega)
      rw [← HS.out] at hb
      have hw1 : IntKind.i64.wrap (a * ((j : Int) + 1)) = a * ((j : Int) + 1) := IntWalk.i64_in _ (by omega)
      have hle : (j : Int) + 1 ≤ (n : Int) := by omega
      clear HA hb
      go_wp2
      go_round
      case rel => exact ⟨j + 1, _, by omega, by omega, rfl, by go_num, HS.out⟩
      case measure => simp [intOf]; omega
    · obtain rfl : j = n := by omega
      have hle : ¬ ((j : Int) + 1 ≤ (j : Int)) := by omega
      go_wp2
      go_ret
      exact ⟨ret_i64 HA.out, rfl⟩
def labellingsA (t : List Int) : Int × Int := if Tr.isLv t = true then (((factN t.length).tdiv (Tr.syM t)).tdiv (Tr.denM t), 0) else (0, 1)
theorem labellingsA_yes {t : List Int} (h : Tr.isLv t = true) : labellingsA t = (((factN t.length).tdiv (Tr.syM t)).tdiv (Tr.denM t), 0) := if_pos h
theorem labellingsA_no {t : List Int} (h : Tr.isLv t = false) : labellingsA t = (0, 1) := if_neg (by rw [h]; simp)
theorem pLabellingsOf_L (A : Option Addr) (n c B : Nat) (t : List Int) (w : World) (hl : t.length = n) (hn : n ≤ 1048576) (hB : B ≤ w.heap.size) (h : Row w B A (ints t)) (hc : n ≤ c) :
    Calls Try.prog 36 #[.slice A n c] w (ResI (labellingsA t) w) := by
  have C0 := isLevels_any A n c B t w hl (by omega) h
  cases hlv : Tr.isLv t
  · have G := Lib.hid (labellingsA_no hlv)
    rw [hlv] at C0
    go_enter Try.func36, Try.ntmps36
    go_wp2_with fail
    refine C0.mono ?_
    rintro e w' ⟨rfl, m, rfl⟩
    go_wp2
    go_ret2
    exact ResI.of' G.out (below_drewN (Below.refl _ _) _)
  · rw [hlv] at C0
    obtain ⟨b1, b8⟩ := lv_bd hlv
    rw [hl] at b1 b8
    have HL := Lib.hid hl
    have G := Lib.hid (labellingsA_yes hlv)
    have C3 := fun w => labellings_any (Tr.txt t) w (Tr.tx_txt hlv)
    have e2 : (Tr.txt t).length / 2 = t.length := by rw [(lv_txt hlv).2.2.2]; omega
    rw [(Tr.syM_parts hlv).2.1, (Tr.denM_parts hlv).2, e2] at C3
    obtain ⟨v, hv⟩ : ∃ v, v = ((factN t.length).tdiv (Tr.syM t)).tdiv (Tr.denM t) := ⟨_, rfl⟩
    rw [← hv] at G C3
    clear hl hlv e2 hv
    go_enter Try.func36, Try.ntmps36
    go_wp2_with fail
    refine C0.mono ?_
    rintro e w' ⟨rfl, m, rfl⟩
    go_wp2_with fail
    refine (treeOf_any A n c B t _ HL.out b1 b8 hc (by exact hB) (h.drewN m)).mono ?_
    rintro e w2 ⟨rfl, bel2⟩
    go_wp2_with fail
    refine (C3 _).mono ?_
    rintro e w3 ⟨rfl, bel3⟩
    have GB : Hid (Below w.heap.size w w3) := (below_undrew' bel2).trans (bel3.mono bel2.size)
    clear bel2 bel3
    go_wp2
    go_ret2
    exact ResI.of' G.out GB.out
set_option maxHeartbeats 2000000 in
theorem sLabellingsOf_L (A : Option Addr) (n c B : Nat) (t : List Int) (w : World) (hl : t.length = n) (hn : n ≤ 1048576) (hB : B ≤ w.heap.size) (h : Row w B A (ints t)) :
    Calls Try.prog 35 #[.slice A n c] w (ResI (labellingsA t) w) := by
  have C0 := l03Is_any A n c B t w hl hn h
  cases hlv : Tr.isLv t
  · have G := Lib.hid (labellingsA_no hlv)
    rw [hlv] at C0
    go_enter Try.func35, Try.ntmps35
    go_wp2_with fail
    refine C0.mono ?_
    rintro e w' ⟨rfl, m, rfl⟩
    go_wp2
    go_ret2
    exact ResI.of' G.out (below_drewN (Below.refl _ _) _)
  · rw [hlv] at C0
    have G := Lib.hid (labellingsA_yes hlv)
    obtain ⟨b1, b8⟩ := lv_bd hlv
    have CS : ∀ W, Below w.heap.size w W → Calls Try.prog 67 #[.slice A n c] W fun e w' => e = .returned (.int .i64 (Tr.syM t)) ∧ Below w.heap.size w w' := fun W hb => (l03Symmetry_any A n c B t W hl hlv (Nat.le_trans hB hb.size) (Row.below h hb hB)).mono fun e w' hw => ⟨hw.1, hb.trans (hw.2.mono hb.size)⟩
    have CD : ∀ W, Below w.heap.size w W → Calls Try.prog 69 #[.slice A n c] W fun e w' => e = .returned (.int .i64 (Tr.denM t)) ∧ Below w.heap.size w w' := fun W hb => (l03Density_any A n c B t W hl hlv (Nat.le_trans hB hb.size) (Row.below h hb hB)).mono fun e w' hw => ⟨hw.1, hb.trans (hw.2.mono hb.size)⟩
    obtain ⟨hd1, hd2⟩ := Tr.denM_bd hlv
    have hs1 : 1 ≤ Tr.syM t ∧ Tr.syM t ≤ 1000000 := by
      obtain ⟨⟨e, hk, _⟩, _⟩ := Tr.syM_parts hlv
      rw [e]; exact (hk _ (Nat.le_refl _)).1
    rw [hl] at G b1 b8
    obtain ⟨sv, hsv⟩ : ∃ v, v = Tr.syM t := ⟨_, rfl⟩
    obtain ⟨dv, hdv⟩ : ∃ v, v = Tr.denM t := ⟨_, rfl⟩
    rw [← hsv] at CS hs1 G
    rw [← hdv] at CD hd1 hd2 G
    have CF := fun w => factorial_any n w b1 b8
    have hb := factN_small n b8
    obtain ⟨a, ha⟩ : ∃ a, a = factN n := ⟨_, rfl⟩
    rw [← ha] at hb G
    simp only [← ha] at CF
    have ts : (sv == 0) = false := beq_f (by omega)
    have td : (dv == 0) = false := beq_f (by omega)
    have hq1 : 0 ≤ a.tdiv sv ∧ a.tdiv sv ≤ 40320 := by
      rw [Int.tdiv_eq_ediv_of_nonneg (by omega)]
      exact ⟨Int.ediv_nonneg (by omega) (by omega), Int.le_trans (Int.ediv_le_self _ (by omega)) (by omega)⟩
    have hq2 : 0 ≤ (a.tdiv sv).tdiv dv ∧ (a.tdiv sv).tdiv dv ≤ 40320 := by
      rw [Int.tdiv_eq_ediv_of_nonneg (by omega)]
      exact ⟨Int.ediv_nonneg (by omega) (by omega), Int.le_trans (Int.ediv_le_self _ (by omega)) (by omega)⟩
    have hw1 : IntKind.i64.wrap (a.tdiv sv) = a.tdiv sv := IntWalk.i64_in _ (by omega)
    have hw2 : IntKind.i64.wrap ((a.tdiv sv).tdiv dv) = (a.tdiv sv).tdiv dv := IntWalk.i64_in _ (by omega)
    have hwn : IntKind.i64.wrap (n : Int) = (n : Int) := IntWalk.i64_in _ (by omega)
    clear hl hlv hsv hdv ha hb
    go_enter Try.func35, Try.ntmps35
    go_wp2_with fail
    refine C0.mono ?_
    rintro e w' ⟨rfl, m, rfl⟩
    have BM : Below w.heap.size w (w.drewN m) := below_drewN (Below.refl _ _) m
    go_wp2_with fail
    go_region_with (first | (go_at_call 71; refine (CF _).mono ?_; rintro e w4 ⟨rfl, rfl⟩) | (go_at_call 67; refine (CS _ (by first | assumption | exact below_drew' BM)).mono ?_; rintro e w2 ⟨rfl, bel2⟩) | (go_at_call 69; refine (CD _ (by first | assumption | exact below_drew' BM)).mono ?_; rintro e w3 ⟨rfl, bel3⟩))
    all_goals
      try simp only [Act.put, List.setIfInBounds_toArray, List.set_cons_zero, List.set_cons_succ, List.getElem_toArray, List.getElem_cons_zero, List.getElem_cons_succ]
      have HB2 := Lib.hid bel2
      have HB3 := Lib.hid bel3
      clear bel2 bel3 BM
      go_wp2
      go_ret2
      first | exact ResI.of' G.out HB3.out | exact ResI.of' G.out HB2.out
end Go.Proofs.Ytegigeoeoioolab
