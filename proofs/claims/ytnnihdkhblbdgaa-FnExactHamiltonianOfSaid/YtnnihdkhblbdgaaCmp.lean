/-
  Trees compared: by nodes, then by text.
-/
import Derived.Test.YtnnihdkhblbdgaaTxt
import Derived.Test.YtnnihdkhblbdgaaLvl
import Derived.Test.YtnnihdkhblbdgaaTreeC5
namespace Go.Proofs.Ytnnihdkhblbdgaa
open Go.RowKit Fld
set_option linter.unusedVariables false
set_option linter.unusedSimpArgs false
set_option maxRecDepth 100000

theorem intNaN_any (x : Int) (w : World) : Calls Try.prog 150 #[.int .i64 x] w fun e w' => e = .returned (.bool false) ∧ w = w' := by
  go_enter Try.func150, Try.ntmps150
  go_wp2
  go_ret
  exact ⟨by simp, rfl⟩
def cmpI (a b : Int) : Int := if a < b then -1 else if b < a then 1 else 0
theorem intCompare_any (a b : Int) (w : World) : Calls Try.prog 135 #[.int .i64 a, .int .i64 b] w fun e w' => e = .returned (.int .i64 (cmpI a b)) ∧ w = w' := by
  rcases Int.lt_trichotomy a b with g | g | g
  · have H : Hid (cmpI a b = -1) := if_pos g
    go_enter Try.func135, Try.ntmps135
    go_wp2_with (go_at_call 150; refine (intNaN_any _ _).mono ?_; rintro e w' ⟨rfl, rfl⟩)
    go_ret
    exact ⟨ret_i64 H.out.symm, rfl⟩
  · have H : Hid (cmpI a b = 0) := by unfold cmpI; rw [Hid, if_neg (by omega), if_neg (by omega)]
    have t1 : ¬ a < b := by omega
    have t2 : ¬ b < a := by omega
    clear g
    go_enter Try.func135, Try.ntmps135
    go_wp2_with (go_at_call 150; refine (intNaN_any _ _).mono ?_; rintro e w' ⟨rfl, rfl⟩)
    go_ret
    exact ⟨ret_i64 H.out.symm, rfl⟩
  · have H : Hid (cmpI a b = 1) := by unfold cmpI; rw [Hid, if_neg (by omega), if_pos g]
    have t1 : ¬ a < b := by omega
    go_enter Try.func135, Try.ntmps135
    go_wp2_with (go_at_call 150; refine (intNaN_any _ _).mono ?_; rintro e w' ⟨rfl, rfl⟩)
    go_ret
    exact ⟨ret_i64 H.out.symm, rfl⟩
def cmpX (x y : List UInt8) : Int := if Tr.ltS x y then -1 else if Tr.ltS y x then 1 else 0
theorem run_gtr_str (x y : List UInt8) (w : World) : Sem.run Try.prog (binOp .gtr 73 (.string ⟨x.toArray⟩) (.string ⟨y.toArray⟩)) w = .ok (.bool (Op.bytesLess y x)) w := by
  have e : (!Op.bytesLess x y && !x == y) = Op.bytesLess y x := by
    rw [less_eq, less_eq, Bool.not_not]
    cases h : Tr.leS x y
    · have h1 := Tr.leS_to h
      have hne : (x == y) = false := by
        rw [beq_eq_false_iff_ne]
        intro e
        subst e
        rw [h1] at h; cases h
      rw [h1, hne]; rfl
    · cases h2 : Tr.leS y x
      · rfl
      · have := Tr.leS_as h h2
        subst this
        simp
  simp [binOp, Op.stringOp, e]
theorem treeCompare_any (x y : List UInt8) (w : World) : Calls Try.prog 136 #[.string ⟨x.toArray⟩, .string ⟨y.toArray⟩] w fun e w' => e = .returned (.int .i64 (cmpX x y)) ∧ w = w' := by
  have l1 : Op.bytesLess x y = Tr.ltS x y := less_eq x y
  have l2 : Op.bytesLess y x = Tr.ltS y x := less_eq y x
  have l3 := run_gtr_str x y
  cases h1 : Tr.ltS x y
  · cases h2 : Tr.ltS y x
    · have H : Hid (cmpX x y = 0) := by unfold cmpX; rw [Hid, h1, h2]; rfl
      rw [h1] at l1
      rw [h2] at l2
      clear h1 h2
      go_enter Try.func136, Try.ntmps136
      go_wp2_with (go_at_call 151; refine (treeNaN_any _ _).mono ?_; rintro e w' ⟨rfl, rfl⟩)
      go_ret
      exact ⟨ret_i64 H.out.symm, rfl⟩
    · have H : Hid (cmpX x y = 1) := by unfold cmpX; rw [Hid, h1, h2]; rfl
      rw [h1] at l1
      rw [h2] at l2
      clear h1 h2
      go_enter Try.func136, Try.ntmps136
      go_wp2_with (go_at_call 151; refine (treeNaN_any _ _).mono ?_; rintro e w' ⟨rfl, rfl⟩)
      go_ret
      exact ⟨ret_i64 H.out.symm, rfl⟩
  · have H : Hid (cmpX x y = -1) := by unfold cmpX; rw [Hid, h1]; rfl
    rw [h1] at l1
    clear h1 l2
    go_enter Try.func136, Try.ntmps136
    go_wp2_with (go_at_call 151; refine (treeNaN_any _ _).mono ?_; rintro e w' ⟨rfl, rfl⟩)
    go_ret
    exact ⟨ret_i64 H.out.symm, rfl⟩
theorem orInt_any (a b : Int) (g : Nat) (w : World) (h0 : w.cell? ⟨g, 0, none⟩ = some (.int .i64 a)) (h1 : w.cell? ⟨g, 1, none⟩ = some (.int .i64 b)) :
    Calls Try.prog 134 #[.slice (some ⟨g, 0, none⟩) 2 2] w fun e w' => e = .returned (.int .i64 (if a ≠ 0 then a else b)) ∧ w = w' := by
  by_cases ha : a = 0
  · subst ha
    have H : Hid ((if (0 : Int) ≠ 0 then (0 : Int) else b) = b) := by rw [Hid]; simp
    by_cases hb : b = 0
    · subst hb
      go_enter Try.func134, Try.ntmps134
      go_wp2_with fail
      go_loop [8] (fun i => ∃ k : Nat, k ≤ 2 ∧ i = .int .i64 k) (fun i => 2 - (intOf i).toNat)
      case atStart => exact ⟨0, by omega, rfl⟩
      case round =>
        obtain ⟨k, hk, rfl⟩ := hrel
        rcases (show k = 0 ∨ k = 1 ∨ k = 2 by omega) with rfl | rfl | rfl
        · go_wp2
          go_round
          case rel => exact ⟨1, by omega, rfl⟩
          case measure => simp [intOf]
        · go_wp2
          go_round
          case rel => exact ⟨2, by omega, rfl⟩
          case measure => simp [intOf]
        · go_wp2
          go_ret
          exact ⟨by simp, rfl⟩
    · have tb := bne_t hb
      go_enter Try.func134, Try.ntmps134
      go_wp2_with fail
      go_loop [8] (fun i => ∃ k : Nat, k ≤ 1 ∧ i = .int .i64 k) (fun i => 2 - (intOf i).toNat)
      case atStart => exact ⟨0, by omega, rfl⟩
      case round =>
        obtain ⟨k, hk, rfl⟩ := hrel
        rcases (show k = 0 ∨ k = 1 by omega) with rfl | rfl
        · go_wp2
          go_round
          case rel => exact ⟨1, by omega, rfl⟩
          case measure => simp [intOf]
        · go_wp2
          go_ret
          exact ⟨ret_i64 H.out.symm, rfl⟩
  · have ta := bne_t ha
    have H : Hid ((if a ≠ 0 then a else b) = a) := if_pos ha
    go_enter Try.func134, Try.ntmps134
    go_wp2_with fail
    go_loop [8] (fun i => i = .int .i64 0) (fun i => 0)
    case atStart => rfl
    case round =>
      obtain rfl := hrel
      go_wp2
      go_ret
      exact ⟨by first | exact ret_i64 H.out.symm | exact ret_i64 rfl, rfl⟩
theorem cmp_or (x y : List UInt8) : (if cmpI ((x.length / 2 : Nat) : Int) ((y.length / 2 : Nat) : Int) ≠ 0 then cmpI ((x.length / 2 : Nat) : Int) ((y.length / 2 : Nat) : Int) else cmpX x y) = Tr.cmpT x y := by
  unfold cmpI cmpX Tr.cmpT
  by_cases h1 : x.length / 2 < y.length / 2
  · have e1 : ((x.length / 2 : Nat) : Int) < ((y.length / 2 : Nat) : Int) := by omega
    rw [if_pos e1, if_pos h1]; rfl
  · have e1 : ¬ ((x.length / 2 : Nat) : Int) < ((y.length / 2 : Nat) : Int) := by omega
    by_cases h2 : y.length / 2 < x.length / 2
    · have e2 : ((y.length / 2 : Nat) : Int) < ((x.length / 2 : Nat) : Int) := by omega
      rw [if_neg e1, if_neg h1, if_pos e2, if_pos h2]; rfl
    · have e2 : ¬ ((y.length / 2 : Nat) : Int) < ((x.length / 2 : Nat) : Int) := by omega
      rw [if_neg e1, if_neg h1, if_neg e2, if_neg h2]; rfl
set_option maxHeartbeats 400000 in
theorem compare_any (x y : List UInt8) (w : World) (hx : x.length ≤ 1048576) (hy : y.length ≤ 1048576) : Calls Try.prog 120 #[.string ⟨x.toArray⟩, .string ⟨y.toArray⟩] w fun e w' => e = .returned (.int .i64 (Tr.cmpT x y)) ∧ Below w.heap.size w w' := by
  have G := Lib.hid (cmp_or x y)
  obtain ⟨a, ha⟩ : ∃ a, a = cmpI ((x.length / 2 : Nat) : Int) ((y.length / 2 : Nat) : Int) := ⟨_, rfl⟩
  have C3 := fun w => intCompare_any ((x.length / 2 : Nat) : Int) ((y.length / 2 : Nat) : Int) w
  rw [← ha] at G
  simp only [← ha] at C3
  have C1 := fun w => nodes_any x w hx
  have C2 := fun w => nodes_any y w hy
  obtain ⟨p, hp⟩ : ∃ p, p = x.length / 2 := ⟨_, rfl⟩
  obtain ⟨q, hq⟩ : ∃ q, q = y.length / 2 := ⟨_, rfl⟩
  rw [← hp] at C1 C3
  rw [← hq] at C2 C3
  clear ha hx hy hp hq
  go_enter Try.func120, Try.ntmps120
  go_wp2_with fail
  refine (C1 _).mono ?_
  rintro e w' ⟨rfl, rfl⟩
  go_wp2_with fail
  refine (C2 _).mono ?_
  rintro e w' ⟨rfl, rfl⟩
  go_wp2_with fail
  refine (C3 _).mono ?_
  rintro e w' ⟨rfl, rfl⟩
  go_wp2_with fail
  refine (treeCompare_any x y _).mono ?_
  rintro e w' ⟨rfl, rfl⟩
  go_wp2_with fail
  have hal : Below w.heap.size w (w.alloc (.cells #[.int .i64 a, .int .i64 (cmpX x y)] 3)) := (Below.refl _ _).alloc (Nat.le_refl _) _
  refine (orInt_any a (cmpX x y) w.heap.size _ (by rw [World.cell?_alloc_at (hn := by simp)]; rfl) (by rw [World.cell?_alloc_at (hn := by simp)]; rfl)).mono ?_
  rintro e w' ⟨rfl, rfl⟩
  rw [G.out]
  go_wp2
  go_ret
  exact ⟨rfl, hal⟩
end Go.Proofs.Ytnnihdkhblbdgaa
