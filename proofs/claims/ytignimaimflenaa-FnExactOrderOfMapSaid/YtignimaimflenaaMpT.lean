/-
  What the tests on maps answer, the program's and the model's alike.
-/
import Derived.Test.YtignimaimflenaaSlices
import Derived.Test.YtignimaimflenaaMpQ
import Derived.Test.YtignimaimflenaaRes1
namespace Go.Proofs.Ytignimaimflenaa
open Go.RowKit Fld
set_option linter.unusedVariables false
set_option linter.unusedSimpArgs false
set_option maxRecDepth 100000

theorem isMap_any (A : Option Addr) (n c B : Nat) (xs : List Int) (w : World) (hl : xs.length = n) (hn : n ≤ 9223372036854775807) (h : Row w B A (ints xs)) :
    Calls Try.prog 15 #[.slice A n c] w fun e w' => e = .returned (.bool (isMp xs)) ∧ w = w' := by
  have HL := Lib.hid hl
  by_cases h0 : n = 38
  · have H := Lib.hid (isMp_num (a := xs) (by omega))
    have t : ((n : Int) == 38) = true := beq_t (by omega)
    clear hl h0
    go_enter Try.func15, Try.ntmps15
    go_wp2_with (go_at_call 48; refine (areNumbers_any _ _ _ B xs _ HL.out hn h).mono ?_; rintro e w' ⟨rfl, rfl⟩)
    go_ret
    exact ⟨ret_bool H.out.symm, rfl⟩
  · have H := Lib.hid (isMp_len (a := xs) (by omega))
    have t : ((n : Int) == 38) = false := beq_f (by omega)
    clear hl h0
    go_enter Try.func15, Try.ntmps15
    go_wp2
    go_ret
    exact ⟨ret_bool H.out.symm, rfl⟩
theorem l07Is_any (A : Option Addr) (n c B : Nat) (xs : List Int) (w : World) (hl : xs.length = n) (hn : n ≤ 9223372036854775807) (h : Row w B A (ints xs)) :
    Calls Try.prog 47 #[.slice A n c] w fun e w' => e = .returned (.bool (isMp xs)) ∧ w = w' := by
  have HL := Lib.hid hl
  by_cases h0 : n = 38
  · have H := Lib.hid (isMp_num (a := xs) (by omega))
    have t : ((n : Int) == 38) = true := beq_t (by omega)
    clear hl h0
    go_enter Try.func47, Try.ntmps47
    go_wp2_with (go_at_call 88; refine (l01Numbers_any _ _ _ B xs _ HL.out hn h).mono ?_; rintro e w' ⟨rfl, rfl⟩)
    go_ret
    exact ⟨ret_bool H.out.symm, rfl⟩
  · have H := Lib.hid (isMp_len (a := xs) (by omega))
    have t : ((n : Int) == 38) = false := beq_f (by omega)
    clear hl h0
    go_enter Try.func47, Try.ntmps47
    go_wp2
    go_ret
    exact ⟨ret_bool H.out.symm, rfl⟩
theorem map_first {A : Option Addr} {n B : Nat} {a : List Int} {w : World} (hm : isMp a = true) (hl : a.length = n) (h : Row w B A (ints a)) : ∃ x b o, a[0]? = some x ∧ A = some ⟨b, o, none⟩ ∧ w.cell? ⟨b, o, none⟩ = some (.int .i64 x) ∧ 1 ≤ n ∧ 0 ≤ x ∧ x < 10007 := by
  obtain ⟨h1, h2⟩ := isMp_parts hm hl
  obtain ⟨x, hx⟩ := at_lt (show 0 < a.length by omega)
  obtain ⟨b, o, e, _, hc⟩ := h 0 _ (ints_at hx)
  rw [Nat.add_zero] at hc
  obtain ⟨x0, x1⟩ := num_at h2 hx
  exact ⟨x, b, o, hx, e, hc, by omega, x0, x1⟩
theorem isCharacter_any (A : Option Addr) (n c B : Nat) (xs : List Int) (w : World) (hl : xs.length = n) (hn : n ≤ 9223372036854775807) (h : Row w B A (ints xs)) :
    Calls Try.prog 18 #[.slice A n c] w fun e w' => e = .returned (.bool (isChr xs)) ∧ w = w' := by
  have C0 := isMap_any A n c B xs w hl hn h
  cases hm : isMp xs
  · have H := Lib.hid (isChr_no hm)
    rw [hm] at C0
    clear hl
    go_enter Try.func18, Try.ntmps18
    go_wp2_with fail
    refine C0.mono ?_
    rintro e w' ⟨rfl, rfl⟩
    go_wp2
    go_ret
    exact ⟨ret_bool H.out.symm, rfl⟩
  · obtain ⟨x, b, o, hx, rfl, hc, p1, x0, x1⟩ := map_first hm hl h
    have H := Lib.hid (isChr_at hm hx)
    rw [hm] at C0
    clear hl hx
    by_cases hx1 : x = 1
    · have t : (x == 1) = true := beq_t hx1
      have D : Hid (decide (x = 1) = true) := decide_eq_true hx1
      clear hx1
      go_enter Try.func18, Try.ntmps18
      go_wp2_with fail
      refine C0.mono ?_
      rintro e w' ⟨rfl, rfl⟩
      go_wp2
      go_ret
      exact ⟨ret_bool (H.out.trans D.out).symm, rfl⟩
    · have t : (x == 1) = false := beq_f hx1
      have D : Hid (decide (x = 1) = false) := decide_eq_false hx1
      clear hx1
      go_enter Try.func18, Try.ntmps18
      go_wp2_with fail
      refine C0.mono ?_
      rintro e w' ⟨rfl, rfl⟩
      go_wp2
      go_ret
      exact ⟨ret_bool (H.out.trans D.out).symm, rfl⟩
theorem sIsMap_L (A : Option Addr) (n c B : Nat) (xs : List Int) (w : World) (hl : xs.length = n) (hn : n ≤ 1048576) (hB : B ≤ w.heap.size) (h : Row w B A (ints xs)) :
    Calls Try.prog 13 #[.slice A n c] w (ResB (isMp xs) w) := by
  go_enter Try.func13, Try.ntmps13
  go_wp2_with (go_at_call 47; refine (l07Is_any _ _ _ B xs _ hl (by omega) h).mono ?_; rintro e w' ⟨rfl, rfl⟩)
  go_ret
  exact ⟨rfl, Below.refl _ _⟩
theorem pIsMap_L (A : Option Addr) (n c B : Nat) (xs : List Int) (w : World) (hl : xs.length = n) (hn : n ≤ 1048576) (hB : B ≤ w.heap.size) (h : Row w B A (ints xs)) :
    Calls Try.prog 15 #[.slice A n c] w (ResB (isMp xs) w) := (isMap_any A n c B xs w hl (by omega) h).mono fun e w' ⟨he, hw⟩ => ⟨he, hw ▸ Below.refl _ _⟩
theorem sIsCharacter_any (A : Option Addr) (n c B : Nat) (xs : List Int) (w : World) (hl : xs.length = n) (hn : n ≤ 9223372036854775807) (h : Row w B A (ints xs)) :
    Calls Try.prog 17 #[.slice A n c] w fun e w' => e = .returned (.bool (isChr xs)) ∧ w = w' := by
  have C0 := l07Is_any A n c B xs w hl hn h
  cases hm : isMp xs
  · have H := Lib.hid (isChr_no hm)
    rw [hm] at C0
    clear hl
    go_enter Try.func17, Try.ntmps17
    go_wp2_with fail
    refine C0.mono ?_
    rintro e w' ⟨rfl, rfl⟩
    go_wp2
    go_ret
    exact ⟨ret_bool H.out.symm, rfl⟩
  · obtain ⟨x, b, o, hx, rfl, hc, p1, x0, x1⟩ := map_first hm hl h
    have H := Lib.hid (isChr_at hm hx)
    rw [hm] at C0
    clear hl hx
    by_cases hx1 : x = 1
    · have t : (x == 1) = true := beq_t hx1
      have D : Hid (decide (x = 1) = true) := decide_eq_true hx1
      clear hx1
      go_enter Try.func17, Try.ntmps17
      go_wp2_with fail
      refine C0.mono ?_
      rintro e w' ⟨rfl, rfl⟩
      go_wp2
      go_ret
      exact ⟨ret_bool (H.out.trans D.out).symm, rfl⟩
    · have t : (x == 1) = false := beq_f hx1
      have D : Hid (decide (x = 1) = false) := decide_eq_false hx1
      clear hx1
      go_enter Try.func17, Try.ntmps17
      go_wp2_with fail
      refine C0.mono ?_
      rintro e w' ⟨rfl, rfl⟩
      go_wp2
      go_ret
      exact ⟨ret_bool (H.out.trans D.out).symm, rfl⟩
theorem isInfinitesimal_any (A : Option Addr) (n c B : Nat) (xs : List Int) (w : World) (hl : xs.length = n) (hn : n ≤ 9223372036854775807) (h : Row w B A (ints xs)) :
    Calls Try.prog 20 #[.slice A n c] w fun e w' => e = .returned (.bool (isInf xs)) ∧ w = w' := by
  have C0 := isMap_any A n c B xs w hl hn h
  cases hm : isMp xs
  · have H := Lib.hid (isInf_no hm)
    rw [hm] at C0
    clear hl
    go_enter Try.func20, Try.ntmps20
    go_wp2_with fail
    refine C0.mono ?_
    rintro e w' ⟨rfl, rfl⟩
    go_wp2
    go_ret
    exact ⟨ret_bool H.out.symm, rfl⟩
  · obtain ⟨x, b, o, hx, rfl, hc, p1, x0, x1⟩ := map_first hm hl h
    have H := Lib.hid (isInf_at hm hx)
    rw [hm] at C0
    clear hl hx
    by_cases hx1 : x = 0
    · have t : (x == 0) = true := beq_t hx1
      have D : Hid (decide (x = 0) = true) := decide_eq_true hx1
      clear hx1
      go_enter Try.func20, Try.ntmps20
      go_wp2_with fail
      refine C0.mono ?_
      rintro e w' ⟨rfl, rfl⟩
      go_wp2
      go_ret
      exact ⟨ret_bool (H.out.trans D.out).symm, rfl⟩
    · have t : (x == 0) = false := beq_f hx1
      have D : Hid (decide (x = 0) = false) := decide_eq_false hx1
      clear hx1
      go_enter Try.func20, Try.ntmps20
      go_wp2_with fail
      refine C0.mono ?_
      rintro e w' ⟨rfl, rfl⟩
      go_wp2
      go_ret
      exact ⟨ret_bool (H.out.trans D.out).symm, rfl⟩
theorem sIsInfinitesimal_any (A : Option Addr) (n c B : Nat) (xs : List Int) (w : World) (hl : xs.length = n) (hn : n ≤ 9223372036854775807) (h : Row w B A (ints xs)) :
    Calls Try.prog 19 #[.slice A n c] w fun e w' => e = .returned (.bool (isInf xs)) ∧ w = w' := by
  have C0 := l07Is_any A n c B xs w hl hn h
  cases hm : isMp xs
  · have H := Lib.hid (isInf_no hm)
    rw [hm] at C0
    clear hl
    go_enter Try.func19, Try.ntmps19
    go_wp2_with fail
    refine C0.mono ?_
    rintro e w' ⟨rfl, rfl⟩
    go_wp2
    go_ret
    exact ⟨ret_bool H.out.symm, rfl⟩
  · obtain ⟨x, b, o, hx, rfl, hc, p1, x0, x1⟩ := map_first hm hl h
    have H := Lib.hid (isInf_at hm hx)
    rw [hm] at C0
    clear hl hx
    by_cases hx1 : x = 0
    · have t : (x == 0) = true := beq_t hx1
      have D : Hid (decide (x = 0) = true) := decide_eq_true hx1
      clear hx1
      go_enter Try.func19, Try.ntmps19
      go_wp2_with fail
      refine C0.mono ?_
      rintro e w' ⟨rfl, rfl⟩
      go_wp2
      go_ret
      exact ⟨ret_bool (H.out.trans D.out).symm, rfl⟩
    · have t : (x == 0) = false := beq_f hx1
      have D : Hid (decide (x = 0) = false) := decide_eq_false hx1
      clear hx1
      go_enter Try.func19, Try.ntmps19
      go_wp2_with fail
      refine C0.mono ?_
      rintro e w' ⟨rfl, rfl⟩
      go_wp2
      go_ret
      exact ⟨ret_bool (H.out.trans D.out).symm, rfl⟩
theorem pIsCharacter_L (A : Option Addr) (n c B : Nat) (xs : List Int) (w : World) (hl : xs.length = n) (hn : n ≤ 1048576) (hB : B ≤ w.heap.size) (h : Row w B A (ints xs)) :
    Calls Try.prog 18 #[.slice A n c] w (ResB (isChr xs) w) := (isCharacter_any A n c B xs w hl (by omega) h).mono fun e w' ⟨he, hw⟩ => ⟨he, hw ▸ Below.refl _ _⟩
theorem sIsCharacter_L (A : Option Addr) (n c B : Nat) (xs : List Int) (w : World) (hl : xs.length = n) (hn : n ≤ 1048576) (hB : B ≤ w.heap.size) (h : Row w B A (ints xs)) :
    Calls Try.prog 17 #[.slice A n c] w (ResB (isChr xs) w) := (sIsCharacter_any A n c B xs w hl (by omega) h).mono fun e w' ⟨he, hw⟩ => ⟨he, hw ▸ Below.refl _ _⟩
theorem pIsInfinitesimal_L (A : Option Addr) (n c B : Nat) (xs : List Int) (w : World) (hl : xs.length = n) (hn : n ≤ 1048576) (hB : B ≤ w.heap.size) (h : Row w B A (ints xs)) :
    Calls Try.prog 20 #[.slice A n c] w (ResB (isInf xs) w) := (isInfinitesimal_any A n c B xs w hl (by omega) h).mono fun e w' ⟨he, hw⟩ => ⟨he, hw ▸ Below.refl _ _⟩
theorem sIsInfinitesimal_L (A : Option Addr) (n c B : Nat) (xs : List Int) (w : World) (hl : xs.length = n) (hn : n ≤ 1048576) (hB : B ≤ w.heap.size) (h : Row w B A (ints xs)) :
    Calls Try.prog 19 #[.slice A n c] w (ResB (isInf xs) w) := (sIsInfinitesimal_any A n c B xs w hl (by omega) h).mono fun e w' ⟨he, hw⟩ => ⟨he, hw ▸ Below.refl _ _⟩
end Go.Proofs.Ytignimaimflenaa
