/-
  Numbers of a tableau that are 0 from a column on: IsExplicit, IsDiagonal.
-/
import Derived.Test.YtolkbbbbahhfaaaTabS
import Derived.Test.YtolkbbbbahhfaaaResBI
namespace Go.Proofs.Ytolkbbbbahhfaaa
open Go.RowKit Fld
set_option linter.unusedVariables false
set_option linter.unusedSimpArgs false
set_option maxRecDepth 100000

/-- the first k rows have only 0 from their index plus s on -/
def LowTo (m : List (List Int)) (s k : Nat) : Prop := ∀ i r j x, i < k → m[i]? = some r → i + s ≤ j → r[j]? = some x → x = 0
def LowIn (r : List Int) (f k : Nat) : Prop := ∀ j x, f ≤ j → j < k → r[j]? = some x → x = 0
noncomputable def lowB (m : List (List Int)) (s : Nat) : Bool := @decide (LowTo m s m.length) (Classical.propDecidable _)
theorem lowB_yes {m : List (List Int)} {s n : Nat} (hl : m.length = n) (h : LowTo m s n) : lowB m s = true := by
  subst hl; exact @decide_eq_true _ (_) h
theorem lowB_no {m : List (List Int)} {s i j : Nat} {r : List Int} {x : Int} (hr : m[i]? = some r) (hj : i + s ≤ j) (hx : r[j]? = some x) (h : x ≠ 0) : lowB m s = false :=
  @decide_eq_false _ (_) fun hh => h (hh i r j x (List.getElem?_eq_some_iff.1 hr).1 hr hj hx)
theorem LowTo.step {m : List (List Int)} {s k q : Nat} {r : List Int} (h : LowTo m s k) (hr : m[k]? = some r) (hq : r.length = q) (hi : LowIn r (k + s) q) : LowTo m s (k + 1) := fun i r' j x hik hr' hj hx => by
  by_cases e : i = k
  · subst e
    rw [hr] at hr'
    obtain rfl := Option.some.inj hr'
    exact hi j x hj (by have := (List.getElem?_eq_some_iff.1 hx).1; omega) hx
  · exact h i r' j x (by omega) hr' hj hx
theorem LowIn.step {r : List Int} {f k : Nat} (h : LowIn r f k) (h0 : r[k]? = some 0) : LowIn r f (k + 1) := fun j x hf hj hx => by
  by_cases e : j = k
  · subst e; rw [h0] at hx; exact (Option.some.inj hx).symm
  · exact h j x hf (by omega) hx
set_option maxHeartbeats 2000000 in
theorem isZeroFrom_any (A D : Option Addr) (n c n' d B s : Nat) (m : List (List Int)) (w : World) (hl : m.length = n) (hq : Wide m n) (hn : n ≤ 8) (hs : s ≤ 1) (hB : B ≤ w.heap.size) (h : Mat w B A m) :
    Calls Try.prog 45 #[.agg #[.slice A n c, .slice D n' d], .int .i64 s] w fun e w' => e = .returned (.bool (lowB m s)) ∧ Below w.heap.size w w' := by
  have HL := Lib.hid hl
  have HQ := Lib.hid hq
  obtain ⟨W0, hW0⟩ : ∃ W0, W0 = w.alloc (.cells #[.slice A n c, .slice D n' d] 55) := ⟨_, rfl⟩
  have HB : Hid (Below w.heap.size w W0) := by rw [hW0]; exact (Below.refl _ _).alloc (Nat.le_refl _) _
  have HM : Hid (Mat W0 B A m) := h.below HB.out hB
  clear hl hq h hB
  go_enter Try.func45, Try.ntmps45
  go_wp2_with fail
  rw [← hW0]
  clear hW0
  go_loop [12] (fun i => ∃ k : Nat, k ≤ n ∧ i = .int .i64 k ∧ Hid (LowTo m s k)) (fun i => n - (intOf i).toNat)
  case atStart => exact ⟨0, Nat.zero_le _, rfl, fun i r j x hi => by omega⟩
  case round =>
    obtain ⟨k, hk, rfl, HT⟩ := hrel
    by_cases hlt : k < n
    · obtain ⟨r, hr⟩ := at_lt (show k < m.length by rw [HL.out]; exact hlt)
      have hrq := HQ.out.at_ hr
      obtain ⟨b2, o2, Ak, ck, rfl, _, hc, hlc, hcm, hrow⟩ := HM.out k r hr
      unfold maxLen at hcm
      rw [hrq] at hc hlc
      obtain ⟨x0, hx0⟩ := at_lt (show 0 < r.length by omega)
      obtain ⟨br, orr, rfl, hbr, _⟩ := hrow 0 _ (ints_at hx0)
      have HR := Lib.hid hr
      have HRQ := Lib.hid hrq
      have hwr : IntKind.i64.wrap ((k : Int) + (s : Int)) = ((k + s : Nat) : Int) := by rw [IntWalk.i64_in _ (by omega)]; omega
      clear hr hrq hx0
      by_cases hcc : k + s = ck
      · have hz : k + s = n := by omega
        have G : Hid (LowTo m s (k + 1)) := HT.out.step HR.out HRQ.out (fun j x h1 h2 => by omega)
        have hcn : ck = n := by omega
        have hlen : ((n - (k + s) : Nat) : Int) = 0 := by omega
        have hwn : IntKind.i64.wrap ((k : Int) + (s : Int)) = (n : Int) := by rw [hwr]; omega
        have hks : (k : Int) + (s : Int) = (n : Int) := by omega
        subst hcn
        clear HT hwr hcc hlen
        go_wp2_with fail
        go_loop [23] (fun i => i = .int .i64 0) (fun i => 0)
        case atStart => rfl
        case round =>
          subst hrel
          go_wp2
          go_round
          case rel => exact ⟨k + 1, by omega, by go_num, G⟩
          case measure => simp [intOf]; omega
      · go_wp2_with fail
        go_loop [23] (fun i => ∃ j : Nat, j ≤ n - (k + s) ∧ i = .int .i64 j ∧ Hid (LowIn r (k + s) (k + s + j))) (fun i => n - (k + s) - (intOf i).toNat)
        case atStart => exact ⟨0, Nat.zero_le _, rfl, fun j x h1 h2 => by omega⟩
        case round =>
          obtain ⟨j, hj, rfl, HI⟩ := hrel
          by_cases hjl : j < n - (k + s)
          · obtain ⟨x, hx⟩ := at_lt (show k + s + j < r.length by rw [HRQ.out]; omega)
            obtain ⟨b3, o3, e3, _, hcx⟩ := hrow (k + s + j) _ (ints_at hx)
            injection e3 with e3
            injection e3 with e4 e5
            subst e4 e5
            rw [← Nat.add_assoc] at hcx
            by_cases hx0 : x = 0
            · subst hx0
              have G : Hid (LowIn r (k + s) (k + s + (j + 1))) := HI.out.step hx
              clear hx HI
              go_wp2
              go_round
              case rel => exact ⟨j + 1, by omega, by go_num, G⟩
              case measure => simp [intOf]; omega
            · have H := Lib.hid (lowB_no (s := s) HR.out (by omega) hx hx0)
              have tx := bne_t hx0
              clear hx HI hx0
              go_wp2
              go_ret
              exact ⟨ret_bool H.out.symm, HB.out⟩
          · have G : Hid (LowTo m s (k + 1)) := HT.out.step HR.out HRQ.out (by have := HI.out; rw [show k + s + j = max (k + s) n by omega] at this; exact fun j x h1 h2 => this j x h1 (by omega))
            clear HI HT
            go_wp2
            go_round
            case rel => exact ⟨k + 1, by omega, by go_num, G⟩
            case measure => simp [intOf]; omega
    · obtain rfl : k = n := by omega
      have H := Lib.hid (lowB_yes HL.out HT.out)
      clear HT
      go_wp2
      go_ret
      exact ⟨ret_bool H.out.symm, HB.out⟩
set_option maxHeartbeats 2000000 in
theorem l09Lower_any (A D : Option Addr) (n c d B s : Nat) (m : List (List Int)) (w : World) (hl : m.length = n) (hq : Wide m n) (hn : n ≤ 8) (hs : s ≤ 1) (hB : B ≤ w.heap.size) (h : Mat w B A m) :
    Calls Try.prog 44 #[.agg #[.slice A n c, .slice D n d], .int .i64 s] w fun e w' => e = .returned (.bool (lowB m s)) ∧ Below w.heap.size w w' := by
  have HL := Lib.hid hl
  have HQ := Lib.hid hq
  obtain ⟨W0, hW0⟩ : ∃ W0, W0 = w.alloc (.cells #[.slice A n c, .slice D n d] 28) := ⟨_, rfl⟩
  have HB : Hid (Below w.heap.size w W0) := by rw [hW0]; exact (Below.refl _ _).alloc (Nat.le_refl _) _
  have HM : Hid (Mat W0 B A m) := h.below HB.out hB
  have HX : Bx W0 w.heap.size 28 (.slice A n c) (.slice D n d) := by rw [hW0]; exact Bx.new _ _ _ _
  have q0 := HX.c0
  have q1 := HX.c1
  clear hl hq h hB HX
  go_enter Try.func44, Try.ntmps44
  go_wp2_with fail
  rw [← hW0]
  clear hW0
  go_loop [5] (fun i => ∃ k : Nat, k ≤ n ∧ i = .int .i64 k ∧ Hid (LowTo m s k)) (fun i => n - (intOf i).toNat)
  case atStart => exact ⟨0, Nat.zero_le _, rfl, fun i r j x hi => by omega⟩
  case round =>
    obtain ⟨k, hk, rfl, HT⟩ := hrel
    by_cases hlt : k < n
    · obtain ⟨r, hr⟩ := at_lt (show k < m.length by rw [HL.out]; exact hlt)
      have hrq := HQ.out.at_ hr
      obtain ⟨b2, o2, Ak, ck, rfl, _, hc, hlc, hcm, hrow⟩ := HM.out k r hr
      unfold maxLen at hcm
      rw [hrq] at hc hlc
      have HR := Lib.hid hr
      have HRQ := Lib.hid hrq
      have hwr : IntKind.i64.wrap ((k : Int) + (s : Int)) = ((k + s : Nat) : Int) := by rw [IntWalk.i64_in _ (by omega)]; omega
      clear hr hrq
      go_wp2_with fail
      go_loop [6] (fun i => ∃ j : Nat, k + s ≤ j ∧ j ≤ n ∧ i = .int .i64 j ∧ Hid (LowIn r (k + s) j)) (fun i => n - (intOf i).toNat)
      case atStart => exact ⟨k + s, Nat.le_refl _, by omega, by go_num, fun j x h1 h2 => by omega⟩
      case round =>
        obtain ⟨j, hkj, hj, rfl, HI⟩ := hrel
        by_cases hjl : j < n
        · obtain ⟨x, hx⟩ := at_lt (show j < r.length by rw [HRQ.out]; omega)
          obtain ⟨b3, o3, rfl, _, hcx⟩ := hrow j _ (ints_at hx)
          by_cases hx0 : x = 0
          · subst hx0
            have G : Hid (LowIn r (k + s) (j + 1)) := HI.out.step hx
            clear hx HI
            go_wp2
            go_round
            case rel => exact ⟨j + 1, by omega, by omega, by go_num, G⟩
            case measure => simp [intOf]; omega
          · have H := Lib.hid (lowB_no (s := s) HR.out (by omega) hx hx0)
            have tx := bne_t hx0
            clear hx HI hx0
            go_wp2
            go_ret
            exact ⟨ret_bool H.out.symm, HB.out⟩
        · have G : Hid (LowTo m s (k + 1)) := HT.out.step HR.out HRQ.out (by have := HI.out; rw [show j = n by omega] at this; exact this)
          clear HI HT
          go_wp2
          go_round
          case rel => exact ⟨k + 1, by omega, by go_num, G⟩
          case measure => simp [intOf]; omega
    · obtain rfl : k = n := by omega
      have H := Lib.hid (lowB_yes HL.out HT.out)
      clear HT
      go_wp2
      go_ret
      exact ⟨ret_bool H.out.symm, HB.out⟩
noncomputable def zeroA (s : Nat) (m : List (List Int)) (b : List Int) : Bool × Int := if isTabB m b = true then (lowB m s, 0) else (false, 1)
noncomputable def explicitA (m : List (List Int)) (b : List Int) : Bool × Int := zeroA 0 m b
noncomputable def diagonalA (m : List (List Int)) (b : List Int) : Bool × Int := zeroA 1 m b
set_option maxHeartbeats 2000000 in
theorem sIsExplicit_L (A D : Option Addr) (n c n' d B B' : Nat) (m : List (List Int)) (b : List Int) (w : World) (hl : m.length = n) (hl' : b.length = n') (hn : n ≤ 9223372036854775807) (hn' : n' ≤ 9223372036854775807) (hB : B ≤ w.heap.size) (hB' : B' ≤ w.heap.size) (h : Mat w B A m) (r : Row w B' D (ints b)) :
    Calls Try.prog 21 #[.agg #[.slice A n c, .slice D n' d]] w (ResBI (explicitA m b) w) := by
  have HL := Lib.hid hl
  have HL' := Lib.hid hl'
  obtain ⟨W0, hW0⟩ : ∃ W0, W0 = w.alloc (.cells #[.slice A n c, .slice D n' d] 28) := ⟨_, rfl⟩
  have HB : Hid (Below w.heap.size w W0) := by rw [hW0]; exact (Below.refl _ _).alloc (Nat.le_refl _) _
  have HM : Hid (Mat W0 B A m) := h.below HB.out hB
  have HR : Hid (Row W0 B' D (ints b)) := r.below HB.out hB'
  have HX : Hid (Bx W0 w.heap.size 28 (.slice A n c) (.slice D n' d)) := by rw [hW0]; exact Bx.new _ _ _ _
  have hz := HB.out.size
  clear hl hl' h r
  cases ht : isTabB m b
  · have G : Hid (explicitA m b = (false, 1)) := by unfold explicitA zeroA; rw [Hid, ht]; rfl
    go_enter Try.func21, Try.ntmps21
    go_wp2_with fail
    rw [← hW0]
    refine (l09Is_any A D n c n' d B B' m b W0 HL.out HL'.out hn hn' (by omega) (by omega) HM.out HR.out).mono ?_
    rintro e w2 ⟨rfl, b2⟩
    rw [ht]
    have HB2 := Lib.hid (HB.out.trans (b2.mono HB.out.size))
    clear b2 hW0 ht
    go_wp2
    go_ret2
    exact ResBI.of G.out HB2.out
  · obtain ⟨t1, t2, t3, t4, t5, t6⟩ := isTabB_parts ht
    rw [HL'.out] at t1 t2 t3 t5
    have hnn : n' = n := by rw [← t3]; exact HL.out
    subst hnn
    have G : Hid (explicitA m b = (lowB m 0, 0)) := by unfold explicitA zeroA; rw [Hid, ht]; rfl
    have HW := Lib.hid t5
    clear t3 t4 t5 t6
    go_enter Try.func21, Try.ntmps21
    go_wp2_with fail
    rw [← hW0]
    refine (l09Is_any A D n' c n' d B B' m b W0 HL.out HL'.out hn hn' (by omega) (by omega) HM.out HR.out).mono ?_
    rintro e w2 ⟨rfl, b2⟩
    rw [ht]
    have HB2 := Lib.hid (HB.out.trans (b2.mono HB.out.size))
    have HM2 := Lib.hid (HM.out.below b2 (by omega))
    have HR2 := Lib.hid (HR.out.below b2 (by omega))
    have q0 := (HX.out.next b2).c0
    have q1 := (HX.out.next b2).c1
    have hz2 := b2.size
    clear b2 hW0 ht
    go_wp2_with fail
    refine (l09Lower_any A D n' c d B 0 m w2 HL.out HW.out t2 (by omega) (by omega) HM2.out).mono ?_
    rintro e w3 ⟨rfl, b3⟩
    have HB3 := Lib.hid (HB2.out.trans (b3.mono HB2.out.size))
    clear b3 q0 q1
    go_wp2
    go_ret2
    exact ResBI.of G.out HB3.out
set_option maxHeartbeats 2000000 in
theorem pIsExplicit_L (A D : Option Addr) (n c n' d B B' : Nat) (m : List (List Int)) (b : List Int) (w : World) (hl : m.length = n) (hl' : b.length = n') (hn : n ≤ 9223372036854775807) (hn' : n' ≤ 9223372036854775807) (hB : B ≤ w.heap.size) (hB' : B' ≤ w.heap.size) (h : Mat w B A m) (r : Row w B' D (ints b)) :
    Calls Try.prog 22 #[.agg #[.slice A n c, .slice D n' d]] w (ResBI (explicitA m b) w) := by
  have HL := Lib.hid hl
  have HL' := Lib.hid hl'
  obtain ⟨W0, hW0⟩ : ∃ W0, W0 = w.alloc (.cells #[.slice A n c, .slice D n' d] 28) := ⟨_, rfl⟩
  have HB : Hid (Below w.heap.size w W0) := by rw [hW0]; exact (Below.refl _ _).alloc (Nat.le_refl _) _
  have HM : Hid (Mat W0 B A m) := h.below HB.out hB
  have HR : Hid (Row W0 B' D (ints b)) := r.below HB.out hB'
  have HX : Hid (Bx W0 w.heap.size 28 (.slice A n c) (.slice D n' d)) := by rw [hW0]; exact Bx.new _ _ _ _
  have hz := HB.out.size
  clear hl hl' h r
  cases ht : isTabB m b
  · have G : Hid (explicitA m b = (false, 1)) := by unfold explicitA zeroA; rw [Hid, ht]; rfl
    go_enter Try.func22, Try.ntmps22
    go_wp2_with fail
    rw [← hW0]
    refine (isTableau_any A D n c n' d B B' m b W0 HL.out HL'.out hn hn' (by omega) (by omega) HM.out HR.out).mono ?_
    rintro e w2 ⟨rfl, b2⟩
    rw [ht]
    have HB2 := Lib.hid (HB.out.trans (b2.mono HB.out.size))
    clear b2 hW0 ht
    go_wp2
    go_ret2
    exact ResBI.of G.out HB2.out
  · obtain ⟨t1, t2, t3, t4, t5, t6⟩ := isTabB_parts ht
    rw [HL'.out] at t1 t2 t3 t5
    have hnn : n' = n := by rw [← t3]; exact HL.out
    subst hnn
    have G : Hid (explicitA m b = (lowB m 0, 0)) := by unfold explicitA zeroA; rw [Hid, ht]; rfl
    have HW := Lib.hid t5
    clear t3 t4 t5 t6
    go_enter Try.func22, Try.ntmps22
    go_wp2_with fail
    rw [← hW0]
    refine (isTableau_any A D n' c n' d B B' m b W0 HL.out HL'.out hn hn' (by omega) (by omega) HM.out HR.out).mono ?_
    rintro e w2 ⟨rfl, b2⟩
    rw [ht]
    have HB2 := Lib.hid (HB.out.trans (b2.mono HB.out.size))
    have HM2 := Lib.hid (HM.out.below b2 (by omega))
    have HR2 := Lib.hid (HR.out.below b2 (by omega))
    have q0 := (HX.out.next b2).c0
    have q1 := (HX.out.next b2).c1
    have hz2 := b2.size
    clear b2 hW0 ht
    go_wp2_with fail
    refine (schemeOf_any A D n' c n' d B B' n' m b w2 HL.out HL'.out t2 HW.out (by omega) (by omega) (by omega) (by omega) HM2.out HR2.out).mono ?_
    rintro e w3 ⟨A3, c3, D3, d3, rfl, hc3, hd3, m3, r3, b3⟩
    have HB3 := Lib.hid (HB2.out.trans (b3.mono HB2.out.size))
    have HM3 := Lib.hid m3
    clear b3 q0 q1 m3 r3
    go_wp2_with fail
    refine (isZeroFrom_any A3 D3 n' c3 n' d3 w3.heap.size 0 m w3 HL.out HW.out t2 (by omega) (Nat.le_refl _) HM3.out).mono ?_
    rintro e w4 ⟨rfl, b4⟩
    have HB4 := Lib.hid (HB3.out.trans (b4.mono HB3.out.size))
    clear b4
    go_wp2
    go_ret2
    exact ResBI.of G.out HB4.out
set_option maxHeartbeats 2000000 in
theorem sIsDiagonal_L (A D : Option Addr) (n c n' d B B' : Nat) (m : List (List Int)) (b : List Int) (w : World) (hl : m.length = n) (hl' : b.length = n') (hn : n ≤ 9223372036854775807) (hn' : n' ≤ 9223372036854775807) (hB : B ≤ w.heap.size) (hB' : B' ≤ w.heap.size) (h : Mat w B A m) (r : Row w B' D (ints b)) :
    Calls Try.prog 23 #[.agg #[.slice A n c, .slice D n' d]] w (ResBI (diagonalA m b) w) := by
  have HL := Lib.hid hl
  have HL' := Lib.hid hl'
  obtain ⟨W0, hW0⟩ : ∃ W0, W0 = w.alloc (.cells #[.slice A n c, .slice D n' d] 28) := ⟨_, rfl⟩
  have HB : Hid (Below w.heap.size w W0) := by rw [hW0]; exact (Below.refl _ _).alloc (Nat.le_refl _) _
  have HM : Hid (Mat W0 B A m) := h.below HB.out hB
  have HR : Hid (Row W0 B' D (ints b)) := r.below HB.out hB'
  have HX : Hid (Bx W0 w.heap.size 28 (.slice A n c) (.slice D n' d)) := by rw [hW0]; exact Bx.new _ _ _ _
  have hz := HB.out.size
  clear hl hl' h r
  cases ht : isTabB m b
  · have G : Hid (diagonalA m b = (false, 1)) := by unfold diagonalA zeroA; rw [Hid, ht]; rfl
    go_enter Try.func23, Try.ntmps23
    go_wp2_with fail
    rw [← hW0]
    refine (l09Is_any A D n c n' d B B' m b W0 HL.out HL'.out hn hn' (by omega) (by omega) HM.out HR.out).mono ?_
    rintro e w2 ⟨rfl, b2⟩
    rw [ht]
    have HB2 := Lib.hid (HB.out.trans (b2.mono HB.out.size))
    clear b2 hW0 ht
    go_wp2
    go_ret2
    exact ResBI.of G.out HB2.out
  · obtain ⟨t1, t2, t3, t4, t5, t6⟩ := isTabB_parts ht
    rw [HL'.out] at t1 t2 t3 t5
    have hnn : n' = n := by rw [← t3]; exact HL.out
    subst hnn
    have G : Hid (diagonalA m b = (lowB m 1, 0)) := by unfold diagonalA zeroA; rw [Hid, ht]; rfl
    have HW := Lib.hid t5
    clear t3 t4 t5 t6
    go_enter Try.func23, Try.ntmps23
    go_wp2_with fail
    rw [← hW0]
    refine (l09Is_any A D n' c n' d B B' m b W0 HL.out HL'.out hn hn' (by omega) (by omega) HM.out HR.out).mono ?_
    rintro e w2 ⟨rfl, b2⟩
    rw [ht]
    have HB2 := Lib.hid (HB.out.trans (b2.mono HB.out.size))
    have HM2 := Lib.hid (HM.out.below b2 (by omega))
    have HR2 := Lib.hid (HR.out.below b2 (by omega))
    have q0 := (HX.out.next b2).c0
    have q1 := (HX.out.next b2).c1
    have hz2 := b2.size
    clear b2 hW0 ht
    go_wp2_with fail
    refine (l09Lower_any A D n' c d B 1 m w2 HL.out HW.out t2 (by omega) (by omega) HM2.out).mono ?_
    rintro e w3 ⟨rfl, b3⟩
    have HB3 := Lib.hid (HB2.out.trans (b3.mono HB2.out.size))
    clear b3 q0 q1
    go_wp2
    go_ret2
    exact ResBI.of G.out HB3.out
set_option maxHeartbeats 2000000 in
theorem pIsDiagonal_L (A D : Option Addr) (n c n' d B B' : Nat) (m : List (List Int)) (b : List Int) (w : World) (hl : m.length = n) (hl' : b.length = n') (hn : n ≤ 9223372036854775807) (hn' : n' ≤ 9223372036854775807) (hB : B ≤ w.heap.size) (hB' : B' ≤ w.heap.size) (h : Mat w B A m) (r : Row w B' D (ints b)) :
    Calls Try.prog 24 #[.agg #[.slice A n c, .slice D n' d]] w (ResBI (diagonalA m b) w) := by
  have HL := Lib.hid hl
  have HL' := Lib.hid hl'
  obtain ⟨W0, hW0⟩ : ∃ W0, W0 = w.alloc (.cells #[.slice A n c, .slice D n' d] 28) := ⟨_, rfl⟩
  have HB : Hid (Below w.heap.size w W0) := by rw [hW0]; exact (Below.refl _ _).alloc (Nat.le_refl _) _
  have HM : Hid (Mat W0 B A m) := h.below HB.out hB
  have HR : Hid (Row W0 B' D (ints b)) := r.below HB.out hB'
  have HX : Hid (Bx W0 w.heap.size 28 (.slice A n c) (.slice D n' d)) := by rw [hW0]; exact Bx.new _ _ _ _
  have hz := HB.out.size
  clear hl hl' h r
  cases ht : isTabB m b
  · have G : Hid (diagonalA m b = (false, 1)) := by unfold diagonalA zeroA; rw [Hid, ht]; rfl
    go_enter Try.func24, Try.ntmps24
    go_wp2_with fail
    rw [← hW0]
    refine (isTableau_any A D n c n' d B B' m b W0 HL.out HL'.out hn hn' (by omega) (by omega) HM.out HR.out).mono ?_
    rintro e w2 ⟨rfl, b2⟩
    rw [ht]
    have HB2 := Lib.hid (HB.out.trans (b2.mono HB.out.size))
    clear b2 hW0 ht
    go_wp2
    go_ret2
    exact ResBI.of G.out HB2.out
  · obtain ⟨t1, t2, t3, t4, t5, t6⟩ := isTabB_parts ht
    rw [HL'.out] at t1 t2 t3 t5
    have hnn : n' = n := by rw [← t3]; exact HL.out
    subst hnn
    have G : Hid (diagonalA m b = (lowB m 1, 0)) := by unfold diagonalA zeroA; rw [Hid, ht]; rfl
    have HW := Lib.hid t5
    clear t3 t4 t5 t6
    go_enter Try.func24, Try.ntmps24
    go_wp2_with fail
    rw [← hW0]
    refine (isTableau_any A D n' c n' d B B' m b W0 HL.out HL'.out hn hn' (by omega) (by omega) HM.out HR.out).mono ?_
    rintro e w2 ⟨rfl, b2⟩
    rw [ht]
    have HB2 := Lib.hid (HB.out.trans (b2.mono HB.out.size))
    have HM2 := Lib.hid (HM.out.below b2 (by omega))
    have HR2 := Lib.hid (HR.out.below b2 (by omega))
    have q0 := (HX.out.next b2).c0
    have q1 := (HX.out.next b2).c1
    have hz2 := b2.size
    clear b2 hW0 ht
    go_wp2_with fail
    refine (schemeOf_any A D n' c n' d B B' n' m b w2 HL.out HL'.out t2 HW.out (by omega) (by omega) (by omega) (by omega) HM2.out HR2.out).mono ?_
    rintro e w3 ⟨A3, c3, D3, d3, rfl, hc3, hd3, m3, r3, b3⟩
    have HB3 := Lib.hid (HB2.out.trans (b3.mono HB2.out.size))
    have HM3 := Lib.hid m3
    clear b3 q0 q1 m3 r3
    go_wp2_with fail
    refine (isZeroFrom_any A3 D3 n' c3 n' d3 w3.heap.size 1 m w3 HL.out HW.out t2 (by omega) (Nat.le_refl _) HM3.out).mono ?_
    rintro e w4 ⟨rfl, b4⟩
    have HB4 := Lib.hid (HB3.out.trans (b4.mono HB3.out.size))
    clear b4
    go_wp2
    go_ret2
    exact ResBI.of G.out HB4.out
end Go.Proofs.Ytolkbbbbahhfaaa
