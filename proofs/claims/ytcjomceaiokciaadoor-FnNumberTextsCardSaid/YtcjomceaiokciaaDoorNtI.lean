/-
  The program's texts of numbers: what strconv.FormatInt lays of every number, and the search of a denominator. The table of powers of ten stands in the world (TabBelow).
-/
import Derived.Test.YtcjomceaiokciaaDoorNtP
import Derived.Test.YtcjomceaiokciaaDoorShelf
import Derived.Lib.AppendIntMem
import Derived.Lib.ItoaLen
namespace Go.Proofs.YtcjomceaiokciaaDoor
open Go.RowKit Fld
set_option linter.unusedVariables false
set_option linter.unusedSimpArgs false
set_option maxRecDepth 100000

def Tens (B : Nat) (w : World) : Prop := Lib.TabBelow Tryd.prog B w "internal/strconv.uint64pow10" .u64 Lib.pow10Tab
theorem Tens.next {B : Nat} {w w' : World} (h : Tens B w) (hb : Below B w w') : Tens B w' := Lib.TabBelow.on h hb
theorem format_any (n : Int) (h0 : -9223372036854775808 ≤ n) (h1 : n ≤ 9223372036854775807) (B : Nat) (w : World) (ht : Tens B w) (hB : B ≤ w.heap.size) :
    Calls Tryd.prog 35 #[.int .i64 n, .int .i64 10] w fun e w' => e = .returned (.string ⟨(Lib.itoa n).toArray⟩) ∧ Below B w w' :=
  (Tryd.strconv_FormatInt_10 n h0 h1 w (Lib.TabBelow.here ht)).mono (by rintro e w' ⟨rfl, k, os, rfl⟩; exact ⟨rfl, Lib.below_grow B w hB k os⟩)
/-- the same with letters for the text -/
theorem format_at {n : Int} {P : List UInt8} (hP : P = Lib.itoa n) (h0 : -9223372036854775808 ≤ n) (h1 : n ≤ 9223372036854775807) (B : Nat) (w : World) (ht : Tens B w) (hB : B ≤ w.heap.size) :
    Calls Tryd.prog 35 #[.int .i64 n, .int .i64 10] w fun e w' => e = .returned (.string ⟨P.toArray⟩) ∧ Below B w w' := by
  rw [hP]; exact format_any n h0 h1 B w ht hB
theorem text_any (a : Int) (a0 : 0 ≤ a) (a1 : a < 10007) (B : Nat) (w : World) (ht : Tens B w) (hB : B ≤ w.heap.size) :
    Calls Tryd.prog 19 #[.int .i64 a] w fun e w' => e = .returned (.string ⟨(numA a).toArray⟩) ∧ Below B w w' := by
  have HT := Lib.hid ht
  clear ht
  go_enter Tryd.func19, Tryd.ntmps19
  go_wp2_with fail
  go_loop [3] (fun i => ∃ q : Nat, 1 ≤ q ∧ q ≤ 71 ∧ i = .int .i64 q ∧ Hid (numA a = numT a q (71 - q))) (fun i => 71 - (intOf i).toNat)
  case atStart => exact ⟨1, by omega, by omega, rfl, Lib.hid rfl⟩
  case round =>
    obtain ⟨q, q1, q71, rfl, HQ⟩ := hrel
    by_cases hq : q ≤ 70
    · obtain ⟨m, hm⟩ : ∃ m, a * (q : Int) % 10007 = m := ⟨_, rfl⟩
      have m0 : 0 ≤ m := by rw [← hm]; exact Int.emod_nonneg _ (by decide)
      have m1 : m < 10007 := by rw [← hm]; exact Int.emod_lt_of_pos _ (by decide)
      have T : ∀ w, Calls Tryd.prog 34 #[.int .i64 a, .int .i64 (q : Int)] w fun e w' => e = .returned (.int .i64 m) ∧ w = w' := fun w => by
        have := times_any a q w a0 a1 (by omega) (by omega)
        rw [hm] at this; exact this
      have HS : Hid (fitP a q < -70 → numA a = numT a (q + 1) (71 - (q + 1))) := Lib.hid fun h => HQ.out.trans (by
        rw [show 71 - q = (71 - (q + 1)) + 1 by omega]; exact numT_skip h)
      have HH : Hid (¬ fitP a q < -70 → numA a = fracT (fitP a q) q) := Lib.hid fun h => HQ.out.trans (by
        rw [show 71 - q = (71 - (q + 1)) + 1 by omega]; exact numT_hit h)
      clear HQ
      by_cases hb : 70 < m
      · have hp : fitP a q = m - 10007 := by rw [fitP_big (by rw [hm]; exact hb), hm]
        rw [hp] at HS HH
        clear hp hm
        by_cases hl : m - 10007 < -70
        · have G := Lib.hid (HS.out hl)
          clear HS HH
          go_wp2_with (go_at_call 34; refine (T _).mono ?_; rintro e w' ⟨rfl, rfl⟩)
          go_round
          case rel => exact ⟨q + 1, by omega, by omega, by go_num, G⟩
          case measure => simp [intOf]; omega
        · have G := Lib.hid (HH.out hl)
          clear HS HH
          obtain ⟨P, hP⟩ : ∃ P, P = Lib.itoa (m - 10007) := ⟨_, rfl⟩
          have lP : P.length ≤ 21 := by rw [hP]; exact Lib.itoa_length_le _ (by omega) (by omega)
          have TP := format_at hP (by omega) (by omega) B
          by_cases h1 : q = 1
          · have G1 := Lib.hid ((G.out.trans (fracT_one h1)).trans hP.symm)
            have hq1 : ((q : Int) == 1) = true := by rw [beq_iff_eq]; omega
            clear G hP h1
            go_wp2_with (first | (go_at_call 34; refine (T _).mono ?_; rintro e w' ⟨rfl, rfl⟩) | (go_at_call 35; refine (TP _ HT.out hB).mono ?_; rintro e wf ⟨rfl, bf⟩))
            go_ret
            exact ⟨by rw [G1.out]; rfl, bf⟩
          · obtain ⟨Q, hQ⟩ : ∃ Q, Q = Lib.itoa (q : Int) := ⟨_, rfl⟩
            have lQ : Q.length ≤ 21 := by rw [hQ]; exact Lib.itoa_length_le _ (by omega) (by omega)
            have TQ := format_at hQ (by omega) (by omega) B
            have G1 := Lib.hid ((G.out.trans (fracT_more h1)).trans (by rw [← hP, ← hQ] : _ = P ++ 47 :: Q))
            have GE : Hid ((⟨P.toArray⟩ : ByteArray) ++ ⟨#[47]⟩ ++ ⟨Q.toArray⟩ = ⟨(P ++ 47 :: Q).toArray⟩) := by
              rw [Hid, show (⟨#[47]⟩ : ByteArray) = ⟨[47].toArray⟩ from rfl, ByteArray.mk_append_mk, ByteArray.mk_append_mk, List.append_assoc]; rfl
            have hq1 : ((q : Int) == 1) = false := by rw [beq_eq_false_iff_ne]; omega
            clear G h1 hP hQ
            go_wp2_with (first | (go_at_call 34; refine (T _).mono ?_; rintro e w' ⟨rfl, rfl⟩) | (go_at_call 35; refine (TP _ HT.out hB).mono ?_; rintro e wf ⟨rfl, bf⟩) | (go_at_call 35; refine (TQ _ (HT.out.next bf) (Nat.le_trans hB bf.size)).mono ?_; rintro e wg ⟨rfl, bg⟩))
            go_ret
            exact ⟨by rw [G1.out, ← GE.out]; rfl, bf.trans bg⟩
      · have hp : fitP a q = m := by rw [fitP_small (by rw [hm]; exact hb), hm]
        rw [hp] at HS HH
        clear hp hm
        have hl : ¬ m < -70 := by omega
        · have G := Lib.hid (HH.out hl)
          clear HS HH
          obtain ⟨P, hP⟩ : ∃ P, P = Lib.itoa (m) := ⟨_, rfl⟩
          have lP : P.length ≤ 21 := by rw [hP]; exact Lib.itoa_length_le _ (by omega) (by omega)
          have TP := format_at hP (by omega) (by omega) B
          by_cases h1 : q = 1
          · have G1 := Lib.hid ((G.out.trans (fracT_one h1)).trans hP.symm)
            have hq1 : ((q : Int) == 1) = true := by rw [beq_iff_eq]; omega
            clear G hP h1
            go_wp2_with (first | (go_at_call 34; refine (T _).mono ?_; rintro e w' ⟨rfl, rfl⟩) | (go_at_call 35; refine (TP _ HT.out hB).mono ?_; rintro e wf ⟨rfl, bf⟩))
            go_ret
            exact ⟨by rw [G1.out]; rfl, bf⟩
          · obtain ⟨Q, hQ⟩ : ∃ Q, Q = Lib.itoa (q : Int) := ⟨_, rfl⟩
            have lQ : Q.length ≤ 21 := by rw [hQ]; exact Lib.itoa_length_le _ (by omega) (by omega)
            have TQ := format_at hQ (by omega) (by omega) B
            have G1 := Lib.hid ((G.out.trans (fracT_more h1)).trans (by rw [← hP, ← hQ] : _ = P ++ 47 :: Q))
            have GE : Hid ((⟨P.toArray⟩ : ByteArray) ++ ⟨#[47]⟩ ++ ⟨Q.toArray⟩ = ⟨(P ++ 47 :: Q).toArray⟩) := by
              rw [Hid, show (⟨#[47]⟩ : ByteArray) = ⟨[47].toArray⟩ from rfl, ByteArray.mk_append_mk, ByteArray.mk_append_mk, List.append_assoc]; rfl
            have hq1 : ((q : Int) == 1) = false := by rw [beq_eq_false_iff_ne]; omega
            clear G h1 hP hQ
            go_wp2_with (first | (go_at_call 34; refine (T _).mono ?_; rintro e w' ⟨rfl, rfl⟩) | (go_at_call 35; refine (TP _ HT.out hB).mono ?_; rintro e wf ⟨rfl, bf⟩) | (go_at_call 35; refine (TQ _ (HT.out.next bf) (Nat.le_trans hB bf.size)).mono ?_; rintro e wg ⟨rfl, bg⟩))
            go_ret
            exact ⟨by rw [G1.out, ← GE.out]; rfl, bf.trans bg⟩
    · have G := Lib.hid (HQ.out.trans (by rw [show 71 - q = 0 by omega]; rfl : numT a q (71 - q) = Lib.itoa a))
      clear HQ
      go_wp2_with (go_at_call 35; refine (format_any _ (by omega) (by omega) B _ HT.out hB).mono ?_; rintro e wf ⟨rfl, bf⟩)
      go_ret
      exact ⟨by rw [G.out]; rfl, bf⟩
theorem pNumberText_any (a : Int) (B : Nat) (w : World) (ht : Tens B w) (hB : B ≤ w.heap.size) :
    Calls Tryd.prog 7 #[.int .i64 a] w fun e w' => e = .returned (.tuple #[.string ⟨(numTx a).1.toArray⟩, .int .i64 (numTx a).2]) ∧ Below B w w' := by
  have HT := Lib.hid ht
  clear ht
  cases h : isNum a
  · have G := Lib.hid (show numTx a = ([], 2) from if_neg (by rw [h]; simp))
    go_enter Tryd.func7, Tryd.ntmps7
    go_wp2_with (go_at_call 18; refine (isNumber_any _ _).mono ?_; rintro e w' ⟨rfl, rfl⟩)
    go_ret2
    exact ⟨by rw [G.out]; rfl, Below.refl _ _⟩
  · obtain ⟨a0, a1⟩ := isNum_iff.1 h
    have G := Lib.hid (show numTx a = (numA a, 0) from if_pos h)
    go_enter Tryd.func7, Tryd.ntmps7
    go_wp2_with (first | (go_at_call 18; refine (isNumber_any _ _).mono ?_; rintro e w' ⟨rfl, rfl⟩) | (go_at_call 19; refine (text_any a a0 a1 B _ HT.out hB).mono ?_; rintro e wf ⟨rfl, bf⟩))
    go_ret2
    exact ⟨by rw [G.out]; rfl, bf⟩
end Go.Proofs.YtcjomceaiokciaaDoor
