/-
  Numbers in decimal out of texts, the program's and the model's alike.
-/
import Derived.Test.YtcjomceaiokciaaDoorPower
import Derived.Outline
namespace Go.Proofs.YtcjomceaiokciaaDoor
open Go.RowKit Fld
set_option linter.unusedVariables false
set_option linter.unusedSimpArgs false
set_option maxRecDepth 100000

def isDig (c : UInt8) : Bool := decide (48 ≤ (c.toNat : Int) ∧ (c.toNat : Int) ≤ 57)
def dv (l : List UInt8) : Int := l.foldl (fun n c => n * 10 + ((c.toNat : Int) - 48)) 0
/-- the number that is written, or -1 -/
def decA (l : List UInt8) : Int := if 1 ≤ l.length ∧ l.length ≤ 9 ∧ ¬ (1 < l.length ∧ (l.getD 0 0).toNat = 48) ∧ l.all isDig = true then dv l else -1
theorem dv_snoc (l : List UInt8) (c : UInt8) : dv (l ++ [c]) = dv l * 10 + ((c.toNat : Int) - 48) := by simp [dv]
theorem dv_bd (n : Nat) : ∀ l : List UInt8, l.length = n → l.all isDig = true → 0 ≤ dv l ∧ dv l + 1 ≤ (10 : Int) ^ n := by
  induction n with
  | zero =>
    intro l hl _
    rw [List.eq_nil_of_length_eq_zero hl]
    simp [dv]
  | succ n ih =>
    intro l hl h
    rcases List.eq_nil_or_concat l with rfl | ⟨r, c, rfl⟩
    · simp at hl
    · rw [List.concat_eq_append] at hl h ⊢
      rw [List.all_append, Bool.and_eq_true] at h
      have hc : isDig c = true := by simpa using h.2
      have ih2 := ih r (by simpa using hl) h.1
      unfold isDig at hc
      have hc2 := of_decide_eq_true hc
      rw [dv_snoc, Int.pow_succ]
      omega
theorem dv_nine (l : List UInt8) (h : l.all isDig = true) (hl : l.length ≤ 9) : 0 ≤ dv l ∧ dv l ≤ 999999999 := by
  have h1 := dv_bd l.length l rfl h
  have h2 : (10 ^ l.length : Nat) ≤ 10 ^ 9 := Nat.pow_le_pow_right (by omega) hl
  have h3 : ((10 ^ l.length : Nat) : Int) = (10 : Int) ^ l.length := by simp
  have h4 : (10 ^ 9 : Nat) = 1000000000 := by decide
  omega
theorem byte_take (s : ByteArray) (k : Nat) (h : k < s.size) : s.data.toList.take (k + 1) = s.data.toList.take k ++ [s[k]] := by
  rw [List.take_succ_eq_append_getElem (by simpa using h)]; rfl
theorem dig_yes (s : ByteArray) (k : Nat) (h : k < s.size) (hd : (s.data.toList.take k).all isDig = true) (h0 : 48 ≤ (s[k].toNat : Int)) (h1 : (s[k].toNat : Int) ≤ 57) :
    (s.data.toList.take (k + 1)).all isDig = true ∧ dv (s.data.toList.take (k + 1)) = dv (s.data.toList.take k) * 10 + ((s[k].toNat : Int) - 48) := by
  rw [byte_take s k h, dv_snoc]
  refine ⟨?_, rfl⟩
  rw [List.all_append, hd]
  simp [isDig, h0, h1]
theorem decA_bad {s : ByteArray} {k : Nat} (h : k < s.size) (hb : (s[k].toNat : Int) < 48 ∨ 57 < (s[k].toNat : Int)) : decA s.data.toList = -1 := by
  refine if_neg (fun g => ?_)
  have h2 := List.all_eq_true.1 g.2.2.2 s[k] (by
    have : s[k] = s.data.toList[k]'(by simpa using h) := rfl
    rw [this]; exact List.getElem_mem _)
  unfold isDig at h2
  have h3 := of_decide_eq_true h2
  omega
theorem decA_len {s : ByteArray} (h : s.size = 0 ∨ 9 < s.size) : decA s.data.toList = -1 := by
  refine if_neg (fun g => ?_)
  have : s.data.toList.length = s.size := by rw [Array.length_toList]; rfl
  omega
theorem getD_zero {s : ByteArray} (h : 0 < s.size) : s.data.toList.getD 0 0 = s[0] := by
  rw [List.getD_eq_getElem?_getD, List.getElem?_eq_getElem (by simpa using h)]; rfl
theorem decA_zero {s : ByteArray} (h : 1 < s.size) (hz : (s[0].toNat : Int) = 48) : decA s.data.toList = -1 := by
  refine if_neg (fun g => g.2.2.1 ⟨?_, ?_⟩)
  · have : s.data.toList.length = s.size := by rw [Array.length_toList]; rfl
    omega
  · rw [getD_zero (by omega)]; omega
theorem decA_yes {s : ByteArray} (h0 : 0 < s.size) (h9 : s.size ≤ 9) (hz : ¬ (1 < s.size ∧ (s[0].toNat : Int) = 48)) (hd : (s.data.toList.take s.size).all isDig = true) : decA s.data.toList = dv (s.data.toList.take s.size) := by
  have e : s.data.toList.length = s.size := by rw [Array.length_toList]; rfl
  rw [List.take_of_length_le (by omega)] at *
  refine if_pos ⟨by omega, by omega, fun g => hz ⟨by omega, ?_⟩, hd⟩
  have := g.2
  rw [getD_zero h0] at this
  omega

set_option maxRecDepth 100000 in
set_option maxHeartbeats 800000 in
def decTwo (r : Int) : Int × Bool := if 0 ≤ r then (r, true) else (0, false)
theorem decTwo_no {r : Int} (h : r = -1) : decTwo r = (0, false) := by subst h; rfl
theorem decTwo_yes {r : Int} (h : 0 ≤ r) : decTwo r = (r, true) := if_pos h
theorem ret_ib {p : Int × Bool} {x : Int} {b : Bool} (h : p = (x, b)) : Ending.returned (.tuple #[.int .i64 x, .bool b]) = .returned (.tuple #[.int .i64 p.1, .bool p.2]) := by rw [h]
theorem one_zero {s : ByteArray} (h : s.size = 1) (hz : (s[0].toNat : Int) = 48) : (!s.toList == [48]) = false := by
  have e : s.data.toList.length = 1 := by rw [Array.length_toList]; exact h
  obtain ⟨x, hx⟩ := List.length_eq_one_iff.1 e
  have h1 : s[0] = x := by
    have : s[0] = s.data.toList[0]'(by omega) := rfl
    rw [this]; simp [hx]
  have h2 : x = 48 := by
    apply UInt8.toNat_inj.1
    rw [← h1]; show s[0].toNat = 48; omega
  rw [ByteArray.toList_eq, hx, h2]; rfl
theorem more_zero {s : ByteArray} (h : 1 < s.size) : (!s.toList == [48]) = true := by
  have e : s.data.toList.length = s.size := by rw [Array.length_toList]; rfl
  rw [ByteArray.toList_eq]
  cases hh : s.data.toList with
  | nil => rfl
  | cons x r =>
    cases r with
    | nil => rw [hh] at e; simp at e; omega
    | cons y t => simp
theorem empty_list {s : ByteArray} (h : s.size = 0) : s.toList = [] := by
  rw [ByteArray.toList_eq]
  exact List.eq_nil_of_length_eq_zero (by rw [Array.length_toList]; exact h)
theorem full_list {s : ByteArray} (h : s.size ≠ 0) : ¬ s.toList = [] := by
  rw [ByteArray.toList_eq]
  intro g
  have : s.data.toList.length = s.size := by rw [Array.length_toList]; rfl
  rw [g] at this
  simp at this
  omega
theorem full_list' {s : ByteArray} (h : s.size ≠ 0) : s.toList.isEmpty = false := by
  have := full_list h
  cases hh : s.toList with
  | nil => exact absurd hh this
  | cons _ _ => rfl

set_option maxRecDepth 100000 in
set_option maxHeartbeats 800000 in
theorem parseDecimal_any (s : ByteArray) (w : World) (hm : s.size ≤ 9223372036854775807) : Calls Tryd.prog 24 #[.string s] w fun e w' => e = .returned (.tuple #[.int .i64 (decTwo (decA s.data.toList)).1, .bool (decTwo (decA s.data.toList)).2]) ∧ w = w' := by
  by_cases h0 : s.size = 0
  · have H := Lib.hid (decTwo_no (decA_len (.inl h0)))
    have te := empty_list h0
    clear h0
    go_enter Tryd.func24, Tryd.ntmps24
    go_wp2
    go_ret2
    exact ⟨ret_ib H.out, rfl⟩
  · have tn := full_list h0
    have tn2 := full_list' h0
    have hp : 0 < s.size := by omega
    clear h0
    by_cases h9 : 9 < s.size
    · have H := Lib.hid (decTwo_no (decA_len (.inr h9)))
      go_enter Tryd.func24, Tryd.ntmps24
      go_wp2
      go_ret2
      exact ⟨ret_ib H.out, rfl⟩
    · have h9' : (s.size : Int) ≤ 9 := by omega
      by_cases hz : 1 < s.size ∧ (s[0].toNat : Int) = 48
      · have H := Lib.hid (decTwo_no (decA_zero hz.1 hz.2))
        have h1 := more_zero hz.1
        have tz := beq_t hz.2
        clear hz
        go_enter Tryd.func24, Tryd.ntmps24
        go_wp2
        go_ret2
        exact ⟨ret_ib H.out, rfl⟩
      · have HZ := Lib.hid hz
        have tz : (((s[0].toNat : Int) == 48) = true ∧ (!s.toList == [48]) = false) ∨ ((s[0].toNat : Int) == 48) = false := by
          by_cases h48 : (s[0].toNat : Int) = 48
          · exact .inl ⟨beq_t h48, one_zero (by by_cases hh : 1 < s.size; exact absurd ⟨hh, h48⟩ hz; omega) h48⟩
          · exact .inr (beq_f h48)
        clear hz
        rcases tz with ⟨tz1, tz2⟩ | tz1
        all_goals
          go_enter Tryd.func24, Tryd.ntmps24
          go_wp2_with fail
          go_loop [4, 24] (fun n i => ∃ k : Nat, k ≤ s.size ∧ i = .int .i64 k ∧ n = .int .i64 (dv (s.data.toList.take k)) ∧ Hid ((s.data.toList.take k).all isDig = true)) (fun _ i => s.size - (intOf i).toNat)
          case atStart => exact ⟨0, Nat.zero_le _, rfl, rfl, rfl⟩
          case round =>
            obtain ⟨k, hk, rfl, rfl, HD⟩ := hrel
            have hb := dv_nine _ HD.out (by simp; omega)
            obtain ⟨b0, b1⟩ := hb
            by_cases hlt : k < s.size
            · by_cases hd0 : 48 ≤ (s[k].toNat : Int)
              · by_cases hd1 : (s[k].toNat : Int) ≤ 57
                · have G := Lib.hid (dig_yes s k hlt HD.out hd0 hd1)
                  clear HD
                  go_wp2
                  go_round
                  case rel => exact ⟨k + 1, by omega, by go_num, by rw [G.out.2, Int.mul_comm], G.out.1⟩
                  case measure => simp [intOf]; omega
                · have H := Lib.hid (decTwo_no (decA_bad hlt (.inr (Int.not_le.1 hd1))))
                  clear HD
                  go_wp2
                  go_ret2
                  exact ⟨ret_ib H.out, rfl⟩
              · have H := Lib.hid (decTwo_no (decA_bad hlt (.inl (Int.not_le.1 hd0))))
                clear HD
                go_wp2
                go_ret2
                exact ⟨ret_ib H.out, rfl⟩
            · obtain rfl : k = s.size := by omega
              have e := decA_yes hp (by omega) HZ.out HD.out
              have H := Lib.hid ((decTwo_yes (show 0 ≤ decA s.data.toList by rw [e]; exact b0)).trans (by rw [e]))
              clear HD e
              go_wp2
              go_ret2
              exact ⟨ret_ib H.out, rfl⟩
end Go.Proofs.YtcjomceaiokciaaDoor
