/-
  Reading a fraction: the program's and the model's alike.
-/
import Derived.Test.YtcjomceaiokciaaDoorText
import Derived.Test.YtcjomceaiokciaaDoorShelf
import Derived.Lib.IndexLaws
import Derived.Test.YtcjomceaiokciaaDoorSlices
namespace Go.Proofs.YtcjomceaiokciaaDoor
open Go.RowKit Fld
set_option linter.unusedVariables false
set_option linter.unusedSimpArgs false
set_option maxRecDepth 100000

/-- where the first slash is, or -1 -/
def slash (s : ByteArray) : Int := Lib.indexByte s.data.toList 47
theorem slash_parts (s : ByteArray) : (slash s = -1 ∧ ∀ k, (h : k < s.size) → (s[k].toNat : Int) ≠ 47) ∨ ∃ o : Nat, slash s = o ∧ o < s.size ∧ (∀ k, (h : k < s.size) → k < o → (s[k].toNat : Int) ≠ 47) ∧ ∀ h : o < s.size, (s[o].toNat : Int) = 47 := by
  have key : ∀ k, (h : k < s.size) → s.data.toList[k]? ≠ some 47 → (s[k].toNat : Int) ≠ 47 := by
    intro k h hn he
    apply hn
    rw [List.getElem?_eq_getElem (by simpa using h)]
    have : s[k] = 47 := UInt8.toNat_inj.mp (by simpa using (by omega : s[k].toNat = 47))
    exact congrArg some this
  have hge := Lib.indexByte_ge s.data.toList 47
  by_cases hm : slash s = -1
  · exact .inl ⟨hm, fun k h => key k h (Lib.indexByte_none hm k)⟩
  · obtain ⟨o, ho⟩ : ∃ o : Nat, slash s = o := ⟨(slash s).toNat, by unfold slash at *; omega⟩
    obtain ⟨h1, h2⟩ := Lib.indexByte_some ho
    have hl : o < s.size := by
      rcases Nat.lt_or_ge o s.data.toList.length with g | g
      · simpa using g
      · rw [List.getElem?_eq_none g] at h1; cases h1
    refine .inr ⟨o, ho, hl, fun k h hk => key k h (h2 k hk), fun h => ?_⟩
    rw [List.getElem?_eq_getElem (by simpa using h)] at h1
    have e : s[o] = 47 := Option.some.inj h1
    rw [e]; rfl

def cutTop (s : ByteArray) : ByteArray := if 0 ≤ slash s then s.extract 0 (slash s).toNat else s
def cutBot (s : ByteArray) : ByteArray := if 0 ≤ slash s then s.extract ((slash s).toNat + 1) s.size else ByteArray.empty

theorem cutIn_any (s : ByteArray) (w : World) (hm : s.size ≤ 1048576) :
    Calls Tryd.prog 38 #[.string s, .string ⟨#[47]⟩] w fun e w' => e = .returned (.tuple #[.string (cutTop s), .string (cutBot s), .bool (decide (0 ≤ slash s))]) ∧ Below w.heap.size w w' := by
  rcases slash_parts s with ⟨hs, _⟩ | ⟨o, hs, ho, _, _⟩
  · have hs' : Lib.indexByte s.data.toList 47 = -1 := hs
    have e1 : cutTop s = s := if_neg (by omega)
    have e2 : cutBot s = ByteArray.empty := if_neg (by omega)
    rw [e1, e2, decide_eq_false (by omega)]
    go_enter Tryd.func38, Tryd.ntmps38
    go_wp2_with (go_at_call 43; refine (Tryd.stringslite_Index_one s 47 _).mono ?_; rintro e w' ⟨rfl, rfl⟩; rw [hs'])
    go_ret3
    exact ⟨rfl, Below.refl _ _⟩
  · have hs' : Lib.indexByte s.data.toList 47 = o := hs
    have e1 : cutTop s = s.extract 0 o := by unfold cutTop; rw [if_pos (by omega), hs]; rfl
    have e2 : cutBot s = s.extract (o + 1) s.size := by unfold cutBot; rw [if_pos (by omega), hs]; rfl
    rw [e1, e2, decide_eq_true (by omega)]
    clear e1 e2 hs
    go_enter Tryd.func38, Tryd.ntmps38
    go_wp2_with (go_at_call 43; refine (Tryd.stringslite_Index_one s 47 _).mono ?_; rintro e w' ⟨rfl, rfl⟩; rw [hs'])
    go_quiet (fail)
    go_wp2
    go_ret3
    exact ⟨rfl, below_drewN (Below.refl _ _) _⟩
theorem cut_any (s : ByteArray) (w : World) (hm : s.size ≤ 1048576) :
    Calls Tryd.prog 22 #[.string s, .string ⟨#[47]⟩] w fun e w' => e = .returned (.tuple #[.string (cutTop s), .string (cutBot s), .bool (decide (0 ≤ slash s))]) ∧ Below w.heap.size w w' := by
  go_enter Tryd.func22, Tryd.ntmps22
  go_wp2_with (go_at_call 38; refine (cutIn_any s _ hm).mono ?_; rintro e w' ⟨rfl, bel⟩)
  go_ret3
  exact ⟨rfl, bel⟩

def parseB (neg : Bool) (p q : Int) : Int × Int := if p < 0 ∨ q < 1 ∨ (neg = true ∧ p = 0) then (0, 6) else fracA (if neg = true then -p else p) q
def isMinus (s : ByteArray) : Bool := Lib.hasPrefix (cutTop s).data.toList [45]
def topDigits (s : ByteArray) : ByteArray := ⟨(Lib.trimPrefix (cutTop s).data.toList [45]).toArray⟩
def botDigits (s : ByteArray) : ByteArray := if 0 ≤ slash s then cutBot s else ⟨#[49]⟩
def parseA (s : ByteArray) : Int × Int := parseB (isMinus s) (decA (topDigits s).data.toList) (decA (botDigits s).data.toList)
theorem parseB_bad {neg : Bool} {p q : Int} (h : p < 0 ∨ q < 1 ∨ (neg = true ∧ p = 0)) : parseB neg p q = (0, 6) := if_pos h
theorem parseB_neg {p q : Int} (h : ¬ (p < 0 ∨ q < 1)) (h0 : p ≠ 0) : parseB true p q = fracA (-p) q := by
  unfold parseB; rw [if_neg (by simp; omega)]; rfl
theorem parseB_pos {p q : Int} (h : ¬ (p < 0 ∨ q < 1)) : parseB false p q = fracA p q := by
  unfold parseB; rw [if_neg (by simp; omega)]; rfl
theorem decA_le (l : List UInt8) : decA l ≤ 999999999 ∧ -1 ≤ decA l := by
  unfold decA
  split
  · rename_i h
    have := dv_nine l h.2.2.2 h.2.1
    omega
  · omega
theorem cutTop_size (s : ByteArray) : (cutTop s).size ≤ s.size := by
  unfold cutTop; split
  · rw [ByteArray.size_extract]; omega
  · omega
theorem cutBot_size (s : ByteArray) : (cutBot s).size ≤ s.size := by
  unfold cutBot; split
  · rw [ByteArray.size_extract]; omega
  · exact Nat.zero_le _
theorem topDigits_size (s : ByteArray) : (topDigits s).size ≤ s.size := by
  have h := cutTop_size s
  have e : (topDigits s).size = (Lib.trimPrefix (cutTop s).data.toList [45]).length := rfl
  have e2 : (cutTop s).data.toList.length = (cutTop s).size := rfl
  rw [e]; unfold Lib.trimPrefix; split
  · simp only [List.length_drop]; omega
  · omega
theorem parseDecimal_is (s : ByteArray) (w : World) (hm : s.size ≤ 1048576) {x : Int} {b : Bool} (h : decTwo (decA s.data.toList) = (x, b)) : Calls Tryd.prog 24 #[.string s] w fun e w' => e = .returned (.tuple #[.int .i64 x, .bool b]) ∧ w = w' := by
  refine (parseDecimal_any s w (by omega)).mono ?_
  rintro e w' ⟨rfl, rfl⟩
  rw [h]; exact ⟨rfl, rfl⟩
theorem cut2_any (s : ByteArray) (w : World) : Calls Tryd.prog 23 #[.string (cutTop s), .string ⟨#[45]⟩] w fun e w' => e = .returned (.tuple #[.string (topDigits s), .bool (isMinus s)]) ∧ w' = w := Tryd.strings_CutPrefix (cutTop s) ⟨#[45]⟩ w

theorem botDigits_yes {s : ByteArray} (h : 0 ≤ slash s) : botDigits s = cutBot s := if_pos h
theorem botDigits_no {s : ByteArray} (h : ¬ 0 ≤ slash s) : botDigits s = ⟨#[49]⟩ := if_neg h
/-- the program's walk, over what its callees answer -/
theorem parse_core (s top cb T B : ByteArray) (has neg : Bool) (p q : Int) (w : World) (p0 : -1 ≤ p) (p1 : p ≤ 999999999) (q0 : -1 ≤ q) (q1 : q ≤ 999999999)
    (hB : has = true ∧ B = cb ∨ has = false ∧ B = ⟨#[49]⟩) (sT : T.size ≤ 1048576) (sB : B.size ≤ 1048576)
    (hcut : ∀ w, Calls Tryd.prog 22 #[.string s, .string ⟨#[47]⟩] w fun e w' => e = .returned (.tuple #[.string top, .string cb, .bool has]) ∧ Below w.heap.size w w')
    (hcp : ∀ w, Calls Tryd.prog 23 #[.string top, .string ⟨#[45]⟩] w fun e w' => e = .returned (.tuple #[.string T, .bool neg]) ∧ w' = w)
    (hdt : decTwo (decA T.data.toList) = decTwo p)
    (hdb : decTwo (decA B.data.toList) = decTwo q) :
    Calls Tryd.prog 9 #[.string s] w fun e w' => e = .returned (.tuple #[.int .i64 (parseB neg p q).1, .int .i64 (parseB neg p q).2]) ∧ Below w.heap.size w w' := by
  rcases hB with ⟨rfl, rfl⟩ | ⟨rfl, rfl⟩
  all_goals
    by_cases hp : 0 ≤ p
    · rw [decTwo_yes hp] at hdt
      by_cases hq : 1 ≤ q
      · rw [decTwo_yes (show 0 ≤ q by omega)] at hdb
        have tq := beq_f (show ¬ q = 0 by omega)
        cases neg
        · have HB := Lib.hid (parseB_pos (p := p) (q := q) (by omega))
          go_enter Tryd.func9, Tryd.ntmps9
          go_wp2_with (first | (go_at_call 22; refine (hcut _).mono ?_; rintro e w' ⟨rfl, bel⟩) | (go_at_call 23; refine (hcp _).mono ?_; rintro e w' ⟨rfl, rfl⟩) | (go_at_call 24; refine (parseDecimal_any _ _ (by omega)).mono ?_; rintro e w' ⟨rfl, rfl⟩; first | rw [hdt] | rw [hdb]) | (go_at_call 11; refine (numberOf_any _ _ _).mono ?_; rintro e w' ⟨rfl, rfl⟩))
          go_ret2
          rw [HB.out]; exact ⟨rfl, bel⟩
        · by_cases hz : p = 0
          · have HB := Lib.hid (parseB_bad (neg := true) (p := p) (q := q) (.inr (.inr ⟨rfl, hz⟩)))
            have tp := beq_t hz
            go_enter Tryd.func9, Tryd.ntmps9
            go_wp2_with (first | (go_at_call 22; refine (hcut _).mono ?_; rintro e w' ⟨rfl, bel⟩) | (go_at_call 23; refine (hcp _).mono ?_; rintro e w' ⟨rfl, rfl⟩) | (go_at_call 24; refine (parseDecimal_any _ _ (by omega)).mono ?_; rintro e w' ⟨rfl, rfl⟩; first | rw [hdt] | rw [hdb]) | (go_at_call 11; refine (numberOf_any _ _ _).mono ?_; rintro e w' ⟨rfl, rfl⟩))
            go_ret2
            rw [HB.out]; exact ⟨rfl, bel⟩
          · have HB := Lib.hid (parseB_neg (p := p) (q := q) (by omega) hz)
            have tp := beq_f hz
            go_enter Tryd.func9, Tryd.ntmps9
            go_wp2_with (first | (go_at_call 22; refine (hcut _).mono ?_; rintro e w' ⟨rfl, bel⟩) | (go_at_call 23; refine (hcp _).mono ?_; rintro e w' ⟨rfl, rfl⟩) | (go_at_call 24; refine (parseDecimal_any _ _ (by omega)).mono ?_; rintro e w' ⟨rfl, rfl⟩; first | rw [hdt] | rw [hdb]) | (go_at_call 11; refine (numberOf_any _ _ _).mono ?_; rintro e w' ⟨rfl, rfl⟩))
            go_ret2
            rw [HB.out]; exact ⟨rfl, bel⟩
      · have HB := Lib.hid (parseB_bad (neg := neg) (p := p) (q := q) (.inr (.inl (by omega))))
        by_cases hq0 : q = 0
        · rw [decTwo_yes (show 0 ≤ q by omega)] at hdb
          have tq := beq_t hq0
          go_enter Tryd.func9, Tryd.ntmps9
          go_wp2_with (first | (go_at_call 22; refine (hcut _).mono ?_; rintro e w' ⟨rfl, bel⟩) | (go_at_call 23; refine (hcp _).mono ?_; rintro e w' ⟨rfl, rfl⟩) | (go_at_call 24; refine (parseDecimal_any _ _ (by omega)).mono ?_; rintro e w' ⟨rfl, rfl⟩; first | rw [hdt] | rw [hdb]) | (go_at_call 11; refine (numberOf_any _ _ _).mono ?_; rintro e w' ⟨rfl, rfl⟩))
          all_goals
            go_ret2
            rw [HB.out]; exact ⟨rfl, bel⟩
        · rw [decTwo_no (show q = -1 by omega)] at hdb
          go_enter Tryd.func9, Tryd.ntmps9
          go_wp2_with (first | (go_at_call 22; refine (hcut _).mono ?_; rintro e w' ⟨rfl, bel⟩) | (go_at_call 23; refine (hcp _).mono ?_; rintro e w' ⟨rfl, rfl⟩) | (go_at_call 24; refine (parseDecimal_any _ _ (by omega)).mono ?_; rintro e w' ⟨rfl, rfl⟩; first | rw [hdt] | rw [hdb]) | (go_at_call 11; refine (numberOf_any _ _ _).mono ?_; rintro e w' ⟨rfl, rfl⟩))
          all_goals
            go_ret2
            rw [HB.out]; exact ⟨rfl, bel⟩
    · have HB := Lib.hid (parseB_bad (neg := neg) (p := p) (q := q) (.inl (by omega)))
      rw [decTwo_no (show p = -1 by omega)] at hdt
      generalize decTwo q = r at hdb
      obtain ⟨r1, r2⟩ := r
      go_enter Tryd.func9, Tryd.ntmps9
      go_wp2_with (first | (go_at_call 22; refine (hcut _).mono ?_; rintro e w' ⟨rfl, bel⟩) | (go_at_call 23; refine (hcp _).mono ?_; rintro e w' ⟨rfl, rfl⟩) | (go_at_call 24; refine (parseDecimal_any _ _ (by omega)).mono ?_; rintro e w' ⟨rfl, rfl⟩; first | rw [hdt] | rw [hdb]) | (go_at_call 11; refine (numberOf_any _ _ _).mono ?_; rintro e w' ⟨rfl, rfl⟩))
      all_goals
        go_ret2
        rw [HB.out]; exact ⟨rfl, bel⟩
theorem parseNumber_any (s : ByteArray) (w : World) (hm : s.size ≤ 1048576) :
    Calls Tryd.prog 9 #[.string s] w fun e w' => e = .returned (.tuple #[.int .i64 (parseA s).1, .int .i64 (parseA s).2]) ∧ Below w.heap.size w w' := by
  have hT := topDigits_size s
  have hB := cutBot_size s
  refine parse_core s (cutTop s) (cutBot s) (topDigits s) (botDigits s) (decide (0 ≤ slash s)) (isMinus s) _ _ w (decA_le _).2 (decA_le _).1 (decA_le _).2 (decA_le _).1 ?_ (by omega) ?_ (fun w => cut_any s w hm) (fun w => cut2_any s w) rfl rfl
  · by_cases hs : 0 ≤ slash s
    · exact .inl ⟨decide_eq_true hs, botDigits_yes hs⟩
    · exact .inr ⟨decide_eq_false hs, botDigits_no hs⟩
  · by_cases hs : 0 ≤ slash s
    · rw [botDigits_yes hs]; omega
    · rw [botDigits_no hs]; decide
end Go.Proofs.YtcjomceaiokciaaDoor
