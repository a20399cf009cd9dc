/-
  The text of a number is parsed to it (plain).
-/
import Derived.Test.YtcjomceaiokciaaDoorNtR
import Derived.Test.YtcjomceaiokciaaDoorParse
namespace Go.Proofs.YtcjomceaiokciaaDoor
open Fld
set_option linter.unusedVariables false

theorem index_not {L : List UInt8} (h : ∀ x ∈ L, x ≠ 47) : Lib.indexByte L 47 = -1 := by
  by_cases hm : Lib.indexByte L 47 = -1
  · exact hm
  · obtain ⟨o, ho⟩ : ∃ o : Nat, Lib.indexByte L 47 = o := ⟨(Lib.indexByte L 47).toNat, by have := Lib.indexByte_ge L 47; omega⟩
    obtain ⟨h1, _⟩ := Lib.indexByte_some ho
    exact absurd rfl (h 47 (List.mem_of_getElem? h1))
theorem index_at {X Y : List UInt8} (h : ∀ x ∈ X, x ≠ 47) : Lib.indexByte (X ++ 47 :: Y) 47 = (X.length : Int) := by
  have hX : (X ++ 47 :: Y)[X.length]? = some 47 := by rw [List.getElem?_append_right (Nat.le_refl _), Nat.sub_self]; rfl
  by_cases hm : Lib.indexByte (X ++ 47 :: Y) 47 = -1
  · exact absurd hX (Lib.indexByte_none hm X.length)
  · obtain ⟨o, ho⟩ : ∃ o : Nat, Lib.indexByte (X ++ 47 :: Y) 47 = o := ⟨(Lib.indexByte (X ++ 47 :: Y) 47).toNat, by have := Lib.indexByte_ge (X ++ 47 :: Y) 47; omega⟩
    obtain ⟨h1, h2⟩ := Lib.indexByte_some ho
    rcases Nat.lt_trichotomy o X.length with g | g | g
    · rw [List.getElem?_append_left g] at h1
      exact absurd rfl (h 47 (List.mem_of_getElem? h1))
    · rw [ho, g]
    · exact absurd hX (h2 X.length g)
theorem dig_bounds {x : UInt8} (h : isDig x = true) : 48 ≤ x.toNat ∧ x.toNat ≤ 57 := by
  unfold isDig at h
  have := of_decide_eq_true h
  omega
theorem digs_no {L : List UInt8} (h : L.all isDig = true) : ∀ x ∈ L, x ≠ 47 := fun x hx e => by
  have := dig_bounds (List.all_eq_true.1 h x hx)
  subst e
  exact absurd this.1 (by decide)
theorem digs_head {L : List UInt8} (h : L.all isDig = true) : Lib.hasPrefix L [45] = false := by
  cases L with
  | nil => rfl
  | cons x r =>
    have h1 := dig_bounds (List.all_eq_true.1 h x (by simp))
    unfold Lib.hasPrefix
    have : (45 : UInt8) ≠ x := fun e => by subst e; exact absurd h1.1 (by decide)
    simp [List.isPrefixOf, this]
theorem minus_head (L : List UInt8) : Lib.hasPrefix (45 :: L) [45] = true := by unfold Lib.hasPrefix; simp [List.isPrefixOf]
theorem trim_digs {L : List UInt8} (h : L.all isDig = true) : Lib.trimPrefix L [45] = L := by unfold Lib.trimPrefix; rw [digs_head h]; rfl
theorem trim_minus (L : List UInt8) : Lib.trimPrefix (45 :: L) [45] = L := by unfold Lib.trimPrefix; rw [minus_head]; rfl
/-- the parts of a text as lists -/
theorem slash_mk (L : List UInt8) : slash ⟨L.toArray⟩ = Lib.indexByte L 47 := rfl
theorem ext_upto (s : ByteArray) (k : Nat) : (s.extract 0 k).data.toList = s.data.toList.take k := by
  rw [ByteArray.data_extract, Array.toList_extract, List.extract_eq_take_drop]; simp
theorem ext_from (s : ByteArray) (k : Nat) : (s.extract k s.size).data.toList = s.data.toList.drop k := by
  rw [ByteArray.data_extract, Array.toList_extract, List.extract_eq_take_drop, List.take_of_length_le]
  rw [List.length_drop, Array.length_toList]
  exact Nat.le_refl _
theorem cutTop_no {L : List UInt8} (h : Lib.indexByte L 47 = -1) : (cutTop ⟨L.toArray⟩).data.toList = L := by
  unfold cutTop; rw [if_neg (by rw [slash_mk, h]; omega)]
theorem cutTop_at {L : List UInt8} {o : Nat} (h : Lib.indexByte L 47 = o) : (cutTop ⟨L.toArray⟩).data.toList = L.take o := by
  unfold cutTop; rw [if_pos (by rw [slash_mk, h]; omega), slash_mk, h, Int.toNat_natCast, ext_upto]
theorem cutBot_at {L : List UInt8} {o : Nat} (h : Lib.indexByte L 47 = o) : (cutBot ⟨L.toArray⟩).data.toList = L.drop (o + 1) := by
  unfold cutBot; rw [if_pos (by rw [slash_mk, h]; omega), slash_mk, h, Int.toNat_natCast, ext_from]
theorem decA_one : decA [49] = 1 := by decide +kernel
/-- reading a text without a slash -/
theorem parse_one {L : List UInt8} (h : Lib.indexByte L 47 = -1) : parseA ⟨L.toArray⟩ = parseB (Lib.hasPrefix L [45]) (decA (Lib.trimPrefix L [45])) 1 := by
  unfold parseA isMinus topDigits botDigits
  rw [cutTop_no h, if_neg (by rw [slash_mk, h]; omega)]
  show parseB _ _ (decA [49]) = _
  rw [decA_one]
theorem parse_two {X Y : List UInt8} (h : Lib.indexByte (X ++ 47 :: Y) 47 = (X.length : Int)) : parseA ⟨(X ++ 47 :: Y).toArray⟩ = parseB (Lib.hasPrefix X [45]) (decA (Lib.trimPrefix X [45])) (decA Y) := by
  unfold parseA isMinus topDigits botDigits
  rw [cutTop_at h, if_pos (by rw [slash_mk, h]; omega), cutBot_at h]
  rw [List.take_left' rfl, show (X ++ 47 :: Y).drop (X.length + 1) = Y by rw [List.drop_append]; simp]
theorem itoa_parts {p : Int} (p0 : -1000000000 < p) (p1 : p < 1000000000) :
    (∀ x ∈ Lib.itoa p, x ≠ 47) ∧ ∀ q : Int, 1 ≤ q → parseB (Lib.hasPrefix (Lib.itoa p) [45]) (decA (Lib.trimPrefix (Lib.itoa p) [45])) q = fracA p q := by
  rcases Int.lt_or_le p 0 with g | g
  · obtain ⟨_, d, _⟩ := dec_facts p.natAbs
    rw [itoa_less g]
    refine ⟨fun x hx => ?_, fun q hq => ?_⟩
    · rw [List.mem_cons] at hx
      rcases hx with rfl | hx
      · decide
      · exact digs_no d x hx
    · rw [minus_head, trim_minus, decA_dec _ (by omega), parseB_neg (by omega) (by omega)]
      congr 1; omega
  · obtain ⟨_, d, _⟩ := dec_facts p.toNat
    rw [itoa_small g]
    refine ⟨digs_no d, fun q hq => ?_⟩
    rw [digs_head d, trim_digs d, decA_dec _ (by omega), parseB_pos (by omega), Int.toNat_of_nonneg g]
theorem fracA_one {a : Int} (a0 : 0 ≤ a) (a1 : a < 10007) : fracA a 1 = (a, 0) := by
  unfold fracA
  rw [if_pos ⟨whole_yes (by omega) (by omega), whole_yes (by omega) (by omega)⟩, if_neg (by decide)]
  have : inv (1 % 10007) = 1 := by decide +kernel
  rw [this]
  congr 1; omega
/-- **the text of a number is parsed to it** -/
theorem num_back {a : Int} (a0 : 0 ≤ a) (a1 : a < 10007) : parseA ⟨(numA a).toArray⟩ = (a, 0) := by
  rcases numA_cases a with e | ⟨p, r, r1, r2, p0, p1, hm, e⟩
  · rw [e]
    obtain ⟨h1, h2⟩ := itoa_parts (p := a) (by omega) (by omega)
    rw [parse_one (index_not h1), h2 1 (by omega), fracA_one a0 a1]
  · rw [e]
    obtain ⟨h1, h2⟩ := itoa_parts (p := p) (by omega) (by omega)
    by_cases hr : r = 1
    · subst hr
      rw [fracT_one rfl, parse_one (index_not h1), h2 1 (by omega)]
      exact frac_back (q := 1) a0 a1 r1 r2 p0 p1 hm
    · rw [fracT_more hr, parse_two (index_at h1), itoa_small (n := (r : Int)) (by omega), Int.toNat_natCast, decA_dec r (by omega), h2 r (by omega)]
      exact frac_back a0 a1 r1 r2 p0 p1 hm
theorem numA_size (a : Int) (a0 : 0 ≤ a) (a1 : a < 10007) : (numA a).length ≤ 1000 := by
  have hd : ∀ n : Nat, n < 1000000000 → (Lib.decDigits n).length ≤ 9 := fun n h => dec_len_le 8 n (by simpa using h)
  have hi : ∀ p : Int, -1000000000 < p → p < 1000000000 → (Lib.itoa p).length ≤ 10 := fun p h0 h1 => by
    rcases Int.lt_or_le p 0 with g | g
    · rw [itoa_less g, List.length_cons]; have := hd p.natAbs (by omega); omega
    · rw [itoa_small g]; have := hd p.toNat (by omega); omega
  rcases numA_cases a with e | ⟨p, r, r1, r2, p0, p1, hm, e⟩
  · rw [e]; have := hi a (by omega) (by omega); omega
  · rw [e]
    by_cases hr : r = 1
    · rw [fracT_one hr]; have := hi p (by omega) (by omega); omega
    · rw [fracT_more hr, List.length_append, List.length_cons]
      have := hi p (by omega) (by omega)
      have := hi r (by omega) (by omega)
      omega
end Go.Proofs.YtcjomceaiokciaaDoor
