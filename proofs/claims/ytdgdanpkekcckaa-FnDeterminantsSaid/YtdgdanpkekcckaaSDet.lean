/-
  The model's determinant: what it answers, by the first row.
-/
import Derived.Test.YtdgdanpkekcckaaMinor
import Derived.Test.YtdgdanpkekcckaaEnt
namespace Go.Proofs.Ytdgdanpkekcckaa
open Go.RowKit Fld
open Det (det sm sgn sk)
set_option linter.unusedVariables false
set_option linter.unusedSimpArgs false
set_option maxRecDepth 100000

theorem cutRow_at (k : Nat) (r : List Int) (j : Nat) (hk : k < r.length) : (cutRow k r).getD j 0 = r.getD (sk k j) 0 := by
  have hl : (r.take k).length = k := by rw [List.length_take]; omega
  unfold cutRow sk
  rw [List.getD_eq_getElem?_getD, List.getD_eq_getElem?_getD]
  by_cases h : j < k
  · rw [if_pos h, List.getElem?_append_left (by omega), List.getElem?_take, if_pos h]
  · rw [if_neg h, List.getElem?_append_right (by omega), hl, List.getElem?_drop]
    congr 2; omega
theorem minorL_length (k : Nat) (m : List (List Int)) : (minorL k m).length = m.length - 1 := by simp [minorL]
theorem minorL_wide {k q : Nat} {m : List (List Int)} (h : Wide m q) (hk : k < q) : Wide (minorL k m) (q - 1) := by
  intro r hr
  simp only [minorL, List.mem_map] at hr
  obtain ⟨r0, h0, rfl⟩ := hr
  have := h r0 (List.mem_of_mem_drop h0)
  have := cutRow_length (k := k) (r := r0) (by omega)
  omega
theorem minorL_num {k : Nat} {m : List (List Int)} (h : ∀ r ∈ m, allNum r = true) : ∀ r ∈ minorL k m, allNum r = true := by
  intro r hr
  simp only [minorL, List.mem_map] at hr
  obtain ⟨r0, h0, rfl⟩ := hr
  have h1 := h r0 (List.mem_of_mem_drop h0)
  unfold allNum at *
  rw [List.all_eq_true] at *
  intro x hx
  unfold cutRow at hx
  rcases List.mem_append.1 hx with g | g
  · exact h1 x (List.mem_of_mem_take g)
  · exact h1 x (List.mem_of_mem_drop g)
theorem minorL_ent {k q i : Nat} {m : List (List Int)} (h : Wide m q) (hk : k < q) (hi : i + 1 < m.length) (j : Nat) : ent (minorL k m) i j = ent m (i + 1) (sk k j) := by
  obtain ⟨r, hr⟩ := at_lt hi
  have e : (minorL k m)[i]? = some (cutRow k r) := by unfold minorL; rw [List.getElem?_map, List.getElem?_drop, Nat.add_comm 1 i, hr]; rfl
  unfold ent
  rw [getD_of e, getD_of hr, cutRow_at k r j (by rw [h.at_ hr]; exact hk)]
/-- the sum over the first k places of the first row -/
def detS (m : List (List Int)) (k : Nat) : Int := sm k (fun j => sgn j * ent m 0 j * det (m.length - 1) (fun i l => ent m (i + 1) (sk j l))) % 10007
theorem detS_lo (m : List (List Int)) (k : Nat) : 0 ≤ detS m k := Int.emod_nonneg _ (by omega)
theorem detS_hi (m : List (List Int)) (k : Nat) : detS m k < 10007 := Int.emod_lt_of_pos _ (by omega)
theorem detS_zero (m : List (List Int)) : detS m 0 = 0 := rfl
theorem detS_end {m : List (List Int)} (h : 0 < m.length) : detS m m.length = detL m := by
  unfold detS detL
  obtain ⟨n, hn⟩ : ∃ n, m.length = n + 1 := ⟨m.length - 1, by omega⟩
  rw [hn]; rfl
theorem minorL_det {m : List (List Int)} {k : Nat} (h : Wide m m.length) (hk : k < m.length) : detL (minorL k m) = det (m.length - 1) (fun i l => ent m (i + 1) (sk k l)) % 10007 := by
  unfold detL
  rw [minorL_length]
  exact congrArg (· % 10007) (Det.det_ext fun i hi j _ => minorL_ent h hk (by omega) j)
theorem detS_even {m : List (List Int)} {k : Nat} (h : Wide m m.length) (hk : k < m.length) (he : k % 2 = 0) : (detS m k + ent m 0 k * detL (minorL k m) % 10007) % 10007 = detS m (k + 1) := by
  rw [minorL_det h hk]
  unfold detS
  show _ = (sm k _ + sgn k * ent m 0 k * _) % 10007
  generalize sm k _ = s
  generalize det _ _ = d
  rw [show sgn k = 1 from if_pos he, Int.one_mul]
  generalize ent m 0 k = a
  simp [Int.mul_emod, Int.add_emod]
theorem detS_odd {m : List (List Int)} {k : Nat} (h : Wide m m.length) (hk : k < m.length) (he : k % 2 ≠ 0) : (detS m k - ent m 0 k * detL (minorL k m) % 10007) % 10007 = detS m (k + 1) := by
  rw [minorL_det h hk]
  unfold detS
  show _ = (sm k _ + sgn k * ent m 0 k * _) % 10007
  generalize sm k _ = s
  generalize det _ _ = d
  rw [show sgn k = -1 from if_neg he]
  generalize ent m 0 k = a
  rw [show s + -1 * a * d = s - a * d by grind]
  simp [Int.mul_emod, Int.sub_emod]
/-- what the model's determinant answers -/
def DetOf (n : Nat) : Prop := ∀ (A : Option Addr) (c B : Nat) (m : List (List Int)) (w : World), m.length = n → Wide m n → (∀ r ∈ m, allNum r = true) → B ≤ w.heap.size → Mat w B A m →
  Calls Try.prog 20 #[.slice A n c] w fun e w' => e = .returned (.int .i64 (detL m)) ∧ Below w.heap.size w w'
theorem detOf_zero : DetOf 0 := by
  intro A c B m w hl _ _ _ _
  obtain rfl : m = [] := List.length_eq_zero_iff.1 hl
  go_enter Try.func20, Try.ntmps20
  go_wp2
  go_ret
  exact ⟨rfl, Below.refl _ _⟩
set_option maxRecDepth 100000 in
set_option maxHeartbeats 1000000 in
theorem detOf_small (n : Nat) (h1 : 1 ≤ n) (h4 : n ≤ 4) (IH : DetOf (n - 1)) : DetOf n := by
  intro A c B m w hl hw hnum hB h
  have HL := Lib.hid hl
  have HW := Lib.hid hw
  have HN := Lib.hid hnum
  have tn := beq_f (show ¬ (n : Int) = 0 by omega)
  clear hl hw hnum
  go_enter Try.func20, Try.ntmps20
  go_wp2_with fail
  rw [show decide ((n : Int) ≤ 4) = true from decide_eq_true (by omega)]
  go_loopw [3, 4] (fun v i wr => ∃ k : Nat, k ≤ n ∧ v = .int .i64 (detS m k) ∧ i = .int .i64 k ∧ Below w.heap.size w wr) (fun _ i _ => n - (intOf i).toNat)
  case atStart => exact ⟨0, Nat.zero_le _, rfl, rfl, Below.refl _ _⟩
  case round =>
    obtain ⟨k, hk, rfl, rfl, HB⟩ := hrel
    by_cases hlt : k < n
    · obtain ⟨r, hr⟩ := at_lt (show 0 < m.length by rw [HL.out]; omega)
      have hrq := HW.out.at_ hr
      obtain ⟨ba, oa, Ai, ci, rfl, hba, hca, hcap, hcm, hrowa⟩ := h.below HB hB 0 r hr
      obtain ⟨x, hx⟩ := at_lt (show k < r.length by omega)
      obtain ⟨br, orr, rfl, hbr, hcx⟩ := hrowa k _ (ints_at hx)
      rw [Nat.add_zero] at hca
      rw [hrq] at hca hcap
      have hsz := HB.size
      have hmat := h.below HB hB
      have HE : Hid (ent m 0 k = x) := ent_at hr hx
      have HX : Hid (0 ≤ x ∧ x < 10007) := by
        have h1 := HN.out r (List.mem_of_getElem? hr)
        have := isNum_iff.1 (List.all_eq_true.1 h1 x (List.mem_of_getElem? hx))
        exact ⟨by omega, by omega⟩
      have HB' := Lib.hid HB
      have hka : (k : Int) < n := by omega
      have hk0 : (0 : Int) ≤ (k : Int) := Int.natCast_nonneg _
      have hn0 : (0 : Int) < (n : Int) := by omega
      have hn0' : 0 < n := by omega
      have hML : Hid ((minorL k m).length = n - 1) := by rw [Hid, minorL_length, HL.out]
      have hMW := Lib.hid (minorL_wide HW.out hlt)
      have hMN := Lib.hid (minorL_num (k := k) HN.out)
      have d0 := detL_lo (minorL k m)
      have d1 := detL_hi (minorL k m)
      have s0 := detS_lo m k
      have s1 := detS_hi m k
      clear hr hx HB hrq hrowa
      go_wp2_with fail
      go_region_held3 (fun w' => w'.cell? ⟨ba, oa, none⟩ = some (.slice (some ⟨br, orr, none⟩) n ci) ∧ w'.cell? ⟨br, orr + k, none⟩ = some (.int .i64 x)) (first | go_keep | exact ⟨hca, hcx⟩ | exact ⟨((show Below wr.heap.size wr w1 from ⟨bel1.os, bel1.tape, bel1.output, bel1.size, bel1.block⟩).cell (p := ⟨ba, oa, none⟩) (by show ba < wr.heap.size; omega)).trans hca, ((show Below wr.heap.size wr w1 from ⟨bel1.os, bel1.tape, bel1.output, bel1.size, bel1.block⟩).cell (p := ⟨br, orr + k, none⟩) (by show br < wr.heap.size; omega)).trans hcx⟩ | exact ⟨(belD.cell (p := ⟨ba, oa, none⟩) (by show ba < wr.heap.size; omega)).trans hca, (belD.cell (p := ⟨br, orr + k, none⟩) (by show br < wr.heap.size; omega)).trans hcx⟩)
        (first
          | (go_at_call 37; refine (l01Minor_any _ n _ B n k m _ HL.out (by omega) (by omega) HW.out hlt (by omega) (by show B ≤ wr.heap.size; omega) (by exact hmat)).mono ?_; rintro e w1 ⟨A1, c1, vs1, rfl, own1, bel1⟩)
          | (go_at_call 20; refine (IH _ _ w1.heap.size (minorL k m) _ hML.out hMW.out hMN.out (by show w1.heap.size ≤ w1.heap.size; omega) (by exact own1.mat)).mono ?_; rintro e w2 ⟨rfl, bel2⟩; have belA : Below wr.heap.size wr w1 := ⟨bel1.os, bel1.tape, bel1.output, bel1.size, bel1.block⟩; have belB : Below w1.heap.size w1 w2 := ⟨bel2.os, bel2.tape, bel2.output, bel2.size, bel2.block⟩; have belD : Below wr.heap.size wr w2 := belA.trans (belB.mono belA.size))
          | (go_at_call 36; refine (l01Mul_any _ _ _ HX.out.1 (by have := HX.out.2; omega) (by omega) (by omega)).mono ?_; rintro e w3 ⟨rfl, rfl⟩))
      have HBk : Hid (Below w.heap.size w w2) := HB'.out.trans (belD.mono hsz)
      have HP0 : Hid (0 ≤ x * detL (minorL k m) % 10007 ∧ x * detL (minorL k m) % 10007 < 10007) := ⟨Int.emod_nonneg _ (by omega), Int.emod_lt_of_pos _ (by omega)⟩
      have HWm : Hid (Wide m m.length) := by rw [Hid, HL.out]; exact HW.out
      by_cases hev : k % 2 = 0
      · have tk1 : ((k : Int) % 2 == 0) = true := beq_t (by omega)
        have tk2 : ((k : Int).tmod 2 == 0) = true := beq_t (by rw [Int.tmod_eq_emod]; split <;> omega)
        have HS := Lib.hid (detS_even HWm.out (by rw [HL.out]; exact hlt) hev)
        rw [HE.out] at HS
        clear hev
        go_wp2_with (first | (go_at_call 38; refine (l01Add_any _ _ _ s0 s1 HP0.out.1 HP0.out.2).mono ?_; rintro e w3 ⟨rfl, rfl⟩) | (go_at_call 39; refine (l01Sub_any _ _ _ s0 s1 HP0.out.1 HP0.out.2).mono ?_; rintro e w3 ⟨rfl, rfl⟩))
        go_roundw
        case rel => exact ⟨k + 1, by omega, by rw [← HS.out]; go_num, by go_num, HBk.out⟩
        case measure => simp [intOf]; omega
      · have tk1 : ((k : Int) % 2 == 0) = false := beq_f (by omega)
        have tk2 : ((k : Int).tmod 2 == 0) = false := beq_f (by rw [Int.tmod_eq_emod]; split <;> omega)
        have HS := Lib.hid (detS_odd HWm.out (by rw [HL.out]; exact hlt) hev)
        rw [HE.out] at HS
        clear hev
        go_wp2_with (first | (go_at_call 38; refine (l01Add_any _ _ _ s0 s1 HP0.out.1 HP0.out.2).mono ?_; rintro e w3 ⟨rfl, rfl⟩) | (go_at_call 39; refine (l01Sub_any _ _ _ s0 s1 HP0.out.1 HP0.out.2).mono ?_; rintro e w3 ⟨rfl, rfl⟩))
        go_roundw
        case rel => exact ⟨k + 1, by omega, by rw [← HS.out]; go_num, by go_num, HBk.out⟩
        case measure => simp [intOf]; omega
    · obtain rfl : k = n := by omega
      have e : detS m k = detL m := by rw [← HL.out]; exact detS_end (by rw [HL.out]; omega)
      rw [e]
      have HB' := Lib.hid HB
      clear HB
      go_wp2
      go_ret
      exact ⟨rfl, HB'.out⟩
end Go.Proofs.Ytdgdanpkekcckaa
