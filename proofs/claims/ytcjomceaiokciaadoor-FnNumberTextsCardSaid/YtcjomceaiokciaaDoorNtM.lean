/-
  The model's texts of numbers: the greatest common divisor, the search of a fraction.
-/
import Derived.Test.YtcjomceaiokciaaDoorNtD
namespace Go.Proofs.YtcjomceaiokciaaDoor
open Go.RowKit Fld
set_option linter.unusedVariables false
set_option linter.unusedSimpArgs false
set_option maxRecDepth 100000

/-- the greatest common divisor among 1 .. k -/
def comN (p q : Int) : Nat → Nat
  | 0 => 1
  | k + 1 => if p % (k + 1 : Nat) = 0 ∧ q % (k + 1 : Nat) = 0 then k + 1 else comN p q k
theorem comN_yes {p q : Int} {k : Nat} (h : p % (k + 1 : Nat) = 0) (g : q % (k + 1 : Nat) = 0) : comN p q (k + 1) = k + 1 := if_pos ⟨h, g⟩
theorem comN_no {p q : Int} {k : Nat} (h : ¬ (p % (k + 1 : Nat) = 0 ∧ q % (k + 1 : Nat) = 0)) : comN p q (k + 1) = comN p q k := if_neg h
theorem comN_some {p q : Int} : ∀ {k : Nat}, 1 < comN p q k → ∃ d : Nat, 2 ≤ d ∧ d ≤ k ∧ p % (d : Nat) = 0 ∧ q % (d : Nat) = 0
  | 0, h => by simp [comN] at h
  | k + 1, h => by
    by_cases c : p % (k + 1 : Nat) = 0 ∧ q % (k + 1 : Nat) = 0
    · rw [comN_yes c.1 c.2] at h
      exact ⟨k + 1, by omega, by omega, c.1, c.2⟩
    · rw [comN_no c] at h
      obtain ⟨d, a, b, e⟩ := comN_some h
      exact ⟨d, a, by omega, e⟩
theorem tmod_zero (n d : Int) : n.tmod d = 0 ↔ n % d = 0 := by rw [← Int.dvd_iff_tmod_eq_zero, ← Int.dvd_iff_emod_eq_zero]
theorem l01Common_any (p : Int) (q : Nat) (w : World) (p0 : -70 ≤ p) (p1 : p ≤ 70) (q1 : q ≤ 70) :
    Calls Tryd.prog 36 #[.int .i64 p, .int .i64 (q : Int)] w fun e w' => e = .returned (.int .i64 (comN p q q : Int)) ∧ w = w' := by
  go_enter Tryd.func36, Tryd.ntmps36
  go_wp2_with fail
  go_loop [5, 6] (fun u v => ∃ k : Nat, k ≤ q ∧ v = .int .i64 ((k : Int) + 1) ∧ ∃ c : Nat, Hid (c = comN p q k) ∧ u = .int .i64 (c : Int)) (fun _ v => q + 1 - (intOf v).toNat)
  case atStart => exact ⟨0, by omega, rfl, 1, rfl, rfl⟩
  case round =>
    obtain ⟨k, hk, rfl, c, HC, rfl⟩ := hrel
    by_cases hlt : k < q
    · have hne : ((k : Int) + 1) ≠ 0 := by omega
      by_cases hp : p % ((k + 1 : Nat) : Int) = 0
      · have tp : (p.tmod ((k : Int) + 1) == 0) = true := by rw [beq_iff_eq, tmod_zero]; exact_mod_cast hp
        by_cases hq : (q : Int) % ((k + 1 : Nat) : Int) = 0
        · have tq : ((q : Int) % ((k : Int) + 1) == 0) = true := by rw [beq_iff_eq]; exact_mod_cast hq
          have G := Lib.hid (comN_yes hp hq)
          clear hp hq HC
          go_wp2
          go_round
          case rel => exact ⟨k + 1, by omega, by go_num, k + 1, G.out.symm, by go_num⟩
          case measure => simp [intOf]; omega
        · have tq : ((q : Int) % ((k : Int) + 1) == 0) = false := by rw [beq_eq_false_iff_ne]; exact_mod_cast hq
          have G := Lib.hid (comN_no (fun h => hq h.2) : comN p q (k + 1) = _)
          have HC' := HC
          clear hp hq HC
          go_wp2
          go_round
          case rel => exact ⟨k + 1, by omega, by go_num, c, HC'.out.trans G.out.symm, rfl⟩
          case measure => simp [intOf]; omega
      · have tp : (p.tmod ((k : Int) + 1) == 0) = false := by rw [beq_eq_false_iff_ne, ne_eq, tmod_zero]; exact_mod_cast hp
        have G := Lib.hid (comN_no (fun h => hp h.1) : comN p q (k + 1) = _)
        have HC' := HC
        clear hp HC
        go_wp2
        go_round
        case rel => exact ⟨k + 1, by omega, by go_num, c, HC'.out.trans G.out.symm, rfl⟩
        case measure => simp [intOf]; omega
    · obtain rfl : k = q := by omega
      go_wp2
      go_ret
      exact ⟨ret_i64 (by rw [HC.out]), rfl⟩
theorem com_small {a p : Int} {q : Nat} (hm : ∀ q' : Nat, 1 ≤ q' → q' < q → fitP a q' < -70) (q1 : 1 ≤ q) (q2 : q ≤ 70) (p0 : -70 ≤ p) (p1 : p ≤ 70) (h : (p - a * q) % 10007 = 0) : ¬ 1 < comN p q q := fun hc => by
  obtain ⟨d, d2, dq, ep, eq⟩ := comN_some hc
  obtain ⟨x, rfl⟩ := Int.dvd_of_emod_eq_zero ep
  obtain ⟨y, hy⟩ := Int.dvd_of_emod_eq_zero eq
  have hd : (0 : Int) < (d : Int) := by omega
  have y1 : 1 ≤ y := by
    rcases Int.lt_or_le y 1 with g | g
    · have : (d : Int) * y ≤ 0 := Int.mul_nonpos_of_nonneg_of_nonpos (by omega) (by omega)
      omega
    · exact g
  have y2 : y < q := by
    have : 2 * y ≤ (d : Int) * y := Int.mul_le_mul_of_nonneg_right (by omega) (by omega)
    omega
  have hz : Eqm ((d : Int) * (x - a * y)) 0 := by
    unfold Eqm
    rw [show (d : Int) * (x - a * y) = d * x - a * (d * y) by rw [Int.mul_sub, Int.mul_left_comm], ← hy, h]; rfl
  have hz' : (x - a * y) % 10007 = 0 := by have := no_zero _ _ hd (by omega) hz; unfold Eqm at this; omega
  have x0 : -70 ≤ x := by
    rcases Int.lt_or_le x (-70) with g | g
    · have : (d : Int) * x ≤ 2 * x := Int.mul_le_mul_of_nonpos_right (by omega) (by omega)
      omega
    · exact g
  have x1 : x ≤ 70 := by
    rcases Int.lt_or_le 70 x with g | g
    · have : 2 * x ≤ (d : Int) * x := Int.mul_le_mul_of_nonneg_right (by omega) (by omega)
      omega
    · exact g
  obtain ⟨z, rfl⟩ : ∃ z : Nat, y = (z : Int) := ⟨y.toNat, by omega⟩
  have := fit_of x0 x1 hz'
  have := hm z (by omega) (by omega)
  omega
theorem comN_pos (p q : Int) : ∀ k, 1 ≤ comN p q k
  | 0 => Nat.le_refl _
  | k + 1 => by
    by_cases c : p % (k + 1 : Nat) = 0 ∧ q % (k + 1 : Nat) = 0
    · rw [comN_yes c.1 c.2]; omega
    · rw [comN_no c]; exact comN_pos p q k
theorem com_one {a p : Int} {q : Nat} (hm : ∀ q' : Nat, 1 ≤ q' → q' < q → fitP a q' < -70) (q1 : 1 ≤ q) (q2 : q ≤ 70) (p0 : -70 ≤ p) (p1 : p ≤ 70) (h : (p - a * q) % 10007 = 0) : comN p q q = 1 := by
  have := com_small hm q1 q2 p0 p1 h
  have := comN_pos p q q
  omega
set_option maxHeartbeats 1000000 in
theorem l01Text_any (a : Int) (a0 : 0 ≤ a) (a1 : a < 10007) (w : World) :
    Calls Tryd.prog 21 #[.int .i64 a] w fun e w' => e = .returned (.string ⟨(numA a).toArray⟩) ∧ Below w.heap.size w w' := by
  go_enter Tryd.func21, Tryd.ntmps21
  go_wp2_with fail
  go_loop [3] (fun i => ∃ q : Nat, 1 ≤ q ∧ q ≤ 71 ∧ i = .int .i64 q ∧ Hid (numA a = numT a q (71 - q)) ∧ Hid (∀ q' : Nat, 1 ≤ q' → q' < q → fitP a q' < -70)) (fun i => 71 - (intOf i).toNat)
  case atStart => exact ⟨1, by omega, by omega, rfl, Lib.hid rfl, Lib.hid (fun q' g h => by omega)⟩
  case round =>
    obtain ⟨q, q1, q71, rfl, HQ, HM⟩ := hrel
    by_cases hq : q ≤ 70
    · obtain ⟨m0, m1⟩ := mul_bd a0 a1 (show (0 : Int) ≤ (q : Int) by omega) (by omega)
      have HS : Hid (fitP a q < -70 → numA a = numT a (q + 1) (71 - (q + 1))) := Lib.hid fun h => HQ.out.trans (by
        rw [show 71 - q = (71 - (q + 1)) + 1 by omega]; exact numT_skip h)
      have HH : Hid (¬ fitP a q < -70 → numA a = fracT (fitP a q) q) := Lib.hid fun h => HQ.out.trans (by
        rw [show 71 - q = (71 - (q + 1)) + 1 by omega]; exact numT_hit h)
      clear HQ
      go_wp2_with fail
      go_loop [4] (fun j => ∃ p : Int, -70 ≤ p ∧ p ≤ 71 ∧ j = .int .i64 p ∧ Hid (∀ p' : Int, -70 ≤ p' → p' < p → (p' - a * q) % 10007 ≠ 0)) (fun j => (71 - intOf j).toNat)
      case atStart => exact ⟨-70, by omega, by omega, rfl, Lib.hid (fun p' g h => by omega)⟩
      case round =>
        obtain ⟨p, p0, p71, rfl, HP⟩ := hrel
        by_cases hp : p ≤ 70
        · by_cases hz : (p - a * q) % 10007 = 0
          · have hf := fit_of p0 hp hz
            have hco := com_one HM.out q1 hq p0 hp hz
            have CC : ∀ w, Calls Tryd.prog 36 #[.int .i64 p, .int .i64 (q : Int)] w fun e w' => e = .returned (.int .i64 1) ∧ w = w' := fun w => by
              have := l01Common_any p q w p0 hp hq
              rw [hco] at this; exact this
            have G := Lib.hid ((HH.out (by omega)).trans (by rw [hf]) : numA a = fracT p q)
            have tz : ((p - a * (q : Int)) % 10007 != 0) = false := bne_f hz
            clear hz hf hco HP HS HH HM
            by_cases hneg : p < 0
            · obtain ⟨n, hn⟩ : ∃ n, n = -p := ⟨_, rfl⟩
              have hn0 : 0 ≤ n := by omega
              have hn1 : n ≤ 70 := by omega
              obtain ⟨P, hP⟩ : ∃ P, P = Lib.decDigits (n).toNat := ⟨_, rfl⟩
              have lP : P.length ≤ 20 := by rw [hP]; exact dec_len _ (by omega)
              have HPd := Lib.hid hP.symm
              have eP : Lib.itoa p = 45 :: P := by rw [itoa_less hneg, hP, show p.natAbs = n.toNat by omega]
              by_cases h1 : q = 1
              · have G1 := Lib.hid ((G.out.trans (fracT_one h1)).trans eP)
                have GE : Hid ((⟨#[45]⟩ : ByteArray) ++ ⟨P.toArray⟩ = ⟨(45 :: P).toArray⟩) := ByteArray.mk_append_mk [45] P
                have hn2 : -p = n := hn.symm
                clear hn
                have hq1 : ¬ ((1 : Int) < (q : Int)) := by omega
                clear G hP eP h1
                go_wp2_with (first | (go_at_call 31; refine (l01Mod_any _ _).mono ?_; rintro e w' ⟨rfl, rfl⟩) | (go_at_call 36; refine (CC _).mono ?_; rintro e w' ⟨rfl, rfl⟩) | (go_at_call 37; refine (l01Dec_at rfl (by omega) (by omega) _).mono ?_; rintro e w6 ⟨rfl, bb⟩; rw [HPd.out]; have be6 := bb))
                go_ret
                exact ⟨by rw [G1.out, ← GE.out]; rfl, be6⟩
              · obtain ⟨Q, hQ⟩ : ∃ Q, Q = Lib.decDigits (q : Int).toNat := ⟨_, rfl⟩
                have lQ : Q.length ≤ 20 := by rw [hQ]; exact dec_len _ (by omega)
                have HQd := Lib.hid hQ.symm
                have eQ : Lib.itoa (q : Int) = Q := by rw [itoa_small (by omega), hQ]
                have G1 := Lib.hid ((G.out.trans (fracT_more h1)).trans (by rw [eP, eQ] : _ = (45 :: P) ++ 47 :: Q))
                have GE : Hid ((⟨#[45]⟩ : ByteArray) ++ ⟨P.toArray⟩ ++ ⟨#[47]⟩ ++ ⟨Q.toArray⟩ = ⟨((45 :: P) ++ 47 :: Q).toArray⟩) := by
                  rw [Hid, show (⟨#[47]⟩ : ByteArray) = ⟨[47].toArray⟩ from rfl, show (⟨#[45]⟩ : ByteArray) = ⟨[45].toArray⟩ from rfl, ByteArray.mk_append_mk, ByteArray.mk_append_mk, ByteArray.mk_append_mk, List.append_assoc]; rfl
                have hn2 : -p = n := hn.symm
                clear hn
                have hq1 : (1 : Int) < (q : Int) := by omega
                clear G hP eP hQ eQ h1
                go_wp2_with (first | (go_at_call 31; refine (l01Mod_any _ _).mono ?_; rintro e w' ⟨rfl, rfl⟩) | (go_at_call 36; refine (CC _).mono ?_; rintro e w' ⟨rfl, rfl⟩) | (go_at_call 37; refine (l01Dec_at rfl (by omega) (by omega) _).mono ?_; rintro e w6 ⟨rfl, bb⟩; first | (rw [HPd.out]; have be6 := bb) | (rw [HQd.out]; have be7 := bb)))
                go_ret
                exact ⟨by rw [G1.out, ← GE.out]; rfl, be6.trans (be7.mono be6.size)⟩
            · obtain ⟨P, hP⟩ : ∃ P, P = Lib.decDigits (p).toNat := ⟨_, rfl⟩
              have lP : P.length ≤ 20 := by rw [hP]; exact dec_len _ (by omega)
              have HPd := Lib.hid hP.symm
              have eP : Lib.itoa p = P := by rw [itoa_small (by omega), hP]
              by_cases h1 : q = 1
              · have G1 := Lib.hid ((G.out.trans (fracT_one h1)).trans eP)
                have GE : Hid (P = P) := Lib.hid rfl
                have hq1 : ¬ ((1 : Int) < (q : Int)) := by omega
                clear G hP eP h1
                go_wp2_with (first | (go_at_call 31; refine (l01Mod_any _ _).mono ?_; rintro e w' ⟨rfl, rfl⟩) | (go_at_call 36; refine (CC _).mono ?_; rintro e w' ⟨rfl, rfl⟩) | (go_at_call 37; refine (l01Dec_at rfl (by omega) (by omega) _).mono ?_; rintro e w6 ⟨rfl, bb⟩; rw [HPd.out]; have be6 := bb))
                go_ret
                exact ⟨by rw [G1.out]; rfl, be6⟩
              · obtain ⟨Q, hQ⟩ : ∃ Q, Q = Lib.decDigits (q : Int).toNat := ⟨_, rfl⟩
                have lQ : Q.length ≤ 20 := by rw [hQ]; exact dec_len _ (by omega)
                have HQd := Lib.hid hQ.symm
                have eQ : Lib.itoa (q : Int) = Q := by rw [itoa_small (by omega), hQ]
                have G1 := Lib.hid ((G.out.trans (fracT_more h1)).trans (by rw [eP, eQ] : _ = (P) ++ 47 :: Q))
                have GE : Hid ((⟨P.toArray⟩ : ByteArray) ++ ⟨#[47]⟩ ++ ⟨Q.toArray⟩ = ⟨((P) ++ 47 :: Q).toArray⟩) := by
                  rw [Hid, show (⟨#[47]⟩ : ByteArray) = ⟨[47].toArray⟩ from rfl, ByteArray.mk_append_mk, ByteArray.mk_append_mk, List.append_assoc]; rfl
                have hq1 : (1 : Int) < (q : Int) := by omega
                clear G hP eP hQ eQ h1
                go_wp2_with (first | (go_at_call 31; refine (l01Mod_any _ _).mono ?_; rintro e w' ⟨rfl, rfl⟩) | (go_at_call 36; refine (CC _).mono ?_; rintro e w' ⟨rfl, rfl⟩) | (go_at_call 37; refine (l01Dec_at rfl (by omega) (by omega) _).mono ?_; rintro e w6 ⟨rfl, bb⟩; first | (rw [HPd.out]; have be6 := bb) | (rw [HQd.out]; have be7 := bb)))
                go_ret
                exact ⟨by rw [G1.out, ← GE.out]; rfl, be6.trans (be7.mono be6.size)⟩
          · have tz : ((p - a * (q : Int)) % 10007 != 0) = true := bne_t hz
            have HP' : Hid (∀ p' : Int, -70 ≤ p' → p' < p + 1 → (p' - a * q) % 10007 ≠ 0) := Lib.hid fun p' g h => by
              rcases Int.lt_or_le p' p with g2 | g2
              · exact HP.out p' g g2
              · obtain rfl : p' = p := by omega
                exact hz
            clear hz HP HS HH HM
            go_wp2_with (go_at_call 31; refine (l01Mod_any _ _).mono ?_; rintro e w' ⟨rfl, rfl⟩)
            go_round
            case rel => exact ⟨p + 1, by omega, by omega, by go_num, HP'⟩
            case measure => simp [intOf]; omega
        · obtain rfl : p = 71 := by omega
          have hf := fit_none HP.out
          have G := Lib.hid (HS.out hf)
          have GM : Hid (∀ q' : Nat, 1 ≤ q' → q' < q + 1 → fitP a q' < -70) := Lib.hid fun q' g h => by
            rcases Nat.lt_or_ge q' q with g2 | g2
            · exact HM.out q' g g2
            · obtain rfl : q' = q := by omega
              exact hf
          clear HP hf HS HH HM
          go_wp2
          go_round
          case rel => exact ⟨q + 1, by omega, by omega, by go_num, G, GM⟩
          case measure => simp [intOf]; omega
    · have G := Lib.hid (HQ.out.trans (by rw [show 71 - q = 0 by omega]; rfl : numT a q (71 - q) = Lib.itoa a))
      obtain ⟨P, hP⟩ : ∃ P, P = Lib.decDigits a.toNat := ⟨_, rfl⟩
      have G1 := Lib.hid (G.out.trans ((itoa_small a0).trans hP.symm))
      have CD := l01Dec_at hP a0 (by omega)
      clear HQ G HM hP
      go_wp2_with (go_at_call 37; refine (CD _).mono ?_; rintro e w6 ⟨rfl, be6⟩)
      go_ret
      exact ⟨by rw [G1.out]; rfl, be6⟩
theorem sNumberText_any (a : Int) (w : World) :
    Calls Tryd.prog 8 #[.int .i64 a] w fun e w' => e = .returned (.tuple #[.string ⟨(numTx a).1.toArray⟩, .int .i64 (numTx a).2]) ∧ Below w.heap.size w w' := by
  cases h : isNum a
  · have G := Lib.hid (show numTx a = ([], 2) from if_neg (by rw [h]; simp))
    go_enter Tryd.func8, Tryd.ntmps8
    go_wp2_with (go_at_call 20; refine (sIsNumber_any _ _).mono ?_; rintro e w' ⟨rfl, rfl⟩)
    go_ret2
    exact ⟨by rw [G.out]; rfl, Below.refl _ _⟩
  · obtain ⟨a0, a1⟩ := isNum_iff.1 h
    have G := Lib.hid (show numTx a = (numA a, 0) from if_pos h)
    go_enter Tryd.func8, Tryd.ntmps8
    go_wp2_with (first | (go_at_call 20; refine (sIsNumber_any _ _).mono ?_; rintro e w' ⟨rfl, rfl⟩) | (go_at_call 21; refine (l01Text_any a a0 a1 _).mono ?_; rintro e wf ⟨rfl, bf⟩))
    go_ret2
    exact ⟨by rw [G.out]; rfl, bf⟩
end Go.Proofs.YtcjomceaiokciaaDoor
