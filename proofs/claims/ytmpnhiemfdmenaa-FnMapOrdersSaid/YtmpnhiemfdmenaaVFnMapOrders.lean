/-
  PROVED: for every code the law FnMapOrders returns true: two maps agree up to a number of nodes exactly if their truncations there are the same, and the order of a character is up to where it agrees with the exact map.
  CONDITIONS: none; every slice of bytes.
-/
import Derived.Test.YtmpnhiemfdmenaaUO1
import Derived.Test.YtmpnhiemfdmenaaFFnMapOrders
namespace Go.Proofs.Ytmpnhiemfdmenaa.fnMapOrders
open Go.ChangeShapes Go.WideShapes Go.ChangeAt Go.RowKit Fld
set_option linter.unusedVariables false
set_option linter.unusedSimpArgs false
set_option maxRecDepth 100000

theorem isCode_next {w w' : World} {A : Option Addr} {n : Nat} {xs : List Int} (h : IsCode w A n xs) (b : Below w.heap.size w w') : IsCode w' A n xs := ⟨h.1, (h.2.1.below b (Nat.le_refl _)).more b.size, h.2.2⟩

set_option maxHeartbeats 8000000 in
theorem walk (w : World) (a0 : Option Addr) (len0 cap0 : Nat) (z0 : List Int) (w0 : IsRow .u8 w a0 len0 cap0 z0) : Calls Try.prog 3 #[.slice a0 len0 cap0] w fun e w' => e = .returned (.bool true) ∧ Below w.heap.size w w' := by
  have hcode := isCode_of w0
  have hcm := w0.2.2.1
  have hlc := w0.2.1
  unfold maxLen at hcm
  have HX := Lib.hid hcode
  clear hcode w0
  by_cases hn : len0 ≤ 4096
  · have t0 : decide ((4096 : Int) < len0) = false := decide_eq_false (by omega)
    go_enter Try.func3, Try.ntmps3
    go_wp2_with fail
    refine (big_any _ _ _ _ (by omega)).mono ?_
    rintro e w' ⟨rfl, rfl⟩
    go_wp2_with fail
    refine (drawAgreeTo_any _ _ _ _ _ hn HX.out).mono ?_
    rintro e w' ⟨AA, cA, na, a, AB, cB, nb, b, rfl, la, na64, ra, lb, nb64, rb, b1, kA⟩
    have RA := Lib.hid (show Lst w' AA a from ra)
    have RB := Lib.hid (show Lst w' AB b from rb)
    have B := Lib.hid b1
    have EA := Lib.hid la
    have EB := Lib.hid lb
    clear ra rb b1 la lb
    cases hab : (isMp a && isMp b)
    · have F1 : Hid (agreeA a b = (0, 1)) := by
        cases ha : isMp a
        · exact agreeA_no1 ha
        · rw [ha, Bool.true_and] at hab
          exact agreeA_no2 hab
      clear hab
      go_wp2_with fail
      refine (pAgreeTo_L AA AB na nb cA cB _ _ a b _ EA.out EB.out (by omega) (by omega) (Nat.le_refl _) (Nat.le_refl _) RA.out RB.out).mono ?_
      rintro e w' hN
      obtain ⟨rfl, y⟩ := resI_out hN F1.out
      replace RA := Lib.hid (RA.out.next y)
      replace RB := Lib.hid (RB.out.next y)
      replace B := Lib.hid (below_step B.out B.out.size y)
      clear hN y
      go_wp2_with fail
      refine (sAgreeTo_L AA AB na nb cA cB _ _ a b _ EA.out EB.out (by omega) (by omega) (Nat.le_refl _) (Nat.le_refl _) RA.out RB.out).mono ?_
      rintro e w' hN
      obtain ⟨rfl, y⟩ := resI_out hN F1.out
      replace B := Lib.hid (below_step B.out B.out.size y)
      clear hN y RA RB
      go_wp2
      go_ret
      exact ⟨rfl, B.out⟩
    · obtain ⟨ha, hb⟩ := (Bool.and_eq_true _ _ ▸ hab : isMp a = true ∧ isMp b = true)
      have F1 := Lib.hid (agreeA_yes ha hb)
      obtain ⟨l38, _⟩ := isMp_iff.1 ha
      obtain ⟨m38, _⟩ := isMp_iff.1 hb
      have HTR : Hid (∀ k : Int, k ≤ 6 → eqL (truncL a k) (truncL b k) = decide (k ≤ agrA a b)) := fun k hk => trunc_agree l38 m38 hk
      have HLA := fun k => Lib.hid (truncL_length l38 k)
      have HLB := fun k => Lib.hid (truncL_length m38 k)
      have HTA : Hid (∀ k : Int, 0 ≤ k → k ≤ 6 → truncA a k = (truncL a k, 0)) := fun k h0 h6 => truncA_yes ha ⟨h0, h6⟩
      have HTB : Hid (∀ k : Int, 0 ≤ k → k ≤ 6 → truncA b k = (truncL b k, 0)) := fun k h0 h6 => truncA_yes hb ⟨h0, h6⟩
      obtain ⟨n0, n6⟩ := agrA_bd a b
      obtain ⟨N, hN9⟩ : ∃ N, N = agrA a b := ⟨_, rfl⟩
      rw [← hN9] at n0 n6 F1 HTR
      have zN : (N != N) = false := bne_f rfl
      clear hab ha hb l38 m38 hN9
      go_wp2_with fail
      refine (pAgreeTo_L AA AB na nb cA cB _ _ a b _ EA.out EB.out (by omega) (by omega) (Nat.le_refl _) (Nat.le_refl _) RA.out RB.out).mono ?_
      rintro e w' hN
      obtain ⟨rfl, y⟩ := resI_out hN F1.out
      replace RA := Lib.hid (RA.out.next y)
      replace RB := Lib.hid (RB.out.next y)
      replace B := Lib.hid (below_step B.out B.out.size y)
      clear hN y
      go_wp2_with fail
      refine (sAgreeTo_L AA AB na nb cA cB _ _ a b _ EA.out EB.out (by omega) (by omega) (Nat.le_refl _) (Nat.le_refl _) RA.out RB.out).mono ?_
      rintro e w' hN
      obtain ⟨rfl, y⟩ := resI_out hN F1.out
      replace RA := Lib.hid (RA.out.next y)
      replace RB := Lib.hid (RB.out.next y)
      replace B := Lib.hid (below_step B.out B.out.size y)
      clear hN y
      go_wp2_with fail
      go_loopw [9] (fun i wr => ∃ k : Nat, k ≤ 7 ∧ i = .int .i64 k ∧ Hid (Lst wr AA a) ∧ Hid (Lst wr AB b) ∧ Hid (Below w.heap.size w wr)) (fun i _ => 7 - (intOf i).toNat)
      case atStart => exact ⟨0, by omega, rfl, RA, RB, B⟩
      case round =>
        clear RA RB B
        obtain ⟨k, hk, rfl, RA, RB, B⟩ := hrel
        by_cases hlt : k < 7
        · have k0 : (0 : Int) ≤ (k : Int) := Int.natCast_nonneg _
          have k1 : (k : Int) ≤ 6 := by omega
          have FA := Lib.hid (HTA.out k k0 k1)
          have FB := Lib.hid (HTB.out k k0 k1)
          have FE := HTR.out k k1
          have LA := HLA k
          have LB := HLB k
          obtain ⟨p, hp⟩ : ∃ p, p = truncL a k := ⟨_, rfl⟩
          obtain ⟨q, hq⟩ : ∃ q, q = truncL b k := ⟨_, rfl⟩
          rw [← hp] at FA FE LA
          rw [← hq] at FB FE LB
          clear hp hq
          go_wp2_with fail
          refine (pTruncateMap_L AA na cA _ a k _ EA.out (by omega) (Nat.le_refl _) RA.out (by omega)).mono ?_
          rintro e w' hN
          obtain ⟨AP, cP, rfl, rP, kP, y⟩ := resL_out hN FA.out
          rw [LA.out] at kP ⊢
          have RP := Lib.hid rP
          replace RA := Lib.hid (RA.out.next y)
          replace RB := Lib.hid (RB.out.next y)
          replace B := Lib.hid (below_step B.out B.out.size y)
          clear hN rP y
          go_wp2_with fail
          refine (pTruncateMap_L AB nb cB _ b k _ EB.out (by omega) (Nat.le_refl _) RB.out (by omega)).mono ?_
          rintro e w' hN
          obtain ⟨AQ, cQ, rfl, rQ, kQ, y⟩ := resL_out hN FB.out
          rw [LB.out] at kQ ⊢
          have RQ := Lib.hid rQ
          replace RP := Lib.hid (RP.out.next y)
          replace RA := Lib.hid (RA.out.next y)
          replace RB := Lib.hid (RB.out.next y)
          replace B := Lib.hid (below_step B.out B.out.size y)
          clear hN rQ y
          have C1 := likeInts_any AP AQ 38 38 cP cQ _ _ p q w' LA.out LB.out (by omega) (by omega) RP.out RQ.out
          by_cases hkN : (k : Int) ≤ N
          · rw [FE, decide_eq_true hkN] at C1
            clear FE
            go_wp2_with fail
            refine C1.mono ?_
            rintro e w9 ⟨rfl, m9, rfl⟩
            replace RA := Lib.hid (RA.out.drew m9)
            replace RB := Lib.hid (RB.out.drew m9)
            replace B := Lib.hid (below_drewN B.out m9)
            clear C1 RP RQ
            go_wp2
            go_roundw
            case rel => exact ⟨k + 1, by omega, by go_num, RA, RB, B⟩
            case measure => simp [intOf]; omega
          · rw [FE, decide_eq_false hkN] at C1
            clear FE
            go_wp2_with fail
            refine C1.mono ?_
            rintro e w9 ⟨rfl, m9, rfl⟩
            replace RA := Lib.hid (RA.out.drew m9)
            replace RB := Lib.hid (RB.out.drew m9)
            replace B := Lib.hid (below_drewN B.out m9)
            clear C1 RP RQ
            go_wp2
            go_roundw
            case rel => exact ⟨k + 1, by omega, by go_num, RA, RB, B⟩
            case measure => simp [intOf]; omega
        · obtain rfl : k = 7 := by omega
          have HX2 := Lib.hid (isCode_next HX.out B.out)
          clear RA RB
          go_wp2_with fail
          refine (drawOrderOfMap_any _ _ _ _ _ hn HX2.out).mono ?_
          rintro e w' ⟨AX, cX, nx, x, rfl, lx, nx64, rx, y⟩
          have RX := Lib.hid (show Lst w' AX x from rx)
          have EX := Lib.hid lx
          replace B := Lib.hid (below_step B.out B.out.size y)
          clear rx lx y HX2
          have done : Hid ((∃ c : Int, c ≠ 0 ∧ orderA x = (0, c)) ∨ (orderA x = (agrA x exactL, 0) ∧ agreeA x exactL = (agrA x exactL, 0))) := by
            cases hm : isMp x
            · exact .inl ⟨1, by omega, orderA_no hm⟩
            · obtain ⟨l38, _⟩ := isMp_iff.1 hm
              obtain ⟨x0, hx0⟩ := at_lt (show 0 < x.length by omega)
              by_cases h1 : x0 = 1
              · exact .inr ⟨orderA_one hm hx0 h1, agreeA_yes hm exactL_map⟩
              · exact .inl ⟨5, by omega, orderA_not hm hx0 h1⟩
          rcases done.out with ⟨c, hc, g1⟩ | ⟨g1, g2⟩
          · have G1 := Lib.hid g1
            have zc : (c != c) = false := bne_f rfl
            have zc2 : (c != 0) = true := bne_t hc
            clear g1 hc done
            go_wp2_with fail
            refine (pOrderOfMap_L AX nx cX _ x _ EX.out (by omega) (Nat.le_refl _) RX.out).mono ?_
            rintro e w' hN
            obtain ⟨rfl, y⟩ := resI_out hN G1.out
            replace RX := Lib.hid (RX.out.next y)
            replace B := Lib.hid (below_step B.out B.out.size y)
            clear hN y
            go_wp2_with fail
            refine (sOrderOfMap_L AX nx cX _ x _ EX.out (by omega) (Nat.le_refl _) RX.out).mono ?_
            rintro e w' hN
            obtain ⟨rfl, y⟩ := resI_out hN G1.out
            replace B := Lib.hid (below_step B.out B.out.size y)
            clear hN y RX
            go_wp2
            go_ret
            exact ⟨rfl, B.out⟩
          · obtain ⟨M, hM⟩ : ∃ M, M = agrA x exactL := ⟨_, rfl⟩
            rw [← hM] at g1 g2
            have G1 := Lib.hid g1
            have G2 := Lib.hid g2
            have zM : (M != M) = false := bne_f rfl
            have zM2 : (M == M) = true := beq_t rfl
            clear g1 g2 hM done
            go_wp2_with fail
            refine (pOrderOfMap_L AX nx cX _ x _ EX.out (by omega) (Nat.le_refl _) RX.out).mono ?_
            rintro e w' hN
            obtain ⟨rfl, y⟩ := resI_out hN G1.out
            replace RX := Lib.hid (RX.out.next y)
            replace B := Lib.hid (below_step B.out B.out.size y)
            clear hN y
            go_wp2_with fail
            refine (sOrderOfMap_L AX nx cX _ x _ EX.out (by omega) (Nat.le_refl _) RX.out).mono ?_
            rintro e w' hN
            obtain ⟨rfl, y⟩ := resI_out hN G1.out
            replace RX := Lib.hid (RX.out.next y)
            replace B := Lib.hid (below_step B.out B.out.size y)
            clear hN y
            go_wp2_with fail
            refine (pExactMap_L _).mono ?_
            rintro e w' ⟨AE, cE, rfl, ownE, y⟩
            have RE := Lib.hid (show Lst w' AE exactL from row_of_own ownE)
            replace RX := Lib.hid (RX.out.next y)
            replace B := Lib.hid (below_step B.out B.out.size y)
            clear ownE y
            go_wp2_with fail
            refine (pAgreeTo_L AX AE nx 38 cX cE _ _ x exactL _ EX.out exactL_length (by omega) (by omega) (Nat.le_refl _) (Nat.le_refl _) RX.out RE.out).mono ?_
            rintro e w' hN
            obtain ⟨rfl, y⟩ := resI_out hN G2.out
            replace B := Lib.hid (below_step B.out B.out.size y)
            clear hN y RX RE
            go_wp2
            go_ret
            exact ⟨rfl, B.out⟩
  · have t0 : decide ((4096 : Int) < len0) = true := decide_eq_true (by omega)
    go_enter Try.func3, Try.ntmps3
    go_wp2_with fail
    refine (big_any _ _ _ _ (by omega)).mono ?_
    rintro e w' ⟨rfl, rfl⟩
    go_wp2
    go_ret
    exact ⟨rfl, Below.refl _ _⟩
/-- the statement -/
theorem holds : Rows.FnMapOrdersSaid := of_walk walk
end Go.Proofs.Ytmpnhiemfdmenaa.fnMapOrders
