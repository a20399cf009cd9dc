/-
  PROVED: for every code the law FnCutEdges returns true: a branch that was cut off can be grafted back.
  CONDITIONS: none; every slice of bytes.
-/
import Derived.Test.YtfehjjaebdgjlaaUC3
import Derived.Test.YtfehjjaebdgjlaaFFnCutEdges
namespace Go.Proofs.Ytfehjjaebdgjlaa.fnCutEdges
open Go.ChangeShapes Go.WideShapes Go.ChangeAt Go.RowKit Fld
set_option linter.unusedVariables false
set_option linter.unusedSimpArgs false
set_option maxRecDepth 100000

set_option maxHeartbeats 4000000 in
theorem walk (w : World) (a0 : Option Addr) (len0 cap0 : Nat) (z0 : List Int) (w0 : IsRow .u8 w a0 len0 cap0 z0) : Calls Try.prog 3 #[.slice a0 len0 cap0] w fun e w' => e = .returned (.bool true) ∧ Below w.heap.size w w' := by
  have hcode := isCode_of w0
  have hcm := w0.2.2.1
  have hlc := w0.2.1
  unfold maxLen at hcm
  have HX := Lib.hid hcode
  clear hcode w0
  by_cases hn : len0 ≤ 4096
  · have t0 : decide ((4096 : Int) < len0) = false := decide_eq_false (by omega)
    go_enter Try.func3, Try.ntmps3
    go_wp2_with fail
    refine (big_any _ _ _ _ (by omega)).mono ?_
    rintro e w' ⟨rfl, rfl⟩
    go_wp2_with fail
    refine (drawCutAbove_any _ _ _ _ _ hn HX.out).mono ?_
    rintro e u1 ⟨At, ct, n, t, k, rfl, lt, hn16, hct, rt, hk, b1⟩
    have Rt := Lib.hid (show Lst u1 At t from rt)
    have B := Lib.hid b1
    have Et := Lib.hid lt
    clear rt b1 lt
    by_cases hv : Tr.isLv t = true ∧ 1 ≤ k ∧ k < (n : Int)
    · obtain ⟨v1, v2, v3⟩ := hv
      obtain ⟨kn, rfl⟩ : ∃ kn : Nat, k = (kn : Int) := ⟨k.toNat, by omega⟩
      obtain ⟨T, R, f1, f2, f3, f4, f5, f6, f7, f8, f9, ⟨x, f10, f11⟩, g, f12, j0, f13, f14⟩ := cut_facts v1 (k := kn) (by omega) (by rw [Et.out]; omega)
      rw [Et.out] at f2 f3 f5
      obtain ⟨tn, htn⟩ : ∃ tn, tn = T.length := ⟨_, rfl⟩
      obtain ⟨rn, hrn⟩ : ∃ rn, rn = R.length := ⟨_, rfl⟩
      obtain ⟨u, hu⟩ : ∃ u, u = Tr.can t := ⟨_, rfl⟩
      rw [← hu] at f4 f5 f9 f14
      obtain ⟨S, hS⟩ : ∃ S, S = gsumL T R := ⟨_, rfl⟩
      rw [← hS] at f6 f7 f8 f9
      obtain ⟨sn, hsn⟩ : ∃ sn, sn = S.length := ⟨_, rfl⟩
      rw [← hsn] at f8 f9
      rw [← htn] at f2 f12 f13
      rw [← hrn] at f2
      have f2' : (tn : Int) + (rn : Int) = (n : Int) := by omega
      have F1 := Lib.hid f1
      have F4 := Lib.hid f4
      have F5 := Lib.hid f5
      have F6 := Lib.hid f6
      have F7 := Lib.hid f7
      have F11 := Lib.hid f11
      have F12 := Lib.hid f12
      have F14 := Lib.hid f14
      have HTN := Lib.hid htn
      have HRN := Lib.hid hrn
      have HSN := Lib.hid hsn
      clear f1 f4 f5 f6 f7 f11 f12 f14 htn hrn hsn hS hu v1
      go_wp2_with fail
      refine (pCutAbove_L _ n _ _ t _ _ Et.out (by omega) (Nat.le_refl _) Rt.out (by omega) hct).mono ?_
      rintro e u2 hN
      obtain ⟨AT, cT, AR, cR, rfl, rT, rR, kT, kR, y⟩ := resP_out hN F1.out
      rw [← HTN.out] at kT ⊢
      rw [← HRN.out] at kR ⊢
      replace Rt := Lib.hid (Rt.out.next y)
      replace B := Lib.hid (below_step B.out B.out.size y)
      have RT := Lib.hid rT
      have RR := Lib.hid rR
      clear hN rT rR y
      go_wp2_with fail
      refine (sCutAbove_L _ n _ _ t _ _ Et.out (by omega) (Nat.le_refl _) Rt.out (by omega)).mono ?_
      rintro e u3 hN
      obtain ⟨A1, c1, A2, c2, rfl, y⟩ := resPl_out hN F1.out
      replace Rt := Lib.hid (Rt.out.next y)
      replace RT := Lib.hid (RT.out.next y)
      replace RR := Lib.hid (RR.out.next y)
      replace B := Lib.hid (below_step B.out B.out.size y)
      clear hN y
      go_wp2_with fail
      refine (pCanonicalTree_L _ n _ _ t _ Et.out (by omega) (Nat.le_refl _) Rt.out hct).mono ?_
      rintro e u4 hN
      obtain ⟨AU, cU, rfl, rU, kU, y⟩ := resL_out hN F4.out
      rw [F5.out] at kU ⊢
      replace Rt := Lib.hid (Rt.out.next y)
      replace RT := Lib.hid (RT.out.next y)
      replace RR := Lib.hid (RR.out.next y)
      replace B := Lib.hid (below_step B.out B.out.size y)
      have RU := Lib.hid rU
      clear hN rU y
      go_wp2_with fail
      refine (pGraftSum_L _ _ tn rn _ _ _ _ T R _ HTN.out.symm HRN.out.symm (by omega) (by omega) (Nat.le_refl _) (Nat.le_refl _) RT.out RR.out kT kR).mono ?_
      rintro e u5 hN
      obtain ⟨AS, cS, rfl, rS, y⟩ := resC_out hN F6.out
      rw [← HSN.out] at rS ⊢
      replace Rt := Lib.hid (Rt.out.next y)
      replace RT := Lib.hid (RT.out.next y)
      replace RR := Lib.hid (RR.out.next y)
      replace RU := Lib.hid (RU.out.next y)
      replace B := Lib.hid (below_step B.out B.out.size y)
      have RS := Lib.hid rS
      clear hN rS y
      go_wp2_with fail
      refine (pCountCutsTo_L _ _ _ n tn rn _ _ _ _ _ _ t T R _ Et.out HTN.out.symm HRN.out.symm (by omega) (by omega) (by omega) (Nat.le_refl _) (Nat.le_refl _) (Nat.le_refl _) Rt.out RT.out RR.out hct kT kR).mono ?_
      rintro e u6 hN
      obtain ⟨rfl, y⟩ := resI_out hN F11.out
      replace RT := Lib.hid (RT.out.next y)
      replace RR := Lib.hid (RR.out.next y)
      replace RU := Lib.hid (RU.out.next y)
      replace B := Lib.hid (below_step B.out B.out.size y)
      have RS' := Lib.hid (RS.out.below y (Nat.le_refl _))
      clear hN Rt RS y
      have z1 := bne_f f2'
      obtain ⟨z, hz⟩ : ∃ z, z = tmsTo S u sn := ⟨_, rfl⟩
      rw [← hz] at f9
      have HZ := Lib.hid hz
      have z2 := beq_f (show ¬ z = 0 by omega)
      clear hz
      go_wp2_with fail
      refine (times9_any _ _ sn n _ _ _ S u _ HSN.out.symm F5.out (by omega) (by omega) F7.out RS'.out RU.out).mono ?_
      rintro e w' ⟨rfl, m, rfl⟩
      rw [← HZ.out]
      replace RT := Lib.hid (RT.out.drew m)
      replace RR := Lib.hid (RR.out.drew m)
      replace RU := Lib.hid (RU.out.drew m)
      replace B := Lib.hid (below_drewN B.out m)
      clear RS' HZ
      go_wp2_with fail
      go_loopw [17] (fun i wr => ∃ j : Nat, j ≤ j0 ∧ i = .int .i64 j ∧ Hid (Lst wr AT T) ∧ Hid (Lst wr AR R) ∧ Hid (Lst wr AU u) ∧ Hid (Below w.heap.size w wr)) (fun i _ => tn - (intOf i).toNat)
      case atStart => exact ⟨0, Nat.zero_le _, rfl, RT, RR, RU, B⟩
      case round =>
        clear RT RR RU B
        obtain ⟨j, hj, rfl, RT, RR, RU, B⟩ := hrel
        have hjt : j < tn := by omega
        obtain ⟨g1, g2⟩ := F12.out j hjt
        obtain ⟨v, hv⟩ : ∃ v, v = g j := ⟨_, rfl⟩
        rw [← hv] at g1 g2
        have HV := Lib.hid hv
        have HG1 := Lib.hid g1
        clear hv g1
        go_wp2_with fail
        refine (pGraftAt_L _ _ tn rn _ _ _ _ T R _ _ HTN.out.symm HRN.out.symm (by omega) (by omega) (Nat.le_refl _) (Nat.le_refl _) RT.out RR.out (by omega) kT kR).mono ?_
        rintro e w2 hN
        obtain ⟨AV, cV, rfl, rV, kV, y⟩ := resL_out hN HG1.out
        obtain ⟨vn, hvn⟩ : ∃ vn, vn = v.length := ⟨_, rfl⟩
        rw [← hvn] at g2 kV ⊢
        have HVN := Lib.hid hvn
        replace RT := Lib.hid (RT.out.next y)
        replace RR := Lib.hid (RR.out.next y)
        replace RU := Lib.hid (RU.out.next y)
        replace B := Lib.hid (below_step B.out B.out.size y)
        have RV := Lib.hid rV
        clear hN rV y hvn
        go_wp2_with fail
        refine (likeInts_any _ _ vn n _ _ _ _ v u _ HVN.out.symm F5.out (by omega) (by omega) RV.out RU.out).mono ?_
        rintro e w' ⟨rfl, m2, rfl⟩
        rw [eqL_dec]
        replace RT := Lib.hid (RT.out.drew m2)
        replace RR := Lib.hid (RR.out.drew m2)
        replace RU := Lib.hid (RU.out.drew m2)
        replace B := Lib.hid (below_drewN B.out m2)
        clear RV
        by_cases hvu : v = u
        · rw [decide_eq_true hvu]
          clear hvu
          go_wp2
          go_ret
          exact ⟨rfl, B.out⟩
        · rw [decide_eq_false hvu]
          have hne : j ≠ j0 := fun e => hvu (by rw [HV.out, e, F14.out])
          clear hvu
          go_wp2
          go_roundw
          case rel => exact ⟨j + 1, by omega, by go_num, RT, RR, RU, B⟩
          case measure => simp [intOf]; omega
    · obtain ⟨c, hc, hc0⟩ : ∃ c : Int, cutA t k = ([], [], c) ∧ c ≠ 0 := by
        cases h1 : Tr.isLv t
        · exact ⟨1, cutA_no h1, by decide⟩
        · exact ⟨2, cutA_out h1 (by rw [Et.out]; exact fun e => hv ⟨h1, e.1, e.2⟩), by decide⟩
      have F1 := Lib.hid hc
      have z1 := bne_t hc0
      clear hc hc0 hv
      go_wp2_with fail
      refine (pCutAbove_L _ n _ _ t _ _ Et.out (by omega) (Nat.le_refl _) Rt.out (by omega) hct).mono ?_
      rintro e u2 hN
      obtain ⟨AT, cT, AR, cR, rfl, rT, rR, kT, kR, y⟩ := resP_out hN F1.out
      replace Rt := Lib.hid (Rt.out.next y)
      replace B := Lib.hid (below_step B.out B.out.size y)
      clear hN rT rR y
      go_wp2_with fail
      refine (sCutAbove_L _ n _ _ t _ _ Et.out (by omega) (Nat.le_refl _) Rt.out (by omega)).mono ?_
      rintro e u3 hN
      obtain ⟨A1, c1, A2, c2, rfl, y⟩ := resPl_out hN F1.out
      replace B := Lib.hid (below_step B.out B.out.size y)
      have z3 : (c != c) = false := bne_f rfl
      clear hN y Rt
      go_wp2
      go_ret
      exact ⟨rfl, B.out⟩
  · have t0 : decide ((4096 : Int) < len0) = true := decide_eq_true (by omega)
    go_enter Try.func3, Try.ntmps3
    go_wp2_with fail
    refine (big_any _ _ _ _ (by omega)).mono ?_
    rintro e w' ⟨rfl, rfl⟩
    go_wp2
    go_ret
    exact ⟨rfl, Below.refl _ _⟩
/-- the statement -/
theorem holds : Rows.FnCutEdgesSaid := of_walk walk
end Go.Proofs.Ytfehjjaebdgjlaa.fnCutEdges
