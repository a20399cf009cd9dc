/-
  PROVED: for every code the law FnGraftCounts returns true: a graft sum has as many graftings as there are nodes, and graftings and cuts are counted by symmetries.
  CONDITIONS: none; every slice of bytes.
-/
import Derived.Test.YtjmjdcfgbaepkaaUX2
import Derived.Test.YtjmjdcfgbaepkaaFFnGraftCounts
namespace Go.Proofs.Ytjmjdcfgbaepkaa.fnGraftCounts
open Go.ChangeShapes Go.WideShapes Go.ChangeAt Go.RowKit Fld
set_option linter.unusedVariables false
set_option linter.unusedSimpArgs false
set_option maxRecDepth 100000

theorem has_next {s : Sh} {cs : List Value} {x : s.Ty} {w w' : World} (h : Has s cs x w.heap.size w) (b : Below w.heap.size w w') : Has s cs x w'.heap.size w' := (h.below b (Nat.le_refl _)).more b.size
theorem has_drew {s : Sh} {cs : List Value} {x : s.Ty} {w : World} (h : Has s cs x w.heap.size w) (m : Nat) : Has s cs x (w.drewN m).heap.size (w.drewN m) := h.drewN m

theorem resCl_out {S : List (List Int × Int)} {k : Int} {r : List (List Int × Int) × Int} {w w' : World} {e : Ending} (h : ResCl r w e w') (hr : r = (S, k)) : ∃ A c, e = .returned (.tuple #[.slice A S.length c, .int .i64 k]) ∧ Below w.heap.size w w' := by
  subst hr
  obtain ⟨_, A, c, rfl, _, hb⟩ := h
  exact ⟨A, c, rfl, hb⟩

set_option maxHeartbeats 8000000 in
theorem walk (w : World) (a0 : Option Addr) (len0 cap0 : Nat) (z0 : List Int) (w0 : IsRow .u8 w a0 len0 cap0 z0) : Calls Try.prog 3 #[.slice a0 len0 cap0] w fun e w' => e = .returned (.bool true) ∧ Below w.heap.size w w' := by
  have hcode := isCode_of w0
  have hcm := w0.2.2.1
  have hlc := w0.2.1
  unfold maxLen at hcm
  have HX := Lib.hid hcode
  clear hcode w0
  by_cases hn : len0 ≤ 4096
  · have t0 : decide ((4096 : Int) < len0) = false := decide_eq_false (by omega)
    go_enter Try.func3, Try.ntmps3
    go_wp2_with fail
    refine (big_any _ _ _ _ (by omega)).mono ?_
    rintro e w' ⟨rfl, rfl⟩
    go_wp2_with fail
    refine (drawGraftSum_any _ _ _ _ _ hn HX.out).mono ?_
    rintro e u1 ⟨AU, cU, un, AV, cV, vn, u, v, rfl, ⟨lu, lv⟩, ⟨hun, hvn⟩, ⟨kU, kV⟩, ru, rv, b1⟩
    have RU := Lib.hid (show Lst u1 AU u from ru)
    have RV := Lib.hid (show Lst u1 AV v from rv)
    have B := Lib.hid b1
    have EU := Lib.hid lu
    have EV := Lib.hid lv
    clear ru rv b1 lu lv
    by_cases hv : Tr.isLv u = true ∧ Tr.isLv v = true ∧ un + vn ≤ 8
    · obtain ⟨v1, v2, v3⟩ := hv
      obtain ⟨p, f1, f2, f3, f4, f5, f6, f7, f8, f9, f10, f11⟩ := gc_facts v1 v2 (by rw [EU.out, EV.out]; exact v3)
      obtain ⟨S, hS⟩ : ∃ S, S = gsumL u v := ⟨_, rfl⟩
      rw [← hS] at f1 f6 f7 f8 f11
      obtain ⟨sn, hsn⟩ : ∃ sn, sn = S.length := ⟨_, rfl⟩
      rw [← hsn] at f6 f8
      rw [EU.out] at f7
      obtain ⟨pn, hpn⟩ : ∃ pn, pn = p.length := ⟨_, rfl⟩
      rw [← hpn] at f5
      obtain ⟨su, hsu⟩ : ∃ z, z = Tr.syM u := ⟨_, rfl⟩
      obtain ⟨sv, hsv⟩ : ∃ z, z = Tr.syM v := ⟨_, rfl⟩
      rw [← hsu] at f2 f9 f11
      rw [← hsv] at f3 f10 f11
      obtain ⟨z, hz⟩ : ∃ z, z = tmsTo S p sn := ⟨_, rfl⟩
      rw [← hz] at f8
      have HCB := fun r => Lib.hid (cnts_bd (S := S) (fun p hp => (f11 p hp).1.1) r)
      have HCA : Hid (cntsTo S sn = (un : Int)) := by rw [Hid, hsn, cnts_all, f7]
      have F1 := Lib.hid f1
      have F2 := Lib.hid f2
      have F3 := Lib.hid f3
      have F4 := Lib.hid f4
      have F11 := Lib.hid f11
      have HPN := Lib.hid hpn
      have HSN := Lib.hid hsn
      have HZ := Lib.hid hz
      clear f1 f2 f3 f4 f7 f11 hpn hsn hz hS hsu hsv v1 v2
      go_wp2_with fail
      refine (pGraftSum_L _ _ un vn _ _ _ _ u v _ EU.out EV.out (by omega) (by omega) (Nat.le_refl _) (Nat.le_refl _) RU.out RV.out kU kV).mono ?_
      rintro e u2 hN
      obtain ⟨AS, cS, rfl, rS, y⟩ := resC_out hN F1.out
      rw [← HSN.out] at rS ⊢
      replace RU := Lib.hid (RU.out.next y)
      replace RV := Lib.hid (RV.out.next y)
      replace B := Lib.hid (below_step B.out B.out.size y)
      have RS := Lib.hid rS
      clear hN rS y
      go_wp2_with fail
      refine (sGraftSum_L _ _ un vn _ _ _ _ u v _ EU.out EV.out (by omega) (by omega) (Nat.le_refl _) (Nat.le_refl _) RU.out RV.out kU kV).mono ?_
      rintro e u3 hN
      obtain ⟨A1, c1, rfl, y⟩ := resCl_out hN F1.out
      replace RU := Lib.hid (RU.out.next y)
      replace RV := Lib.hid (RV.out.next y)
      replace RS := Lib.hid (has_next RS.out y)
      replace B := Lib.hid (below_step B.out B.out.size y)
      clear hN y
      go_wp2_with fail
      refine (symmetry9_any _ un _ u su _ EU.out (by omega) RU.out kU F2.out).mono ?_
      rintro e u4 ⟨rfl, y⟩
      replace RU := Lib.hid (RU.out.next y)
      replace RV := Lib.hid (RV.out.next y)
      replace RS := Lib.hid (has_next RS.out y)
      replace B := Lib.hid (below_step B.out B.out.size y)
      clear y
      go_wp2_with fail
      refine (symmetry9_any _ vn _ v sv _ EV.out (by omega) RV.out kV F3.out).mono ?_
      rintro e u5 ⟨rfl, y⟩
      replace RU := Lib.hid (RU.out.next y)
      replace RV := Lib.hid (RV.out.next y)
      replace RS := Lib.hid (has_next RS.out y)
      replace B := Lib.hid (below_step B.out B.out.size y)
      clear y
      go_wp2_with fail
      go_loopw [11, 12] (fun s i wr => ∃ r : Nat, r ≤ sn ∧ s = .int .i64 (cntsTo S r) ∧ i = .int .i64 r ∧ Hid (Lst wr AU u) ∧ Hid (Lst wr AV v) ∧ Hid (Has ShC [.slice AS sn cS] S wr.heap.size wr) ∧ Hid (Below w.heap.size w wr)) (fun _ i _ => sn - (intOf i).toNat)
      case atStart => exact ⟨0, Nat.zero_le _, rfl, rfl, RU, RV, RS, B⟩
      case round =>
        clear RU RV RS B
        obtain ⟨r, hr, rfl, rfl, RU, RV, RS, B⟩ := hrel
        by_cases hlt : r < sn
        · obtain ⟨⟨t, x⟩, hx⟩ := at_lt (show r < S.length by rw [← HSN.out]; exact hlt)
          have HST := Lib.hid (cnts_step hx)
          obtain ⟨b, o, Ak, ck, rfl, _, hc0, hc1, hck, _, hrow⟩ := cnt_read RS.out hx
          obtain ⟨⟨⟨x0, x1⟩, hul⟩, ⟨x2, x3⟩, x4, c, s, g1, g2, g3, g4, g5, g6⟩ := F11.out _ (List.mem_of_getElem? hx)
          have x0' : 0 ≤ x ∧ x ≤ 1048576 := ⟨x0, x1⟩
          have x2' : 1 ≤ x ∧ x ≤ 8 := ⟨x2, x3⟩
          have x4' : t.length ≤ 8 := x4
          have g1' : cntA t u v = (c, 0) := g1
          have g2' : symmetryA t = (s, 0) := g2
          have g6' : x * s = c * su * sv := g6
          clear x0 x1 x2 x3 x4 g1 g2 g6 hul
          obtain ⟨tn, htn⟩ : ∃ tn, tn = t.length := ⟨_, rfl⟩
          rw [← htn] at x4' hck hc0
          have hb0 := (HCB r).out
          obtain ⟨ss, hss⟩ : ∃ ss, ss = cntsTo S r := ⟨_, rfl⟩
          rw [← hss] at hb0 HST
          have RT := Lib.hid (show Lst wr Ak t from hrow)
          have HS := Lib.hid hss
          have HT := Lib.hid htn
          have G1 := Lib.hid g1'
          have G2 := Lib.hid g2'
          have G6 := Lib.hid g6'
          have hw1 : IntKind.i64.wrap (x * s) = x * s := IntWalk.i64_in _ (by rw [g6']; omega)
          have hw2 : IntKind.i64.wrap (c * su) = c * su := IntWalk.i64_in _ (by omega)
          have hw3 : IntKind.i64.wrap (c * su * sv) = c * su * sv := IntWalk.i64_in _ (by omega)
          have z0 := bne_f g6'
          rw [← hss]
          have HXR := Lib.hid hx
          clear hx hrow hss htn g1' g2' g6'
          go_wp2_with fail
          refine (pCountCutsTo_L _ _ _ tn un vn _ _ _ _ _ _ t u v _ HT.out.symm EU.out EV.out (by omega) (by omega) (by omega) (Nat.le_refl _) (Nat.le_refl _) (Nat.le_refl _) RT.out RU.out RV.out hck kU kV).mono ?_
          rintro e w2 hN
          obtain ⟨rfl, y⟩ := resI_out hN G1.out
          replace RU := Lib.hid (RU.out.next y)
          replace RV := Lib.hid (RV.out.next y)
          replace RS := Lib.hid (has_next RS.out y)
          replace B := Lib.hid (below_step B.out B.out.size y)
          clear hN y hc0 hc1 RT
          obtain ⟨b', o', Ak', ck', e1, hb2, hd0, hd1, hck', _, hrow'⟩ := cnt_read RS.out HXR.out
          obtain ⟨rfl, rfl⟩ : b = b' ∧ o = o' := by injection e1 with e1; injection e1 with e2 e3; exact ⟨e2, e3⟩
          rw [← HT.out] at hck' hd0
          have RT := Lib.hid (show Lst w2 Ak' t from hrow')
          have zx : decide (x < 1) = false := decide_eq_false (by omega)
          clear e1 hrow'
          go_wp2_with fail
          go_region_held3 (fun w' => w'.cell? ⟨b, o + r * 2, none⟩ = some (.slice Ak' tn ck') ∧ w'.cell? ⟨b, o + r * 2 + 1, none⟩ = some (.int .i64 x)) (first | go_keep | exact ⟨hd0, hd1⟩ | exact ⟨((show Below w2.heap.size w2 w3 from ⟨y.os, y.tape, y.output, y.size, y.block⟩).cell (p := ⟨b, o + r * 2, none⟩) hb2).trans hd0, ((show Below w2.heap.size w2 w3 from ⟨y.os, y.tape, y.output, y.size, y.block⟩).cell (p := ⟨b, o + r * 2 + 1, none⟩) hb2).trans hd1⟩)
            ((go_at_call 13; refine (symmetry9_any _ tn _ t s _ HT.out.symm (by omega) (by exact RT.out) hck' G2.out).mono ?_; rintro e w3 ⟨rfl, y⟩))
          have y3 : Below w2.heap.size w2 w3 := ⟨y.os, y.tape, y.output, y.size, y.block⟩
          replace RU := Lib.hid (RU.out.next y3)
          replace RV := Lib.hid (RV.out.next y3)
          replace RS := Lib.hid (has_next RS.out y3)
          replace B := Lib.hid (below_step B.out B.out.size y3)
          clear y y3 RT hd0 hd1
          go_wp2
          go_roundw
          case rel => exact ⟨r + 1, by omega, by rw [HST.out], by go_num, RU, RV, RS, B⟩
          case measure => simp [intOf]; omega
        · obtain rfl : r = sn := by omega
          have zt := beq_t HCA.out
          go_wp2_with fail
          refine (pButcherProduct_L _ _ un vn _ _ _ _ u v _ EU.out EV.out (by omega) (by omega) (Nat.le_refl _) (Nat.le_refl _) RU.out RV.out kU kV).mono ?_
          rintro e w2 hN
          obtain ⟨AP, cP, rfl, rP, kP, y⟩ := resL_out hN F4.out
          rw [← HPN.out] at kP ⊢
          replace RS := Lib.hid (has_next RS.out y)
          replace B := Lib.hid (below_step B.out B.out.size y)
          have RP := Lib.hid rP
          have z2 : decide (0 < z) = true := decide_eq_true f8
          clear hN rP y RU RV HCA
          go_wp2_with fail
          refine (times9_any _ _ r pn _ _ _ S p _ HSN.out.symm HPN.out.symm (by omega) (by omega) (fun q hq => (F11.out q hq).1) RS.out RP.out).mono ?_
          rintro e w' ⟨rfl, m1, rfl⟩
          rw [← HZ.out]
          replace B := Lib.hid (below_drewN B.out m1)
          clear RP RS
          go_wp2
          go_ret
          exact ⟨rfl, B.out⟩
    · obtain ⟨c, hc, hc0⟩ : ∃ c : Int, gsumA u v = ([], c) ∧ c ≠ 0 := by
        cases h1 : Tr.isLv u
        · exact ⟨1, gsumA_no1 h1, by decide⟩
        · cases h2 : Tr.isLv v
          · exact ⟨1, gsumA_no2 h2, by decide⟩
          · exact ⟨3, gsumA_big h1 h2 (by rw [EU.out, EV.out]; exact fun e => hv ⟨h1, h2, e⟩), by decide⟩
      have F1 := Lib.hid hc
      have z1 := bne_t hc0
      clear hc hc0 hv
      go_wp2_with fail
      refine (pGraftSum_L _ _ un vn _ _ _ _ u v _ EU.out EV.out (by omega) (by omega) (Nat.le_refl _) (Nat.le_refl _) RU.out RV.out kU kV).mono ?_
      rintro e u2 hN
      obtain ⟨AS, cS, rfl, rS, y⟩ := resC_out hN F1.out
      replace RU := Lib.hid (RU.out.next y)
      replace RV := Lib.hid (RV.out.next y)
      replace B := Lib.hid (below_step B.out B.out.size y)
      clear hN rS y
      go_wp2_with fail
      refine (sGraftSum_L _ _ un vn _ _ _ _ u v _ EU.out EV.out (by omega) (by omega) (Nat.le_refl _) (Nat.le_refl _) RU.out RV.out kU kV).mono ?_
      rintro e u3 hN
      obtain ⟨A1, c1, rfl, y⟩ := resCl_out hN F1.out
      replace B := Lib.hid (below_step B.out B.out.size y)
      have z3 : (c != c) = false := bne_f rfl
      clear hN y RU RV
      go_wp2
      go_ret
      exact ⟨rfl, B.out⟩
  · have t0 : decide ((4096 : Int) < len0) = true := decide_eq_true (by omega)
    go_enter Try.func3, Try.ntmps3
    go_wp2_with fail
    refine (big_any _ _ _ _ (by omega)).mono ?_
    rintro e w' ⟨rfl, rfl⟩
    go_wp2
    go_ret
    exact ⟨rfl, Below.refl _ _⟩
/-- the statement -/
theorem holds : Rows.FnGraftCountsSaid := of_walk walk
end Go.Proofs.Ytjmjdcfgbaepkaa.fnGraftCounts
