/-
  The model's branches and symmetries; what SymmetryOf answers.
-/
import Derived.Test.YtegigeoeoioolabSym
import Derived.Test.YtegigeoeoioolabSame
namespace Go.Proofs.Ytegigeoeoioolab
open Go.RowKit Fld
set_option linter.unusedVariables false
set_option linter.unusedSimpArgs false
set_option maxRecDepth 100000

theorem l03Branches_any (A : Option Addr) (n c B : Nat) (t : List Int) (w : World) (hl : t.length = n) (hlv : Tr.isLv t = true) (hB : B ≤ w.heap.size) (h : Row w B A (ints t)) :
    Calls Try.prog 100 #[.slice A n c] w (ResRws (Tr.branL t) w) := by
  have HL := Lib.hid hl
  have HLV := Lib.hid hlv
  obtain ⟨hclv, hcl⟩ := lv_can hlv
  have HCL : Hid ((Tr.can t).length = n) := hcl.trans hl
  have HCLV := Lib.hid hclv
  obtain ⟨_, PS, P7⟩ := Tr.can_parts hclv
  have HPS : Hid (∀ p ∈ Tr.partsL (Tr.can t), Tr.isLv p = true) := fun p hp => (PS p hp).1
  have HP7 : Hid ((Tr.partsL (Tr.can t)).length ≤ 8) := by rw [Hid]; omega
  clear hl hlv hclv hcl PS P7
  go_enter Try.func100, Try.ntmps100
  go_wp2_with fail
  refine (l03Canon_any A n c B t w HL.out HLV.out hB h).mono ?_
  rintro e w1 ⟨A1, c1, rfl, own1, bel1⟩
  have hs1 := bel1.size
  have HB1 := Lib.hid bel1
  have HR1 : Hid (Row w1 w1.heap.size A1 (ints (Tr.can t))) := row_of_own own1
  clear own1 bel1
  go_wp2_with fail
  refine (l03Parts_any A1 n c1 w1.heap.size (Tr.can t) w1 HCL.out HCLV.out (Nat.le_refl _) HR1.out).mono ?_
  rintro e w2 ⟨A2, c2, vs2, rfl, own2, bel2⟩
  have hs2 := bel2.size
  have HB2 := Lib.hid (HB1.out.trans (bel2.mono hs1))
  have HM2 : Hid (Mat w2 w2.heap.size A2 (Tr.partsL (Tr.can t))) := own2.mat
  clear own2 bel2
  go_wp2_with fail
  refine (l03Sort_any A2 (Tr.partsL (Tr.can t)).length c2 w2.heap.size (Tr.partsL (Tr.can t)) w2 rfl HP7.out HPS.out (Nat.le_refl _) HM2.out).mono ?_
  rintro e w3 ⟨b, o, cap, rfl, hcap, hrws, bel3⟩
  have G : Hid (ResRws (Tr.branL t) w (.returned (.slice (some ⟨b, o, none⟩) (Tr.sortL (Tr.partsL (Tr.can t))).length cap)) w3) := ⟨b, o, cap, rfl, hcap, hrws, HB2.out.trans (bel3.mono (by omega))⟩
  clear hrws bel3
  go_wp2
  go_ret
  exact G.out
theorem symMK_step {f : List Int → Int} {bs : List (List Int)} {k : Nat} {y : List Int} (h : bs[k]? = some y) :
    (Tr.symMK f bs (k + 1)).1 = (Tr.symMK f bs k).1 * (Tr.symMK f bs (k + 1)).2 * f y := by
  have e : bs.getD k [] = y := by rw [List.getD_eq_getElem?_getD, h]; rfl
  rw [Tr.symMK, e]
theorem symMK_zero {f : List Int → Int} {bs : List (List Int)} : (Tr.symMK f bs 1).2 = 1 := by
  simp [Tr.symMK]
theorem symMK_same {f : List Int → Int} {bs : List (List Int)} {k : Nat} {y z : List Int} (h : bs[k + 1]? = some y) (h' : bs[k]? = some z) : (Tr.symMK f bs (k + 1 + 1)).2 = if y = z then (Tr.symMK f bs (k + 1)).2 + 1 else 1 := by
  have e : bs.getD (k + 1) [] = y := by rw [List.getD_eq_getElem?_getD, h]; rfl
  have e' : bs.getD k [] = z := by rw [List.getD_eq_getElem?_getD, h']; rfl
  rw [Tr.symMK]
  simp only [Nat.add_sub_cancel, e, e']
  by_cases q : y = z <;> simp [q]
def SSym (d : Nat) : Prop := ∀ (A : Option Addr) (n c B : Nat) (t : List Int) (w : World), t.length = n → n ≤ d → Tr.isLv t = true → B ≤ w.heap.size → Row w B A (ints t) → Calls Try.prog 67 #[.slice A n c] w (Res1 (Tr.syM t) w)
set_option maxHeartbeats 2000000 in
theorem sSym_succ (d : Nat) (IH : SSym d) : SSym (d + 1) := by
  intro A n c B t w hl hnd hlv hB h
  have n8 : n ≤ 8 := by have := (Tr.isLv_iff.1 hlv).2.1; omega
  obtain ⟨⟨hD, hK, hM⟩, _, HBr, h7⟩ := Tr.syM_parts hlv
  have HD := Lib.hid hD
  have HK := Lib.hid hK
  have HMU := Lib.hid hM
  have HBR := Lib.hid HBr
  have HL := Lib.hid hl
  obtain ⟨P, hP⟩ : ∃ P, P = (Tr.branL t).length := ⟨_, rfl⟩
  have HP : Hid ((Tr.branL t).length = P) := hP.symm
  have hP7 : P ≤ 7 := by rw [hP]; exact h7
  have C0 := l03Branches_any A n c B t w hl hlv hB h
  clear hl hlv hD hK hM HBr h7 hP
  go_enter Try.func67, Try.ntmps67
  go_wp2_with fail
  refine C0.mono ?_
  rintro e w1 ⟨bb, oo, cap, rfl, hcap, hrws, bel1⟩
  rw [HP.out] at hcap ⊢
  have HMP : Hid (Mat w1 w1.heap.size (some ⟨bb, oo, none⟩) (Tr.branL t)) := hrws.mat
  have HB1 := Lib.hid bel1
  have hs1 := bel1.size
  clear hrws bel1 C0
  go_wp2_with fail
  go_loopw [4, 5, 6] (fun v o i wr => ∃ (k : Nat) (a u : Int), k ≤ P ∧ v = .int .i64 a ∧ o = .int .i64 u ∧ i = .int .i64 k ∧ Hid (a = (Tr.symMK Tr.syM (Tr.branL t) k).1) ∧ Hid (u = (Tr.symMK Tr.syM (Tr.branL t) k).2) ∧ Below w1.heap.size w1 wr) (fun _ _ i _ => P - (intOf i).toNat)
  case atStart => exact ⟨0, 1, 0, Nat.zero_le _, rfl, rfl, rfl, rfl, rfl, Below.refl _ _⟩
  case round =>
    obtain ⟨k, a, u, hk, rfl, rfl, rfl, HA, HU, HBw⟩ := hrel
    have hsz := HBw.size
    by_cases hlt : k < P
    · obtain ⟨y, hy⟩ := at_lt (show k < (Tr.branL t).length by rw [HP.out]; exact hlt)
      obtain ⟨_, _, Ak, ck, e1, hbp, hcp, hlc, hcm, hrp⟩ := HMP.out.below HBw (Nat.le_refl _) k y hy
      cases e1
      obtain ⟨⟨hyl, _⟩, hyt⟩ := HBR.out y (List.mem_of_getElem? hy)
      have C2 := fun w' (hw' : w1.heap.size ≤ w'.heap.size) hr => IH Ak y.length ck w1.heap.size y w' rfl (by have := HL.out; omega) hyl hw' hr
      have hk0 := HK.out k (by rw [HP.out]; omega)
      have hk1 := HK.out (k + 1) (by rw [HP.out]; omega)
      have hm1 := HMU.out k (by rw [HP.out]; exact hlt)
      have hstep := symMK_step (f := Tr.syM) hy
      obtain ⟨v, hv⟩ : ∃ v, v = (Tr.symMK Tr.syM (Tr.branL t) (k + 1)).2 := ⟨_, rfl⟩
      rw [← hv] at hstep hm1 hk1
      obtain ⟨z, hz⟩ : ∃ z, z = Tr.syM y := ⟨_, rfl⟩
      rw [← hz] at hstep C2
      rw [← HA.out] at hstep hk0 hm1
      rw [hstep] at hk1
      rw [← HU.out] at hk0
      have HST : Hid (a * v * z = (Tr.symMK Tr.syM (Tr.branL t) (k + 1)).1) := hstep.symm
      have HSV : Hid (v = (Tr.symMK Tr.syM (Tr.branL t) (k + 1)).2) := hv
      have hmw1 : IntKind.i64.wrap (a * v) = a * v := IntWalk.i64_in _ (by omega)
      have hmw2 : IntKind.i64.wrap (a * v * z) = a * v * z := IntWalk.i64_in _ (by have := hk1.1; omega)
      have hvb := hk1.2
      have hub := hk0.2
      have hwu : IntKind.i64.wrap (u + 1) = u + 1 := IntWalk.i64_in _ (by omega)
      have y8 : y.length ≤ 8 := (Tr.isLv_iff.1 hyl).2.1
      have HBW := Lib.hid HBw
      have HRP := Lib.hid hrp
      rcases Nat.eq_zero_or_pos k with rfl | hk1'
      · rw [Nat.add_zero] at hcp
        have hv1 : v = 1 := by rw [hv]; exact symMK_zero
        subst hv1
        have hz1 : IntKind.i64.wrap a = a := by rw [Int.mul_one] at hmw1; exact hmw1
        have hz2 : IntKind.i64.wrap (a * z) = a * z := by rw [Int.mul_one] at hmw2; exact hmw2
        have HST1 : Hid (a * z = (Tr.symMK Tr.syM (Tr.branL t) (0 + 1)).1) := by have := HST.out; rw [Int.mul_one] at this; exact this
        clear hmw1 hmw2 HST hy hyl hyt hstep hz HBw hk0 hk1 hm1 hv HA HU hub hvb hrp
        go_wp2_with fail
        go_quiet (fail)
        go_wp2_with fail
        refine (C2 _ (by exact hsz) (by exact HRP.out)).mono ?_
        rintro e w2 ⟨rfl, bel2⟩
        have HB2 : Hid (Below w1.heap.size w1 w2) := HBW.out.trans ((below_undrew' bel2).mono hsz)
        clear bel2
        go_wp2
        go_roundw
        case rel => exact ⟨1, _, _, by omega, rfl, rfl, by go_num, HST1.out, HSV.out, HB2.out⟩
        case measure => simp [intOf]; omega
      · obtain ⟨j, rfl⟩ : ∃ j, k = j + 1 := ⟨k - 1, by omega⟩
        obtain ⟨p, hp⟩ := at_lt (show j < (Tr.branL t).length by rw [HP.out]; omega)
        obtain ⟨_, _, Ap, cp, e1, _, hcpp, _, _, hrpp⟩ := HMP.out.below HBw (Nat.le_refl _) j p hp
        cases e1
        obtain ⟨⟨hpl, _⟩, _⟩ := HBR.out p (List.mem_of_getElem? hp)
        have p8 : p.length ≤ 8 := (Tr.isLv_iff.1 hpl).2.1
        have hsame := symMK_same (f := Tr.syM) hy hp
        rw [← hv, ← HU.out] at hsame
        have CS := fun a : Nat => l01Same_any Ak Ap y.length p.length ck cp w1.heap.size w1.heap.size y p (wr.drewN a) rfl rfl (by omega) (by omega) (HRP.out.drewN a) (hrpp.drewN a)
        have ek : (((j + 1 : Nat)) : Int) = (j : Int) + 1 := by omega
        have hwj : IntKind.i64.wrap (j : Int) = (j : Int) := IntWalk.i64_in _ (by omega)
        have tk0 : ((j : Int) + 1 == 0) = false := beq_f (by omega)
        have hj0 : (0 : Int) ≤ (j : Int) := Int.natCast_nonneg _
        have hj1 : (j : Int) < (P : Int) := by omega
        have hj2 : (j : Int) + 1 < (P : Int) := by omega
        have hj3 : (0 : Int) ≤ (j : Int) + 1 := by omega
        by_cases hyp : y = p
        · rw [if_pos hyp] at hsame
          have he : eqL y p = true := by rw [hyp]; exact eqL_self _
          simp only [he] at CS
          rw [ek]
          clear hy hp hyl hyt hstep hz HBw hk0 hk1 hm1 hv HA HU hyp ek hrp hrpp hpl he
          subst hsame
          go_wp2_with fail
          go_quiet ((go_at_call 101; first | exact Calls.quiet_of (CS _) | exact quiet_any (CS _)))
          go_wp2_with fail
          refine (C2 _ (by exact hsz) (by exact HRP.out)).mono ?_
          rintro e w2 ⟨rfl, bel2⟩
          have HB2 : Hid (Below w1.heap.size w1 w2) := HBW.out.trans ((below_undrew' bel2).mono hsz)
          clear bel2 CS
          go_wp2
          go_roundw
          case rel => exact ⟨j + 1 + 1, _, _, by omega, rfl, rfl, by go_num, HST.out, HSV.out, HB2.out⟩
          case measure => simp [intOf]; omega
        · rw [if_neg hyp] at hsame
          have he : eqL y p = false := by unfold eqL; exact decide_eq_false hyp
          simp only [he] at CS
          rw [ek]
          subst hsame
          have hz1 : IntKind.i64.wrap a = a := by rw [Int.mul_one] at hmw1; exact hmw1
          have hz2 : IntKind.i64.wrap (a * z) = a * z := by rw [Int.mul_one] at hmw2; exact hmw2
          have HST1 : Hid (a * z = (Tr.symMK Tr.syM (Tr.branL t) (j + 1 + 1)).1) := by have := HST.out; rw [Int.mul_one] at this; exact this
          clear hmw1 hmw2 HST hy hp hyl hyt hstep hz HBw hk0 hk1 hm1 hv HA HU hyp ek hrp hrpp hpl he hub hvb
          go_wp2_with fail
          go_quiet ((go_at_call 101; first | exact Calls.quiet_of (CS _) | exact quiet_any (CS _)))
          go_wp2_with fail
          refine (C2 _ (by exact hsz) (by exact HRP.out)).mono ?_
          rintro e w2 ⟨rfl, bel2⟩
          have HB2 : Hid (Below w1.heap.size w1 w2) := HBW.out.trans ((below_undrew' bel2).mono hsz)
          clear bel2 CS
          go_wp2
          go_roundw
          case rel => exact ⟨j + 1 + 1, _, _, by omega, rfl, rfl, by go_num, HST1.out, HSV.out, HB2.out⟩
          case measure => simp [intOf]; omega
    · obtain rfl : k = P := by omega
      have G : Hid (Res1 (Tr.syM t) w (.returned (.int .i64 a)) wr) :=
        Res1.of (by rw [HD.out, HP.out, HA.out]) (HB1.out.trans (HBw.mono hs1))
      clear HBw
      go_wp2
      go_ret
      exact G.out
theorem l03Symmetry_any (A : Option Addr) (n c B : Nat) (t : List Int) (w : World) (hl : t.length = n) (hlv : Tr.isLv t = true) (hB : B ≤ w.heap.size) (h : Row w B A (ints t)) : Calls Try.prog 67 #[.slice A n c] w (Res1 (Tr.syM t) w) := by
  have key : ∀ d, SSym d := fun d => by
    induction d with
    | zero => intro A n c B t w hl hn hlv; have := (Tr.isLv_iff.1 hlv).1; omega
    | succ d ih => exact sSym_succ d ih
  exact key n A n c B t w hl (Nat.le_refl _) hlv hB h
def symmetryA (t : List Int) : Int × Int := if Tr.isLv t = true then (Tr.syM t, 0) else (0, 1)
theorem symmetryA_yes {t : List Int} (h : Tr.isLv t = true) : symmetryA t = (Tr.syM t, 0) := if_pos h
theorem symmetryA_no {t : List Int} (h : Tr.isLv t = false) : symmetryA t = (0, 1) := if_neg (by rw [h]; simp)
theorem pSymmetryOf_L (A : Option Addr) (n c B : Nat) (t : List Int) (w : World) (hl : t.length = n) (hn : n ≤ 1048576) (hB : B ≤ w.heap.size) (h : Row w B A (ints t)) (hc : n ≤ c) :
    Calls Try.prog 32 #[.slice A n c] w (ResI (symmetryA t) w) := by
  have C0 := isLevels_any A n c B t w hl (by omega) h
  cases hlv : Tr.isLv t
  · have G := Lib.hid (symmetryA_no hlv)
    rw [hlv] at C0
    go_enter Try.func32, Try.ntmps32
    go_wp2_with fail
    refine C0.mono ?_
    rintro e w' ⟨rfl, m, rfl⟩
    go_wp2
    go_ret2
    exact ResI.of' G.out (below_drewN (Below.refl _ _) _)
  · rw [hlv] at C0
    obtain ⟨b1, b8⟩ := lv_bd hlv
    rw [hl] at b1 b8
    have HL := Lib.hid hl
    have G := Lib.hid (symmetryA_yes hlv)
    have C3 := fun w => symmetry_any (Tr.txt t) w (Tr.tx_txt hlv)
    rw [(Tr.syM_parts hlv).2.1] at C3
    clear hl hlv
    go_enter Try.func32, Try.ntmps32
    go_wp2_with fail
    refine C0.mono ?_
    rintro e w' ⟨rfl, m, rfl⟩
    go_wp2_with fail
    refine (treeOf_any A n c B t _ HL.out b1 b8 hc (by exact hB) (h.drewN m)).mono ?_
    rintro e w2 ⟨rfl, bel2⟩
    go_wp2_with fail
    refine (C3 _).mono ?_
    rintro e w3 ⟨rfl, bel3⟩
    have GB : Hid (Below w.heap.size w w3) := (below_undrew' bel2).trans (bel3.mono bel2.size)
    clear bel2 bel3
    go_wp2
    go_ret2
    exact ResI.of' G.out GB.out
theorem sSymmetryOf_L (A : Option Addr) (n c B : Nat) (t : List Int) (w : World) (hl : t.length = n) (hn : n ≤ 1048576) (hB : B ≤ w.heap.size) (h : Row w B A (ints t)) :
    Calls Try.prog 31 #[.slice A n c] w (ResI (symmetryA t) w) := by
  have C0 := l03Is_any A n c B t w hl hn h
  cases hlv : Tr.isLv t
  · have G := Lib.hid (symmetryA_no hlv)
    rw [hlv] at C0
    go_enter Try.func31, Try.ntmps31
    go_wp2_with fail
    refine C0.mono ?_
    rintro e w' ⟨rfl, m, rfl⟩
    go_wp2
    go_ret2
    exact ResI.of' G.out (below_drewN (Below.refl _ _) _)
  · rw [hlv] at C0
    have HL := Lib.hid hl
    have HLV := Lib.hid hlv
    have G := Lib.hid (symmetryA_yes hlv)
    clear hl hlv
    go_enter Try.func31, Try.ntmps31
    go_wp2_with fail
    refine C0.mono ?_
    rintro e w' ⟨rfl, m, rfl⟩
    go_wp2_with fail
    refine (l03Symmetry_any A n c B t _ HL.out HLV.out (by exact hB) (h.drewN m)).mono ?_
    rintro e w2 ⟨rfl, bel2⟩
    have GB : Hid (Below w.heap.size w w2) := below_undrew' bel2
    clear bel2
    go_wp2
    go_ret2
    exact ResI.of' G.out GB.out
end Go.Proofs.Ytegigeoeoioolab
