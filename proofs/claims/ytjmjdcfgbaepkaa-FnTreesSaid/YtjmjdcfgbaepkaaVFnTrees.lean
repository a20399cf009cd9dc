/-
  PROVED: for every code the law FnTrees returns true: a tree is made of its branches, the same for all of its lists, has its index and its text, and its labellings, symmetry and density have the factorial of its number of nodes as their product.
  CONDITIONS: none; every slice of bytes.
-/
import Derived.Test.YtjmjdcfgbaepkaaUT2
import Derived.Test.YtjmjdcfgbaepkaaFFnTrees
namespace Go.Proofs.Ytjmjdcfgbaepkaa.fnTrees
open Go.ChangeShapes Go.WideShapes Go.ChangeAt Go.RowKit Fld
set_option linter.unusedVariables false
set_option linter.unusedSimpArgs false
set_option maxRecDepth 100000

theorem mat_next {w w' : World} {A : Option Addr} {m : List (List Int)} (h : Mat w w.heap.size A m) (b : Below w.heap.size w w') : Mat w' w'.heap.size A m := (h.below b (Nat.le_refl _)).more b.size
theorem resM_out {m : List (List Int)} {k : Int} {r : List (List Int) × Int} {w w' : World} {e : Ending} (h : ResM r w e w') (hr : r = (m, k)) : ∃ A c, e = .returned (.tuple #[.slice A m.length c, .int .i64 k]) ∧ Mat w' w'.heap.size A m ∧ Below w.heap.size w w' := by
  subst hr
  obtain ⟨_, A, c, vs, rfl, o1, hb⟩ := h
  exact ⟨A, c, rfl, o1.mat, hb⟩
theorem resS_out {x : List UInt8} {k : Int} {r : List UInt8 × Int} {w w' : World} {e : Ending} (h : ResS r w e w') (hr : r = (x, k)) : e = .returned (.tuple #[.string ⟨x.toArray⟩, .int .i64 k]) ∧ Below w.heap.size w w' := by
  subst hr; exact h
theorem fact9_any (n : Nat) (w : World) (h1 : 1 ≤ n) (h8 : n ≤ 8) : Calls Try.prog 40 #[.int .i64 n] w fun e w' => e = .returned (.int .i64 (factN n)) ∧ w = w' := by
  go_enter Try.func40, Try.ntmps40
  go_wp2_with fail
  go_loop [3, 4] (fun v i => ∃ (j : Nat) (a : Int), 1 ≤ j ∧ j ≤ n ∧ v = .int .i64 a ∧ i = .int .i64 ((j : Int) + 1) ∧ Hid (a = factN j)) (fun _ i => n + 1 - (intOf i).toNat)
  case atStart => exact ⟨1, 1, Nat.le_refl _, h1, rfl, rfl, rfl⟩
  case round =>
    obtain ⟨j, a, hj1, hj, rfl, rfl, HA⟩ := hrel
    by_cases hlt : j < n
    · have HS : Hid (a * ((j : Int) + 1) = factN (j + 1)) := by rw [Hid, HA.out]; rfl
      have hb := factN_small (j + 1) (by omega)
      rw [← HS.out] at hb
      have hw1 : IntKind.i64.wrap (a * ((j : Int) + 1)) = a * ((j : Int) + 1) := IntWalk.i64_in _ (by omega)
      have hle : (j : Int) + 1 ≤ (n : Int) := by omega
      clear HA hb
      go_wp2
      go_round
      case rel => exact ⟨j + 1, _, by omega, by omega, rfl, by go_num, HS.out⟩
      case measure => simp [intOf]; omega
    · obtain rfl : j = n := by omega
      have hle : ¬ ((j : Int) + 1 ≤ (j : Int)) := by omega
      go_wp2
      go_ret
      exact ⟨ret_i64 HA.out, rfl⟩
theorem nodes9_any (A : Option Addr) (n c B : Nat) (f : List (List Int)) (w : World) (hl : f.length = n) (hn : n + total f ≤ 1048576) (h : Mat w B A f) :
    Calls Try.prog 31 #[.slice A n c] w fun e w' => e = .returned (.int .i64 ((total f : Nat) : Int)) ∧ w = w' := by
  have HL := Lib.hid hl
  have HT := Lib.hid hn
  clear hl hn
  go_enter Try.func31, Try.ntmps31
  go_wp2_with fail
  go_loop [3, 4] (fun v i => ∃ j : Nat, j ≤ n ∧ v = .int .i64 ((total (f.take j) : Nat) : Int) ∧ i = .int .i64 j) (fun _ i => n - (intOf i).toNat)
  case atStart => exact ⟨0, Nat.zero_le _, rfl, rfl⟩
  case round =>
    obtain ⟨j, hj, rfl, rfl⟩ := hrel
    have ht := total_le f j
    have hT := HT.out
    by_cases hlt : j < n
    · obtain ⟨r, hr⟩ := at_lt (show j < f.length by rw [HL.out]; exact hlt)
      obtain ⟨b, o, Ak, ck, rfl, _, hc, _, _, _⟩ := h j r hr
      have ht2 := total_le f (j + 1)
      have HS := Lib.hid (total_take hr)
      have hS := total_take hr
      rw [hS] at ht2
      clear hr hS
      go_wp2
      go_round
      case rel => exact ⟨j + 1, by omega, by rw [HS.out]; push_cast; rfl, by go_num⟩
      case measure => simp [intOf]; omega
    · obtain rfl : j = n := by omega
      have e : f.take j = f := List.take_of_length_le (by rw [HL.out]; exact Nat.le_refl _)
      rw [e]
      clear e
      go_wp2
      go_ret
      exact ⟨rfl, rfl⟩

set_option maxHeartbeats 16000000 in
theorem walk (w : World) (a0 : Option Addr) (len0 cap0 : Nat) (z0 : List Int) (w0 : IsRow .u8 w a0 len0 cap0 z0) : Calls Try.prog 5 #[.slice a0 len0 cap0] w fun e w' => e = .returned (.bool true) ∧ Below w.heap.size w w' := by
  have hcode := isCode_of w0
  have hcm := w0.2.2.1
  have hlc := w0.2.1
  unfold maxLen at hcm
  have HX := Lib.hid hcode
  clear hcode w0
  by_cases hn : len0 ≤ 4096
  · have t0 : decide ((4096 : Int) < len0) = false := decide_eq_false (by omega)
    go_enter Try.func5, Try.ntmps5
    go_wp2_with fail
    refine (big_any _ _ _ _ (by omega)).mono ?_
    rintro e w' ⟨rfl, rfl⟩
    go_wp2_with fail
    refine (drawCompareTrees_any _ _ _ _ _ hn HX.out).mono ?_
    rintro e w' ⟨AS, cS, n, AT, cT, nt, s, t, rfl, ⟨ls, lt⟩, ⟨hns, hnt⟩, ⟨kS, kT⟩, rs, rt, b1⟩
    have RS := Lib.hid (show Lst w' AS s from rs)
    have RT := Lib.hid (show Lst w' AT t from rt)
    have B := Lib.hid b1
    have ES := Lib.hid ls
    have ET := Lib.hid lt
    clear rs rt b1 ls lt
    obtain ⟨o, c, ho⟩ : ∃ o c : Int, cmpA s t = (o, c) := ⟨_, _, rfl⟩
    have HO := Lib.hid ho
    have zc : (c != c) = false := bne_f rfl
    have zo : (o != o) = false := bne_f rfl
    go_wp2_with fail
    refine (pCompareTrees_L AS AT n nt cS cT _ _ s t _ ES.out ET.out (by omega) (by omega) (Nat.le_refl _) (Nat.le_refl _) RS.out RT.out kS kT).mono ?_
    rintro e w' hN
    obtain ⟨rfl, y⟩ := resI_out hN HO.out
    replace RS := Lib.hid (RS.out.next y)
    replace RT := Lib.hid (RT.out.next y)
    replace B := Lib.hid (below_step B.out B.out.size y)
    clear hN y
    go_wp2_with fail
    refine (sCompareTrees_L AS AT n nt cS cT _ _ s t _ ES.out ET.out (by omega) (by omega) (Nat.le_refl _) (Nat.le_refl _) RS.out RT.out).mono ?_
    rintro e w' hN
    obtain ⟨rfl, y⟩ := resI_out hN HO.out
    replace RS := Lib.hid (RS.out.next y)
    replace RT := Lib.hid (RT.out.next y)
    replace B := Lib.hid (below_step B.out B.out.size y)
    clear hN y
    obtain ⟨bs, hbs⟩ : ∃ bs, bs = Tr.isLv s := ⟨_, rfl⟩
    obtain ⟨bt, hbt⟩ : ∃ bt, bt = Tr.isLv t := ⟨_, rfl⟩
    have HBS := Lib.hid hbs
    have HBT := Lib.hid hbt
    have zbs : (bs != bs) = false := by cases bs <;> rfl
    have zbt : (bt != bt) = false := by cases bt <;> rfl
    clear hbs hbt ho
    go_wp2_with fail
    refine (isLevels_any AS n _ _ s _ ES.out (by omega) RS.out).mono ?_
    rintro e w9 ⟨rfl, m9, rfl⟩
    replace RS := Lib.hid (RS.out.drew m9)
    replace RT := Lib.hid (RT.out.drew m9)
    replace B := Lib.hid (below_drewN B.out m9)
    generalize World.drewN w' m9 = w' at *
    rw [← HBS.out]
    go_wp2_with fail
    refine (sIsLevels_L AS n _ _ s _ ES.out (by omega) (Nat.le_refl _) RS.out).mono ?_
    rintro e w' ⟨rfl, y⟩
    replace RS := Lib.hid (RS.out.next y)
    replace RT := Lib.hid (RT.out.next y)
    replace B := Lib.hid (below_step B.out B.out.size y)
    clear y
    rw [← HBS.out]
    go_wp2_with fail
    refine (isLevels_any AT nt _ _ t _ ET.out (by omega) RT.out).mono ?_
    rintro e w9 ⟨rfl, m9, rfl⟩
    replace RS := Lib.hid (RS.out.drew m9)
    replace RT := Lib.hid (RT.out.drew m9)
    replace B := Lib.hid (below_drewN B.out m9)
    generalize World.drewN w' m9 = w' at *
    rw [← HBT.out]
    go_wp2_with fail
    refine (sIsLevels_L AT nt _ _ t _ ET.out (by omega) (Nat.le_refl _) RT.out).mono ?_
    rintro e w' ⟨rfl, y⟩
    replace RS := Lib.hid (RS.out.next y)
    replace RT := Lib.hid (RT.out.next y)
    replace B := Lib.hid (below_step B.out B.out.size y)
    clear y
    rw [← HBT.out]
    go_wp2_with fail
    refine (isLevels_any AS n _ _ s _ ES.out (by omega) RS.out).mono ?_
    rintro e w9 ⟨rfl, m9, rfl⟩
    replace RS := Lib.hid (RS.out.drew m9)
    replace RT := Lib.hid (RT.out.drew m9)
    replace B := Lib.hid (below_drewN B.out m9)
    generalize World.drewN w' m9 = w' at *
    rw [← HBS.out]
    cases bs
    · have F1 := Lib.hid (canA_no HBS.out.symm)
      go_wp2_with fail
      refine (pCanonicalTree_L AS n cS _ s _ ES.out (by omega) (Nat.le_refl _) RS.out kS).mono ?_
      rintro e w' hN
      obtain ⟨AX, cX, rfl, rX, kX, y⟩ := resL_out hN F1.out
      replace RS := Lib.hid (RS.out.next y)
      replace RT := Lib.hid (RT.out.next y)
      replace B := Lib.hid (below_step B.out B.out.size y)
      have RX := Lib.hid rX
      clear hN rX y
      go_wp2
      go_ret
      exact ⟨rfl, B.out⟩
    · obtain ⟨u, f, x, i, a, b, d, f1, f2, f3, f4, f5, f6, f7, f8, f9, f10, f11, f12, f13, ⟨f14, f15⟩, f16, f17, f18, f19, f20, f21, f22, ⟨f23, f24⟩, ⟨f25, f26⟩, ⟨f27, f28⟩, ⟨f29, f30⟩, f31, f32⟩ := trees_facts HBS.out.symm
      rw [ES.out] at f4 f5 f10 f32
      obtain ⟨fl, hfl⟩ : ∃ fl, fl = f.length := ⟨_, rfl⟩
      rw [← hfl] at f11
      obtain ⟨e, he⟩ : ∃ e, e = eqL s u := ⟨_, rfl⟩
      rw [← he] at f6
      have n1 : 1 ≤ n := by omega
      have htot : ((total f : Nat) : Int) = (n : Int) - 1 := by omega
      obtain ⟨N, hN9⟩ : ∃ N : Int, N = ((total f : Nat) : Int) := ⟨_, rfl⟩
      rw [← hN9] at htot
      have HTOT := Lib.hid hN9
      have zN := bne_f htot
      have hcap : fl + total f ≤ 1048576 := by omega
      have HCAP := Lib.hid hcap
      obtain ⟨fa, hfa⟩ : ∃ fa, fa = factN n := ⟨_, rfl⟩
      rw [← hfa] at f32
      have F1 := Lib.hid f1
      have F2 := Lib.hid f2
      have F3 := Lib.hid f3
      have F4 := Lib.hid f4.symm
      have F6 := Lib.hid f6
      have F7 := Lib.hid f7
      have F8 := Lib.hid f8
      have F9 := Lib.hid f9
      have F12 := Lib.hid f12
      have F13 := Lib.hid f13
      have F16 := Lib.hid f16
      have F17 := Lib.hid f17
      have F18 := Lib.hid f18
      have F20 := Lib.hid f20
      have F21 := Lib.hid f21
      have F22 := Lib.hid f22
      have HFL := Lib.hid hfl
      have HE := Lib.hid he
      have HFA := Lib.hid hfa
      have uu : eqL u u = true := eqL_self u
      have UU := Lib.hid uu
      have ze : (e != e) = false := by cases e <;> rfl
      have zn : ((n : Int) != (n : Int)) = false := bne_f rfl
      have hw1 : IntKind.i64.wrap (d * a) = d * a := IntWalk.i64_in _ (by omega)
      have hwf : fa ≤ 40320 := by rw [hfa]; exact (factN_small n f5).2
      have hwf0 : 1 ≤ fa := by rw [hfa]; exact (factN_small n f5).1
      have hw2 : IntKind.i64.wrap (d * a * b) = d * a * b := IntWalk.i64_in _ (by rw [f32]; omega)
      have zf := beq_t f32
      clear f1 f2 f3 f4 f6 f7 f8 f9 f10 f12 f13 f16 f17 f18 f20 f21 f22 f32 hfl he hN9 htot hcap hfa uu
      go_wp2_with fail
      refine (pCanonicalTree_L AS n cS _ s _ ES.out (by omega) (Nat.le_refl _) RS.out kS).mono ?_
      rintro e w' hN
      obtain ⟨AU, cU, rfl, rU, kU, y⟩ := resL_out hN F1.out
      rw [← F4.out] at kU ⊢
      replace RS := Lib.hid (RS.out.next y)
      replace RT := Lib.hid (RT.out.next y)
      replace B := Lib.hid (below_step B.out B.out.size y)
      have RU := Lib.hid rU
      clear hN rU y
      go_wp2_with fail
      refine (pCanonicalTree_L AU n cU _ u _ F4.out.symm (by omega) (Nat.le_refl _) RU.out kU).mono ?_
      rintro e w' hN
      obtain ⟨AV, cV, rfl, rV, kV, y⟩ := resL_out hN F2.out
      rw [← F4.out] at kV ⊢
      replace RS := Lib.hid (RS.out.next y)
      replace RT := Lib.hid (RT.out.next y)
      replace RU := Lib.hid (RU.out.next y)
      replace B := Lib.hid (below_step B.out B.out.size y)
      have RV := Lib.hid rV
      clear hN rV y
      go_wp2_with fail
      refine (likeInts_any _ _ n n _ _ _ _ u u _ F4.out.symm F4.out.symm (by omega) (by omega) RU.out RV.out).mono ?_
      rintro e w9 ⟨rfl, m9, rfl⟩
      replace RS := Lib.hid (RS.out.drew m9)
      replace RT := Lib.hid (RT.out.drew m9)
      replace RU := Lib.hid (RU.out.drew m9)
      replace RV := Lib.hid (RV.out.drew m9)
      replace B := Lib.hid (below_drewN B.out m9)
      generalize World.drewN w' m9 = w' at *
      rw [UU.out]
      clear RV
      go_wp2_with fail
      refine (isTree_any AU n cU _ u _ F4.out.symm (by omega) kU (Nat.le_refl _) RU.out).mono ?_
      rintro e w' ⟨rfl, y⟩
      replace RS := Lib.hid (RS.out.next y)
      replace RT := Lib.hid (RT.out.next y)
      replace RU := Lib.hid (RU.out.next y)
      replace B := Lib.hid (below_step B.out B.out.size y)
      clear y
      rw [F3.out]
      go_wp2_with fail
      refine (isTree_any AS n cS _ s _ ES.out (by omega) kS (Nat.le_refl _) RS.out).mono ?_
      rintro e w' ⟨rfl, y⟩
      replace RS := Lib.hid (RS.out.next y)
      replace RT := Lib.hid (RT.out.next y)
      replace RU := Lib.hid (RU.out.next y)
      replace B := Lib.hid (below_step B.out B.out.size y)
      clear y
      rw [F6.out]
      go_wp2_with fail
      refine (likeInts_any _ _ n n _ _ _ _ s u _ ES.out F4.out.symm (by omega) (by omega) RS.out RU.out).mono ?_
      rintro e w9 ⟨rfl, m9, rfl⟩
      replace RS := Lib.hid (RS.out.drew m9)
      replace RT := Lib.hid (RT.out.drew m9)
      replace RU := Lib.hid (RU.out.drew m9)
      replace B := Lib.hid (below_drewN B.out m9)
      generalize World.drewN w' m9 = w' at *
      rw [← HE.out]
      by_cases hc0 : c = 0
      · obtain ⟨hlt, e0⟩ : Tr.isLv t = true ∧ eqL (Tr.can s) (Tr.can t) = decide (o = 0) := by
            cases q : Tr.isLv t
            · have h9 := HO.out
              rw [cmpA_no2 q] at h9
              exact absurd (congrArg Prod.snd h9) (by simp only; omega)
            · obtain ⟨o2, q1, q2, q3⟩ := cmp_zero HBS.out.symm q
              have q4 : o2 = o := congrArg Prod.fst (q1.symm.trans HO.out)
              exact ⟨rfl, by rw [q3, q4]⟩
        rw [← F7.out] at e0
        obtain ⟨v, hv⟩ : ∃ v, v = Tr.can t := ⟨_, rfl⟩
        rw [← hv] at e0
        have FT : Hid (canA t = (v, 0)) := by rw [Hid, hv]; exact canA_yes hlt
        obtain ⟨vn, hvn⟩ : ∃ vn, vn = v.length := ⟨_, rfl⟩
        have hv8 : vn ≤ 8 := by rw [hvn, hv, (lv_txt hlt).2.2.1]; exact (lv_bd hlt).2
        obtain ⟨q, hq⟩ : ∃ q, q = decide (o = 0) := ⟨_, rfl⟩
        rw [← hq] at e0
        have E0 := Lib.hid e0
        have HVN := Lib.hid hvn
        have HQ := Lib.hid hq
        have zq : (q != q) = false := by cases q <;> rfl
        have tq : (o == 0) = q := by rw [hq]; by_cases z : o = 0 <;> simp [z]
        have tc := beq_t hc0
        clear hlt e0 hv hvn hq hc0
        go_wp2_with fail
        refine (pCanonicalTree_L AT nt cT _ t _ ET.out (by omega) (Nat.le_refl _) RT.out kT).mono ?_
        rintro e w' hN
        obtain ⟨AQ, cQ, rfl, rQ, kQ, y⟩ := resL_out hN FT.out
        rw [← HVN.out] at kQ ⊢
        replace RS := Lib.hid (RS.out.next y)
        replace RT := Lib.hid (RT.out.next y)
        replace RU := Lib.hid (RU.out.next y)
        replace B := Lib.hid (below_step B.out B.out.size y)
        have RQ := Lib.hid rQ
        clear hN rQ y
        go_wp2_with fail
        refine (likeInts_any _ _ n vn _ _ _ _ u v _ F4.out.symm HVN.out.symm (by omega) (by omega) RU.out RQ.out).mono ?_
        rintro e w9 ⟨rfl, m9, rfl⟩
        replace RS := Lib.hid (RS.out.drew m9)
        replace RT := Lib.hid (RT.out.drew m9)
        replace RU := Lib.hid (RU.out.drew m9)
        replace RQ := Lib.hid (RQ.out.drew m9)
        replace B := Lib.hid (below_drewN B.out m9)
        generalize World.drewN w' m9 = w' at *
        rw [E0.out]
        clear RQ RT
        go_wp2_with fail
        refine (pBranchesOf_L AS n cS _ s _ ES.out (by omega) (Nat.le_refl _) RS.out kS).mono ?_
        rintro e9 w' hN
        obtain ⟨AF, cF, rfl, rF, y⟩ := resM_out hN F8.out
        rw [← HFL.out]
        replace RS := Lib.hid (RS.out.next y)
        replace RU := Lib.hid (RU.out.next y)
        replace B := Lib.hid (below_step B.out B.out.size y)
        have RF := Lib.hid rF
        clear hN rF y
        go_wp2_with fail
        refine (isForest_any AF fl cF _ f _ HFL.out.symm HCAP.out (Nat.le_refl _) RF.out).mono ?_
        rintro e w' ⟨rfl, y⟩
        replace RS := Lib.hid (RS.out.next y)
        replace RU := Lib.hid (RU.out.next y)
        replace RF := Lib.hid (mat_next RF.out y)
        replace B := Lib.hid (below_step B.out B.out.size y)
        clear y
        rw [F9.out]
        go_wp2_with fail
        refine (nodes9_any AF fl cF _ f _ HFL.out.symm HCAP.out RF.out).mono ?_
        rintro e9 w9 ⟨rfl, rfl⟩
        rw [← HTOT.out]
        go_wp2_with fail
        refine (pRootOn_L AF fl cF _ f _ HFL.out.symm HCAP.out (Nat.le_refl _) RF.out).mono ?_
        rintro e w' hN
        obtain ⟨AW, cW, rfl, rW, kW, y⟩ := resL_out hN F12.out
        rw [← F4.out] at kW ⊢
        replace RS := Lib.hid (RS.out.next y)
        replace RU := Lib.hid (RU.out.next y)
        replace RF := Lib.hid (mat_next RF.out y)
        replace B := Lib.hid (below_step B.out B.out.size y)
        have RW := Lib.hid rW
        clear hN rW y
        clear RF
        go_wp2_with fail
        refine (pIndexOf_L AS n cS _ s _ ES.out (by omega) (Nat.le_refl _) RS.out kS).mono ?_
        rintro e w' hN
        obtain ⟨rfl, y⟩ := resI_out hN F13.out
        replace RS := Lib.hid (RS.out.next y)
        replace RU := Lib.hid (RU.out.next y)
        replace RW := Lib.hid (RW.out.next y)
        replace B := Lib.hid (below_step B.out B.out.size y)
        clear hN y
        go_wp2_with fail
        refine (pTreeAt_L i _ (by omega)).mono ?_
        rintro e w' hN
        obtain ⟨AY, cY, rfl, rY, kY, y⟩ := resL_out hN F16.out
        rw [← F4.out] at kY ⊢
        replace RS := Lib.hid (RS.out.next y)
        replace RU := Lib.hid (RU.out.next y)
        replace RW := Lib.hid (RW.out.next y)
        replace B := Lib.hid (below_step B.out B.out.size y)
        have RY := Lib.hid rY
        clear hN rY y
        go_wp2_with fail
        refine (pTreeText_L AS n cS _ s _ ES.out (by omega) (Nat.le_refl _) RS.out kS).mono ?_
        rintro e9 w' hN
        obtain ⟨rfl, y⟩ := resS_out hN F17.out
        replace RS := Lib.hid (RS.out.next y)
        replace RU := Lib.hid (RU.out.next y)
        replace RW := Lib.hid (RW.out.next y)
        replace RY := Lib.hid (RY.out.next y)
        replace B := Lib.hid (below_step B.out B.out.size y)
        clear hN y
        go_wp2_with fail
        refine (pParseTree_L ⟨x.toArray⟩ _ (by show x.toArray.size ≤ 1048576; simp; omega)).mono ?_
        rintro e w' hN
        obtain ⟨AZ, cZ, rfl, rZ, kZ, y⟩ := resL_out hN F18.out
        rw [← F4.out] at kZ ⊢
        replace RS := Lib.hid (RS.out.next y)
        replace RU := Lib.hid (RU.out.next y)
        replace RW := Lib.hid (RW.out.next y)
        replace RY := Lib.hid (RY.out.next y)
        replace B := Lib.hid (below_step B.out B.out.size y)
        have RZ := Lib.hid rZ
        clear hN rZ y
        go_wp2_with fail
        refine (likeInts_any _ _ n n _ _ _ _ u u _ F4.out.symm F4.out.symm (by omega) (by omega) RW.out RU.out).mono ?_
        rintro e w9 ⟨rfl, m9, rfl⟩
        replace RS := Lib.hid (RS.out.drew m9)
        replace RU := Lib.hid (RU.out.drew m9)
        replace RW := Lib.hid (RW.out.drew m9)
        replace RY := Lib.hid (RY.out.drew m9)
        replace RZ := Lib.hid (RZ.out.drew m9)
        replace B := Lib.hid (below_drewN B.out m9)
        generalize World.drewN w' m9 = w' at *
        rw [UU.out]
        clear RW
        go_wp2_with fail
        refine (likeInts_any _ _ n n _ _ _ _ u u _ F4.out.symm F4.out.symm (by omega) (by omega) RY.out RU.out).mono ?_
        rintro e w9 ⟨rfl, m9, rfl⟩
        replace RS := Lib.hid (RS.out.drew m9)
        replace RU := Lib.hid (RU.out.drew m9)
        replace RY := Lib.hid (RY.out.drew m9)
        replace RZ := Lib.hid (RZ.out.drew m9)
        replace B := Lib.hid (below_drewN B.out m9)
        generalize World.drewN w' m9 = w' at *
        rw [UU.out]
        clear RY
        go_wp2_with fail
        refine (likeInts_any _ _ n n _ _ _ _ u u _ F4.out.symm F4.out.symm (by omega) (by omega) RZ.out RU.out).mono ?_
        rintro e w9 ⟨rfl, m9, rfl⟩
        replace RS := Lib.hid (RS.out.drew m9)
        replace RU := Lib.hid (RU.out.drew m9)
        replace RZ := Lib.hid (RZ.out.drew m9)
        replace B := Lib.hid (below_drewN B.out m9)
        generalize World.drewN w' m9 = w' at *
        rw [UU.out]
        clear RZ
        go_wp2_with fail
        refine (pSymmetryOf_L AS n cS _ s _ ES.out (by omega) (Nat.le_refl _) RS.out kS).mono ?_
        rintro e w' hN
        obtain ⟨rfl, y⟩ := resI_out hN F20.out
        replace RS := Lib.hid (RS.out.next y)
        replace RU := Lib.hid (RU.out.next y)
        replace B := Lib.hid (below_step B.out B.out.size y)
        clear hN y
        go_wp2_with fail
        refine (pDensityOf_L AS n cS _ s _ ES.out (by omega) (Nat.le_refl _) RS.out kS).mono ?_
        rintro e w' hN
        obtain ⟨rfl, y⟩ := resI_out hN F21.out
        replace RS := Lib.hid (RS.out.next y)
        replace RU := Lib.hid (RU.out.next y)
        replace B := Lib.hid (below_step B.out B.out.size y)
        clear hN y
        go_wp2_with fail
        refine (pLabellingsOf_L AS n cS _ s _ ES.out (by omega) (Nat.le_refl _) RS.out kS).mono ?_
        rintro e w' hN
        obtain ⟨rfl, y⟩ := resI_out hN F22.out
        replace RS := Lib.hid (RS.out.next y)
        replace RU := Lib.hid (RU.out.next y)
        replace B := Lib.hid (below_step B.out B.out.size y)
        clear hN y
        clear RS RU
        go_wp2_with fail
        refine (fact9_any n _ n1 f5).mono ?_
        rintro e9 w9 ⟨rfl, rfl⟩
        rw [← HFA.out]
        go_wp2
        go_ret
        exact ⟨rfl, B.out⟩
      · have tc := beq_f hc0
        clear hc0
        clear RT
        go_wp2_with fail
        refine (pBranchesOf_L AS n cS _ s _ ES.out (by omega) (Nat.le_refl _) RS.out kS).mono ?_
        rintro e9 w' hN
        obtain ⟨AF, cF, rfl, rF, y⟩ := resM_out hN F8.out
        rw [← HFL.out]
        replace RS := Lib.hid (RS.out.next y)
        replace RU := Lib.hid (RU.out.next y)
        replace B := Lib.hid (below_step B.out B.out.size y)
        have RF := Lib.hid rF
        clear hN rF y
        go_wp2_with fail
        refine (isForest_any AF fl cF _ f _ HFL.out.symm HCAP.out (Nat.le_refl _) RF.out).mono ?_
        rintro e w' ⟨rfl, y⟩
        replace RS := Lib.hid (RS.out.next y)
        replace RU := Lib.hid (RU.out.next y)
        replace RF := Lib.hid (mat_next RF.out y)
        replace B := Lib.hid (below_step B.out B.out.size y)
        clear y
        rw [F9.out]
        go_wp2_with fail
        refine (nodes9_any AF fl cF _ f _ HFL.out.symm HCAP.out RF.out).mono ?_
        rintro e9 w9 ⟨rfl, rfl⟩
        rw [← HTOT.out]
        go_wp2_with fail
        refine (pRootOn_L AF fl cF _ f _ HFL.out.symm HCAP.out (Nat.le_refl _) RF.out).mono ?_
        rintro e w' hN
        obtain ⟨AW, cW, rfl, rW, kW, y⟩ := resL_out hN F12.out
        rw [← F4.out] at kW ⊢
        replace RS := Lib.hid (RS.out.next y)
        replace RU := Lib.hid (RU.out.next y)
        replace RF := Lib.hid (mat_next RF.out y)
        replace B := Lib.hid (below_step B.out B.out.size y)
        have RW := Lib.hid rW
        clear hN rW y
        clear RF
        go_wp2_with fail
        refine (pIndexOf_L AS n cS _ s _ ES.out (by omega) (Nat.le_refl _) RS.out kS).mono ?_
        rintro e w' hN
        obtain ⟨rfl, y⟩ := resI_out hN F13.out
        replace RS := Lib.hid (RS.out.next y)
        replace RU := Lib.hid (RU.out.next y)
        replace RW := Lib.hid (RW.out.next y)
        replace B := Lib.hid (below_step B.out B.out.size y)
        clear hN y
        go_wp2_with fail
        refine (pTreeAt_L i _ (by omega)).mono ?_
        rintro e w' hN
        obtain ⟨AY, cY, rfl, rY, kY, y⟩ := resL_out hN F16.out
        rw [← F4.out] at kY ⊢
        replace RS := Lib.hid (RS.out.next y)
        replace RU := Lib.hid (RU.out.next y)
        replace RW := Lib.hid (RW.out.next y)
        replace B := Lib.hid (below_step B.out B.out.size y)
        have RY := Lib.hid rY
        clear hN rY y
        go_wp2_with fail
        refine (pTreeText_L AS n cS _ s _ ES.out (by omega) (Nat.le_refl _) RS.out kS).mono ?_
        rintro e9 w' hN
        obtain ⟨rfl, y⟩ := resS_out hN F17.out
        replace RS := Lib.hid (RS.out.next y)
        replace RU := Lib.hid (RU.out.next y)
        replace RW := Lib.hid (RW.out.next y)
        replace RY := Lib.hid (RY.out.next y)
        replace B := Lib.hid (below_step B.out B.out.size y)
        clear hN y
        go_wp2_with fail
        refine (pParseTree_L ⟨x.toArray⟩ _ (by show x.toArray.size ≤ 1048576; simp; omega)).mono ?_
        rintro e w' hN
        obtain ⟨AZ, cZ, rfl, rZ, kZ, y⟩ := resL_out hN F18.out
        rw [← F4.out] at kZ ⊢
        replace RS := Lib.hid (RS.out.next y)
        replace RU := Lib.hid (RU.out.next y)
        replace RW := Lib.hid (RW.out.next y)
        replace RY := Lib.hid (RY.out.next y)
        replace B := Lib.hid (below_step B.out B.out.size y)
        have RZ := Lib.hid rZ
        clear hN rZ y
        go_wp2_with fail
        refine (likeInts_any _ _ n n _ _ _ _ u u _ F4.out.symm F4.out.symm (by omega) (by omega) RW.out RU.out).mono ?_
        rintro e w9 ⟨rfl, m9, rfl⟩
        replace RS := Lib.hid (RS.out.drew m9)
        replace RU := Lib.hid (RU.out.drew m9)
        replace RW := Lib.hid (RW.out.drew m9)
        replace RY := Lib.hid (RY.out.drew m9)
        replace RZ := Lib.hid (RZ.out.drew m9)
        replace B := Lib.hid (below_drewN B.out m9)
        generalize World.drewN w' m9 = w' at *
        rw [UU.out]
        clear RW
        go_wp2_with fail
        refine (likeInts_any _ _ n n _ _ _ _ u u _ F4.out.symm F4.out.symm (by omega) (by omega) RY.out RU.out).mono ?_
        rintro e w9 ⟨rfl, m9, rfl⟩
        replace RS := Lib.hid (RS.out.drew m9)
        replace RU := Lib.hid (RU.out.drew m9)
        replace RY := Lib.hid (RY.out.drew m9)
        replace RZ := Lib.hid (RZ.out.drew m9)
        replace B := Lib.hid (below_drewN B.out m9)
        generalize World.drewN w' m9 = w' at *
        rw [UU.out]
        clear RY
        go_wp2_with fail
        refine (likeInts_any _ _ n n _ _ _ _ u u _ F4.out.symm F4.out.symm (by omega) (by omega) RZ.out RU.out).mono ?_
        rintro e w9 ⟨rfl, m9, rfl⟩
        replace RS := Lib.hid (RS.out.drew m9)
        replace RU := Lib.hid (RU.out.drew m9)
        replace RZ := Lib.hid (RZ.out.drew m9)
        replace B := Lib.hid (below_drewN B.out m9)
        generalize World.drewN w' m9 = w' at *
        rw [UU.out]
        clear RZ
        go_wp2_with fail
        refine (pSymmetryOf_L AS n cS _ s _ ES.out (by omega) (Nat.le_refl _) RS.out kS).mono ?_
        rintro e w' hN
        obtain ⟨rfl, y⟩ := resI_out hN F20.out
        replace RS := Lib.hid (RS.out.next y)
        replace RU := Lib.hid (RU.out.next y)
        replace B := Lib.hid (below_step B.out B.out.size y)
        clear hN y
        go_wp2_with fail
        refine (pDensityOf_L AS n cS _ s _ ES.out (by omega) (Nat.le_refl _) RS.out kS).mono ?_
        rintro e w' hN
        obtain ⟨rfl, y⟩ := resI_out hN F21.out
        replace RS := Lib.hid (RS.out.next y)
        replace RU := Lib.hid (RU.out.next y)
        replace B := Lib.hid (below_step B.out B.out.size y)
        clear hN y
        go_wp2_with fail
        refine (pLabellingsOf_L AS n cS _ s _ ES.out (by omega) (Nat.le_refl _) RS.out kS).mono ?_
        rintro e w' hN
        obtain ⟨rfl, y⟩ := resI_out hN F22.out
        replace RS := Lib.hid (RS.out.next y)
        replace RU := Lib.hid (RU.out.next y)
        replace B := Lib.hid (below_step B.out B.out.size y)
        clear hN y
        clear RS RU
        go_wp2_with fail
        refine (fact9_any n _ n1 f5).mono ?_
        rintro e9 w9 ⟨rfl, rfl⟩
        rw [← HFA.out]
        go_wp2
        go_ret
        exact ⟨rfl, B.out⟩
  · have t0 : decide ((4096 : Int) < len0) = true := decide_eq_true (by omega)
    go_enter Try.func5, Try.ntmps5
    go_wp2_with fail
    refine (big_any _ _ _ _ (by omega)).mono ?_
    rintro e w' ⟨rfl, rfl⟩
    go_wp2
    go_ret
    exact ⟨rfl, Below.refl _ _⟩
/-- the statement -/
theorem holds : Rows.FnTreesSaid := of_walk walk
end Go.Proofs.Ytjmjdcfgbaepkaa.fnTrees
