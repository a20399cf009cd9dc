/-
  PROVED: for every code the law FnForests returns true: products of forests don't depend on the order, are read back from their texts, and are what ForestOf makes of all the trees; texts that are read are written again.
  CONDITIONS: none; every slice of bytes.
-/
import Derived.Test.YtignimaimflenaaUF1
import Derived.Test.YtignimaimflenaaFFnForests
namespace Go.Proofs.Ytignimaimflenaa.fnForests
open Go.ChangeShapes Go.WideShapes Go.ChangeAt Go.RowKit Fld
set_option linter.unusedVariables false
set_option linter.unusedSimpArgs false
set_option maxRecDepth 100000

theorem mat_next {w w' : World} {A : Option Addr} {m : List (List Int)} (h : Mat w w.heap.size A m) (b : Below w.heap.size w w') : Mat w' w'.heap.size A m := (h.below b (Nat.le_refl _)).more b.size
theorem resM_out {m : List (List Int)} {k : Int} {r : List (List Int) × Int} {w w' : World} {e : Ending} (h : ResM r w e w') (hr : r = (m, k)) : ∃ A c, e = .returned (.tuple #[.slice A m.length c, .int .i64 k]) ∧ Mat w' w'.heap.size A m ∧ Below w.heap.size w w' := by
  subst hr
  obtain ⟨_, A, c, vs, rfl, o1, hb⟩ := h
  exact ⟨A, c, rfl, o1.mat, hb⟩
theorem resN_out {m : List (List Int)} {k : Int} {r : List (List Int) × Int} {w w' : World} {e : Ending} (h : ResMl r w e w') (hr : r = (m, k)) : ∃ A c, e = .returned (.tuple #[.slice A m.length c, .int .i64 k]) ∧ Below w.heap.size w w' := by
  subst hr
  obtain ⟨_, A, c, rfl, _, hb⟩ := h
  exact ⟨A, c, rfl, hb⟩
theorem resS_out {x : List UInt8} {k : Int} {r : List UInt8 × Int} {w w' : World} {e : Ending} (h : ResS r w e w') (hr : r = (x, k)) : e = .returned (.tuple #[.string ⟨x.toArray⟩, .int .i64 k]) ∧ Below w.heap.size w w' := by
  subst hr; exact h
theorem isCode_next {w w' : World} {A : Option Addr} {n : Nat} {xs : List Int} (h : IsCode w A n xs) (b : Below w.heap.size w w') : IsCode w' A n xs := ⟨h.1, (h.2.1.below b (Nat.le_refl _)).more b.size, h.2.2⟩
theorem parse_mk (l : List UInt8) : parseFA ⟨l.toArray⟩ = parseFB l := by unfold parseFA; simp

set_option maxHeartbeats 16000000 in
theorem walk (w : World) (a0 : Option Addr) (len0 cap0 : Nat) (z0 : List Int) (w0 : IsRow .u8 w a0 len0 cap0 z0) : Calls Try.prog 12 #[.slice a0 len0 cap0] w fun e w' => e = .returned (.bool true) ∧ Below w.heap.size w w' := by
  have hcode := isCode_of w0
  have hcm := w0.2.2.1
  have hlc := w0.2.1
  unfold maxLen at hcm
  have HX := Lib.hid hcode
  clear hcode w0
  obtain ⟨j0, hj, hy0, hy1, hy2⟩ := info_parts info_row
  by_cases hn : len0 ≤ 4096
  · have t0 : decide ((4096 : Int) < len0) = false := decide_eq_false (by omega)
    go_enter Try.func12, Try.ntmps12
    go_wp2_with fail
    refine (big_any _ _ _ _ (by omega)).mono ?_
    rintro e w' ⟨rfl, rfl⟩
    go_wp2_with fail
    refine (drawTimesForests_any _ _ _ _ _ hn HX.out).mono ?_
    rintro e w' ⟨AF, cF, n, AG, cG, m, f, g, rfl, ⟨lf, lg⟩, ⟨n6, m6⟩, ⟨kF, kG⟩, ⟨⟨bF, oF, rfl⟩, ⟨bG, oG, rfl⟩⟩, ⟨tF, tG⟩, rf, rg, b1⟩
    have RF := Lib.hid rf
    have RG := Lib.hid rg
    have B := Lib.hid b1
    have EF := Lib.hid lf
    have EG := Lib.hid lg
    have TF : Hid (n + total f ≤ 1048576) := by rw [Hid]; omega
    have TG : Hid (m + total g ≤ 1048576) := by rw [Hid]; omega
    clear rf rg b1 lf lg
    obtain ⟨bf, hbf⟩ : ∃ bf, bf = isFor f := ⟨_, rfl⟩
    have HBF := Lib.hid hbf
    have zbf : (bf != bf) = false := by cases bf <;> rfl
    clear hbf
    rcases times_cases f g with ⟨k, hk, f1⟩ | ⟨p, f1, f2, f3, f4, f5, f6, f7, f8, f9⟩
    · have F1 := Lib.hid f1
      have zk : (k != k) = false := bne_f rfl
      have zk2 : (k == 0) = false := beq_f hk
      clear f1 hk
      go_wp2_with fail
      refine (pTimesForests_L (some ⟨bF, oF, none⟩) (some ⟨bG, oG, none⟩) n m cF cG _ _ f g _ EF.out EG.out TF.out TG.out (Nat.le_refl _) (Nat.le_refl _) RF.out.mat RG.out.mat).mono ?_
      rintro e w' hN
      obtain ⟨AP, cP, rfl, rP, y⟩ := resM_out hN F1.out
      replace RF := Lib.hid (RF.out.next y)
      replace RG := Lib.hid (RG.out.next y)
      replace B := Lib.hid (below_step B.out B.out.size y)
      have RP := Lib.hid rP
      clear hN rP y
      go_wp2_with fail
      refine (sTimesForests_L (some ⟨bF, oF, none⟩) (some ⟨bG, oG, none⟩) n m cF cG _ _ f g _ EF.out EG.out TF.out TG.out (Nat.le_refl _) (Nat.le_refl _) RF.out.mat RG.out.mat (fun e => by cases e)).mono ?_
      rintro e w' hN
      obtain ⟨Az, cz, rfl, y⟩ := resN_out hN F1.out
      replace RF := Lib.hid (RF.out.next y)
      replace RG := Lib.hid (RG.out.next y)
      replace RP := Lib.hid (mat_next RP.out y)
      replace B := Lib.hid (below_step B.out B.out.size y)
      clear hN y
      go_wp2_with fail
      refine (isForest_any (some ⟨bF, oF, none⟩) n cF _ f _ EF.out TF.out (Nat.le_refl _) RF.out.mat).mono ?_
      rintro e w' ⟨rfl, y⟩
      replace RF := Lib.hid (RF.out.next y)
      replace RG := Lib.hid (RG.out.next y)
      replace RP := Lib.hid (mat_next RP.out y)
      replace B := Lib.hid (below_step B.out B.out.size y)
      clear y
      rw [← HBF.out]
      go_wp2_with fail
      refine (sIsForest_L (some ⟨bF, oF, none⟩) n cF _ f _ EF.out TF.out (Nat.le_refl _) RF.out.mat).mono ?_
      rintro e w' ⟨rfl, y⟩
      replace RF := Lib.hid (RF.out.next y)
      replace RG := Lib.hid (RG.out.next y)
      replace RP := Lib.hid (mat_next RP.out y)
      replace B := Lib.hid (below_step B.out B.out.size y)
      clear y
      rw [← HBF.out]
      clear RP RF RG
      skip
      have HX2 := Lib.hid (isCode_next HX.out B.out)
      go_wp2_with fail
      refine (drawParseForest_any _ _ _ _ _ hn HX2.out).mono ?_
      rintro e w' ⟨u, rfl, hu, y⟩
      replace B := Lib.hid (below_step B.out B.out.size y)
      clear y HX2
      rcases parse_cases u with ⟨k5, hk5, g1⟩ | ⟨h, g1, g2, g3⟩
      · have G1 : Hid (parseFA ⟨u.toArray⟩ = ([], k5)) := by rw [Hid, parse_mk]; exact g1
        have hS : (⟨u.toArray⟩ : ByteArray).size ≤ 1048576 := by rw [size_S]; omega
        obtain ⟨X, hX⟩ : ∃ X : ByteArray, X = ⟨u.toArray⟩ := ⟨_, rfl⟩
        rw [← hX] at G1 hS ⊢
        have HXX := Lib.hid hX
        clear g1 hX
        have z5 : (k5 != 0) = true := bne_t hk5
        have z6 : (k5 != k5) = false := bne_f rfl
        clear hk5
        go_wp2_with fail
        refine (pParseForest_L X _ hS).mono ?_
        rintro e w' hN
        obtain ⟨AH, cH, rfl, rH, y⟩ := resM_out hN G1.out
        replace B := Lib.hid (below_step B.out B.out.size y)
        have RH := Lib.hid rH
        clear hN rH y
        go_wp2_with fail
        refine (sParseForest_L X _ hS).mono ?_
        rintro e w' hN
        obtain ⟨Aq, cq, rfl, rq, y⟩ := resM_out hN G1.out
        replace RH := Lib.hid (mat_next RH.out y)
        replace B := Lib.hid (below_step B.out B.out.size y)
        clear hN rq y
        clear RH
        go_wp2
        go_ret
        exact ⟨rfl, B.out⟩
      · have G1 : Hid (parseFA ⟨u.toArray⟩ = (h, 0)) := by rw [Hid, parse_mk]; exact g1
        have hS : (⟨u.toArray⟩ : ByteArray).size ≤ 1048576 := by rw [size_S]; omega
        obtain ⟨X, hX⟩ : ∃ X : ByteArray, X = ⟨u.toArray⟩ := ⟨_, rfl⟩
        rw [← hX] at G1 hS ⊢
        have HXX := Lib.hid hX
        clear g1 hX
        have HH := Lib.hid g3
        have hT := for_total g2
        have hL := len_total (f := h) (fun r hr => (lv_bd (tr_lv (for_rows g2 r hr)).1).1)
        obtain ⟨hl, hhl⟩ : ∃ hl, hl = h.length := ⟨_, rfl⟩
        have HHL := Lib.hid hhl
        have HHT : Hid (hl + total h ≤ 1048576) := by rw [Hid]; omega
        clear g2 g3 hT hL hhl
        go_wp2_with fail
        refine (pParseForest_L X _ hS).mono ?_
        rintro e w' hN
        obtain ⟨AH, cH, rfl, rH, y⟩ := resM_out hN G1.out
        rw [← HHL.out]
        replace B := Lib.hid (below_step B.out B.out.size y)
        have RH := Lib.hid rH
        clear hN rH y
        go_wp2_with fail
        refine (sParseForest_L X _ hS).mono ?_
        rintro e w' hN
        obtain ⟨Aq, cq, rfl, rq, y⟩ := resM_out hN G1.out
        replace RH := Lib.hid (mat_next RH.out y)
        replace B := Lib.hid (below_step B.out B.out.size y)
        clear hN rq y
        go_wp2_with fail
        refine (pForestText_L AH hl cH _ h _ HHL.out.symm HHT.out (Nat.le_refl _) RH.out).mono ?_
        rintro e w' hN
        obtain ⟨rfl, y⟩ := resS_out hN HH.out
        rw [← HXX.out]
        replace RH := Lib.hid (mat_next RH.out y)
        replace B := Lib.hid (below_step B.out B.out.size y)
        clear hN y
        clear RH
        go_wp2
        go_ret
        exact ⟨rfl, B.out⟩
    · have F1 := Lib.hid f1
      obtain ⟨sp, hsp⟩ : ∃ sp, sp = showA p := ⟨_, rfl⟩
      rw [← hsp] at f7 f8 f9
      clear hsp
      have F2 := Lib.hid f2
      have F3 := Lib.hid f3
      have F4 := Lib.hid f4
      have F7 := Lib.hid f7
      have F9 : Hid (parseFA ⟨sp.toArray⟩ = (p, 0)) := by rw [Hid, parse_mk]; exact f9
      have hS : (⟨sp.toArray⟩ : ByteArray).size ≤ 1048576 := by rw [size_S]; omega
      obtain ⟨X, hX⟩ : ∃ X : ByteArray, X = ⟨sp.toArray⟩ := ⟨_, rfl⟩
      rw [← hX] at F9 hS
      have HXX := Lib.hid hX
      obtain ⟨q, hq⟩ : ∃ q, q = p.length := ⟨_, rfl⟩
      rw [← hq] at f5 f6
      rw [EF.out, EG.out] at f5
      have HQ := Lib.hid hq
      have TP : Hid (q + total p ≤ 1048576) := by rw [Hid]; omega
      have TFG : Hid (n + m + total (f ++ g) ≤ 1048576) := by rw [Hid, total_app]; omega
      have EFG : Hid ((f ++ g).length = n + m) := by rw [Hid, List.length_append, EF.out, EG.out]
      have hw1 : IntKind.i64.wrap ((n : Int) + (m : Int)) = (n : Int) + (m : Int) := IntWalk.i64_in _ (by omega)
      have zq : ((q : Int) != (n : Int) + (m : Int)) = false := bne_f (by omega)
      have PP : eqM p p = true := eqM_self9 p
      have zz : ((0 : Int) != 0) = false := rfl
      clear f1 f2 f3 f4 f5 f7 f9 hX hq
      go_wp2_with fail
      refine (pTimesForests_L (some ⟨bF, oF, none⟩) (some ⟨bG, oG, none⟩) n m cF cG _ _ f g _ EF.out EG.out TF.out TG.out (Nat.le_refl _) (Nat.le_refl _) RF.out.mat RG.out.mat).mono ?_
      rintro e w' hN
      obtain ⟨AP, cP, rfl, rP, y⟩ := resM_out hN F1.out
      rw [← HQ.out]
      replace RF := Lib.hid (RF.out.next y)
      replace RG := Lib.hid (RG.out.next y)
      replace B := Lib.hid (below_step B.out B.out.size y)
      have RP := Lib.hid rP
      clear hN rP y
      go_wp2_with fail
      refine (sTimesForests_L (some ⟨bF, oF, none⟩) (some ⟨bG, oG, none⟩) n m cF cG _ _ f g _ EF.out EG.out TF.out TG.out (Nat.le_refl _) (Nat.le_refl _) RF.out.mat RG.out.mat (fun e => by cases e)).mono ?_
      rintro e w' hN
      obtain ⟨Az, cz, rfl, y⟩ := resN_out hN F1.out
      replace RF := Lib.hid (RF.out.next y)
      replace RG := Lib.hid (RG.out.next y)
      replace RP := Lib.hid (mat_next RP.out y)
      replace B := Lib.hid (below_step B.out B.out.size y)
      clear hN y
      go_wp2_with fail
      refine (isForest_any (some ⟨bF, oF, none⟩) n cF _ f _ EF.out TF.out (Nat.le_refl _) RF.out.mat).mono ?_
      rintro e w' ⟨rfl, y⟩
      replace RF := Lib.hid (RF.out.next y)
      replace RG := Lib.hid (RG.out.next y)
      replace RP := Lib.hid (mat_next RP.out y)
      replace B := Lib.hid (below_step B.out B.out.size y)
      clear y
      rw [← HBF.out]
      go_wp2_with fail
      refine (sIsForest_L (some ⟨bF, oF, none⟩) n cF _ f _ EF.out TF.out (Nat.le_refl _) RF.out.mat).mono ?_
      rintro e w' ⟨rfl, y⟩
      replace RF := Lib.hid (RF.out.next y)
      replace RG := Lib.hid (RG.out.next y)
      replace RP := Lib.hid (mat_next RP.out y)
      replace B := Lib.hid (below_step B.out B.out.size y)
      clear y
      rw [← HBF.out]
      go_wp2_with fail
      refine (pTimesForests_L (some ⟨bG, oG, none⟩) (some ⟨bF, oF, none⟩) m n cG cF _ _ g f _ EG.out EF.out TG.out TF.out (Nat.le_refl _) (Nat.le_refl _) RG.out.mat RF.out.mat).mono ?_
      rintro e w' hN
      obtain ⟨AQ, cQ, rfl, rQ, y⟩ := resM_out hN F2.out
      rw [← HQ.out]
      replace RF := Lib.hid (RF.out.next y)
      replace RG := Lib.hid (RG.out.next y)
      replace RP := Lib.hid (mat_next RP.out y)
      replace B := Lib.hid (below_step B.out B.out.size y)
      have RQ := Lib.hid rQ
      clear hN rQ y
      go_wp2_with fail
      refine (pForestText_L AP q cP _ p _ HQ.out.symm TP.out (Nat.le_refl _) RP.out).mono ?_
      rintro e w' hN
      obtain ⟨rfl, y⟩ := resS_out hN F7.out
      rw [← HXX.out]
      replace RF := Lib.hid (RF.out.next y)
      replace RG := Lib.hid (RG.out.next y)
      replace RP := Lib.hid (mat_next RP.out y)
      replace RQ := Lib.hid (mat_next RQ.out y)
      replace B := Lib.hid (below_step B.out B.out.size y)
      clear hN y
      go_wp2_with fail
      refine (pParseForest_L X _ hS).mono ?_
      rintro e w' hN
      obtain ⟨AK, cK, rfl, rK, y⟩ := resM_out hN F9.out
      rw [← HQ.out]
      replace RF := Lib.hid (RF.out.next y)
      replace RG := Lib.hid (RG.out.next y)
      replace RP := Lib.hid (mat_next RP.out y)
      replace RQ := Lib.hid (mat_next RQ.out y)
      replace B := Lib.hid (below_step B.out B.out.size y)
      have RK := Lib.hid rK
      clear hN rK y
      obtain ⟨us, fr, fv⟩ := RF.out
      obtain ⟨us2, gr, gv⟩ := RG.out
      have GU := Lib.hid fv
      have GU2 := Lib.hid gv
      have GR2 := Lib.hid gr
      have HUL : Hid (us.length = n * 1) := by rw [Hid, fv.1, EF.out, Nat.mul_one]
      have HUL2 : Hid (us2.length = m * 1) := by rw [Hid, gv.1, EG.out, Nat.mul_one]
      have HU1 : Hid (∀ u ∈ us, u.oneCell' = true) := fun u hu => Vals.one (v := u) fv u hu
      have HU2 : Hid (∀ u ∈ us2, u.oneCell' = true) := fun u hu => Vals.one (v := u) gv u hu
      have HNW : Hid (∀ q z, us[q]? = some z → (w'.alloc (.cells #[] 22)).cell? ((⟨bF, oF, none⟩ : Addr).add q) = some z) := row_news (fr.alloc (Nat.le_refl _) _)
      have own0 := (Growing.start w' 22).1
      have bel0 := (Growing.start w' 22).2
      have BZ := Lib.hid bel0
      clear fr fv gr gv
      go_wp2_with (at_builtin; first | (refine wpList_append_own _ rfl (.tmp 72) (.tmp 73) 37 rfl w'.heap.size 22 j0 _ 1 24 Try.underlying37 hj hy0 hy1 hy2 rfl (by omega) (.slice (some ⟨w'.heap.size, 0, none⟩) 0 0) 0 [] rfl own0 ⟨bF, oF, none⟩ n cF us rfl HUL.out HNW.out HU1.out (by simp only [maxLen]; omega) (by omega) (by simp) ?_; intro v5 w5 own5 hgrow5 _; obtain ⟨A5, c5, rfl⟩ := own_shape' own5; have BL5 : Hid (Below w'.heap.size w' w5) := BZ.out.grown hgrow5 (by simp) (fun z hz => (own0.lt z hz).1); rw [Nat.zero_add, List.nil_append] at own5; have OW5 := Lib.hid own5; have HNW2 : Hid (∀ q z, us2[q]? = some z → w5.cell? ((⟨bG, oG, none⟩ : Addr).add q) = some z) := row_news (GR2.out.below BL5.out (Nat.le_refl _)); have hs5 := BL5.out.size; clear hgrow5 own0) | (refine wpList_append_own _ rfl (.tmp 74) (.tmp 75) 37 rfl w'.heap.size 22 j0 _ 1 24 Try.underlying37 hj hy0 hy1 hy2 rfl (by omega) (.slice A5 n c5) n us (by first | rfl | simp) own5 ⟨bG, oG, none⟩ m cG us2 rfl HUL2.out HNW2.out HU2.out (by simp only [maxLen]; omega) (by omega) hs5 ?_; intro v6 w6 own6 hgrow6 _; obtain ⟨A6, c6, rfl⟩ := own_shape' own6))
      have BL6 : Hid (Below w'.heap.size w' w6) := BL5.out.grown hgrow6 hs5 (fun z hz => (OW5.out.lt z hz).1)
      have RFG : Hid (Rws w6 A6 (f ++ g)) := ⟨us ++ us2, row_of_own own6, ((GU.out.below BL6.out (Nat.le_refl _)).more BL6.out.size).app ((GU2.out.below BL6.out (Nat.le_refl _)).more BL6.out.size)⟩
      have y := BL6.out
      replace RF := Lib.hid (RF.out.next y)
      replace RG := Lib.hid (RG.out.next y)
      replace RP := Lib.hid (mat_next RP.out y)
      replace RQ := Lib.hid (mat_next RQ.out y)
      replace RK := Lib.hid (mat_next RK.out y)
      replace B := Lib.hid (below_step B.out B.out.size y)
      clear own5 own6 hgrow6 y BL5 BL6 OW5 HNW HNW2 GU GU2 GR2 bel0 BZ HUL HUL2 HU1 HU2
      obtain ⟨w7, hw7⟩ : ∃ w7, w7 = w6 := ⟨_, rfl⟩
      skip
      go_wp2_with fail
      refine (pForestOf_L A6 (n + m) c6 _ (f ++ g) _ EFG.out TFG.out (Nat.le_refl _) RFG.out.mat).mono ?_
      rintro e w' hN
      obtain ⟨AS, cS, rfl, rS, y⟩ := resM_out hN F3.out
      rw [← HQ.out]
      replace RF := Lib.hid (RF.out.next y)
      replace RG := Lib.hid (RG.out.next y)
      replace RP := Lib.hid (mat_next RP.out y)
      replace RQ := Lib.hid (mat_next RQ.out y)
      replace RK := Lib.hid (mat_next RK.out y)
      replace RFG := Lib.hid (RFG.out.next y)
      replace B := Lib.hid (below_step B.out B.out.size y)
      have RS := Lib.hid rS
      clear hN rS y
      clear hw7
      go_wp2_with fail
      refine (same9_any AP AQ q q cP cQ _ _ p p _ HQ.out.symm HQ.out.symm (by omega) (by omega) RP.out RQ.out).mono ?_
      rintro e w9 ⟨rfl, m9, rfl⟩
      replace RF := Lib.hid (RF.out.drewN m9)
      replace RG := Lib.hid (RG.out.drewN m9)
      replace RP := Lib.hid (mat_next RP.out (below_drewN (Below.refl _ _) m9))
      replace RQ := Lib.hid (mat_next RQ.out (below_drewN (Below.refl _ _) m9))
      replace RK := Lib.hid (mat_next RK.out (below_drewN (Below.refl _ _) m9))
      replace RFG := Lib.hid (RFG.out.drewN m9)
      replace RS := Lib.hid (mat_next RS.out (below_drewN (Below.refl _ _) m9))
      replace B := Lib.hid (below_drewN B.out m9)
      generalize World.drewN w' m9 = w' at *
      rw [PP]
      go_wp2_with fail
      refine (same9_any AK AP q q cK cP _ _ p p _ HQ.out.symm HQ.out.symm (by omega) (by omega) RK.out RP.out).mono ?_
      rintro e w9 ⟨rfl, m9, rfl⟩
      replace RF := Lib.hid (RF.out.drewN m9)
      replace RG := Lib.hid (RG.out.drewN m9)
      replace RP := Lib.hid (mat_next RP.out (below_drewN (Below.refl _ _) m9))
      replace RQ := Lib.hid (mat_next RQ.out (below_drewN (Below.refl _ _) m9))
      replace RK := Lib.hid (mat_next RK.out (below_drewN (Below.refl _ _) m9))
      replace RFG := Lib.hid (RFG.out.drewN m9)
      replace RS := Lib.hid (mat_next RS.out (below_drewN (Below.refl _ _) m9))
      replace B := Lib.hid (below_drewN B.out m9)
      generalize World.drewN w' m9 = w' at *
      rw [PP]
      go_wp2_with fail
      refine (same9_any AS AP q q cS cP _ _ p p _ HQ.out.symm HQ.out.symm (by omega) (by omega) RS.out RP.out).mono ?_
      rintro e w9 ⟨rfl, m9, rfl⟩
      replace RF := Lib.hid (RF.out.drewN m9)
      replace RG := Lib.hid (RG.out.drewN m9)
      replace RP := Lib.hid (mat_next RP.out (below_drewN (Below.refl _ _) m9))
      replace RQ := Lib.hid (mat_next RQ.out (below_drewN (Below.refl _ _) m9))
      replace RK := Lib.hid (mat_next RK.out (below_drewN (Below.refl _ _) m9))
      replace RFG := Lib.hid (RFG.out.drewN m9)
      replace RS := Lib.hid (mat_next RS.out (below_drewN (Below.refl _ _) m9))
      replace B := Lib.hid (below_drewN B.out m9)
      generalize World.drewN w' m9 = w' at *
      rw [PP]
      go_wp2_with fail
      refine (isForest_any AP q cP _ p _ HQ.out.symm TP.out (Nat.le_refl _) RP.out).mono ?_
      rintro e w' ⟨rfl, y⟩
      replace RF := Lib.hid (RF.out.next y)
      replace RG := Lib.hid (RG.out.next y)
      replace RP := Lib.hid (mat_next RP.out y)
      replace RQ := Lib.hid (mat_next RQ.out y)
      replace RK := Lib.hid (mat_next RK.out y)
      replace RFG := Lib.hid (RFG.out.next y)
      replace RS := Lib.hid (mat_next RS.out y)
      replace B := Lib.hid (below_step B.out B.out.size y)
      clear y
      rw [F4.out]
      clear RF RG RP RQ RK RFG RS
      go_wp2_with fail
      have HX2 := Lib.hid (isCode_next HX.out B.out)
      go_wp2_with fail
      refine (drawParseForest_any _ _ _ _ _ hn HX2.out).mono ?_
      rintro e w' ⟨u, rfl, hu, y⟩
      replace B := Lib.hid (below_step B.out B.out.size y)
      clear y HX2
      rcases parse_cases u with ⟨k5, hk5, g1⟩ | ⟨h, g1, g2, g3⟩
      · have G1 : Hid (parseFA ⟨u.toArray⟩ = ([], k5)) := by rw [Hid, parse_mk]; exact g1
        have hS : (⟨u.toArray⟩ : ByteArray).size ≤ 1048576 := by rw [size_S]; omega
        obtain ⟨X, hX⟩ : ∃ X : ByteArray, X = ⟨u.toArray⟩ := ⟨_, rfl⟩
        rw [← hX] at G1 hS ⊢
        have HXX := Lib.hid hX
        clear g1 hX
        have z5 : (k5 != 0) = true := bne_t hk5
        have z6 : (k5 != k5) = false := bne_f rfl
        clear hk5
        go_wp2_with fail
        refine (pParseForest_L X _ hS).mono ?_
        rintro e w' hN
        obtain ⟨AH, cH, rfl, rH, y⟩ := resM_out hN G1.out
        replace B := Lib.hid (below_step B.out B.out.size y)
        have RH := Lib.hid rH
        clear hN rH y
        go_wp2_with fail
        refine (sParseForest_L X _ hS).mono ?_
        rintro e w' hN
        obtain ⟨Aq, cq, rfl, rq, y⟩ := resM_out hN G1.out
        replace RH := Lib.hid (mat_next RH.out y)
        replace B := Lib.hid (below_step B.out B.out.size y)
        clear hN rq y
        clear RH
        go_wp2
        go_ret
        exact ⟨rfl, B.out⟩
      · have G1 : Hid (parseFA ⟨u.toArray⟩ = (h, 0)) := by rw [Hid, parse_mk]; exact g1
        have hS : (⟨u.toArray⟩ : ByteArray).size ≤ 1048576 := by rw [size_S]; omega
        obtain ⟨X, hX⟩ : ∃ X : ByteArray, X = ⟨u.toArray⟩ := ⟨_, rfl⟩
        rw [← hX] at G1 hS ⊢
        have HXX := Lib.hid hX
        clear g1 hX
        have HH := Lib.hid g3
        have hT := for_total g2
        have hL := len_total (f := h) (fun r hr => (lv_bd (tr_lv (for_rows g2 r hr)).1).1)
        obtain ⟨hl, hhl⟩ : ∃ hl, hl = h.length := ⟨_, rfl⟩
        have HHL := Lib.hid hhl
        have HHT : Hid (hl + total h ≤ 1048576) := by rw [Hid]; omega
        clear g2 g3 hT hL hhl
        go_wp2_with fail
        refine (pParseForest_L X _ hS).mono ?_
        rintro e w' hN
        obtain ⟨AH, cH, rfl, rH, y⟩ := resM_out hN G1.out
        rw [← HHL.out]
        replace B := Lib.hid (below_step B.out B.out.size y)
        have RH := Lib.hid rH
        clear hN rH y
        go_wp2_with fail
        refine (sParseForest_L X _ hS).mono ?_
        rintro e w' hN
        obtain ⟨Aq, cq, rfl, rq, y⟩ := resM_out hN G1.out
        replace RH := Lib.hid (mat_next RH.out y)
        replace B := Lib.hid (below_step B.out B.out.size y)
        clear hN rq y
        go_wp2_with fail
        refine (pForestText_L AH hl cH _ h _ HHL.out.symm HHT.out (Nat.le_refl _) RH.out).mono ?_
        rintro e w' hN
        obtain ⟨rfl, y⟩ := resS_out hN HH.out
        rw [← HXX.out]
        replace RH := Lib.hid (mat_next RH.out y)
        replace B := Lib.hid (below_step B.out B.out.size y)
        clear hN y
        clear RH
        go_wp2
        go_ret
        exact ⟨rfl, B.out⟩
  · have t0 : decide ((4096 : Int) < len0) = true := decide_eq_true (by omega)
    go_enter Try.func12, Try.ntmps12
    go_wp2_with fail
    refine (big_any _ _ _ _ (by omega)).mono ?_
    rintro e w' ⟨rfl, rfl⟩
    go_wp2
    go_ret
    exact ⟨rfl, Below.refl _ _⟩
/-- the statement -/
theorem holds : Rows.FnForestsSaid := of_walk walk
end Go.Proofs.Ytignimaimflenaa.fnForests
