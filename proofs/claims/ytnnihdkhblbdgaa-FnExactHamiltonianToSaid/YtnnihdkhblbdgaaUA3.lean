/-
  Texts of this seat, joined: what several laws lean on.
-/
import Derived.Test.YtnnihdkhblbdgaaUA2
import Derived.BigQuiet
import Derived.Deep.RegionHeld3
/-
  The limit of conditions of maps, the program's.
-/
namespace Go.Proofs.Ytnnihdkhblbdgaa
open Go.RowKit Fld Go.Maps
set_option linter.unusedVariables false
set_option linter.unusedSimpArgs false
set_option maxRecDepth 100000

theorem none_any (x y : Int) (w : World) : Calls Try.prog 54 #[.int .i64 x, .int .i64 y] w fun e w' => e = .returned (.int .i64 0) ∧ w = w' := by
  go_enter Try.func54, Try.ntmps54
  go_wp2
  go_ret
  exact ⟨rfl, rfl⟩
theorem Row.rest {w : World} {B b o : Nat} {vs : List Value} (h : Row w B (some ⟨b, o, none⟩) vs) : Row w B (some ⟨b, o + 1, none⟩) (vs.drop 1) := fun j v hv => by
  rw [List.getElem?_drop] at hv
  obtain ⟨b', o', e, hb, hc⟩ := h (1 + j) v hv
  injection e with e; injection e with e1 e2
  subst e1 e2
  exact ⟨b, o + 1, rfl, hb, by rw [show o + 1 + j = o + (1 + j) by omega]; exact hc⟩
theorem isTr_parts {t : List Int} (h : isTr t = true) : Tr.isLv t = true ∧ Tr.can t = t := by
  unfold isTr at h
  rw [Bool.and_eq_true] at h
  exact ⟨h.1, by have := h.2; unfold eqL at this; exact of_decide_eq_true this⟩
theorem to_val {xs t : List Int} {i : Nat} (ht : (treesTo 6)[i]? = some t) (hi : i < 37) : valN (xs.drop 1) 37 (Tr.txt t) = valT xs t := by
  rw [valN_at ht 37 (by omega), if_pos hi, val_at ht, List.getD_eq_getElem?_getD, List.getD_eq_getElem?_getD, List.getElem?_drop, Nat.add_comm]
set_option maxHeartbeats 8000000 in
theorem exch_times (A : Option Addr) (c B : Nat) (xs : List Int) (w : World) (hl : xs.length = 38) (hx : allNum xs = true) (hc : 38 ≤ c) (h0 : xs.getD 0 0 = 1) (hB : B ≤ w.heap.size) (h : Row w B A (ints xs)) :
    Calls Try.prog 50 #[.slice A 38 c, .func (.func 51) #[] #[]] w fun e w' => e = .returned (.int .i64 (limOf xs)) ∧ Below w.heap.size w w' := by
  have HL := Lib.hid hl
  have HN := Lib.hid hx
  obtain ⟨x0, hx0⟩ := at_lt (show 0 < xs.length by omega)
  obtain ⟨ba, oa, rfl, hba, _⟩ := h 0 _ (ints_at hx0)
  have HR : Row w B (some ⟨ba, oa + 1, none⟩) (ints (xs.drop 1)) := by
    have := h.rest
    rwa [show (ints xs).drop 1 = ints (xs.drop 1) by simp [ints, intsK, List.map_drop]] at this
  have CV : ∀ V c', Below w.heap.size w V → Calls Try.prog 82 #[.slice (some ⟨ba, oa + 1, none⟩) 37 c'] V (ResV 37 (valN (xs.drop 1) 37) V) := fun V c' hV => valuesOf_any _ 37 c' B (xs.drop 1) V (by rw [List.length_drop, HL.out]) (by omega) (by rw [allNum_iff]; exact fun y hy => allNum_iff.1 HN.out y (List.mem_of_mem_drop hy)) (by have := hV.size; omega) (HR.below hV hB)
  have hc1 : ¬ c = 1 := by omega
  have hc2 : (1 : Int) ≤ (c : Int) := by omega
  have H0 := Lib.hid h0
  clear hl hx hx0 h h0 HR hc
  go_enter Try.func50, Try.ntmps50
  go_wp2_with fail
  go_region_held3 (fun V => True) (first | trivial)
    (first
      | (go_at_call 82; refine (CV _ _ (by first | exact (Below.refl _ _).drew | exact below_drewN (Below.refl _ _) _)).mono ?_; rintro e w1 ⟨mb, rfl, hmap, be1⟩)
      | (go_at_call 83; refine (mapTrees_any _).mono ?_; rintro e w2 ⟨A2, c2, rfl, own2, be2⟩))
  obtain ⟨g2, rfl⟩ := own_addr own2 (by omega)
  have hcap := (own_cap own2).1
  have hc9 : ¬ c2 = 1 := by omega
  have BE1 : Below w.heap.size w w1 := ⟨be1.os, be1.tape, be1.output, be1.size, be1.block⟩
  have BE2 : Below w1.heap.size w1 w2 := ⟨be2.os, be2.tape, be2.output, be2.size, be2.block⟩
  have B2 : Hid (Below w.heap.size w w2) := BE1.trans (BE2.mono BE1.size)
  have FT : Hid (∀ k t, (treesTo 6)[k]? = some t → w2.cell? ⟨g2, 1 + k, none⟩ = some (.string ⟨(Tr.txt t).toArray⟩)) := fun k t ht => strs_cell (row_of_own own2) (1 + k) (Tr.txt t) (by rw [Nat.add_comm]; unfold mapTx; rw [List.getElem?_cons_succ, List.getElem?_map, ht]; rfl)
  have hg2 : g2 < w2.heap.size := (own2.lt g2 rfl).2
  obtain ⟨D, hown, hD⟩ := hmap.next BE2
  have hmb := hown.lt
  have HD := Lib.hid hD
  have HO : Hid (∀ V, Below w2.heap.size w2 V → V.ownsMap Try.prog 73 (plainElem Try.prog 51) mb 37 D) := fun V hV => ownsMap_below hown hV hmb
  clear own2 be1 be2 BE1 BE2 hmap hown hD CV
  go_wp2_with fail
  go_loopw [7, 20] (fun v i wr => ∃ (L : Int) (k : Nat), v = .int .i64 L ∧ k ≤ 37 ∧ i = .int .i64 k ∧ Hid (PLim xs k 0 L) ∧ Hid (Below w2.heap.size w2 wr)) (fun _ i _ => 37 - (intOf i).toNat)
  case atStart => exact ⟨6, 0, rfl, Nat.zero_le _, rfl, PLim.start xs, Below.refl _ _⟩
  case round =>
    obtain ⟨L, i, rfl, hi, rfl, HT, HW⟩ := hrel
    by_cases hi37 : i < 37
    · have hi37i : (i : Int) < 37 := by omega
      have i0 : (0 : Int) ≤ (i : Int) := Int.natCast_nonneg _
      obtain ⟨t, ht⟩ := at_lt (show i < (treesTo 6).length by rw [to_len]; exact hi37)
      have hct := (HW.out.cell (p := ⟨g2, 1 + i, none⟩) hg2).trans (FT.out i t ht)
      have HTT := Lib.hid ht
      have HLT := Lib.hid (to_lvT (List.mem_of_getElem? ht))
      obtain ⟨t1, t8⟩ := lv_bd HLT.out
      obtain ⟨X, hX⟩ : ∃ X : ByteArray, X = ⟨(Tr.txt t).toArray⟩ := ⟨_, rfl⟩
      rw [← hX] at hct
      have HX := Lib.hid hX
      clear ht hX
      go_wp2_with fail
      go_loopw [7, 26] (fun v j wr => ∃ (L : Int) (k : Nat), v = .int .i64 L ∧ k ≤ 37 ∧ j = .int .i64 k ∧ Hid (PLim xs i k L) ∧ Hid (Below w2.heap.size w2 wr)) (fun _ j _ => 37 - (intOf j).toNat)
      case atStart => exact ⟨L, 0, rfl, Nat.zero_le _, rfl, HT, HW⟩
      case round =>
        clear HT HW hct
        obtain ⟨L, k, rfl, hk, rfl, HT, HW⟩ := hrel
        by_cases hk37 : k < 37
        · have hk37i : (k : Int) < 37 := by omega
          have k0 : (0 : Int) ≤ (k : Int) := Int.natCast_nonneg _
          obtain ⟨u, hu⟩ := at_lt (show k < (treesTo 6).length by rw [to_len]; exact hk37)
          have hcu := (HW.out.cell (p := ⟨g2, 1 + k, none⟩) hg2).trans (FT.out k u hu)
          have HUU := Lib.hid hu
          have HLU := Lib.hid (to_lvT (List.mem_of_getElem? hu))
          obtain ⟨p1, p8⟩ := lv_bd HLU.out
          obtain ⟨Y, hY⟩ : ∃ Y : ByteArray, Y = ⟨(Tr.txt u).toArray⟩ := ⟨_, rfl⟩
          rw [← hY] at hcu
          have HY := Lib.hid hY
          clear hu hY
          have lt_ := (lv_txt HLT.out).2.2.2
          have lu_ := (lv_txt HLU.out).2.2.2
          have CN1 : ∀ V, Calls Try.prog 84 #[.string X] V fun e w' => e = .returned (.int .i64 (t.length : Int)) ∧ V = w' := fun V => by
            have := nodes_any (Tr.txt t) V (by omega)
            rw [show (Tr.txt t).length / 2 = t.length by omega, ← HX.out] at this
            exact this
          have CN2 : ∀ V, Calls Try.prog 84 #[.string Y] V fun e w' => e = .returned (.int .i64 (u.length : Int)) ∧ V = w' := fun V => by
            have := nodes_any (Tr.txt u) V (by omega)
            rw [show (Tr.txt u).length / 2 = u.length by omega, ← HY.out] at this
            exact this
          have hwr : IntKind.i64.wrap ((t.length : Int) + (u.length : Int)) = ((t.length + u.length : Nat) : Int) := by rw [IntWalk.i64_in _ (by omega)]; omega
          have l1 := HT.out.1
          have l6 := HT.out.2.1
          have hwz := HW.out.size
          obtain ⟨nt, hnt⟩ : ∃ nt, nt = t.length := ⟨_, rfl⟩
          obtain ⟨nu, hnu⟩ : ∃ nu, nu = u.length := ⟨_, rfl⟩
          have HNT := Lib.hid hnt.symm
          have HNU := Lib.hid hnu.symm
          simp only [← hnt] at CN1 t1 t8 hwr
          simp only [← hnu] at CN2 p1 p8 hwr
          have HMP : Hid (∀ V, Below wr.heap.size wr V → V.ownsMap Try.prog 73 (plainElem Try.prog 51) mb 37 D) := fun V hV => HO.out V (HW.out.trans (hV.mono hwz))
          clear lt_ lu_ hnt hnu
          go_wp2_with fail
          refine (CN1 _).mono ?_
          rintro e w' ⟨rfl, rfl⟩
          go_wp2_with fail
          refine (CN2 _).mono ?_
          rintro e w' ⟨rfl, rfl⟩
          clear CN1 CN2 hcu
          go_wp2_with fail
          by_cases hle : ((nt + nu : Nat) : Int) ≤ L
          · obtain ⟨e1, e2, e3, _⟩ := exP_parts HLT.out HLU.out (show t.length + u.length ≤ 6 by rw [HNT.out, HNU.out]; omega)
            obtain ⟨f1, f2, f3, _⟩ := exP_parts HLU.out HLT.out (show u.length + t.length ≤ 6 by rw [HNT.out, HNU.out]; omega)
            have gt_ := to_val (xs := xs) HTT.out hi37
            have gu_ := to_val (xs := xs) HUU.out hk37
            have gp_ := valT_drop (a := xs) e1 (by rw [e2, HNT.out, HNU.out]; omega)
            have gq_ := valT_drop (a := xs) f1 (by rw [f2, HNT.out, HNU.out]; omega)
            obtain ⟨t0, t1'⟩ := valT_num (a := xs) (r := t) HN.out
            obtain ⟨u0, u1'⟩ := valT_num (a := xs) (r := u) HN.out
            obtain ⟨p0, p1'⟩ := valT_num (a := xs) (r := exP t u) HN.out
            obtain ⟨q0, q1'⟩ := valT_num (a := xs) (r := exP u t) HN.out
            have hxt := Tr.tx_txt HLT.out
            have hxu := Tr.tx_txt HLU.out
            have lt_ := (lv_txt HLT.out).2.2.2
            have lu_ := (lv_txt HLU.out).2.2.2
            rw [HNT.out] at lt_
            rw [HNU.out] at lu_
            have hle' : (nt : Int) + (nu : Int) ≤ L := by omega
            have CT1 := fun V => tTimes_any (Tr.txt t) (Tr.txt u) V hxt (by omega)
            have CT2 := fun V => tTimes_any (Tr.txt u) (Tr.txt t) V hxu (by omega)
            have le_ := (lv_txt (show Tr.isLv (exP t u) = true from (isTr_parts e1).1)).2.2.2
            have lf_ := (lv_txt (show Tr.isLv (exP u t) = true from (isTr_parts f1).1)).2.2.2
            rw [HNT.out, HNU.out] at e2 f2
            have AT : Hid (D.atKey (.string (Tr.txt t)) (.lit (.int .i64 0)) = .lit (.int .i64 (valT xs t))) := by rw [Hid, HD.out, gt_]
            have AU : Hid (D.atKey (.string (Tr.txt u)) (.lit (.int .i64 0)) = .lit (.int .i64 (valT xs u))) := by rw [Hid, HD.out, gu_]
            have AP : Hid (D.atKey (.string (Tr.txt (exP t u))) (.lit (.int .i64 0)) = .lit (.int .i64 (valT xs (exP t u)))) := by rw [Hid, HD.out, gp_]
            have AQ : Hid (D.atKey (.string (Tr.txt (exP u t))) (.lit (.int .i64 0)) = .lit (.int .i64 (valT xs (exP u t)))) := by rw [Hid, HD.out, gq_]
            have KT := Lib.hid (keyTxV (x := Tr.txt t) (by omega))
            have KU := Lib.hid (keyTxV (x := Tr.txt u) (by omega))
            have KP := Lib.hid (keyTxV (x := Tr.txt (exP t u)) (by omega))
            have KQ := Lib.hid (keyTxV (x := Tr.txt (exP u t)) (by omega))
            rw [← e3] at CT1
            rw [← f3] at CT2
            obtain ⟨P, hP⟩ : ∃ P : ByteArray, P = ⟨(Tr.txt (exP t u)).toArray⟩ := ⟨_, rfl⟩
            obtain ⟨Q, hQ⟩ : ∃ Q : ByteArray, Q = ⟨(Tr.txt (exP u t)).toArray⟩ := ⟨_, rfl⟩
            simp only [← hP, ← HX.out, ← HY.out] at CT1
            simp only [← hQ, ← HX.out, ← HY.out] at CT2
            rw [← HX.out] at KT
            rw [← HY.out] at KU
            rw [← hP] at KP
            rw [← hQ] at KQ
            have GOK : Hid (exOk xs t u ↔ (valT xs (exP t u) + valT xs (exP u t)) % 10007 = valT xs t * valT xs u % 10007) := by unfold exOk; rw [Hid, H0.out]; rw [Int.one_mul, Int.emod_emod]
            obtain ⟨vt, hvt⟩ : ∃ v, v = valT xs t := ⟨_, rfl⟩
            obtain ⟨vu, hvu⟩ : ∃ v, v = valT xs u := ⟨_, rfl⟩
            obtain ⟨vp, hvp⟩ : ∃ v, v = valT xs (exP t u) := ⟨_, rfl⟩
            obtain ⟨vq, hvq⟩ : ∃ v, v = valT xs (exP u t) := ⟨_, rfl⟩
            simp only [← hvt, ← hvu, ← hvp, ← hvq] at AT AU AP AQ GOK t0 t1' u0 u1' p0 p1' q0 q1'
            have t1 := t1'
            have u1 := u1'
            have CP := fun V => plus_any vp vq V p0 p1' q0 q1'
            obtain ⟨m3, hm3⟩ : ∃ m3, m3 = (vp + vq) % 10007 := ⟨_, rfl⟩
            simp only [← hm3] at CP GOK
            clear hvt hvu hvp hvq hm3 hP hQ e1 e2 e3 f1 f2 f3 gt_ gu_ gp_ gq_ hxt hxu lt_ lu_ le_ lf_ p0 p1' q0 q1' t1' u1'
            by_cases hok : m3 = vt * vu % 10007
            · have tb : (m3 != vt * vu % 10007) = false := bne_f hok
              have G := Lib.hid (HT.out.good HTT.out HUU.out (GOK.out.2 hok))
              clear hok HT GOK
              refine wp_region_noPanic ?_
              refine wp_region_held_drew (S := (fun w' => w'.ownsMap Try.prog 73 (plainElem Try.prog 51) mb 37 D)) (by kernel_rfl) ?_ (fun hHeld => ?_)
              · exact HMP.out _ (below_drew' (Below.refl _ _))
              refine wpAnyH_take (i := 0) (oi := _) (v := ?_) rfl (by kernel_rfl) (by kernel_rfl) (by kernel_rfl) (fun _ _ _ h => h) (Or.inl ⟨by kernel_rfl, ?_⟩) (by assumption) ?_
              rotate_left
              · (intro w hSw; (try dsimp only at hSw); go_simp; try (with_reducible rfl))
              try simp only [Act.put, List.setIfInBounds_toArray, List.set_cons_zero, List.set_cons_succ, List.getElem_toArray, List.getElem_cons_zero, List.getElem_cons_succ]
              refine wpAnyH_take (i := 1) (oi := _) (v := ?_) rfl (by kernel_rfl) (by kernel_rfl) (by kernel_rfl) (fun _ _ _ h => h) (Or.inl ⟨by kernel_rfl, ?_⟩) (by assumption) ?_
              rotate_left
              · (intro w hSw; (try dsimp only at hSw); go_simp; try (with_reducible rfl))
              try simp only [Act.put, List.setIfInBounds_toArray, List.set_cons_zero, List.set_cons_succ, List.getElem_toArray, List.getElem_cons_zero, List.getElem_cons_succ]
              refine wpAnyH_take (i := 2) (oi := _) (v := .bool true) rfl (by kernel_rfl) (by kernel_rfl) (by kernel_rfl) (fun _ _ _ h => h) (Or.inl ⟨by kernel_rfl, ?_⟩) (by assumption) ?_
              · (intro wz hSw; (try dsimp only at hSw); go_simp; try (with_reducible rfl))
              try simp only [Act.put, List.setIfInBounds_toArray, List.set_cons_zero, List.set_cons_succ, List.getElem_toArray, List.getElem_cons_zero, List.getElem_cons_succ]
              refine wpAnyH_take (i := 3) (oi := _) (v := ?_) rfl (by kernel_rfl) (by kernel_rfl) (by kernel_rfl) (fun _ _ _ h => h) (Or.inl ⟨by kernel_rfl, ?_⟩) (by assumption) ?_
              rotate_left
              · (intro w hSw; (try dsimp only at hSw); go_simp; try (with_reducible rfl))
              try simp only [Act.put, List.setIfInBounds_toArray, List.set_cons_zero, List.set_cons_succ, List.getElem_toArray, List.getElem_cons_zero, List.getElem_cons_succ]
              refine wpAnyH_take (i := 4) (oi := _) (v := ?_) rfl (by kernel_rfl) (by kernel_rfl) (by kernel_rfl) (fun _ _ _ h => h) (Or.inl ⟨by kernel_rfl, ?_⟩) (by assumption) ?_
              rotate_left
              · (intro w hSw; (try dsimp only at hSw); go_simp; try (with_reducible rfl))
              try simp only [Act.put, List.setIfInBounds_toArray, List.set_cons_zero, List.set_cons_succ, List.getElem_toArray, List.getElem_cons_zero, List.getElem_cons_succ]
              refine wpAnyH_take (i := 5) (oi := _) (v := ?_) rfl (by kernel_rfl) (by kernel_rfl) (by kernel_rfl) (fun _ _ _ h => h) (Or.inl ⟨by kernel_rfl, ?_⟩) (by assumption) ?_
              rotate_left
              · (intro w hSw; (try dsimp only at hSw); go_simp; try (with_reducible rfl))
              try simp only [Act.put, List.setIfInBounds_toArray, List.set_cons_zero, List.set_cons_succ, List.getElem_toArray, List.getElem_cons_zero, List.getElem_cons_succ]
              refine wpAnyH_take (i := 6) (oi := _) (v := ?_) rfl (by kernel_rfl) (by kernel_rfl) (by kernel_rfl) (fun _ _ _ h => h) (Or.inl ⟨by kernel_rfl, ?_⟩) (by assumption) ?_
              rotate_left
              · (intro w hSw; (try dsimp only at hSw); go_simp; try (with_reducible rfl))
              try simp only [Act.put, List.setIfInBounds_toArray, List.set_cons_zero, List.set_cons_succ, List.getElem_toArray, List.getElem_cons_zero, List.getElem_cons_succ]
              refine wpAnyH_take (i := 9) (oi := _) (v := ?_) rfl (by kernel_rfl) (by kernel_rfl) (by kernel_rfl) (fun _ _ _ h => h) (Or.inl ⟨by kernel_rfl, ?_⟩) (by assumption) ?_
              rotate_left
              · (intro w hSw; (try dsimp only at hSw); go_simp; try (with_reducible rfl))
              try simp only [Act.put, List.setIfInBounds_toArray, List.set_cons_zero, List.set_cons_succ, List.getElem_toArray, List.getElem_cons_zero, List.getElem_cons_succ]
              refine wpAnyH_take (i := 10) (oi := _) (v := ?_) rfl (by kernel_rfl) (by kernel_rfl) (by kernel_rfl) (fun _ _ _ h => h) (Or.inl ⟨by kernel_rfl, ?_⟩) (by assumption) ?_
              rotate_left
              · (intro w hSw; (try dsimp only at hSw); go_simp; try (with_reducible rfl))
              try simp only [Act.put, List.setIfInBounds_toArray, List.set_cons_zero, List.set_cons_succ, List.getElem_toArray, List.getElem_cons_zero, List.getElem_cons_succ]
              refine wpAnyH_take (i := 11) (oi := _) (v := ?_) rfl (by kernel_rfl) (by kernel_rfl) (by kernel_rfl) (fun _ _ _ h => h) (Or.inl ⟨by kernel_rfl, ?_⟩) (by assumption) ?_
              rotate_left
              · (intro w hSw; (try dsimp only at hSw); go_simp; try (with_reducible rfl))
              try simp only [Act.put, List.setIfInBounds_toArray, List.set_cons_zero, List.set_cons_succ, List.getElem_toArray, List.getElem_cons_zero, List.getElem_cons_succ]
              refine wpAnyH_take (i := 15) (oi := _) (v := ?_) rfl (by kernel_rfl) (by kernel_rfl) (by kernel_rfl) (fun _ _ _ h => h) (Or.inl ⟨by kernel_rfl, ?_⟩) (by assumption) ?_
              rotate_left
              · (intro w hSw; (try dsimp only at hSw); go_simp; try (with_reducible rfl))
              try simp only [Act.put, List.setIfInBounds_toArray, List.set_cons_zero, List.set_cons_succ, List.getElem_toArray, List.getElem_cons_zero, List.getElem_cons_succ]
              refine wpAnyH_take (i := 16) (oi := _) (v := ?_) rfl (by kernel_rfl) (by kernel_rfl) (by kernel_rfl) (fun _ _ _ h => h) (Or.inl ⟨by kernel_rfl, ?_⟩) (by assumption) ?_
              rotate_left
              · (intro w hSw; (try dsimp only at hSw); go_simp; try (with_reducible rfl))
              try simp only [Act.put, List.setIfInBounds_toArray, List.set_cons_zero, List.set_cons_succ, List.getElem_toArray, List.getElem_cons_zero, List.getElem_cons_succ]
              refine wpAnyH_take (i := 17) (oi := _) (v := ?_) rfl (by kernel_rfl) (by kernel_rfl) (by kernel_rfl) (fun _ _ _ h => h) (Or.inl ⟨by kernel_rfl, ?_⟩) (by assumption) ?_
              rotate_left
              · (intro w hSw; (try dsimp only at hSw); go_simp; try (with_reducible rfl))
              try simp only [Act.put, List.setIfInBounds_toArray, List.set_cons_zero, List.set_cons_succ, List.getElem_toArray, List.getElem_cons_zero, List.getElem_cons_succ]
              refine wpAnyH_take (i := 19) (oi := _) (v := ?_) rfl (by kernel_rfl) (by kernel_rfl) (by kernel_rfl) (fun _ _ _ h => h) (Or.inl ⟨by kernel_rfl, ?_⟩) (by assumption) ?_
              rotate_left
              · (intro w hSw; (try dsimp only at hSw); go_simp; try (with_reducible rfl))
              try simp only [Act.put, List.setIfInBounds_toArray, List.set_cons_zero, List.set_cons_succ, List.getElem_toArray, List.getElem_cons_zero, List.getElem_cons_succ]
              refine wpAnyH_take (i := 20) (oi := _) (v := ?_) rfl (by kernel_rfl) (by kernel_rfl) (by kernel_rfl) (fun _ _ _ h => h) (Or.inl ⟨by kernel_rfl, ?_⟩) (by assumption) ?_
              rotate_left
              · (intro w hSw; (try dsimp only at hSw); go_simp; try (with_reducible rfl))
              try simp only [Act.put, List.setIfInBounds_toArray, List.set_cons_zero, List.set_cons_succ, List.getElem_toArray, List.getElem_cons_zero, List.getElem_cons_succ]
              refine wpAnyH_take (i := 18) (oi := _) (v := .int .i64 vt) rfl (by kernel_rfl) (by kernel_rfl) (by kernel_rfl) (fun _ _ _ h => h) (Or.inl ⟨by kernel_rfl, ?_⟩) (by assumption) ?_
              · (intro wz hSw; (try dsimp only at hSw); obtain ⟨c0, hrun, hat, _⟩ := hSw.lookup_int (t := 89) (e := 51) (q := .i64) keyedV Try.underlying89 Try.underlying51 (zeroNum _) KT.out; (obtain rfl : c0 = vt := by (have h9 := hat.symm.trans AT.out; simpa using h9)); go_simp; try (with_reducible rfl))
              try simp only [Act.put, List.setIfInBounds_toArray, List.set_cons_zero, List.set_cons_succ, List.getElem_toArray, List.getElem_cons_zero, List.getElem_cons_succ]
              refine wpAnyH_take (i := 21) (oi := _) (v := .int .i64 vu) rfl (by kernel_rfl) (by kernel_rfl) (by kernel_rfl) (fun _ _ _ h => h) (Or.inl ⟨by kernel_rfl, ?_⟩) (by assumption) ?_
              · (intro wz hSw; (try dsimp only at hSw); obtain ⟨c0, hrun, hat, _⟩ := hSw.lookup_int (t := 89) (e := 51) (q := .i64) keyedV Try.underlying89 Try.underlying51 (zeroNum _) KU.out; (obtain rfl : c0 = vu := by (have h9 := hat.symm.trans AU.out; simpa using h9)); go_simp; try (with_reducible rfl))
              try simp only [Act.put, List.setIfInBounds_toArray, List.set_cons_zero, List.set_cons_succ, List.getElem_toArray, List.getElem_cons_zero, List.getElem_cons_succ]
              refine wpAnyH_ready (rs := [7]) (by kernel_rfl) (by simp) (AllReadyH.cons (o := _) rfl (fun K hK => ?_) AllReadyH.nil)
              go_simp
              (go_at_call 85; refine (CT1 _).mono ?_; rintro e w3 ⟨rfl, bel3⟩)
              have B3 : Below wr.heap.size wr w3 := ⟨bel3.os, bel3.tape, bel3.output, bel3.size, bel3.block⟩
              have hs3 := B3.size
              clear bel3 CT1
              go_wp2_with fail
              refine hK.out _ _ ?_ (fun hHeld => ?_)
              · exact HMP.out _ B3
              clear hK K
              try simp only [Act.put, List.setIfInBounds_toArray, List.set_cons_zero, List.set_cons_succ, List.getElem_toArray, List.getElem_cons_zero, List.getElem_cons_succ]
              refine wpAnyH_take (i := 8) (oi := _) (v := .int .i64 vp) rfl (by kernel_rfl) (by kernel_rfl) (by kernel_rfl) (fun _ _ _ h => h) (Or.inl ⟨by kernel_rfl, ?_⟩) (by assumption) ?_
              · (intro wz hSw; (try dsimp only at hSw); obtain ⟨c0, hrun, hat, _⟩ := hSw.lookup_int (t := 89) (e := 51) (q := .i64) keyedV Try.underlying89 Try.underlying51 (zeroNum _) KP.out; (obtain rfl : c0 = vp := by (have h9 := hat.symm.trans AP.out; simpa using h9)); go_simp; try (with_reducible rfl))
              try simp only [Act.put, List.setIfInBounds_toArray, List.set_cons_zero, List.set_cons_succ, List.getElem_toArray, List.getElem_cons_zero, List.getElem_cons_succ]
              refine wpAnyH_ready (rs := [12]) (by kernel_rfl) (by simp) (AllReadyH.cons (o := _) rfl (fun K hK => ?_) AllReadyH.nil)
              go_simp
              (go_at_call 85; refine (CT2 _).mono ?_; rintro e w4 ⟨rfl, bel4⟩)
              have B4 : Below wr.heap.size wr w4 := B3.trans (Below.mono ⟨bel4.os, bel4.tape, bel4.output, bel4.size, bel4.block⟩ hs3)
              clear bel4 CT2
              go_wp2_with fail
              refine hK.out _ _ ?_ (fun hHeld => ?_)
              · exact HMP.out _ B4
              clear hK K
              try simp only [Act.put, List.setIfInBounds_toArray, List.set_cons_zero, List.set_cons_succ, List.getElem_toArray, List.getElem_cons_zero, List.getElem_cons_succ]
              refine wpAnyH_take (i := 13) (oi := _) (v := .int .i64 vq) rfl (by kernel_rfl) (by kernel_rfl) (by kernel_rfl) (fun _ _ _ h => h) (Or.inl ⟨by kernel_rfl, ?_⟩) (by assumption) ?_
              · (intro wz hSw; (try dsimp only at hSw); obtain ⟨c0, hrun, hat, _⟩ := hSw.lookup_int (t := 89) (e := 51) (q := .i64) keyedV Try.underlying89 Try.underlying51 (zeroNum _) KQ.out; (obtain rfl : c0 = vq := by (have h9 := hat.symm.trans AQ.out; simpa using h9)); go_simp; try (with_reducible rfl))
              try simp only [Act.put, List.setIfInBounds_toArray, List.set_cons_zero, List.set_cons_succ, List.getElem_toArray, List.getElem_cons_zero, List.getElem_cons_succ]
              refine wpAnyH_ready (rs := [14]) (by kernel_rfl) (by simp) (AllReadyH.cons (o := _) rfl (fun K hK => ?_) AllReadyH.nil)
              go_simp
              (go_at_call 72; refine (CP _).mono ?_; rintro e w8 ⟨rfl, rfl⟩)
              go_wp2_with fail
              refine hK.out _ _ ?_ (fun hHeld => ?_)
              · exact HMP.out _ B4
              clear hK K
              try simp only [Act.put, List.setIfInBounds_toArray, List.set_cons_zero, List.set_cons_succ, List.getElem_toArray, List.getElem_cons_zero, List.getElem_cons_succ]
              refine wpAnyH_ready (rs := [22]) (by kernel_rfl) (by simp) (AllReadyH.cons (o := _) rfl (fun K hK => ?_) AllReadyH.nil)
              go_simp
              (go_at_call 51; refine (times_any vt vu _ t0 t1 u0 u1).mono ?_; rintro e w9 ⟨rfl, rfl⟩)
              go_wp2_with fail
              refine hK.out _ _ ?_ (fun hHeld => ?_)
              · exact HMP.out _ B4
              clear hK K
              try simp only [Act.put, List.setIfInBounds_toArray, List.set_cons_zero, List.set_cons_succ, List.getElem_toArray, List.getElem_cons_zero, List.getElem_cons_succ]
              refine wpAnyH_take (i := 23) (oi := _) (v := .bool false) rfl (by kernel_rfl) (by kernel_rfl) (by kernel_rfl) (fun _ _ _ h => h) (Or.inl ⟨by kernel_rfl, ?_⟩) (by assumption) ?_
              · (intro wz hSw; (try dsimp only at hSw); go_simp; try (with_reducible rfl))
              try simp only [Act.put, List.setIfInBounds_toArray, List.set_cons_zero, List.set_cons_succ, List.getElem_toArray, List.getElem_cons_zero, List.getElem_cons_succ]
              refine wpAnyH_take (i := 24) (oi := _) (v := ?_) rfl (by kernel_rfl) (by kernel_rfl) (by kernel_rfl) (fun _ _ _ h => h) (Or.inl ⟨by kernel_rfl, ?_⟩) (by assumption) ?_
              rotate_left
              · (intro w hSw; (try dsimp only at hSw); go_simp; try (with_reducible rfl))
              try simp only [Act.put, List.setIfInBounds_toArray, List.set_cons_zero, List.set_cons_succ, List.getElem_toArray, List.getElem_cons_zero, List.getElem_cons_succ]
              refine wpAnyH_done (by kernel_rfl) ?_ _
              refine NoPanic.normal ?_
              have GB : Hid (Below w2.heap.size w2 w4) := HW.out.trans (B4.mono hwz)
              clear B3 B4 hHeld
              go_wp2
              go_roundw
              case rel => exact ⟨L, k + 1, rfl, by omega, by go_num, G, GB⟩
              case measure => simp [intOf]; omega
            · have tb : (m3 != vt * vu % 10007) = true := bne_t hok
              have G := Lib.hid (HT.out.bad HTT.out HUU.out (by rw [HNT.out, HNU.out]; omega) (fun g => hok (GOK.out.1 g)))
              rw [HNT.out, HNU.out] at G
              have wn : IntKind.i64.wrap (((nt + nu : Nat) : Int) - 1) = (nt : Int) + (nu : Int) - 1 := by rw [IntWalk.i64_in _ (by omega)]; omega
              clear hok HT GOK
              refine wp_region_noPanic ?_
              refine wp_region_held_drew (S := (fun w' => w'.ownsMap Try.prog 73 (plainElem Try.prog 51) mb 37 D)) (by kernel_rfl) ?_ (fun hHeld => ?_)
              · exact HMP.out _ (below_drew' (Below.refl _ _))
              refine wpAnyH_take (i := 0) (oi := _) (v := ?_) rfl (by kernel_rfl) (by kernel_rfl) (by kernel_rfl) (fun _ _ _ h => h) (Or.inl ⟨by kernel_rfl, ?_⟩) (by assumption) ?_
              rotate_left
              · (intro w hSw; (try dsimp only at hSw); go_simp; try (with_reducible rfl))
              try simp only [Act.put, List.setIfInBounds_toArray, List.set_cons_zero, List.set_cons_succ, List.getElem_toArray, List.getElem_cons_zero, List.getElem_cons_succ]
              refine wpAnyH_take (i := 1) (oi := _) (v := ?_) rfl (by kernel_rfl) (by kernel_rfl) (by kernel_rfl) (fun _ _ _ h => h) (Or.inl ⟨by kernel_rfl, ?_⟩) (by assumption) ?_
              rotate_left
              · (intro w hSw; (try dsimp only at hSw); go_simp; try (with_reducible rfl))
              try simp only [Act.put, List.setIfInBounds_toArray, List.set_cons_zero, List.set_cons_succ, List.getElem_toArray, List.getElem_cons_zero, List.getElem_cons_succ]
              refine wpAnyH_take (i := 2) (oi := _) (v := .bool true) rfl (by kernel_rfl) (by kernel_rfl) (by kernel_rfl) (fun _ _ _ h => h) (Or.inl ⟨by kernel_rfl, ?_⟩) (by assumption) ?_
              · (intro wz hSw; (try dsimp only at hSw); go_simp; try (with_reducible rfl))
              try simp only [Act.put, List.setIfInBounds_toArray, List.set_cons_zero, List.set_cons_succ, List.getElem_toArray, List.getElem_cons_zero, List.getElem_cons_succ]
              refine wpAnyH_take (i := 3) (oi := _) (v := ?_) rfl (by kernel_rfl) (by kernel_rfl) (by kernel_rfl) (fun _ _ _ h => h) (Or.inl ⟨by kernel_rfl, ?_⟩) (by assumption) ?_
              rotate_left
              · (intro w hSw; (try dsimp only at hSw); go_simp; try (with_reducible rfl))
              try simp only [Act.put, List.setIfInBounds_toArray, List.set_cons_zero, List.set_cons_succ, List.getElem_toArray, List.getElem_cons_zero, List.getElem_cons_succ]
              refine wpAnyH_take (i := 4) (oi := _) (v := ?_) rfl (by kernel_rfl) (by kernel_rfl) (by kernel_rfl) (fun _ _ _ h => h) (Or.inl ⟨by kernel_rfl, ?_⟩) (by assumption) ?_
              rotate_left
              · (intro w hSw; (try dsimp only at hSw); go_simp; try (with_reducible rfl))
              try simp only [Act.put, List.setIfInBounds_toArray, List.set_cons_zero, List.set_cons_succ, List.getElem_toArray, List.getElem_cons_zero, List.getElem_cons_succ]
              refine wpAnyH_take (i := 5) (oi := _) (v := ?_) rfl (by kernel_rfl) (by kernel_rfl) (by kernel_rfl) (fun _ _ _ h => h) (Or.inl ⟨by kernel_rfl, ?_⟩) (by assumption) ?_
              rotate_left
              · (intro w hSw; (try dsimp only at hSw); go_simp; try (with_reducible rfl))
              try simp only [Act.put, List.setIfInBounds_toArray, List.set_cons_zero, List.set_cons_succ, List.getElem_toArray, List.getElem_cons_zero, List.getElem_cons_succ]
              refine wpAnyH_take (i := 6) (oi := _) (v := ?_) rfl (by kernel_rfl) (by kernel_rfl) (by kernel_rfl) (fun _ _ _ h => h) (Or.inl ⟨by kernel_rfl, ?_⟩) (by assumption) ?_
              rotate_left
              · (intro w hSw; (try dsimp only at hSw); go_simp; try (with_reducible rfl))
              try simp only [Act.put, List.setIfInBounds_toArray, List.set_cons_zero, List.set_cons_succ, List.getElem_toArray, List.getElem_cons_zero, List.getElem_cons_succ]
              refine wpAnyH_take (i := 9) (oi := _) (v := ?_) rfl (by kernel_rfl) (by kernel_rfl) (by kernel_rfl) (fun _ _ _ h => h) (Or.inl ⟨by kernel_rfl, ?_⟩) (by assumption) ?_
              rotate_left
              · (intro w hSw; (try dsimp only at hSw); go_simp; try (with_reducible rfl))
              try simp only [Act.put, List.setIfInBounds_toArray, List.set_cons_zero, List.set_cons_succ, List.getElem_toArray, List.getElem_cons_zero, List.getElem_cons_succ]
              refine wpAnyH_take (i := 10) (oi := _) (v := ?_) rfl (by kernel_rfl) (by kernel_rfl) (by kernel_rfl) (fun _ _ _ h => h) (Or.inl ⟨by kernel_rfl, ?_⟩) (by assumption) ?_
              rotate_left
              · (intro w hSw; (try dsimp only at hSw); go_simp; try (with_reducible rfl))
              try simp only [Act.put, List.setIfInBounds_toArray, List.set_cons_zero, List.set_cons_succ, List.getElem_toArray, List.getElem_cons_zero, List.getElem_cons_succ]
              refine wpAnyH_take (i := 11) (oi := _) (v := ?_) rfl (by kernel_rfl) (by kernel_rfl) (by kernel_rfl) (fun _ _ _ h => h) (Or.inl ⟨by kernel_rfl, ?_⟩) (by assumption) ?_
              rotate_left
              · (intro w hSw; (try dsimp only at hSw); go_simp; try (with_reducible rfl))
              try simp only [Act.put, List.setIfInBounds_toArray, List.set_cons_zero, List.set_cons_succ, List.getElem_toArray, List.getElem_cons_zero, List.getElem_cons_succ]
              refine wpAnyH_take (i := 15) (oi := _) (v := ?_) rfl (by kernel_rfl) (by kernel_rfl) (by kernel_rfl) (fun _ _ _ h => h) (Or.inl ⟨by kernel_rfl, ?_⟩) (by assumption) ?_
              rotate_left
              · (intro w hSw; (try dsimp only at hSw); go_simp; try (with_reducible rfl))
              try simp only [Act.put, List.setIfInBounds_toArray, List.set_cons_zero, List.set_cons_succ, List.getElem_toArray, List.getElem_cons_zero, List.getElem_cons_succ]
              refine wpAnyH_take (i := 16) (oi := _) (v := ?_) rfl (by kernel_rfl) (by kernel_rfl) (by kernel_rfl) (fun _ _ _ h => h) (Or.inl ⟨by kernel_rfl, ?_⟩) (by assumption) ?_
              rotate_left
              · (intro w hSw; (try dsimp only at hSw); go_simp; try (with_reducible rfl))
              try simp only [Act.put, List.setIfInBounds_toArray, List.set_cons_zero, List.set_cons_succ, List.getElem_toArray, List.getElem_cons_zero, List.getElem_cons_succ]
              refine wpAnyH_take (i := 17) (oi := _) (v := ?_) rfl (by kernel_rfl) (by kernel_rfl) (by kernel_rfl) (fun _ _ _ h => h) (Or.inl ⟨by kernel_rfl, ?_⟩) (by assumption) ?_
              rotate_left
              · (intro w hSw; (try dsimp only at hSw); go_simp; try (with_reducible rfl))
              try simp only [Act.put, List.setIfInBounds_toArray, List.set_cons_zero, List.set_cons_succ, List.getElem_toArray, List.getElem_cons_zero, List.getElem_cons_succ]
              refine wpAnyH_take (i := 19) (oi := _) (v := ?_) rfl (by kernel_rfl) (by kernel_rfl) (by kernel_rfl) (fun _ _ _ h => h) (Or.inl ⟨by kernel_rfl, ?_⟩) (by assumption) ?_
              rotate_left
              · (intro w hSw; (try dsimp only at hSw); go_simp; try (with_reducible rfl))
              try simp only [Act.put, List.setIfInBounds_toArray, List.set_cons_zero, List.set_cons_succ, List.getElem_toArray, List.getElem_cons_zero, List.getElem_cons_succ]
              refine wpAnyH_take (i := 20) (oi := _) (v := ?_) rfl (by kernel_rfl) (by kernel_rfl) (by kernel_rfl) (fun _ _ _ h => h) (Or.inl ⟨by kernel_rfl, ?_⟩) (by assumption) ?_
              rotate_left
              · (intro w hSw; (try dsimp only at hSw); go_simp; try (with_reducible rfl))
              try simp only [Act.put, List.setIfInBounds_toArray, List.set_cons_zero, List.set_cons_succ, List.getElem_toArray, List.getElem_cons_zero, List.getElem_cons_succ]
              refine wpAnyH_take (i := 18) (oi := _) (v := .int .i64 vt) rfl (by kernel_rfl) (by kernel_rfl) (by kernel_rfl) (fun _ _ _ h => h) (Or.inl ⟨by kernel_rfl, ?_⟩) (by assumption) ?_
              · (intro wz hSw; (try dsimp only at hSw); obtain ⟨c0, hrun, hat, _⟩ := hSw.lookup_int (t := 89) (e := 51) (q := .i64) keyedV Try.underlying89 Try.underlying51 (zeroNum _) KT.out; (obtain rfl : c0 = vt := by (have h9 := hat.symm.trans AT.out; simpa using h9)); go_simp; try (with_reducible rfl))
              try simp only [Act.put, List.setIfInBounds_toArray, List.set_cons_zero, List.set_cons_succ, List.getElem_toArray, List.getElem_cons_zero, List.getElem_cons_succ]
              refine wpAnyH_take (i := 21) (oi := _) (v := .int .i64 vu) rfl (by kernel_rfl) (by kernel_rfl) (by kernel_rfl) (fun _ _ _ h => h) (Or.inl ⟨by kernel_rfl, ?_⟩) (by assumption) ?_
              · (intro wz hSw; (try dsimp only at hSw); obtain ⟨c0, hrun, hat, _⟩ := hSw.lookup_int (t := 89) (e := 51) (q := .i64) keyedV Try.underlying89 Try.underlying51 (zeroNum _) KU.out; (obtain rfl : c0 = vu := by (have h9 := hat.symm.trans AU.out; simpa using h9)); go_simp; try (with_reducible rfl))
              try simp only [Act.put, List.setIfInBounds_toArray, List.set_cons_zero, List.set_cons_succ, List.getElem_toArray, List.getElem_cons_zero, List.getElem_cons_succ]
              refine wpAnyH_ready (rs := [7]) (by kernel_rfl) (by simp) (AllReadyH.cons (o := _) rfl (fun K hK => ?_) AllReadyH.nil)
              go_simp
              (go_at_call 85; refine (CT1 _).mono ?_; rintro e w3 ⟨rfl, bel3⟩)
              have B3 : Below wr.heap.size wr w3 := ⟨bel3.os, bel3.tape, bel3.output, bel3.size, bel3.block⟩
              have hs3 := B3.size
              clear bel3 CT1
              go_wp2_with fail
              refine hK.out _ _ ?_ (fun hHeld => ?_)
              · exact HMP.out _ B3
              clear hK K
              try simp only [Act.put, List.setIfInBounds_toArray, List.set_cons_zero, List.set_cons_succ, List.getElem_toArray, List.getElem_cons_zero, List.getElem_cons_succ]
              refine wpAnyH_take (i := 8) (oi := _) (v := .int .i64 vp) rfl (by kernel_rfl) (by kernel_rfl) (by kernel_rfl) (fun _ _ _ h => h) (Or.inl ⟨by kernel_rfl, ?_⟩) (by assumption) ?_
              · (intro wz hSw; (try dsimp only at hSw); obtain ⟨c0, hrun, hat, _⟩ := hSw.lookup_int (t := 89) (e := 51) (q := .i64) keyedV Try.underlying89 Try.underlying51 (zeroNum _) KP.out; (obtain rfl : c0 = vp := by (have h9 := hat.symm.trans AP.out; simpa using h9)); go_simp; try (with_reducible rfl))
              try simp only [Act.put, List.setIfInBounds_toArray, List.set_cons_zero, List.set_cons_succ, List.getElem_toArray, List.getElem_cons_zero, List.getElem_cons_succ]
              refine wpAnyH_ready (rs := [12]) (by kernel_rfl) (by simp) (AllReadyH.cons (o := _) rfl (fun K hK => ?_) AllReadyH.nil)
              go_simp
              (go_at_call 85; refine (CT2 _).mono ?_; rintro e w4 ⟨rfl, bel4⟩)
              have B4 : Below wr.heap.size wr w4 := B3.trans (Below.mono ⟨bel4.os, bel4.tape, bel4.output, bel4.size, bel4.block⟩ hs3)
              clear bel4 CT2
              go_wp2_with fail
              refine hK.out _ _ ?_ (fun hHeld => ?_)
              · exact HMP.out _ B4
              clear hK K
              try simp only [Act.put, List.setIfInBounds_toArray, List.set_cons_zero, List.set_cons_succ, List.getElem_toArray, List.getElem_cons_zero, List.getElem_cons_succ]
              refine wpAnyH_take (i := 13) (oi := _) (v := .int .i64 vq) rfl (by kernel_rfl) (by kernel_rfl) (by kernel_rfl) (fun _ _ _ h => h) (Or.inl ⟨by kernel_rfl, ?_⟩) (by assumption) ?_
              · (intro wz hSw; (try dsimp only at hSw); obtain ⟨c0, hrun, hat, _⟩ := hSw.lookup_int (t := 89) (e := 51) (q := .i64) keyedV Try.underlying89 Try.underlying51 (zeroNum _) KQ.out; (obtain rfl : c0 = vq := by (have h9 := hat.symm.trans AQ.out; simpa using h9)); go_simp; try (with_reducible rfl))
              try simp only [Act.put, List.setIfInBounds_toArray, List.set_cons_zero, List.set_cons_succ, List.getElem_toArray, List.getElem_cons_zero, List.getElem_cons_succ]
              refine wpAnyH_ready (rs := [14]) (by kernel_rfl) (by simp) (AllReadyH.cons (o := _) rfl (fun K hK => ?_) AllReadyH.nil)
              go_simp
              (go_at_call 72; refine (CP _).mono ?_; rintro e w8 ⟨rfl, rfl⟩)
              go_wp2_with fail
              refine hK.out _ _ ?_ (fun hHeld => ?_)
              · exact HMP.out _ B4
              clear hK K
              try simp only [Act.put, List.setIfInBounds_toArray, List.set_cons_zero, List.set_cons_succ, List.getElem_toArray, List.getElem_cons_zero, List.getElem_cons_succ]
              refine wpAnyH_ready (rs := [22]) (by kernel_rfl) (by simp) (AllReadyH.cons (o := _) rfl (fun K hK => ?_) AllReadyH.nil)
              go_simp
              (go_at_call 51; refine (times_any vt vu _ t0 t1 u0 u1).mono ?_; rintro e w9 ⟨rfl, rfl⟩)
              go_wp2_with fail
              refine hK.out _ _ ?_ (fun hHeld => ?_)
              · exact HMP.out _ B4
              clear hK K
              try simp only [Act.put, List.setIfInBounds_toArray, List.set_cons_zero, List.set_cons_succ, List.getElem_toArray, List.getElem_cons_zero, List.getElem_cons_succ]
              refine wpAnyH_take (i := 23) (oi := _) (v := .bool true) rfl (by kernel_rfl) (by kernel_rfl) (by kernel_rfl) (fun _ _ _ h => h) (Or.inl ⟨by kernel_rfl, ?_⟩) (by assumption) ?_
              · (intro wz hSw; (try dsimp only at hSw); go_simp; try (with_reducible rfl))
              try simp only [Act.put, List.setIfInBounds_toArray, List.set_cons_zero, List.set_cons_succ, List.getElem_toArray, List.getElem_cons_zero, List.getElem_cons_succ]
              refine wpAnyH_take (i := 24) (oi := _) (v := ?_) rfl (by kernel_rfl) (by kernel_rfl) (by kernel_rfl) (fun _ _ _ h => h) (Or.inl ⟨by kernel_rfl, ?_⟩) (by assumption) ?_
              rotate_left
              · (intro w hSw; (try dsimp only at hSw); go_simp; try (with_reducible rfl))
              try simp only [Act.put, List.setIfInBounds_toArray, List.set_cons_zero, List.set_cons_succ, List.getElem_toArray, List.getElem_cons_zero, List.getElem_cons_succ]
              refine wpAnyH_done (by kernel_rfl) ?_ _
              refine NoPanic.normal ?_
              have GB : Hid (Below w2.heap.size w2 w4) := HW.out.trans (B4.mono hwz)
              clear B3 B4 hHeld
              go_wp2
              go_roundw
              case rel => exact ⟨(nt : Int) + (nu : Int) - 1, k + 1, by first | rfl | go_num | (simp only [Value.int.injEq, true_and]; omega), by omega, by go_num, G, GB⟩
              case measure => simp [intOf]; omega
          · have G := Lib.hid (HT.out.over HTT.out HUU.out (by rw [HNT.out, HNU.out]; omega))
            have GB : Hid (∀ d, Below w2.heap.size w2 (wr.drewN d)) := fun d => below_drewN HW.out d
            have hgt : L < (nt : Int) + (nu : Int) := by omega
            clear HT
            refine wp_region_noPanic ?_
            refine wp_region_held_drew (S := (fun w' => w'.ownsMap Try.prog 73 (plainElem Try.prog 51) mb 37 D)) (by kernel_rfl) ?_ (fun hHeld => ?_)
            · exact HMP.out _ (below_drew' (Below.refl _ _))
            refine wpAnyH_take (i := 0) (oi := _) (v := ?_) rfl (by kernel_rfl) (by kernel_rfl) (by kernel_rfl) (fun _ _ _ h => h) (Or.inl ⟨by kernel_rfl, ?_⟩) (by assumption) ?_
            rotate_left
            · (intro w hSw; (try dsimp only at hSw); go_simp; try (with_reducible rfl))
            try simp only [Act.put, List.setIfInBounds_toArray, List.set_cons_zero, List.set_cons_succ, List.getElem_toArray, List.getElem_cons_zero, List.getElem_cons_succ]
            refine wpAnyH_take (i := 1) (oi := _) (v := ?_) rfl (by kernel_rfl) (by kernel_rfl) (by kernel_rfl) (fun _ _ _ h => h) (Or.inl ⟨by kernel_rfl, ?_⟩) (by assumption) ?_
            rotate_left
            · (intro w hSw; (try dsimp only at hSw); go_simp; try (with_reducible rfl))
            try simp only [Act.put, List.setIfInBounds_toArray, List.set_cons_zero, List.set_cons_succ, List.getElem_toArray, List.getElem_cons_zero, List.getElem_cons_succ]
            refine wpAnyH_take (i := 2) (oi := _) (v := .bool false) rfl (by kernel_rfl) (by kernel_rfl) (by kernel_rfl) (fun _ _ _ h => h) (Or.inl ⟨by kernel_rfl, ?_⟩) (by assumption) ?_
            · (intro wz hSw; (try dsimp only at hSw); go_simp; try (with_reducible rfl))
            try simp only [Act.put, List.setIfInBounds_toArray, List.set_cons_zero, List.set_cons_succ, List.getElem_toArray, List.getElem_cons_zero, List.getElem_cons_succ]
            refine wpAnyH_take (i := 3) (oi := _) (v := ?_) rfl (by kernel_rfl) (by kernel_rfl) (by kernel_rfl) (fun _ _ _ h => h) (Or.inl ⟨by kernel_rfl, ?_⟩) (by assumption) ?_
            rotate_left
            · (intro w hSw; (try dsimp only at hSw); go_simp; try (with_reducible rfl))
            try simp only [Act.put, List.setIfInBounds_toArray, List.set_cons_zero, List.set_cons_succ, List.getElem_toArray, List.getElem_cons_zero, List.getElem_cons_succ]
            refine wpAnyH_skipN (by assumption) [(4, 39), (5, 40), (6, 41), (7, 42), (8, 43), (9, 44), (10, 45), (11, 46), (12, 47), (13, 48), (14, 49), (15, 50), (16, 51), (17, 52), (18, 53), (19, 54), (20, 55), (21, 56), (22, 57), (23, 58)] 1 _ _ (by kernel_rfl) ?_
            simp only [List.foldl, Act.put, List.setIfInBounds_toArray, List.set_cons_zero, List.set_cons_succ]
            refine wpAnyH_take (i := 24) (oi := _) (v := ?_) rfl (by kernel_rfl) (by kernel_rfl) (by kernel_rfl) (fun _ _ _ h => h) (Or.inl ⟨by kernel_rfl, ?_⟩) (by assumption) ?_
            rotate_left
            · (intro w hSw; (try dsimp only at hSw); go_simp; try (with_reducible rfl))
            try simp only [Act.put, List.setIfInBounds_toArray, List.set_cons_zero, List.set_cons_succ, List.getElem_toArray, List.getElem_cons_zero, List.getElem_cons_succ]
            refine wpAnyH_done (by kernel_rfl) ?_ _
            refine NoPanic.normal ?_
            clear HW hHeld
            go_wp2
            go_roundw
            case rel => exact ⟨L, k + 1, rfl, by omega, by go_num, G, by first | exact GB.out _ | exact GB.out 1⟩
            case measure => simp [intOf]; omega
        · obtain rfl : k = 37 := by omega
          have G := Lib.hid HT.out.leave
          clear HT
          go_wp2
          go_roundw
          case rel => exact ⟨L, i + 1, rfl, by omega, by go_num, G, HW⟩
          case measure => simp [intOf]; omega
    · obtain rfl : i = 37 := by omega
      have G : Hid (limOf xs = L) := IsLim.of HT.out.done
      have GB : Hid (Below w.heap.size w wr) := B2.out.trans (HW.out.mono B2.out.size)
      clear HT
      go_wp2
      go_ret
      exact ⟨ret_i64 G.out.symm, GB.out⟩
set_option maxHeartbeats 8000000 in
theorem exch_none (A : Option Addr) (c B : Nat) (xs : List Int) (w : World) (hl : xs.length = 38) (hx : allNum xs = true) (hc : 38 ≤ c) (h0 : xs.getD 0 0 = 0) (hB : B ≤ w.heap.size) (h : Row w B A (ints xs)) :
    Calls Try.prog 50 #[.slice A 38 c, .func (.func 54) #[] #[]] w fun e w' => e = .returned (.int .i64 (limOf xs)) ∧ Below w.heap.size w w' := by
  have HL := Lib.hid hl
  have HN := Lib.hid hx
  obtain ⟨x0, hx0⟩ := at_lt (show 0 < xs.length by omega)
  obtain ⟨ba, oa, rfl, hba, _⟩ := h 0 _ (ints_at hx0)
  have HR : Row w B (some ⟨ba, oa + 1, none⟩) (ints (xs.drop 1)) := by
    have := h.rest
    rwa [show (ints xs).drop 1 = ints (xs.drop 1) by simp [ints, intsK, List.map_drop]] at this
  have CV : ∀ V c', Below w.heap.size w V → Calls Try.prog 82 #[.slice (some ⟨ba, oa + 1, none⟩) 37 c'] V (ResV 37 (valN (xs.drop 1) 37) V) := fun V c' hV => valuesOf_any _ 37 c' B (xs.drop 1) V (by rw [List.length_drop, HL.out]) (by omega) (by rw [allNum_iff]; exact fun y hy => allNum_iff.1 HN.out y (List.mem_of_mem_drop hy)) (by have := hV.size; omega) (HR.below hV hB)
  have hc1 : ¬ c = 1 := by omega
  have hc2 : (1 : Int) ≤ (c : Int) := by omega
  have H0 := Lib.hid h0
  clear hl hx hx0 h h0 HR hc
  go_enter Try.func50, Try.ntmps50
  go_wp2_with fail
  go_region_held3 (fun V => True) (first | trivial)
    (first
      | (go_at_call 82; refine (CV _ _ (by first | exact (Below.refl _ _).drew | exact below_drewN (Below.refl _ _) _)).mono ?_; rintro e w1 ⟨mb, rfl, hmap, be1⟩)
      | (go_at_call 83; refine (mapTrees_any _).mono ?_; rintro e w2 ⟨A2, c2, rfl, own2, be2⟩))
  obtain ⟨g2, rfl⟩ := own_addr own2 (by omega)
  have hcap := (own_cap own2).1
  have hc9 : ¬ c2 = 1 := by omega
  have BE1 : Below w.heap.size w w1 := ⟨be1.os, be1.tape, be1.output, be1.size, be1.block⟩
  have BE2 : Below w1.heap.size w1 w2 := ⟨be2.os, be2.tape, be2.output, be2.size, be2.block⟩
  have B2 : Hid (Below w.heap.size w w2) := BE1.trans (BE2.mono BE1.size)
  have FT : Hid (∀ k t, (treesTo 6)[k]? = some t → w2.cell? ⟨g2, 1 + k, none⟩ = some (.string ⟨(Tr.txt t).toArray⟩)) := fun k t ht => strs_cell (row_of_own own2) (1 + k) (Tr.txt t) (by rw [Nat.add_comm]; unfold mapTx; rw [List.getElem?_cons_succ, List.getElem?_map, ht]; rfl)
  have hg2 : g2 < w2.heap.size := (own2.lt g2 rfl).2
  obtain ⟨D, hown, hD⟩ := hmap.next BE2
  have hmb := hown.lt
  have HD := Lib.hid hD
  have HO : Hid (∀ V, Below w2.heap.size w2 V → V.ownsMap Try.prog 73 (plainElem Try.prog 51) mb 37 D) := fun V hV => ownsMap_below hown hV hmb
  clear own2 be1 be2 BE1 BE2 hmap hown hD CV
  go_wp2_with fail
  go_loopw [7, 20] (fun v i wr => ∃ (L : Int) (k : Nat), v = .int .i64 L ∧ k ≤ 37 ∧ i = .int .i64 k ∧ Hid (PLim xs k 0 L) ∧ Hid (Below w2.heap.size w2 wr)) (fun _ i _ => 37 - (intOf i).toNat)
  case atStart => exact ⟨6, 0, rfl, Nat.zero_le _, rfl, PLim.start xs, Below.refl _ _⟩
  case round =>
    obtain ⟨L, i, rfl, hi, rfl, HT, HW⟩ := hrel
    by_cases hi37 : i < 37
    · have hi37i : (i : Int) < 37 := by omega
      have i0 : (0 : Int) ≤ (i : Int) := Int.natCast_nonneg _
      obtain ⟨t, ht⟩ := at_lt (show i < (treesTo 6).length by rw [to_len]; exact hi37)
      have hct := (HW.out.cell (p := ⟨g2, 1 + i, none⟩) hg2).trans (FT.out i t ht)
      have HTT := Lib.hid ht
      have HLT := Lib.hid (to_lvT (List.mem_of_getElem? ht))
      obtain ⟨t1, t8⟩ := lv_bd HLT.out
      obtain ⟨X, hX⟩ : ∃ X : ByteArray, X = ⟨(Tr.txt t).toArray⟩ := ⟨_, rfl⟩
      rw [← hX] at hct
      have HX := Lib.hid hX
      clear ht hX
      go_wp2_with fail
      go_loopw [7, 26] (fun v j wr => ∃ (L : Int) (k : Nat), v = .int .i64 L ∧ k ≤ 37 ∧ j = .int .i64 k ∧ Hid (PLim xs i k L) ∧ Hid (Below w2.heap.size w2 wr)) (fun _ j _ => 37 - (intOf j).toNat)
      case atStart => exact ⟨L, 0, rfl, Nat.zero_le _, rfl, HT, HW⟩
      case round =>
        clear HT HW hct
        obtain ⟨L, k, rfl, hk, rfl, HT, HW⟩ := hrel
        by_cases hk37 : k < 37
        · have hk37i : (k : Int) < 37 := by omega
          have k0 : (0 : Int) ≤ (k : Int) := Int.natCast_nonneg _
          obtain ⟨u, hu⟩ := at_lt (show k < (treesTo 6).length by rw [to_len]; exact hk37)
          have hcu := (HW.out.cell (p := ⟨g2, 1 + k, none⟩) hg2).trans (FT.out k u hu)
          have HUU := Lib.hid hu
          have HLU := Lib.hid (to_lvT (List.mem_of_getElem? hu))
          obtain ⟨p1, p8⟩ := lv_bd HLU.out
          obtain ⟨Y, hY⟩ : ∃ Y : ByteArray, Y = ⟨(Tr.txt u).toArray⟩ := ⟨_, rfl⟩
          rw [← hY] at hcu
          have HY := Lib.hid hY
          clear hu hY
          have lt_ := (lv_txt HLT.out).2.2.2
          have lu_ := (lv_txt HLU.out).2.2.2
          have CN1 : ∀ V, Calls Try.prog 84 #[.string X] V fun e w' => e = .returned (.int .i64 (t.length : Int)) ∧ V = w' := fun V => by
            have := nodes_any (Tr.txt t) V (by omega)
            rw [show (Tr.txt t).length / 2 = t.length by omega, ← HX.out] at this
            exact this
          have CN2 : ∀ V, Calls Try.prog 84 #[.string Y] V fun e w' => e = .returned (.int .i64 (u.length : Int)) ∧ V = w' := fun V => by
            have := nodes_any (Tr.txt u) V (by omega)
            rw [show (Tr.txt u).length / 2 = u.length by omega, ← HY.out] at this
            exact this
          have hwr : IntKind.i64.wrap ((t.length : Int) + (u.length : Int)) = ((t.length + u.length : Nat) : Int) := by rw [IntWalk.i64_in _ (by omega)]; omega
          have l1 := HT.out.1
          have l6 := HT.out.2.1
          have hwz := HW.out.size
          obtain ⟨nt, hnt⟩ : ∃ nt, nt = t.length := ⟨_, rfl⟩
          obtain ⟨nu, hnu⟩ : ∃ nu, nu = u.length := ⟨_, rfl⟩
          have HNT := Lib.hid hnt.symm
          have HNU := Lib.hid hnu.symm
          simp only [← hnt] at CN1 t1 t8 hwr
          simp only [← hnu] at CN2 p1 p8 hwr
          have HMP : Hid (∀ V, Below wr.heap.size wr V → V.ownsMap Try.prog 73 (plainElem Try.prog 51) mb 37 D) := fun V hV => HO.out V (HW.out.trans (hV.mono hwz))
          clear lt_ lu_ hnt hnu
          go_wp2_with fail
          refine (CN1 _).mono ?_
          rintro e w' ⟨rfl, rfl⟩
          go_wp2_with fail
          refine (CN2 _).mono ?_
          rintro e w' ⟨rfl, rfl⟩
          clear CN1 CN2 hcu
          go_wp2_with fail
          by_cases hle : ((nt + nu : Nat) : Int) ≤ L
          · obtain ⟨e1, e2, e3, _⟩ := exP_parts HLT.out HLU.out (show t.length + u.length ≤ 6 by rw [HNT.out, HNU.out]; omega)
            obtain ⟨f1, f2, f3, _⟩ := exP_parts HLU.out HLT.out (show u.length + t.length ≤ 6 by rw [HNT.out, HNU.out]; omega)
            have gt_ := to_val (xs := xs) HTT.out hi37
            have gu_ := to_val (xs := xs) HUU.out hk37
            have gp_ := valT_drop (a := xs) e1 (by rw [e2, HNT.out, HNU.out]; omega)
            have gq_ := valT_drop (a := xs) f1 (by rw [f2, HNT.out, HNU.out]; omega)
            obtain ⟨t0, t1'⟩ := valT_num (a := xs) (r := t) HN.out
            obtain ⟨u0, u1'⟩ := valT_num (a := xs) (r := u) HN.out
            obtain ⟨p0, p1'⟩ := valT_num (a := xs) (r := exP t u) HN.out
            obtain ⟨q0, q1'⟩ := valT_num (a := xs) (r := exP u t) HN.out
            have hxt := Tr.tx_txt HLT.out
            have hxu := Tr.tx_txt HLU.out
            have lt_ := (lv_txt HLT.out).2.2.2
            have lu_ := (lv_txt HLU.out).2.2.2
            rw [HNT.out] at lt_
            rw [HNU.out] at lu_
            have hle' : (nt : Int) + (nu : Int) ≤ L := by omega
            have CT1 := fun V => tTimes_any (Tr.txt t) (Tr.txt u) V hxt (by omega)
            have CT2 := fun V => tTimes_any (Tr.txt u) (Tr.txt t) V hxu (by omega)
            have le_ := (lv_txt (show Tr.isLv (exP t u) = true from (isTr_parts e1).1)).2.2.2
            have lf_ := (lv_txt (show Tr.isLv (exP u t) = true from (isTr_parts f1).1)).2.2.2
            rw [HNT.out, HNU.out] at e2 f2
            have AT : Hid (D.atKey (.string (Tr.txt t)) (.lit (.int .i64 0)) = .lit (.int .i64 (valT xs t))) := by rw [Hid, HD.out, gt_]
            have AU : Hid (D.atKey (.string (Tr.txt u)) (.lit (.int .i64 0)) = .lit (.int .i64 (valT xs u))) := by rw [Hid, HD.out, gu_]
            have AP : Hid (D.atKey (.string (Tr.txt (exP t u))) (.lit (.int .i64 0)) = .lit (.int .i64 (valT xs (exP t u)))) := by rw [Hid, HD.out, gp_]
            have AQ : Hid (D.atKey (.string (Tr.txt (exP u t))) (.lit (.int .i64 0)) = .lit (.int .i64 (valT xs (exP u t)))) := by rw [Hid, HD.out, gq_]
            have KT := Lib.hid (keyTxV (x := Tr.txt t) (by omega))
            have KU := Lib.hid (keyTxV (x := Tr.txt u) (by omega))
            have KP := Lib.hid (keyTxV (x := Tr.txt (exP t u)) (by omega))
            have KQ := Lib.hid (keyTxV (x := Tr.txt (exP u t)) (by omega))
            rw [← e3] at CT1
            rw [← f3] at CT2
            obtain ⟨P, hP⟩ : ∃ P : ByteArray, P = ⟨(Tr.txt (exP t u)).toArray⟩ := ⟨_, rfl⟩
            obtain ⟨Q, hQ⟩ : ∃ Q : ByteArray, Q = ⟨(Tr.txt (exP u t)).toArray⟩ := ⟨_, rfl⟩
            simp only [← hP, ← HX.out, ← HY.out] at CT1
            simp only [← hQ, ← HX.out, ← HY.out] at CT2
            rw [← HX.out] at KT
            rw [← HY.out] at KU
            rw [← hP] at KP
            rw [← hQ] at KQ
            have GOK : Hid (exOk xs t u ↔ (valT xs (exP t u) + valT xs (exP u t)) % 10007 = 0) := by unfold exOk; rw [Hid, H0.out]; rw [Int.zero_mul, Int.zero_emod]
            obtain ⟨vt, hvt⟩ : ∃ v, v = valT xs t := ⟨_, rfl⟩
            obtain ⟨vu, hvu⟩ : ∃ v, v = valT xs u := ⟨_, rfl⟩
            obtain ⟨vp, hvp⟩ : ∃ v, v = valT xs (exP t u) := ⟨_, rfl⟩
            obtain ⟨vq, hvq⟩ : ∃ v, v = valT xs (exP u t) := ⟨_, rfl⟩
            simp only [← hvt, ← hvu, ← hvp, ← hvq] at AT AU AP AQ GOK t0 t1' u0 u1' p0 p1' q0 q1'
            have t1 := t1'
            have u1 := u1'
            have CP := fun V => plus_any vp vq V p0 p1' q0 q1'
            obtain ⟨m3, hm3⟩ : ∃ m3, m3 = (vp + vq) % 10007 := ⟨_, rfl⟩
            simp only [← hm3] at CP GOK
            clear hvt hvu hvp hvq hm3 hP hQ e1 e2 e3 f1 f2 f3 gt_ gu_ gp_ gq_ hxt hxu lt_ lu_ le_ lf_ p0 p1' q0 q1' t1' u1'
            by_cases hok : m3 = 0
            · have tb : (m3 != 0) = false := bne_f hok
              have G := Lib.hid (HT.out.good HTT.out HUU.out (GOK.out.2 hok))
              clear hok HT GOK
              refine wp_region_noPanic ?_
              refine wp_region_held_drew (S := (fun w' => w'.ownsMap Try.prog 73 (plainElem Try.prog 51) mb 37 D)) (by kernel_rfl) ?_ (fun hHeld => ?_)
              · exact HMP.out _ (below_drew' (Below.refl _ _))
              refine wpAnyH_take (i := 0) (oi := _) (v := ?_) rfl (by kernel_rfl) (by kernel_rfl) (by kernel_rfl) (fun _ _ _ h => h) (Or.inl ⟨by kernel_rfl, ?_⟩) (by assumption) ?_
              rotate_left
              · (intro w hSw; (try dsimp only at hSw); go_simp; try (with_reducible rfl))
              try simp only [Act.put, List.setIfInBounds_toArray, List.set_cons_zero, List.set_cons_succ, List.getElem_toArray, List.getElem_cons_zero, List.getElem_cons_succ]
              refine wpAnyH_take (i := 1) (oi := _) (v := ?_) rfl (by kernel_rfl) (by kernel_rfl) (by kernel_rfl) (fun _ _ _ h => h) (Or.inl ⟨by kernel_rfl, ?_⟩) (by assumption) ?_
              rotate_left
              · (intro w hSw; (try dsimp only at hSw); go_simp; try (with_reducible rfl))
              try simp only [Act.put, List.setIfInBounds_toArray, List.set_cons_zero, List.set_cons_succ, List.getElem_toArray, List.getElem_cons_zero, List.getElem_cons_succ]
              refine wpAnyH_take (i := 2) (oi := _) (v := .bool true) rfl (by kernel_rfl) (by kernel_rfl) (by kernel_rfl) (fun _ _ _ h => h) (Or.inl ⟨by kernel_rfl, ?_⟩) (by assumption) ?_
              · (intro wz hSw; (try dsimp only at hSw); go_simp; try (with_reducible rfl))
              try simp only [Act.put, List.setIfInBounds_toArray, List.set_cons_zero, List.set_cons_succ, List.getElem_toArray, List.getElem_cons_zero, List.getElem_cons_succ]
              refine wpAnyH_take (i := 3) (oi := _) (v := ?_) rfl (by kernel_rfl) (by kernel_rfl) (by kernel_rfl) (fun _ _ _ h => h) (Or.inl ⟨by kernel_rfl, ?_⟩) (by assumption) ?_
              rotate_left
              · (intro w hSw; (try dsimp only at hSw); go_simp; try (with_reducible rfl))
              try simp only [Act.put, List.setIfInBounds_toArray, List.set_cons_zero, List.set_cons_succ, List.getElem_toArray, List.getElem_cons_zero, List.getElem_cons_succ]
              refine wpAnyH_take (i := 4) (oi := _) (v := ?_) rfl (by kernel_rfl) (by kernel_rfl) (by kernel_rfl) (fun _ _ _ h => h) (Or.inl ⟨by kernel_rfl, ?_⟩) (by assumption) ?_
              rotate_left
              · (intro w hSw; (try dsimp only at hSw); go_simp; try (with_reducible rfl))
              try simp only [Act.put, List.setIfInBounds_toArray, List.set_cons_zero, List.set_cons_succ, List.getElem_toArray, List.getElem_cons_zero, List.getElem_cons_succ]
              refine wpAnyH_take (i := 5) (oi := _) (v := ?_) rfl (by kernel_rfl) (by kernel_rfl) (by kernel_rfl) (fun _ _ _ h => h) (Or.inl ⟨by kernel_rfl, ?_⟩) (by assumption) ?_
              rotate_left
              · (intro w hSw; (try dsimp only at hSw); go_simp; try (with_reducible rfl))
              try simp only [Act.put, List.setIfInBounds_toArray, List.set_cons_zero, List.set_cons_succ, List.getElem_toArray, List.getElem_cons_zero, List.getElem_cons_succ]
              refine wpAnyH_take (i := 6) (oi := _) (v := ?_) rfl (by kernel_rfl) (by kernel_rfl) (by kernel_rfl) (fun _ _ _ h => h) (Or.inl ⟨by kernel_rfl, ?_⟩) (by assumption) ?_
              rotate_left
              · (intro w hSw; (try dsimp only at hSw); go_simp; try (with_reducible rfl))
              try simp only [Act.put, List.setIfInBounds_toArray, List.set_cons_zero, List.set_cons_succ, List.getElem_toArray, List.getElem_cons_zero, List.getElem_cons_succ]
              refine wpAnyH_take (i := 9) (oi := _) (v := ?_) rfl (by kernel_rfl) (by kernel_rfl) (by kernel_rfl) (fun _ _ _ h => h) (Or.inl ⟨by kernel_rfl, ?_⟩) (by assumption) ?_
              rotate_left
              · (intro w hSw; (try dsimp only at hSw); go_simp; try (with_reducible rfl))
              try simp only [Act.put, List.setIfInBounds_toArray, List.set_cons_zero, List.set_cons_succ, List.getElem_toArray, List.getElem_cons_zero, List.getElem_cons_succ]
              refine wpAnyH_take (i := 10) (oi := _) (v := ?_) rfl (by kernel_rfl) (by kernel_rfl) (by kernel_rfl) (fun _ _ _ h => h) (Or.inl ⟨by kernel_rfl, ?_⟩) (by assumption) ?_
              rotate_left
              · (intro w hSw; (try dsimp only at hSw); go_simp; try (with_reducible rfl))
              try simp only [Act.put, List.setIfInBounds_toArray, List.set_cons_zero, List.set_cons_succ, List.getElem_toArray, List.getElem_cons_zero, List.getElem_cons_succ]
              refine wpAnyH_take (i := 11) (oi := _) (v := ?_) rfl (by kernel_rfl) (by kernel_rfl) (by kernel_rfl) (fun _ _ _ h => h) (Or.inl ⟨by kernel_rfl, ?_⟩) (by assumption) ?_
              rotate_left
              · (intro w hSw; (try dsimp only at hSw); go_simp; try (with_reducible rfl))
              try simp only [Act.put, List.setIfInBounds_toArray, List.set_cons_zero, List.set_cons_succ, List.getElem_toArray, List.getElem_cons_zero, List.getElem_cons_succ]
              refine wpAnyH_take (i := 15) (oi := _) (v := ?_) rfl (by kernel_rfl) (by kernel_rfl) (by kernel_rfl) (fun _ _ _ h => h) (Or.inl ⟨by kernel_rfl, ?_⟩) (by assumption) ?_
              rotate_left
              · (intro w hSw; (try dsimp only at hSw); go_simp; try (with_reducible rfl))
              try simp only [Act.put, List.setIfInBounds_toArray, List.set_cons_zero, List.set_cons_succ, List.getElem_toArray, List.getElem_cons_zero, List.getElem_cons_succ]
              refine wpAnyH_take (i := 16) (oi := _) (v := ?_) rfl (by kernel_rfl) (by kernel_rfl) (by kernel_rfl) (fun _ _ _ h => h) (Or.inl ⟨by kernel_rfl, ?_⟩) (by assumption) ?_
              rotate_left
              · (intro w hSw; (try dsimp only at hSw); go_simp; try (with_reducible rfl))
              try simp only [Act.put, List.setIfInBounds_toArray, List.set_cons_zero, List.set_cons_succ, List.getElem_toArray, List.getElem_cons_zero, List.getElem_cons_succ]
              refine wpAnyH_take (i := 17) (oi := _) (v := ?_) rfl (by kernel_rfl) (by kernel_rfl) (by kernel_rfl) (fun _ _ _ h => h) (Or.inl ⟨by kernel_rfl, ?_⟩) (by assumption) ?_
              rotate_left
              · (intro w hSw; (try dsimp only at hSw); go_simp; try (with_reducible rfl))
              try simp only [Act.put, List.setIfInBounds_toArray, List.set_cons_zero, List.set_cons_succ, List.getElem_toArray, List.getElem_cons_zero, List.getElem_cons_succ]
              refine wpAnyH_take (i := 19) (oi := _) (v := ?_) rfl (by kernel_rfl) (by kernel_rfl) (by kernel_rfl) (fun _ _ _ h => h) (Or.inl ⟨by kernel_rfl, ?_⟩) (by assumption) ?_
              rotate_left
              · (intro w hSw; (try dsimp only at hSw); go_simp; try (with_reducible rfl))
              try simp only [Act.put, List.setIfInBounds_toArray, List.set_cons_zero, List.set_cons_succ, List.getElem_toArray, List.getElem_cons_zero, List.getElem_cons_succ]
              refine wpAnyH_take (i := 20) (oi := _) (v := ?_) rfl (by kernel_rfl) (by kernel_rfl) (by kernel_rfl) (fun _ _ _ h => h) (Or.inl ⟨by kernel_rfl, ?_⟩) (by assumption) ?_
              rotate_left
              · (intro w hSw; (try dsimp only at hSw); go_simp; try (with_reducible rfl))
              try simp only [Act.put, List.setIfInBounds_toArray, List.set_cons_zero, List.set_cons_succ, List.getElem_toArray, List.getElem_cons_zero, List.getElem_cons_succ]
              refine wpAnyH_take (i := 18) (oi := _) (v := .int .i64 vt) rfl (by kernel_rfl) (by kernel_rfl) (by kernel_rfl) (fun _ _ _ h => h) (Or.inl ⟨by kernel_rfl, ?_⟩) (by assumption) ?_
              · (intro wz hSw; (try dsimp only at hSw); obtain ⟨c0, hrun, hat, _⟩ := hSw.lookup_int (t := 89) (e := 51) (q := .i64) keyedV Try.underlying89 Try.underlying51 (zeroNum _) KT.out; (obtain rfl : c0 = vt := by (have h9 := hat.symm.trans AT.out; simpa using h9)); go_simp; try (with_reducible rfl))
              try simp only [Act.put, List.setIfInBounds_toArray, List.set_cons_zero, List.set_cons_succ, List.getElem_toArray, List.getElem_cons_zero, List.getElem_cons_succ]
              refine wpAnyH_take (i := 21) (oi := _) (v := .int .i64 vu) rfl (by kernel_rfl) (by kernel_rfl) (by kernel_rfl) (fun _ _ _ h => h) (Or.inl ⟨by kernel_rfl, ?_⟩) (by assumption) ?_
              · (intro wz hSw; (try dsimp only at hSw); obtain ⟨c0, hrun, hat, _⟩ := hSw.lookup_int (t := 89) (e := 51) (q := .i64) keyedV Try.underlying89 Try.underlying51 (zeroNum _) KU.out; (obtain rfl : c0 = vu := by (have h9 := hat.symm.trans AU.out; simpa using h9)); go_simp; try (with_reducible rfl))
              try simp only [Act.put, List.setIfInBounds_toArray, List.set_cons_zero, List.set_cons_succ, List.getElem_toArray, List.getElem_cons_zero, List.getElem_cons_succ]
              refine wpAnyH_ready (rs := [7]) (by kernel_rfl) (by simp) (AllReadyH.cons (o := _) rfl (fun K hK => ?_) AllReadyH.nil)
              go_simp
              (go_at_call 85; refine (CT1 _).mono ?_; rintro e w3 ⟨rfl, bel3⟩)
              have B3 : Below wr.heap.size wr w3 := ⟨bel3.os, bel3.tape, bel3.output, bel3.size, bel3.block⟩
              have hs3 := B3.size
              clear bel3 CT1
              go_wp2_with fail
              refine hK.out _ _ ?_ (fun hHeld => ?_)
              · exact HMP.out _ B3
              clear hK K
              try simp only [Act.put, List.setIfInBounds_toArray, List.set_cons_zero, List.set_cons_succ, List.getElem_toArray, List.getElem_cons_zero, List.getElem_cons_succ]
              refine wpAnyH_take (i := 8) (oi := _) (v := .int .i64 vp) rfl (by kernel_rfl) (by kernel_rfl) (by kernel_rfl) (fun _ _ _ h => h) (Or.inl ⟨by kernel_rfl, ?_⟩) (by assumption) ?_
              · (intro wz hSw; (try dsimp only at hSw); obtain ⟨c0, hrun, hat, _⟩ := hSw.lookup_int (t := 89) (e := 51) (q := .i64) keyedV Try.underlying89 Try.underlying51 (zeroNum _) KP.out; (obtain rfl : c0 = vp := by (have h9 := hat.symm.trans AP.out; simpa using h9)); go_simp; try (with_reducible rfl))
              try simp only [Act.put, List.setIfInBounds_toArray, List.set_cons_zero, List.set_cons_succ, List.getElem_toArray, List.getElem_cons_zero, List.getElem_cons_succ]
              refine wpAnyH_ready (rs := [12]) (by kernel_rfl) (by simp) (AllReadyH.cons (o := _) rfl (fun K hK => ?_) AllReadyH.nil)
              go_simp
              (go_at_call 85; refine (CT2 _).mono ?_; rintro e w4 ⟨rfl, bel4⟩)
              have B4 : Below wr.heap.size wr w4 := B3.trans (Below.mono ⟨bel4.os, bel4.tape, bel4.output, bel4.size, bel4.block⟩ hs3)
              clear bel4 CT2
              go_wp2_with fail
              refine hK.out _ _ ?_ (fun hHeld => ?_)
              · exact HMP.out _ B4
              clear hK K
              try simp only [Act.put, List.setIfInBounds_toArray, List.set_cons_zero, List.set_cons_succ, List.getElem_toArray, List.getElem_cons_zero, List.getElem_cons_succ]
              refine wpAnyH_take (i := 13) (oi := _) (v := .int .i64 vq) rfl (by kernel_rfl) (by kernel_rfl) (by kernel_rfl) (fun _ _ _ h => h) (Or.inl ⟨by kernel_rfl, ?_⟩) (by assumption) ?_
              · (intro wz hSw; (try dsimp only at hSw); obtain ⟨c0, hrun, hat, _⟩ := hSw.lookup_int (t := 89) (e := 51) (q := .i64) keyedV Try.underlying89 Try.underlying51 (zeroNum _) KQ.out; (obtain rfl : c0 = vq := by (have h9 := hat.symm.trans AQ.out; simpa using h9)); go_simp; try (with_reducible rfl))
              try simp only [Act.put, List.setIfInBounds_toArray, List.set_cons_zero, List.set_cons_succ, List.getElem_toArray, List.getElem_cons_zero, List.getElem_cons_succ]
              refine wpAnyH_ready (rs := [14]) (by kernel_rfl) (by simp) (AllReadyH.cons (o := _) rfl (fun K hK => ?_) AllReadyH.nil)
              go_simp
              (go_at_call 72; refine (CP _).mono ?_; rintro e w8 ⟨rfl, rfl⟩)
              go_wp2_with fail
              refine hK.out _ _ ?_ (fun hHeld => ?_)
              · exact HMP.out _ B4
              clear hK K
              try simp only [Act.put, List.setIfInBounds_toArray, List.set_cons_zero, List.set_cons_succ, List.getElem_toArray, List.getElem_cons_zero, List.getElem_cons_succ]
              refine wpAnyH_ready (rs := [22]) (by kernel_rfl) (by simp) (AllReadyH.cons (o := _) rfl (fun K hK => ?_) AllReadyH.nil)
              go_simp
              (go_at_call 54; refine (none_any vt vu _).mono ?_; rintro e w9 ⟨rfl, rfl⟩)
              go_wp2_with fail
              refine hK.out _ _ ?_ (fun hHeld => ?_)
              · exact HMP.out _ B4
              clear hK K
              try simp only [Act.put, List.setIfInBounds_toArray, List.set_cons_zero, List.set_cons_succ, List.getElem_toArray, List.getElem_cons_zero, List.getElem_cons_succ]
              refine wpAnyH_take (i := 23) (oi := _) (v := .bool false) rfl (by kernel_rfl) (by kernel_rfl) (by kernel_rfl) (fun _ _ _ h => h) (Or.inl ⟨by kernel_rfl, ?_⟩) (by assumption) ?_
              · (intro wz hSw; (try dsimp only at hSw); go_simp; try (with_reducible rfl))
              try simp only [Act.put, List.setIfInBounds_toArray, List.set_cons_zero, List.set_cons_succ, List.getElem_toArray, List.getElem_cons_zero, List.getElem_cons_succ]
              refine wpAnyH_take (i := 24) (oi := _) (v := ?_) rfl (by kernel_rfl) (by kernel_rfl) (by kernel_rfl) (fun _ _ _ h => h) (Or.inl ⟨by kernel_rfl, ?_⟩) (by assumption) ?_
              rotate_left
              · (intro w hSw; (try dsimp only at hSw); go_simp; try (with_reducible rfl))
              try simp only [Act.put, List.setIfInBounds_toArray, List.set_cons_zero, List.set_cons_succ, List.getElem_toArray, List.getElem_cons_zero, List.getElem_cons_succ]
              refine wpAnyH_done (by kernel_rfl) ?_ _
              refine NoPanic.normal ?_
              have GB : Hid (Below w2.heap.size w2 w4) := HW.out.trans (B4.mono hwz)
              clear B3 B4 hHeld
              go_wp2
              go_roundw
              case rel => exact ⟨L, k + 1, rfl, by omega, by go_num, G, GB⟩
              case measure => simp [intOf]; omega
            · have tb : (m3 != 0) = true := bne_t hok
              have G := Lib.hid (HT.out.bad HTT.out HUU.out (by rw [HNT.out, HNU.out]; omega) (fun g => hok (GOK.out.1 g)))
              rw [HNT.out, HNU.out] at G
              have wn : IntKind.i64.wrap (((nt + nu : Nat) : Int) - 1) = (nt : Int) + (nu : Int) - 1 := by rw [IntWalk.i64_in _ (by omega)]; omega
              clear hok HT GOK
              refine wp_region_noPanic ?_
              refine wp_region_held_drew (S := (fun w' => w'.ownsMap Try.prog 73 (plainElem Try.prog 51) mb 37 D)) (by kernel_rfl) ?_ (fun hHeld => ?_)
              · exact HMP.out _ (below_drew' (Below.refl _ _))
              refine wpAnyH_take (i := 0) (oi := _) (v := ?_) rfl (by kernel_rfl) (by kernel_rfl) (by kernel_rfl) (fun _ _ _ h => h) (Or.inl ⟨by kernel_rfl, ?_⟩) (by assumption) ?_
              rotate_left
              · (intro w hSw; (try dsimp only at hSw); go_simp; try (with_reducible rfl))
              try simp only [Act.put, List.setIfInBounds_toArray, List.set_cons_zero, List.set_cons_succ, List.getElem_toArray, List.getElem_cons_zero, List.getElem_cons_succ]
              refine wpAnyH_take (i := 1) (oi := _) (v := ?_) rfl (by kernel_rfl) (by kernel_rfl) (by kernel_rfl) (fun _ _ _ h => h) (Or.inl ⟨by kernel_rfl, ?_⟩) (by assumption) ?_
              rotate_left
              · (intro w hSw; (try dsimp only at hSw); go_simp; try (with_reducible rfl))
              try simp only [Act.put, List.setIfInBounds_toArray, List.set_cons_zero, List.set_cons_succ, List.getElem_toArray, List.getElem_cons_zero, List.getElem_cons_succ]
              refine wpAnyH_take (i := 2) (oi := _) (v := .bool true) rfl (by kernel_rfl) (by kernel_rfl) (by kernel_rfl) (fun _ _ _ h => h) (Or.inl ⟨by kernel_rfl, ?_⟩) (by assumption) ?_
              · (intro wz hSw; (try dsimp only at hSw); go_simp; try (with_reducible rfl))
              try simp only [Act.put, List.setIfInBounds_toArray, List.set_cons_zero, List.set_cons_succ, List.getElem_toArray, List.getElem_cons_zero, List.getElem_cons_succ]
              refine wpAnyH_take (i := 3) (oi := _) (v := ?_) rfl (by kernel_rfl) (by kernel_rfl) (by kernel_rfl) (fun _ _ _ h => h) (Or.inl ⟨by kernel_rfl, ?_⟩) (by assumption) ?_
              rotate_left
              · (intro w hSw; (try dsimp only at hSw); go_simp; try (with_reducible rfl))
              try simp only [Act.put, List.setIfInBounds_toArray, List.set_cons_zero, List.set_cons_succ, List.getElem_toArray, List.getElem_cons_zero, List.getElem_cons_succ]
              refine wpAnyH_take (i := 4) (oi := _) (v := ?_) rfl (by kernel_rfl) (by kernel_rfl) (by kernel_rfl) (fun _ _ _ h => h) (Or.inl ⟨by kernel_rfl, ?_⟩) (by assumption) ?_
              rotate_left
              · (intro w hSw; (try dsimp only at hSw); go_simp; try (with_reducible rfl))
              try simp only [Act.put, List.setIfInBounds_toArray, List.set_cons_zero, List.set_cons_succ, List.getElem_toArray, List.getElem_cons_zero, List.getElem_cons_succ]
              refine wpAnyH_take (i := 5) (oi := _) (v := ?_) rfl (by kernel_rfl) (by kernel_rfl) (by kernel_rfl) (fun _ _ _ h => h) (Or.inl ⟨by kernel_rfl, ?_⟩) (by assumption) ?_
              rotate_left
              · (intro w hSw; (try dsimp only at hSw); go_simp; try (with_reducible rfl))
              try simp only [Act.put, List.setIfInBounds_toArray, List.set_cons_zero, List.set_cons_succ, List.getElem_toArray, List.getElem_cons_zero, List.getElem_cons_succ]
              refine wpAnyH_take (i := 6) (oi := _) (v := ?_) rfl (by kernel_rfl) (by kernel_rfl) (by kernel_rfl) (fun _ _ _ h => h) (Or.inl ⟨by kernel_rfl, ?_⟩) (by assumption) ?_
              rotate_left
              · (intro w hSw; (try dsimp only at hSw); go_simp; try (with_reducible rfl))
              try simp only [Act.put, List.setIfInBounds_toArray, List.set_cons_zero, List.set_cons_succ, List.getElem_toArray, List.getElem_cons_zero, List.getElem_cons_succ]
              refine wpAnyH_take (i := 9) (oi := _) (v := ?_) rfl (by kernel_rfl) (by kernel_rfl) (by kernel_rfl) (fun _ _ _ h => h) (Or.inl ⟨by kernel_rfl, ?_⟩) (by assumption) ?_
              rotate_left
              · (intro w hSw; (try dsimp only at hSw); go_simp; try (with_reducible rfl))
              try simp only [Act.put, List.setIfInBounds_toArray, List.set_cons_zero, List.set_cons_succ, List.getElem_toArray, List.getElem_cons_zero, List.getElem_cons_succ]
              refine wpAnyH_take (i := 10) (oi := _) (v := ?_) rfl (by kernel_rfl) (by kernel_rfl) (by kernel_rfl) (fun _ _ _ h => h) (Or.inl ⟨by kernel_rfl, ?_⟩) (by assumption) ?_
              rotate_left
              · (intro w hSw; (try dsimp only at hSw); go_simp; try (with_reducible rfl))
              try simp only [Act.put, List.setIfInBounds_toArray, List.set_cons_zero, List.set_cons_succ, List.getElem_toArray, List.getElem_cons_zero, List.getElem_cons_succ]
              refine wpAnyH_take (i := 11) (oi := _) (v := ?_) rfl (by kernel_rfl) (by kernel_rfl) (by kernel_rfl) (fun _ _ _ h => h) (Or.inl ⟨by kernel_rfl, ?_⟩) (by assumption) ?_
              rotate_left
              · (intro w hSw; (try dsimp only at hSw); go_simp; try (with_reducible rfl))
              try simp only [Act.put, List.setIfInBounds_toArray, List.set_cons_zero, List.set_cons_succ, List.getElem_toArray, List.getElem_cons_zero, List.getElem_cons_succ]
              refine wpAnyH_take (i := 15) (oi := _) (v := ?_) rfl (by kernel_rfl) (by kernel_rfl) (by kernel_rfl) (fun _ _ _ h => h) (Or.inl ⟨by kernel_rfl, ?_⟩) (by assumption) ?_
              rotate_left
              · (intro w hSw; (try dsimp only at hSw); go_simp; try (with_reducible rfl))
              try simp only [Act.put, List.setIfInBounds_toArray, List.set_cons_zero, List.set_cons_succ, List.getElem_toArray, List.getElem_cons_zero, List.getElem_cons_succ]
              refine wpAnyH_take (i := 16) (oi := _) (v := ?_) rfl (by kernel_rfl) (by kernel_rfl) (by kernel_rfl) (fun _ _ _ h => h) (Or.inl ⟨by kernel_rfl, ?_⟩) (by assumption) ?_
              rotate_left
              · (intro w hSw; (try dsimp only at hSw); go_simp; try (with_reducible rfl))
              try simp only [Act.put, List.setIfInBounds_toArray, List.set_cons_zero, List.set_cons_succ, List.getElem_toArray, List.getElem_cons_zero, List.getElem_cons_succ]
              refine wpAnyH_take (i := 17) (oi := _) (v := ?_) rfl (by kernel_rfl) (by kernel_rfl) (by kernel_rfl) (fun _ _ _ h => h) (Or.inl ⟨by kernel_rfl, ?_⟩) (by assumption) ?_
              rotate_left
              · (intro w hSw; (try dsimp only at hSw); go_simp; try (with_reducible rfl))
              try simp only [Act.put, List.setIfInBounds_toArray, List.set_cons_zero, List.set_cons_succ, List.getElem_toArray, List.getElem_cons_zero, List.getElem_cons_succ]
              refine wpAnyH_take (i := 19) (oi := _) (v := ?_) rfl (by kernel_rfl) (by kernel_rfl) (by kernel_rfl) (fun _ _ _ h => h) (Or.inl ⟨by kernel_rfl, ?_⟩) (by assumption) ?_
              rotate_left
              · (intro w hSw; (try dsimp only at hSw); go_simp; try (with_reducible rfl))
              try simp only [Act.put, List.setIfInBounds_toArray, List.set_cons_zero, List.set_cons_succ, List.getElem_toArray, List.getElem_cons_zero, List.getElem_cons_succ]
              refine wpAnyH_take (i := 20) (oi := _) (v := ?_) rfl (by kernel_rfl) (by kernel_rfl) (by kernel_rfl) (fun _ _ _ h => h) (Or.inl ⟨by kernel_rfl, ?_⟩) (by assumption) ?_
              rotate_left
              · (intro w hSw; (try dsimp only at hSw); go_simp; try (with_reducible rfl))
              try simp only [Act.put, List.setIfInBounds_toArray, List.set_cons_zero, List.set_cons_succ, List.getElem_toArray, List.getElem_cons_zero, List.getElem_cons_succ]
              refine wpAnyH_take (i := 18) (oi := _) (v := .int .i64 vt) rfl (by kernel_rfl) (by kernel_rfl) (by kernel_rfl) (fun _ _ _ h => h) (Or.inl ⟨by kernel_rfl, ?_⟩) (by assumption) ?_
              · (intro wz hSw; (try dsimp only at hSw); obtain ⟨c0, hrun, hat, _⟩ := hSw.lookup_int (t := 89) (e := 51) (q := .i64) keyedV Try.underlying89 Try.underlying51 (zeroNum _) KT.out; (obtain rfl : c0 = vt := by (have h9 := hat.symm.trans AT.out; simpa using h9)); go_simp; try (with_reducible rfl))
              try simp only [Act.put, List.setIfInBounds_toArray, List.set_cons_zero, List.set_cons_succ, List.getElem_toArray, List.getElem_cons_zero, List.getElem_cons_succ]
              refine wpAnyH_take (i := 21) (oi := _) (v := .int .i64 vu) rfl (by kernel_rfl) (by kernel_rfl) (by kernel_rfl) (fun _ _ _ h => h) (Or.inl ⟨by kernel_rfl, ?_⟩) (by assumption) ?_
              · (intro wz hSw; (try dsimp only at hSw); obtain ⟨c0, hrun, hat, _⟩ := hSw.lookup_int (t := 89) (e := 51) (q := .i64) keyedV Try.underlying89 Try.underlying51 (zeroNum _) KU.out; (obtain rfl : c0 = vu := by (have h9 := hat.symm.trans AU.out; simpa using h9)); go_simp; try (with_reducible rfl))
              try simp only [Act.put, List.setIfInBounds_toArray, List.set_cons_zero, List.set_cons_succ, List.getElem_toArray, List.getElem_cons_zero, List.getElem_cons_succ]
              refine wpAnyH_ready (rs := [7]) (by kernel_rfl) (by simp) (AllReadyH.cons (o := _) rfl (fun K hK => ?_) AllReadyH.nil)
              go_simp
              (go_at_call 85; refine (CT1 _).mono ?_; rintro e w3 ⟨rfl, bel3⟩)
              have B3 : Below wr.heap.size wr w3 := ⟨bel3.os, bel3.tape, bel3.output, bel3.size, bel3.block⟩
              have hs3 := B3.size
              clear bel3 CT1
              go_wp2_with fail
              refine hK.out _ _ ?_ (fun hHeld => ?_)
              · exact HMP.out _ B3
              clear hK K
              try simp only [Act.put, List.setIfInBounds_toArray, List.set_cons_zero, List.set_cons_succ, List.getElem_toArray, List.getElem_cons_zero, List.getElem_cons_succ]
              refine wpAnyH_take (i := 8) (oi := _) (v := .int .i64 vp) rfl (by kernel_rfl) (by kernel_rfl) (by kernel_rfl) (fun _ _ _ h => h) (Or.inl ⟨by kernel_rfl, ?_⟩) (by assumption) ?_
              · (intro wz hSw; (try dsimp only at hSw); obtain ⟨c0, hrun, hat, _⟩ := hSw.lookup_int (t := 89) (e := 51) (q := .i64) keyedV Try.underlying89 Try.underlying51 (zeroNum _) KP.out; (obtain rfl : c0 = vp := by (have h9 := hat.symm.trans AP.out; simpa using h9)); go_simp; try (with_reducible rfl))
              try simp only [Act.put, List.setIfInBounds_toArray, List.set_cons_zero, List.set_cons_succ, List.getElem_toArray, List.getElem_cons_zero, List.getElem_cons_succ]
              refine wpAnyH_ready (rs := [12]) (by kernel_rfl) (by simp) (AllReadyH.cons (o := _) rfl (fun K hK => ?_) AllReadyH.nil)
              go_simp
              (go_at_call 85; refine (CT2 _).mono ?_; rintro e w4 ⟨rfl, bel4⟩)
              have B4 : Below wr.heap.size wr w4 := B3.trans (Below.mono ⟨bel4.os, bel4.tape, bel4.output, bel4.size, bel4.block⟩ hs3)
              clear bel4 CT2
              go_wp2_with fail
              refine hK.out _ _ ?_ (fun hHeld => ?_)
              · exact HMP.out _ B4
              clear hK K
              try simp only [Act.put, List.setIfInBounds_toArray, List.set_cons_zero, List.set_cons_succ, List.getElem_toArray, List.getElem_cons_zero, List.getElem_cons_succ]
              refine wpAnyH_take (i := 13) (oi := _) (v := .int .i64 vq) rfl (by kernel_rfl) (by kernel_rfl) (by kernel_rfl) (fun _ _ _ h => h) (Or.inl ⟨by kernel_rfl, ?_⟩) (by assumption) ?_
              · (intro wz hSw; (try dsimp only at hSw); obtain ⟨c0, hrun, hat, _⟩ := hSw.lookup_int (t := 89) (e := 51) (q := .i64) keyedV Try.underlying89 Try.underlying51 (zeroNum _) KQ.out; (obtain rfl : c0 = vq := by (have h9 := hat.symm.trans AQ.out; simpa using h9)); go_simp; try (with_reducible rfl))
              try simp only [Act.put, List.setIfInBounds_toArray, List.set_cons_zero, List.set_cons_succ, List.getElem_toArray, List.getElem_cons_zero, List.getElem_cons_succ]
              refine wpAnyH_ready (rs := [14]) (by kernel_rfl) (by simp) (AllReadyH.cons (o := _) rfl (fun K hK => ?_) AllReadyH.nil)
              go_simp
              (go_at_call 72; refine (CP _).mono ?_; rintro e w8 ⟨rfl, rfl⟩)
              go_wp2_with fail
              refine hK.out _ _ ?_ (fun hHeld => ?_)
              · exact HMP.out _ B4
              clear hK K
              try simp only [Act.put, List.setIfInBounds_toArray, List.set_cons_zero, List.set_cons_succ, List.getElem_toArray, List.getElem_cons_zero, List.getElem_cons_succ]
              refine wpAnyH_ready (rs := [22]) (by kernel_rfl) (by simp) (AllReadyH.cons (o := _) rfl (fun K hK => ?_) AllReadyH.nil)
              go_simp
              (go_at_call 54; refine (none_any vt vu _).mono ?_; rintro e w9 ⟨rfl, rfl⟩)
              go_wp2_with fail
              refine hK.out _ _ ?_ (fun hHeld => ?_)
              · exact HMP.out _ B4
              clear hK K
              try simp only [Act.put, List.setIfInBounds_toArray, List.set_cons_zero, List.set_cons_succ, List.getElem_toArray, List.getElem_cons_zero, List.getElem_cons_succ]
              refine wpAnyH_take (i := 23) (oi := _) (v := .bool true) rfl (by kernel_rfl) (by kernel_rfl) (by kernel_rfl) (fun _ _ _ h => h) (Or.inl ⟨by kernel_rfl, ?_⟩) (by assumption) ?_
              · (intro wz hSw; (try dsimp only at hSw); go_simp; try (with_reducible rfl))
              try simp only [Act.put, List.setIfInBounds_toArray, List.set_cons_zero, List.set_cons_succ, List.getElem_toArray, List.getElem_cons_zero, List.getElem_cons_succ]
              refine wpAnyH_take (i := 24) (oi := _) (v := ?_) rfl (by kernel_rfl) (by kernel_rfl) (by kernel_rfl) (fun _ _ _ h => h) (Or.inl ⟨by kernel_rfl, ?_⟩) (by assumption) ?_
              rotate_left
              · (intro w hSw; (try dsimp only at hSw); go_simp; try (with_reducible rfl))
              try simp only [Act.put, List.setIfInBounds_toArray, List.set_cons_zero, List.set_cons_succ, List.getElem_toArray, List.getElem_cons_zero, List.getElem_cons_succ]
              refine wpAnyH_done (by kernel_rfl) ?_ _
              refine NoPanic.normal ?_
              have GB : Hid (Below w2.heap.size w2 w4) := HW.out.trans (B4.mono hwz)
              clear B3 B4 hHeld
              go_wp2
              go_roundw
              case rel => exact ⟨(nt : Int) + (nu : Int) - 1, k + 1, by first | rfl | go_num | (simp only [Value.int.injEq, true_and]; omega), by omega, by go_num, G, GB⟩
              case measure => simp [intOf]; omega
          · have G := Lib.hid (HT.out.over HTT.out HUU.out (by rw [HNT.out, HNU.out]; omega))
            have GB : Hid (∀ d, Below w2.heap.size w2 (wr.drewN d)) := fun d => below_drewN HW.out d
            have hgt : L < (nt : Int) + (nu : Int) := by omega
            clear HT
            refine wp_region_noPanic ?_
            refine wp_region_held_drew (S := (fun w' => w'.ownsMap Try.prog 73 (plainElem Try.prog 51) mb 37 D)) (by kernel_rfl) ?_ (fun hHeld => ?_)
            · exact HMP.out _ (below_drew' (Below.refl _ _))
            refine wpAnyH_take (i := 0) (oi := _) (v := ?_) rfl (by kernel_rfl) (by kernel_rfl) (by kernel_rfl) (fun _ _ _ h => h) (Or.inl ⟨by kernel_rfl, ?_⟩) (by assumption) ?_
            rotate_left
            · (intro w hSw; (try dsimp only at hSw); go_simp; try (with_reducible rfl))
            try simp only [Act.put, List.setIfInBounds_toArray, List.set_cons_zero, List.set_cons_succ, List.getElem_toArray, List.getElem_cons_zero, List.getElem_cons_succ]
            refine wpAnyH_take (i := 1) (oi := _) (v := ?_) rfl (by kernel_rfl) (by kernel_rfl) (by kernel_rfl) (fun _ _ _ h => h) (Or.inl ⟨by kernel_rfl, ?_⟩) (by assumption) ?_
            rotate_left
            · (intro w hSw; (try dsimp only at hSw); go_simp; try (with_reducible rfl))
            try simp only [Act.put, List.setIfInBounds_toArray, List.set_cons_zero, List.set_cons_succ, List.getElem_toArray, List.getElem_cons_zero, List.getElem_cons_succ]
            refine wpAnyH_take (i := 2) (oi := _) (v := .bool false) rfl (by kernel_rfl) (by kernel_rfl) (by kernel_rfl) (fun _ _ _ h => h) (Or.inl ⟨by kernel_rfl, ?_⟩) (by assumption) ?_
            · (intro wz hSw; (try dsimp only at hSw); go_simp; try (with_reducible rfl))
            try simp only [Act.put, List.setIfInBounds_toArray, List.set_cons_zero, List.set_cons_succ, List.getElem_toArray, List.getElem_cons_zero, List.getElem_cons_succ]
            refine wpAnyH_take (i := 3) (oi := _) (v := ?_) rfl (by kernel_rfl) (by kernel_rfl) (by kernel_rfl) (fun _ _ _ h => h) (Or.inl ⟨by kernel_rfl, ?_⟩) (by assumption) ?_
            rotate_left
            · (intro w hSw; (try dsimp only at hSw); go_simp; try (with_reducible rfl))
            try simp only [Act.put, List.setIfInBounds_toArray, List.set_cons_zero, List.set_cons_succ, List.getElem_toArray, List.getElem_cons_zero, List.getElem_cons_succ]
            refine wpAnyH_skipN (by assumption) [(4, 39), (5, 40), (6, 41), (7, 42), (8, 43), (9, 44), (10, 45), (11, 46), (12, 47), (13, 48), (14, 49), (15, 50), (16, 51), (17, 52), (18, 53), (19, 54), (20, 55), (21, 56), (22, 57), (23, 58)] 1 _ _ (by kernel_rfl) ?_
            simp only [List.foldl, Act.put, List.setIfInBounds_toArray, List.set_cons_zero, List.set_cons_succ]
            refine wpAnyH_take (i := 24) (oi := _) (v := ?_) rfl (by kernel_rfl) (by kernel_rfl) (by kernel_rfl) (fun _ _ _ h => h) (Or.inl ⟨by kernel_rfl, ?_⟩) (by assumption) ?_
            rotate_left
            · (intro w hSw; (try dsimp only at hSw); go_simp; try (with_reducible rfl))
            try simp only [Act.put, List.setIfInBounds_toArray, List.set_cons_zero, List.set_cons_succ, List.getElem_toArray, List.getElem_cons_zero, List.getElem_cons_succ]
            refine wpAnyH_done (by kernel_rfl) ?_ _
            refine NoPanic.normal ?_
            clear HW hHeld
            go_wp2
            go_roundw
            case rel => exact ⟨L, k + 1, rfl, by omega, by go_num, G, by first | exact GB.out _ | exact GB.out 1⟩
            case measure => simp [intOf]; omega
        · obtain rfl : k = 37 := by omega
          have G := Lib.hid HT.out.leave
          clear HT
          go_wp2
          go_roundw
          case rel => exact ⟨L, i + 1, rfl, by omega, by go_num, G, HW⟩
          case measure => simp [intOf]; omega
    · obtain rfl : i = 37 := by omega
      have G : Hid (limOf xs = L) := IsLim.of HT.out.done
      have GB : Hid (Below w.heap.size w wr) := B2.out.trans (HW.out.mono B2.out.size)
      clear HT
      go_wp2
      go_ret
      exact ⟨ret_i64 G.out.symm, GB.out⟩
end Go.Proofs.Ytnnihdkhblbdgaa
/-
  What SymplecticTo and HamiltonianTo answer.
-/
namespace Go.Proofs.Ytnnihdkhblbdgaa
open Go.RowKit Fld
set_option linter.unusedVariables false
set_option linter.unusedSimpArgs false
set_option maxRecDepth 100000

theorem symToA_no {a : List Int} (h : isMp a = false) : symToA a = (0, 1) := if_neg (by rw [h]; simp)
theorem symToA_one {a : List Int} {x : Int} (h : isMp a = true) (hx : a[0]? = some x) (e : x = 1) : symToA a = (limOf a, 0) := by
  unfold symToA; rw [if_pos h, List.getD_eq_getElem?_getD, hx]; exact if_pos e
theorem symToA_not {a : List Int} {x : Int} (h : isMp a = true) (hx : a[0]? = some x) (e : x ≠ 1) : symToA a = (0, 5) := by
  unfold symToA; rw [if_pos h, List.getD_eq_getElem?_getD, hx]; exact if_neg e
set_option maxHeartbeats 1000000 in
theorem l07Code_c (A : Option Addr) (n c B : Nat) (a : List Int) (w : World) (hl : a.length = n) (hn : n ≤ 1048576) (h : Row w B A (ints a)) :
    Calls Try.prog 46 #[.slice A n c, .slice A n c] w fun e w' => e = .returned (.int .i64 (symToA a).2) ∧ w = w' := by
  have C0 := l07Is_any A n c B a w hl (by omega) h
  cases ha : isMp a
  · have G := Lib.hid (symToA_no ha)
    rw [ha] at C0
    clear hl
    go_enter Try.func46, Try.ntmps46
    go_wp2_with (go_at_call 77; refine C0.mono ?_; rintro e w' ⟨rfl, rfl⟩)
    go_ret
    exact ⟨ret_i64 (by rw [G.out]), rfl⟩
  · obtain ⟨x, b, o, hx, rfl, hc, p1, x0, x1⟩ := map_first ha hl h
    rw [ha] at C0
    by_cases hx1 : x = 1
    · have G := Lib.hid (symToA_one ha hx hx1)
      have t : (x != 1) = false := bne_f hx1
      clear hl hx hx1
      go_enter Try.func46, Try.ntmps46
      go_wp2_with (go_at_call 77; refine C0.mono ?_; rintro e w' ⟨rfl, rfl⟩)
      go_ret
      exact ⟨ret_i64 (by rw [G.out]), rfl⟩
    · have G := Lib.hid (symToA_not ha hx hx1)
      have t : (x != 1) = true := bne_t hx1
      clear hl hx hx1
      go_enter Try.func46, Try.ntmps46
      go_wp2_with (go_at_call 77; refine C0.mono ?_; rintro e w' ⟨rfl, rfl⟩)
      go_ret
      exact ⟨ret_i64 (by rw [G.out]), rfl⟩
set_option maxHeartbeats 1000000 in
theorem sSymplecticTo_L (A : Option Addr) (n c B : Nat) (a : List Int) (w : World) (hl : a.length = n) (hn : n ≤ 1048576) (hB : B ≤ w.heap.size) (h : Row w B A (ints a)) :
    Calls Try.prog 23 #[.slice A n c] w (ResI (symToA a) w) := by
  have C0 := l07Code_c A n c B a w hl hn h
  have done : ∀ k : Int, k ≠ 0 → symToA a = (0, k) → Calls Try.prog 23 #[.slice A n c] w (ResI (symToA a) w) := by
    intro k hk e
    rw [e] at C0
    have t : (k != 0) = true := bne_t hk
    have G := Lib.hid e
    clear hl e
    go_enter Try.func23, Try.ntmps23
    go_wp2_with fail
    refine C0.mono ?_
    rintro e w' ⟨rfl, rfl⟩
    go_wp2
    go_ret2
    exact ResI.of' G.out (Below.refl _ _)
  cases ha : isMp a
  · exact done 1 (by omega) (symToA_no ha)
  · obtain ⟨x, b, o, hx, rfl, hc, p1, x0, x1⟩ := map_first ha hl h
    by_cases hx1 : x = 1
    · have e := symToA_one ha hx hx1
      have G := Lib.hid e
      rw [e] at C0
      obtain ⟨e1, na⟩ := isMp_parts ha hl
      have HL0 := hl
      subst e1
      have HL := Lib.hid HL0
      have NA := Lib.hid na
      clear hl HL0 hx hx1 ha done e na
      go_enter Try.func23, Try.ntmps23
      go_wp2_with fail
      refine C0.mono ?_
      rintro e w' ⟨rfl, rfl⟩
      go_wp2_with fail
      refine (l12To_any _ c B a _ HL.out NA.out hB h).mono ?_
      rintro e w1 ⟨rfl, b1⟩
      have B1 := Lib.hid b1
      clear b1 hc
      go_wp2
      go_ret2
      exact ResI.of' G.out B1.out
    · exact done 5 (by omega) (symToA_not ha hx hx1)
set_option maxHeartbeats 1000000 in
theorem pSymplecticTo_L (A : Option Addr) (n c B : Nat) (a : List Int) (w : World) (hl : a.length = n) (hn : n ≤ 1048576) (hB : B ≤ w.heap.size) (h : Row w B A (ints a)) (hcp : n ≤ c) :
    Calls Try.prog 25 #[.slice A n c] w (ResI (symToA a) w) := by
  have C0 := isMap_any A n c B a w hl (by omega) h
  have C1 := isCharacter_any A n c B a w hl (by omega) h
  cases ha : isMp a
  · have G := Lib.hid (symToA_no ha)
    rw [ha] at C0
    clear hl C1
    go_enter Try.func25, Try.ntmps25
    go_wp2_with fail
    refine C0.mono ?_
    rintro e w' ⟨rfl, rfl⟩
    go_wp2
    go_ret2
    exact ResI.of' G.out (Below.refl _ _)
  · obtain ⟨x, b, o, hx, rfl, hc, p1, x0, x1⟩ := map_first ha hl h
    have hch := isChr_at ha hx
    rw [ha] at C0
    by_cases hx1 : x = 1
    · have G := Lib.hid (symToA_one ha hx hx1)
      rw [hch, decide_eq_true hx1] at C1
      obtain ⟨e1, na⟩ := isMp_parts ha hl
      have HL0 := hl
      subst e1
      have HL := Lib.hid HL0
      have NA := Lib.hid na
      have HZ : Hid (a.getD 0 0 = 1) := by rw [Hid, List.getD_eq_getElem?_getD, hx]; exact hx1
      clear hl HL0 hx hx1 ha hch na
      go_enter Try.func25, Try.ntmps25
      go_wp2_with fail
      refine C0.mono ?_
      rintro e w' ⟨rfl, rfl⟩
      go_wp2_with fail
      refine C1.mono ?_
      rintro e w' ⟨rfl, rfl⟩
      go_wp2_with fail
      refine (exch_times _ c B a _ HL.out NA.out hcp HZ.out hB h).mono ?_
      rintro e w1 ⟨rfl, b1⟩
      have B1 := Lib.hid b1
      clear b1 hc
      go_wp2
      go_ret2
      exact ResI.of' G.out B1.out
    · have G := Lib.hid (symToA_not ha hx hx1)
      rw [hch, decide_eq_false hx1] at C1
      clear hl hx hx1 hch
      go_enter Try.func25, Try.ntmps25
      go_wp2_with fail
      refine C0.mono ?_
      rintro e w' ⟨rfl, rfl⟩
      go_wp2_with fail
      refine C1.mono ?_
      rintro e w' ⟨rfl, rfl⟩
      go_wp2
      go_ret2
      exact ResI.of' G.out (Below.refl _ _)
theorem hamToA_no {a : List Int} (h : isMp a = false) : hamToA a = (0, 1) := if_neg (by rw [h]; simp)
theorem hamToA_one {a : List Int} {x : Int} (h : isMp a = true) (hx : a[0]? = some x) (e : x = 0) : hamToA a = (limOf a, 0) := by
  unfold hamToA; rw [if_pos h, List.getD_eq_getElem?_getD, hx]; exact if_pos e
theorem hamToA_not {a : List Int} {x : Int} (h : isMp a = true) (hx : a[0]? = some x) (e : x ≠ 0) : hamToA a = (0, 5) := by
  unfold hamToA; rw [if_pos h, List.getD_eq_getElem?_getD, hx]; exact if_neg e
set_option maxHeartbeats 1000000 in
theorem l08Code_c (A : Option Addr) (n c B : Nat) (a : List Int) (w : World) (hl : a.length = n) (hn : n ≤ 1048576) (h : Row w B A (ints a)) :
    Calls Try.prog 52 #[.slice A n c, .slice A n c] w fun e w' => e = .returned (.int .i64 (hamToA a).2) ∧ w = w' := by
  have C0 := l07Is_any A n c B a w hl (by omega) h
  cases ha : isMp a
  · have G := Lib.hid (hamToA_no ha)
    rw [ha] at C0
    clear hl
    go_enter Try.func52, Try.ntmps52
    go_wp2_with (go_at_call 77; refine C0.mono ?_; rintro e w' ⟨rfl, rfl⟩)
    go_ret
    exact ⟨ret_i64 (by rw [G.out]), rfl⟩
  · obtain ⟨x, b, o, hx, rfl, hc, p1, x0, x1⟩ := map_first ha hl h
    rw [ha] at C0
    by_cases hx1 : x = 0
    · have G := Lib.hid (hamToA_one ha hx hx1)
      have t : (x != 0) = false := bne_f hx1
      clear hl hx hx1
      go_enter Try.func52, Try.ntmps52
      go_wp2_with (go_at_call 77; refine C0.mono ?_; rintro e w' ⟨rfl, rfl⟩)
      go_ret
      exact ⟨ret_i64 (by rw [G.out]), rfl⟩
    · have G := Lib.hid (hamToA_not ha hx hx1)
      have t : (x != 0) = true := bne_t hx1
      clear hl hx hx1
      go_enter Try.func52, Try.ntmps52
      go_wp2_with (go_at_call 77; refine C0.mono ?_; rintro e w' ⟨rfl, rfl⟩)
      go_ret
      exact ⟨ret_i64 (by rw [G.out]), rfl⟩
set_option maxHeartbeats 1000000 in
theorem sHamiltonianTo_L (A : Option Addr) (n c B : Nat) (a : List Int) (w : World) (hl : a.length = n) (hn : n ≤ 1048576) (hB : B ≤ w.heap.size) (h : Row w B A (ints a)) :
    Calls Try.prog 26 #[.slice A n c] w (ResI (hamToA a) w) := by
  have C0 := l08Code_c A n c B a w hl hn h
  have done : ∀ k : Int, k ≠ 0 → hamToA a = (0, k) → Calls Try.prog 26 #[.slice A n c] w (ResI (hamToA a) w) := by
    intro k hk e
    rw [e] at C0
    have t : (k != 0) = true := bne_t hk
    have G := Lib.hid e
    clear hl e
    go_enter Try.func26, Try.ntmps26
    go_wp2_with fail
    refine C0.mono ?_
    rintro e w' ⟨rfl, rfl⟩
    go_wp2
    go_ret2
    exact ResI.of' G.out (Below.refl _ _)
  cases ha : isMp a
  · exact done 1 (by omega) (hamToA_no ha)
  · obtain ⟨x, b, o, hx, rfl, hc, p1, x0, x1⟩ := map_first ha hl h
    by_cases hx1 : x = 0
    · have e := hamToA_one ha hx hx1
      have G := Lib.hid e
      rw [e] at C0
      obtain ⟨e1, na⟩ := isMp_parts ha hl
      have HL0 := hl
      subst e1
      have HL := Lib.hid HL0
      have NA := Lib.hid na
      clear hl HL0 hx hx1 ha done e na
      go_enter Try.func26, Try.ntmps26
      go_wp2_with fail
      refine C0.mono ?_
      rintro e w' ⟨rfl, rfl⟩
      go_wp2_with fail
      refine (l12To_any _ c B a _ HL.out NA.out hB h).mono ?_
      rintro e w1 ⟨rfl, b1⟩
      have B1 := Lib.hid b1
      clear b1 hc
      go_wp2
      go_ret2
      exact ResI.of' G.out B1.out
    · exact done 5 (by omega) (hamToA_not ha hx hx1)
set_option maxHeartbeats 1000000 in
theorem pHamiltonianTo_L (A : Option Addr) (n c B : Nat) (a : List Int) (w : World) (hl : a.length = n) (hn : n ≤ 1048576) (hB : B ≤ w.heap.size) (h : Row w B A (ints a)) (hcp : n ≤ c) :
    Calls Try.prog 27 #[.slice A n c] w (ResI (hamToA a) w) := by
  have C0 := isMap_any A n c B a w hl (by omega) h
  have C1 := isInfinitesimal_any A n c B a w hl (by omega) h
  cases ha : isMp a
  · have G := Lib.hid (hamToA_no ha)
    rw [ha] at C0
    clear hl C1
    go_enter Try.func27, Try.ntmps27
    go_wp2_with fail
    refine C0.mono ?_
    rintro e w' ⟨rfl, rfl⟩
    go_wp2
    go_ret2
    exact ResI.of' G.out (Below.refl _ _)
  · obtain ⟨x, b, o, hx, rfl, hc, p1, x0, x1⟩ := map_first ha hl h
    have hch := isInf_at ha hx
    rw [ha] at C0
    by_cases hx1 : x = 0
    · have G := Lib.hid (hamToA_one ha hx hx1)
      rw [hch, decide_eq_true hx1] at C1
      obtain ⟨e1, na⟩ := isMp_parts ha hl
      have HL0 := hl
      subst e1
      have HL := Lib.hid HL0
      have NA := Lib.hid na
      have HZ : Hid (a.getD 0 0 = 0) := by rw [Hid, List.getD_eq_getElem?_getD, hx]; exact hx1
      clear hl HL0 hx hx1 ha hch na
      go_enter Try.func27, Try.ntmps27
      go_wp2_with fail
      refine C0.mono ?_
      rintro e w' ⟨rfl, rfl⟩
      go_wp2_with fail
      refine C1.mono ?_
      rintro e w' ⟨rfl, rfl⟩
      go_wp2_with fail
      refine (exch_none _ c B a _ HL.out NA.out hcp HZ.out hB h).mono ?_
      rintro e w1 ⟨rfl, b1⟩
      have B1 := Lib.hid b1
      clear b1 hc
      go_wp2
      go_ret2
      exact ResI.of' G.out B1.out
    · have G := Lib.hid (hamToA_not ha hx hx1)
      rw [hch, decide_eq_false hx1] at C1
      clear hl hx hx1 hch
      go_enter Try.func27, Try.ntmps27
      go_wp2_with fail
      refine C0.mono ?_
      rintro e w' ⟨rfl, rfl⟩
      go_wp2_with fail
      refine C1.mono ?_
      rintro e w' ⟨rfl, rfl⟩
      go_wp2
      go_ret2
      exact ResI.of' G.out (Below.refl _ _)
end Go.Proofs.Ytnnihdkhblbdgaa
