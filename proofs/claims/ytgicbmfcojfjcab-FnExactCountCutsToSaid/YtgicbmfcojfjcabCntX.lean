/-
  What CountCutsTo answers, the program's and the model's.
-/
import Derived.Test.YtgicbmfcojfjcabCutT
import Derived.Test.YtgicbmfcojfjcabCutL
import Derived.Test.YtgicbmfcojfjcabGrfU
import Derived.Test.YtgicbmfcojfjcabAre
import Derived.Test.YtgicbmfcojfjcabSame
import Derived.Test.YtgicbmfcojfjcabCan
import Derived.Test.YtgicbmfcojfjcabTreeOf
import Derived.Test.YtgicbmfcojfjcabRes1
namespace Go.Proofs.Ytgicbmfcojfjcab
open Go.RowKit Fld
set_option linter.unusedVariables false
set_option linter.unusedSimpArgs false
set_option maxRecDepth 100000

theorem ResI.ofc {r : Int × Int} {w w' : World} {x k : Int} (h : r = (x, k)) (hb : Below w.heap.size w w') : ResI r w (.returned (.tuple #[.int .i64 x, .int .i64 k])) w' := by
  subst h; exact ⟨rfl, hb⟩
def cntA (t u v : List Int) : Int × Int := if Tr.isLv t = true ∧ Tr.isLv u = true ∧ Tr.isLv v = true then (((Tr.cntT (Tr.txt t) (Tr.txt u) (Tr.txt v) (t.length - 1) : Nat) : Int), 0) else (0, 1)
theorem cntA_no {t u v : List Int} (h : ¬ (Tr.isLv t = true ∧ Tr.isLv u = true ∧ Tr.isLv v = true)) : cntA t u v = (0, 1) := if_neg h
theorem cntA_yes {t u v : List Int} (h1 : Tr.isLv t = true) (h2 : Tr.isLv u = true) (h3 : Tr.isLv v = true) : cntA t u v = (((Tr.cntT (Tr.txt t) (Tr.txt u) (Tr.txt v) (t.length - 1) : Nat) : Int), 0) := if_pos ⟨h1, h2, h3⟩
theorem three_lists {A A' A'' : Option Addr} {n n' n'' c c' c'' B B' B'' : Nat} {s t u : List Int} {w : World} (hl : s.length = n) (hl' : t.length = n') (hl'' : u.length = n'') (hB : B ≤ w.heap.size) (hB' : B' ≤ w.heap.size) (hB'' : B'' ≤ w.heap.size) (h : Row w B A (ints s)) (h' : Row w B' A' (ints t)) (h'' : Row w B'' A'' (ints u)) :
    Lsts (w.alloc (.cells #[.slice A n c, .slice A' n' c', .slice A'' n'' c''] 22)) w.heap.size (some ⟨w.heap.size, 0, none⟩) [s, t, u] := fun k r hr => by
  have hal : Below w.heap.size w (w.alloc (.cells #[.slice A n c, .slice A' n' c', .slice A'' n'' c''] 22)) := (Below.refl _ _).alloc (Nat.le_refl _) _
  match k, hr with
  | 0, hr =>
    simp only [List.getElem?_cons_zero, Option.some.injEq] at hr
    subst hr
    exact ⟨_, _, A, c, rfl, by rw [hl, World.cell?_alloc_at (hn := by simp)]; rfl, (Row.below h hal hB).more hB⟩
  | 1, hr =>
    simp only [List.getElem?_cons_succ, List.getElem?_cons_zero, Option.some.injEq] at hr
    subst hr
    exact ⟨_, _, A', c', rfl, by rw [hl', World.cell?_alloc_at (hn := by simp)]; rfl, (Row.below h' hal hB').more hB'⟩
  | 2, hr =>
    simp only [List.getElem?_cons_succ, List.getElem?_cons_zero, Option.some.injEq] at hr
    subst hr
    exact ⟨_, _, A'', c'', rfl, by rw [hl'', World.cell?_alloc_at (hn := by simp)]; rfl, (Row.below h'' hal hB'').more hB''⟩
  | k+3, hr => simp at hr
theorem allLvM_mem' {m : List (List Int)} (h : allLvM m = true) : ∀ r ∈ m, Tr.isLv r = true := by
  unfold allLvM at h
  rw [List.all_eq_true] at h
  exact h
theorem str_eq (a b : List UInt8) : ((⟨a.toArray⟩ : ByteArray).toList == (⟨b.toArray⟩ : ByteArray).toList) = decide (a = b) := by
  rw [ByteArray.toList_eq, ByteArray.toList_eq]
  by_cases h : a = b
  · subst h; simp
  · rw [decide_eq_false h]; exact beq_eq_false_iff_ne.2 h
set_option maxHeartbeats 2000000 in
theorem pCountCutsTo_L (A A' A'' : Option Addr) (n n' n'' c c' c'' B B' B'' : Nat) (s t u : List Int) (w : World) (hl : s.length = n) (hl' : t.length = n') (hl'' : u.length = n'') (hn : n ≤ 1048576) (hn' : n' ≤ 1048576) (hn'' : n'' ≤ 1048576) (hB : B ≤ w.heap.size) (hB' : B' ≤ w.heap.size) (hB'' : B'' ≤ w.heap.size)
    (h : Row w B A (ints s)) (h' : Row w B' A' (ints t)) (h'' : Row w B'' A'' (ints u)) (hc : n ≤ c) (hc' : n' ≤ c') (hc'' : n'' ≤ c'') :
    Calls Try.prog 23 #[.slice A n c, .slice A' n' c', .slice A'' n'' c''] w (ResI (cntA s t u) w) := by
  have hal : Below w.heap.size w (w.alloc (.cells #[.slice A n c, .slice A' n' c', .slice A'' n'' c''] 22)) := (Below.refl _ _).alloc (Nat.le_refl _) _
  have C0 := areLevels_any (some ⟨w.heap.size, 0, none⟩) 3 3 w.heap.size [s, t, u] _ rfl (by omega) (fun r hr => by
    simp only [List.mem_cons, List.not_mem_nil, or_false] at hr
    rcases hr with rfl | rfl | rfl <;> omega) (three_lists (c := c) (c' := c') (c'' := c'') hl hl' hl'' hB hB' hB'' h h' h'')
  by_cases hlv : Tr.isLv s = true ∧ Tr.isLv t = true ∧ Tr.isLv u = true
  · obtain ⟨h1, h2, h3⟩ := hlv
    have hb : allLvM [s, t, u] = true := by simp [allLvM, h1, h2, h3]
    rw [hb] at C0
    have G := Lib.hid (cntA_yes h1 h2 h3)
    obtain ⟨a1, a8⟩ := lv_bd h1
    obtain ⟨b1, b8⟩ := lv_bd h2
    obtain ⟨d1, d8⟩ := lv_bd h3
    have z1 := (lv_txt h1).2.2.2
    have z2 := (lv_txt h2).2.2.2
    have z3 := (lv_txt h3).2.2.2
    rw [hl] at a1 a8 z1 G
    rw [hl'] at b1 b8 z2
    rw [hl''] at d1 d8 z3
    have HL := Lib.hid hl
    have HL' := Lib.hid hl'
    have HL'' := Lib.hid hl''
    have CC := fun k (hk : k + 1 < n) w => cutAbove_any (Tr.txt s) k w (Tr.tx_txt h1) (by omega)
    have CN := fun w => nodes_any (Tr.txt s) w (by omega)
    rw [show (Tr.txt s).length / 2 = n from by omega] at CN
    have HCL := Lib.hid (Tr.cntT_le (Tr.txt s) (Tr.txt t) (Tr.txt u))
    clear hl hl' hl'' hb z1 z2 z3 h1 h2 h3
    go_enter Try.func23, Try.ntmps23
    go_wp2_with fail
    refine C0.mono ?_
    rintro e w1 ⟨rfl, d, rfl⟩
    have B1 : Hid (Below w.heap.size w ((w.alloc (.cells #[.slice A n c, .slice A' n' c', .slice A'' n'' c''] 22)).drewN d)) := below_drewN hal d
    generalize (w.alloc (.cells #[.slice A n c, .slice A' n' c', .slice A'' n'' c''] 22)).drewN d = W1 at *
    go_wp2_with fail
    refine (treeOf_any A n c B s _ HL.out a1 a8 hc (Nat.le_trans hB B1.out.size) (Row.below h B1.out hB)).mono ?_
    rintro e w2 ⟨rfl, bel2⟩
    have B2 : Hid (Below w.heap.size w w2) := B1.out.trans (bel2.mono B1.out.size)
    clear bel2
    go_wp2_with fail
    refine (treeOf_any A' n' c' B' t _ HL'.out b1 b8 hc' (Nat.le_trans hB' B2.out.size) (Row.below h' B2.out hB')).mono ?_
    rintro e w3 ⟨rfl, bel3⟩
    have B3 : Hid (Below w.heap.size w w3) := B2.out.trans (bel3.mono B2.out.size)
    clear bel3
    go_wp2_with fail
    refine (treeOf_any A'' n'' c'' B'' u _ HL''.out d1 d8 hc'' (Nat.le_trans hB'' B3.out.size) (Row.below h'' B3.out hB'')).mono ?_
    rintro e w4 ⟨rfl, bel4⟩
    have B4 : Hid (Below w.heap.size w w4) := B3.out.trans (bel4.mono B3.out.size)
    clear bel4
    obtain ⟨X, hX⟩ : ∃ X : ByteArray, X = ⟨(Tr.txt s).toArray⟩ := ⟨_, rfl⟩
    obtain ⟨Y, hY⟩ : ∃ Y : ByteArray, Y = ⟨(Tr.txt t).toArray⟩ := ⟨_, rfl⟩
    obtain ⟨Z, hZ⟩ : ∃ Z : ByteArray, Z = ⟨(Tr.txt u).toArray⟩ := ⟨_, rfl⟩
    have HY := Lib.hid hY
    have HZ := Lib.hid hZ
    rw [← hX, ← hY, ← hZ]
    simp only [← hX] at CC CN
    clear hX hY hZ C0
    go_wp2_with fail
    go_loopw [11, 12] (fun cv k wr => ∃ (q m : Nat), q + 1 ≤ n ∧ cv = .int .i64 m ∧ k = .int .i64 ((q + 1 : Nat) : Int) ∧ m ≤ q ∧ Hid (m = Tr.cntT (Tr.txt s) (Tr.txt t) (Tr.txt u) q) ∧ Below w.heap.size w wr) (fun _ k _ => n - (intOf k).toNat)
    case atStart => exact ⟨0, 0, a1, rfl, rfl, Nat.le_refl _, rfl, B4.out⟩
    case round =>
      obtain ⟨q, m, hq, rfl, rfl, hmq, HM, HBW⟩ := hrel
      have hsz := HBW.size
      by_cases hlt : q + 1 < n
      · have C1 := CC q hlt wr
        obtain ⟨R, hR⟩ : ∃ R, R = Tr.cutF 8 (Tr.txt s) (q + 1) := ⟨_, rfl⟩
        have HST := Lib.hid (Tr.cntT_step (Tr.txt s) (Tr.txt t) (Tr.txt u) q)
        rw [← hR] at C1 HST
        have e1 := str_eq R.1 (Tr.txt t)
        have e2 := str_eq R.2 (Tr.txt u)
        rw [← HY.out] at e1
        rw [← HZ.out] at e2
        obtain ⟨P1, hP1⟩ : ∃ P1 : ByteArray, P1 = ⟨R.1.toArray⟩ := ⟨_, rfl⟩
        obtain ⟨P2, hP2⟩ : ∃ P2 : ByteArray, P2 = ⟨R.2.toArray⟩ := ⟨_, rfl⟩
        rw [← hP1] at C1 e1
        rw [← hP2] at C1 e2
        have HBW' := Lib.hid HBW
        have hltI : ((q : Int) + 1) < (n : Int) := by omega
        have C2 := CN wr
        clear hR hP1 hP2 HBW
        by_cases x1 : R.1 = Tr.txt t
        · rw [decide_eq_true x1] at e1
          by_cases x2 : R.2 = Tr.txt u
          · rw [decide_eq_true x2] at e2
            have G2 : Hid (m + 1 = Tr.cntT (Tr.txt s) (Tr.txt t) (Tr.txt u) (q + 1)) := by rw [Hid, HST.out, if_pos ⟨x1, x2⟩, HM.out]
            clear HST HM x1 x2
            go_wp2_with fail
            refine C2.mono ?_
            rintro e w5 ⟨rfl, rfl⟩
            go_wp2_with fail
            refine C1.mono ?_
            rintro e w5 ⟨rfl, bel5⟩
            have GB := HBW'.out.trans (bel5.mono hsz)
            have GBB := Lib.hid GB
            clear bel5 GB C1 C2
            go_wp2
            go_roundw
            case rel => exact ⟨q + 1, m + 1, by omega, by go_num, by go_num, by omega, G2, GBB.out⟩
            case measure => simp [intOf]; omega
          · rw [decide_eq_false x2] at e2
            have G2 : Hid (m = Tr.cntT (Tr.txt s) (Tr.txt t) (Tr.txt u) (q + 1)) := by rw [Hid, HST.out, if_neg (fun e => x2 e.2), HM.out]; rfl
            clear HST HM x1 x2
            go_wp2_with fail
            refine C2.mono ?_
            rintro e w5 ⟨rfl, rfl⟩
            go_wp2_with fail
            refine C1.mono ?_
            rintro e w5 ⟨rfl, bel5⟩
            have GBB := Lib.hid (HBW'.out.trans (bel5.mono hsz))
            clear bel5 C1 C2
            go_wp2
            go_roundw
            case rel => exact ⟨q + 1, m, by omega, by go_num, by go_num, by omega, G2, GBB.out⟩
            case measure => simp [intOf]; omega
        · rw [decide_eq_false x1] at e1
          have G2 : Hid (m = Tr.cntT (Tr.txt s) (Tr.txt t) (Tr.txt u) (q + 1)) := by rw [Hid, HST.out, if_neg (fun e => x1 e.1), HM.out]; rfl
          clear HST HM x1 e2
          go_wp2_with fail
          refine C2.mono ?_
          rintro e w5 ⟨rfl, rfl⟩
          go_wp2_with fail
          refine C1.mono ?_
          rintro e w5 ⟨rfl, bel5⟩
          have GBB := Lib.hid (HBW'.out.trans (bel5.mono hsz))
          clear bel5 C1 C2
          go_wp2
          go_roundw
          case rel => exact ⟨q + 1, m, by omega, by go_num, by go_num, by omega, G2, GBB.out⟩
          case measure => simp [intOf]; omega
      · have hqe : q = n - 1 := by omega
        have G2 : Hid (cntA s t u = ((m : Int), 0)) := by rw [Hid, G.out, ← hqe, ← HM.out]
        have GBB := Lib.hid HBW
        have hqn : ¬ ((q : Int) + 1 < (n : Int)) := by omega
        have C2 := CN wr
        clear HM HBW hqe CC CN
        go_wp2_with fail
        refine C2.mono ?_
        rintro e w5 ⟨rfl, rfl⟩
        clear C2
        go_wp2
        go_ret2
        exact ResI.ofc G2.out GBB.out
  · have G := Lib.hid (cntA_no hlv)
    have hb : allLvM [s, t, u] = false := by
      cases e : allLvM [s, t, u]
      · rfl
      · have := allLvM_mem' e
        exact absurd ⟨this s (by simp), this t (by simp), this u (by simp)⟩ hlv
    rw [hb] at C0
    clear hl hl' hl'' hb hlv
    go_enter Try.func23, Try.ntmps23
    go_wp2_with fail
    refine C0.mono ?_
    rintro e w1 ⟨rfl, d, rfl⟩
    go_wp2
    go_ret2
    exact ResI.ofc G.out (below_drewN hal d)
theorem cans_eq {a b : List Int} (ha : Tr.isLv a = true) (hb : Tr.isLv b = true) : eqL (Tr.can a) (Tr.can b) = decide (Tr.txt a = Tr.txt b) := by
  unfold eqL
  have := Tr.txt_can_iff ha hb (fun t ht => (lv_txt ht).1)
  by_cases h : Tr.txt a = Tr.txt b
  · rw [decide_eq_true h, decide_eq_true (this.2 h)]
  · rw [decide_eq_false h, decide_eq_false (fun e => h (this.1 e))]
set_option maxHeartbeats 2000000 in
theorem sCountCutsTo_L (A A' A'' : Option Addr) (n n' n'' c c' c'' B B' B'' : Nat) (s t u : List Int) (w : World) (hl : s.length = n) (hl' : t.length = n') (hl'' : u.length = n'') (hn : n ≤ 1048576) (hn' : n' ≤ 1048576) (hn'' : n'' ≤ 1048576) (hB : B ≤ w.heap.size) (hB' : B' ≤ w.heap.size) (hB'' : B'' ≤ w.heap.size)
    (h : Row w B A (ints s)) (h' : Row w B' A' (ints t)) (h'' : Row w B'' A'' (ints u)) (hc : n ≤ c) (hc' : n' ≤ c') (hc'' : n'' ≤ c'') :
    Calls Try.prog 22 #[.slice A n c, .slice A' n' c', .slice A'' n'' c''] w (ResI (cntA s t u) w) := by
  have C0 := l03Is_any A n c B s w hl hn h
  cases h1 : Tr.isLv s
  · have G := Lib.hid (cntA_no (t := s) (u := t) (v := u) (fun e => by rw [h1] at e; cases e.1))
    rw [h1] at C0
    clear hl hl' hl'' h1
    go_enter Try.func22, Try.ntmps22
    go_wp2_with fail
    refine C0.mono ?_
    rintro e w1 ⟨rfl, d, rfl⟩
    go_wp2
    go_ret2
    exact ResI.ofc G.out (below_drewN (Below.refl _ _) _)
  · rw [h1] at C0
    have C1 := fun d => l03Is_any A' n' c' B' t (w.drewN d) hl' hn' (h'.drewN d)
    cases h2 : Tr.isLv t
    · have G := Lib.hid (cntA_no (t := s) (u := t) (v := u) (fun e => by rw [h2] at e; cases e.2.1))
      simp only [h2] at C1
      clear hl hl' hl'' h1 h2
      go_enter Try.func22, Try.ntmps22
      go_wp2_with fail
      refine C0.mono ?_
      rintro e w1 ⟨rfl, d, rfl⟩
      go_wp2_with fail
      refine (C1 _).mono ?_
      rintro e w1 ⟨rfl, d2, rfl⟩
      go_wp2
      go_ret2
      exact ResI.ofc G.out (below_drewN (Below.refl _ _) _)
    · simp only [h2] at C1
      have C3 := fun d => l03Is_any A'' n'' c'' B'' u (w.drewN d) hl'' hn'' (h''.drewN d)
      cases h3 : Tr.isLv u
      · have G := Lib.hid (cntA_no (t := s) (u := t) (v := u) (fun e => by rw [h3] at e; cases e.2.2))
        simp only [h3] at C3
        clear hl hl' hl'' h1 h2 h3
        go_enter Try.func22, Try.ntmps22
        go_wp2_with fail
        refine C0.mono ?_
        rintro e w1 ⟨rfl, d, rfl⟩
        go_wp2_with fail
        refine (C1 _).mono ?_
        rintro e w1 ⟨rfl, d2, rfl⟩
        rw [World.drewN_drewN]
        go_wp2_with fail
        refine (C3 _).mono ?_
        rintro e w1 ⟨rfl, d3, rfl⟩
        go_wp2
        go_ret2
        exact ResI.ofc G.out (below_drewN (Below.refl _ _) _)
      · simp only [h3] at C3
        have G := Lib.hid (cntA_yes h1 h2 h3)
        have HCE := Lib.hid (Tr.cnt_eq h1 (Tr.txt t) (Tr.txt u))
        obtain ⟨a1, a8⟩ := lv_bd h1
        obtain ⟨b1, b8⟩ := lv_bd h2
        obtain ⟨d1, d8⟩ := lv_bd h3
        rw [hl] at a1 a8 HCE G
        rw [hl'] at b1 b8
        rw [hl''] at d1 d8
        have HL := Lib.hid hl
        have HL' := Lib.hid hl'
        have HL'' := Lib.hid hl''
        have H1 := Lib.hid h1
        have H2 := Lib.hid h2
        have H3 := Lib.hid h3
        have HCT := Lib.hid (lv_can h2).2
        have HCU := Lib.hid (lv_can h3).2
        clear hl hl' hl'' h1 h2 h3
        go_enter Try.func22, Try.ntmps22
        go_wp2_with fail
        refine C0.mono ?_
        rintro e w1 ⟨rfl, d, rfl⟩
        go_wp2_with fail
        refine (C1 _).mono ?_
        rintro e w1 ⟨rfl, d2, rfl⟩
        rw [World.drewN_drewN]
        go_wp2_with fail
        refine (C3 _).mono ?_
        rintro e w1 ⟨rfl, d3, rfl⟩
        have B0 : Hid (Below w.heap.size w ((w.drewN (d + d2)).drewN d3)) := below_drewN (below_drewN (Below.refl _ _) _) _
        generalize (w.drewN (d + d2)).drewN d3 = W0 at *
        clear C0 C1 C3
        go_wp2_with fail
        go_loopw [8, 9] (fun cv k wr => ∃ (q m : Nat), q + 1 ≤ n ∧ cv = .int .i64 m ∧ k = .int .i64 ((q + 1 : Nat) : Int) ∧ m ≤ q ∧ Hid (m = Tr.cntL s (Tr.txt t) (Tr.txt u) q) ∧ Below w.heap.size w wr) (fun _ k _ => n - (intOf k).toNat)
        case atStart => exact ⟨0, 0, a1, rfl, rfl, Nat.le_refl _, rfl, B0.out⟩
        case round =>
          obtain ⟨q, m, hq, rfl, rfl, hmq, HM, HBW⟩ := hrel
          have hsz := HBW.size
          by_cases hlt : q + 1 < n
          · obtain ⟨p1, p2⟩ := Tr.cuts_lv H1.out (k := q + 1) (by omega) (by rw [HL.out]; exact hlt)
            have C1 := l04Cut_any A n c B (q + 1) s wr HL.out a8 (by omega) hlt hc H1.out p1 p2 (by omega) (Row.below h HBW hB)
            have HST := Lib.hid (Tr.cntL_step s (Tr.txt t) (Tr.txt u) q)
            have E1 := Lib.hid (cans_eq p1 H2.out)
            have E2 := Lib.hid (cans_eq p2 H3.out)
            have q1 := (lv_can p1).2
            have q2 := (lv_can p2).2
            have r1 := (lv_bd p1).2
            have r2 := (lv_bd p2).2
            obtain ⟨T, hT⟩ : ∃ T, T = Tr.can (Tr.trunkL s (q + 1)) := ⟨_, rfl⟩
            obtain ⟨R, hR⟩ : ∃ R, R = Tr.can (Tr.branchL s (q + 1)) := ⟨_, rfl⟩
            rw [← hT] at C1 E1 q1
            rw [← hR] at C1 E2 q2
            have hT8 : T.length ≤ 8 := by omega
            have hR8 : R.length ≤ 8 := by omega
            have HBW' := Lib.hid HBW
            have hltI : ((q : Int) + 1) < (n : Int) := by omega
            clear hT hR HBW p1 p2 q1 q2 r1 r2
            go_wp2_with fail
            refine C1.mono ?_
            rintro e w5 ⟨A3, c3, A4, c4, rfl, r3, r4, bel5⟩
            have B5 := Lib.hid (HBW'.out.trans (bel5.mono hsz))
            have hs5 := B5.out.size
            have R3 := Lib.hid r3
            have R4 := Lib.hid r4
            clear bel5 r3 r4 C1
            go_wp2_with fail
            refine (l03Canon_any A' n' c' B' t _ HL'.out H2.out (by omega) (Row.below h' B5.out hB')).mono ?_
            rintro e w6 ⟨A6, c6, rfl, own6, bel6⟩
            have R6 := Lib.hid (row_of_own own6)
            have R36 := Lib.hid (Row.below R3.out bel6 (Nat.le_refl _))
            have R46 := Lib.hid (Row.below R4.out bel6 (Nat.le_refl _))
            have B6 := Lib.hid (B5.out.trans (bel6.mono hs5))
            have hs6 := B6.out.size
            have hs56 := bel6.size
            clear own6 bel6
            have D1 := l01Same_any A3 A6 T.length n' c3 c6 _ _ T (Tr.can t) w6 rfl (by rw [HCT.out, HL'.out]) (by omega) (by omega) R36.out R6.out
            rw [E1.out] at D1
            by_cases x1 : Tr.txt (Tr.trunkL s (q + 1)) = Tr.txt t
            · rw [decide_eq_true x1] at D1
              go_wp2_with fail
              refine D1.mono ?_
              rintro e w7 ⟨rfl, m7, rfl⟩
              have B7 := Lib.hid (below_drewN B6.out m7)
              have R47 := Lib.hid (R46.out.drewN m7)
              go_wp2_with fail
              refine (l03Canon_any A'' n'' c'' B'' u _ HL''.out H3.out (by show B'' ≤ w6.heap.size; omega) (Row.below h'' B7.out hB'')).mono ?_
              rintro e w8 ⟨A8, c8, rfl, own8, bel8'⟩
              have bel8 : Below w6.heap.size w6 w8 := below_undrew' bel8'
              have R8 := Lib.hid (row_of_own own8)
              have R48 := Lib.hid (Row.below R46.out bel8 (by omega))
              have B8 := Lib.hid (B6.out.trans (bel8.mono hs6))
              clear own8 bel8 bel8' D1
              have D2 := l01Same_any A4 A8 R.length n'' c4 c8 _ _ R (Tr.can u) w8 rfl (by rw [HCU.out, HL''.out]) (by omega) (by omega) R48.out R8.out
              rw [E2.out] at D2
              by_cases x2 : Tr.txt (Tr.branchL s (q + 1)) = Tr.txt u
              · rw [decide_eq_true x2] at D2
                have G2 : Hid (m + 1 = Tr.cntL s (Tr.txt t) (Tr.txt u) (q + 1)) := by rw [Hid, HST.out, if_pos ⟨x1, x2⟩, HM.out]
                clear x1 x2
                go_wp2_with fail
                refine D2.mono ?_
                rintro e w9 ⟨rfl, m9, rfl⟩
                have GBB := Lib.hid (below_drewN B8.out m9)
                clear D2
                go_wp2
                go_roundw
                case rel => exact ⟨q + 1, m + 1, by omega, by go_num, by go_num, by omega, G2, GBB.out⟩
                case measure => simp [intOf]; omega
              · rw [decide_eq_false x2] at D2
                have G2 : Hid (m = Tr.cntL s (Tr.txt t) (Tr.txt u) (q + 1)) := by rw [Hid, HST.out, if_neg (fun e => x2 e.2), HM.out]; rfl
                clear x1 x2
                go_wp2_with fail
                refine D2.mono ?_
                rintro e w9 ⟨rfl, m9, rfl⟩
                have GBB := Lib.hid (below_drewN B8.out m9)
                clear D2
                go_wp2
                go_roundw
                case rel => exact ⟨q + 1, m, by omega, by go_num, by go_num, by omega, G2, GBB.out⟩
                case measure => simp [intOf]; omega
            · rw [decide_eq_false x1] at D1
              have G2 : Hid (m = Tr.cntL s (Tr.txt t) (Tr.txt u) (q + 1)) := by rw [Hid, HST.out, if_neg (fun e => x1 e.1), HM.out]; rfl
              clear x1
              go_wp2_with fail
              refine D1.mono ?_
              rintro e w7 ⟨rfl, m7, rfl⟩
              have GBB := Lib.hid (below_drewN B6.out m7)
              clear D1
              go_wp2
              go_roundw
              case rel => exact ⟨q + 1, m, by omega, by go_num, by go_num, by omega, G2, GBB.out⟩
              case measure => simp [intOf]; omega
          · have hqe : q = n - 1 := by omega
            have G2 : Hid (cntA s t u = ((m : Int), 0)) := by rw [Hid, G.out, ← HCE.out, ← hqe, ← HM.out]
            have GBB := Lib.hid HBW
            have hqn : ¬ ((q : Int) + 1 < (n : Int)) := by omega
            clear HM HBW hqe
            go_wp2
            go_ret2
            exact ResI.ofc G2.out GBB.out
end Go.Proofs.Ytgicbmfcojfjcab
