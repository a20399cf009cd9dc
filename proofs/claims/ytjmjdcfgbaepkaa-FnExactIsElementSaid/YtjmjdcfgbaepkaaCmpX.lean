/-
  What CompareTrees answers, the program's and the model's.
-/
import Derived.Test.YtjmjdcfgbaepkaaCmp
import Derived.Test.YtjmjdcfgbaepkaaAre
import Derived.Test.YtjmjdcfgbaepkaaTreeX
import Derived.Test.YtjmjdcfgbaepkaaResO
namespace Go.Proofs.Ytjmjdcfgbaepkaa
open Go.RowKit Fld
set_option linter.unusedVariables false
set_option linter.unusedSimpArgs false
set_option maxRecDepth 100000

theorem l03Before_any (A A' : Option Addr) (n n' c c' B B' : Nat) (xs ys : List Int) (w : World) (hl : xs.length = n) (hl' : ys.length = n') (hn : n ≤ 1048576) (hn' : n' ≤ 1048576) (h : Row w B A (ints xs)) (h' : Row w B' A' (ints ys)) :
    Calls Try.prog 77 #[.slice A n c, .slice A' n' c'] w fun e w' => e = .returned (.bool (Tr.beforeL xs ys)) ∧ ∃ m, w' = w.drewN m := by
  by_cases e : n = n'
  · have H : Hid (Tr.beforeL xs ys = Tr.lessL ys xs) := by unfold Tr.beforeL; rw [Hid, if_neg (by rw [hl, hl']; simpa using e)]
    have C1 := l01Less_any A' A n' n c' c B' B ys xs w hl' hl (by omega) (by omega) h' h
    have t : ((n : Int) != (n' : Int)) = false := bne_f (by omega)
    obtain ⟨b, hb⟩ : ∃ b, b = Tr.lessL ys xs := ⟨_, rfl⟩
    rw [← hb] at C1 H
    clear hl hl' e hb
    go_enter Try.func77, Try.ntmps77
    go_wp2_with fail
    refine C1.mono ?_
    rintro e w' ⟨rfl, m, rfl⟩
    go_wp2
    go_ret
    exact ⟨ret_bool H.out.symm, m, rfl⟩
  · have H : Hid (Tr.beforeL xs ys = decide (n < n')) := by unfold Tr.beforeL; rw [Hid, if_pos (by rw [hl, hl']; exact e), hl, hl']
    have t : ((n : Int) != (n' : Int)) = true := bne_t (by omega)
    clear hl hl'
    go_enter Try.func77, Try.ntmps77
    go_wp2
    go_ret
    exact ⟨by rw [H.out]; rfl, 0, rfl⟩
def cmpA (s t : List Int) : Int × Int := if Tr.isLv s = true ∧ Tr.isLv t = true then (Tr.cmpL (Tr.can s) (Tr.can t), 0) else (0, 1)
theorem cmpA_yes {s t : List Int} (h : Tr.isLv s = true) (h' : Tr.isLv t = true) : cmpA s t = (Tr.cmpL (Tr.can s) (Tr.can t), 0) := if_pos ⟨h, h'⟩
theorem cmpA_no1 {s t : List Int} (h : Tr.isLv s = false) : cmpA s t = (0, 1) := if_neg (by rw [h]; simp)
theorem cmpA_no2 {s t : List Int} (h : Tr.isLv t = false) : cmpA s t = (0, 1) := if_neg (by rw [h]; simp)
set_option maxHeartbeats 1000000 in
theorem pCompareTrees_L (A A' : Option Addr) (n n' c c' B B' : Nat) (s t : List Int) (w : World) (hl : s.length = n) (hl' : t.length = n') (hn : n ≤ 1048576) (hn' : n' ≤ 1048576) (hB : B ≤ w.heap.size) (hB' : B' ≤ w.heap.size) (h : Row w B A (ints s)) (h' : Row w B' A' (ints t)) (hc : n ≤ c) (hc' : n' ≤ c') :
    Calls Try.prog 22 #[.slice A n c, .slice A' n' c'] w (ResI (cmpA s t) w) := by
  have hal : Below w.heap.size w (w.alloc (.cells #[.slice A n c, .slice A' n' c'] 24)) := (Below.refl _ _).alloc (Nat.le_refl _) _
  have hls : Lsts (w.alloc (.cells #[.slice A n c, .slice A' n' c'] 24)) w.heap.size (some ⟨w.heap.size, 0, none⟩) [s, t] := fun k r hr => by
    match k, hr with
    | 0, hr =>
      simp only [List.getElem?_cons_zero, Option.some.injEq] at hr
      subst hr
      exact ⟨_, _, A, c, rfl, by rw [hl, World.cell?_alloc_at (hn := by simp)]; rfl, (Row.below h hal hB).more hB⟩
    | 1, hr =>
      simp only [List.getElem?_cons_succ, List.getElem?_cons_zero, Option.some.injEq] at hr
      subst hr
      exact ⟨_, _, A', c', rfl, by rw [hl', World.cell?_alloc_at (hn := by simp)]; rfl, (Row.below h' hal hB').more hB'⟩
    | k+2, hr => simp at hr
  have C0 := areLevels_any (some ⟨w.heap.size, 0, none⟩) 2 2 w.heap.size [s, t] _ rfl (by omega) (fun r hr => by
    simp only [List.mem_cons, List.not_mem_nil, or_false] at hr
    rcases hr with rfl | rfl <;> omega) hls
  have hb : allLvM [s, t] = (Tr.isLv s && Tr.isLv t) := by simp [allLvM]
  rw [hb] at C0
  by_cases hlv : Tr.isLv s = true ∧ Tr.isLv t = true
  · obtain ⟨h1, h2⟩ := hlv
    have G := Lib.hid (cmpA_yes h1 h2)
    rw [← Tr.cmp_eq h1 h2] at G
    rw [h1, h2] at C0
    obtain ⟨a1, a8⟩ := lv_bd h1
    obtain ⟨b1, b8⟩ := lv_bd h2
    have z1 := (lv_txt h1).2.2.2
    have z2 := (lv_txt h2).2.2.2
    have HZ1 : Hid ((Tr.txt s).length ≤ 1048576) := by rw [Hid]; omega
    have HZ2 : Hid ((Tr.txt t).length ≤ 1048576) := by rw [Hid]; omega
    rw [hl] at a1 a8
    rw [hl'] at b1 b8
    have HL := Lib.hid hl
    have HL' := Lib.hid hl'
    clear hl hl' hls hb z1 z2 h1 h2
    go_enter Try.func22, Try.ntmps22
    go_wp2_with fail
    refine C0.mono ?_
    rintro e w1 ⟨rfl, d, rfl⟩
    go_wp2_with fail
    have B1 : Hid (Below w.heap.size w ((w.alloc (.cells #[.slice A n c, .slice A' n' c'] 24)).drewN d)) := below_drewN hal d
    refine (treeOf_any A n c B s _ HL.out a1 a8 hc (Nat.le_trans hB B1.out.size) (Row.below h B1.out hB)).mono ?_
    rintro e w2 ⟨rfl, bel2⟩
    have B2 : Hid (Below w.heap.size w w2) := B1.out.trans (bel2.mono B1.out.size)
    clear bel2
    go_wp2_with fail
    refine (treeOf_any A' n' c' B' t _ HL'.out b1 b8 hc' (Nat.le_trans hB' B2.out.size) (Row.below h' B2.out hB')).mono ?_
    rintro e w3 ⟨rfl, bel3⟩
    have B3 : Hid (Below w.heap.size w w3) := B2.out.trans (bel3.mono B2.out.size)
    clear bel3
    go_wp2_with fail
    refine (compare_any (Tr.txt s) (Tr.txt t) _ HZ1.out HZ2.out).mono ?_
    rintro e w4 ⟨rfl, bel4⟩
    have B4 : Hid (Below w.heap.size w w4) := B3.out.trans (bel4.mono B3.out.size)
    clear bel4
    go_wp2
    go_ret2
    exact ResI.of' G.out B4.out
  · have G : Hid (cmpA s t = (0, 1)) := if_neg hlv
    have e : (Tr.isLv s && Tr.isLv t) = false := by
      cases h1 : Tr.isLv s
      · rfl
      · cases h2 : Tr.isLv t
        · rfl
        · exact absurd ⟨h1, h2⟩ hlv
    rw [e] at C0
    clear hls hb e hlv
    go_enter Try.func22, Try.ntmps22
    go_wp2_with fail
    refine C0.mono ?_
    rintro e w1 ⟨rfl, d, rfl⟩
    go_wp2
    go_ret2
    exact ResI.of' G.out (below_drewN hal d)
set_option maxHeartbeats 1000000 in
theorem sCompareTrees_L (A A' : Option Addr) (n n' c c' B B' : Nat) (s t : List Int) (w : World) (hl : s.length = n) (hl' : t.length = n') (hn : n ≤ 1048576) (hn' : n' ≤ 1048576) (hB : B ≤ w.heap.size) (hB' : B' ≤ w.heap.size) (h : Row w B A (ints s)) (h' : Row w B' A' (ints t)) :
    Calls Try.prog 23 #[.slice A n c, .slice A' n' c'] w (ResI (cmpA s t) w) := by
  have C0 := l03Is_any A n c B s w hl hn h
  cases h1 : Tr.isLv s
  · have G := Lib.hid (cmpA_no1 (t := t) h1)
    rw [h1] at C0
    go_enter Try.func23, Try.ntmps23
    go_wp2_with fail
    refine C0.mono ?_
    rintro e w1 ⟨rfl, d, rfl⟩
    go_wp2
    go_ret2
    exact ResI.of' G.out (below_drewN (Below.refl _ _) d)
  · rw [h1] at C0
    have C1 := fun d => l03Is_any A' n' c' B' t (w.drewN d) hl' hn' (h'.drewN d)
    cases h2 : Tr.isLv t
    · have G := Lib.hid (cmpA_no2 (s := s) h2)
      simp only [h2] at C1
      go_enter Try.func23, Try.ntmps23
      go_wp2_with fail
      refine C0.mono ?_
      rintro e w1 ⟨rfl, d, rfl⟩
      go_wp2_with fail
      refine (C1 _).mono ?_
      rintro e w1 ⟨rfl, d2, rfl⟩
      go_wp2
      go_ret2
      exact ResI.of' G.out (below_drewN (Below.refl _ _) _)
    · simp only [h2] at C1
      have G := Lib.hid (cmpA_yes h1 h2)
      have HL := Lib.hid hl
      have HL' := Lib.hid hl'
      have H1 := Lib.hid h1
      have H2 := Lib.hid h2
      have HE : Hid ((Tr.can s).length = n) := by rw [Hid, (lv_can h1).2, hl]
      have HE' : Hid ((Tr.can t).length = n') := by rw [Hid, (lv_can h2).2, hl']
      clear hl hl' h1 h2
      go_enter Try.func23, Try.ntmps23
      go_wp2_with fail
      refine C0.mono ?_
      rintro e w1 ⟨rfl, d, rfl⟩
      go_wp2_with fail
      refine (C1 _).mono ?_
      rintro e w1 ⟨rfl, d2, rfl⟩
      have B1 : Hid (Below w.heap.size w ((w.drewN d).drewN d2)) := below_drewN (below_drewN (Below.refl _ _) _) _
      generalize (w.drewN d).drewN d2 = W1 at *
      go_wp2_with fail
      refine (l03Canon_any A n c B s _ HL.out H1.out (Nat.le_trans hB B1.out.size) (Row.below h B1.out hB)).mono ?_
      rintro e w2 ⟨A2, c2, rfl, own2, bel2⟩
      have B2 : Hid (Below w.heap.size w w2) := B1.out.trans (bel2.mono B1.out.size)
      have R2 : Hid (Row w2 w2.heap.size A2 (ints (Tr.can s))) := row_of_own own2
      clear own2 bel2
      go_wp2_with fail
      refine (l03Canon_any A' n' c' B' t _ HL'.out H2.out (Nat.le_trans hB' B2.out.size) (Row.below h' B2.out hB')).mono ?_
      rintro e w3 ⟨A3, c3, rfl, own3, bel3⟩
      have B3 : Hid (Below w.heap.size w w3) := B2.out.trans (bel3.mono B2.out.size)
      have R3 : Hid (Row w3 w3.heap.size A3 (ints (Tr.can t))) := row_of_own own3
      have R23 : Hid (Row w3 w2.heap.size A2 (ints (Tr.can s))) := Row.below R2.out bel3 (Nat.le_refl _)
      clear own3 bel3
      have D1 := l03Before_any A2 A3 n n' c2 c3 _ _ (Tr.can s) (Tr.can t) w3 HE.out HE'.out hn hn' R23.out R3.out
      cases hb1 : Tr.beforeL (Tr.can s) (Tr.can t)
      · rw [hb1] at D1
        have D2 := fun d => l03Before_any A3 A2 n' n c3 c2 _ _ (Tr.can t) (Tr.can s) (w3.drewN d) HE'.out HE.out hn' hn (R3.out.drewN d) (R23.out.drewN d)
        cases hb2 : Tr.beforeL (Tr.can t) (Tr.can s)
        · have E : Hid (Tr.cmpL (Tr.can s) (Tr.can t) = 0) := by unfold Tr.cmpL; rw [Hid, hb1, hb2]; rfl
          rw [E.out] at G
          simp only [hb2] at D2
          clear hb1 hb2
          go_wp2_with fail
          refine D1.mono ?_
          rintro e w4 ⟨rfl, d4, rfl⟩
          go_wp2_with fail
          refine (D2 _).mono ?_
          rintro e w5 ⟨rfl, d5, rfl⟩
          go_wp2
          go_ret2
          exact ResI.of' G.out (below_drewN B3.out _)
        · have E : Hid (Tr.cmpL (Tr.can s) (Tr.can t) = 1) := by unfold Tr.cmpL; rw [Hid, hb1, hb2]; rfl
          rw [E.out] at G
          simp only [hb2] at D2
          clear hb1 hb2
          go_wp2_with fail
          refine D1.mono ?_
          rintro e w4 ⟨rfl, d4, rfl⟩
          go_wp2_with fail
          refine (D2 _).mono ?_
          rintro e w5 ⟨rfl, d5, rfl⟩
          go_wp2
          go_ret2
          exact ResI.of' G.out (below_drewN B3.out _)
      · have E : Hid (Tr.cmpL (Tr.can s) (Tr.can t) = -1) := by unfold Tr.cmpL; rw [Hid, hb1]; rfl
        rw [E.out] at G
        rw [hb1] at D1
        clear hb1
        go_wp2_with fail
        refine D1.mono ?_
        rintro e w4 ⟨rfl, d4, rfl⟩
        go_wp2
        go_ret2
        exact ResI.of' G.out (below_drewN B3.out _)
end Go.Proofs.Ytjmjdcfgbaepkaa
