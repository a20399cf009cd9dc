/-
  What GraftAt and ButcherProduct answer, the program's and the model's.
-/
import Derived.Test.YtgicbmfcojfjcaaGrfT
import Derived.Test.YtgicbmfcojfjcaaGrfL
import Derived.Test.YtgicbmfcojfjcaaGrfQ
import Derived.Test.YtgicbmfcojfjcaaGrfQ2
import Derived.Test.YtgicbmfcojfjcaaCan
import Derived.Test.YtgicbmfcojfjcaaAre
import Derived.Test.YtgicbmfcojfjcaaRes1
import Derived.Test.YtgicbmfcojfjcaaTreeOf
namespace Go.Proofs.Ytgicbmfcojfjcaa
open Go.RowKit Fld
set_option linter.unusedVariables false
set_option linter.unusedSimpArgs false
set_option maxRecDepth 100000

def graftAtA (u : List Int) (k : Int) (v : List Int) : List Int × Int :=
  if Tr.isLv u = true ∧ Tr.isLv v = true then (if 0 ≤ k ∧ k < (u.length : Int) then (if u.length + v.length ≤ 8 then (Tr.can (Tr.gl (Tr.can u) k.toNat v), 0) else ([], 3)) else ([], 2)) else ([], 1)
def butcherA (u v : List Int) : List Int × Int := graftAtA u 0 v
theorem graftA_no1 {u v : List Int} {k : Int} (h : Tr.isLv u = false) : graftAtA u k v = ([], 1) := if_neg (by rw [h]; simp)
theorem graftA_no2 {u v : List Int} {k : Int} (h : Tr.isLv v = false) : graftAtA u k v = ([], 1) := if_neg (by rw [h]; simp)
theorem graftA_out {u v : List Int} {k : Int} (h : Tr.isLv u = true) (h' : Tr.isLv v = true) (hk : ¬ (0 ≤ k ∧ k < (u.length : Int))) : graftAtA u k v = ([], 2) := by
  unfold graftAtA; rw [if_pos ⟨h, h'⟩, if_neg hk]
theorem graftA_big {u v : List Int} {k : Int} (h : Tr.isLv u = true) (h' : Tr.isLv v = true) (hk : 0 ≤ k ∧ k < (u.length : Int)) (h8 : ¬ u.length + v.length ≤ 8) : graftAtA u k v = ([], 3) := by
  unfold graftAtA; rw [if_pos ⟨h, h'⟩, if_pos hk, if_neg h8]
theorem graftA_yes {u v : List Int} {k : Nat} (h : Tr.isLv u = true) (h' : Tr.isLv v = true) (hk : k < u.length) (h8 : u.length + v.length ≤ 8) : graftAtA u (k : Int) v = (Tr.can (Tr.gl (Tr.can u) k v), 0) := by
  unfold graftAtA; rw [if_pos ⟨h, h'⟩, if_pos (by omega), if_pos h8]; rfl
/-- all that is known of a graft -/
theorem graft_parts {u v : List Int} {k : Nat} (h : Tr.isLv u = true) (h' : Tr.isLv v = true) (hk : k < u.length) (h8 : u.length + v.length ≤ 8) :
    Tr.txt (Tr.gl (Tr.can u) k v) = Tr.grfF 8 (Tr.txt u) k (Tr.txt v) ∧ Tr.isLv (Tr.gl (Tr.can u) k v) = true ∧ (Tr.gl (Tr.can u) k v).length = u.length + v.length := by
  obtain ⟨c1, c2⟩ := lv_can h
  obtain ⟨c3, c4⟩ := Tr.can_can h
  obtain ⟨g1, g2⟩ := Tr.graft_at c1 c3 h' (by omega) (k := k) (by omega)
  rw [c4] at g1
  exact ⟨g1, g2, by rw [Tr.gl_length (Tr.endL_le (by omega)).2, c2]⟩
theorem butcher_eq {u v : List Int} (h : Tr.isLv u = true) (h' : Tr.isLv v = true) (h8 : u.length + v.length ≤ 8) : Tr.can (Tr.gl u 0 v) = Tr.can (Tr.gl (Tr.can u) 0 v) := by
  have h1 : 0 < u.length := (Tr.isLv_iff.1 h).1
  obtain ⟨g1, g2⟩ := Tr.graft_root h h' h8
  obtain ⟨p1, p2, _⟩ := graft_parts h h' h1 h8
  have e : Tr.txt (Tr.gl u 0 v) = Tr.txt (Tr.gl (Tr.can u) 0 v) := by rw [g1, p1]
  rw [← (lv_txt g2).1, ← (lv_txt p2).1, e]
theorem hasNode_any (A : Option Addr) (n c : Nat) (k : Int) (w : World) (hn : n ≤ 1048576) : Calls Try.prog 121 #[.slice A n c, .int .i64 k] w fun e w' => e = .returned (.bool (decide (0 ≤ k ∧ k < (n : Int)))) ∧ ∃ m, w' = w.drewN m := by
  by_cases h0 : 0 ≤ k
  · by_cases h1 : k < (n : Int)
    · have G : Hid (decide (0 ≤ k ∧ k < (n : Int)) = true) := decide_eq_true ⟨h0, h1⟩
      have d0 : decide (0 ≤ k) = true := decide_eq_true h0
      have d1 : decide (k < (n : Int)) = true := decide_eq_true h1
      go_enter Try.func121, Try.ntmps121
      go_wp2
      go_ret
      exact ⟨by first | rfl | exact ret_bool G.out.symm, 0, rfl⟩
    · have G : Hid (decide (0 ≤ k ∧ k < (n : Int)) = false) := decide_eq_false (fun h => h1 h.2)
      have d0 : decide (0 ≤ k) = true := decide_eq_true h0
      have d1 : decide (k < (n : Int)) = false := decide_eq_false h1
      go_enter Try.func121, Try.ntmps121
      go_wp2
      go_ret
      exact ⟨by first | rfl | exact ret_bool G.out.symm, 0, rfl⟩
  · have G : Hid (decide (0 ≤ k ∧ k < (n : Int)) = false) := decide_eq_false (fun h => h0 h.1)
    have d0 : decide (0 ≤ k) = false := decide_eq_false h0
    go_enter Try.func121, Try.ntmps121
    go_wp2
    go_ret
    exact ⟨by first | rfl | exact ret_bool G.out.symm, 0, rfl⟩
theorem two_lists {A A' : Option Addr} {n n' c c' B B' : Nat} {s t : List Int} {w : World} (hl : s.length = n) (hl' : t.length = n') (hB : B ≤ w.heap.size) (hB' : B' ≤ w.heap.size) (h : Row w B A (ints s)) (h' : Row w B' A' (ints t)) :
    Lsts (w.alloc (.cells #[.slice A n c, .slice A' n' c'] 30)) w.heap.size (some ⟨w.heap.size, 0, none⟩) [s, t] := fun k r hr => by
  have hal : Below w.heap.size w (w.alloc (.cells #[.slice A n c, .slice A' n' c'] 30)) := (Below.refl _ _).alloc (Nat.le_refl _) _
  match k, hr with
  | 0, hr =>
    simp only [List.getElem?_cons_zero, Option.some.injEq] at hr
    subst hr
    exact ⟨_, _, A, c, rfl, by rw [hl, World.cell?_alloc_at (hn := by simp)]; rfl, (Row.below h hal hB).more hB⟩
  | 1, hr =>
    simp only [List.getElem?_cons_succ, List.getElem?_cons_zero, Option.some.injEq] at hr
    subst hr
    exact ⟨_, _, A', c', rfl, by rw [hl', World.cell?_alloc_at (hn := by simp)]; rfl, (Row.below h' hal hB').more hB'⟩
  | k+2, hr => simp at hr
set_option maxHeartbeats 2000000 in
theorem pGraftAt_L (A A' : Option Addr) (n n' c c' B B' : Nat) (s t : List Int) (k : Int) (w : World) (hl : s.length = n) (hl' : t.length = n') (hn : n ≤ 1048576) (hn' : n' ≤ 1048576) (hB : B ≤ w.heap.size) (hB' : B' ≤ w.heap.size) (h : Row w B A (ints s)) (h' : Row w B' A' (ints t)) (hk64 : -9223372036854775808 ≤ k ∧ k ≤ 9223372036854775807) (hc : n ≤ c) (hc' : n' ≤ c') :
    Calls Try.prog 68 #[.slice A n c, .int .i64 k, .slice A' n' c'] w (ResL (graftAtA s k t) w) := by
  have hal : Below w.heap.size w (w.alloc (.cells #[.slice A n c, .slice A' n' c'] 30)) := (Below.refl _ _).alloc (Nat.le_refl _) _
  have C0 := areLevels_any (some ⟨w.heap.size, 0, none⟩) 2 2 w.heap.size [s, t] _ rfl (by omega) (fun r hr => by
    simp only [List.mem_cons, List.not_mem_nil, or_false] at hr
    rcases hr with rfl | rfl <;> omega) (two_lists (c := c) (c' := c') hl hl' hB hB' h h')
  have hb : allLvM [s, t] = (Tr.isLv s && Tr.isLv t) := by simp [allLvM]
  rw [hb] at C0
  have C1 := fun w => hasNode_any A n c k w hn
  by_cases hlv : Tr.isLv s = true ∧ Tr.isLv t = true
  · obtain ⟨h1, h2⟩ := hlv
    rw [h1, h2] at C0
    obtain ⟨a1, a8⟩ := lv_bd h1
    obtain ⟨b1, b8⟩ := lv_bd h2
    have z1 := (lv_txt h1).2.2.2
    have z2 := (lv_txt h2).2.2.2
    rw [hl] at a1 a8
    rw [hl'] at b1 b8
    by_cases hk : 0 ≤ k ∧ k < (n : Int)
    · rw [decide_eq_true hk] at C1
      by_cases h8 : s.length + t.length ≤ 8
      · obtain ⟨kn, rfl⟩ : ∃ kn : Nat, k = (kn : Int) := ⟨k.toNat, by omega⟩
        have G := Lib.hid (graftA_yes h1 h2 (k := kn) (by omega) h8)
        obtain ⟨p1, p2, p3⟩ := graft_parts h1 h2 (k := kn) (by omega) h8
        have HCL : Hid ((Tr.can (Tr.gl (Tr.can s) kn t)).length = n + n') := by rw [Hid, (lv_can p2).2, p3, hl, hl']
        have HGL : Hid ((Tr.gl (Tr.can s) kn t).length = n + n') := by rw [Hid, p3, hl, hl']
        have HPT := Lib.hid p1
        have HLV := Lib.hid p2
        have C2 := fun w => graftAt_any (Tr.txt s) kn (Tr.txt t) w (Tr.tx_txt h1) (by omega) (by omega)
        rw [hl, hl'] at h8
        have HL := Lib.hid hl
        have HL' := Lib.hid hl'
        obtain ⟨hk0, hk1⟩ := hk
        clear hl hl' hb z1 z2 h1 h2 p1 p2 p3
        go_enter Try.func68, Try.ntmps68
        go_wp2_with fail
        refine C0.mono ?_
        rintro e w1 ⟨rfl, d, rfl⟩
        go_wp2_with fail
        refine (C1 _).mono ?_
        rintro e w1 ⟨rfl, d1, rfl⟩
        have B1 : Hid (Below w.heap.size w (((w.alloc (.cells #[.slice A n c, .slice A' n' c'] 30)).drewN d).drewN d1)) := below_drewN (below_drewN hal d) d1
        generalize ((w.alloc (.cells #[.slice A n c, .slice A' n' c'] 30)).drewN d).drewN d1 = W1 at *
        go_wp2_with fail
        refine (treeOf_any A n c B s _ HL.out a1 a8 hc (Nat.le_trans hB B1.out.size) (Row.below h B1.out hB)).mono ?_
        rintro e w2 ⟨rfl, bel2⟩
        have B2 : Hid (Below w.heap.size w w2) := B1.out.trans (bel2.mono B1.out.size)
        clear bel2
        go_wp2_with fail
        refine (treeOf_any A' n' c' B' t _ HL'.out b1 b8 hc' (Nat.le_trans hB' B2.out.size) (Row.below h' B2.out hB')).mono ?_
        rintro e w3 ⟨rfl, bel3⟩
        have B3 : Hid (Below w.heap.size w w3) := B2.out.trans (bel3.mono B2.out.size)
        clear bel3
        go_wp2_with fail
        refine (C2 _).mono ?_
        rintro e w4 ⟨rfl, bel4⟩
        have B4 : Hid (Below w.heap.size w w4) := B3.out.trans (bel4.mono B3.out.size)
        rw [← HPT.out]
        clear bel4 C2
        go_wp2_with fail
        refine (levelsOf_any (Tr.gl (Tr.can s) kn t) _ HLV.out).mono ?_
        rintro e w5 ⟨A5, c5, rfl, own5, bel5⟩
        rw [HGL.out] at own5 ⊢
        have GB : Hid (Below w.heap.size w w5) := B4.out.trans (bel5.mono B4.out.size)
        have GO : Hid (w5.ownsRow w.heap.size 2 1 (.slice A5 (n + n') c5) (n + n') (ints (Tr.can (Tr.gl (Tr.can s) kn t)))) := ((OwnR.of own5).more B4.out.size (Nat.le_refl _)).1
        clear own5 bel5
        go_wp2
        go_ret2
        exact ResL.of G.out HCL.out (by omega) GO.out GB.out
      · have G := Lib.hid (graftA_big h1 h2 (k := k) (by rw [hl]; exact hk) h8)
        rw [hl, hl'] at h8
        have h8' : 8 < (n : Int) + (n' : Int) := by omega
        clear hl hl' hb z1 z2 h1 h2 h8
        go_enter Try.func68, Try.ntmps68
        go_wp2_with fail
        refine C0.mono ?_
        rintro e w1 ⟨rfl, d, rfl⟩
        go_wp2_with fail
        refine (C1 _).mono ?_
        rintro e w1 ⟨rfl, d1, rfl⟩
        go_wp2
        go_ret2
        exact ResL.nil G.out (below_drewN hal _)
    · rw [decide_eq_false hk] at C1
      have G := Lib.hid (graftA_out h1 h2 (k := k) (by rw [hl]; exact hk))
      clear hl hl' hb z1 z2 h1 h2 hk
      go_enter Try.func68, Try.ntmps68
      go_wp2_with fail
      refine C0.mono ?_
      rintro e w1 ⟨rfl, d, rfl⟩
      go_wp2_with fail
      refine (C1 _).mono ?_
      rintro e w1 ⟨rfl, d1, rfl⟩
      go_wp2
      go_ret2
      exact ResL.nil G.out (below_drewN hal _)
  · have G : Hid (graftAtA s k t = ([], 1)) := if_neg hlv
    have e : (Tr.isLv s && Tr.isLv t) = false := by
      cases h1 : Tr.isLv s
      · rfl
      · cases h2 : Tr.isLv t
        · rfl
        · exact absurd ⟨h1, h2⟩ hlv
    rw [e] at C0
    clear hb e hlv hl hl'
    go_enter Try.func68, Try.ntmps68
    go_wp2_with fail
    refine C0.mono ?_
    rintro e w1 ⟨rfl, d, rfl⟩
    go_wp2
    go_ret2
    exact ResL.nil G.out (below_drewN hal d)
theorem pButcherProduct_L (A A' : Option Addr) (n n' c c' B B' : Nat) (s t : List Int) (w : World) (hl : s.length = n) (hl' : t.length = n') (hn : n ≤ 1048576) (hn' : n' ≤ 1048576) (hB : B ≤ w.heap.size) (hB' : B' ≤ w.heap.size) (h : Row w B A (ints s)) (h' : Row w B' A' (ints t)) (hc : n ≤ c) (hc' : n' ≤ c') :
    Calls Try.prog 66 #[.slice A n c, .slice A' n' c'] w (ResL (butcherA s t) w) := by
  have C0 := pGraftAt_L A A' n n' c c' B B' s t 0 w hl hl' hn hn' hB hB' h h' (by omega) hc hc'
  unfold butcherA
  clear h h' hl hl'
  go_enter Try.func66, Try.ntmps66
  go_wp2_with fail
  refine C0.mono ?_
  rintro e w1 ⟨z, A1, c1, rfl, own1, bel1⟩
  have G : Hid (ResL (graftAtA s 0 t) w (.returned (.tuple #[.slice A1 (graftAtA s 0 t).1.length c1, .int .i64 (graftAtA s 0 t).2])) w1) := ⟨z, A1, c1, rfl, own1, bel1⟩
  obtain ⟨r, hr⟩ : ∃ r, r = graftAtA s 0 t := ⟨_, rfl⟩
  have HR := Lib.hid hr
  rw [← hr] at G ⊢
  clear z own1 bel1 hr C0
  go_wp2
  go_ret2
  rw [← HR.out]
  exact G.out
set_option maxHeartbeats 2000000 in
theorem sGraftAt_L (A A' : Option Addr) (n n' c c' B B' : Nat) (s t : List Int) (k : Int) (w : World) (hl : s.length = n) (hl' : t.length = n') (hn : n ≤ 1048576) (hn' : n' ≤ 1048576) (hB : B ≤ w.heap.size) (hB' : B' ≤ w.heap.size) (h : Row w B A (ints s)) (h' : Row w B' A' (ints t)) (hk64 : -9223372036854775808 ≤ k ∧ k ≤ 9223372036854775807) :
    Calls Try.prog 67 #[.slice A n c, .int .i64 k, .slice A' n' c'] w (ResL (graftAtA s k t) w) := by
  have C0 := l03Is_any A n c B s w hl hn h
  cases h1 : Tr.isLv s
  · have G := Lib.hid (graftA_no1 (v := t) (k := k) h1)
    rw [h1] at C0
    clear hl hl' h1
    go_enter Try.func67, Try.ntmps67
    go_wp2_with fail
    refine C0.mono ?_
    rintro e w1 ⟨rfl, d, rfl⟩
    go_wp2
    go_ret2
    exact ResL.nil G.out (below_drewN (Below.refl _ _) d)
  · rw [h1] at C0
    have C1 := fun d => l03Is_any A' n' c' B' t (w.drewN d) hl' hn' (h'.drewN d)
    cases h2 : Tr.isLv t
    · have G := Lib.hid (graftA_no2 (u := s) (k := k) h2)
      simp only [h2] at C1
      clear hl hl' h1 h2
      go_enter Try.func67, Try.ntmps67
      go_wp2_with fail
      refine C0.mono ?_
      rintro e w1 ⟨rfl, d, rfl⟩
      go_wp2_with fail
      refine (C1 _).mono ?_
      rintro e w1 ⟨rfl, d2, rfl⟩
      go_wp2
      go_ret2
      exact ResL.nil G.out (below_drewN (Below.refl _ _) _)
    · simp only [h2] at C1
      obtain ⟨a1, a8⟩ := lv_bd h1
      obtain ⟨b1, b8⟩ := lv_bd h2
      rw [hl] at a1 a8
      rw [hl'] at b1 b8
      have C2 := fun w => l01In_any k 0 ((n : Int) - 1) w
      by_cases hk : 0 ≤ k ∧ k < (n : Int)
      · have T := isIn_yes (n := k) (l := 0) (h := (n : Int) - 1) (by omega) (by omega)
        by_cases h8 : s.length + t.length ≤ 8
        · obtain ⟨kn, rfl⟩ : ∃ kn : Nat, k = (kn : Int) := ⟨k.toNat, by omega⟩
          have G := Lib.hid (graftA_yes h1 h2 (k := kn) (by omega) h8)
          obtain ⟨p1, p2, p3⟩ := graft_parts h1 h2 (k := kn) (by omega) h8
          have HCL : Hid ((Tr.can (Tr.gl (Tr.can s) kn t)).length = n + n') := by rw [Hid, (lv_can p2).2, p3, hl, hl']
          have HLV := Lib.hid p2
          have HCS : Hid ((Tr.can s).length = n) := by rw [Hid, (lv_can h1).2, hl]
          have HL := Lib.hid hl
          have HL' := Lib.hid hl'
          have H1 := Lib.hid h1
          have H2 := Lib.hid h2
          rw [hl, hl'] at h8
          obtain ⟨hk0, hk1⟩ := hk
          have hkn : kn < n := by omega
          clear hl hl' h1 h2 p1 p2 p3
          go_enter Try.func67, Try.ntmps67
          go_wp2_with fail
          refine C0.mono ?_
          rintro e w1 ⟨rfl, d, rfl⟩
          go_wp2_with fail
          refine (C1 _).mono ?_
          rintro e w1 ⟨rfl, d2, rfl⟩
          have B1 : Hid (Below w.heap.size w ((w.drewN d).drewN d2)) := below_drewN (below_drewN (Below.refl _ _) _) _
          generalize (w.drewN d).drewN d2 = W1 at *
          go_wp2_with fail
          refine (C2 _).mono ?_
          rintro e w1 ⟨rfl, rfl⟩
          rw [T]
          go_wp2_with fail
          refine (l03Canon_any A n c B s _ HL.out H1.out (Nat.le_trans hB B1.out.size) (Row.below h B1.out hB)).mono ?_
          rintro e w2 ⟨A2, c2, rfl, own2, bel2⟩
          have B2 : Hid (Below w.heap.size w w2) := B1.out.trans (bel2.mono B1.out.size)
          have R2 : Hid (Row w2 w2.heap.size A2 (ints (Tr.can s))) := row_of_own own2
          have hc2 := (own_cap own2).1
          clear own2 bel2
          go_wp2_with fail
          refine (l04Graft_any A2 A' n n' c2 c' w2.heap.size B' kn (Tr.can s) t w2 HCS.out HL'.out a8 b8 hkn hc2 (lv_can H1.out).1 H2.out HLV.out (Nat.le_refl _) (Nat.le_trans hB' B2.out.size) R2.out (Row.below h' B2.out hB')).mono ?_
          rintro e w3 ⟨A3, c3, rfl, own3, bel3⟩
          have GB : Hid (Below w.heap.size w w3) := B2.out.trans (bel3.mono B2.out.size)
          have GO : Hid (w3.ownsRow w.heap.size 2 1 (.slice A3 (n + n') c3) (n + n') (ints (Tr.can (Tr.gl (Tr.can s) kn t)))) := ((OwnR.of own3).more B2.out.size (Nat.le_refl _)).1
          clear own3 bel3
          go_wp2
          go_ret2
          exact ResL.of G.out HCL.out (by omega) GO.out GB.out
        · have G := Lib.hid (graftA_big h1 h2 (k := k) (by rw [hl]; exact hk) h8)
          rw [hl, hl'] at h8
          have h8' : 8 < (n : Int) + (n' : Int) := by omega
          clear hl hl' h1 h2 h8
          go_enter Try.func67, Try.ntmps67
          go_wp2_with fail
          refine C0.mono ?_
          rintro e w1 ⟨rfl, d, rfl⟩
          go_wp2_with fail
          refine (C1 _).mono ?_
          rintro e w1 ⟨rfl, d2, rfl⟩
          go_wp2_with fail
          refine (C2 _).mono ?_
          rintro e w1 ⟨rfl, rfl⟩
          rw [T]
          go_wp2
          go_ret2
          exact ResL.nil G.out (below_drewN (Below.refl _ _) _)
      · have T := isIn_no (n := k) (l := 0) (h := (n : Int) - 1) (by omega)
        have G := Lib.hid (graftA_out h1 h2 (k := k) (by rw [hl]; exact hk))
        clear hl hl' h1 h2 hk
        go_enter Try.func67, Try.ntmps67
        go_wp2_with fail
        refine C0.mono ?_
        rintro e w1 ⟨rfl, d, rfl⟩
        go_wp2_with fail
        refine (C1 _).mono ?_
        rintro e w1 ⟨rfl, d2, rfl⟩
        go_wp2_with fail
        refine (C2 _).mono ?_
        rintro e w1 ⟨rfl, rfl⟩
        rw [T]
        go_wp2
        go_ret2
        exact ResL.nil G.out (below_drewN (Below.refl _ _) _)
set_option maxHeartbeats 2000000 in
theorem sButcherProduct_L (A A' : Option Addr) (n n' c c' B B' : Nat) (s t : List Int) (w : World) (hl : s.length = n) (hl' : t.length = n') (hn : n ≤ 1048576) (hn' : n' ≤ 1048576) (hB : B ≤ w.heap.size) (hB' : B' ≤ w.heap.size) (h : Row w B A (ints s)) (h' : Row w B' A' (ints t)) (hc : n ≤ c) (hc' : n' ≤ c') :
    Calls Try.prog 65 #[.slice A n c, .slice A' n' c'] w (ResL (butcherA s t) w) := by
  have C0 := l03Is_any A n c B s w hl hn h
  unfold butcherA
  cases h1 : Tr.isLv s
  · have G := Lib.hid (graftA_no1 (v := t) (k := 0) h1)
    rw [h1] at C0
    clear hl hl' h1
    go_enter Try.func65, Try.ntmps65
    go_wp2_with fail
    refine C0.mono ?_
    rintro e w1 ⟨rfl, d, rfl⟩
    go_wp2
    go_ret2
    exact ResL.nil G.out (below_drewN (Below.refl _ _) d)
  · rw [h1] at C0
    have C1 := fun d => l03Is_any A' n' c' B' t (w.drewN d) hl' hn' (h'.drewN d)
    cases h2 : Tr.isLv t
    · have G := Lib.hid (graftA_no2 (u := s) (k := 0) h2)
      simp only [h2] at C1
      clear hl hl' h1 h2
      go_enter Try.func65, Try.ntmps65
      go_wp2_with fail
      refine C0.mono ?_
      rintro e w1 ⟨rfl, d, rfl⟩
      go_wp2_with fail
      refine (C1 _).mono ?_
      rintro e w1 ⟨rfl, d2, rfl⟩
      go_wp2
      go_ret2
      exact ResL.nil G.out (below_drewN (Below.refl _ _) _)
    · simp only [h2] at C1
      obtain ⟨a1, a8⟩ := lv_bd h1
      obtain ⟨b1, b8⟩ := lv_bd h2
      rw [hl] at a1 a8
      rw [hl'] at b1 b8
      by_cases h8 : s.length + t.length ≤ 8
      · have G := Lib.hid (graftA_yes h1 h2 (k := 0) (by omega) h8)
        obtain ⟨p1, p2⟩ := Tr.graft_root h1 h2 h8
        rw [← butcher_eq h1 h2 h8] at G
        have HCL : Hid ((Tr.can (Tr.gl s 0 t)).length = n + n') := by rw [Hid, (lv_can p2).2, Tr.gl_length (Tr.endL_le (by omega)).2, hl, hl']
        have HLV := Lib.hid p2
        have HL := Lib.hid hl
        have HL' := Lib.hid hl'
        have H1 := Lib.hid h1
        have H2 := Lib.hid h2
        rw [hl, hl'] at h8
        clear hl hl' h1 h2 p1 p2
        go_enter Try.func65, Try.ntmps65
        go_wp2_with fail
        refine C0.mono ?_
        rintro e w1 ⟨rfl, d, rfl⟩
        go_wp2_with fail
        refine (C1 _).mono ?_
        rintro e w1 ⟨rfl, d2, rfl⟩
        have B1 : Hid (Below w.heap.size w ((w.drewN d).drewN d2)) := below_drewN (below_drewN (Below.refl _ _) _) _
        generalize (w.drewN d).drewN d2 = W1 at *
        go_wp2_with fail
        refine (l04Graft_any A A' n n' c c' B B' 0 s t W1 HL.out HL'.out a8 b8 (by omega) hc H1.out H2.out HLV.out (Nat.le_trans hB B1.out.size) (Nat.le_trans hB' B1.out.size) (Row.below h B1.out hB) (Row.below h' B1.out hB')).mono ?_
        rintro e w3 ⟨A3, c3, rfl, own3, bel3⟩
        have GB : Hid (Below w.heap.size w w3) := B1.out.trans (bel3.mono B1.out.size)
        have GO : Hid (w3.ownsRow w.heap.size 2 1 (.slice A3 (n + n') c3) (n + n') (ints (Tr.can (Tr.gl s 0 t)))) := ((OwnR.of own3).more B1.out.size (Nat.le_refl _)).1
        clear own3 bel3
        go_wp2
        go_ret2
        exact ResL.of G.out HCL.out (by omega) GO.out GB.out
      · have G := Lib.hid (graftA_big h1 h2 (k := 0) (by omega) h8)
        rw [hl, hl'] at h8
        have h8' : 8 < (n : Int) + (n' : Int) := by omega
        clear hl hl' h1 h2 h8
        go_enter Try.func65, Try.ntmps65
        go_wp2_with fail
        refine C0.mono ?_
        rintro e w1 ⟨rfl, d, rfl⟩
        go_wp2_with fail
        refine (C1 _).mono ?_
        rintro e w1 ⟨rfl, d2, rfl⟩
        go_wp2
        go_ret2
        exact ResL.nil G.out (below_drewN (Below.refl _ _) _)
end Go.Proofs.Ytgicbmfcojfjcaa
