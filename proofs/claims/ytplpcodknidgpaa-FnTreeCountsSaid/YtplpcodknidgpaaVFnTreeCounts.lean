/-
  PROVED: for every code the law FnTreeCounts returns true: there are as many trees with n nodes as there should be, in order, with height and leaves that fit, and their labellings are (n - 1)! together.
  CONDITIONS: none; every slice of bytes.
-/
import Derived.Test.YtplpcodknidgpaaUX1
import Derived.Deep.RegionHeld3
import Derived.Test.YtplpcodknidgpaaFFnTreeCounts
namespace Go.Proofs.Ytplpcodknidgpaa.fnTreeCounts
open Go.ChangeShapes Go.WideShapes Go.ChangeAt Go.RowKit Fld
set_option linter.unusedVariables false
set_option linter.unusedSimpArgs false
set_option maxRecDepth 100000

theorem mat_next {w w' : World} {A : Option Addr} {m : List (List Int)} (h : Mat w w.heap.size A m) (b : Below w.heap.size w w') : Mat w' w'.heap.size A m := (h.below b (Nat.le_refl _)).more b.size
theorem row_next {w w' : World} {A : Option Addr} {vs : List Value} (h : Row w w.heap.size A vs) (b : Below w.heap.size w w') : Row w' w'.heap.size A vs := (h.below b (Nat.le_refl _)).more b.size
theorem below_step {B : Nat} {a w w' : World} (h : Below B a w) (hB : B ≤ w.heap.size) (k : Below w.heap.size w w') : Below B a w' := h.trans (k.mono hB)
theorem cell_next {w w' : World} {a : Addr} {v : Value} (h : w.cell? a = some v) (b : Below w.heap.size w w') : w'.cell? a = some v := (b.cell (World.block_lt_of_cell? w a h)).trans h
theorem resM_out {m : List (List Int)} {k : Int} {r : List (List Int) × Int} {w w' : World} {e : Ending} (h : ResM r w e w') (hr : r = (m, k)) : ∃ A c, e = .returned (.tuple #[.slice A m.length c, .int .i64 k]) ∧ Mat w' w'.heap.size A m ∧ Below w.heap.size w w' := by
  subst hr
  obtain ⟨_, A, c, vs, rfl, o1, hb⟩ := h
  exact ⟨A, c, rfl, o1.mat, hb⟩
theorem resI_out {x k : Int} {r : Int × Int} {w w' : World} {e : Ending} (h : ResI r w e w') (hr : r = (x, k)) : e = .returned (.tuple #[.int .i64 x, .int .i64 k]) ∧ Below w.heap.size w w' := by
  subst hr; exact h
theorem fact9_any (n : Nat) (w : World) (h8 : n ≤ 8) : Calls Try.prog 17 #[.int .i64 n] w fun e w' => e = .returned (.int .i64 (factN n)) ∧ w = w' := by
  go_enter Try.func17, Try.ntmps17
  go_wp2_with fail
  go_loop [3, 4] (fun v i => ∃ (j : Nat) (a : Int), 1 ≤ j ∧ (j ≤ n ∨ j = 1) ∧ v = .int .i64 a ∧ i = .int .i64 ((j : Int) + 1) ∧ Hid (a = factN j)) (fun _ i => n + 1 - (intOf i).toNat)
  case atStart => exact ⟨1, 1, Nat.le_refl _, .inr rfl, rfl, rfl, rfl⟩
  case round =>
    obtain ⟨j, a, hj1, hj, rfl, rfl, HA⟩ := hrel
    by_cases hlt : j < n
    · have HS : Hid (a * ((j : Int) + 1) = factN (j + 1)) := by rw [Hid, HA.out]; rfl
      have hb := factN_small (j + 1) (by omega)
      rw [← HS.out] at hb
      have hw1 : IntKind.i64.wrap (a * ((j : Int) + 1)) = a * ((j : Int) + 1) := IntWalk.i64_in _ (by omega)
      have hle : (j : Int) + 1 ≤ (n : Int) := by omega
      clear HA hb
      go_wp2
      go_round
      case rel => exact ⟨j + 1, _, by omega, by omega, rfl, by go_num, HS.out⟩
      case measure => simp [intOf]; omega
    · have hle : ¬ ((j : Int) + 1 ≤ (n : Int)) := by omega
      have HE : Hid (a = factN n) := by
        rw [Hid, HA.out]
        rcases hj with h | h
        · rw [show j = n by omega]
        · rcases (show n = 0 ∨ n = 1 by omega) with q | q
          · rw [h, q]; rfl
          · rw [h, q]
      clear HA
      go_wp2
      go_ret
      exact ⟨ret_i64 HE.out, rfl⟩
/-- the draw -/
theorem drawTreesOf_any (A : Option Addr) (n c : Nat) (xs : List Int) (w : World) (hn : n ≤ 4096) (hx : IsCode w A n xs) : Calls Try.prog 10 #[.slice A n c] w fun e w' => ∃ v : Int, e = .returned (.int .i64 v) ∧ (0 ≤ v ∧ v ≤ 9) ∧ Below w.heap.size w w' := by
  obtain ⟨hl, h, hx⟩ := hx
  go_enter Try.func10, Try.ntmps10
  go_wp2_with fail
  refine (l01From_any A n c w.heap.size xs w hl hn (Nat.le_refl _) h hx).mono ?_
  rintro e w1 ⟨G, rfl, hG, s1, b1⟩
  have HG1 := s1.lt
  have hz1 := b1.size
  clear h hx hl
  go_wp2_with fail
  refine (l01Pick_any G _ xs _ 10 _ _ [1, 2, 3, 4, 5, 6, 7, 8, 0, 9] _ (s1.alloc _) (Row.new w1 _ (ints [1, 2, 3, 4, 5, 6, 7, 8, 0, 9])) (fun b o e => by injection e with e; injection e with e1; omega) rfl (by omega) (by omega)).mono ?_
  rintro e w3 ⟨v, rfl, hv, s3, o3⟩
  have hvb : 0 ≤ v ∧ v ≤ 9 := by
    simp only [List.mem_cons, List.not_mem_nil, or_false] at hv
    omega
  have GB := Lib.hid (below_only (b1.alloc hz1 _) o3 (by simp; omega) hG)
  clear hv s1 s3 o3 b1
  go_wp2
  go_ret
  exact ⟨v, rfl, hvb, GB.out⟩

set_option maxHeartbeats 8000000 in
theorem walk (w : World) (a0 : Option Addr) (len0 cap0 : Nat) (z0 : List Int) (w0 : IsRow .u8 w a0 len0 cap0 z0) (hmx : MxCell w) : Calls Try.prog 4 #[.slice a0 len0 cap0] w fun e w' => e = .returned (.bool true) ∧ Below w.heap.size w w' := by
  have hcode := isCode_of w0
  have hcm := w0.2.2.1
  have hlc := w0.2.1
  unfold maxLen at hcm
  have HX := Lib.hid hcode
  have HMX := Lib.hid hmx
  clear hcode w0 hmx
  by_cases hn : len0 ≤ 4096
  · have t0 : decide ((4096 : Int) < len0) = false := decide_eq_false (by omega)
    go_enter Try.func4, Try.ntmps4
    go_wp2_with fail
    refine (big_any _ _ _ _ (by omega)).mono ?_
    rintro e w' ⟨rfl, rfl⟩
    go_wp2_with fail
    refine (drawTreesOf_any _ _ _ _ _ hn HX.out).mono ?_
    rintro e w' ⟨v, rfl, ⟨v0, v9⟩, b1⟩
    have B := Lib.hid b1
    have HM := Lib.hid (HMX.out.below b1)
    clear b1 HMX
    by_cases hv : 1 ≤ v ∧ v ≤ 8
    · obtain ⟨n, rfl⟩ : ∃ n : Nat, v = (n : Int) := ⟨v.toNat, by omega⟩
      have h1 : 1 ≤ n := by omega
      have h8 : n ≤ 8 := by omega
      have F1 := Lib.hid (treesOfA_yes h1 h8)
      have HCNT := Lib.hid (tc_count h1 h8)
      have HTREE := fun k t (ht : (Tr.treesL n)[k]? = some t) => tc_tree h1 h8 ht
      have HTR := Lib.hid HTREE
      have HSUM : Hid (∀ k, k ≤ (Tr.treesL n).length → 0 ≤ sumV (Tr.treesL n) k ∧ sumV (Tr.treesL n) k ≤ 5040) := fun k hk => tc_sum h1 h8 hk
      have HEND := Lib.hid (tc_end h1 h8)
      have HORD : Hid (∀ k u t, (Tr.treesL n)[k]? = some u → (Tr.treesL n)[k + 1]? = some t → cmpA u t = (-1, 0)) := fun k u t hu ht => tc_order h1 h8 hu ht
      have h115 := (trees_all h1 h8).2
      have HLV : Hid (∀ t ∈ Tr.treesL n, Tr.isLv t = true) := fun t ht => ((trees_all h1 h8).1 t ht).1
      obtain ⟨L, hL⟩ : ∃ L, L = Tr.treesL n := ⟨_, rfl⟩
      rw [← hL] at F1 HCNT HTR HSUM HEND HORD h115 HLV
      obtain ⟨q, hq⟩ : ∃ q, q = L.length := ⟨_, rfl⟩
      rw [← hq] at HCNT HSUM HEND h115
      have HQ := Lib.hid hq
      clear HTREE hL hq hv v0 v9
      go_wp2_with fail
      refine (pTreesOf_L (n : Int) _ (by omega)).mono ?_
      rintro e w' hN
      obtain ⟨AL, cL, rfl, rL, y⟩ := resM_out hN F1.out
      rw [← HQ.out]
      replace B := Lib.hid (below_step B.out B.out.size y)
      replace HM := Lib.hid (HM.out.next y)
      have RL := Lib.hid rL
      clear hN rL y
      go_wp2_with fail
      refine (sTreesOf_L (n : Int) _ (by omega)).mono ?_
      rintro e w' hN
      obtain ⟨AZ, cZ, rfl, rZ, y⟩ := resM_out hN F1.out
      replace B := Lib.hid (below_step B.out B.out.size y)
      replace HM := Lib.hid (HM.out.next y)
      replace RL := Lib.hid (mat_next RL.out y)
      clear hN rZ y
      have hal : Below w'.heap.size w' (w'.alloc (.cells #[.int .i64 0, .int .i64 1, .int .i64 1, .int .i64 2, .int .i64 4, .int .i64 9, .int .i64 20, .int .i64 48, .int .i64 115] 2)) := (Below.refl _ _).alloc (Nat.le_refl _) _
      have hcnt : (w'.alloc (.cells #[.int .i64 0, .int .i64 1, .int .i64 1, .int .i64 2, .int .i64 4, .int .i64 9, .int .i64 20, .int .i64 48, .int .i64 115] 2)).cell? ⟨w'.heap.size, n, none⟩ = some (.int .i64 ((q : Nat) : Int)) := by
        obtain ⟨b, o, e, _, hc⟩ := (Row.new w' 2 (ints countsV)) n _ (ints_at HCNT.out)
        injection e with e
        injection e with e1 e2 _
        subst e1 e2
        rw [Nat.zero_add] at hc
        exact hc
      have B2 := Lib.hid (below_step B.out B.out.size hal)
      have HM2 := Lib.hid (HM.out.next hal)
      have RL2 := Lib.hid (mat_next RL.out hal)
      have zq : (((q : Nat) : Int) != ((q : Nat) : Int)) = false := bne_f rfl
      have n0 : (0 : Int) ≤ (n : Int) := Int.natCast_nonneg _
      have n9 : (n : Int) < 9 := by omega
      clear hal B HM RL
      go_wp2_with fail
      go_loopw [9, 10] (fun a i wr => ∃ k : Nat, k ≤ q ∧ a = .int .i64 (sumV L k) ∧ i = .int .i64 k ∧ Hid (Mat wr wr.heap.size AL L) ∧ Hid (MxCell wr) ∧ Hid (Below w.heap.size w wr)) (fun _ i _ => q - (intOf i).toNat)
      case atStart => exact ⟨0, Nat.zero_le _, rfl, rfl, RL2, HM2, B2⟩
      case round =>
        clear RL2 HM2 B2 hcnt
        obtain ⟨k, hk, rfl, rfl, RL, HM, B⟩ := hrel
        by_cases hlt : k < q
        · obtain ⟨t, ht⟩ := at_lt (show k < L.length by rw [← HQ.out]; exact hlt)
          obtain ⟨f1, f2, f3, f4, f5, f6, f7, f8⟩ := HTR.out k t ht
          have hlv := HLV.out t (List.mem_of_getElem? ht)
          have GL := Lib.hid (labellingsA_yes hlv)
          have GH := Lib.hid (heightA_yes hlv)
          have GV := Lib.hid (leavesA_yes hlv)
          have GT := Lib.hid f1
          have HS := Lib.hid (sumV_step ht)
          obtain ⟨s0, s1⟩ := HSUM.out k (by omega)
          obtain ⟨s2, s3⟩ := HSUM.out (k + 1) (by omega)
          rw [HS.out] at s2 s3
          obtain ⟨b, o, Ak, ck, rfl, _, hct, hlc, hcm, hrow⟩ := RL.out k t ht
          have HT := Lib.hid hrow
          have HLN := Lib.hid f2
          obtain ⟨hh, hhe⟩ : ∃ z, z = maxTo t t.length := ⟨_, rfl⟩
          obtain ⟨ll, hll⟩ : ∃ z, z = lvN t t.length := ⟨_, rfl⟩
          obtain ⟨al, hal⟩ : ∃ z, z = labV t := ⟨_, rfl⟩
          have GL2 : Hid (labellingsA t = (al, 0)) := by rw [Hid, hal]; exact GL.out
          rw [← hhe] at f5 f6 f8 GH
          rw [← hll] at f6 f7 GV
          rw [← hal] at f3 f4 HS s2 s3
          obtain ⟨sk, hsk⟩ : ∃ z, z = sumV L k := ⟨_, rfl⟩
          rw [← hsk] at HS s0 s1 s2 s3 ⊢
          have w1 : IntKind.i64.wrap (sk + al) = sk + al := IntWalk.i64_in _ (by omega)
          have w2 : IntKind.i64.wrap (hh + ((ll : Nat) : Int)) = hh + ((ll : Nat) : Int) := IntWalk.i64_in _ (by omega)
          have z1 : ¬ (n : Int) < hh + ((ll : Nat) : Int) := by omega
          have z2 : ¬ ((ll : Nat) : Int) < 1 := by omega
          have z3 : ¬ (n : Int) ≤ hh := by omega
          rw [f2] at hct hlc
          have zn : ((n : Int) != (n : Int)) = false := bne_f rfl
          have PREV : Hid (∀ k', k = k' + 1 → ∃ u cu Au, L[k']? = some u ∧ wr.cell? ⟨b, o + k', none⟩ = some (.slice Au n cu) ∧ u.length = n ∧ n ≤ cu ∧ Row wr wr.heap.size Au (ints u) ∧ cmpA u t = (-1, 0)) := fun k' hk' => by
            obtain ⟨u, hu⟩ := at_lt (show k' < L.length by rw [← HQ.out]; omega)
            obtain ⟨b', o', Au, cu, e', _, hcu, hlu, _, hru⟩ := RL.out k' u hu
            have hun := (HTR.out k' u hu).2.1
            injection e' with e'
            injection e' with e1 e2 _
            subst e1 e2
            rw [hun] at hcu hlu
            exact ⟨u, cu, Au, hu, hcu, hun, hlu, hru, HORD.out k' u t hu (by rw [← hk']; exact ht)⟩
          clear ht f1 f2 hlv GL hrow hhe hll hal hsk
          -- labellings
          go_wp2_with fail
          refine (pLabellingsOf_L Ak n ck _ t _ HLN.out (by omega) (Nat.le_refl _) HT.out hlc).mono ?_
          rintro e w1' hN
          obtain ⟨rfl, y⟩ := resI_out hN GL2.out
          replace RL := Lib.hid (mat_next RL.out y)
          replace HM := Lib.hid (HM.out.next y)
          replace B := Lib.hid (below_step B.out B.out.size y)
          replace HT := Lib.hid (row_next HT.out y)
          have hct1 := cell_next hct y
          have PREV1 : Hid (∀ k', k = k' + 1 → ∃ u cu Au, L[k']? = some u ∧ w1'.cell? ⟨b, o + k', none⟩ = some (.slice Au n cu) ∧ u.length = n ∧ n ≤ cu ∧ Row w1' w1'.heap.size Au (ints u) ∧ cmpA u t = (-1, 0)) := fun k' hk' => by
            obtain ⟨u, cu, Au, q1, q2, q3, q4, q5, q6⟩ := PREV.out k' hk'
            exact ⟨u, cu, Au, q1, cell_next q2 y, q3, q4, row_next q5 y, q6⟩
          clear hN y hct PREV
          -- height
          go_wp2_with fail
          refine (pHeightOf_L Ak n ck _ t _ HLN.out (by omega) (Nat.le_refl _) HT.out).mono ?_
          rintro e w2' hN
          obtain ⟨rfl, y⟩ := resI_out hN GH.out
          replace RL := Lib.hid (mat_next RL.out y)
          replace HM := Lib.hid (HM.out.next y)
          replace B := Lib.hid (below_step B.out B.out.size y)
          replace HT := Lib.hid (row_next HT.out y)
          have hct2 := cell_next hct1 y
          have PREV2 : Hid (∀ k', k = k' + 1 → ∃ u cu Au, L[k']? = some u ∧ w2'.cell? ⟨b, o + k', none⟩ = some (.slice Au n cu) ∧ u.length = n ∧ n ≤ cu ∧ Row w2' w2'.heap.size Au (ints u) ∧ cmpA u t = (-1, 0)) := fun k' hk' => by
            obtain ⟨u, cu, Au, q1, q2, q3, q4, q5, q6⟩ := PREV1.out k' hk'
            exact ⟨u, cu, Au, q1, cell_next q2 y, q3, q4, row_next q5 y, q6⟩
          clear hN y hct1 PREV1
          -- leaves
          go_wp2_with fail
          refine (pLeavesOf_M Ak n ck _ t _ HM.out HLN.out (by omega) (Nat.le_refl _) HT.out hlc).mono ?_
          rintro e w3' hN
          obtain ⟨rfl, y⟩ := resI_out hN GV.out
          replace RL := Lib.hid (mat_next RL.out y)
          replace HM := Lib.hid (HM.out.next y)
          replace B := Lib.hid (below_step B.out B.out.size y)
          replace HT := Lib.hid (row_next HT.out y)
          have hct3 := cell_next hct2 y
          have PREV3 : Hid (∀ k', k = k' + 1 → ∃ u cu Au, L[k']? = some u ∧ w3'.cell? ⟨b, o + k', none⟩ = some (.slice Au n cu) ∧ u.length = n ∧ n ≤ cu ∧ Row w3' w3'.heap.size Au (ints u) ∧ cmpA u t = (-1, 0)) := fun k' hk' => by
            obtain ⟨u, cu, Au, q1, q2, q3, q4, q5, q6⟩ := PREV2.out k' hk'
            exact ⟨u, cu, Au, q1, cell_next q2 y, q3, q4, row_next q5 y, q6⟩
          clear hN y hct2 PREV2
          -- is it a tree?
          go_wp2_with fail
          refine (isTree_any Ak n ck _ t _ HLN.out (by omega) hlc (Nat.le_refl _) HT.out).mono ?_
          rintro e w4' ⟨rfl, y⟩
          rw [GT.out]
          replace RL := Lib.hid (mat_next RL.out y)
          replace HM := Lib.hid (HM.out.next y)
          replace B := Lib.hid (below_step B.out B.out.size y)
          replace HT := Lib.hid (row_next HT.out y)
          have hct4 := cell_next hct3 y
          have PREV4 : Hid (∀ k', k = k' + 1 → ∃ u cu Au, L[k']? = some u ∧ w4'.cell? ⟨b, o + k', none⟩ = some (.slice Au n cu) ∧ u.length = n ∧ n ≤ cu ∧ Row w4' w4'.heap.size Au (ints u) ∧ cmpA u t = (-1, 0)) := fun k' hk' => by
            obtain ⟨u, cu, Au, q1, q2, q3, q4, q5, q6⟩ := PREV3.out k' hk'
            exact ⟨u, cu, Au, q1, cell_next q2 y, q3, q4, row_next q5 y, q6⟩
          clear y hct3 PREV3
          by_cases hk0 : k = 0
          · subst hk0
            have hk00 : ¬ (0 : Int) < ((0 : Nat) : Int) := by omega
            rw [Nat.add_zero] at hct4
            clear PREV4
            go_wp2
            go_roundw
            case rel => exact ⟨0 + 1, by omega, by rw [HS.out], by go_num, RL, HM, B⟩
            case measure => simp [intOf]; omega
          · obtain ⟨k', hk'⟩ : ∃ k', k = k' + 1 := ⟨k - 1, by omega⟩
            obtain ⟨u, cu, Au, hu, hcu, hun, hlu, hru, hcmp⟩ := PREV4.out k' hk'
            have HU := Lib.hid hru
            have HUN := Lib.hid hun
            have GC := Lib.hid hcmp
            have kp : (0 : Int) < (k : Int) := by omega
            have ep : IntKind.i64.wrap ((k : Int) - 1) = (k' : Int) := by rw [show (k : Int) - 1 = (k' : Int) by omega]; exact IntWalk.i64_in _ (by omega)
            have kk0 : (0 : Int) ≤ (k' : Int) := Int.natCast_nonneg _
            have kkq : (k' : Int) < (q : Int) := by omega
            have C9 := fun d => pCompareTrees_L Au Ak n n cu ck _ _ u t (w4'.drewN d) HUN.out HLN.out (by omega) (by omega) (Nat.le_refl _) (Nat.le_refl _) (HU.out.drewN d) (HT.out.drewN d) hlu hlc
            have HK : Hid (∀ W' : World, Below w4'.heap.size w4' W' → W'.cell? ⟨b, o + k', none⟩ = some (.slice Au n cu) ∧ W'.cell? ⟨b, o + k, none⟩ = some (.slice Ak n ck)) := fun W' hb => ⟨cell_next hcu hb, cell_next hct4 hb⟩
            clear hu hru hun hcmp PREV4 hk0 hk'
            go_wp2_with fail
            go_region_held3 (fun W' => W'.cell? ⟨b, o + k', none⟩ = some (.slice Au n cu) ∧ W'.cell? ⟨b, o + k, none⟩ = some (.slice Ak n ck)) (first | go_keep | exact HK.out _ (below_undrew' y))
              (first
                | (go_at_call 16; refine (C9 1).mono ?_; rintro e w5' hN; obtain ⟨rfl, y⟩ := resI_out hN GC.out))
            have y2 := below_undrew' y
            replace RL := Lib.hid (mat_next RL.out y2)
            replace HM := Lib.hid (HM.out.next y2)
            replace B := Lib.hid (below_step B.out B.out.size y2)
            clear hN y y2 C9 HK
            go_wp2
            go_roundw
            case rel => exact ⟨k + 1, by omega, by rw [HS.out], by go_num, RL, HM, B⟩
            case measure => simp [intOf]; omega
        · obtain rfl : k = q := by omega
          rw [HEND.out]
          have ef : IntKind.i64.wrap ((n : Int) - 1) = ((n - 1 : Nat) : Int) := by rw [show (n : Int) - 1 = ((n - 1 : Nat) : Int) by omega]; exact IntWalk.i64_in _ (by omega)
          obtain ⟨FA, hFA⟩ : ∃ z, z = factN (n - 1) := ⟨_, rfl⟩
          have C9 := fun w' => fact9_any (n - 1) w' (by omega)
          rw [← hFA] at C9 ⊢
          have zf : (FA == FA) = true := beq_t rfl
          clear RL HM hFA
          go_wp2_with fail
          refine (C9 _).mono ?_
          rintro e w9 ⟨rfl, rfl⟩
          go_wp2
          go_ret
          exact ⟨rfl, B.out⟩
    · have F1 := Lib.hid (treesOfA_no hv)
      clear hv
      go_wp2_with fail
      refine (pTreesOf_L v _ (by omega)).mono ?_
      rintro e w' hN
      obtain ⟨AL, cL, rfl, rL, y⟩ := resM_out hN F1.out
      replace B := Lib.hid (below_step B.out B.out.size y)
      clear hN rL y HM
      go_wp2_with fail
      refine (sTreesOf_L v _ (by omega)).mono ?_
      rintro e w' hN
      obtain ⟨AZ, cZ, rfl, rZ, y⟩ := resM_out hN F1.out
      replace B := Lib.hid (below_step B.out B.out.size y)
      clear hN rZ y
      go_wp2
      go_ret
      exact ⟨rfl, B.out⟩
  · have t0 : decide ((4096 : Int) < len0) = true := decide_eq_true (by omega)
    go_enter Try.func4, Try.ntmps4
    go_wp2_with fail
    refine (big_any _ _ _ _ (by omega)).mono ?_
    rintro e w' ⟨rfl, rfl⟩
    go_wp2
    go_ret
    exact ⟨rfl, Below.refl _ _⟩
/-- the statement -/
theorem holds : Rows.FnTreeCountsSaid := of_walk walk
end Go.Proofs.Ytplpcodknidgpaa.fnTreeCounts
