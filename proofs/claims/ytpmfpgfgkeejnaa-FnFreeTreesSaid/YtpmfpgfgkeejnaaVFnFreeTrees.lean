/-
  PROVED: for every code the law FnFreeTrees returns true: there are as many free trees and free conditions as there should be, free conditions are their own free forms and not superfluous, and the free form of each tree is among the free trees.
  CONDITIONS: none; every slice of bytes.
-/
import Derived.Test.YtpmfpgfgkeejnaaUT2
import Derived.Test.YtpmfpgfgkeejnaaFFnFreeTrees
namespace Go.Proofs.Ytpmfpgfgkeejnaa.fnFreeTrees
open Go.ChangeShapes Go.WideShapes Go.ChangeAt Go.RowKit Fld
set_option linter.unusedVariables false
set_option linter.unusedSimpArgs false
set_option maxRecDepth 100000

theorem mat_next {w w' : World} {A : Option Addr} {m : List (List Int)} (h : Mat w w.heap.size A m) (b : Below w.heap.size w w') : Mat w' w'.heap.size A m := (h.below b (Nat.le_refl _)).more b.size
theorem below_go {B : Nat} {a w w' : World} (h : Below B a w) (hB : B ≤ w.heap.size) (k : Below w.heap.size w w') : Below B a w' := h.trans (k.mono hB)
theorem cell_next {w w' : World} {a : Addr} {v : Value} (h : w.cell? a = some v) (b : Below w.heap.size w w') : w'.cell? a = some v := (b.cell (World.block_lt_of_cell? w a h)).trans h
theorem resM_out {m : List (List Int)} {k : Int} {r : List (List Int) × Int} {w w' : World} {e : Ending} (h : ResM r w e w') (hr : r = (m, k)) : ∃ A c, e = .returned (.tuple #[.slice A m.length c, .int .i64 k]) ∧ Mat w' w'.heap.size A m ∧ Below w.heap.size w w' := by
  subst hr
  obtain ⟨_, A, c, vs, rfl, o1, hb⟩ := h
  exact ⟨A, c, rfl, o1.mat, hb⟩
theorem resMl_out {m : List (List Int)} {k : Int} {r : List (List Int) × Int} {w w' : World} {e : Ending} (h : ResMl r w e w') (hr : r = (m, k)) : ∃ A c, e = .returned (.tuple #[.slice A m.length c, .int .i64 k]) ∧ Below w.heap.size w w' := by
  subst hr
  obtain ⟨_, A, c, rfl, _, hb⟩ := h
  exact ⟨A, c, rfl, hb⟩
theorem resL_out {t : List Int} {k : Int} {r : List Int × Int} {w w' : World} {e : Ending} (h : ResL r w e w') (hr : r = (t, k)) : ∃ A c, e = .returned (.tuple #[.slice A t.length c, .int .i64 k]) ∧ Lst w' A t ∧ Below w.heap.size w w' := by
  subst hr
  obtain ⟨_, A, c, rfl, o1, hb⟩ := h
  exact ⟨A, c, rfl, row_of_own o1, hb⟩
theorem drawTreesOf_any (A : Option Addr) (n c : Nat) (xs : List Int) (w : World) (hn : n ≤ 4096) (hx : IsCode w A n xs) : Calls Try.prog 13 #[.slice A n c] w fun e w' => ∃ v : Int, e = .returned (.int .i64 v) ∧ (0 ≤ v ∧ v ≤ 9) ∧ Below w.heap.size w w' := by
  obtain ⟨hl, h, hx⟩ := hx
  go_enter Try.func13, Try.ntmps13
  go_wp2_with fail
  refine (l01From_any A n c w.heap.size xs w hl hn (Nat.le_refl _) h hx).mono ?_
  rintro e w1 ⟨G, rfl, hG, s1, b1⟩
  have HG1 := s1.lt
  have hz1 := b1.size
  clear h hx hl
  go_wp2_with fail
  refine (l01Pick_any G _ xs _ 10 _ _ [1, 2, 3, 4, 5, 6, 7, 8, 0, 9] _ (s1.alloc _) (Row.new w1 _ (ints [1, 2, 3, 4, 5, 6, 7, 8, 0, 9])) (fun b o e => by injection e with e; injection e with e1; omega) rfl (by omega) (by omega)).mono ?_
  rintro e w3 ⟨v, rfl, hv, s3, o3⟩
  have hvb : 0 ≤ v ∧ v ≤ 9 := by
    simp only [List.mem_cons, List.not_mem_nil, or_false] at hv
    omega
  have GB := Lib.hid (below_only (b1.alloc hz1 _) o3 (by simp; omega) hG)
  clear hv s1 s3 o3 b1
  go_wp2
  go_ret
  exact ⟨v, rfl, hvb, GB.out⟩
theorem drawFree_any (A : Option Addr) (n c : Nat) (xs : List Int) (w : World) (hn : n ≤ 4096) (hx : IsCode w A n xs) : Calls Try.prog 5 #[.slice A n c] w fun e w' => ∃ v : Int, e = .returned (.int .i64 v) ∧ (0 ≤ v ∧ v ≤ 9) ∧ Below w.heap.size w w' := by
  have C0 := drawTreesOf_any A n c xs w hn hx
  clear hx
  go_enter Try.func5, Try.ntmps5
  go_wp2_with fail
  refine C0.mono ?_
  rintro e w1 ⟨v, rfl, hv, b1⟩
  have GB := Lib.hid b1
  have GV := Lib.hid hv
  clear b1 C0 hv
  go_wp2
  go_ret
  exact ⟨v, rfl, GV.out, GB.out⟩
theorem resBI_out {b : Bool} {k : Int} {r : Bool × Int} {w w' : World} {e : Ending} (h : ResBI r w e w') (hr : r = (b, k)) : e = .returned (.tuple #[.bool b, .int .i64 k]) ∧ Below w.heap.size w w' := by
  subst hr; exact h
/-- a list of lists, at a place -/
theorem mat_cell {w : World} {A : Option Addr} {m : List (List Int)} {k : Nat} {t : List Int} (h : Mat w w.heap.size A m) (ht : m[k]? = some t) : ∃ b o Ak ck, A = some ⟨b, o, none⟩ ∧ w.cell? ⟨b, o + k, none⟩ = some (.slice Ak t.length ck) ∧ t.length ≤ ck ∧ Row w w.heap.size Ak (ints t) := by
  obtain ⟨b, o, Ak, ck, e, _, hc, hl, _, hr⟩ := h k t ht
  exact ⟨b, o, Ak, ck, e, hc, hl, hr⟩
theorem mem_take {m : List (List Int)} {x : List Int} {k : Nat} {t : List Int} (ht : m[k]? = some t) : decide (x ∈ m.take (k + 1)) = (decide (x ∈ m.take k) || eqL t x) := by
  rw [List.take_add_one, ht, Option.toList_some]
  unfold eqL
  rw [Bool.eq_iff_iff]
  simp only [List.mem_append, List.mem_singleton, decide_eq_true_eq, Bool.or_eq_true]
  constructor
  · rintro (h | h)
    · exact .inl h
    · exact .inr h.symm
  · rintro (h | h)
    · exact .inl h
    · exact .inr h.symm

set_option maxHeartbeats 8000000 in
theorem walk (w : World) (a0 : Option Addr) (len0 cap0 : Nat) (z0 : List Int) (w0 : IsRow .u8 w a0 len0 cap0 z0) : Calls Try.prog 3 #[.slice a0 len0 cap0] w fun e w' => e = .returned (.bool true) ∧ Below w.heap.size w w' := by
  have hcode := isCode_of w0
  have hcm := w0.2.2.1
  have hlc := w0.2.1
  unfold maxLen at hcm
  have HX := Lib.hid hcode
  clear hcode w0
  by_cases hn : len0 ≤ 4096
  · have t0 : decide ((4096 : Int) < len0) = false := decide_eq_false (by omega)
    go_enter Try.func3, Try.ntmps3
    go_wp2_with fail
    refine (big_any _ _ _ _ (by omega)).mono ?_
    rintro e w' ⟨rfl, rfl⟩
    go_wp2_with fail
    refine (drawFree_any _ _ _ _ _ hn HX.out).mono ?_
    rintro e w' ⟨v, rfl, ⟨v0, v9⟩, b1⟩
    have B := Lib.hid b1
    clear b1
    by_cases hv : 1 ≤ v ∧ v ≤ 8
    · obtain ⟨n, rfl⟩ : ∃ n : Nat, v = (n : Int) := ⟨v.toNat, by omega⟩
      have h1 : 1 ≤ n := by omega
      have h8 : n ≤ 8 := by omega
      have F1 := Lib.hid (freeTreesA_yes h1 h8)
      have F2 := Lib.hid (condsA_yes h1 h8)
      have F3 := Lib.hid (treesOfA_yes h1 h8)
      obtain ⟨c1, c2⟩ := free_count h1 h8
      have HC1 := Lib.hid c1
      have HC2 := Lib.hid c2
      have HCP : Hid (∀ t ∈ (Tr.treesL n).filter keepC, Tr.isLv t = true ∧ supA t = (false, 0) ∧ freeA t = (t, 0)) := fun t ht => cond_parts h1 h8 ht
      have HFM : Hid (∀ t ∈ Tr.treesL n, Tr.isLv t = true ∧ freeL t ∈ (Tr.treesL n).filter keepT) := fun t ht => ⟨((trees_all h1 h8).1 t ht).1, form_mem h1 h8 ht⟩
      have HLT : Hid (∀ t ∈ (Tr.treesL n).filter keepT, Tr.isLv t = true) := fun t ht => ((trees_all h1 h8).1 t (List.mem_filter.1 ht).1).1
      have hb1 := free_total h1 h8
      have hb2 := free_totalC h1 h8
      have hb3 := (trees_all h1 h8).2
      obtain ⟨L, hL⟩ : ∃ L, L = (Tr.treesL n).filter keepT := ⟨_, rfl⟩
      obtain ⟨K, hK⟩ : ∃ K, K = (Tr.treesL n).filter keepC := ⟨_, rfl⟩
      simp only [← hL, ← hK] at F1 F2 HC1 HC2 HCP HFM HLT hb1 hb2
      obtain ⟨T, hT⟩ : ∃ T, T = Tr.treesL n := ⟨_, rfl⟩
      simp only [← hT] at F3 HFM hb3
      obtain ⟨lq, hlq⟩ : ∃ q, q = L.length := ⟨_, rfl⟩
      obtain ⟨kq, hkq⟩ : ∃ q, q = K.length := ⟨_, rfl⟩
      obtain ⟨tq, htq⟩ : ∃ q, q = T.length := ⟨_, rfl⟩
      simp only [← hlq, ← hkq, ← htq] at HC1 HC2 hb1 hb2 hb3
      have HLQ := Lib.hid hlq
      have HKQ := Lib.hid hkq
      have HTQ := Lib.hid htq
      have hlb : lq ≤ 1048576 := by omega
      have hkb : kq ≤ 1048576 := by omega
      have htb : tq ≤ 1048576 := by omega
      clear hL hK hT hlq hkq htq hv v0 v9 c1 c2 hb1 hb2 hb3
      go_wp2_with fail
      refine (pFreeTreesOf_L (n : Int) _ (by omega)).mono ?_
      rintro e w' hN
      obtain ⟨AL, cL, rfl, rL, y⟩ := resM_out hN F1.out
      rw [← HLQ.out]
      replace B := Lib.hid (below_go B.out B.out.size y)
      have RL := Lib.hid rL
      clear hN rL y
      go_wp2_with fail
      refine (sFreeTreesOf_L (n : Int) _ (by omega)).mono ?_
      rintro e w' hN
      obtain ⟨AZ, cZ, rfl, y⟩ := resMl_out hN F1.out
      replace B := Lib.hid (below_go B.out B.out.size y)
      replace RL := Lib.hid (mat_next RL.out y)
      clear hN y
      go_wp2_with fail
      refine (pFreeConditions_L (n : Int) _ (by omega)).mono ?_
      rintro e w' hN
      obtain ⟨AK, cK, rfl, rK, y⟩ := resM_out hN F2.out
      rw [← HKQ.out]
      replace B := Lib.hid (below_go B.out B.out.size y)
      replace RL := Lib.hid (mat_next RL.out y)
      have RK := Lib.hid rK
      clear hN rK y
      obtain ⟨W1, hW1⟩ : ∃ W1, W1 = (w'.alloc (.cells #[.int .i64 0, .int .i64 1, .int .i64 1, .int .i64 1, .int .i64 2, .int .i64 3, .int .i64 6, .int .i64 11, .int .i64 23] 3)).alloc (.cells #[.int .i64 0, .int .i64 1, .int .i64 0, .int .i64 1, .int .i64 1, .int .i64 3, .int .i64 4, .int .i64 11, .int .i64 19] 3) := ⟨_, rfl⟩
      have hal : Below w'.heap.size w' W1 := by rw [hW1]; exact ((Below.refl _ _).alloc (Nat.le_refl _) _).alloc (by simp) _
      have cl : ∀ (V : World) (g : Nat) (xs : List Int) (fr : Nat × Nat) (k : Nat) (x : Int), V.heap[g]? = some (.cells (ints xs).toArray 3 fr) → xs[k]? = some x → V.cell? ⟨g, k, none⟩ = some (.int .i64 x) := fun V g xs fr k x hg hx => by
        rw [cell_of_row V g k _ _ _ hg]
        simp [ints_at hx]
      obtain ⟨f1, hf1⟩ := at_lt (show n < freeN.length by show n < 9; omega)
      obtain ⟨f2, hf2⟩ := at_lt (show n < condN.length by show n < 9; omega)
      have ef1 : f1 = (lq : Int) := by have := HC1.out; rw [List.getD_eq_getElem?_getD, hf1] at this; exact this.symm
      have ef2 : f2 = (kq : Int) := by have := HC2.out; rw [List.getD_eq_getElem?_getD, hf2] at this; exact this.symm
      subst ef1 ef2
      have hcf1 : W1.cell? ⟨w'.heap.size, n, none⟩ = some (.int .i64 (lq : Int)) := cl W1 _ freeN (0, 0) n _ (by rw [hW1, heap_alloc_old _ _ (by simp)]; exact heap_alloc_new _ _) hf1
      have hcf2 : W1.cell? ⟨w'.heap.size + 1, n, none⟩ = some (.int .i64 (kq : Int)) := cl W1 _ condN (0, 0) n _ (by
        have h9 : (w'.alloc (.cells #[.int .i64 0, .int .i64 1, .int .i64 1, .int .i64 1, .int .i64 2, .int .i64 3, .int .i64 6, .int .i64 11, .int .i64 23] 3)).heap.size = w'.heap.size + 1 := by simp
        rw [hW1, ← h9]
        exact heap_alloc_new _ _) hf2
      replace B := Lib.hid (below_go B.out B.out.size hal)
      replace RL := Lib.hid (mat_next RL.out hal)
      replace RK := Lib.hid (mat_next RK.out hal)
      have z1 : ((lq : Int) != (lq : Int)) = false := bne_f rfl
      have z2 : ((kq : Int) != (kq : Int)) = false := bne_f rfl
      have n0 : (0 : Int) ≤ (n : Int) := Int.natCast_nonneg _
      have n9 : (n : Int) < 9 := by omega
      clear hal cl hf1 hf2 HC1 HC2
      subst hW1
      go_wp2_with fail
      go_loopw [12] (fun i wr => ∃ k : Nat, k ≤ kq ∧ i = .int .i64 k ∧ Hid (Mat wr wr.heap.size AL L) ∧ Hid (Mat wr wr.heap.size AK K) ∧ Hid (Below w.heap.size w wr)) (fun i _ => kq - (intOf i).toNat)
      case atStart => exact ⟨0, Nat.zero_le _, rfl, RL, RK, B⟩
      case round =>
        clear RL RK B hcf1 hcf2
        obtain ⟨k, hk, rfl, RL, RK, B⟩ := hrel
        by_cases hlt : k < kq
        · have hlti : (k : Int) < (kq : Int) := by omega
          have k0 : (0 : Int) ≤ (k : Int) := Int.natCast_nonneg _
          obtain ⟨t, ht⟩ := at_lt (show k < K.length by rw [← HKQ.out]; exact hlt)
          obtain ⟨g1, g2, g3⟩ := HCP.out t (List.mem_of_getElem? ht)
          obtain ⟨t1, t8⟩ := lv_bd g1
          obtain ⟨b, o, Ak, ck, rfl, hct, hlc, hrow⟩ := mat_cell RK.out ht
          have HT := Lib.hid (show Lst wr Ak t from hrow)
          have G2 := Lib.hid g2
          have G3 := Lib.hid g3
          obtain ⟨tn, htn⟩ : ∃ tn, tn = t.length := ⟨_, rfl⟩
          have HTN := Lib.hid htn.symm
          rw [← htn] at hct hlc t1 t8
          clear ht g1 g2 g3 hrow htn
          go_wp2_with fail
          refine (pIsSuperfluous_L Ak tn ck _ t _ HTN.out (by omega) (Nat.le_refl _) HT.out hlc).mono ?_
          rintro e w1 hN
          obtain ⟨rfl, y⟩ := resBI_out hN G2.out
          replace B := Lib.hid (below_go B.out B.out.size y)
          replace RL := Lib.hid (mat_next RL.out y)
          replace RK := Lib.hid (mat_next RK.out y)
          replace HT := Lib.hid (HT.out.next y)
          have hct1 := cell_next hct y
          clear hN y hct
          go_wp2_with fail
          refine (pFreeForm_L Ak tn ck _ t _ HTN.out (by omega) (Nat.le_refl _) HT.out hlc).mono ?_
          rintro e w2 hN
          obtain ⟨A9, c9, rfl, r9, y⟩ := resL_out hN G3.out
          rw [HTN.out]
          replace B := Lib.hid (below_go B.out B.out.size y)
          replace RL := Lib.hid (mat_next RL.out y)
          replace RK := Lib.hid (mat_next RK.out y)
          replace HT := Lib.hid (HT.out.next y)
          have H9 := Lib.hid r9
          have hct2 := cell_next hct1 y
          clear hN y hct1 r9
          go_wp2_with fail
          refine (likeInts_yes A9 Ak tn tn c9 ck t t _ rfl HTN.out HTN.out (by omega) H9.out HT.out).mono ?_
          rintro e w3 ⟨rfl, d3, rfl⟩
          have GB := Lib.hid (below_drewN B.out d3)
          have GL : Hid (Mat (w2.drewN d3) (w2.drewN d3).heap.size AL L) := Mat.drewN RL.out d3
          have GK : Hid (Mat (w2.drewN d3) (w2.drewN d3).heap.size (some ⟨b, o, none⟩) K) := Mat.drewN RK.out d3
          clear B RL RK HT H9 hct2
          go_wp2
          go_roundw
          case rel => exact ⟨k + 1, by omega, by go_num, GL, GK, GB⟩
          case measure => simp [intOf]; omega
        · obtain rfl : k = kq := by omega
          clear RK
          go_wp2_with fail
          refine (pTreesOf_L (n : Int) _ (by omega)).mono ?_
          rintro e w1 hN
          obtain ⟨AT, cT, rfl, rT, y⟩ := resM_out hN F3.out
          rw [← HTQ.out]
          replace B := Lib.hid (below_go B.out B.out.size y)
          replace RL := Lib.hid (mat_next RL.out y)
          have RT := Lib.hid rT
          clear hN rT y
          go_wp2_with fail
          go_loopw [19] (fun i wr => ∃ k : Nat, k ≤ tq ∧ i = .int .i64 k ∧ Hid (Mat wr wr.heap.size AL L) ∧ Hid (Mat wr wr.heap.size AT T) ∧ Hid (Below w.heap.size w wr)) (fun i _ => tq - (intOf i).toNat)
          case atStart => exact ⟨0, Nat.zero_le _, rfl, RL, RT, B⟩
          case round =>
            clear RL RT B
            obtain ⟨j, hj, rfl, RL, RT, B⟩ := hrel
            by_cases hjt : j < tq
            · have hjti : (j : Int) < (tq : Int) := by omega
              have j0 : (0 : Int) ≤ (j : Int) := Int.natCast_nonneg _
              obtain ⟨t, ht⟩ := at_lt (show j < T.length by rw [← HTQ.out]; exact hjt)
              obtain ⟨g1, g2⟩ := HFM.out t (List.mem_of_getElem? ht)
              obtain ⟨t1, t8⟩ := lv_bd g1
              obtain ⟨b, o, Ak, ck, rfl, hct, hlc, hrow⟩ := mat_cell RT.out ht
              have HT := Lib.hid (show Lst wr Ak t from hrow)
              have G2 := Lib.hid g2
              have G3 := Lib.hid (freeA_yes g1)
              obtain ⟨_, _, _, _, g5⟩ := free_parts g1
              obtain ⟨tn, htn⟩ : ∃ tn, tn = t.length := ⟨_, rfl⟩
              have HTN := Lib.hid htn.symm
              rw [← htn] at hct hlc t1 t8 g5
              have HFN := Lib.hid g5
              obtain ⟨F, hF⟩ : ∃ F, F = freeL t := ⟨_, rfl⟩
              rw [← hF] at G2 G3 HFN
              clear ht g1 g2 g5 hrow htn hF
              go_wp2_with fail
              refine (pFreeForm_L Ak tn ck _ t _ HTN.out (by omega) (Nat.le_refl _) HT.out hlc).mono ?_
              rintro e w2 hN
              obtain ⟨A9, c9, rfl, r9, y⟩ := resL_out hN G3.out
              rw [HFN.out]
              replace B := Lib.hid (below_go B.out B.out.size y)
              replace RL := Lib.hid (mat_next RL.out y)
              replace RT := Lib.hid (mat_next RT.out y)
              have H9 := Lib.hid r9
              clear hN y hct r9 HT
              go_wp2_with fail
              go_loopw [22, 23] (fun f i wr => ∃ (q d : Nat) (fb : Bool), q ≤ lq ∧ f = .bool fb ∧ i = .int .i64 q ∧ Hid (fb = decide (F ∈ L.take q)) ∧ wr = w2.drewN d) (fun _ i _ => lq - (intOf i).toNat)
              case atStart => exact ⟨0, 0, false, Nat.zero_le _, rfl, rfl, by simp [Hid], rfl⟩
              case round =>
                obtain ⟨q, d, fb, hq, rfl, rfl, HF, rfl⟩ := hrel
                by_cases hql : q < lq
                · have hqli : (q : Int) < (lq : Int) := by omega
                  have q0 : (0 : Int) ≤ (q : Int) := Int.natCast_nonneg _
                  obtain ⟨u, hu⟩ := at_lt (show q < L.length by rw [← HLQ.out]; exact hql)
                  have hulv := HLT.out u (List.mem_of_getElem? hu)
                  obtain ⟨u1, u8'⟩ := lv_bd hulv
                  have HM := Lib.hid (mem_take (x := F) hu)
                  obtain ⟨bu, ou, Au, cu, rfl, hcu, hlu, hru⟩ := mat_cell (Mat.drewN RL.out d) hu
                  obtain ⟨un, hun⟩ : ∃ un, un = u.length := ⟨_, rfl⟩
                  have HUN := Lib.hid hun.symm
                  rw [← hun] at hcu hlu u1 u8'
                  have CL := likeInts_any Au A9 un tn cu c9 _ _ u F (w2.drewN d) HUN.out HFN.out (by omega) (by omega) hru (H9.out.drew d)
                  cases fb
                  · have G : Hid (eqL u F = decide (F ∈ L.take (q + 1))) := by rw [Hid, HM.out, ← HF.out, Bool.false_or]
                    obtain ⟨eb, heb⟩ : ∃ eb, eb = eqL u F := ⟨_, rfl⟩
                    rw [← heb] at CL G
                    clear hu hulv hru heb hun HM HF
                    go_wp2_with fail
                    refine CL.mono ?_
                    rintro e w3 ⟨rfl, d3, rfl⟩
                    clear CL
                    go_wp2
                    go_roundw
                    case rel => exact ⟨q + 1, _, eb, by omega, rfl, by go_num, G, rfl⟩
                    case measure => simp [intOf]; omega
                  · have G : Hid (true = decide (F ∈ L.take (q + 1))) := by rw [Hid, HM.out, ← HF.out, Bool.true_or]
                    clear hu hulv hru hun HM HF CL hcu
                    go_wp2
                    go_roundw
                    case rel => exact ⟨q + 1, d, true, by omega, rfl, by go_num, G, rfl⟩
                    case measure => simp [intOf]; omega
                · obtain rfl : q = lq := by omega
                  have hfb : fb = true := by
                    rw [HF.out, List.take_of_length_le (by rw [HLQ.out]; exact Nat.le_refl _)]
                    exact decide_eq_true G2.out
                  subst hfb
                  have GB := Lib.hid (below_drewN B.out d)
                  have GL : Hid (Mat (w2.drewN d) (w2.drewN d).heap.size AL L) := Mat.drewN RL.out d
                  have GT : Hid (Mat (w2.drewN d) (w2.drewN d).heap.size (some ⟨b, o, none⟩) T) := Mat.drewN RT.out d
                  clear HF B RL RT H9
                  go_wp2
                  go_roundw
                  case rel => exact ⟨j + 1, by omega, by go_num, GL, GT, GB⟩
                  case measure => simp [intOf]; omega
            · obtain rfl : j = tq := by omega
              clear RL RT
              go_wp2
              go_ret
              exact ⟨rfl, B.out⟩
    · have F1 := Lib.hid (freeTreesA_no hv)
      have F2 := Lib.hid (condsA_no hv)
      clear hv
      go_wp2_with fail
      refine (pFreeTreesOf_L v _ (by omega)).mono ?_
      rintro e w' hN
      obtain ⟨AL, cL, rfl, rL, y⟩ := resM_out hN F1.out
      replace B := Lib.hid (below_go B.out B.out.size y)
      clear hN rL y
      go_wp2_with fail
      refine (sFreeTreesOf_L v _ (by omega)).mono ?_
      rintro e w' hN
      obtain ⟨AZ, cZ, rfl, y⟩ := resMl_out hN F1.out
      replace B := Lib.hid (below_go B.out B.out.size y)
      clear hN y
      go_wp2_with fail
      refine (pFreeConditions_L v _ (by omega)).mono ?_
      rintro e w' hN
      obtain ⟨AK, cK, rfl, rK, y⟩ := resM_out hN F2.out
      replace B := Lib.hid (below_go B.out B.out.size y)
      clear hN rK y
      go_wp2
      go_ret
      exact ⟨rfl, B.out⟩
  · have t0 : decide ((4096 : Int) < len0) = true := decide_eq_true (by omega)
    go_enter Try.func3, Try.ntmps3
    go_wp2_with fail
    refine (big_any _ _ _ _ (by omega)).mono ?_
    rintro e w' ⟨rfl, rfl⟩
    go_wp2
    go_ret
    exact ⟨rfl, Below.refl _ _⟩
/-- the statement -/
theorem holds : Rows.FnFreeTreesSaid := of_walk walk
end Go.Proofs.Ytpmfpgfgkeejnaa.fnFreeTrees
