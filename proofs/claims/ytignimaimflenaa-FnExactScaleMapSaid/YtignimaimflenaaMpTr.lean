/-
  What TruncateMap answers, the program's and the model's.
-/
import Derived.Test.YtignimaimflenaaMpA
import Derived.Test.YtignimaimflenaaMpN
import Derived.Test.YtignimaimflenaaLvl
import Derived.Test.YtignimaimflenaaResO
namespace Go.Proofs.Ytignimaimflenaa
open Go.RowKit Fld
set_option linter.unusedVariables false
set_option linter.unusedSimpArgs false
set_option maxRecDepth 100000

theorem strs_cell {w : World} {B b : Nat} {l : List (List UInt8)} (h : Row w B (some ⟨b, 0, none⟩) (strs l)) : ∀ k t, l[k]? = some t → w.cell? ⟨b, k, none⟩ = some (.string ⟨t.toArray⟩) := fun k t ht => by
  obtain ⟨b', o', e, _, hc⟩ := h k _ (strs_at ht)
  injection e with e
  injection e with e1 e2 _
  subst e1 e2
  rw [Nat.zero_add] at hc
  exact hc
set_option maxHeartbeats 2000000 in
theorem pTruncateMap_L (A : Option Addr) (n c B : Nat) (a : List Int) (y : Int) (w : World) (hl : a.length = n) (hn : n ≤ 1048576) (hB : B ≤ w.heap.size) (h : Row w B A (ints a)) (hy : -9223372036854775808 ≤ y ∧ y ≤ 9223372036854775807) :
    Calls Try.prog 28 #[.slice A n c, .int .i64 y] w (ResL (truncA a y) w) := by
  have C0 := isMap_any A n c B a w hl (by omega) h
  cases ha : isMp a
  · have G := Lib.hid (truncA_no (y := y) ha)
    rw [ha] at C0
    clear hl
    go_enter Try.func28, Try.ntmps28
    go_wp2_with fail
    refine C0.mono ?_
    rintro e w' ⟨rfl, rfl⟩
    go_wp2
    go_ret2
    exact ResL.nil G.out (Below.refl _ _)
  · obtain ⟨e1, na⟩ := isMp_parts ha hl
    rw [ha] at C0
    have HL0 := hl
    subst e1
    have HL := Lib.hid HL0
    have NA := Lib.hid na
    by_cases hyy : 0 ≤ y ∧ y ≤ 6
    · have G := Lib.hid (truncA_yes ha hyy)
      obtain ⟨y0, y6⟩ := hyy
      have hTL := Lib.hid (truncL_length HL0 y)
      clear hl ha na HL0
      go_enter Try.func28, Try.ntmps28
      go_wp2_with fail
      refine C0.mono ?_
      rintro e w' ⟨rfl, rfl⟩
      go_wp2_with fail
      refine (treeMapOf_any A c B a _ HL.out NA.out hB h).mono ?_
      rintro e w1 ⟨rfl, b1⟩
      have hs1 := b1.size
      go_wp2_with (refine wpList_store_row rfl 52 (.tmp 6) (.tmp 19) rfl w1.heap.size (arrM a) rfl rfl 52 (arrM zero38) (ArrM.new w1 zero38) (by rw [arrM_size HL.out]; exact info_arrM) (by rw [arrM_size HL.out]; rfl) (arrM_cells _) ?_)
      refine (mapTrees_any _).mono ?_
      rintro e w2 ⟨A2, c2, rfl, own2, bel2⟩
      have FX0 : ArrM ((w1.alloc (.cells (arrM zero38) 52)).setRow w1.heap.size (arrM a)) w1.heap.size a := setRow_heap _ _ _ _ _ _ (ArrM.new w1 zero38)
      have FX := Lib.hid (FX0.below bel2 (by simp [World.setRow]))
      have FB : Hid (Below w.heap.size w w2) := (below_setRow (b1.alloc hs1 (.cells (arrM zero38) 52)) hs1 (arrM a)).trans (bel2.mono (by simp [World.setRow]; omega))
      obtain ⟨g2, rfl⟩ := own_addr own2 (by omega)
      have hg2 : w1.heap.size < g2 := by have := (own2.lt g2 rfl).1; simp [World.setRow] at this; omega
      have FT := Lib.hid (strs_cell (row_of_own own2))
      clear own2 bel2 FX0 b1 C0
      go_wp2_with fail
      go_loopw [22] (fun i wr => ∃ k : Nat, k ≤ 38 ∧ i = .int .i64 k ∧ Hid (ArrM wr w1.heap.size ((truncL a y).take k ++ a.drop k)) ∧ Hid (∀ k t, mapTx[k]? = some t → wr.cell? ⟨g2, k, none⟩ = some (.string ⟨t.toArray⟩)) ∧ Hid (Below w.heap.size w wr)) (fun i _ => 38 - (intOf i).toNat)
      case atStart => exact ⟨0, by omega, rfl, FX, FT, FB⟩
      case round =>
        obtain ⟨k, hk, rfl, HX, HT, HB⟩ := hrel
        by_cases hlt : k < 38
        · obtain ⟨x, hx⟩ := at_lt (show k < a.length by rw [HL.out]; exact hlt)
          obtain ⟨l, hll, l6⟩ := lens_at hlt
          obtain ⟨t, ht, htl⟩ := mapTx_at hll
          have hct := HT.out k t ht
          have hc := HX.out.cell (mixM_at (us := truncL a y) (by rw [hTL.out, HL.out]) hx)
          have hf := HX.out.free k
          have htl2 : t.length / 2 = l := by omega
          have C1 := fun w' => nodes_any t w' (by omega)
          rw [htl2] at C1
          have k0 : (0 : Int) ≤ (k : Int) := Int.natCast_nonneg _
          have k1 : (k : Int) < 38 := by omega
          obtain ⟨X, hX⟩ : ∃ X : ByteArray, X = ⟨t.toArray⟩ := ⟨_, rfl⟩
          rw [← hX] at hct C1
          have TA := truncL_at (n := y) hx hll
          by_cases hyl : y < (l : Int)
          · rw [if_pos hyl] at TA
            have GX : Hid (ArrM (wr.setCell ⟨w1.heap.size, k, none⟩ (.int .i64 0)) w1.heap.size ((truncL a y).take (k + 1) ++ a.drop (k + 1))) := by
              have := HX.out.store (k := k) 0
              rw [mixM_step (by rw [HL.out]; exact hlt) (by rw [hTL.out, HL.out]) TA] at this
              exact this
            have GT : Hid (∀ j t, mapTx[j]? = some t → (wr.setCell ⟨w1.heap.size, k, none⟩ (.int .i64 0)).cell? ⟨g2, j, none⟩ = some (.string ⟨t.toArray⟩)) := fun j t ht => cell_other (HT.out j t ht) (by omega)
            have GB : Hid (Below w.heap.size w (wr.setCell ⟨w1.heap.size, k, none⟩ (.int .i64 0))) := below_set HB.out hs1 _
            clear hx hll ht htl htl2 hX TA HX HT HB FX FT FB
            go_wp2_with fail
            refine (C1 _).mono ?_
            rintro e w' ⟨rfl, rfl⟩
            go_wp2
            go_roundw
            case rel => exact ⟨k + 1, by omega, by go_num, GX, GT, GB⟩
            case measure => simp [intOf]; omega
          · rw [if_neg hyl] at TA
            have GX : Hid (ArrM wr w1.heap.size ((truncL a y).take (k + 1) ++ a.drop (k + 1))) := by
              have := HX.out
              rw [mixM_keep hx TA] at this
              exact this
            clear hx hll ht htl htl2 hX TA HX FX FT FB
            go_wp2_with fail
            refine (C1 _).mono ?_
            rintro e w' ⟨rfl, rfl⟩
            go_wp2
            go_roundw
            case rel => exact ⟨k + 1, by omega, by go_num, GX, HT, HB⟩
            case measure => simp [intOf]; omega
        · obtain rfl : k = 38 := by omega
          have GX : Hid (ArrM wr w1.heap.size (truncL a y)) := by
            have := HX.out
            rw [mixM_end hTL.out HL.out] at this
            exact this
          clear HX FX FT FB HT
          go_wp2_with (refine wpList_load_row rfl 52 (.tmp 6) rfl w1.heap.size rfl 52 (arrM (truncL a y)) (0, 0) _ GX.out Try.underlying52 rfl (by rw [arrM_size hTL.out]; exact info_arrM) ?_)
          refine (listM_any (truncL a y) _ hTL.out).mono ?_
          rintro e w4 ⟨A4, c4, rfl, own4, bel4⟩
          have N := Lib.hid (NewRow.after HB.out ⟨A4, c4, rfl, own4, bel4⟩)
          clear own4 bel4
          go_wp2
          go_ret2
          obtain ⟨A5, c5, e5, own5, b5⟩ := N.out
          cases e5
          exact ResL.of G.out hTL.out (by omega) own5 b5
    · have G := Lib.hid (truncA_out ha hyy)
      clear hl HL0
      by_cases y0 : y < 0
      · go_enter Try.func28, Try.ntmps28
        go_wp2_with fail
        refine C0.mono ?_
        rintro e w' ⟨rfl, rfl⟩
        go_wp2
        go_ret2
        exact ResL.nil G.out (Below.refl _ _)
      · have y6 : 6 < y := by omega
        go_enter Try.func28, Try.ntmps28
        go_wp2_with fail
        refine C0.mono ?_
        rintro e w' ⟨rfl, rfl⟩
        go_wp2
        go_ret2
        exact ResL.nil G.out (Below.refl _ _)
set_option maxHeartbeats 2000000 in
theorem sTruncateMap_L (A : Option Addr) (n c B : Nat) (a : List Int) (y : Int) (w : World) (hl : a.length = n) (hn : n ≤ 1048576) (hB : B ≤ w.heap.size) (h : Row w B A (ints a)) (hy : -9223372036854775808 ≤ y ∧ y ≤ 9223372036854775807) :
    Calls Try.prog 27 #[.slice A n c, .int .i64 y] w (ResL (truncA a y) w) := by
  have C0 := l07Is_any A n c B a w hl (by omega) h
  cases ha : isMp a
  · have G := Lib.hid (truncA_no (y := y) ha)
    rw [ha] at C0
    clear hl
    go_enter Try.func27, Try.ntmps27
    go_wp2_with fail
    refine C0.mono ?_
    rintro e w' ⟨rfl, rfl⟩
    go_wp2
    go_ret2
    exact ResL.nil G.out (Below.refl _ _)
  · obtain ⟨x0, b0, o0, hx0, rfl, _, _, _, _⟩ := map_first ha hl h
    obtain ⟨e1, na⟩ := isMp_parts ha hl
    rw [ha] at C0
    have HL0 := hl
    subst e1
    have HL := Lib.hid HL0
    by_cases hyy : 0 ≤ y ∧ y ≤ 6
    · have G := Lib.hid (truncA_yes ha hyy)
      have T := isIn_yes hyy.1 hyy.2
      obtain ⟨y0, y6⟩ := hyy
      have hTL := Lib.hid (truncL_length HL0 y)
      have T0 := truncL_at (n := y) hx0 (show lens[0]? = some 0 from rfl)
      rw [if_neg (by omega)] at T0
      have HST : Hid (a = (truncL a y).take 1 ++ a.drop 1) := by
        have := mixM_keep hx0 T0
        rw [List.take_zero, List.drop_zero, List.nil_append] at this
        exact this
      have C1 := fun w' => l03All_any 6 w' (by omega) (by omega)
      rw [to_len] at C1
      clear hl ha na HL0 hx0 T0
      go_enter Try.func27, Try.ntmps27
      go_wp2_with fail
      refine C0.mono ?_
      rintro e w' ⟨rfl, rfl⟩
      go_wp2_with fail
      refine (l01In_any _ _ _ _).mono ?_
      rintro e w' ⟨rfl, rfl⟩
      rw [T]
      go_wp2_with fail
      refine (C1 _).mono ?_
      rintro e w1 ⟨A1, c1, vs1, rfl, own1, bel1⟩
      have hs1 := bel1.size
      have FM : Hid (Mat w1 w1.heap.size A1 (treesTo 6)) := own1.mat
      have B1 := Lib.hid bel1
      have HR := Lib.hid (h.below bel1 hB)
      clear own1 bel1 C1 C0
      go_wp2_with fail
      refine (l01Own_any ⟨b0, o0, none⟩ 38 c B a _ HL.out (by omega) (by omega) HR.out).mono ?_
      rintro e w2 ⟨A2, c2, rfl, own2, bel2⟩
      obtain ⟨g2, rfl⟩ := own_addr own2 (by omega)
      have HB2 := Lib.hid bel2
      have HO2 : Hid (w2.ownsRow w1.heap.size 2 1 (.slice (some ⟨g2, 0, none⟩) 38 c2) 38 (ints ((truncL a y).take (0 + 1) ++ a.drop (0 + 1)))) := by
        rw [Hid, Nat.zero_add, ← HST.out]; exact own2
      clear own2 bel2
      go_wp2_with fail
      go_loopw [8] (fun i wr => ∃ k : Nat, k ≤ 37 ∧ i = .int .i64 k ∧ Hid (wr.ownsRow w1.heap.size 2 1 (.slice (some ⟨g2, 0, none⟩) 38 c2) 38 (ints ((truncL a y).take (k + 1) ++ a.drop (k + 1)))) ∧ Hid (Below w1.heap.size w1 wr)) (fun i _ => 37 - (intOf i).toNat)
      case atStart => exact ⟨0, by omega, rfl, HO2, HB2⟩
      case round =>
        obtain ⟨k, hk, rfl, HO, HBB⟩ := hrel
        by_cases hlt : k < 37
        · obtain ⟨x, hx⟩ := at_lt (show k + 1 < a.length by rw [HL.out]; omega)
          obtain ⟨t, ht⟩ := at_lt (show k < (treesTo 6).length by rw [to_len]; exact hlt)
          have hll := to_at ht
          obtain ⟨b1, o1, Ak, ck, rfl, _, hct, _, hcm, hrow⟩ := (Mat.below FM.out HBB.out (Nat.le_refl _)) k t ht
          have TA := truncL_at (n := y) hx hll
          have hown := HO.out
          have hf := hown.frozenAt (k + 1)
          have ho := (hown.cellAt (k + 1) (by omega)).trans (ints_at (mixM_at (us := truncL a y) (by rw [hTL.out, HL.out]) hx))
          have k0 : (0 : Int) ≤ (k : Int) + 1 := by omega
          have k1 : (k : Int) + 1 < 38 := by omega
          have ew : IntKind.i64.wrap ((k : Int) + 1) = (k : Int) + 1 := IntWalk.i64_in _ (by omega)
          have en : ((k : Int) + 1).toNat = k + 1 := by omega
          have hgl := (hown.lt g2 rfl).1
          by_cases hyl : y < (t.length : Int)
          · rw [if_pos hyl] at TA
            have GX : Hid ((wr.setCell ⟨g2, k + 1, none⟩ (.int .i64 0)).ownsRow w1.heap.size 2 1 (.slice (some ⟨g2, 0, none⟩) 38 c2) 38 (ints ((truncL a y).take (k + 1 + 1) ++ a.drop (k + 1 + 1)))) := by
              have := (hown.stored (k + 1) (.int .i64 0)).1
              have e : (ints ((truncL a y).take (k + 1) ++ a.drop (k + 1))).set (k + 1) (.int .i64 0) = ints ((truncL a y).take (k + 1 + 1) ++ a.drop (k + 1 + 1)) := by
                rw [← mixM_step (us := truncL a y) (xs := a) (k := k + 1) (by rw [HL.out]; omega) (by rw [hTL.out, HL.out]) TA]
                unfold ints intsK; rw [List.map_set]
              rw [e] at this
              exact this
            have GB : Hid (Below w1.heap.size w1 (wr.setCell ⟨g2, k + 1, none⟩ (.int .i64 0))) := below_set HBB.out hgl _
            clear hx ht hll TA HO HBB hown hrow
            go_wp2
            go_roundw
            case rel => exact ⟨k + 1, by omega, by go_num, GX, GB⟩
            case measure => simp [intOf]; omega
          · rw [if_neg hyl] at TA
            have GX : Hid (wr.ownsRow w1.heap.size 2 1 (.slice (some ⟨g2, 0, none⟩) 38 c2) 38 (ints ((truncL a y).take (k + 1 + 1) ++ a.drop (k + 1 + 1)))) := by
              rw [Hid, ← mixM_keep hx TA]; exact hown
            clear hx ht hll TA HO hown hrow
            go_wp2
            go_roundw
            case rel => exact ⟨k + 1, by omega, by go_num, GX, HBB⟩
            case measure => simp [intOf]; omega
        · obtain rfl : k = 37 := by omega
          have GO : Hid (wr.ownsRow w.heap.size 2 1 (.slice (some ⟨g2, 0, none⟩) 38 c2) 38 (ints (truncL a y))) := by
            have := HO.out
            rw [mixM_end hTL.out HL.out] at this
            exact ((OwnR.of this).more hs1 (Nat.le_refl _)).1
          have GB := Lib.hid (B1.out.trans (HBB.out.mono hs1))
          clear HO HBB
          go_wp2
          go_ret2
          exact ResL.of G.out hTL.out (by omega) GO.out GB.out
    · have G := Lib.hid (truncA_out ha hyy)
      have T := isIn_no (n := y) (l := 0) (h := 6) (by omega)
      clear hl HL0
      go_enter Try.func27, Try.ntmps27
      go_wp2_with fail
      refine C0.mono ?_
      rintro e w' ⟨rfl, rfl⟩
      go_wp2_with fail
      refine (l01In_any _ _ _ _).mono ?_
      rintro e w' ⟨rfl, rfl⟩
      rw [T]
      go_wp2
      go_ret2
      exact ResL.nil G.out (Below.refl _ _)
end Go.Proofs.Ytignimaimflenaa
