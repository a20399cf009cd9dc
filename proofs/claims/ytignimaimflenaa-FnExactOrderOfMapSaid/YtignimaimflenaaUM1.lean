/-
  Texts of this seat, joined: what several laws lean on.
-/
import Derived.Test.YtignimaimflenaaMpA
import Derived.Test.YtignimaimflenaaMpN
import Derived.Test.YtignimaimflenaaLvl
import Derived.Test.YtignimaimflenaaResO
import Derived.Test.YtignimaimflenaaTreeD
import Derived.Outline
import Derived.Laws.DeepStrings4
import Derived.Test.YtignimaimflenaaTreeE
import Derived.Laws.Strings2
import Derived.Test.YtignimaimflenaaBase
import Derived.Test.YtignimaimflenaaCan
import Derived.Test.YtignimaimflenaaRes1
import Derived.Test.YtignimaimflenaaParts
import Derived.Test.YtignimaimflenaaTreeC
import Derived.Test.YtignimaimflenaaMpAg
/-
  The unit, the program's and the model's.
-/
namespace Go.Proofs.Ytignimaimflenaa
open Go.RowKit Fld
set_option linter.unusedVariables false
set_option linter.unusedSimpArgs false
set_option maxRecDepth 100000

theorem unitL_length : unitL.length = 38 := rfl
theorem pUnitMap_L (w : World) : Calls Try.prog 22 #[] w (NewRow 2 38 (ints unitL) w) := by
  have C1 := listM_any unitL w unitL_length
  go_enter Try.func22, Try.ntmps22
  go_wp2_with fail
  refine (C1).mono ?_
  rintro e w1 ⟨A1, c1, rfl, own1, bel1⟩
  go_wp2
  go_ret
  exact ⟨_, _, rfl, own1, bel1⟩
theorem zero_row {w : World} {lo : Nat} {T : TypeId} {v : Value} (h : w.ownsRow lo T 1 v 38 (madeCells (Value.int .i64 0).cells (38 * 1)).toList) : w.ownsRow lo T 1 v 38 (ints zero38) := by
  have e : (madeCells #[(.int .i64 0 : Value)] 38).toList = ints zero38 := by rw [toList_madeCells_one]; rfl
  exact e ▸ h
theorem l07Unit_any (w : World) : Calls Try.prog 49 #[] w (NewRow 2 38 (ints unitL) w) := by
  obtain ⟨i0, hi, hz0, hz1, hz2⟩ := info_parts info_i64
  have e0 : (ints zero38)[0]? = some (.int .i64 0) := rfl
  have HE : Hid ((ints zero38).set 0 (.int .i64 1) = ints unitL) := rfl
  go_enter Try.func49, Try.ntmps49
  go_wp2_with (at_make; refine wpList_make_full _ rfl _ _ 22 rfl w.heap.size 2 i0 _ 1 Try.underlying22 hi hz0 hz1 .i64 .i64 _ _ 38 rfl rfl rfl rfl (by rw [hz2]; omega) (by simp only [maxLen]; omega) (Nat.le_refl _) ?_; intro w1 hown hg; have GB : Hid (Below w.heap.size w w1) := (Below.refl _ _).grown hg (Nat.le_refl _) (fun k hk => by cases hk); replace hown := zero_row hown; have hf := hown.frozenAt 0; have ho := (hown.cellAt 0 (by omega)).trans e0; have HS := Lib.hid (hown.stored 0 (.int .i64 1)).1; clear hown hg)
  go_ret
  refine ⟨_, _, rfl, ?_, below_set GB.out (Nat.le_refl _) _⟩
  have := HS.out
  rw [HE.out] at this
  exact this
theorem sUnitMap_L (w : World) : Calls Try.prog 21 #[] w (NewRow 2 38 (ints unitL) w) := by
  go_enter Try.func21, Try.ntmps21
  go_wp2_with (go_at_call 49; refine (l07Unit_any _).mono ?_; rintro e w1 ⟨A1, c1, rfl, own1, bel1⟩)
  go_ret
  exact ⟨_, _, rfl, own1, bel1⟩
end Go.Proofs.Ytignimaimflenaa
/-
  What TruncateMap answers, the program's and the model's.
-/
namespace Go.Proofs.Ytignimaimflenaa
open Go.RowKit Fld
set_option linter.unusedVariables false
set_option linter.unusedSimpArgs false
set_option maxRecDepth 100000

theorem strs_cell {w : World} {B b : Nat} {l : List (List UInt8)} (h : Row w B (some ⟨b, 0, none⟩) (strs l)) : ∀ k t, l[k]? = some t → w.cell? ⟨b, k, none⟩ = some (.string ⟨t.toArray⟩) := fun k t ht => by
  obtain ⟨b', o', e, _, hc⟩ := h k _ (strs_at ht)
  injection e with e
  injection e with e1 e2 _
  subst e1 e2
  rw [Nat.zero_add] at hc
  exact hc
set_option maxHeartbeats 2000000 in
theorem pTruncateMap_L (A : Option Addr) (n c B : Nat) (a : List Int) (y : Int) (w : World) (hl : a.length = n) (hn : n ≤ 1048576) (hB : B ≤ w.heap.size) (h : Row w B A (ints a)) (hy : -9223372036854775808 ≤ y ∧ y ≤ 9223372036854775807) :
    Calls Try.prog 28 #[.slice A n c, .int .i64 y] w (ResL (truncA a y) w) := by
  have C0 := isMap_any A n c B a w hl (by omega) h
  cases ha : isMp a
  · have G := Lib.hid (truncA_no (y := y) ha)
    rw [ha] at C0
    clear hl
    go_enter Try.func28, Try.ntmps28
    go_wp2_with fail
    refine C0.mono ?_
    rintro e w' ⟨rfl, rfl⟩
    go_wp2
    go_ret2
    exact ResL.nil G.out (Below.refl _ _)
  · obtain ⟨e1, na⟩ := isMp_parts ha hl
    rw [ha] at C0
    have HL0 := hl
    subst e1
    have HL := Lib.hid HL0
    have NA := Lib.hid na
    by_cases hyy : 0 ≤ y ∧ y ≤ 6
    · have G := Lib.hid (truncA_yes ha hyy)
      obtain ⟨y0, y6⟩ := hyy
      have hTL := Lib.hid (truncL_length HL0 y)
      clear hl ha na HL0
      go_enter Try.func28, Try.ntmps28
      go_wp2_with fail
      refine C0.mono ?_
      rintro e w' ⟨rfl, rfl⟩
      go_wp2_with fail
      refine (treeMapOf_any A c B a _ HL.out NA.out hB h).mono ?_
      rintro e w1 ⟨rfl, b1⟩
      have hs1 := b1.size
      go_wp2_with (refine wpList_store_row rfl 52 (.tmp 6) (.tmp 19) rfl w1.heap.size (arrM a) rfl rfl 52 (arrM zero38) (ArrM.new w1 zero38) (by rw [arrM_size HL.out]; exact info_arrM) (by rw [arrM_size HL.out]; rfl) (arrM_cells _) ?_)
      refine (mapTrees_any _).mono ?_
      rintro e w2 ⟨A2, c2, rfl, own2, bel2⟩
      have FX0 : ArrM ((w1.alloc (.cells (arrM zero38) 52)).setRow w1.heap.size (arrM a)) w1.heap.size a := setRow_heap _ _ _ _ _ _ (ArrM.new w1 zero38)
      have FX := Lib.hid (FX0.below bel2 (by simp [World.setRow]))
      have FB : Hid (Below w.heap.size w w2) := (below_setRow (b1.alloc hs1 (.cells (arrM zero38) 52)) hs1 (arrM a)).trans (bel2.mono (by simp [World.setRow]; omega))
      obtain ⟨g2, rfl⟩ := own_addr own2 (by omega)
      have hg2 : w1.heap.size < g2 := by have := (own2.lt g2 rfl).1; simp [World.setRow] at this; omega
      have FT := Lib.hid (strs_cell (row_of_own own2))
      clear own2 bel2 FX0 b1 C0
      go_wp2_with fail
      go_loopw [22] (fun i wr => ∃ k : Nat, k ≤ 38 ∧ i = .int .i64 k ∧ Hid (ArrM wr w1.heap.size ((truncL a y).take k ++ a.drop k)) ∧ Hid (∀ k t, mapTx[k]? = some t → wr.cell? ⟨g2, k, none⟩ = some (.string ⟨t.toArray⟩)) ∧ Hid (Below w.heap.size w wr)) (fun i _ => 38 - (intOf i).toNat)
      case atStart => exact ⟨0, by omega, rfl, FX, FT, FB⟩
      case round =>
        obtain ⟨k, hk, rfl, HX, HT, HB⟩ := hrel
        by_cases hlt : k < 38
        · obtain ⟨x, hx⟩ := at_lt (show k < a.length by rw [HL.out]; exact hlt)
          obtain ⟨l, hll, l6⟩ := lens_at hlt
          obtain ⟨t, ht, htl⟩ := mapTx_at hll
          have hct := HT.out k t ht
          have hc := HX.out.cell (mixM_at (us := truncL a y) (by rw [hTL.out, HL.out]) hx)
          have hf := HX.out.free k
          have htl2 : t.length / 2 = l := by omega
          have C1 := fun w' => nodes_any t w' (by omega)
          rw [htl2] at C1
          have k0 : (0 : Int) ≤ (k : Int) := Int.natCast_nonneg _
          have k1 : (k : Int) < 38 := by omega
          obtain ⟨X, hX⟩ : ∃ X : ByteArray, X = ⟨t.toArray⟩ := ⟨_, rfl⟩
          rw [← hX] at hct C1
          have TA := truncL_at (n := y) hx hll
          by_cases hyl : y < (l : Int)
          · rw [if_pos hyl] at TA
            have GX : Hid (ArrM (wr.setCell ⟨w1.heap.size, k, none⟩ (.int .i64 0)) w1.heap.size ((truncL a y).take (k + 1) ++ a.drop (k + 1))) := by
              have := HX.out.store (k := k) 0
              rw [mixM_step (by rw [HL.out]; exact hlt) (by rw [hTL.out, HL.out]) TA] at this
              exact this
            have GT : Hid (∀ j t, mapTx[j]? = some t → (wr.setCell ⟨w1.heap.size, k, none⟩ (.int .i64 0)).cell? ⟨g2, j, none⟩ = some (.string ⟨t.toArray⟩)) := fun j t ht => cell_other (HT.out j t ht) (by omega)
            have GB : Hid (Below w.heap.size w (wr.setCell ⟨w1.heap.size, k, none⟩ (.int .i64 0))) := below_set HB.out hs1 _
            clear hx hll ht htl htl2 hX TA HX HT HB FX FT FB
            go_wp2_with fail
            refine (C1 _).mono ?_
            rintro e w' ⟨rfl, rfl⟩
            go_wp2
            go_roundw
            case rel => exact ⟨k + 1, by omega, by go_num, GX, GT, GB⟩
            case measure => simp [intOf]; omega
          · rw [if_neg hyl] at TA
            have GX : Hid (ArrM wr w1.heap.size ((truncL a y).take (k + 1) ++ a.drop (k + 1))) := by
              have := HX.out
              rw [mixM_keep hx TA] at this
              exact this
            clear hx hll ht htl htl2 hX TA HX FX FT FB
            go_wp2_with fail
            refine (C1 _).mono ?_
            rintro e w' ⟨rfl, rfl⟩
            go_wp2
            go_roundw
            case rel => exact ⟨k + 1, by omega, by go_num, GX, HT, HB⟩
            case measure => simp [intOf]; omega
        · obtain rfl : k = 38 := by omega
          have GX : Hid (ArrM wr w1.heap.size (truncL a y)) := by
            have := HX.out
            rw [mixM_end hTL.out HL.out] at this
            exact this
          clear HX FX FT FB HT
          go_wp2_with (refine wpList_load_row rfl 52 (.tmp 6) rfl w1.heap.size rfl 52 (arrM (truncL a y)) (0, 0) _ GX.out Try.underlying52 rfl (by rw [arrM_size hTL.out]; exact info_arrM) ?_)
          refine (listM_any (truncL a y) _ hTL.out).mono ?_
          rintro e w4 ⟨A4, c4, rfl, own4, bel4⟩
          have N := Lib.hid (NewRow.after HB.out ⟨A4, c4, rfl, own4, bel4⟩)
          clear own4 bel4
          go_wp2
          go_ret2
          obtain ⟨A5, c5, e5, own5, b5⟩ := N.out
          cases e5
          exact ResL.of G.out hTL.out (by omega) own5 b5
    · have G := Lib.hid (truncA_out ha hyy)
      clear hl HL0
      by_cases y0 : y < 0
      · go_enter Try.func28, Try.ntmps28
        go_wp2_with fail
        refine C0.mono ?_
        rintro e w' ⟨rfl, rfl⟩
        go_wp2
        go_ret2
        exact ResL.nil G.out (Below.refl _ _)
      · have y6 : 6 < y := by omega
        go_enter Try.func28, Try.ntmps28
        go_wp2_with fail
        refine C0.mono ?_
        rintro e w' ⟨rfl, rfl⟩
        go_wp2
        go_ret2
        exact ResL.nil G.out (Below.refl _ _)
set_option maxHeartbeats 2000000 in
theorem sTruncateMap_L (A : Option Addr) (n c B : Nat) (a : List Int) (y : Int) (w : World) (hl : a.length = n) (hn : n ≤ 1048576) (hB : B ≤ w.heap.size) (h : Row w B A (ints a)) (hy : -9223372036854775808 ≤ y ∧ y ≤ 9223372036854775807) :
    Calls Try.prog 27 #[.slice A n c, .int .i64 y] w (ResL (truncA a y) w) := by
  have C0 := l07Is_any A n c B a w hl (by omega) h
  cases ha : isMp a
  · have G := Lib.hid (truncA_no (y := y) ha)
    rw [ha] at C0
    clear hl
    go_enter Try.func27, Try.ntmps27
    go_wp2_with fail
    refine C0.mono ?_
    rintro e w' ⟨rfl, rfl⟩
    go_wp2
    go_ret2
    exact ResL.nil G.out (Below.refl _ _)
  · obtain ⟨x0, b0, o0, hx0, rfl, _, _, _, _⟩ := map_first ha hl h
    obtain ⟨e1, na⟩ := isMp_parts ha hl
    rw [ha] at C0
    have HL0 := hl
    subst e1
    have HL := Lib.hid HL0
    by_cases hyy : 0 ≤ y ∧ y ≤ 6
    · have G := Lib.hid (truncA_yes ha hyy)
      have T := isIn_yes hyy.1 hyy.2
      obtain ⟨y0, y6⟩ := hyy
      have hTL := Lib.hid (truncL_length HL0 y)
      have T0 := truncL_at (n := y) hx0 (show lens[0]? = some 0 from rfl)
      rw [if_neg (by omega)] at T0
      have HST : Hid (a = (truncL a y).take 1 ++ a.drop 1) := by
        have := mixM_keep hx0 T0
        rw [List.take_zero, List.drop_zero, List.nil_append] at this
        exact this
      have C1 := fun w' => l03All_any 6 w' (by omega) (by omega)
      rw [to_len] at C1
      clear hl ha na HL0 hx0 T0
      go_enter Try.func27, Try.ntmps27
      go_wp2_with fail
      refine C0.mono ?_
      rintro e w' ⟨rfl, rfl⟩
      go_wp2_with fail
      refine (l01In_any _ _ _ _).mono ?_
      rintro e w' ⟨rfl, rfl⟩
      rw [T]
      go_wp2_with fail
      refine (C1 _).mono ?_
      rintro e w1 ⟨A1, c1, vs1, rfl, own1, bel1⟩
      have hs1 := bel1.size
      have FM : Hid (Mat w1 w1.heap.size A1 (treesTo 6)) := own1.mat
      have B1 := Lib.hid bel1
      have HR := Lib.hid (h.below bel1 hB)
      clear own1 bel1 C1 C0
      go_wp2_with fail
      refine (l01Own_any ⟨b0, o0, none⟩ 38 c B a _ HL.out (by omega) (by omega) HR.out).mono ?_
      rintro e w2 ⟨A2, c2, rfl, own2, bel2⟩
      obtain ⟨g2, rfl⟩ := own_addr own2 (by omega)
      have HB2 := Lib.hid bel2
      have HO2 : Hid (w2.ownsRow w1.heap.size 2 1 (.slice (some ⟨g2, 0, none⟩) 38 c2) 38 (ints ((truncL a y).take (0 + 1) ++ a.drop (0 + 1)))) := by
        rw [Hid, Nat.zero_add, ← HST.out]; exact own2
      clear own2 bel2
      go_wp2_with fail
      go_loopw [8] (fun i wr => ∃ k : Nat, k ≤ 37 ∧ i = .int .i64 k ∧ Hid (wr.ownsRow w1.heap.size 2 1 (.slice (some ⟨g2, 0, none⟩) 38 c2) 38 (ints ((truncL a y).take (k + 1) ++ a.drop (k + 1)))) ∧ Hid (Below w1.heap.size w1 wr)) (fun i _ => 37 - (intOf i).toNat)
      case atStart => exact ⟨0, by omega, rfl, HO2, HB2⟩
      case round =>
        obtain ⟨k, hk, rfl, HO, HBB⟩ := hrel
        by_cases hlt : k < 37
        · obtain ⟨x, hx⟩ := at_lt (show k + 1 < a.length by rw [HL.out]; omega)
          obtain ⟨t, ht⟩ := at_lt (show k < (treesTo 6).length by rw [to_len]; exact hlt)
          have hll := to_at ht
          obtain ⟨b1, o1, Ak, ck, rfl, _, hct, _, hcm, hrow⟩ := (Mat.below FM.out HBB.out (Nat.le_refl _)) k t ht
          have TA := truncL_at (n := y) hx hll
          have hown := HO.out
          have hf := hown.frozenAt (k + 1)
          have ho := (hown.cellAt (k + 1) (by omega)).trans (ints_at (mixM_at (us := truncL a y) (by rw [hTL.out, HL.out]) hx))
          have k0 : (0 : Int) ≤ (k : Int) + 1 := by omega
          have k1 : (k : Int) + 1 < 38 := by omega
          have ew : IntKind.i64.wrap ((k : Int) + 1) = (k : Int) + 1 := IntWalk.i64_in _ (by omega)
          have en : ((k : Int) + 1).toNat = k + 1 := by omega
          have hgl := (hown.lt g2 rfl).1
          by_cases hyl : y < (t.length : Int)
          · rw [if_pos hyl] at TA
            have GX : Hid ((wr.setCell ⟨g2, k + 1, none⟩ (.int .i64 0)).ownsRow w1.heap.size 2 1 (.slice (some ⟨g2, 0, none⟩) 38 c2) 38 (ints ((truncL a y).take (k + 1 + 1) ++ a.drop (k + 1 + 1)))) := by
              have := (hown.stored (k + 1) (.int .i64 0)).1
              have e : (ints ((truncL a y).take (k + 1) ++ a.drop (k + 1))).set (k + 1) (.int .i64 0) = ints ((truncL a y).take (k + 1 + 1) ++ a.drop (k + 1 + 1)) := by
                rw [← mixM_step (us := truncL a y) (xs := a) (k := k + 1) (by rw [HL.out]; omega) (by rw [hTL.out, HL.out]) TA]
                unfold ints intsK; rw [List.map_set]
              rw [e] at this
              exact this
            have GB : Hid (Below w1.heap.size w1 (wr.setCell ⟨g2, k + 1, none⟩ (.int .i64 0))) := below_set HBB.out hgl _
            clear hx ht hll TA HO HBB hown hrow
            go_wp2
            go_roundw
            case rel => exact ⟨k + 1, by omega, by go_num, GX, GB⟩
            case measure => simp [intOf]; omega
          · rw [if_neg hyl] at TA
            have GX : Hid (wr.ownsRow w1.heap.size 2 1 (.slice (some ⟨g2, 0, none⟩) 38 c2) 38 (ints ((truncL a y).take (k + 1 + 1) ++ a.drop (k + 1 + 1)))) := by
              rw [Hid, ← mixM_keep hx TA]; exact hown
            clear hx ht hll TA HO hown hrow
            go_wp2
            go_roundw
            case rel => exact ⟨k + 1, by omega, by go_num, GX, HBB⟩
            case measure => simp [intOf]; omega
        · obtain rfl : k = 37 := by omega
          have GO : Hid (wr.ownsRow w.heap.size 2 1 (.slice (some ⟨g2, 0, none⟩) 38 c2) 38 (ints (truncL a y))) := by
            have := HO.out
            rw [mixM_end hTL.out HL.out] at this
            exact ((OwnR.of this).more hs1 (Nat.le_refl _)).1
          have GB := Lib.hid (B1.out.trans (HBB.out.mono hs1))
          clear HO HBB
          go_wp2
          go_ret2
          exact ResL.of G.out hTL.out (by omega) GO.out GB.out
    · have G := Lib.hid (truncA_out ha hyy)
      have T := isIn_no (n := y) (l := 0) (h := 6) (by omega)
      clear hl HL0
      go_enter Try.func27, Try.ntmps27
      go_wp2_with fail
      refine C0.mono ?_
      rintro e w' ⟨rfl, rfl⟩
      go_wp2_with fail
      refine (l01In_any _ _ _ _).mono ?_
      rintro e w' ⟨rfl, rfl⟩
      rw [T]
      go_wp2
      go_ret2
      exact ResL.nil G.out (Below.refl _ _)
end Go.Proofs.Ytignimaimflenaa
/-
  A text is split into those of trees.
-/
namespace Go.Proofs.Ytignimaimflenaa
open Go.RowKit Fld
set_option linter.unusedVariables false
set_option linter.unusedSimpArgs false
set_option maxRecDepth 100000

theorem extract_S (s : List UInt8) (a b : Nat) : (⟨s.toArray⟩ : ByteArray).extract a b = ⟨((s.drop a).take (b - a)).toArray⟩ := by
  apply ByteArray.ext
  simp [ByteArray.data_extract]
theorem tr_open {cur : List UInt8} {o : Nat} {acc : List (List UInt8)} {s : List UInt8} {p : Nat} (h : s[p]? = some 91) : Tr.trF cur o acc (s.drop p) = Tr.trF (cur ++ [91]) (o + 1) acc (s.drop (p + 1)) := by
  have hlt : p < s.length := by
    rcases Nat.lt_or_ge p s.length with g | g
    · exact g
    · rw [List.getElem?_eq_none g] at h; cases h
  rw [List.getElem?_eq_getElem hlt] at h
  injection h with h
  rw [List.drop_eq_getElem_cons hlt, h, Tr.trF, if_pos rfl]
theorem tr_close {cur : List UInt8} {o : Nat} {acc : List (List UInt8)} {s : List UInt8} {p : Nat} (h : s[p]? = some 93) : Tr.trF cur o acc (s.drop p) = if o = 0 then ([], false) else if o = 1 then Tr.trF [] 0 (acc ++ [cur ++ [93]]) (s.drop (p + 1)) else Tr.trF (cur ++ [93]) (o - 1) acc (s.drop (p + 1)) := by
  have hlt : p < s.length := by
    rcases Nat.lt_or_ge p s.length with g | g
    · exact g
    · rw [List.getElem?_eq_none g] at h; cases h
  rw [List.getElem?_eq_getElem hlt] at h
  injection h with h
  rw [List.drop_eq_getElem_cons hlt, h, Tr.trF, if_neg (by decide), if_pos rfl]
theorem tr_other {cur : List UInt8} {o : Nat} {acc : List (List UInt8)} {s : List UInt8} {p : Nat} {c : UInt8} (h : s[p]? = some c) (h1 : c ≠ 91) (h2 : c ≠ 93) : Tr.trF cur o acc (s.drop p) = ([], false) := by
  have hlt : p < s.length := by
    rcases Nat.lt_or_ge p s.length with g | g
    · exact g
    · rw [List.getElem?_eq_none g] at h; cases h
  rw [List.getElem?_eq_getElem hlt] at h
  injection h with h
  rw [List.drop_eq_getElem_cons hlt, h, Tr.trF, if_neg h1, if_neg h2]
theorem cut_step {s : List UInt8} {a p : Nat} {c : UInt8} (h : s[p]? = some c) (ha : a ≤ p) : (s.drop a).take (p + 1 - a) = (s.drop a).take (p - a) ++ [c] := by
  rw [show p + 1 - a = p - a + 1 from by omega, List.take_add_one, List.getElem?_drop, show a + (p - a) = p from by omega, h]; rfl
/-- the texts of trees, and whether there are no others -/
def ResT (r : List (List UInt8) × Bool) (w : World) (e : Ending) (w' : World) : Prop :=
  ∃ A q c, e = .returned (.tuple #[.slice A q c, .bool r.2]) ∧ w'.ownsRow w.heap.size 61 1 (.slice A q c) q (strs r.1) ∧ Below w.heap.size w w'
theorem ResT.none {r : List (List UInt8) × Bool} {w w' : World} (h : r = ([], false)) (hb : Below w.heap.size w w') : ResT r w (.returned (.tuple #[.slice none 0 0, .bool false])) w' := by
  subst h; exact ⟨_, _, _, rfl, World.ownsRow_nil .., hb⟩
set_option maxHeartbeats 2000000 in
theorem treesIn_any (s : List UInt8) (w : World) (hn : s.length ≤ 1048576) :
    Calls Try.prog 79 #[.string ⟨s.toArray⟩] w (ResT (Tr.trF [] 0 [] s) w) := by
  obtain ⟨i0, hi, hz0, hz1, hz2⟩ := info_parts info_tree
  have HN := Lib.hid hn
  obtain ⟨S, hS⟩ : ∃ S : ByteArray, S = ⟨s.toArray⟩ := ⟨_, rfl⟩
  have HSZ : Hid (S.size = s.length) := by rw [Hid, hS]; exact size_S s
  have HS := Lib.hid hS
  rw [← hS]
  have hs20 : S.size ≤ 1048576 := by rw [HSZ.out]; exact hn
  clear hS hn
  go_enter Try.func79, Try.ntmps79
  go_wp2_with fail
  go_loopw [4, 5, 6] (fun v a o wr => ∃ (p st op q cv : Nat) (Av : Option Addr) (acc : List (List UInt8)), p ≤ S.size ∧ st ≤ p ∧ op ≤ p ∧ q ≤ p ∧ v = .slice Av q cv ∧ a = .int .i64 st ∧ o = .int .i64 op ∧ wr.heap[w.heap.size]? = some (.stringIter S p) ∧ Hid (Tr.trF [] 0 [] s = Tr.trF ((s.drop st).take (p - st)) op acc (s.drop p)) ∧ Hid (wr.ownsRow w.heap.size 61 1 (.slice Av q cv) q (strs acc)) ∧ Below w.heap.size w wr) (fun _ _ _ wr => S.size - wr.iterPos w.heap.size)
  case atStart => exact ⟨0, 0, 0, 0, 0, none, [], Nat.zero_le _, Nat.le_refl _, Nat.le_refl _, Nat.le_refl _, rfl, rfl, rfl, World.iter_heap w S 0, by simp [Hid], World.ownsRow_nil .., (Below.refl _ _).alloc (Nat.le_refl _) _⟩
  case round =>
    obtain ⟨p, st, op, q, cv, Av, acc, hp, hst, hop, hq, rfl, rfl, rfl, hit, HE, HO, HBw⟩ := hrel
    have hlt := (Array.getElem?_eq_some_iff.1 hit).1
    by_cases hps : p < S.size
    · obtain ⟨c, hc⟩ := at_lt (show p < s.length by rw [← HSZ.out]; exact hps)
      have hbyte : S[p]'hps = c := by
        have hS := HS.out
        subst hS
        exact byte_at hc hps
      have HIT := Lib.hid hit
      by_cases hasc : c.toNat < 128
      · have hnx : ∀ ty, (Instr.next (.pointer (some ⟨w.heap.size, 0, none⟩)) true ty).run Try.prog wr = _ := fun ty => Lib.run_next_ascii_at wr w.heap.size S p ty hit hps (by rw [hbyte]; exact hasc)
        rw [hbyte] at hnx
        have hit2 := Lib.iterAt_heap wr w.heap.size S p (p + 1) hit
        have HO2 := Lib.hid (own_iterAt (p' := p + 1) HO.out hit)
        have HB2 := Lib.hid (Lib.below_iterAt HBw (k := w.heap.size) (Nat.le_refl _) S (p + 1))
        have hsz2 : (wr.iterAt w.heap.size S (p + 1)).heap.size = wr.heap.size := Lib.iterAt_size ..
        have hW1 : w.heap.size < (wr.iterAt w.heap.size S (p + 1)).heap.size := by rw [hsz2]; exact hlt
        by_cases h91 : c = 91
        · subst h91
          have e91 : ((91 : UInt8).toNat : Int) = 91 := rfl
          rw [e91] at hnx
          have HE2 : Hid (Tr.trF [] 0 [] s = Tr.trF ((s.drop st).take (p + 1 - st)) (op + 1) acc (s.drop (p + 1))) := by rw [Hid, HE.out, tr_open hc, cut_step hc hst]
          generalize hW : wr.iterAt w.heap.size S (p + 1) = W at *
          have HH2 := Lib.hid hit2
          have t0 : ((op : Int) + 1 == 0) = false := beq_f (by omega)
          clear hc hbyte hasc HE HBw HO hit hW hit2 hsz2
          go_wp2
          go_roundw
          case rel => exact ⟨p + 1, st, op + 1, q, cv, Av, acc, by omega, by omega, by omega, by omega, rfl, rfl, by go_num, HH2.out, HE2, HO2, HB2.out⟩
          case measure =>
            simp only [World.iterPos, HH2.out, HIT.out]
            omega
        · by_cases h93 : c = 93
          · subst h93
            have e93 : ((93 : UInt8).toNat : Int) = 93 := rfl
            rw [e93] at hnx
            have HTC := Lib.hid (HE.out.trans (tr_close hc))
            have HCUT : Hid ((s.drop st).take (p + 1 - st) = (s.drop st).take (p - st) ++ [93]) := cut_step hc hst
            generalize hW : wr.iterAt w.heap.size S (p + 1) = W at *
            have HH2 := Lib.hid hit2
            clear hc hbyte hasc HE HBw HO hit hW hit2 hsz2
            rcases (show op = 0 ∨ op = 1 ∨ 2 ≤ op by omega) with rfl | rfl | h2
            · have G : Hid (Tr.trF [] 0 [] s = ([], false)) := by rw [Hid, HTC.out, if_pos rfl]
              clear HTC
              go_wp2
              go_ret2
              exact ResT.none G.out HB2.out
            · have HE2 : Hid (Tr.trF [] 0 [] s = Tr.trF ((s.drop (p + 1)).take (p + 1 - (p + 1))) 0 (acc ++ [(s.drop st).take (p + 1 - st)]) (s.drop (p + 1))) := by
                rw [Hid, HTC.out, if_neg (by decide), if_pos rfl, Nat.sub_self, List.take_zero, HCUT.out]
              have HX : Hid (S.extract st (p + 1) = ⟨((s.drop st).take (p + 1 - st)).toArray⟩) := by rw [Hid, HS.out]; exact extract_S s st (p + 1)
              obtain ⟨X, hX⟩ : ∃ X, X = S.extract st (p + 1) := ⟨_, rfl⟩
              have HXX : Hid (S.extract st (p + 1) = X) := hX.symm
              have hown2 := HO2.out
              have hp1 : p + 1 ≤ S.size := hps
              clear HTC
              have hsl : ∀ W, (Instr.slice 9 (.string S) (some (.int .i64 (st : Int))) (some (.int .i64 ((p : Int) + 1))) none).run Try.prog W = .ok (.string X) W := fun W => by
                rw [run_slice_string W 9 S .i64 .i64 st ((p : Int) + 1) Try.underlying9 (by omega) (by omega) (by omega)]
                rw [← HXX.out]
                congr 3
              clear hX
              go_wp2_with (at_builtin; (refine wpList_append_lies _ rfl (.tmp 28) (.tmp 34) 59 rfl w.heap.size 61 i0 _ 1 16 Try.underlying59 hi hz0 hz1 hz2 rfl (by omega) (.slice Av q cv) q (strs acc) rfl (hown2.alloc _) ⟨W.heap.size, 0, none⟩ 1 1 [.string X] rfl rfl (World.news_of_block (cs := #[.string X]) (heap_alloc_new _ _)) (by simp [Value.oneCell']) (by omega) (by simp only [maxLen]; omega) (by omega) (by simp; omega) (W.heap.size + 1) (by simp) ?_); intro g2 cap2 w3 hown3 hgrow3 hat3 hlt3)
              have e1 : strs acc ++ [Value.string X] = strs (acc ++ [(s.drop st).take (p + 1 - st)]) := by rw [← HXX.out, HX.out]; simp [strs]
              rw [e1] at hown3
              have GI : Hid (w3.heap[w.heap.size]? = some (.stringIter S (p + 1))) := by
                rw [Hid, hgrow3.block _ (by simp; omega) (own_ne_iter HO2.out HH2.out), Lib.alloc_old _ _ _ hW1]
                exact HH2.out
              have G3 := Lib.hid hown3
              have GB3 : Hid (Below w.heap.size w w3) := (HB2.out.alloc (by omega) _).grown hgrow3 (by simp; omega) (fun z hz => (HO2.out.lt z hz).1)
              clear hown3 hgrow3 hat3 hown2 e1 hsl
              go_wp2
              go_roundw
              case rel => exact ⟨p + 1, p + 1, 0, q + 1, cap2, _, _, by omega, by omega, by omega, by omega, rfl, by go_num, rfl, GI.out, HE2, G3, GB3.out⟩
              case measure =>
                simp only [World.iterPos, GI.out, HIT.out]
                omega
            · have HE2 : Hid (Tr.trF [] 0 [] s = Tr.trF ((s.drop st).take (p + 1 - st)) (op - 1) acc (s.drop (p + 1))) := by
                rw [Hid, HTC.out, if_neg (by omega), if_neg (by omega), HCUT.out]
              have t0 : ((op : Int) - 1 == 0) = false := beq_f (by omega)
              clear HTC
              go_wp2
              go_roundw
              case rel => exact ⟨p + 1, st, op - 1, q, cv, Av, acc, by omega, by omega, by omega, by omega, rfl, rfl, by go_num, HH2.out, HE2, HO2, HB2.out⟩
              case measure =>
                simp only [World.iterPos, HH2.out, HIT.out]
                omega
          · have G : Hid (Tr.trF [] 0 [] s = ([], false)) := by rw [Hid, HE.out]; exact tr_other hc h91 h93
            have t1 : ((c.toNat : Int) == 91) = false := beq_f (fun e => h91 (UInt8.toNat_inj.1 (by simp; omega)))
            have t2 : ((c.toNat : Int) == 93) = false := beq_f (fun e => h93 (UInt8.toNat_inj.1 (by simp; omega)))
            generalize hW : wr.iterAt w.heap.size S (p + 1) = W at *
            clear hc hbyte hasc HE HBw HO hit hW hit2 hsz2 h91 h93
            go_wp2
            go_ret2
            exact ResT.none G.out HB2.out
      · have hd := decode_high S p hps (by rw [hbyte]; omega)
        have hnx : ∀ ty, (Instr.next (.pointer (some ⟨w.heap.size, 0, none⟩)) true ty).run Try.prog wr = _ := fun ty => Lib.run_next_any_at wr w.heap.size S p ty hit hps
        have h91 : c ≠ 91 := fun e => by subst e; exact hasc (by decide)
        have h93 : c ≠ 93 := fun e => by subst e; exact hasc (by decide)
        have G : Hid (Tr.trF [] 0 [] s = ([], false)) := by rw [Hid, HE.out]; exact tr_other hc h91 h93
        have HB2 := Lib.hid (Lib.below_iterAt HBw (k := w.heap.size) (Nat.le_refl _) S (p + (Utf8.decode S p).2))
        generalize hW : wr.iterAt w.heap.size S (p + (Utf8.decode S p).2) = W at *
        obtain ⟨rn, hrn⟩ : ∃ rn, rn = (Utf8.decode S p).1 := ⟨_, rfl⟩
        rw [← hrn] at hnx hd
        have t1 : ((rn : Int) == 91) = false := beq_f (by have := hd.1; omega)
        have t2 : ((rn : Int) == 93) = false := beq_f (by have := hd.1; omega)
        clear hc hbyte hasc HE HBw HO hit hW h91 h93 hrn hd
        go_wp2
        go_ret2
        exact ResT.none G.out HB2.out
    · have hnx : ∀ ty, (Instr.next (.pointer (some ⟨w.heap.size, 0, none⟩)) true ty).run Try.prog wr = _ := fun ty => Lib.run_next_end_at wr w.heap.size S p ty hit hps
      have e : Tr.trF [] 0 [] s = (acc, op == 0) := by
        have hl : s.length ≤ p := by have := HSZ.out; unfold Hid at this; omega
        have := HE.out
        rw [List.drop_of_length_le hl] at this
        rw [this]
        simp [Tr.trF]
      have G : Hid (ResT (Tr.trF [] 0 [] s) w (.returned (.tuple #[.slice Av q cv, .bool (op == 0)])) wr) := by
        rw [Hid, e]; exact ⟨Av, q, cv, rfl, HO.out, HBw⟩
      by_cases h0 : op = 0
      · subst h0
        clear HBw HE e hit
        go_wp2
        go_ret2
        exact G.out
      · have t0 : ((op : Int) == 0) = false := beq_f (by omega)
        have t1 : (op == 0) = false := by simp [h0]
        rw [t1] at G
        clear HBw HE e hit h0 t1
        go_wp2
        go_ret2
        exact G.out
end Go.Proofs.Ytignimaimflenaa
/-
  The branches of a tree by its text.
-/
namespace Go.Proofs.Ytignimaimflenaa
open Go.RowKit Fld
set_option linter.unusedVariables false
set_option linter.unusedSimpArgs false
set_option maxRecDepth 100000

/-- texts of the call's own -/
def ResTs (l : List (List UInt8)) (w : World) (e : Ending) (w' : World) : Prop :=
  ∃ A q c, e = .returned (.slice A q c) ∧ q = l.length ∧ w'.ownsRow w.heap.size 61 1 (.slice A q c) q (strs l) ∧ Below w.heap.size w w'
theorem branches_any (x : List UInt8) (w : World) (hx : Tr.isTx x = true) :
    Calls Try.prog 125 #[.string ⟨x.toArray⟩] w (ResTs (Tr.brT x) w) := by
  obtain ⟨⟨h2, h16⟩, _, _⟩ := Tr.br_parts hx
  obtain ⟨S, hS⟩ : ∃ S : ByteArray, S = ⟨x.toArray⟩ := ⟨_, rfl⟩
  have hsz : S.size = x.length := by rw [hS]; exact size_S x
  have HX : Hid (S.extract 1 (x.length - 1) = ⟨(Tr.inner x).toArray⟩) := by
    rw [Hid, hS, extract_S]; unfold Tr.inner; rw [show x.length - 1 - 1 = x.length - 2 from by omega]
  obtain ⟨X, hX⟩ : ∃ X, X = S.extract 1 (x.length - 1) := ⟨_, rfl⟩
  have hXX : X = ⟨(Tr.inner x).toArray⟩ := by rw [hX]; exact HX.out
  have HXX : Hid (S.extract 1 (x.length - 1) = X) := hX.symm
  have hil : (Tr.inner x).length ≤ 1048576 := by unfold Tr.inner; rw [List.length_take]; omega
  have C0 := treesIn_any (Tr.inner x) w hil
  rw [← hXX] at C0
  have hsl : ∀ W, (Instr.slice 61 (.string S) (some (.int .i64 1)) (some (.int .i64 ((S.size : Int) - 1))) none).run Try.prog W = .ok (.string X) W := fun W => by
    have h9 := run_slice_string W 61 S .i64 .i64 1 ((S.size : Int) - 1) Try.underlying61 (by omega) (by omega) (by omega)
    rw [show (S.size : Int) - 1 = ((x.length - 1 : Nat) : Int) from by omega] at h9 ⊢
    rw [h9, ← HXX.out]
    congr 3
  rw [← hS]
  have hs2 : 2 ≤ S.size := by omega
  have hs16 : S.size ≤ 16 := by omega
  clear hX hXX hS hsz h2 h16 hil hx
  go_enter Try.func125, Try.ntmps125
  go_wp2_with fail
  refine C0.mono ?_
  rintro e w1 ⟨A, q, c, rfl, own1, bel1⟩
  have G : Hid (ResTs (Tr.brT x) w (.returned (.slice A q c)) w1) := by
    refine ⟨A, q, c, rfl, ?_, own1, bel1⟩
    have := own_len own1
    rw [strs_length] at this
    exact this.symm
  clear own1 bel1
  go_wp2
  go_ret
  exact G.out
end Go.Proofs.Ytignimaimflenaa
/-
  A number that a call hands back.
-/
namespace Go.Proofs.Ytignimaimflenaa
open Go.RowKit
/-- one number, with memory made -/
def Res1 (r : Int) (w : World) (e : Ending) (w' : World) : Prop := e = .returned (.int .i64 r) ∧ Below w.heap.size w w'
theorem Res1.of {r x : Int} {w w' : World} (h : r = x) (hb : Below w.heap.size w w') : Res1 r w (.returned (.int .i64 x)) w' := by subst h; exact ⟨rfl, hb⟩
end Go.Proofs.Ytignimaimflenaa
/-
  Densities.
-/
namespace Go.Proofs.Ytignimaimflenaa
open Go.RowKit Fld
set_option linter.unusedVariables false
set_option linter.unusedSimpArgs false
set_option maxRecDepth 100000

def PDen (d : Nat) : Prop := ∀ (x : List UInt8) (w : World), x.length ≤ d → Tr.isTx x = true → Calls Try.prog 98 #[.string ⟨x.toArray⟩] w (Res1 (Tr.den x) w)
theorem pDen_succ (d : Nat) (IH : PDen d) : PDen (d + 1) := by
  intro x w hxd hx
  obtain ⟨⟨h2, h16⟩, HB, h7⟩ := Tr.br_parts hx
  obtain ⟨hD, hK⟩ := Tr.den_parts hx
  have C1 := fun w => branches_any x w hx
  have C0 := nodes_any x w (by omega)
  have HD := Lib.hid hD
  have HK := Lib.hid hK
  have HBR := Lib.hid HB
  obtain ⟨P, hP⟩ : ∃ P, P = (Tr.brT x).length := ⟨_, rfl⟩
  have HP : Hid ((Tr.brT x).length = P) := hP.symm
  have hP7 : P ≤ 7 := by rw [hP]; exact h7
  have HXD := Lib.hid hxd
  obtain ⟨S, hS⟩ : ∃ S : ByteArray, S = ⟨x.toArray⟩ := ⟨_, rfl⟩
  rw [← hS] at C0 C1 ⊢
  clear hD hK HB h7 hP hxd hx hS
  go_enter Try.func98, Try.ntmps98
  go_wp2_with fail
  refine C0.mono ?_
  rintro e w0 ⟨rfl, rfl⟩
  have hw0 : IntKind.i64.wrap ((x.length / 2 : Nat) : Int) = ((x.length / 2 : Nat) : Int) := IntWalk.i64_in _ (by omega)
  go_wp2_with fail
  refine (C1 _).mono ?_
  rintro e w1 ⟨A, q, c, rfl, hq, own1, bel1⟩
  have hqP : q = P := by rw [hq]; exact HP.out
  subst hqP
  have hs1 := bel1.size
  have HROW : Hid (Row w1 w1.heap.size A (strs (Tr.brT x))) := row_of_own own1
  have HB1 := Lib.hid bel1
  clear hq own1 bel1 C0 C1
  go_wp2_with fail
  go_loopw [3, 11] (fun v i wr => ∃ k : Nat, k ≤ q ∧ v = .int .i64 (Tr.mulK Tr.den ((x.length / 2 : Nat) : Int) (Tr.brT x) k) ∧ i = .int .i64 k ∧ Below w1.heap.size w1 wr) (fun _ i _ => q - (intOf i).toNat)
  case atStart => exact ⟨0, Nat.zero_le _, by simp [Tr.mulK_zero], rfl, Below.refl _ _⟩
  case round =>
    obtain ⟨k, hk, rfl, rfl, HBw⟩ := hrel
    have hsz := HBw.size
    by_cases hlt : k < q
    · obtain ⟨y, hy⟩ := at_lt (show k < (Tr.brT x).length by rw [HP.out]; exact hlt)
      obtain ⟨hyt, hyl⟩ := HBR.out y (List.mem_of_getElem? hy)
      obtain ⟨b, o, rfl, _, hc⟩ := (HROW.out.below HBw (Nat.le_refl _)) k _ (strs_at hy)
      have C2 := fun w => IH y w (by have := HXD.out; omega) hyt
      have hk1 := HK.out k (by rw [HP.out]; omega)
      have hk2 := HK.out (k + 1) (by rw [HP.out]; omega)
      have hstep := Tr.mulK_step (f := Tr.den) (a := ((x.length / 2 : Nat) : Int)) hy
      obtain ⟨a, ha⟩ : ∃ a, a = Tr.mulK Tr.den ((x.length / 2 : Nat) : Int) (Tr.brT x) k := ⟨_, rfl⟩
      rw [hstep] at hk2
      rw [← ha] at hk1 hk2 ⊢
      have HST : Hid (Tr.mulK Tr.den ((x.length / 2 : Nat) : Int) (Tr.brT x) (k + 1) = a * Tr.den y) := by rw [ha]; exact hstep
      obtain ⟨z, hz⟩ : ∃ z, z = Tr.den y := ⟨_, rfl⟩
      rw [← hz] at hk2 HST C2
      obtain ⟨Y, hY⟩ : ∃ Y : ByteArray, Y = ⟨y.toArray⟩ := ⟨_, rfl⟩
      rw [← hY] at C2 hc
      have hmw : IntKind.i64.wrap (a * z) = a * z := IntWalk.i64_in _ (by omega)
      have HBW := Lib.hid HBw
      clear hy hyt hyl hstep ha hz hY HBw hk1
      go_wp2_with fail
      refine (C2 _).mono ?_
      rintro e w2 ⟨rfl, bel2⟩
      have HB2 : Hid (Below w1.heap.size w1 w2) := HBW.out.trans (bel2.mono hsz)
      clear bel2 hk2
      go_wp2
      go_roundw
      case rel => exact ⟨k + 1, by omega, by rw [HST.out], by go_num, HB2.out⟩
      case measure => simp [intOf]; omega
    · obtain rfl : k = q := by omega
      have G : Hid (Res1 (Tr.den x) w (.returned (.int .i64 (Tr.mulK Tr.den ((x.length / 2 : Nat) : Int) (Tr.brT x) k))) wr) :=
        Res1.of (by rw [HD.out, HP.out]) (HB1.out.trans (HBw.mono hs1))
      clear HBw
      go_wp2
      go_ret
      exact G.out
theorem density_any (x : List UInt8) (w : World) (hx : Tr.isTx x = true) : Calls Try.prog 98 #[.string ⟨x.toArray⟩] w (Res1 (Tr.den x) w) := by
  have key : ∀ d, PDen d := fun d => by
    induction d with
    | zero => intro y w hy ht; have := (Tr.br_parts ht).1.1; omega
    | succ d ih => exact pDen_succ d ih
  exact key x.length x w (Nat.le_refl _) hx
def densityA (t : List Int) : Int × Int := if Tr.isLv t = true then (Tr.denM t, 0) else (0, 1)
theorem densityA_yes {t : List Int} (h : Tr.isLv t = true) : densityA t = (Tr.denM t, 0) := if_pos h
theorem densityA_no {t : List Int} (h : Tr.isLv t = false) : densityA t = (0, 1) := if_neg (by rw [h]; simp)
def SDen (d : Nat) : Prop := ∀ (A : Option Addr) (n c B : Nat) (t : List Int) (w : World), t.length = n → n ≤ d → Tr.isLv t = true → B ≤ w.heap.size → Row w B A (ints t) → Calls Try.prog 97 #[.slice A n c] w (Res1 (Tr.denM t) w)
theorem sDen_succ (d : Nat) (IH : SDen d) : SDen (d + 1) := by
  intro A n c B t w hl hnd hlv hB h
  have n8 : n ≤ 8 := by have := (Tr.isLv_iff.1 hlv).2.1; omega
  obtain ⟨_, PS, P7⟩ := Tr.can_parts hlv
  obtain ⟨⟨hD, hK⟩, _⟩ := Tr.denM_parts hlv
  rw [hl] at hD hK
  have HD := Lib.hid hD
  have HK := Lib.hid hK
  have HPS := Lib.hid PS
  have HL := Lib.hid hl
  obtain ⟨P, hP⟩ : ∃ P, P = (Tr.partsL t).length := ⟨_, rfl⟩
  have HP : Hid ((Tr.partsL t).length = P) := hP.symm
  have C0 := l03Parts_any A n c B t w hl hlv hB h
  rw [HP.out] at C0
  have hP7 : P ≤ 7 := by rw [hP]; exact P7
  clear hl hlv PS P7 hP hD hK
  go_enter Try.func97, Try.ntmps97
  have hw0 : IntKind.i64.wrap (n : Int) = (n : Int) := IntWalk.i64_in _ (by omega)
  go_wp2_with fail
  refine C0.mono ?_
  rintro e w1 ⟨Ap, cp, pvs, rfl, ownp, belp⟩
  have HMP : Hid (Mat w1 w1.heap.size Ap (Tr.partsL t)) := ownp.mat
  have HB1 := Lib.hid belp
  have hs1 := belp.size
  clear ownp belp C0
  go_wp2_with fail
  go_loopw [3, 5] (fun v i wr => ∃ k : Nat, k ≤ P ∧ v = .int .i64 (Tr.mulK Tr.denM (n : Int) (Tr.partsL t) k) ∧ i = .int .i64 k ∧ Below w1.heap.size w1 wr) (fun _ i _ => P - (intOf i).toNat)
  case atStart => exact ⟨0, Nat.zero_le _, by simp [Tr.mulK_zero], rfl, Below.refl _ _⟩
  case round =>
    obtain ⟨k, hk, rfl, rfl, HBw⟩ := hrel
    have hsz := HBw.size
    by_cases hlt : k < P
    · obtain ⟨p, hp⟩ := at_lt (show k < (Tr.partsL t).length by rw [HP.out]; exact hlt)
      obtain ⟨bp, op, Ak, ck, rfl, hbp, hcp, hlc, hcm, hrp⟩ := HMP.out.below HBw (Nat.le_refl _) k p hp
      obtain ⟨hpl, hpt⟩ := HPS.out p (List.mem_of_getElem? hp)
      have C2 := fun w' (hw' : w1.heap.size ≤ w'.heap.size) hr => IH Ak p.length ck w1.heap.size p w' rfl (by have := HL.out; omega) hpl hw' hr
      have hk2 := HK.out (k + 1) (by rw [HP.out]; omega)
      have hstep := Tr.mulK_step (f := Tr.denM) (a := (n : Int)) hp
      obtain ⟨a, ha⟩ : ∃ a, a = Tr.mulK Tr.denM (n : Int) (Tr.partsL t) k := ⟨_, rfl⟩
      rw [hstep] at hk2
      rw [← ha] at hk2 ⊢
      have HST : Hid (Tr.mulK Tr.denM (n : Int) (Tr.partsL t) (k + 1) = a * Tr.denM p) := by rw [ha]; exact hstep
      obtain ⟨z, hz⟩ : ∃ z, z = Tr.denM p := ⟨_, rfl⟩
      rw [← hz] at hk2 HST C2
      have hmw : IntKind.i64.wrap (a * z) = a * z := IntWalk.i64_in _ (by omega)
      have HBW := Lib.hid HBw
      clear hp hpl hpt hstep ha hz HBw
      go_wp2_with fail
      refine (C2 _ (by exact hsz) (by exact hrp)).mono ?_
      rintro e w2 ⟨rfl, bel2⟩
      have HB2 : Hid (Below w1.heap.size w1 w2) := HBW.out.trans (bel2.mono hsz)
      clear bel2 hk2 hcp
      go_wp2
      go_roundw
      case rel => exact ⟨k + 1, by omega, by rw [HST.out], by go_num, HB2.out⟩
      case measure => simp [intOf]; omega
    · obtain rfl : k = P := by omega
      have G : Hid (Res1 (Tr.denM t) w (.returned (.int .i64 (Tr.mulK Tr.denM (n : Int) (Tr.partsL t) k))) wr) :=
        Res1.of (by rw [HD.out, HP.out]) (HB1.out.trans (HBw.mono hs1))
      clear HBw
      go_wp2
      go_ret
      exact G.out
theorem l03Density_any (A : Option Addr) (n c B : Nat) (t : List Int) (w : World) (hl : t.length = n) (hlv : Tr.isLv t = true) (hB : B ≤ w.heap.size) (h : Row w B A (ints t)) : Calls Try.prog 97 #[.slice A n c] w (Res1 (Tr.denM t) w) := by
  have key : ∀ d, SDen d := fun d => by
    induction d with
    | zero => intro A n c B t w hl hn hlv; have := (Tr.isLv_iff.1 hlv).1; omega
    | succ d ih => exact sDen_succ d ih
  exact key n A n c B t w hl (Nat.le_refl _) hlv hB h
end Go.Proofs.Ytignimaimflenaa
/-
  The exact map, the program's and the model's.
-/
namespace Go.Proofs.Ytignimaimflenaa
open Go.RowKit Fld
set_option linter.unusedVariables false
set_option linter.unusedSimpArgs false
set_option maxRecDepth 100000

def exactV (t : List Int) : Int := inv (Tr.denM t % 10007)
def exactL : List Int := 1 :: (treesTo 6).map exactV
theorem exactL_length : exactL.length = 38 := by unfold exactL; rw [List.length_cons, List.length_map, to_len]
theorem exactL_num : allNum exactL = true := by
  rw [allNum_iff]
  intro x hx
  unfold exactL at hx
  rw [List.mem_cons, List.mem_map] at hx
  rcases hx with rfl | ⟨t, _, rfl⟩
  · omega
  · exact ⟨inv_lo _, inv_hi _⟩
theorem exactL_at {k : Nat} {t : List Int} (h : (treesTo 6)[k]? = some t) : exactL[k + 1]? = some (exactV t) := by
  unfold exactL; rw [List.getElem?_cons_succ, List.getElem?_map, h]; rfl
theorem mapTx_tree {k : Nat} {t : List Int} (h : (treesTo 6)[k]? = some t) : mapTx[k + 1]? = some (Tr.txt t) := by
  unfold mapTx; rw [List.getElem?_cons_succ, List.getElem?_map, h]; rfl
theorem to_lv {k : Nat} {t : List Int} (h : (treesTo 6)[k]? = some t) : Tr.isLv t = true := by
  have hm := List.mem_of_getElem? h
  unfold treesTo at hm
  rw [List.mem_flatMap] at hm
  obtain ⟨n, hn, ht⟩ := hm
  rw [List.mem_range] at hn
  exact ((trees_all (n := n + 1) (by omega) (by omega)).1 t ht).1
theorem unit_mix : unitL = exactL.take (0 + 1) ++ unitL.drop (0 + 1) := rfl
theorem unitL_at {k : Nat} (h : k < 37) : unitL[k + 1]? = some 0 := by
  unfold unitL; rw [List.getElem?_cons_succ, List.getElem?_replicate, if_pos h]
set_option maxHeartbeats 2000000 in
theorem exactMap_any (w : World) : Calls Try.prog 66 #[] w fun e w' => e = .returned (.agg (arrM exactL)) ∧ Below w.heap.size w w' := by
  have EL := Lib.hid exactL_length
  have UL := Lib.hid unitL_length
  go_enter Try.func66, Try.ntmps66
  go_wp2_with (refine wpList_store_row rfl 52 (.tmp 1) (.tmp 4) rfl (w.heap.size + 1) (arrM unitL) rfl rfl 52 (arrM zero38) (arrM_two w zero38 zero38).2.1 (by rw [arrM_size UL.out]; exact info_arrM) (by rw [arrM_size UL.out]; rfl) (arrM_cells _) ?_)
  refine (mapTrees_any _).mono ?_
  rintro e w2 ⟨A2, c2, rfl, own2, bel2⟩
  have FX0 : ArrM (((w.alloc (.cells (arrM zero38) 52)).alloc (.cells (arrM zero38) 52)).setRow (w.heap.size + 1) (arrM unitL)) (w.heap.size + 1) unitL := setRow_heap _ _ _ _ _ _ (arrM_two w zero38 zero38).2.1
  have FZ0 : ArrM (((w.alloc (.cells (arrM zero38) 52)).alloc (.cells (arrM zero38) 52)).setRow (w.heap.size + 1) (arrM unitL)) w.heap.size zero38 := (setRow_other _ _ _ _ (by omega)).trans (arrM_two w zero38 zero38).1
  have FX : Hid (ArrM w2 (w.heap.size + 1) (exactL.take (0 + 1) ++ unitL.drop (0 + 1))) := FX0.below bel2 (by simp [World.setRow])
  have FZ : Hid (ArrM w2 w.heap.size zero38) := FZ0.below bel2 (by simp [World.setRow]; omega)
  have FB : Hid (Below w.heap.size w w2) := (below_setRow (arrM_two w zero38 zero38).2.2 (by omega) (arrM unitL)).trans (bel2.mono (by simp [World.setRow]; omega))
  obtain ⟨g2, rfl⟩ := own_addr own2 (by omega)
  have hg2 : w.heap.size + 1 < g2 := by have := (own2.lt g2 rfl).1; simp [World.setRow] at this; omega
  have FT := Lib.hid (strs_cell (row_of_own own2))
  have hcap := (own_cap own2).1
  have hc1 : ¬ c2 = 1 := by omega
  clear own2 bel2 FX0 FZ0
  go_wp2_with fail
  go_loopw [8] (fun i wr => ∃ k : Nat, k ≤ 37 ∧ i = .int .i64 k ∧ Hid (ArrM wr (w.heap.size + 1) (exactL.take (k + 1) ++ unitL.drop (k + 1))) ∧ Hid (ArrM wr w.heap.size zero38) ∧ Hid (∀ k t, mapTx[k]? = some t → wr.cell? ⟨g2, k, none⟩ = some (.string ⟨t.toArray⟩)) ∧ Hid (Below w.heap.size w wr)) (fun i _ => 37 - (intOf i).toNat)
  case atStart => exact ⟨0, by omega, rfl, FX, FZ, FT, FB⟩
  case round =>
    obtain ⟨k, hk, rfl, HX, HZ, HT, HB⟩ := hrel
    by_cases hlt : k < 37
    · obtain ⟨t, ht⟩ := at_lt (show k < (treesTo 6).length by rw [to_len]; exact hlt)
      have hlv := to_lv ht
      have hct := HT.out (k + 1) _ (mapTx_tree ht)
      have hc := HX.out.cell (mixM_at (us := exactL) (by rw [EL.out, UL.out]) (unitL_at hlt))
      have hf := HX.out.free (k + 1)
      have C1 := fun w' => density_any (Tr.txt t) w' (Tr.tx_txt hlv)
      rw [(Tr.denM_parts hlv).2] at C1
      obtain ⟨d1, d2⟩ := Tr.denM_bd hlv
      have TA : exactL[k + 1]? = some (inv (Tr.denM t % 10007)) := exactL_at ht
      have k0 : (0 : Int) ≤ (k : Int) + 1 := by omega
      have k1 : (k : Int) + 1 < 38 := by omega
      have kk0 : (0 : Int) ≤ (k : Int) := Int.natCast_nonneg _
      have kk1 : (k : Int) < 37 := by omega
      have ew : IntKind.i64.wrap ((k : Int) + 1) = (k : Int) + 1 := IntWalk.i64_in _ (by omega)
      have en : ((k : Int) + 1).toNat = k + 1 := by omega
      have ek : 1 + k = k + 1 := by omega
      obtain ⟨X, hX⟩ : ∃ X : ByteArray, X = ⟨(Tr.txt t).toArray⟩ := ⟨_, rfl⟩
      rw [← hX] at hct C1
      obtain ⟨D, hD⟩ : ∃ D : Int, D = Tr.denM t := ⟨_, rfl⟩
      rw [← hD] at C1 TA d1 d2
      obtain ⟨V, hV⟩ : ∃ V : Int, V = inv (D % 10007) := ⟨_, rfl⟩
      rw [← hV] at TA
      have C3 := fun w' => inverse_any (D % 10007) w' (by omega) (by omega)
      rw [← hV] at C3
      have HGX : Hid (∀ W : World, ArrM W (w.heap.size + 1) (exactL.take (k + 1) ++ unitL.drop (k + 1)) → ArrM (W.setCell ⟨w.heap.size + 1, k + 1, none⟩ (.int .i64 V)) (w.heap.size + 1) (exactL.take (k + 1 + 1) ++ unitL.drop (k + 1 + 1))) := fun W hW => by
        have := hW.store (k := k + 1) V
        rw [mixM_step (by rw [UL.out]; omega) (by rw [EL.out, UL.out]) TA] at this
        exact this
      have hs1 := HB.out.size
      have hsg : g2 < wr.heap.size := by
        have h9 := hct
        rcases Nat.lt_or_ge g2 wr.heap.size with h8 | h8
        · exact h8
        · exfalso
          unfold World.cell? at h9
          simp [Array.getElem?_eq_none h8] at h9
      clear ht hlv hX hD hV TA FX FZ FT FB hc hf
      go_wp2_with fail
      refine (C1 _).mono ?_
      rintro e w3 ⟨rfl, bel3⟩
      have hx1 : w.heap.size + 1 < wr.heap.size := by omega
      have HX3 := HX.out.below bel3 hx1
      have HZ3 := Lib.hid (HZ.out.below bel3 (by omega))
      have HT3 : Hid (∀ k t, mapTx[k]? = some t → w3.cell? ⟨g2, k, none⟩ = some (.string ⟨t.toArray⟩)) := fun j u hu => (bel3.cell (p := ⟨g2, j, none⟩) hsg).trans (HT.out j u hu)
      have HB3 := Lib.hid (HB.out.trans (bel3.mono hs1))
      have hc3 : ∃ v, w3.cell? ⟨w.heap.size + 1, k + 1, none⟩ = some v := ⟨_, HX3.cell (mixM_at (us := exactL) (by rw [EL.out, UL.out]) (unitL_at hlt))⟩
      obtain ⟨v9, hc3⟩ := hc3
      have hf3 := HX3.free (k + 1)
      have GX := Lib.hid (HGX.out w3 HX3)
      have GZ : Hid (ArrM (w3.setCell ⟨w.heap.size + 1, k + 1, none⟩ (.int .i64 V)) w.heap.size zero38) := HZ3.out.other (by omega) _
      have GT : Hid (∀ j t, mapTx[j]? = some t → (w3.setCell ⟨w.heap.size + 1, k + 1, none⟩ (.int .i64 V)).cell? ⟨g2, j, none⟩ = some (.string ⟨t.toArray⟩)) := fun j t ht => cell_other (HT3.out j t ht) (by omega)
      have GB : Hid (Below w.heap.size w (w3.setCell ⟨w.heap.size + 1, k + 1, none⟩ (.int .i64 V))) := below_set HB3.out (by omega) _
      clear HX HZ HT HB HX3 HZ3 HT3 HB3 bel3 hct C1 HGX
      go_wp2_with fail
      refine (reduced_any D _).mono ?_
      rintro e w' ⟨rfl, rfl⟩
      go_wp2_with fail
      refine (C3 _).mono ?_
      rintro e w' ⟨rfl, rfl⟩
      go_wp2
      go_roundw
      case rel => exact ⟨k + 1, by omega, by go_num, GX, GZ, GT, GB⟩
      case measure => simp [intOf]; omega
    · obtain rfl : k = 37 := by omega
      have GX : Hid (ArrM wr (w.heap.size + 1) exactL) := by
        have := HX.out
        rw [mixM_end EL.out UL.out] at this
        exact this
      clear HX FX FZ FT FB HT
      go_wp2_with (first
        | (refine wpList_load_row rfl 52 (.tmp 1) rfl (w.heap.size + 1) rfl 52 (arrM exactL) (0, 0) _ GX.out Try.underlying52 rfl (by rw [arrM_size EL.out]; exact info_arrM) ?_)
        | (refine wpList_store_row rfl 52 (.tmp 0) (.tmp 21) rfl w.heap.size (arrM exactL) rfl rfl 52 (arrM zero38) HZ.out (by rw [arrM_size EL.out]; exact info_arrM) (by rw [arrM_size EL.out]; rfl) (arrM_cells _) ?_))
      refine bodyPost_ret (v := .agg (arrM exactL)) ?_ rfl ⟨rfl, below_setRow HB.out (Nat.le_refl _) _⟩
      exact results_cell_row rfl _ _ w.heap.size 52 _ (0, 0) _ rfl (setRow_heap _ _ _ _ _ _ HZ.out) Try.underlying52 rfl (by rw [arrM_size EL.out]; exact info_arrM)
theorem pExactMap_L (w : World) : Calls Try.prog 34 #[] w (NewRow 2 38 (ints exactL) w) := by
  go_enter Try.func34, Try.ntmps34
  go_wp2_with fail
  refine (exactMap_any _).mono ?_
  rintro e w1 ⟨rfl, b1⟩
  go_wp2_with fail
  refine (listM_any exactL _ exactL_length).mono ?_
  rintro e w2 ⟨A2, c2, rfl, own2, bel2⟩
  have N := Lib.hid (NewRow.after b1 ⟨A2, c2, rfl, own2, bel2⟩)
  clear own2 bel2 b1
  go_wp2
  go_ret
  exact N.out
set_option maxHeartbeats 1000000 in
theorem l07Exact_any (w : World) : Calls Try.prog 65 #[] w (NewRow 2 38 (ints exactL) w) := by
  obtain ⟨i0, hi, hz0, hz1, hz2⟩ := info_parts info_i64
  have C1 := fun w' => l03All_any 6 w' (by omega) (by omega)
  rw [to_len] at C1
  go_enter Try.func65, Try.ntmps65
  go_wp2_with fail
  refine (C1 _).mono ?_
  rintro e w1 ⟨A1, c1, vs1, rfl, own1, bel1⟩
  have hs1 := bel1.size
  have FM : Hid (Mat w1 w1.heap.size A1 (treesTo 6)) := own1.mat
  have B1 := Lib.hid bel1
  have F0 : Hid ((w1.alloc (.cells #[.int .i64 1] 2)).ownsRow w1.heap.size 2 1 (.slice (some ⟨w1.heap.size, 0, none⟩) 1 1) 1 (ints (exactL.take (0 + 1)))) := World.ownsRow_lit (base := w1.heap.size) (size := 1) (e := 2) w1 #[.int .i64 1] 1 (Nat.le_refl _) (by simp [maxLen]) rfl
  have FB : Hid (Below w1.heap.size w1 (w1.alloc (.cells #[.int .i64 1] 2))) := (Below.refl _ _).alloc (Nat.le_refl _) _
  clear own1 bel1 C1
  go_wp2_with fail
  go_loopw [2, 3] (fun v i wr => ∃ (k g cap : Nat), k ≤ 37 ∧ v = .slice (some ⟨g, 0, none⟩) (k + 1) cap ∧ i = .int .i64 k ∧ Hid (wr.ownsRow w1.heap.size 2 1 (.slice (some ⟨g, 0, none⟩) (k + 1) cap) (k + 1) (ints (exactL.take (k + 1)))) ∧ Hid (Below w1.heap.size w1 wr)) (fun _ i _ => 37 - (intOf i).toNat)
  case atStart => exact ⟨0, w1.heap.size, 1, by omega, rfl, rfl, F0, FB⟩
  case round =>
    obtain ⟨k, g, cap, hk, rfl, rfl, HO, HBB⟩ := hrel
    by_cases hlt : k < 37
    · obtain ⟨t, ht⟩ := at_lt (show k < (treesTo 6).length by rw [to_len]; exact hlt)
      have hlv := to_lv ht
      obtain ⟨q1, q8⟩ := lv_bd hlv
      obtain ⟨b1, o1, Ak, ck, rfl, _, hct, hlc, hcm, hrow⟩ := (Mat.below FM.out HBB.out (Nat.le_refl _)) k t ht
      have hsz := HBB.out.size
      obtain ⟨d1, d2⟩ := Tr.denM_bd hlv
      have TA : exactL[k + 1]? = some (inv (Tr.denM t % 10007)) := exactL_at ht
      have C1 := l03Density_any Ak t.length ck w1.heap.size t wr rfl hlv hsz hrow
      have i0' := inv_lo (Tr.denM t % 10007)
      have i1' := inv_hi (Tr.denM t % 10007)
      obtain ⟨D, hD⟩ : ∃ D : Int, D = Tr.denM t := ⟨_, rfl⟩
      rw [← hD] at C1 TA d1 d2 i0' i1'
      have C2 := fun w' => l01Frac_any 1 D w'
      obtain ⟨V, hV⟩ : ∃ V : Int, V = inv (D % 10007) := ⟨_, rfl⟩
      rw [← hV] at TA C2 i0' i1'
      have ev : 1 % 10007 * V % 10007 = V := by omega
      rw [ev] at C2
      have HE : Hid (ints (exactL.take (k + 1)) ++ [.int .i64 V] = ints (exactL.take (k + 1 + 1))) := grow_ints TA
      have k0 : (0 : Int) ≤ (k : Int) := Int.natCast_nonneg _
      clear ht hlv hD hV TA hrow ev
      go_wp2_with fail
      refine C1.mono ?_
      rintro e w2 ⟨rfl, bel2⟩
      have hs2 := bel2.size
      have HO2 := ((OwnR.of HO.out).below bel2 (Nat.le_refl _)).1
      have HB2 := Lib.hid (HBB.out.trans (bel2.mono hsz))
      clear bel2 C1 HO HBB
      go_wp2_with fail
      refine (C2 _).mono ?_
      rintro e w' ⟨rfl, rfl⟩
      go_wp2_with (at_builtin; refine wpList_append_lies _ rfl (.tmp 12) (.tmp 19) 22 rfl w1.heap.size 2 i0 _ 1 8 Try.underlying22 hi hz0 hz1 hz2 rfl (by omega) (.slice (some ⟨g, 0, none⟩) (k + 1) cap) (k + 1) (ints (exactL.take (k + 1))) rfl (HO2.alloc _) ⟨w2.heap.size, 0, none⟩ 1 1 [.int .i64 V] rfl rfl (World.news_of_block (cs := #[.int .i64 V]) (heap_alloc_new _ _)) (by simp [Value.oneCell']) (by omega) (by simp only [maxLen]; omega) (by omega) (by simp; omega) (w2.heap.size + 1) (by simp) ?_; intro g5 cap5 w5 hown5 hgrow5 hat5 hlt5)
      have hown5' := hown5
      rw [HE.out] at hown5'
      have GO := Lib.hid hown5'
      have GB : Hid (Below w1.heap.size w1 w5) := (HB2.out.alloc (by omega) _).grown hgrow5 (by simp; omega) (fun z hz => (HO2.lt z hz).1)
      clear hown5 hown5' hgrow5 hat5 HO2
      go_wp2
      go_roundw
      case rel => exact ⟨k + 1, g5, cap5, by omega, rfl, by go_num, GO, GB⟩
      case measure => simp [intOf]; omega
    · obtain rfl : k = 37 := by omega
      have GO : Hid (wr.ownsRow w.heap.size 2 1 (.slice (some ⟨g, 0, none⟩) 38 cap) 38 (ints exactL)) := by
        have := HO.out
        rw [List.take_of_length_le (by rw [exactL_length]; omega)] at this
        exact ((OwnR.of this).more hs1 (Nat.le_refl _)).1
      have GB := Lib.hid (B1.out.trans (HBB.out.mono hs1))
      clear HO HBB
      go_wp2
      go_ret
      exact ⟨_, _, rfl, GO.out, GB.out⟩
theorem sExactMap_L (w : World) : Calls Try.prog 33 #[] w (NewRow 2 38 (ints exactL) w) := by
  go_enter Try.func33, Try.ntmps33
  go_wp2_with (go_at_call 65; refine (l07Exact_any _).mono ?_; rintro e w1 ⟨A1, c1, rfl, own1, bel1⟩)
  go_ret
  exact ⟨_, _, rfl, own1, bel1⟩
end Go.Proofs.Ytignimaimflenaa
/-
  The order of a map, the program's and the model's.
-/
namespace Go.Proofs.Ytignimaimflenaa
open Go.RowKit Fld
set_option linter.unusedVariables false
set_option linter.unusedSimpArgs false
set_option maxRecDepth 100000

def orderA (a : List Int) : Int × Int := if isMp a = true then (if a.getD 0 0 = 1 then (agrA a exactL, 0) else (0, 5)) else (0, 1)
theorem orderA_no {a : List Int} (h : isMp a = false) : orderA a = (0, 1) := if_neg (by rw [h]; simp)
theorem orderA_one {a : List Int} {x : Int} (h : isMp a = true) (hx : a[0]? = some x) (e : x = 1) : orderA a = (agrA a exactL, 0) := by
  unfold orderA; rw [if_pos h, List.getD_eq_getElem?_getD, hx]; exact if_pos e
theorem orderA_not {a : List Int} {x : Int} (h : isMp a = true) (hx : a[0]? = some x) (e : x ≠ 1) : orderA a = (0, 5) := by
  unfold orderA; rw [if_pos h, List.getD_eq_getElem?_getD, hx]; exact if_neg e
set_option maxHeartbeats 1000000 in
theorem l07Code_same (A : Option Addr) (n c B : Nat) (a : List Int) (w : World) (hl : a.length = n) (hn : n ≤ 1048576) (h : Row w B A (ints a)) :
    Calls Try.prog 64 #[.slice A n c, .slice A n c] w fun e w' => e = .returned (.int .i64 (orderA a).2) ∧ w = w' := by
  have C0 := l07Is_any A n c B a w hl (by omega) h
  cases ha : isMp a
  · have G := Lib.hid (orderA_no ha)
    rw [ha] at C0
    clear hl
    go_enter Try.func64, Try.ntmps64
    go_wp2_with (go_at_call 47; refine C0.mono ?_; rintro e w' ⟨rfl, rfl⟩)
    go_ret
    exact ⟨ret_i64 (by rw [G.out]), rfl⟩
  · obtain ⟨x, b, o, hx, rfl, hc, p1, x0, x1⟩ := map_first ha hl h
    rw [ha] at C0
    by_cases hx1 : x = 1
    · have G := Lib.hid (orderA_one ha hx hx1)
      have t : (x != 1) = false := bne_f hx1
      clear hl hx hx1
      go_enter Try.func64, Try.ntmps64
      go_wp2_with (go_at_call 47; refine C0.mono ?_; rintro e w' ⟨rfl, rfl⟩)
      go_ret
      exact ⟨ret_i64 (by rw [G.out]), rfl⟩
    · have G := Lib.hid (orderA_not ha hx hx1)
      have t : (x != 1) = true := bne_t hx1
      clear hl hx hx1
      go_enter Try.func64, Try.ntmps64
      go_wp2_with (go_at_call 47; refine C0.mono ?_; rintro e w' ⟨rfl, rfl⟩)
      go_ret
      exact ⟨ret_i64 (by rw [G.out]), rfl⟩
set_option maxHeartbeats 1000000 in
theorem sOrderOfMap_L (A : Option Addr) (n c B : Nat) (a : List Int) (w : World) (hl : a.length = n) (hn : n ≤ 1048576) (hB : B ≤ w.heap.size) (h : Row w B A (ints a)) :
    Calls Try.prog 31 #[.slice A n c] w (ResI (orderA a) w) := by
  have C0 := l07Code_same A n c B a w hl hn h
  have done : ∀ k : Int, k ≠ 0 → orderA a = (0, k) → Calls Try.prog 31 #[.slice A n c] w (ResI (orderA a) w) := by
    intro k hk e
    rw [e] at C0
    have t : (k != 0) = true := bne_t hk
    have G := Lib.hid e
    clear hl e
    go_enter Try.func31, Try.ntmps31
    go_wp2_with fail
    refine C0.mono ?_
    rintro e w' ⟨rfl, rfl⟩
    go_wp2
    go_ret2
    exact ResI.of' G.out (Below.refl _ _)
  cases ha : isMp a
  · exact done 1 (by omega) (orderA_no ha)
  · obtain ⟨x, b, o, hx, rfl, hc, p1, x0, x1⟩ := map_first ha hl h
    by_cases hx1 : x = 1
    · have e := orderA_one ha hx hx1
      have G := Lib.hid e
      rw [e] at C0
      obtain ⟨e1, _⟩ := isMp_parts ha hl
      have HL0 := hl
      subst e1
      have HL := Lib.hid HL0
      clear hl HL0 hx hx1 ha done e
      go_enter Try.func31, Try.ntmps31
      go_wp2_with fail
      refine C0.mono ?_
      rintro e w' ⟨rfl, rfl⟩
      go_wp2_with fail
      refine (l07Exact_any _).mono ?_
      rintro e w1 ⟨A1, c1, rfl, own1, bel1⟩
      have hs1 := bel1.size
      have HR := Lib.hid (h.below bel1 hB)
      have HE : Hid (Row w1 w1.heap.size A1 (ints exactL)) := row_of_own own1
      have B1 := Lib.hid bel1
      clear own1 bel1 hc
      go_wp2_with fail
      refine (l07Agree_any _ A1 c c1 B w1.heap.size a exactL _ HL.out exactL_length (by omega) (Nat.le_refl _) HR.out HE.out).mono ?_
      rintro e w2 ⟨rfl, b2⟩
      have GB := Lib.hid (B1.out.trans (b2.mono hs1))
      clear b2
      go_wp2
      go_ret2
      exact ResI.of' G.out GB.out
    · exact done 5 (by omega) (orderA_not ha hx hx1)
set_option maxHeartbeats 1000000 in
theorem pOrderOfMap_L (A : Option Addr) (n c B : Nat) (a : List Int) (w : World) (hl : a.length = n) (hn : n ≤ 1048576) (hB : B ≤ w.heap.size) (h : Row w B A (ints a)) :
    Calls Try.prog 32 #[.slice A n c] w (ResI (orderA a) w) := by
  have C0 := isMap_any A n c B a w hl (by omega) h
  have C1 := isCharacter_any A n c B a w hl (by omega) h
  cases ha : isMp a
  · have G := Lib.hid (orderA_no ha)
    rw [ha] at C0
    clear hl C1
    go_enter Try.func32, Try.ntmps32
    go_wp2_with fail
    refine C0.mono ?_
    rintro e w' ⟨rfl, rfl⟩
    go_wp2
    go_ret2
    exact ResI.of' G.out (Below.refl _ _)
  · obtain ⟨x, b, o, hx, rfl, hc, p1, x0, x1⟩ := map_first ha hl h
    have hch := isChr_at ha hx
    rw [ha] at C0
    by_cases hx1 : x = 1
    · have G := Lib.hid (orderA_one ha hx hx1)
      rw [hch, decide_eq_true hx1] at C1
      obtain ⟨e1, na⟩ := isMp_parts ha hl
      have HL0 := hl
      subst e1
      have HL := Lib.hid HL0
      have NA := Lib.hid na
      clear hl HL0 hx hx1 ha hch na
      go_enter Try.func32, Try.ntmps32
      go_wp2_with fail
      refine C0.mono ?_
      rintro e w' ⟨rfl, rfl⟩
      go_wp2_with fail
      refine C1.mono ?_
      rintro e w' ⟨rfl, rfl⟩
      go_wp2_with fail
      refine (treeMapOf_any _ c B a _ HL.out NA.out hB h).mono ?_
      rintro e w1 ⟨rfl, b1⟩
      go_wp2_with fail
      refine (exactMap_any _).mono ?_
      rintro e w2 ⟨rfl, b2⟩
      have B2 := Lib.hid (b1.trans (b2.mono b1.size))
      clear b1 b2 hc
      go_wp2_with fail
      refine (agreesTo_any a exactL _ HL.out exactL_length).mono ?_
      rintro e w3 ⟨rfl, b3⟩
      have GB := Lib.hid (B2.out.trans (b3.mono B2.out.size))
      clear b3
      go_wp2
      go_ret2
      exact ResI.of' G.out GB.out
    · have G := Lib.hid (orderA_not ha hx hx1)
      rw [hch, decide_eq_false hx1] at C1
      clear hl hx hx1 hch
      go_enter Try.func32, Try.ntmps32
      go_wp2_with fail
      refine C0.mono ?_
      rintro e w' ⟨rfl, rfl⟩
      go_wp2_with fail
      refine C1.mono ?_
      rintro e w' ⟨rfl, rfl⟩
      go_wp2
      go_ret2
      exact ResI.of' G.out (Below.refl _ _)
end Go.Proofs.Ytignimaimflenaa
