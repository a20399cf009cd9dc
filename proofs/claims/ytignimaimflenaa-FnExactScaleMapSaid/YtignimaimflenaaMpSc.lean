/-
  Maps that are scaled, the program's and the model's.
-/
import Derived.Test.YtignimaimflenaaMpA
import Derived.Test.YtignimaimflenaaMpTr
import Derived.Test.YtignimaimflenaaMpN
import Derived.Test.YtignimaimflenaaLvl
import Derived.Test.YtignimaimflenaaResO
namespace Go.Proofs.Ytignimaimflenaa
open Go.RowKit Fld
set_option linter.unusedVariables false
set_option linter.unusedSimpArgs false
set_option maxRecDepth 100000

set_option maxHeartbeats 2000000 in
theorem pScaleMap_L (A : Option Addr) (n c B : Nat) (a : List Int) (y : Int) (w : World) (hl : a.length = n) (hn : n ≤ 1048576) (hB : B ≤ w.heap.size) (h : Row w B A (ints a)) (hy : -9223372036854775808 ≤ y ∧ y ≤ 9223372036854775807) :
    Calls Try.prog 30 #[.slice A n c, .int .i64 y] w (ResL (scaleMA a y) w) := by
  have C0 := isMap_any A n c B a w hl (by omega) h
  cases ha : isMp a
  · have G := Lib.hid (scaleMA_no (y := y) ha)
    rw [ha] at C0
    clear hl
    go_enter Try.func30, Try.ntmps30
    go_wp2_with fail
    refine C0.mono ?_
    rintro e w' ⟨rfl, rfl⟩
    go_wp2
    go_ret2
    exact ResL.nil G.out (Below.refl _ _)
  · obtain ⟨e1, na⟩ := isMp_parts ha hl
    rw [ha] at C0
    have HL0 := hl
    subst e1
    have HL := Lib.hid HL0
    have NA := Lib.hid na
    by_cases hyy : 0 ≤ y ∧ y < 10007
    · have G := Lib.hid (scaleMA_yes ha hyy)
      have HN := isNum_iff.2 hyy
      obtain ⟨y0, y6⟩ := hyy
      have hTL := Lib.hid (scaleL_length HL0 y)
      clear hl ha na HL0
      go_enter Try.func30, Try.ntmps30
      go_wp2_with fail
      refine C0.mono ?_
      rintro e w' ⟨rfl, rfl⟩
      go_wp2_with fail
      refine (isNumber_any _ _).mono ?_
      rintro e w' ⟨rfl, rfl⟩
      rw [HN]
      go_wp2_with fail
      refine (treeMapOf_any A c B a _ HL.out NA.out hB h).mono ?_
      rintro e w1 ⟨rfl, b1⟩
      have hs1 := b1.size
      go_wp2_with (refine wpList_store_row rfl 52 (.tmp 6) (.tmp 16) rfl w1.heap.size (arrM a) rfl rfl 52 (arrM zero38) (ArrM.new w1 zero38) (by rw [arrM_size HL.out]; exact info_arrM) (by rw [arrM_size HL.out]; rfl) (arrM_cells _) ?_)
      refine (mapTrees_any _).mono ?_
      rintro e w2 ⟨A2, c2, rfl, own2, bel2⟩
      have FX0 : ArrM ((w1.alloc (.cells (arrM zero38) 52)).setRow w1.heap.size (arrM a)) w1.heap.size a := setRow_heap _ _ _ _ _ _ (ArrM.new w1 zero38)
      have FX := Lib.hid (FX0.below bel2 (by simp [World.setRow]))
      have FB : Hid (Below w.heap.size w w2) := (below_setRow (b1.alloc hs1 (.cells (arrM zero38) 52)) hs1 (arrM a)).trans (bel2.mono (by simp [World.setRow]; omega))
      obtain ⟨g2, rfl⟩ := own_addr own2 (by omega)
      have hg2 : w1.heap.size < g2 := by have := (own2.lt g2 rfl).1; simp [World.setRow] at this; omega
      have FT := Lib.hid (strs_cell (row_of_own own2))
      clear own2 bel2 FX0 b1 C0
      go_wp2_with fail
      go_loopw [19] (fun i wr => ∃ k : Nat, k ≤ 38 ∧ i = .int .i64 k ∧ Hid (ArrM wr w1.heap.size ((scaleL a y).take k ++ a.drop k)) ∧ Hid (∀ k t, mapTx[k]? = some t → wr.cell? ⟨g2, k, none⟩ = some (.string ⟨t.toArray⟩)) ∧ Hid (Below w.heap.size w wr)) (fun i _ => 38 - (intOf i).toNat)
      case atStart => exact ⟨0, by omega, rfl, FX, FT, FB⟩
      case round =>
        obtain ⟨k, hk, rfl, HX, HT, HB⟩ := hrel
        by_cases hlt : k < 38
        · obtain ⟨x, hx⟩ := at_lt (show k < a.length by rw [HL.out]; exact hlt)
          obtain ⟨l, hll, l6⟩ := lens_at hlt
          obtain ⟨t, ht, htl⟩ := mapTx_at hll
          have hct := HT.out k t ht
          have hc := HX.out.cell (mixM_at (us := scaleL a y) (by rw [hTL.out, HL.out]) hx)
          have hf := HX.out.free k
          have htl2 : t.length / 2 = l := by omega
          have C1 := fun w' => nodes_any t w' (by omega)
          rw [htl2] at C1
          have k0 : (0 : Int) ≤ (k : Int) := Int.natCast_nonneg _
          have k1 : (k : Int) < 38 := by omega
          obtain ⟨X, hX⟩ : ∃ X : ByteArray, X = ⟨t.toArray⟩ := ⟨_, rfl⟩
          rw [← hX] at hct C1
          obtain ⟨x0, x1⟩ := num_at NA.out hx
          have TA := scaleL_at (y := y) hx hll
          have C2 := fun w' => power_any y (l : Int) w' y0 y6 (Int.natCast_nonneg _) (by omega)
          rw [Int.toNat_natCast] at C2
          have p0 := pw_lo y l
          have p1 := pw_hi y l
          obtain ⟨P, hP⟩ : ∃ P : Int, P = pw y l := ⟨_, rfl⟩
          rw [← hP] at TA C2 p0 p1
          have C3 := fun w' => times_any x P w' x0 x1 p0 p1
          obtain ⟨V, hV⟩ : ∃ V : Int, V = x * P % 10007 := ⟨_, rfl⟩
          rw [← hV] at TA C3
          have GX : Hid (ArrM (wr.setCell ⟨w1.heap.size, k, none⟩ (.int .i64 V)) w1.heap.size ((scaleL a y).take (k + 1) ++ a.drop (k + 1))) := by
            have := HX.out.store (k := k) V
            rw [mixM_step (by rw [HL.out]; exact hlt) (by rw [hTL.out, HL.out]) TA] at this
            exact this
          have GT : Hid (∀ j t, mapTx[j]? = some t → (wr.setCell ⟨w1.heap.size, k, none⟩ (.int .i64 V)).cell? ⟨g2, j, none⟩ = some (.string ⟨t.toArray⟩)) := fun j t ht => cell_other (HT.out j t ht) (by omega)
          have GB : Hid (Below w.heap.size w (wr.setCell ⟨w1.heap.size, k, none⟩ (.int .i64 V))) := below_set HB.out hs1 _
          clear hx hll ht htl htl2 hX TA HX HT HB FX FT FB hP hV
          go_wp2_with fail
          refine wp_region_still_tail 9 (by kernel_rfl) (by kernel_rfl) ?_
          simp only [List.take_succ_cons, List.take_zero, List.drop_succ_cons, List.drop_zero]
          repeat still_step
          refine wpStill_step (fun K hK => ?_)
          go_simp
          refine ⟨_, stillCM (C1 _), hK _ ?_⟩
          clear hK K
          repeat still_step
          refine wpStill_step (fun K hK => ?_)
          go_simp
          refine ⟨_, stillCM (C2 _), hK _ ?_⟩
          clear hK K
          repeat still_step
          refine wpStill_step (fun K hK => ?_)
          go_simp
          refine ⟨_, stillCM (C3 _), hK _ ?_⟩
          clear hK K
          repeat still_step
          refine wpStill_nil ?_
          change wpList _ _ _ _ _ wr.drew
          go_wp2
          go_roundw
          case rel => exact ⟨k + 1, by omega, by go_num, GX.out.drewN 1, GT.out, below_drewN GB.out 1⟩
          case measure => simp [intOf]; omega
        · obtain rfl : k = 38 := by omega
          have GX : Hid (ArrM wr w1.heap.size (scaleL a y)) := by
            have := HX.out
            rw [mixM_end hTL.out HL.out] at this
            exact this
          clear HX FX FT FB HT
          go_wp2_with (refine wpList_load_row rfl 52 (.tmp 6) rfl w1.heap.size rfl 52 (arrM (scaleL a y)) (0, 0) _ GX.out Try.underlying52 rfl (by rw [arrM_size hTL.out]; exact info_arrM) ?_)
          refine (listM_any (scaleL a y) _ hTL.out).mono ?_
          rintro e w4 ⟨A4, c4, rfl, own4, bel4⟩
          have N := Lib.hid (NewRow.after HB.out ⟨A4, c4, rfl, own4, bel4⟩)
          clear own4 bel4
          go_wp2
          go_ret2
          obtain ⟨A5, c5, e5, own5, b5⟩ := N.out
          cases e5
          exact ResL.of G.out hTL.out (by omega) own5 b5
    · have G := Lib.hid (scaleMA_out ha hyy)
      have HN := isNum_no.2 (show y < 0 ∨ 10007 ≤ y by omega)
      clear hl HL0
      go_enter Try.func30, Try.ntmps30
      go_wp2_with fail
      refine C0.mono ?_
      rintro e w' ⟨rfl, rfl⟩
      go_wp2_with fail
      refine (isNumber_any _ _).mono ?_
      rintro e w' ⟨rfl, rfl⟩
      rw [HN]
      go_wp2
      go_ret2
      exact ResL.nil G.out (Below.refl _ _)
set_option maxHeartbeats 2000000 in
theorem l07Scale_any (b0 o0 c B : Nat) (a : List Int) (y : Int) (w : World) (hl : a.length = 38) (ha : allNum a = true) (hB : B ≤ w.heap.size) (h : Row w B (some ⟨b0, o0, none⟩) (ints a)) (y0 : 0 ≤ y) (y1 : y < 10007) :
    Calls Try.prog 60 #[.slice (some ⟨b0, o0, none⟩) 38 c, .int .i64 y] w (NewRow 2 38 (ints (scaleL a y)) w) := by
  obtain ⟨i0, hi, hz0, hz1, hz2⟩ := info_parts info_i64
  have HL := Lib.hid hl
  have NA := Lib.hid ha
  have hTL := Lib.hid (scaleL_length hl y)
  obtain ⟨x, hx⟩ := at_lt (show 0 < a.length by rw [HL.out]; omega)
  obtain ⟨b, o, eb, hbB, hc⟩ := h 0 _ (ints_at hx)
  injection eb with eb
  injection eb with eb1 eb2 _
  subst eb1 eb2
  rw [Nat.add_zero] at hc
  obtain ⟨x0, x1⟩ := num_at NA.out hx
  have T0 := scaleL_at (y := y) hx (show lens[0]? = some 0 from rfl)
  have ep : x * pw y 0 % 10007 = x := by
    have e1 : pw y 0 = 1 := by unfold pw; simp
    rw [e1]; omega
  rw [ep] at T0
  have HST : Hid (ints ((scaleL a y).take (0 + 1)) = [.int .i64 x]) := by
    have := grow_ints T0
    rw [Hid, ← this]; rfl
  have C1 := fun w' => l03All_any 6 w' (by omega) (by omega)
  rw [to_len] at C1
  have HK : Hid (∀ W : World, Below w.heap.size w W → W.cell? ⟨b0, o0, none⟩ = some (.int .i64 x)) := fun W hb => (hb.cell (p := ⟨b0, o0, none⟩) (by show b0 < w.heap.size; omega)).trans hc
  clear hl ha hx T0 ep
  go_enter Try.func60, Try.ntmps60
  go_wp2_with fail
  go_region_held3 (fun w' => w'.cell? ⟨b0, o0, none⟩ = some (.int .i64 x)) (first | go_keep | exact HK.out _ (below_undrew' bel1) | exact HK.out _ bel1 | exact HK.out _ (((Below.refl _ _).alloc (Nat.le_refl _) _).trans ((below_undrew' (a := 1) bel1).mono (by simp))))
    (first
      | (go_at_call 56; refine (C1 _).mono ?_; rintro e w1 ⟨A1, c1, vs1, rfl, own1, bel1⟩))
  case' refine_2.refine_3.refine_3.refine_3.refine_2.refine_1.refine_2.refine_1.refine_2.refine_3.refine_3 =>
    have HLEN : Hid (∀ (k : Nat) (t : List Int), (treesTo 6)[k]? = some t → ∃ (Ak : Option Addr) (ck : Nat), vs1[k]? = some (Value.slice Ak t.length ck)) := fun k t ht => by
      obtain ⟨Ak, ck, e, _⟩ := own1.inner k t ht
      exact ⟨Ak, ck, e⟩
    obtain ⟨g0, hg0⟩ : ∃ g0, g0 = w.heap.size := ⟨_, rfl⟩
    have FO : Hid (w1.ownsRow w.heap.size 2 1 (.slice (some ⟨g0, 0, none⟩) (0 + 1) 1) (0 + 1) (ints ((scaleL a y).take (0 + 1)))) := by
      rw [Hid, HST.out, hg0]
      exact ((OwnR.of (World.ownsRow_lit (base := w.heap.size) (size := 1) (e := 2) w #[.int .i64 x] 1 (Nat.le_refl _) (by simp [maxLen]) rfl)).below (below_undrew' (a := 1) bel1) (Nat.le_refl _)).1
    have FM : Hid (∃ lo hi, OwnR w1 lo hi 22 (.slice A1 37 c1) 37 vs1) := ⟨_, _, own1.outer⟩
    have FB : Hid (Below w.heap.size w w1) := ((Below.refl _ _).alloc (Nat.le_refl _) _).trans ((below_undrew' (a := 1) bel1).mono (by simp))
    rw [← hg0]
    clear own1 bel1 hg0
    obtain ⟨W, hW⟩ : ∃ W, W = w1 := ⟨_, rfl⟩
    rw [← hW] at FO FM FB ⊢
    clear hW
  case' refine_2.refine_3.refine_3.refine_3.refine_1.refine_2.refine_3.refine_1.refine_2.refine_3 =>
    have HLEN : Hid (∀ (k : Nat) (t : List Int), (treesTo 6)[k]? = some t → ∃ (Ak : Option Addr) (ck : Nat), vs1[k]? = some (Value.slice Ak t.length ck)) := fun k t ht => by
      obtain ⟨Ak, ck, e, _⟩ := own1.inner k t ht
      exact ⟨Ak, ck, e⟩
    have hs1 : w.heap.size ≤ w1.heap.size := bel1.size
    have hal : Below w1.heap.size w1 (w1.alloc (.cells #[.int .i64 x] 2)) := (Below.refl _ _).alloc (Nat.le_refl _) _
    have FO : Hid ((w1.alloc (.cells #[.int .i64 x] 2)).ownsRow w.heap.size 2 1 (.slice (some ⟨w1.heap.size, 0, none⟩) (0 + 1) 1) (0 + 1) (ints ((scaleL a y).take (0 + 1)))) := by
      rw [Hid, HST.out]
      exact World.ownsRow_lit (base := w.heap.size) (size := 1) (e := 2) w1 #[.int .i64 x] 1 hs1 (by simp [maxLen]) rfl
    have FM : Hid (∃ lo hi, OwnR (w1.alloc (.cells #[.int .i64 x] 2)) lo hi 22 (.slice A1 37 c1) 37 vs1) := ⟨_, _, own1.outer.below hal (Nat.le_refl _)⟩
    have FB : Hid (Below w.heap.size w (w1.alloc (.cells #[.int .i64 x] 2))) := (below_undrew' (a := 1) bel1).trans (hal.mono hs1)
    clear own1 bel1 hal
    obtain ⟨g0, hg0⟩ : ∃ g0, g0 = w1.heap.size := ⟨_, rfl⟩
    rw [← hg0] at FO ⊢
    clear hg0
    obtain ⟨W, hW⟩ : ∃ W, W = w1.alloc (.cells #[.int .i64 x] 2) := ⟨_, rfl⟩
    rw [← hW] at FO FM FB
    first | rw [← hW] | (change Exit.then _ _ _ _ (w1.alloc (.cells #[.int .i64 x] 2)); rw [← hW])
    clear hW
  all_goals
    clear C1 HST HK x0 x1 hc
    go_wp2_with fail
    go_loopw [6, 7] (fun v i wr => ∃ (k g cap : Nat), k ≤ 37 ∧ v = .slice (some ⟨g, 0, none⟩) (k + 1) cap ∧ i = .int .i64 k ∧ Hid (wr.ownsRow w.heap.size 2 1 (.slice (some ⟨g, 0, none⟩) (k + 1) cap) (k + 1) (ints ((scaleL a y).take (k + 1)))) ∧ Hid (∃ lo hi, OwnR wr lo hi 22 (.slice A1 37 c1) 37 vs1) ∧ Hid (Below w.heap.size w wr)) (fun _ i _ => 37 - (intOf i).toNat)
    case atStart => exact ⟨0, g0, 1, by omega, rfl, rfl, FO, FM, FB⟩
    case round =>
      obtain ⟨k, g, cap, hk, rfl, rfl, HO, HM, HB⟩ := hrel
      by_cases hlt : k < 37
      · obtain ⟨x, hx⟩ := at_lt (show k + 1 < a.length by rw [HL.out]; omega)
        obtain ⟨t, ht⟩ := at_lt (show k < (treesTo 6).length by rw [to_len]; exact hlt)
        have hll := to_at ht
        have l6 := lens_bd _ (List.mem_of_getElem? hll)
        obtain ⟨b, o, eb, _, hcw⟩ := h (k + 1) _ (ints_at hx)
        injection eb with eb
        injection eb with eb1 eb2 _
        subst eb1 eb2
        obtain ⟨x0, x1⟩ := num_at NA.out hx
        obtain ⟨Ak, ck, hv⟩ := HLEN.out k t ht
        obtain ⟨lo9, hi9, hm⟩ := HM.out
        obtain ⟨gm, rfl⟩ := own_addr hm.1 (by omega)
        have hcm := (hm.1.cellAt k (by omega)).trans hv
        have hty := own_types hm.1 HO.out (by decide)
        have hne2 : some gm ≠ Value.ownBlock (.slice (some ⟨g, 0, none⟩) (k + 1) cap) := by
          rcases hty with e | e
          · cases e
          · exact e
        have hgl := (HO.out.lt g rfl)
        have hsz := HB.out.size
        have hcx : wr.cell? ⟨b0, o0 + (k + 1), none⟩ = some (.int .i64 x) := (HB.out.cell (p := ⟨b0, o0 + (k + 1), none⟩) (by show b0 < w.heap.size; omega)).trans hcw
        have TA := scaleL_at (y := y) hx hll
        have C2 := fun w' => l01Pow_any y (t.length : Int) w' y0 y1 (Int.natCast_nonneg _) (by omega)
        rw [Int.toNat_natCast] at C2
        have p0 := pw_lo y t.length
        have p1 := pw_hi y t.length
        obtain ⟨P, hP⟩ : ∃ P : Int, P = pw y t.length := ⟨_, rfl⟩
        rw [← hP] at TA C2 p0 p1
        have C3 := fun w' => l01Mul_any x P w' x0 x1 p0 p1
        obtain ⟨V, hV⟩ : ∃ V : Int, V = x * P % 10007 := ⟨_, rfl⟩
        rw [← hV] at TA C3
        have HD : Hid (ints ((scaleL a y).take (k + 1)) ++ [.int .i64 V] = ints ((scaleL a y).take (k + 1 + 1))) := grow_ints TA
        have HKK : Hid (∀ W' : World, Below wr.heap.size wr W' → W'.cell? ⟨b0, o0 + (k + 1), none⟩ = some (.int .i64 x) ∧ W'.cell? ⟨gm, k, none⟩ = some (.slice Ak t.length ck)) := fun W' hb => ⟨(hb.cell (p := ⟨b0, o0 + (k + 1), none⟩) (World.block_lt_of_cell? wr _ hcx)).trans hcx, (hb.cell (p := ⟨gm, k, none⟩) (World.block_lt_of_cell? wr _ hcm)).trans hcm⟩
        have HOW : Hid (∀ W' : World, Below wr.heap.size wr W' → W'.ownsRow w.heap.size 2 1 (.slice (some ⟨g, 0, none⟩) (k + 1) cap) (k + 1) (ints ((scaleL a y).take (k + 1)))) := fun W' hb => ((OwnR.of HO.out).below hb (Nat.le_refl _)).1
        have HNE : Hid (some b0 ≠ Value.ownBlock (.slice (some ⟨g, 0, none⟩) (k + 1) cap)) := fun e => by
          have h2 : b0 = g := by simpa [Value.ownBlock] using e
          omega
        have HNE' := Lib.hid hne2
        have HMM := Lib.hid hm
        have HBW := Lib.hid HB.out
        have k0 : (0 : Int) ≤ (k : Int) + 1 := by omega
        have k1 : (k : Int) + 1 < 38 := by omega
        have kk0 : (0 : Int) ≤ (k : Int) := Int.natCast_nonneg _
        have kk1 : (k : Int) < 37 := by omega
        have ew : IntKind.i64.wrap ((k : Int) + 1) = (k : Int) + 1 := IntWalk.i64_in _ (by omega)
        have en : ((k : Int) + 1).toNat = k + 1 := by omega
        have hcx2 := hcx
        have hcm2 := hcm
        obtain ⟨tl, htl⟩ : ∃ tl : Nat, tl = t.length := ⟨_, rfl⟩
        rw [← htl] at hcm hcm2 HKK C2 l6
        clear hx ht hll hv hm hty hne2 hcw TA hP hV HO HM HB FO FM FB htl
        go_wp2_with fail
        go_region_held3 (fun w' => w'.cell? ⟨b0, o0 + (k + 1), none⟩ = some (.int .i64 x) ∧ w'.cell? ⟨gm, k, none⟩ = some (.slice Ak tl ck)) (first | go_keep | exact HKK.out _ ((below_drewN (Below.refl _ _) _).alloc (Nat.le_refl _) _) | exact ⟨World.grownBy.cell hgrow3 (HKK.out _ ((below_drewN (Below.refl _ _) _).alloc (Nat.le_refl _) _)).1 HNE.out, World.grownBy.cell hgrow3 (HKK.out _ ((below_drewN (Below.refl _ _) _).alloc (Nat.le_refl _) _)).2 HNE'.out⟩)
          (first
            | (go_at_call 94; refine (C2 _).mono ?_; rintro e w2 ⟨rfl, rfl⟩)
            | (go_at_call 93; refine (C3 _).mono ?_; rintro e w2 ⟨rfl, rfl⟩)
            | (refine step_append_lies _ (by rfl) _ _ _ (by rfl) w.heap.size 2 i0 _ 1 8 Try.underlying22 hi hz0 hz1 hz2 rfl (by omega) (.slice (some ⟨g, 0, none⟩) (k + 1) cap) (k + 1) (ints ((scaleL a y).take (k + 1))) (by rfl) (HOW.out _ (by exact (below_drewN (Below.refl _ _) _).alloc (Nat.le_refl _) _)) ⟨wr.heap.size, 0, none⟩ 1 1 [.int .i64 V] (by rfl) (by rfl) (World.news_of_block (cs := #[.int .i64 V]) (heap_alloc_new _ _)) (by simp [Value.oneCell']) (by omega) (by simp only [maxLen]; omega) (by omega) (by simp; omega) (wr.heap.size + 1) (by simp) ?_; intro g3 cap3 w3 hown3 hgrow3 hat3 hlt3))
        have hown3' := hown3
        rw [HD.out] at hown3'
        have GO := Lib.hid hown3'
        have GM : Hid (∃ lo hi, OwnR w3 lo hi 22 (.slice (some ⟨gm, 0, none⟩) 37 c1) 37 vs1) := ⟨lo9, wr.heap.size, ((OwnR.of HMM.out.1).below ((below_drewN (Below.refl _ _) _).alloc (Nat.le_refl _) _) (Nat.le_refl _)).grown hgrow3 (.inr HNE'.out)⟩
        have GB : Hid (Below w.heap.size w w3) := (HBW.out.trans (((below_drewN (Below.refl wr.heap.size wr) _).alloc (Nat.le_refl _) _).mono hsz)).grown hgrow3 (by simp; omega) (fun z hz => by have : g = z := (by simpa [Value.ownBlock] using hz); omega)
        clear hown3 hown3' hgrow3 hat3
        go_wp2
        go_roundw
        case rel => exact ⟨k + 1, g3, cap3, by omega, rfl, by go_num, GO, GM, GB⟩
        case measure => simp [intOf]; omega
      · obtain rfl : k = 37 := by omega
        have GO : Hid (wr.ownsRow w.heap.size 2 1 (.slice (some ⟨g, 0, none⟩) 38 cap) 38 (ints (scaleL a y))) := by
          have := HO.out
          rw [List.take_of_length_le (by rw [hTL.out]; omega)] at this
          exact this
        clear HO HM
        go_wp2
        go_ret
        exact ⟨_, _, rfl, GO.out, HB.out⟩
set_option maxHeartbeats 1000000 in
theorem sScaleMap_L (A : Option Addr) (n c B : Nat) (a : List Int) (y : Int) (w : World) (hl : a.length = n) (hn : n ≤ 1048576) (hB : B ≤ w.heap.size) (h : Row w B A (ints a)) (hy : -9223372036854775808 ≤ y ∧ y ≤ 9223372036854775807) :
    Calls Try.prog 29 #[.slice A n c, .int .i64 y] w (ResL (scaleMA a y) w) := by
  have C0 := l07Is_any A n c B a w hl (by omega) h
  cases ha : isMp a
  · have G := Lib.hid (scaleMA_no (y := y) ha)
    rw [ha] at C0
    clear hl
    go_enter Try.func29, Try.ntmps29
    go_wp2_with fail
    refine C0.mono ?_
    rintro e w' ⟨rfl, rfl⟩
    go_wp2
    go_ret2
    exact ResL.nil G.out (Below.refl _ _)
  · obtain ⟨x0, b0, o0, hx0, rfl, _, _, _, _⟩ := map_first ha hl h
    obtain ⟨e1, na⟩ := isMp_parts ha hl
    rw [ha] at C0
    have HL0 := hl
    subst e1
    have HL := Lib.hid HL0
    have NA := Lib.hid na
    by_cases hyy : 0 ≤ y ∧ y < 10007
    · have G := Lib.hid (scaleMA_yes ha hyy)
      have T := isIn_yes (n := y) (l := 0) (h := 10006) hyy.1 (by omega)
      obtain ⟨y0, y6⟩ := hyy
      have hTL := Lib.hid (scaleL_length HL0 y)
      clear hl ha na HL0 hx0
      go_enter Try.func29, Try.ntmps29
      go_wp2_with fail
      refine C0.mono ?_
      rintro e w' ⟨rfl, rfl⟩
      go_wp2_with fail
      refine (l01In_any _ _ _ _).mono ?_
      rintro e w' ⟨rfl, rfl⟩
      rw [T]
      go_wp2_with fail
      refine (l07Scale_any b0 o0 c B a y _ HL.out NA.out hB h y0 y6).mono ?_
      rintro e w1 ⟨A1, c1, rfl, own1, bel1⟩
      have N := Lib.hid (ResL.of G.out hTL.out (by omega) own1 bel1)
      clear own1 bel1
      go_wp2
      go_ret2
      exact N.out
    · have G := Lib.hid (scaleMA_out ha hyy)
      have T := isIn_no (n := y) (l := 0) (h := 10006) (by omega)
      clear hl HL0
      go_enter Try.func29, Try.ntmps29
      go_wp2_with fail
      refine C0.mono ?_
      rintro e w' ⟨rfl, rfl⟩
      go_wp2_with fail
      refine (l01In_any _ _ _ _).mono ?_
      rintro e w' ⟨rfl, rfl⟩
      rw [T]
      go_wp2
      go_ret2
      exact ResL.nil G.out (Below.refl _ _)
end Go.Proofs.Ytignimaimflenaa
