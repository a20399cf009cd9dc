/-
  Maps that are scaled, the program's and the model's.
-/
import Derived.Test.YtmpnhiemfdmenaaMpA
import Derived.Test.YtmpnhiemfdmenaaMpN
import Derived.Test.YtmpnhiemfdmenaaLvl
import Derived.Test.YtmpnhiemfdmenaaResO
namespace Go.Proofs.Ytmpnhiemfdmenaa
open Go.RowKit Fld
set_option linter.unusedVariables false
set_option linter.unusedSimpArgs false
set_option maxRecDepth 100000

set_option maxHeartbeats 2000000 in
theorem l07Scale_any (b0 o0 c B : Nat) (a : List Int) (y : Int) (w : World) (hl : a.length = 38) (ha : allNum a = true) (hB : B ≤ w.heap.size) (h : Row w B (some ⟨b0, o0, none⟩) (ints a)) (y0 : 0 ≤ y) (y1 : y < 10007) :
    Calls Try.prog 77 #[.slice (some ⟨b0, o0, none⟩) 38 c, .int .i64 y] w (NewRow 2 38 (ints (scaleL a y)) w) := by
  obtain ⟨i0, hi, hz0, hz1, hz2⟩ := info_parts info_i64
  have HL := Lib.hid hl
  have NA := Lib.hid ha
  have hTL := Lib.hid (scaleL_length hl y)
  obtain ⟨x, hx⟩ := at_lt (show 0 < a.length by rw [HL.out]; omega)
  obtain ⟨b, o, eb, hbB, hc⟩ := h 0 _ (ints_at hx)
  injection eb with eb
  injection eb with eb1 eb2 _
  subst eb1 eb2
  rw [Nat.add_zero] at hc
  obtain ⟨x0, x1⟩ := num_at NA.out hx
  have T0 := scaleL_at (y := y) hx (show lens[0]? = some 0 from rfl)
  have ep : x * pw y 0 % 10007 = x := by
    have e1 : pw y 0 = 1 := by unfold pw; simp
    rw [e1]; omega
  rw [ep] at T0
  have HST : Hid (ints ((scaleL a y).take (0 + 1)) = [.int .i64 x]) := by
    have := grow_ints T0
    rw [Hid, ← this]; rfl
  have C1 := fun w' => l03All_any 6 w' (by omega) (by omega)
  rw [to_len] at C1
  have HK : Hid (∀ W : World, Below w.heap.size w W → W.cell? ⟨b0, o0, none⟩ = some (.int .i64 x)) := fun W hb => (hb.cell (p := ⟨b0, o0, none⟩) (by show b0 < w.heap.size; omega)).trans hc
  clear hl ha hx T0 ep
  go_enter Try.func77, Try.ntmps77
  go_wp2_with fail
  go_region_held3 (fun w' => w'.cell? ⟨b0, o0, none⟩ = some (.int .i64 x)) (first | go_keep | exact HK.out _ (below_undrew' bel1) | exact HK.out _ bel1 | exact HK.out _ (((Below.refl _ _).alloc (Nat.le_refl _) _).trans ((below_undrew' (a := 1) bel1).mono (by simp))))
    (first
      | (go_at_call 42; refine (C1 _).mono ?_; rintro e w1 ⟨A1, c1, vs1, rfl, own1, bel1⟩))
  case' refine_2.refine_3.refine_3.refine_3.refine_2.refine_1.refine_2.refine_1.refine_2.refine_3.refine_3 =>
    have HLEN : Hid (∀ (k : Nat) (t : List Int), (treesTo 6)[k]? = some t → ∃ (Ak : Option Addr) (ck : Nat), vs1[k]? = some (Value.slice Ak t.length ck)) := fun k t ht => by
      obtain ⟨Ak, ck, e, _⟩ := own1.inner k t ht
      exact ⟨Ak, ck, e⟩
    obtain ⟨g0, hg0⟩ : ∃ g0, g0 = w.heap.size := ⟨_, rfl⟩
    have FO : Hid (w1.ownsRow w.heap.size 2 1 (.slice (some ⟨g0, 0, none⟩) (0 + 1) 1) (0 + 1) (ints ((scaleL a y).take (0 + 1)))) := by
      rw [Hid, HST.out, hg0]
      exact ((OwnR.of (World.ownsRow_lit (base := w.heap.size) (size := 1) (e := 2) w #[.int .i64 x] 1 (Nat.le_refl _) (by simp [maxLen]) rfl)).below (below_undrew' (a := 1) bel1) (Nat.le_refl _)).1
    have FM : Hid (∃ lo hi, OwnR w1 lo hi 24 (.slice A1 37 c1) 37 vs1) := ⟨_, _, own1.outer⟩
    have FB : Hid (Below w.heap.size w w1) := ((Below.refl _ _).alloc (Nat.le_refl _) _).trans ((below_undrew' (a := 1) bel1).mono (by simp))
    rw [← hg0]
    clear own1 bel1 hg0
    obtain ⟨W, hW⟩ : ∃ W, W = w1 := ⟨_, rfl⟩
    rw [← hW] at FO FM FB ⊢
    clear hW
  case' refine_2.refine_3.refine_3.refine_3.refine_1.refine_2.refine_3.refine_1.refine_2.refine_3 =>
    have HLEN : Hid (∀ (k : Nat) (t : List Int), (treesTo 6)[k]? = some t → ∃ (Ak : Option Addr) (ck : Nat), vs1[k]? = some (Value.slice Ak t.length ck)) := fun k t ht => by
      obtain ⟨Ak, ck, e, _⟩ := own1.inner k t ht
      exact ⟨Ak, ck, e⟩
    have hs1 : w.heap.size ≤ w1.heap.size := bel1.size
    have hal : Below w1.heap.size w1 (w1.alloc (.cells #[.int .i64 x] 2)) := (Below.refl _ _).alloc (Nat.le_refl _) _
    have FO : Hid ((w1.alloc (.cells #[.int .i64 x] 2)).ownsRow w.heap.size 2 1 (.slice (some ⟨w1.heap.size, 0, none⟩) (0 + 1) 1) (0 + 1) (ints ((scaleL a y).take (0 + 1)))) := by
      rw [Hid, HST.out]
      exact World.ownsRow_lit (base := w.heap.size) (size := 1) (e := 2) w1 #[.int .i64 x] 1 hs1 (by simp [maxLen]) rfl
    have FM : Hid (∃ lo hi, OwnR (w1.alloc (.cells #[.int .i64 x] 2)) lo hi 24 (.slice A1 37 c1) 37 vs1) := ⟨_, _, own1.outer.below hal (Nat.le_refl _)⟩
    have FB : Hid (Below w.heap.size w (w1.alloc (.cells #[.int .i64 x] 2))) := (below_undrew' (a := 1) bel1).trans (hal.mono hs1)
    clear own1 bel1 hal
    obtain ⟨g0, hg0⟩ : ∃ g0, g0 = w1.heap.size := ⟨_, rfl⟩
    rw [← hg0] at FO ⊢
    clear hg0
    obtain ⟨W, hW⟩ : ∃ W, W = w1.alloc (.cells #[.int .i64 x] 2) := ⟨_, rfl⟩
    rw [← hW] at FO FM FB
    first | rw [← hW] | (change Exit.then _ _ _ _ (w1.alloc (.cells #[.int .i64 x] 2)); rw [← hW])
    clear hW
  all_goals
    clear C1 HST HK x0 x1 hc
    go_wp2_with fail
    go_loopw [6, 7] (fun v i wr => ∃ (k g cap : Nat), k ≤ 37 ∧ v = .slice (some ⟨g, 0, none⟩) (k + 1) cap ∧ i = .int .i64 k ∧ Hid (wr.ownsRow w.heap.size 2 1 (.slice (some ⟨g, 0, none⟩) (k + 1) cap) (k + 1) (ints ((scaleL a y).take (k + 1)))) ∧ Hid (∃ lo hi, OwnR wr lo hi 24 (.slice A1 37 c1) 37 vs1) ∧ Hid (Below w.heap.size w wr)) (fun _ i _ => 37 - (intOf i).toNat)
    case atStart => exact ⟨0, g0, 1, by omega, rfl, rfl, FO, FM, FB⟩
    case round =>
      obtain ⟨k, g, cap, hk, rfl, rfl, HO, HM, HB⟩ := hrel
      by_cases hlt : k < 37
      · obtain ⟨x, hx⟩ := at_lt (show k + 1 < a.length by rw [HL.out]; omega)
        obtain ⟨t, ht⟩ := at_lt (show k < (treesTo 6).length by rw [to_len]; exact hlt)
        have hll := to_at ht
        have l6 := lens_bd _ (List.mem_of_getElem? hll)
        obtain ⟨b, o, eb, _, hcw⟩ := h (k + 1) _ (ints_at hx)
        injection eb with eb
        injection eb with eb1 eb2 _
        subst eb1 eb2
        obtain ⟨x0, x1⟩ := num_at NA.out hx
        obtain ⟨Ak, ck, hv⟩ := HLEN.out k t ht
        obtain ⟨lo9, hi9, hm⟩ := HM.out
        obtain ⟨gm, rfl⟩ := own_addr hm.1 (by omega)
        have hcm := (hm.1.cellAt k (by omega)).trans hv
        have hty := own_types hm.1 HO.out (by decide)
        have hne2 : some gm ≠ Value.ownBlock (.slice (some ⟨g, 0, none⟩) (k + 1) cap) := by
          rcases hty with e | e
          · cases e
          · exact e
        have hgl := (HO.out.lt g rfl)
        have hsz := HB.out.size
        have hcx : wr.cell? ⟨b0, o0 + (k + 1), none⟩ = some (.int .i64 x) := (HB.out.cell (p := ⟨b0, o0 + (k + 1), none⟩) (by show b0 < w.heap.size; omega)).trans hcw
        have TA := scaleL_at (y := y) hx hll
        have C2 := fun w' => l01Pow_any y (t.length : Int) w' y0 y1 (Int.natCast_nonneg _) (by omega)
        rw [Int.toNat_natCast] at C2
        have p0 := pw_lo y t.length
        have p1 := pw_hi y t.length
        obtain ⟨P, hP⟩ : ∃ P : Int, P = pw y t.length := ⟨_, rfl⟩
        rw [← hP] at TA C2 p0 p1
        have C3 := fun w' => l01Mul_any x P w' x0 x1 p0 p1
        obtain ⟨V, hV⟩ : ∃ V : Int, V = x * P % 10007 := ⟨_, rfl⟩
        rw [← hV] at TA C3
        have HD : Hid (ints ((scaleL a y).take (k + 1)) ++ [.int .i64 V] = ints ((scaleL a y).take (k + 1 + 1))) := grow_ints TA
        have HKK : Hid (∀ W' : World, Below wr.heap.size wr W' → W'.cell? ⟨b0, o0 + (k + 1), none⟩ = some (.int .i64 x) ∧ W'.cell? ⟨gm, k, none⟩ = some (.slice Ak t.length ck)) := fun W' hb => ⟨(hb.cell (p := ⟨b0, o0 + (k + 1), none⟩) (World.block_lt_of_cell? wr _ hcx)).trans hcx, (hb.cell (p := ⟨gm, k, none⟩) (World.block_lt_of_cell? wr _ hcm)).trans hcm⟩
        have HOW : Hid (∀ W' : World, Below wr.heap.size wr W' → W'.ownsRow w.heap.size 2 1 (.slice (some ⟨g, 0, none⟩) (k + 1) cap) (k + 1) (ints ((scaleL a y).take (k + 1)))) := fun W' hb => ((OwnR.of HO.out).below hb (Nat.le_refl _)).1
        have HNE : Hid (some b0 ≠ Value.ownBlock (.slice (some ⟨g, 0, none⟩) (k + 1) cap)) := fun e => by
          have h2 : b0 = g := by simpa [Value.ownBlock] using e
          omega
        have HNE' := Lib.hid hne2
        have HMM := Lib.hid hm
        have HBW := Lib.hid HB.out
        have k0 : (0 : Int) ≤ (k : Int) + 1 := by omega
        have k1 : (k : Int) + 1 < 38 := by omega
        have kk0 : (0 : Int) ≤ (k : Int) := Int.natCast_nonneg _
        have kk1 : (k : Int) < 37 := by omega
        have ew : IntKind.i64.wrap ((k : Int) + 1) = (k : Int) + 1 := IntWalk.i64_in _ (by omega)
        have en : ((k : Int) + 1).toNat = k + 1 := by omega
        have hcx2 := hcx
        have hcm2 := hcm
        obtain ⟨tl, htl⟩ : ∃ tl : Nat, tl = t.length := ⟨_, rfl⟩
        rw [← htl] at hcm hcm2 HKK C2 l6
        clear hx ht hll hv hm hty hne2 hcw TA hP hV HO HM HB FO FM FB htl
        go_wp2_with fail
        go_region_held3 (fun w' => w'.cell? ⟨b0, o0 + (k + 1), none⟩ = some (.int .i64 x) ∧ w'.cell? ⟨gm, k, none⟩ = some (.slice Ak tl ck)) (first | go_keep | exact HKK.out _ ((below_drewN (Below.refl _ _) _).alloc (Nat.le_refl _) _) | exact ⟨World.grownBy.cell hgrow3 (HKK.out _ ((below_drewN (Below.refl _ _) _).alloc (Nat.le_refl _) _)).1 HNE.out, World.grownBy.cell hgrow3 (HKK.out _ ((below_drewN (Below.refl _ _) _).alloc (Nat.le_refl _) _)).2 HNE'.out⟩)
          (first
            | (go_at_call 98; refine (C2 _).mono ?_; rintro e w2 ⟨rfl, rfl⟩)
            | (go_at_call 44; refine (C3 _).mono ?_; rintro e w2 ⟨rfl, rfl⟩)
            | (refine step_append_lies _ (by rfl) _ _ _ (by rfl) w.heap.size 2 i0 _ 1 8 Try.underlying24 hi hz0 hz1 hz2 rfl (by omega) (.slice (some ⟨g, 0, none⟩) (k + 1) cap) (k + 1) (ints ((scaleL a y).take (k + 1))) (by rfl) (HOW.out _ (by exact (below_drewN (Below.refl _ _) _).alloc (Nat.le_refl _) _)) ⟨wr.heap.size, 0, none⟩ 1 1 [.int .i64 V] (by rfl) (by rfl) (World.news_of_block (cs := #[.int .i64 V]) (heap_alloc_new _ _)) (by simp [Value.oneCell']) (by omega) (by simp only [maxLen]; omega) (by omega) (by simp; omega) (wr.heap.size + 1) (by simp) ?_; intro g3 cap3 w3 hown3 hgrow3 hat3 hlt3))
        have hown3' := hown3
        rw [HD.out] at hown3'
        have GO := Lib.hid hown3'
        have GM : Hid (∃ lo hi, OwnR w3 lo hi 24 (.slice (some ⟨gm, 0, none⟩) 37 c1) 37 vs1) := ⟨lo9, wr.heap.size, ((OwnR.of HMM.out.1).below ((below_drewN (Below.refl _ _) _).alloc (Nat.le_refl _) _) (Nat.le_refl _)).grown hgrow3 (.inr HNE'.out)⟩
        have GB : Hid (Below w.heap.size w w3) := (HBW.out.trans (((below_drewN (Below.refl wr.heap.size wr) _).alloc (Nat.le_refl _) _).mono hsz)).grown hgrow3 (by simp; omega) (fun z hz => by have : g = z := (by simpa [Value.ownBlock] using hz); omega)
        clear hown3 hown3' hgrow3 hat3
        go_wp2
        go_roundw
        case rel => exact ⟨k + 1, g3, cap3, by omega, rfl, by go_num, GO, GM, GB⟩
        case measure => simp [intOf]; omega
      · obtain rfl : k = 37 := by omega
        have GO : Hid (wr.ownsRow w.heap.size 2 1 (.slice (some ⟨g, 0, none⟩) 38 cap) 38 (ints (scaleL a y))) := by
          have := HO.out
          rw [List.take_of_length_le (by rw [hTL.out]; omega)] at this
          exact this
        clear HO HM
        go_wp2
        go_ret
        exact ⟨_, _, rfl, GO.out, HB.out⟩
end Go.Proofs.Ytmpnhiemfdmenaa
