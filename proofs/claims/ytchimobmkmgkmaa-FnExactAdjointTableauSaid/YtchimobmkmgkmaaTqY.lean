/-
  The model's inverse of a tableau.
-/
import Derived.Test.YtchimobmkmgkmaaTqZ
namespace Go.Proofs.Ytchimobmkmgkmaa
open Go.RowKit Fld Ser
set_option linter.unusedVariables false
set_option linter.unusedSimpArgs false
set_option maxRecDepth 100000

set_option maxHeartbeats 8000000 in
theorem l10Inverse_any (A D : Option Addr) (n c n' d B B' : Nat) (m : List (List Int)) (b : List Int) (w : World) (hl : m.length = n) (hl' : b.length = n') (hn : n ≤ 8) (hn' : n' ≤ 8) (hw : ∀ r ∈ m, r.length = n') (hnum : ∀ r ∈ m, allNum r = true) (hnb : allNum b = true) (hB : B ≤ w.heap.size) (hB' : B' ≤ w.heap.size) (h : Mat w B A m) (r : Row w B' D (ints b)) :
    Calls Try.prog 68 #[.agg #[.slice A n c, .slice D n' d]] w (NewF n n' (invM m b) (negL b) w) := by
  obtain ⟨j0, hj, hy0, hy1, hy2⟩ := info_parts info_row
  obtain ⟨W0, hW0⟩ : ∃ W0, W0 = (w.alloc (.cells #[.slice A n c, .slice D n' d] 27)).alloc (.cells #[.slice none 0 0, .slice none 0 0] 27) := ⟨_, rfl⟩
  have FB : Below w.heap.size w W0 := by rw [hW0]; exact ((Below.refl _ _).alloc (Nat.le_refl _) _).alloc (by simp) _
  have FS : W0.heap.size = w.heap.size + 2 := by rw [hW0]; simp
  have F1 : Bx W0 w.heap.size 27 (.slice A n c) (.slice D n' d) := by
    rw [hW0]; exact (Bx.new w _ _ _).next ((Below.refl _ _).alloc (Nat.le_refl _) _)
  have F2 : Bx W0 (w.heap.size + 1) 27 (.slice none 0 0) (.slice none 0 0) := by
    rw [hW0]; have := Bx.new (w.alloc (.cells #[.slice A n c, .slice D n' d] 27)) 27 (.slice none 0 0) (.slice none 0 0); simpa using this
  have HL := Lib.hid hl
  have HL' := Lib.hid hl'
  have HM := Lib.hid (h.below FB hB)
  have HR := Lib.hid (r.below FB hB')
  have HF1 := Lib.hid F1
  have HF2 := Lib.hid F2
  have HB := Lib.hid FB
  have HS := Lib.hid FS
  have HW := Lib.hid hw
  have HN := Lib.hid hnum
  have HNB := Lib.hid hnb
  have hs0 : B ≤ W0.heap.size := by rw [FS]; omega
  have hs1 : B' ≤ W0.heap.size := by rw [FS]; omega
  have q1 := F1.c1
  clear hl hl' h r F1 F2 FB FS hw hnum hnb
  go_enter Try.func68, Try.ntmps68
  go_wp2_with fail
  rw [← hW0]
  clear hW0
  refine (l02Times_any D n' d B' b 10006 W0 HL'.out (by omega) HNB.out (by omega) (by omega) hs1 HR.out).mono ?_
  rintro e w2 ⟨D2, d2, rfl, own2, b2⟩
  rw [scaleL_cl HL'.out, negL_scale] at own2
  have HRD := Lib.hid (row_of_own own2)
  have HD2 := Lib.hid (RowF.of_own own2)
  have hd2 := (own_cap own2).1
  have HB2 := Lib.hid b2
  have hz2 := b2.size
  obtain ⟨Wz, hWz⟩ : ∃ Wz, Wz = w2.alloc (.cells #[.slice none 0 0, .slice D2 n' d2] 27) := ⟨_, rfl⟩
  have Z0 : ZK w2.heap.size Wz.heap.size 0 none 0 [] [] (.slice D2 n' d2) Wz := by rw [hWz]; exact (ZK.start w2 (.slice D2 n' d2)).up
  have hzb : Below w2.heap.size w2 Wz := by rw [hWz]; exact (Below.refl _ _).alloc (Nat.le_refl _) _
  have HBZ := Lib.hid (HB2.out.trans (hzb.mono hz2))
  have HZZ := Lib.hid hzb
  obtain ⟨zb, hzbe⟩ : ∃ zb, zb = w2.heap.size := ⟨_, rfl⟩
  have hzb0 : W0.heap.size ≤ zb := by omega
  clear own2 b2 q1 hzb
  go_wp2_with fail
  rw [← hWz]
  clear hWz
  have HZB : Hid (Below zb w2 Wz) := by rw [hzbe]; exact HZZ.out
  rw [← hzbe] at Z0 ⊢
  have HZE := Lib.hid hzbe
  clear hzbe HZZ
  go_loopw [4] (fun i wr => ∃ (k : Nat) (A9 : Option Addr) (c9 : Nat) (vs : List Value), k ≤ n ∧ i = .int .i64 k ∧ Hid (ZK zb wr.heap.size k A9 c9 ((invM m b).take k) vs (.slice D2 n' d2) wr) ∧ Hid (Below zb Wz wr)) (fun i _ => n - (intOf i).toNat)
  case atStart => exact ⟨0, none, 0, [], Nat.zero_le _, rfl, Z0, Below.refl _ _⟩
  case round =>
    obtain ⟨k, A9, c9, vs, hk, rfl, HZ, HBe⟩ := hrel
    have HBW : Hid (Below W0.heap.size W0 wr) := HBZ.out.trans (HBe.out.mono hzb0)
    have hzr := HBW.out.size
    by_cases hlt : k < n
    · obtain ⟨r, hr⟩ := at_lt (show k < m.length by rw [HL.out]; exact hlt)
      obtain ⟨bx, o, Ak, ck, rfl, hbx, hc, hlc, hcm, hrow⟩ := HM.out.below HBW.out hs0 k r hr
      have hbxw : bx < W0.heap.size := by omega
      rw [HW.out r (List.mem_of_getElem? hr)] at hc hlc
      have KK : Hid (∀ V, Below wr.heap.size wr V → V.cell? ⟨w.heap.size, 0, none⟩ = some (.slice (some ⟨bx, o, none⟩) n c) ∧ V.cell? ⟨bx, o + k, none⟩ = some (.slice Ak n' ck)) := fun V hV => ⟨((HF1.out.next HBW.out).next hV).c0, (hV.cell (p := ⟨bx, o + k, none⟩) (by show bx < wr.heap.size; omega)).trans hc⟩
      have hrn := HW.out r (List.mem_of_getElem? hr)
      have HRW : Hid (Row wr w2.heap.size D2 (ints (negL b))) := HRD.out.keep fun b o hlt => World.cell?_of_block (a := ⟨b, o, none⟩) ((HZB.out.trans HBe.out).block b (by have := HZE.out; omega))
      have hw2 : w2.heap.size ≤ wr.heap.size := by have := HZE.out; have := HZ.out.top; have := HZ.out.mid; omega
      have C1 := fun V (hV : Below wr.heap.size wr V) => l02Add_any Ak D2 n' ck d2 B w2.heap.size r (negL b) V hrn ((negL_length b).trans HL'.out) (by omega) (HN.out r (List.mem_of_getElem? hr)) (negL_num b) (by have := hV.size; omega) (by have := hV.size; omega) (hrow.below hV (by omega)) (HRW.out.below hV hw2)
      have HRN := Lib.hid hrn
      have p3 := (HZ.out.cells (Below.refl _ _)).2.2
      have HTK := Lib.hid (show (invM m b).take (k + 1) = (invM m b).take k ++ [lessL b r] from take_map_at (f := lessL b) hr)
      have HQ := Lib.hid (show (lessL b r).length = n' from by rw [lessL_length (by rw [hrn, HL'.out]), hrn])
      have z0 := (HZ.out.cells (Below.refl _ _)).1
      have hkI : (k : Int) < (n : Int) := by omega
      have hzm := HZ.out.mid
      have HXB : Hid (w.heap.size ≠ zb) := by have := HS.out; rw [Hid]; omega
      have HXB2 : Hid (bx ≠ zb) := by rw [Hid]; omega
      have HOO : Hid (∀ V, Below wr.heap.size wr V → V.ownsRow (zb + 1) 23 1 (.slice A9 k c9) k vs) := fun V hV => (HZ.out.next hV).mat.outer.1
      have HCC : Hid (∀ V, Below wr.heap.size wr V → V.cell? ⟨zb, 0, none⟩ = some (.slice A9 k c9) ∧ V.frozen? ⟨zb, 0, none⟩ = false) := fun V hV => ⟨(HZ.out.cells hV).1, (HZ.out.cells hV).2.1⟩
      clear hr hc hrow hrn Z0
      have hne3 : some (Addr.block ⟨zb, 0, none⟩) ≠ Value.ownBlock (.slice A9 k c9) := fun e => by have h9 := ((HOO.out wr (Below.refl _ _)).lt zb e.symm).1; omega
      have HFZ : Hid (∀ V V', Below wr.heap.size wr V → V.grownBy V' (Value.ownBlock (.slice A9 k c9)) → V'.frozen? ⟨zb, 0, none⟩ = false) := fun V V' hV hg => (World.frozen?_of_block (a := ⟨zb, 0, none⟩) (hg.block zb (by have := hV.size; have := HZ.out.top; omega) hne3)).trans (HCC.out V hV).2
      have q0 := (KK.out wr (Below.refl _ _)).1
      have hne1 : some (Addr.block ⟨w.heap.size, 0, none⟩) ≠ Value.ownBlock (.slice A9 k c9) := fun e => by have h9 := ((HOO.out wr (Below.refl _ _)).lt w.heap.size e.symm).1; have h8 := HS.out; omega
      have hne2 : some (Addr.block ⟨bx, o + k, none⟩) ≠ Value.ownBlock (.slice A9 k c9) := fun e => by have h9 := ((HOO.out wr (Below.refl _ _)).lt bx e.symm).1; omega
      go_wp2_with fail
      have p1 := q0
      have p2 := (KK.out wr (Below.refl _ _)).2
      go_region_law (first
        | (go_simp; go_at_call 106; refine (C1 _ (by first | exact (Below.refl _ _).drew | exact below_drewN (Below.refl _ _) _)).mono ?_; rintro e w6 ⟨A6, c6, rfl, own6, be6⟩; have be7 := undrawZ (a := 1) be6; have z6 := (HCC.out _ be7).1; have z7 : ∀ ob, (w6.alloc ob).cell? ⟨zb, 0, none⟩ = _ := fun ob => (HCC.out _ (be7.alloc be7.size ob)).1; have z8 := (KK.out _ be7).1; have z9 := (KK.out _ be7).2)
        | (refine step_append_lies _ (by rfl) _ _ _ (by rfl) (zb + 1) 23 j0 _ 1 24 Try.underlying22 hj hy0 hy1 hy2 rfl (by omega) (.slice A9 k c9) k vs (by rfl) (HOO.out _ (by first | exact be7.alloc be7.size _ | exact (be7.alloc be7.size _).drew | exact below_drewN (be7.alloc be7.size _) _)) ⟨w6.heap.size, 0, none⟩ 1 1 [.slice A6 n' c6] (by rfl) (by rfl) (World.news_of_block (cs := #[.slice A6 n' c6]) (heap_alloc_new _ _)) (by simp [Value.oneCell']) (by omega) (by simp only [maxLen]; omega) (by omega) (by have := be7.size; simp; omega) (w6.heap.size + 1) (by simp) ?_; intro g3 cap3 w3 hown3 hgrow3 hat3 hlt3; have y9 : w3.cell? ⟨zb, 0, none⟩ = some (.slice A9 k c9) := hgrow3.cell (z7 _) hne3; have f9 : w3.frozen? ⟨zb, 0, none⟩ = false := HFZ.out _ _ (by exact be7.alloc be7.size _) hgrow3))
      all_goals
        have hg9 : (w6.alloc (.cells #[.slice A6 n' c6] 23)).grownBy w3 (Value.ownBlock (.slice A9 k c9)) := ⟨hgrow3.os, hgrow3.tape, hgrow3.output, hgrow3.size, hgrow3.block⟩
        rw [lessL_add HRN.out HL'.out] at own6
        obtain ⟨hP, hL⟩ := ZK.push (row := lessL b r) (HZ.out.next be7) HQ.out (show w6.ownsRow wr.heap.size 2 1 (.slice A6 n' c6) n' (ints (lessL b r)) from own6) hown3 hg9
        have GB : Hid (Below zb Wz (w3.setCell ⟨zb, 0, none⟩ (.slice (some ⟨g3, 0, none⟩) (k + 1) cap3))) := HBe.out.trans ((be7.mono (by omega)).trans hL)
        rw [← HTK.out] at hP
        have GP := Lib.hid hP
        obtain ⟨W9, hW9⟩ : ∃ W9, W9 = w3.setCell ⟨zb, 0, none⟩ (.slice (some ⟨g3, 0, none⟩) (k + 1) cap3) := ⟨_, rfl⟩
        rw [← hW9] at GB GP ⊢
        clear hg9 hP hL hW9 own6 be6 be7 hown3 hgrow3 hat3 z6 z7 z8 z9 y9 f9 p1 p2 p3 q0 z0
        go_wp2
        go_roundw
        case rel => exact ⟨k + 1, _, _, _, by omega, by go_num, GP, GB⟩
        case measure => simp [intOf]; omega
    · obtain rfl : k = n := by omega
      have q0 := (HF1.out.next HBW.out).c0
      have hall : Hid ((invM m b).take k = invM m b) := List.take_of_length_le (by rw [invM_length, HL.out]; exact Nat.le_refl _)
      have hZ := HZ.out
      rw [hall.out] at hZ
      have hcc := (own_cap hZ.mat.outer.1).1
      have z0 := hZ.box.c0
      have z1 := hZ.box.c1
      have x2 := HF2.out.next HBW.out
      have r0 := x2.c0
      have r1 := x2.c1
      have f0 := x2.free 0
      have f1 := x2.free 1
      have HX2 := Lib.hid x2
      have M9 := Lib.hid (MatF.of_mat hZ.mat)
      have R9 : Hid (RowF wr W0.heap.size D2 (ints (negL b))) := HD2.out.keep fun g _ hg => (HZB.out.trans HBe.out).block g (by have := HZE.out; omega)
      have B9 := Lib.hid (HB.out.trans (HBW.out.mono HB.out.size))
      clear hZ x2 Z0
      go_wp2
      obtain ⟨hx7, hn7⟩ := NewF.put (w := w) (n := k) (n' := n') (c := c9) (d := d2) HX2.out (by omega) (by have := HS.out; omega) hcc hd2 (M9.out.less (show W0.heap.size ≤ zb + 1 by omega)) R9.out B9.out
      exact bodyPost_ret (v := .agg #[.slice A9 k c9, .slice D2 n' d2]) (results_cell_row rfl _ _ (w.heap.size + 1) 27 _ (0, 0) _ rfl hx7 Try.underlying27 rfl info_tabR) rfl hn7
end Go.Proofs.Ytchimobmkmgkmaa
