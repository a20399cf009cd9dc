/-
  Adjoint tableaus: the program's answer and the model's.
-/
import Derived.Test.YtchimobmkmgkmaaTqX
import Derived.Test.YtchimobmkmgkmaaTqY
import Derived.Test.YtchimobmkmgkmaaTqW
import Derived.Test.YtchimobmkmgkmaaTests
import Derived.Test.YtchimobmkmgkmaaTqG
namespace Go.Proofs.Ytchimobmkmgkmaa
open Go.RowKit Fld
set_option linter.unusedVariables false
set_option linter.unusedSimpArgs false
set_option maxRecDepth 100000

def adjTA (m : List (List Int)) (b : List Int) : (List (List Int) × List Int) × Int := if isTabB m b = true then ((adjM m b b.length, adjB b b.length), 0) else (([], []), 1)
set_option maxHeartbeats 2000000 in
theorem pAdjointTableau_L (A D : Option Addr) (n c n' d B B' : Nat) (m : List (List Int)) (b : List Int) (w : World) (hl : m.length = n) (hl' : b.length = n') (hn : n ≤ 9223372036854775807) (hn' : n' ≤ 9223372036854775807) (hB : B ≤ w.heap.size) (hB' : B' ≤ w.heap.size) (h : Mat w B A m) (r : Row w B' D (ints b)) :
    Calls Try.prog 30 #[.agg #[.slice A n c, .slice D n' d]] w (ResT (adjTA m b) w) := by
  have HL := Lib.hid hl
  have HL' := Lib.hid hl'
  obtain ⟨W0, hW0⟩ : ∃ W0, W0 = (w.alloc (.cells #[.slice A n c, .slice D n' d] 27)).alloc (.cells #[.slice none 0 0, .slice none 0 0] 27) := ⟨_, rfl⟩
  have FB : Below w.heap.size w W0 := by rw [hW0]; exact ((Below.refl _ _).alloc (Nat.le_refl _) _).alloc (by simp) _
  have FS : W0.heap.size = w.heap.size + 2 := by rw [hW0]; simp
  have F1 : Bx W0 w.heap.size 27 (.slice A n c) (.slice D n' d) := by
    rw [hW0]; exact (Bx.new w _ _ _).next ((Below.refl _ _).alloc (Nat.le_refl _) _)
  have F2 : Bx W0 (w.heap.size + 1) 27 (.slice none 0 0) (.slice none 0 0) := by
    rw [hW0]; have := Bx.new (w.alloc (.cells #[.slice A n c, .slice D n' d] 27)) 27 (.slice none 0 0) (.slice none 0 0); simpa using this
  have HM := Lib.hid (h.below FB hB)
  have HR := Lib.hid (r.below FB hB')
  have HX := Lib.hid F1
  have HY := Lib.hid F2
  have HB := Lib.hid FB
  have HS := Lib.hid FS
  have hz := FB.size
  clear hl hl' h r F1 F2 FB FS
  cases ht : isTabB m b
  · have G : Hid (adjTA m b = (([], []), 1)) := by unfold adjTA; rw [Hid, ht]; rfl
    go_enter Try.func30, Try.ntmps30
    go_wp2_with fail
    rw [← hW0]
    refine (isTableau_any A D n c n' d B B' m b W0 HL.out HL'.out hn hn' (by omega) (by omega) HM.out HR.out).mono ?_
    rintro e w2 ⟨rfl, b2⟩
    rw [ht]
    have HB2 := Lib.hid (HB.out.trans (b2.mono HB.out.size))
    have HM2 := Lib.hid (HM.out.below b2 (by omega))
    have HR2 := Lib.hid (HR.out.below b2 (by omega))
    have HX2 := Lib.hid (HX.out.next b2)
    have HY2 := Lib.hid (HY.out.next b2)
    have hz2 := b2.size
    clear b2 hW0 ht
    have k0 := HY2.out.c0
    have k1 := HY2.out.c1
    have f0 := HY2.out.free 0
    have f1 := HY2.out.free 1
    have HX7 := Lib.hid (HY2.out.stored (.slice none 0 0) (.slice none 0 0))
    have HB7 := Lib.hid (below_set (below_set HB2.out (by omega) (.slice none 0 0) (g := w.heap.size + 1) (k := 0)) (by omega) (.slice none 0 0) (g := w.heap.size + 1) (k := 1))
    go_wp2
    exact bodyPost_ret (v := .tuple #[.agg #[.slice none 0 0, .slice none 0 0], .int .i64 1]) (results_boxed rfl _ _ (w.heap.size + 1) 27 _ (0, 0) _ _ rfl HX7.out Try.underlying27 rfl info_tabR rfl) rfl (ResT.no G.out HB7.out)
  · obtain ⟨t1, t2, t3, t4, t5, t6⟩ := isTabB_parts ht
    have hok := SchOk.of_tab ht
    rw [HL'.out] at t1 t2 t3 hok
    have hnn : n' = n := by rw [← t3]; exact HL.out
    subst hnn
    have HOK := Lib.hid hok
    have G : Hid (adjTA m b = ((adjM m b n', adjB b n'), 0)) := by unfold adjTA; rw [Hid, ht]; simp [HL'.out]
    clear t3 t4 t5 t6 hok
    go_enter Try.func30, Try.ntmps30
    go_wp2_with fail
    rw [← hW0]
    refine (isTableau_any A D n' c n' d B B' m b W0 HL.out HL'.out hn hn' (by omega) (by omega) HM.out HR.out).mono ?_
    rintro e w2 ⟨rfl, b2⟩
    rw [ht]
    have HB2 := Lib.hid (HB.out.trans (b2.mono HB.out.size))
    have HM2 := Lib.hid (HM.out.below b2 (by omega))
    have HR2 := Lib.hid (HR.out.below b2 (by omega))
    have HX2 := Lib.hid (HX.out.next b2)
    have HY2 := Lib.hid (HY.out.next b2)
    have hz2 := b2.size
    clear b2 hW0 ht
    have q0 := HX2.out.c0
    have q1 := HX2.out.c1
    go_wp2_with fail
    clear q0 q1
    refine (schemeOf_any A D n' c n' d B B' n' m b w2 HL.out HL'.out t2 HOK.out.wide (by omega) (by omega) (by omega) (by omega) HM2.out HR2.out).mono ?_
    rintro e w3 ⟨A3, c3, D3, d3, rfl, hc3, hd3, m3, r3, b3⟩
    have HB3 := Lib.hid (HB2.out.trans (b3.mono HB2.out.size))
    have HM3 := Lib.hid m3
    have HR3 := Lib.hid r3
    have HY3 := Lib.hid (HY2.out.next b3)
    have hz3 := b3.size
    clear b3 m3 r3
    go_wp2_with fail
    refine (adjoint_any A3 D3 n' c3 d3 w3.heap.size w3.heap.size m b w3 HOK.out t1 t2 (Nat.le_refl _) (Nat.le_refl _) HM3.out HR3.out).mono ?_
    rintro e w4 ⟨A4, c4, D4, d4, rfl, hc4, hd4, m4, r4, b4⟩
    have HB4 := Lib.hid (HB3.out.trans (b4.mono HB3.out.size))
    have HM4 := Lib.hid m4.mat
    have HR4 := Lib.hid r4.row
    have HY4 := Lib.hid (HY3.out.next b4)
    have hz4 := b4.size
    clear b4 m4 r4
    have HOKL := Lib.hid (adj_ok HOK.out)
    have HT := Lib.hid (HOKL.out.total t2)
    go_wp2_with fail
    refine (tableau_any A4 D4 (n') c4 (n') d4 w4.heap.size w4.heap.size (adjM m b n') (adjB b n') w4 HOKL.out.len HOKL.out.lenb (by omega) (by have := HT.out; omega) (by omega) (Nat.le_refl _) (Nat.le_refl _) HM4.out HR4.out).mono ?_
    rintro e w9 ⟨A9, c9, vs9, D9, d9, mid, rfl, l1, l2, o9, p9, b9⟩
    have HB9 := Lib.hid (HB4.out.trans (b9.mono HB4.out.size))
    have HY9 := Lib.hid (HY4.out.next b9)
    have HO9 := Lib.hid o9
    have HP9 := Lib.hid p9
    clear b9 o9 p9
    have k0 := HY9.out.c0
    have k1 := HY9.out.c1
    have f0 := HY9.out.free 0
    have f1 := HY9.out.free 1
    go_wp2
    obtain ⟨hx7, hn7⟩ := ResT.put (w := w) G.out HOKL.out.len HOKL.out.lenb (by omega) (by omega) HT.out HY9.out (by omega) (by have := HS.out; omega) l1 l2 HO9.out HP9.out HB9.out
    exact bodyPost_ret (v := .tuple #[.agg #[.slice A9 (n') c9, .slice D9 (n') d9], .int .i64 0]) (results_boxed rfl _ _ (w.heap.size + 1) 27 _ (0, 0) _ _ rfl hx7 Try.underlying27 rfl info_tabR rfl) rfl hn7
set_option maxHeartbeats 2000000 in
theorem sAdjointTableau_L (A D : Option Addr) (n c n' d B B' : Nat) (m : List (List Int)) (b : List Int) (w : World) (hl : m.length = n) (hl' : b.length = n') (hn : n ≤ 9223372036854775807) (hn' : n' ≤ 9223372036854775807) (hB : B ≤ w.heap.size) (hB' : B' ≤ w.heap.size) (h : Mat w B A m) (r : Row w B' D (ints b)) :
    Calls Try.prog 29 #[.agg #[.slice A n c, .slice D n' d]] w (ResTL (adjTA m b) w) := by
  have HL := Lib.hid hl
  have HL' := Lib.hid hl'
  obtain ⟨W0, hW0⟩ : ∃ W0, W0 = (w.alloc (.cells #[.slice A n c, .slice D n' d] 27)).alloc (.cells #[.slice none 0 0, .slice none 0 0] 27) := ⟨_, rfl⟩
  have FB : Below w.heap.size w W0 := by rw [hW0]; exact ((Below.refl _ _).alloc (Nat.le_refl _) _).alloc (by simp) _
  have FS : W0.heap.size = w.heap.size + 2 := by rw [hW0]; simp
  have F1 : Bx W0 w.heap.size 27 (.slice A n c) (.slice D n' d) := by
    rw [hW0]; exact (Bx.new w _ _ _).next ((Below.refl _ _).alloc (Nat.le_refl _) _)
  have F2 : Bx W0 (w.heap.size + 1) 27 (.slice none 0 0) (.slice none 0 0) := by
    rw [hW0]; have := Bx.new (w.alloc (.cells #[.slice A n c, .slice D n' d] 27)) 27 (.slice none 0 0) (.slice none 0 0); simpa using this
  have HM := Lib.hid (h.below FB hB)
  have HR := Lib.hid (r.below FB hB')
  have HX := Lib.hid F1
  have HY := Lib.hid F2
  have HB := Lib.hid FB
  have HS := Lib.hid FS
  have hz := FB.size
  clear hl hl' h r F1 F2 FB FS
  cases ht : isTabB m b
  · have G : Hid (adjTA m b = (([], []), 1)) := by unfold adjTA; rw [Hid, ht]; rfl
    go_enter Try.func29, Try.ntmps29
    go_wp2_with fail
    rw [← hW0]
    refine (l09Is_any A D n c n' d B B' m b W0 HL.out HL'.out hn hn' (by omega) (by omega) HM.out HR.out).mono ?_
    rintro e w2 ⟨rfl, b2⟩
    rw [ht]
    have HB2 := Lib.hid (HB.out.trans (b2.mono HB.out.size))
    have HM2 := Lib.hid (HM.out.below b2 (by omega))
    have HR2 := Lib.hid (HR.out.below b2 (by omega))
    have HX2 := Lib.hid (HX.out.next b2)
    have HY2 := Lib.hid (HY.out.next b2)
    have hz2 := b2.size
    clear b2 hW0 ht
    have k0 := HY2.out.c0
    have k1 := HY2.out.c1
    have f0 := HY2.out.free 0
    have f1 := HY2.out.free 1
    have HX7 := Lib.hid (HY2.out.stored (.slice none 0 0) (.slice none 0 0))
    have HB7 := Lib.hid (below_set (below_set HB2.out (by omega) (.slice none 0 0) (g := w.heap.size + 1) (k := 0)) (by omega) (.slice none 0 0) (g := w.heap.size + 1) (k := 1))
    go_wp2
    exact bodyPost_ret (v := .tuple #[.agg #[.slice none 0 0, .slice none 0 0], .int .i64 1]) (results_boxed rfl _ _ (w.heap.size + 1) 27 _ (0, 0) _ _ rfl HX7.out Try.underlying27 rfl info_tabR rfl) rfl (ResTL.no G.out HB7.out)
  · obtain ⟨t1, t2, t3, t4, t5, t6⟩ := isTabB_parts ht
    have hok := SchOk.of_tab ht
    rw [HL'.out] at t1 t2 t3 hok
    have hnn : n' = n := by rw [← t3]; exact HL.out
    subst hnn
    have HOK := Lib.hid hok
    have G : Hid (adjTA m b = ((adjM m b n', adjB b n'), 0)) := by unfold adjTA; rw [Hid, ht]; simp [HL'.out]
    clear t3 t4 t5 t6 hok
    go_enter Try.func29, Try.ntmps29
    go_wp2_with fail
    rw [← hW0]
    refine (l09Is_any A D n' c n' d B B' m b W0 HL.out HL'.out hn hn' (by omega) (by omega) HM.out HR.out).mono ?_
    rintro e w2 ⟨rfl, b2⟩
    rw [ht]
    have HB2 := Lib.hid (HB.out.trans (b2.mono HB.out.size))
    have HM2 := Lib.hid (HM.out.below b2 (by omega))
    have HR2 := Lib.hid (HR.out.below b2 (by omega))
    have HX2 := Lib.hid (HX.out.next b2)
    have HY2 := Lib.hid (HY.out.next b2)
    have hz2 := b2.size
    clear b2 hW0 ht
    have q0 := HX2.out.c0
    have q1 := HX2.out.c1
    go_wp2_with fail
    clear q0 q1
    have KK : Hid (∀ V, Below w2.heap.size w2 V → V.cell? ⟨w.heap.size, 0, none⟩ = some (.slice A n' c) ∧ V.cell? ⟨w.heap.size, 1, none⟩ = some (.slice D n' d)) := fun V hV => ⟨(HX2.out.next hV).c0, (HX2.out.next hV).c1⟩
    have HOI := Lib.hid (inv_ok HOK.out)
    have HOS := Lib.hid (scale_ok 10006 HOI.out)
    have hrl : (List.range n').reverse.length = n' := by simp
    have C1 := fun V (hV : Below w2.heap.size w2 V) => l10Inverse_any A D n' c n' d B B' m b V HL.out HL'.out t2 t2 HOK.out.wide HOK.out.num HOK.out.numb (by have := hV.size; omega) (by have := hV.size; omega) (HM2.out.below hV (by omega)) (HR2.out.below hV (by omega))
    have C2 := fun V A9 c9 D9 d9 (m9 : Mat V V.heap.size A9 (invM m b)) (r9 : Row V V.heap.size D9 (ints (negL b))) => l10Scale_any A9 D9 n' c9 n' d9 V.heap.size V.heap.size (invM m b) (negL b) 10006 V HOI.out.len HOI.out.lenb t2 t2 (fun r hr => by rw [HOI.out.wide r hr]; exact t2) HOI.out.num HOI.out.numb (by omega) (by omega) (Nat.le_refl _) (Nat.le_refl _) m9 r9
    have C3 := fun V => l10Backwards_any n' V t2
    have C4 := fun V A9 c9 D9 d9 S cs (m9 : Mat V V.heap.size A9 (scaleM 10006 (invM m b))) (r9 : Row V V.heap.size D9 (ints (scaleL 10006 (negL b)))) (s9 : Row V V.heap.size S (ints (idx (List.range n').reverse))) => l10Permute_any A9 D9 S n' c9 d9 n' cs V.heap.size V.heap.size V.heap.size (scaleM 10006 (invM m b)) (scaleL 10006 (negL b)) (List.range n').reverse V HOS.out t2 hrl t2 (fun i hi => rev_lt hi) (Nat.le_refl _) (Nat.le_refl _) (Nat.le_refl _) m9 r9 s9
    go_region_held3 (fun V => V.cell? ⟨w.heap.size, 0, none⟩ = some (.slice A n' c) ∧ V.cell? ⟨w.heap.size, 1, none⟩ = some (.slice D n' d))
      (first | exact KK.out _ (Below.refl _ _) | exact KK.out _ (Below.refl _ _).drew | exact KK.out _ (below_drewN (Below.refl _ _) _) | exact KK.out _ be3 | exact KK.out _ be4 | exact KK.out _ be5 | exact KK.out _ be6 | exact ⟨cell_othT (cell_othT (KK.out _ be6).1 (by omega)) (by omega), cell_othT (cell_othT (KK.out _ be6).2 (by omega)) (by omega)⟩)
      (first
        | (go_at_call 68; refine (C1 _ (by first | exact (Below.refl _ _).drew | exact below_drewN (Below.refl _ _) _)).mono ?_; clear C1; rintro e w3 ⟨A3, c3, D3, d3, rfl, hc3, hd3, m3, r3, b3⟩; have be3 : Below w2.heap.size w2 w3 := undrawZ (a := 1) b3)
        | (go_at_call 64; refine (C2 _ A3 c3 D3 d3 (by exact m3.mat) (by exact r3.row)).mono ?_; clear C2; rintro e w4 ⟨A4, c4, D4, d4, rfl, hc4, hd4, m4, r4, b4⟩; have be4 : Below w2.heap.size w2 w4 := be3.trans (b4.mono be3.size))
        | (go_at_call 71; refine (C3 _).mono ?_; clear C3; rintro e w5 ⟨S5, cs5, rfl, own5, b5⟩; have be5 : Below w2.heap.size w2 w5 := be4.trans (b5.mono be4.size))
        | (go_at_call 70; refine (C4 _ A4 c4 D4 d4 S5 cs5 (by exact (m4.next b5).mat) (by exact (r4.next b5).row) (by exact row_of_own own5)).mono ?_; clear C4; rintro e w6 ⟨A6, c6, D6, d6, rfl, hc6, hd6, m6, r6, b6⟩; have be6 : Below w2.heap.size w2 w6 := be5.trans (b6.mono be5.size); have HY6 := HY2.out.next be6; have k0 := HY6.c0; have k1 := HY6.c1; have f0 := HY6.free 0; have f1 := HY6.free 1))
    all_goals
      have HYY := HY2.out.next be6
      have HOKL := adj_ok HOK.out
      have hz5 := be5.size
      obtain ⟨hx7, hn7⟩ := ResTL.put (w := w) (c := c6) (d := d6) (m := adjM m b n') (b := adjB b n') G.out HOKL.len HOKL.lenb t2 t2 (HOKL.total t2) HYY (by omega) (by have := HS.out; omega) (m6.less (show w.heap.size + 2 ≤ w5.heap.size by have := HS.out; omega)) (r6.less (show w.heap.size + 2 ≤ w5.heap.size by have := HS.out; omega)) (HB2.out.trans (be6.mono HB2.out.size))
      have HX7 := Lib.hid hx7
      have HN7 := Lib.hid hn7
      obtain ⟨W9, hW9⟩ : ∃ W9, W9 = (w6.setCell ⟨w.heap.size + 1, 0, none⟩ (.slice A6 n' c6)).setCell ⟨w.heap.size + 1, 1, none⟩ (.slice D6 n' d6) := ⟨_, rfl⟩
      rw [← hW9] at HX7 HN7 ⊢
      clear hx7 hn7 hW9 HYY m6 r6 b6 m4 r4 b4 m3 r3 b3 own5 b5 be3 be4 be5 be6 KK HY6 k0 k1 f0 f1 HOKL
      go_wp2
      exact bodyPost_ret (v := .tuple #[.agg #[.slice A6 n' c6, .slice D6 n' d6], .int .i64 0]) (results_boxed rfl _ _ (w.heap.size + 1) 27 _ (0, 0) _ _ rfl HX7.out Try.underlying27 rfl info_tabR rfl) rfl HN7.out
end Go.Proofs.Ytchimobmkmgkmaa
