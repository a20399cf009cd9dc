/-
  Inverse tableaus: the program's answer and the model's.
-/
import Derived.Test.YtchimobmkmgkmaaTqS
import Derived.Test.YtchimobmkmgkmaaTqY
import Derived.Test.YtchimobmkmgkmaaTests
import Derived.Test.YtchimobmkmgkmaaTqG
namespace Go.Proofs.Ytchimobmkmgkmaa
open Go.RowKit Fld
set_option linter.unusedVariables false
set_option linter.unusedSimpArgs false
set_option maxRecDepth 100000

def invTA (m : List (List Int)) (b : List Int) : (List (List Int) × List Int) × Int := if isTabB m b = true then ((invM m b, negL b), 0) else (([], []), 1)
set_option maxHeartbeats 2000000 in
theorem pInverseTableau_L (A D : Option Addr) (n c n' d B B' : Nat) (m : List (List Int)) (b : List Int) (w : World) (hl : m.length = n) (hl' : b.length = n') (hn : n ≤ 9223372036854775807) (hn' : n' ≤ 9223372036854775807) (hB : B ≤ w.heap.size) (hB' : B' ≤ w.heap.size) (h : Mat w B A m) (r : Row w B' D (ints b)) :
    Calls Try.prog 28 #[.agg #[.slice A n c, .slice D n' d]] w (ResT (invTA m b) w) := by
  have HL := Lib.hid hl
  have HL' := Lib.hid hl'
  obtain ⟨W0, hW0⟩ : ∃ W0, W0 = (w.alloc (.cells #[.slice A n c, .slice D n' d] 27)).alloc (.cells #[.slice none 0 0, .slice none 0 0] 27) := ⟨_, rfl⟩
  have FB : Below w.heap.size w W0 := by rw [hW0]; exact ((Below.refl _ _).alloc (Nat.le_refl _) _).alloc (by simp) _
  have FS : W0.heap.size = w.heap.size + 2 := by rw [hW0]; simp
  have F1 : Bx W0 w.heap.size 27 (.slice A n c) (.slice D n' d) := by
    rw [hW0]; exact (Bx.new w _ _ _).next ((Below.refl _ _).alloc (Nat.le_refl _) _)
  have F2 : Bx W0 (w.heap.size + 1) 27 (.slice none 0 0) (.slice none 0 0) := by
    rw [hW0]; have := Bx.new (w.alloc (.cells #[.slice A n c, .slice D n' d] 27)) 27 (.slice none 0 0) (.slice none 0 0); simpa using this
  have HM := Lib.hid (h.below FB hB)
  have HR := Lib.hid (r.below FB hB')
  have HX := Lib.hid F1
  have HY := Lib.hid F2
  have HB := Lib.hid FB
  have HS := Lib.hid FS
  have hz := FB.size
  clear hl hl' h r F1 F2 FB FS
  cases ht : isTabB m b
  · have G : Hid (invTA m b = (([], []), 1)) := by unfold invTA; rw [Hid, ht]; rfl
    go_enter Try.func28, Try.ntmps28
    go_wp2_with fail
    rw [← hW0]
    refine (isTableau_any A D n c n' d B B' m b W0 HL.out HL'.out hn hn' (by omega) (by omega) HM.out HR.out).mono ?_
    rintro e w2 ⟨rfl, b2⟩
    rw [ht]
    have HB2 := Lib.hid (HB.out.trans (b2.mono HB.out.size))
    have HM2 := Lib.hid (HM.out.below b2 (by omega))
    have HR2 := Lib.hid (HR.out.below b2 (by omega))
    have HX2 := Lib.hid (HX.out.next b2)
    have HY2 := Lib.hid (HY.out.next b2)
    have hz2 := b2.size
    clear b2 hW0 ht
    have k0 := HY2.out.c0
    have k1 := HY2.out.c1
    have f0 := HY2.out.free 0
    have f1 := HY2.out.free 1
    have HX7 := Lib.hid (HY2.out.stored (.slice none 0 0) (.slice none 0 0))
    have HB7 := Lib.hid (below_set (below_set HB2.out (by omega) (.slice none 0 0) (g := w.heap.size + 1) (k := 0)) (by omega) (.slice none 0 0) (g := w.heap.size + 1) (k := 1))
    go_wp2
    exact bodyPost_ret (v := .tuple #[.agg #[.slice none 0 0, .slice none 0 0], .int .i64 1]) (results_boxed rfl _ _ (w.heap.size + 1) 27 _ (0, 0) _ _ rfl HX7.out Try.underlying27 rfl info_tabR rfl) rfl (ResT.no G.out HB7.out)
  · obtain ⟨t1, t2, t3, t4, t5, t6⟩ := isTabB_parts ht
    have hok := SchOk.of_tab ht
    rw [HL'.out] at t1 t2 t3 hok
    have hnn : n' = n := by rw [← t3]; exact HL.out
    subst hnn
    have HOK := Lib.hid hok
    have G : Hid (invTA m b = ((invM m b, negL b), 0)) := by unfold invTA; rw [Hid, ht]; rfl
    clear t3 t4 t5 t6 hok
    go_enter Try.func28, Try.ntmps28
    go_wp2_with fail
    rw [← hW0]
    refine (isTableau_any A D n' c n' d B B' m b W0 HL.out HL'.out hn hn' (by omega) (by omega) HM.out HR.out).mono ?_
    rintro e w2 ⟨rfl, b2⟩
    rw [ht]
    have HB2 := Lib.hid (HB.out.trans (b2.mono HB.out.size))
    have HM2 := Lib.hid (HM.out.below b2 (by omega))
    have HR2 := Lib.hid (HR.out.below b2 (by omega))
    have HX2 := Lib.hid (HX.out.next b2)
    have HY2 := Lib.hid (HY.out.next b2)
    have hz2 := b2.size
    clear b2 hW0 ht
    have q0 := HX2.out.c0
    have q1 := HX2.out.c1
    go_wp2_with fail
    clear q0 q1
    refine (schemeOf_any A D n' c n' d B B' n' m b w2 HL.out HL'.out t2 HOK.out.wide (by omega) (by omega) (by omega) (by omega) HM2.out HR2.out).mono ?_
    rintro e w3 ⟨A3, c3, D3, d3, rfl, hc3, hd3, m3, r3, b3⟩
    have HB3 := Lib.hid (HB2.out.trans (b3.mono HB2.out.size))
    have HM3 := Lib.hid m3
    have HR3 := Lib.hid r3
    have HY3 := Lib.hid (HY2.out.next b3)
    have hz3 := b3.size
    clear b3 m3 r3
    go_wp2_with fail
    refine (inverse_sch A3 D3 n' c3 d3 w3.heap.size w3.heap.size m b w3 HOK.out t2 (Nat.le_refl _) (Nat.le_refl _) HM3.out HR3.out).mono ?_
    rintro e w4 ⟨A4, c4, D4, d4, rfl, hc4, hd4, m4, r4, b4⟩
    have HB4 := Lib.hid (HB3.out.trans (b4.mono HB3.out.size))
    have HM4 := Lib.hid m4.mat
    have HR4 := Lib.hid r4.row
    have HY4 := Lib.hid (HY3.out.next b4)
    have hz4 := b4.size
    clear b4 m4 r4
    have HOKL := Lib.hid (inv_ok HOK.out)
    have HT := Lib.hid (HOKL.out.total t2)
    go_wp2_with fail
    refine (tableau_any A4 D4 (n') c4 (n') d4 w4.heap.size w4.heap.size (invM m b) (negL b) w4 HOKL.out.len HOKL.out.lenb (by omega) (by have := HT.out; omega) (by omega) (Nat.le_refl _) (Nat.le_refl _) HM4.out HR4.out).mono ?_
    rintro e w9 ⟨A9, c9, vs9, D9, d9, mid, rfl, l1, l2, o9, p9, b9⟩
    have HB9 := Lib.hid (HB4.out.trans (b9.mono HB4.out.size))
    have HY9 := Lib.hid (HY4.out.next b9)
    have HO9 := Lib.hid o9
    have HP9 := Lib.hid p9
    clear b9 o9 p9
    have k0 := HY9.out.c0
    have k1 := HY9.out.c1
    have f0 := HY9.out.free 0
    have f1 := HY9.out.free 1
    go_wp2
    obtain ⟨hx7, hn7⟩ := ResT.put (w := w) G.out HOKL.out.len HOKL.out.lenb (by omega) (by omega) HT.out HY9.out (by omega) (by have := HS.out; omega) l1 l2 HO9.out HP9.out HB9.out
    exact bodyPost_ret (v := .tuple #[.agg #[.slice A9 (n') c9, .slice D9 (n') d9], .int .i64 0]) (results_boxed rfl _ _ (w.heap.size + 1) 27 _ (0, 0) _ _ rfl hx7 Try.underlying27 rfl info_tabR rfl) rfl hn7
set_option maxHeartbeats 2000000 in
theorem sInverseTableau_L (A D : Option Addr) (n c n' d B B' : Nat) (m : List (List Int)) (b : List Int) (w : World) (hl : m.length = n) (hl' : b.length = n') (hn : n ≤ 9223372036854775807) (hn' : n' ≤ 9223372036854775807) (hB : B ≤ w.heap.size) (hB' : B' ≤ w.heap.size) (h : Mat w B A m) (r : Row w B' D (ints b)) :
    Calls Try.prog 27 #[.agg #[.slice A n c, .slice D n' d]] w (ResTL (invTA m b) w) := by
  have HL := Lib.hid hl
  have HL' := Lib.hid hl'
  obtain ⟨W0, hW0⟩ : ∃ W0, W0 = (w.alloc (.cells #[.slice A n c, .slice D n' d] 27)).alloc (.cells #[.slice none 0 0, .slice none 0 0] 27) := ⟨_, rfl⟩
  have FB : Below w.heap.size w W0 := by rw [hW0]; exact ((Below.refl _ _).alloc (Nat.le_refl _) _).alloc (by simp) _
  have FS : W0.heap.size = w.heap.size + 2 := by rw [hW0]; simp
  have F1 : Bx W0 w.heap.size 27 (.slice A n c) (.slice D n' d) := by
    rw [hW0]; exact (Bx.new w _ _ _).next ((Below.refl _ _).alloc (Nat.le_refl _) _)
  have F2 : Bx W0 (w.heap.size + 1) 27 (.slice none 0 0) (.slice none 0 0) := by
    rw [hW0]; have := Bx.new (w.alloc (.cells #[.slice A n c, .slice D n' d] 27)) 27 (.slice none 0 0) (.slice none 0 0); simpa using this
  have HM := Lib.hid (h.below FB hB)
  have HR := Lib.hid (r.below FB hB')
  have HX := Lib.hid F1
  have HY := Lib.hid F2
  have HB := Lib.hid FB
  have HS := Lib.hid FS
  have hz := FB.size
  clear hl hl' h r F1 F2 FB FS
  cases ht : isTabB m b
  · have G : Hid (invTA m b = (([], []), 1)) := by unfold invTA; rw [Hid, ht]; rfl
    go_enter Try.func27, Try.ntmps27
    go_wp2_with fail
    rw [← hW0]
    refine (l09Is_any A D n c n' d B B' m b W0 HL.out HL'.out hn hn' (by omega) (by omega) HM.out HR.out).mono ?_
    rintro e w2 ⟨rfl, b2⟩
    rw [ht]
    have HB2 := Lib.hid (HB.out.trans (b2.mono HB.out.size))
    have HM2 := Lib.hid (HM.out.below b2 (by omega))
    have HR2 := Lib.hid (HR.out.below b2 (by omega))
    have HX2 := Lib.hid (HX.out.next b2)
    have HY2 := Lib.hid (HY.out.next b2)
    have hz2 := b2.size
    clear b2 hW0 ht
    have k0 := HY2.out.c0
    have k1 := HY2.out.c1
    have f0 := HY2.out.free 0
    have f1 := HY2.out.free 1
    have HX7 := Lib.hid (HY2.out.stored (.slice none 0 0) (.slice none 0 0))
    have HB7 := Lib.hid (below_set (below_set HB2.out (by omega) (.slice none 0 0) (g := w.heap.size + 1) (k := 0)) (by omega) (.slice none 0 0) (g := w.heap.size + 1) (k := 1))
    go_wp2
    exact bodyPost_ret (v := .tuple #[.agg #[.slice none 0 0, .slice none 0 0], .int .i64 1]) (results_boxed rfl _ _ (w.heap.size + 1) 27 _ (0, 0) _ _ rfl HX7.out Try.underlying27 rfl info_tabR rfl) rfl (ResTL.no G.out HB7.out)
  · obtain ⟨t1, t2, t3, t4, t5, t6⟩ := isTabB_parts ht
    have hok := SchOk.of_tab ht
    rw [HL'.out] at t1 t2 t3 hok
    have hnn : n' = n := by rw [← t3]; exact HL.out
    subst hnn
    have HOK := Lib.hid hok
    have G : Hid (invTA m b = ((invM m b, negL b), 0)) := by unfold invTA; rw [Hid, ht]; rfl
    clear t3 t4 t5 t6 hok
    go_enter Try.func27, Try.ntmps27
    go_wp2_with fail
    rw [← hW0]
    refine (l09Is_any A D n' c n' d B B' m b W0 HL.out HL'.out hn hn' (by omega) (by omega) HM.out HR.out).mono ?_
    rintro e w2 ⟨rfl, b2⟩
    rw [ht]
    have HB2 := Lib.hid (HB.out.trans (b2.mono HB.out.size))
    have HM2 := Lib.hid (HM.out.below b2 (by omega))
    have HR2 := Lib.hid (HR.out.below b2 (by omega))
    have HX2 := Lib.hid (HX.out.next b2)
    have HY2 := Lib.hid (HY.out.next b2)
    have hz2 := b2.size
    clear b2 hW0 ht
    have q0 := HX2.out.c0
    have q1 := HX2.out.c1
    go_wp2_with fail
    clear q0 q1
    refine (l10Inverse_any A D n' c n' d B B' m b w2 HL.out HL'.out t2 t2 HOK.out.wide HOK.out.num HOK.out.numb (by omega) (by omega) HM2.out HR2.out).mono ?_
    rintro e w3 ⟨A3, c3, D3, d3, rfl, hc3, hd3, m3, r3, b3⟩
    have HB3 := Lib.hid (HB2.out.trans (b3.mono HB2.out.size))
    have HM3 := Lib.hid m3.mat
    have HR3 := Lib.hid r3.row
    have HMF3 := Lib.hid m3
    have HRF3 := Lib.hid r3
    have HY3 := Lib.hid (HY2.out.next b3)
    have hz3 := b3.size
    clear b3 m3 r3
    have HOKL := Lib.hid (inv_ok HOK.out)
    have HT := Lib.hid (HOKL.out.total t2)
    have k0 := HY3.out.c0
    have k1 := HY3.out.c1
    have f0 := HY3.out.free 0
    have f1 := HY3.out.free 1
    go_wp2
    obtain ⟨hx7, hn7⟩ := ResTL.put (w := w) (c := c3) (d := d3) G.out HOKL.out.len HOKL.out.lenb (by omega) (by omega) HT.out HY3.out (by omega) (by have := HS.out; omega) (HMF3.out.less (show w.heap.size + 2 ≤ w2.heap.size by have := HS.out; omega)) (HRF3.out.less (show w.heap.size + 2 ≤ w2.heap.size by have := HS.out; omega)) HB3.out
    exact bodyPost_ret (v := .tuple #[.agg #[.slice A3 (n') c3, .slice D3 (n') d3], .int .i64 0]) (results_boxed rfl _ _ (w.heap.size + 1) 27 _ (0, 0) _ _ rfl hx7 Try.underlying27 rfl info_tabR rfl) rfl hn7
end Go.Proofs.Ytchimobmkmgkmaa
