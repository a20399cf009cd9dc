/-
  The adjoint of a scheme, the program's.
-/
import Derived.Test.YtchimobmkmgkmaaTqS
import Derived.Test.YtchimobmkmgkmaaTqV
import Derived.Test.YtchimobmkmgkmaaNum
namespace Go.Proofs.Ytchimobmkmgkmaa
open Go.RowKit Fld
set_option linter.unusedVariables false
set_option linter.unusedSimpArgs false
set_option maxRecDepth 100000

theorem own_addrT {w : World} {base n c : Nat} {T : TypeId} {A : Option Addr} {vs : List Value} (h : w.ownsRow base T 1 (.slice A n c) n vs) (hn : 0 < n) : ∃ g, A = some ⟨g, 0, none⟩ := by
  rcases h.2 with ⟨e1, e2⟩ | ⟨g, cap, cur, e1, _⟩
  · exfalso; have := own_len h; rw [e2] at this; simp at this; omega
  · injection e1 with e1 _ _; exact ⟨g, e1⟩
def adjM (m : List (List Int)) (b : List Int) (n : Nat) : List (List Int) := takeM (List.range n).reverse (scaleM 10006 (invM m b))
def adjB (b : List Int) (n : Nat) : List Int := takeL (List.range n).reverse (scaleL 10006 (negL b))
theorem rev_lt {n i : Nat} (h : i ∈ (List.range n).reverse) : i < n := by rw [List.mem_reverse] at h; exact List.mem_range.1 h
theorem adj_ok {m : List (List Int)} {b : List Int} {n : Nat} (h : SchOk m b n) : SchOk (adjM m b n) (adjB b n) n := by
  have := (scale_ok 10006 (inv_ok h)).take (is := (List.range n).reverse) (fun i hi => rev_lt hi)
  simpa [adjM, adjB] using this
set_option maxHeartbeats 2000000 in
theorem adjoint_any (A D : Option Addr) (n c d B B' : Nat) (m : List (List Int)) (b : List Int) (w : World) (hok : SchOk m b n) (hn1 : 1 ≤ n) (hn : n ≤ 8) (hB : B ≤ w.heap.size) (hB' : B' ≤ w.heap.size) (h : Mat w B A m) (r : Row w B' D (ints b)) :
    Calls Try.prog 72 #[.agg #[.slice A n c, .slice D n d]] w (NewF n n (adjM m b n) (adjB b n) w) := by
  obtain ⟨W0, hW0⟩ : ∃ W0, W0 = (w.alloc (.cells #[.slice A n c, .slice D n d] 58)).alloc (.cells #[.slice none 0 0, .slice none 0 0] 58) := ⟨_, rfl⟩
  have FB : Below w.heap.size w W0 := by rw [hW0]; exact ((Below.refl _ _).alloc (Nat.le_refl _) _).alloc (by simp) _
  have FS : W0.heap.size = w.heap.size + 2 := by rw [hW0]; simp
  have F1 : Bx W0 w.heap.size 58 (.slice A n c) (.slice D n d) := by
    rw [hW0]; exact (Bx.new w _ _ _).next ((Below.refl _ _).alloc (Nat.le_refl _) _)
  have F2 : Bx W0 (w.heap.size + 1) 58 (.slice none 0 0) (.slice none 0 0) := by
    rw [hW0]; have := Bx.new (w.alloc (.cells #[.slice A n c, .slice D n d] 58)) 58 (.slice none 0 0) (.slice none 0 0); simpa using this
  have HM := Lib.hid (h.below FB hB)
  have HR := Lib.hid (r.below FB hB')
  have HX := Lib.hid F1
  have HY := Lib.hid F2
  have HB := Lib.hid FB
  have HS := Lib.hid FS
  have HOK := Lib.hid hok
  have hz := FB.size
  have q0 := F1.c0
  have q1 := F1.c1
  clear h r F1 F2 FB FS hok
  go_enter Try.func72, Try.ntmps72
  go_wp2_with fail
  rw [← hW0]
  clear hW0
  refine (stages_any A D n c n d W0 hn).mono ?_
  rintro e w2 ⟨A2, c2, rfl, own2, b2⟩
  obtain ⟨g2, rfl⟩ := own_addrT own2 (by omega)
  have HO2 := Lib.hid own2
  have HB2 := Lib.hid b2
  have hz2 := b2.size
  have hg2 := own2.lt g2 rfl
  clear own2 b2 q0 q1
  go_wp2_with fail
  refine (reverse_any W0.heap.size g2 n c2 w2 hn1 hn HO2.out).mono ?_
  rintro e w3 ⟨rfl, own3, g3⟩
  have hb3 : Below W0.heap.size W0 w3 := HB2.out.grown g3 hz2 (fun k hk => by have e : g2 = k := Option.some.inj hk; omega)
  have HO3 := Lib.hid (row_of_own own3)
  have HB3 := Lib.hid hb3
  have HX3 := HX.out.next hb3
  have q0 := HX3.c0
  have q1 := HX3.c1
  have hz3 := hb3.size
  clear own3 g3 hb3 HX3
  go_wp2_with fail
  clear q0 q1
  refine (inverse_sch A D n c d B B' m b w3 HOK.out hn (by omega) (by omega) (HM.out.below HB3.out (by omega)) (HR.out.below HB3.out (by omega))).mono ?_
  rintro e w4 ⟨A4, c4, D4, d4, rfl, hc4, hd4, m4, r4, b4⟩
  have HB4 := Lib.hid (HB3.out.trans (b4.mono hz3))
  have HM4 := Lib.hid m4.mat
  have HR4 := Lib.hid r4.row
  have HO4 := Lib.hid (HO3.out.below b4 (Nat.le_refl _))
  have hz4 := b4.size
  clear b4 m4 r4
  go_wp2_with fail
  refine (reduced_any (-1) w4).mono ?_
  rintro e w' ⟨rfl, rfl⟩
  rw [show (-1 : Int) % 10007 = 10006 from by decide]
  have HOI := Lib.hid (inv_ok HOK.out)
  go_wp2_with fail
  refine (scaled_any A4 D4 n c4 n d4 w4.heap.size w4.heap.size (invM m b) (negL b) 10006 w4 HOI.out.len HOI.out.lenb hn hn (fun r hr => by rw [HOI.out.wide r hr]; exact hn) HOI.out.num HOI.out.numb (by omega) (by omega) (Nat.le_refl _) (Nat.le_refl _) HM4.out HR4.out).mono ?_
  rintro e w5 ⟨A5, c5, D5, d5, rfl, hc5, hd5, m5, r5, b5⟩
  have HB5 := Lib.hid (HB4.out.trans (b5.mono (by omega)))
  have HM5 := Lib.hid m5.mat
  have HR5 := Lib.hid r5.row
  have HO5 := Lib.hid (HO4.out.below b5 (by omega))
  have hz5 := b5.size
  clear b5 m5 r5
  have HOS := Lib.hid (scale_ok 10006 HOI.out)
  have hrl : (List.range n).reverse.length = n := by simp
  go_wp2_with fail
  refine (taking_any A5 D5 (some ⟨g2, 0, none⟩) n c5 d5 n c2 w5.heap.size w5.heap.size w3.heap.size (scaleM 10006 (invM m b)) (scaleL 10006 (negL b)) (List.range n).reverse w5 HOS.out hn hrl hn (fun i hi => rev_lt hi) (Nat.le_refl _) (Nat.le_refl _) (by omega) HM5.out HR5.out HO5.out).mono ?_
  rintro e w6 ⟨A6, c6, D6, d6, rfl, hc6, hd6, m6, r6, b6⟩
  have HB6 := Lib.hid (HB5.out.trans (b6.mono (by omega)))
  have HM6 := Lib.hid m6
  have HR6 := Lib.hid r6
  have HY6 := HY.out.next HB6.out
  have k0 := HY6.c0
  have k1 := HY6.c1
  have f0 := HY6.free 0
  have f1 := HY6.free 1
  have HYY := Lib.hid HY6
  clear b6 m6 r6 HY6
  go_wp2
  obtain ⟨hx7, hn7⟩ := NewF.put (w := w) (n := n) (n' := n) (c := c6) (d := d6) (m := adjM m b n) (b := adjB b n) HYY.out (by omega) (by have := HS.out; omega) hc6 hd6 HM6.out HR6.out (HB.out.trans (HB6.out.mono HB.out.size))
  exact bodyPost_ret (v := .agg #[.slice A6 n c6, .slice D6 n d6]) (results_cell_row rfl _ _ (w.heap.size + 1) 58 _ (0, 0) _ rfl hx7 Try.underlying58 rfl info_schR) rfl hn7
end Go.Proofs.Ytchimobmkmgkmaa
