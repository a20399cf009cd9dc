/-
  Schemes scaled and inverted, the program's.
-/
import Derived.Test.YtchimobmkmgkmaaTqE
import Derived.Deep.RegionHeld3
import Derived.Deep.DeepCutAuto
namespace Go.Proofs.Ytchimobmkmgkmaa
open Go.RowKit Fld
set_option linter.unusedVariables false
set_option linter.unusedSimpArgs false
set_option maxRecDepth 100000

set_option maxHeartbeats 2000000 in
theorem scaled_any (A D : Option Addr) (n c n' d B B' : Nat) (m : List (List Int)) (b : List Int) (y : Int) (w : World) (hl : m.length = n) (hl' : b.length = n') (hn : n ≤ 8) (hn' : n' ≤ 8) (hw : ∀ r ∈ m, r.length ≤ 8) (hnum : ∀ r ∈ m, allNum r = true) (hnb : allNum b = true) (y0 : 0 ≤ y) (y1 : y < 10007) (hB : B ≤ w.heap.size) (hB' : B' ≤ w.heap.size) (h : Mat w B A m) (r : Row w B' D (ints b)) :
    Calls Try.prog 66 #[.agg #[.slice A n c, .slice D n' d], .int .i64 y] w (NewF n n' (scaleM y m) (scaleL y b) w) := by
  obtain ⟨W0, hW0⟩ : ∃ W0, W0 = ((w.alloc (.cells #[.slice A n c, .slice D n' d] 58)).alloc (.cells #[.int .i64 y] 65)).alloc (.cells #[.slice none 0 0, .slice none 0 0] 58) := ⟨_, rfl⟩
  have B1 : Below w.heap.size w (w.alloc (.cells #[.slice A n c, .slice D n' d] 58)) := (Below.refl _ _).alloc (Nat.le_refl _) _
  have FB : Below w.heap.size w W0 := by rw [hW0]; exact (B1.alloc (by simp) _).alloc (by simp; omega) _
  have FS : W0.heap.size = w.heap.size + 3 := by rw [hW0]; simp
  have F1 : Bx W0 w.heap.size 58 (.slice A n c) (.slice D n' d) := by
    rw [hW0]; exact ((Bx.new w _ _ _).next ((Below.refl _ _).alloc (Nat.le_refl _) _)).next ((Below.refl _ _).alloc (Nat.le_refl _) _)
  have F2 : Bx W0 (w.heap.size + 2) 58 (.slice none 0 0) (.slice none 0 0) := by
    rw [hW0]; have := Bx.new ((w.alloc (.cells #[.slice A n c, .slice D n' d] 58)).alloc (.cells #[.int .i64 y] 65)) 58 (.slice none 0 0) (.slice none 0 0); simpa using this
  have F3 : W0.cell? ⟨w.heap.size + 1, 0, none⟩ = some (.int .i64 y) := by
    have h1 : W0.heap[w.heap.size + 1]? = some (.cells #[.int .i64 y] 65 (0, 0)) := by
      rw [hW0, Below.heap_alloc _ _ _ (by simp)]
      have := heap_alloc_new (w.alloc (.cells #[.slice A n c, .slice D n' d] 58)) (.cells #[.int .i64 y] 65)
      simpa using this
    rw [cell_of_row _ _ 0 _ _ _ h1]; rfl
  have HL := Lib.hid hl
  have HL' := Lib.hid hl'
  have HM := Lib.hid (h.below FB hB)
  have HR := Lib.hid (r.below FB hB')
  have HF2 := Lib.hid F2
  have HF3 := Lib.hid F3
  have HB := Lib.hid FB
  have FS2 := Lib.hid FS
  have q0 := F1.c0
  have q1 := F1.c1
  have hlen : ∀ r, r ∈ m ∨ r = b → r.length ≤ 8 := fun r hr => by rcases hr with hr | rfl; exact hw r hr; omega
  have hall : ∀ r, r ∈ m ∨ r = b → allNum r = true := fun r hr => by rcases hr with hr | rfl; exact hnum r hr; exact hnb
  have C1 := eachRow_scaled A D n c n' d B B' (w.heap.size + 1) m b y W0 hl hl' hn (by omega) (by omega) HM.out HR.out (fun r _ => scaleL_length y r) (fun W A2 c2 q r hW hr hq hrow => scaled1_any A2 q c2 W.heap.size (w.heap.size + 1) r y W hq (by rw [← hq]; exact hlen r hr) (hall r hr) y0 y1 (Nat.le_refl _) hrow ((hW.cell (p := ⟨w.heap.size + 1, 0, none⟩) (by show w.heap.size + 1 < W0.heap.size; omega)).trans HF3.out))
  clear hl hl' h r F1 F2 F3 FB hw hnum hnb hlen hall B1
  go_enter Try.func66, Try.ntmps66
  go_wp2_with fail
  rw [← hW0]
  clear hW0
  refine C1.mono ?_
  rintro e w2 ⟨A2, c2, D2, d2, rfl, hc2, hd2, m2, r2, b2⟩
  have G2 := HF2.out.next b2
  have k0 := G2.c0
  have k1 := G2.c1
  have f0 := G2.free 0
  have f1 := G2.free 1
  have HG2 := Lib.hid G2
  have M2 := Lib.hid m2
  have R2 := Lib.hid r2
  have B2 := Lib.hid (HB.out.trans (b2.mono HB.out.size))
  clear m2 r2 b2 G2 C1 q0 q1
  go_wp2
  obtain ⟨hx7, hn7⟩ := NewF.put (w := w) (n := n) (n' := n') (c := c2) (d := d2) HG2.out (by omega) (by have := FS2.out; omega) hc2 hd2 M2.out R2.out B2.out
  exact bodyPost_ret (v := .agg #[.slice A2 n c2, .slice D2 n' d2]) (results_cell_row rfl _ _ (w.heap.size + 2) 58 _ (0, 0) _ rfl hx7 Try.underlying58 rfl info_schR) rfl hn7
theorem zeros_row {w : World} {base g n : Nat} {T : TypeId} (h : w.ownsRow base T 1 (.slice (some ⟨g, 0, none⟩) n n) n (madeCells (Value.int .i64 0).cells (n * 1)).toList) : w.ownsRow base T 1 (.slice (some ⟨g, 0, none⟩) n n) n (ints (List.replicate n 0)) := by
  have e : ints (List.replicate n 0) = (madeCells (Value.int .i64 0).cells (n * 1)).toList := by
    rw [Nat.mul_one, show (Value.int .i64 0).cells = #[.int .i64 0] from rfl, toList_madeCells_one]; simp [ints, intsK]
  rw [e]; exact h
set_option maxHeartbeats 4000000 in
theorem inverse_sch (A D : Option Addr) (n c d B B' : Nat) (m : List (List Int)) (b : List Int) (w : World) (hok : SchOk m b n) (hn : n ≤ 8) (hB : B ≤ w.heap.size) (hB' : B' ≤ w.heap.size) (h : Mat w B A m) (r : Row w B' D (ints b)) :
    Calls Try.prog 69 #[.agg #[.slice A n c, .slice D n d]] w (NewF n n (invM m b) (negL b) w) := by
  obtain ⟨i0, hi, hz0, hz1, hz2⟩ := info_parts info_numE
  obtain ⟨W0, hW0⟩ : ∃ W0, W0 = (w.alloc (.cells #[.slice A n c, .slice D n d] 58)).alloc (.cells #[.slice none 0 0, .slice none 0 0] 58) := ⟨_, rfl⟩
  have FB : Below w.heap.size w W0 := by rw [hW0]; exact ((Below.refl _ _).alloc (Nat.le_refl _) _).alloc (by simp) _
  have FS : W0.heap.size = w.heap.size + 2 := by rw [hW0]; simp
  have F1 : Bx W0 w.heap.size 58 (.slice A n c) (.slice D n d) := by
    rw [hW0]; exact (Bx.new w _ _ _).next ((Below.refl _ _).alloc (Nat.le_refl _) _)
  have F2 : Bx W0 (w.heap.size + 1) 58 (.slice none 0 0) (.slice none 0 0) := by
    rw [hW0]; have := Bx.new (w.alloc (.cells #[.slice A n c, .slice D n d] 58)) 58 (.slice none 0 0) (.slice none 0 0); simpa using this
  have HM := Lib.hid (h.below FB hB)
  have HR := Lib.hid (r.below FB hB')
  have HF1 := Lib.hid F1
  have HF2 := Lib.hid F2
  have HB := Lib.hid FB
  have FS2 := Lib.hid FS
  have HOK := Lib.hid hok
  have KK : Hid (∀ V, Below W0.heap.size W0 V → V.cell? ⟨w.heap.size, 0, none⟩ = some (.slice A n c) ∧ V.cell? ⟨w.heap.size, 1, none⟩ = some (.slice D n d)) := fun V hV => ⟨(F1.next hV).c0, (F1.next hV).c1⟩
  have CM : ∀ W : World, W0.heap.size ≤ W.heap.size → ∃ w', (Instr.makeSlice 56 (.int .i64 n) (.int .i64 n)).run Try.prog W = .ok (.slice (some ⟨W.heap.size, 0, none⟩) n n) w' ∧ w'.ownsRow W0.heap.size 65 1 (.slice (some ⟨W.heap.size, 0, none⟩) n n) n (ints (List.replicate n 0)) ∧ W.grownBy w' none := fun W hW => by
    obtain ⟨w', q1, q2, q3⟩ := run_make_full (P := Try.prog) W W0.heap.size 56 65 i0 _ 1 Try.underlying56 hi hz0 hz1 .i64 .i64 n (by rw [hz2]; omega) (by simp only [maxLen]; omega) hW
    exact ⟨w', q1, zeros_row q2, q3⟩
  clear hok h r F1 F2 FB FS
  go_enter Try.func69, Try.ntmps69
  go_upto_region 1 with fail
  go_cut [3] (fun v wx => ∃ gs gz : Nat, v = .pointer (some ⟨gs, 0, none⟩) ∧ Hid (Bx wx gs 58 (.slice A n c) (.slice (some ⟨gz, 0, none⟩) n n)) ∧ Hid (Row wx wx.heap.size (some ⟨gz, 0, none⟩) (ints (List.replicate n 0))) ∧ Hid (Below W0.heap.size W0 wx))
  case first =>
    change Code.wp _ _ _ _ ((w.alloc (.cells #[.slice A n c, .slice D n d] 58)).alloc (.cells #[.slice none 0 0, .slice none 0 0] 58))
    rw [← hW0]
    clear hW0
    have BA : Below W0.heap.size W0 (W0.alloc (.cells #[.slice none 0 0, .slice none 0 0] 58)) := (Below.refl _ _).alloc (Nat.le_refl _) _
    go_region_held3 (fun V => V.cell? ⟨w.heap.size, 0, none⟩ = some (.slice A n c) ∧ V.cell? ⟨w.heap.size, 1, none⟩ = some (.slice D n d))
      (first | exact KK.out _ (Below.refl _ _) | exact KK.out _ (Below.refl _ _).drew | exact KK.out _ (below_drewN (Below.refl _ _) _) | exact KK.out _ ((Below.refl W0.heap.size W0).drew.grown r2 (Nat.le_refl _) (fun k hk => by cases hk)) | exact KK.out _ (((Below.refl W0.heap.size W0).drew.grown r2 (Nat.le_refl _) (fun k hk => by cases hk)).alloc r2.size _) | exact KK.out _ BA | exact KK.out _ BA.drew | exact KK.out _ (BA.drew.grown r3 (by simp) (fun k hk => by cases hk)) | exact KK.out _ (below_set (below_set (BA.drew.grown r3 (by simp) (fun k hk => by cases hk)) (Nat.le_refl _) _) (Nat.le_refl _) _))
      (first
        | (obtain ⟨w5, hrun5, r1, r2⟩ := CM W0.drew (Nat.le_refl _); rw [hrun5]; go_simp)
        | (obtain ⟨w5, hrun5, r1, r3⟩ := CM (W0.alloc (.cells #[.slice none 0 0, .slice none 0 0] 58)).drew (by simp); rw [hrun5]; have G5 : Bx w5 W0.heap.size 58 (.slice none 0 0) (.slice none 0 0) := (r3.block W0.heap.size (by simp) (fun e => by cases e)).trans (Bx.new W0 _ _ _); have g0 := G5.c0; have g1 := G5.c1; have f0 := G5.free 0; have f1 := G5.free 1; go_simp))
    · have hb5 : Below W0.heap.size W0 w5 := (Below.refl W0.heap.size W0).drew.grown r2 (Nat.le_refl _) (fun k hk => by cases hk)
      have R5 := Lib.hid ((row_of_own r1).alloc (Nat.le_refl _) (.cells #[.slice A n c, .slice (some ⟨W0.heap.size, 0, none⟩) n n] 58))
      have B5 := Lib.hid (hb5.alloc hb5.size (.cells #[.slice A n c, .slice (some ⟨W0.heap.size, 0, none⟩) n n] 58))
      have X5 := Lib.hid (Bx.new w5 58 (.slice A n c) (.slice (some ⟨W0.heap.size, 0, none⟩) n n))
      clear r1 r2 hb5
      go_wp2_with fail
      go_meet
      exact ⟨w5.heap.size, W0.heap.size, rfl, X5, R5.out.more (by simp), B5⟩
    · have hb5 : Below W0.heap.size W0 w5 := BA.drew.grown r3 (by simp) (fun k hk => by cases hk)
      have hzz : (W0.alloc (.cells #[.slice none 0 0, .slice none 0 0] 58)).drew.heap.size = W0.heap.size + 1 := by simp
      rw [hzz] at r1
      have G5 : Bx w5 W0.heap.size 58 (.slice none 0 0) (.slice none 0 0) := (r3.block W0.heap.size (by simp) (fun e => by cases e)).trans (Bx.new W0 _ _ _)
      have X5 := Lib.hid (G5.stored (.slice A n c) (.slice (some ⟨W0.heap.size + 1, 0, none⟩) n n))
      have B5 := Lib.hid (below_set (below_set hb5 (Nat.le_refl _) (.slice A n c) (k := 0)) (Nat.le_refl _) (.slice (some ⟨W0.heap.size + 1, 0, none⟩) n n) (k := 1))
      have hsz : ((w5.setCell ⟨W0.heap.size, 0, none⟩ (.slice A n c)).setCell ⟨W0.heap.size, 1, none⟩ (.slice (some ⟨W0.heap.size + 1, 0, none⟩) n n)).heap.size = w5.heap.size := by simp [World.setCell]
      have R5 : Hid (Row ((w5.setCell ⟨W0.heap.size, 0, none⟩ (.slice A n c)).setCell ⟨W0.heap.size, 1, none⟩ (.slice (some ⟨W0.heap.size + 1, 0, none⟩) n n)) w5.heap.size (some ⟨W0.heap.size + 1, 0, none⟩) (ints (List.replicate n 0))) := fun k v hv => by
        obtain ⟨b2, o2, e, hb, hc⟩ := row_of_own r1 k v hv
        injection e with e
        injection e with e1 e2
        subst e1 e2
        exact ⟨_, _, rfl, hb, cell_othT (cell_othT hc (by omega)) (by omega)⟩
      clear r1 r3 hb5 G5 hzz
      go_wp2_with fail
      go_meet
      exact ⟨W0.heap.size, W0.heap.size + 1, rfl, X5, by rw [hsz]; exact R5, B5⟩
  case rest =>
    obtain ⟨gs, gz, rfl, X5, R5, B5⟩ := hcut
    have q0 := X5.out.c0
    have q1 := X5.out.c1
    have hz5 := B5.out.size
    have hzs := FS2.out
    have F5 := HF1.out.next B5.out
    have HF5 := Lib.hid F5
    have hlm := HOK.out.len
    have hlb := HOK.out.lenb
    have C1 := eachRow_inverse A (some ⟨gz, 0, none⟩) n c n n B wc.heap.size w.heap.size m (List.replicate n 0) b wc hlm (by simp) hn (by omega) (Nat.le_refl _) (HM.out.below B5.out (by omega)) R5.out
      (fun r hr => lessL_length (by rw [hlb]; rcases hr with hr | rfl; exact HOK.out.wide r hr; simp))
      (fun W A2 c2 q r hW hr hq hrow => by
        have hqn : q = n := by rw [← hq]; rcases hr with hr | rfl; exact HOK.out.wide r hr; simp
        subst hqn
        exact inverse1_any A2 A D q c2 q c d W.heap.size W.heap.size w.heap.size r b W hq hlb hn (by rcases hr with hr | rfl; exact HOK.out.num r hr; exact allNum_zeros _) HOK.out.numb (Nat.le_refl _) (Nat.le_refl _) hrow (((HR.out.below B5.out (by omega)).below hW (by omega)).more (by have := hW.size; omega)) (HF5.out.next hW))
    have hneg : Hid (lessL b (List.replicate n 0) = negL b) := by unfold negL; rw [hlb]; rfl
    clear hlm hlb F5 hW0
    go_wp2_with fail
    refine C1.mono ?_
    rintro e w2 ⟨A2, c2, D2, d2, rfl, hc2, hd2, m2, r2, b2⟩
    have G2 := (HF2.out.next B5.out).next b2
    have k0 := G2.c0
    have k1 := G2.c1
    have f0 := G2.free 0
    have f1 := G2.free 1
    have HG2 := Lib.hid G2
    have M2 := Lib.hid m2
    have R2 : Hid (RowF w2 wc.heap.size D2 (ints (negL b))) := by rw [← hneg.out]; exact r2
    have B2 := Lib.hid (HB.out.trans ((B5.out.trans (b2.mono B5.out.size)).mono HB.out.size))
    clear m2 r2 b2 G2 C1 q0 q1
    go_wp2
    obtain ⟨hx7, hn7⟩ := NewF.put (w := w) (n := n) (n' := n) (c := c2) (d := d2) HG2.out (by omega) (by omega) hc2 hd2 M2.out R2.out B2.out
    exact bodyPost_ret (v := .agg #[.slice A2 n c2, .slice D2 n d2]) (results_cell_row rfl _ _ (w.heap.size + 1) 58 _ (0, 0) _ rfl hx7 Try.underlying58 rfl info_schR) rfl hn7
end Go.Proofs.Ytchimobmkmgkmaa
