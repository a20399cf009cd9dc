/-
  The program's copy of a tableau.
-/
import Derived.Test.YtnnihdkhblbdgaaTabI
import Derived.Test.YtnnihdkhblbdgaaSysO
namespace Go.Proofs.Ytnnihdkhblbdgaa
open Go.RowKit Fld
set_option linter.unusedVariables false
set_option linter.unusedSimpArgs false
set_option maxRecDepth 100000

theorem cell_othT {w : World} {b g k : Nat} {o : Nat} {v x : Value} (h : w.cell? ⟨b, o, none⟩ = some x) (hne : b ≠ g) : (w.setCell ⟨g, k, none⟩ v).cell? ⟨b, o, none⟩ = some x :=
  (World.cell?_of_block (heap_setCell_other w ⟨g, k, none⟩ b v hne)).trans h
/-- a new scheme: rows and numbers that can be read -/
def NewSch (n n' : Nat) (m : List (List Int)) (b : List Int) (w : World) (e : Ending) (w' : World) : Prop :=
  ∃ A c D d, e = .returned (.agg #[.slice A n c, .slice D n' d]) ∧ n ≤ c ∧ n' ≤ d ∧ Mat w' w'.heap.size A m ∧ Row w' w'.heap.size D (ints b) ∧ Below w.heap.size w w'
theorem info_sch : (Try.prog.info? 60).map (·.size) = some 2 := by kernel_rfl
set_option maxHeartbeats 2000000 in
theorem schemeOf_any (A D : Option Addr) (n c n' d B B' q : Nat) (m : List (List Int)) (b : List Int) (w : World) (hl : m.length = n) (hl' : b.length = n') (hn : n ≤ 8) (hq : Wide m q) (hq16 : q ≤ 16) (hn' : n' ≤ 1048576) (hB : B ≤ w.heap.size) (hB' : B' ≤ w.heap.size) (h : Mat w B A m) (r : Row w B' D (ints b)) :
    Calls Try.prog 41 #[.agg #[.slice A n c, .slice D n' d]] w (NewSch n n' m b w) := by
  have HL := Lib.hid hl
  have HL' := Lib.hid hl'
  have HQ := Lib.hid hq
  obtain ⟨W0, hW0⟩ : ∃ W0, W0 = (w.alloc (.cells #[.slice A n c, .slice D n' d] 29)).alloc (.cells #[.slice none 0 0, .slice none 0 0] 60) := ⟨_, rfl⟩
  have FB : Below w.heap.size w W0 := by rw [hW0]; exact ((Below.refl _ _).alloc (Nat.le_refl _) _).alloc (by simp) _
  have FS : W0.heap.size = w.heap.size + 2 := by rw [hW0]; simp
  have F0 : Bx W0 w.heap.size 29 (.slice A n c) (.slice D n' d) := by
    rw [hW0]; exact (Bx.new w _ _ _).next ((Below.refl _ _).alloc (Nat.le_refl _) _)
  have F1 : Bx W0 (w.heap.size + 1) 60 (.slice none 0 0) (.slice none 0 0) := by
    rw [hW0]; have := Bx.new (w.alloc (.cells #[.slice A n c, .slice D n' d] 29)) 60 (.slice none 0 0) (.slice none 0 0); simpa using this
  have HM := Lib.hid (h.below FB hB)
  have HR := Lib.hid (r.below FB hB')
  have T1 := fun W (hW : Below W0.heap.size W0 W) => systemOf_any A n c B q m W HL.out hn HQ.out hq16 (by have := hW.size; have := FB.size; omega) (HM.out.below hW (by have := FB.size; omega))
  have T2 := fun W (hW : Below W0.heap.size W0 W) => numbersOf_any D n' d B' b W HL'.out hn' (by have := hW.size; have := FB.size; omega) (HR.out.below hW (by have := FB.size; omega))
  have HK : Hid (∀ W, Below W0.heap.size W0 W → W.cell? ⟨w.heap.size, 0, none⟩ = some (.slice A n c) ∧ W.cell? ⟨w.heap.size, 1, none⟩ = some (.slice D n' d)) := fun W hb => ⟨(F0.next hb).c0, (F0.next hb).c1⟩
  have H2 : Hid (∀ W, Below W0.heap.size W0 W → Bx W (w.heap.size + 1) 60 (.slice none 0 0) (.slice none 0 0)) := fun W hb => F1.next hb
  have HB := Lib.hid FB
  have HS := Lib.hid FS
  clear F0 F1 FB FS hl hl' hq h r hB hB'
  go_enter Try.func41, Try.ntmps41
  go_wp2_with fail
  change Code.wp _ _ _ _ ((w.alloc (.cells #[.slice A n c, .slice D n' d] 29)).alloc (.cells #[.slice none 0 0, .slice none 0 0] 60))
  rw [← hW0]
  clear hW0
  go_region_held3 (fun W => W.cell? ⟨w.heap.size, 0, none⟩ = some (.slice A n c) ∧ W.cell? ⟨w.heap.size, 1, none⟩ = some (.slice D n' d))
    (first | exact HK.out _ (Below.refl _ _).drew | exact HK.out _ (below_drewN (Below.refl _ _) _) | exact HK.out _ (below_undrawn (a := 1) bel2) | exact HK.out w3 ((below_undrawn (a := 1) bel2).trans (bel3.mono bel2.size)) | (have hz := HK.out w3 ((below_undrawn (a := 1) bel2).trans (bel3.mono bel2.size)); exact ⟨cell_othT (cell_othT hz.1 (by omega)) (by omega), cell_othT (cell_othT hz.2 (by omega)) (by omega)⟩))
    (first
      | (go_at_call 69; refine (T1 _ (by first | exact (Below.refl _ _).drew | exact below_drewN (Below.refl _ _) _)).mono ?_; clear T1; rintro e w2 ⟨A2, c2, vs2, rfl, own2, bel2⟩)
      | (go_at_call 66; refine (T2 _ (by exact below_undrawn (a := 1) bel2)).mono ?_; clear T2; rintro e w3 ⟨A3, c3, rfl, own3, bel3⟩)
      | (have hz := H2.out w3 ((below_undrawn (a := 1) bel2).trans (bel3.mono bel2.size)); have z0 := hz.c0; have z1 := hz.c1; have f0 := hz.free 0; have f1 := hz.free 1; clear hz; go_simp))
  have hb3 : Below W0.heap.size W0 w3 := (below_undrawn (a := 1) bel2).trans (bel3.mono bel2.size)
  have hz2 : W0.heap.size ≤ w2.heap.size := bel2.size
  have hz3 := bel3.size
  have R : Bx ((w3.setCell ⟨w.heap.size + 1, 0, none⟩ (.slice A2 n c2)).setCell ⟨w.heap.size + 1, 1, none⟩ (.slice A3 n' c3)) (w.heap.size + 1) 60 (.slice A2 n c2) (.slice A3 n' c3) := (H2.out w3 hb3).stored _ _
  have hk : ∀ g, W0.heap.size ≤ g → ((w3.setCell ⟨w.heap.size + 1, 0, none⟩ (.slice A2 n c2)).setCell ⟨w.heap.size + 1, 1, none⟩ (.slice A3 n' c3)).heap[g]? = w3.heap[g]? := fun g hg => by
    rw [Below.heap_setCell _ _ _ _ (by show g ≠ w.heap.size + 1; have := HS.out; omega), Below.heap_setCell _ _ _ _ (by show g ≠ w.heap.size + 1; have := HS.out; omega)]
  have hsz : ((w3.setCell ⟨w.heap.size + 1, 0, none⟩ (.slice A2 n c2)).setCell ⟨w.heap.size + 1, 1, none⟩ (.slice A3 n' c3)).heap.size = w3.heap.size := by simp [World.setCell]
  have GB : Hid (Below w.heap.size w ((w3.setCell ⟨w.heap.size + 1, 0, none⟩ (.slice A2 n c2)).setCell ⟨w.heap.size + 1, 1, none⟩ (.slice A3 n' c3))) := by
    have h0 : Below w.heap.size w w3 := HB.out.trans (hb3.mono HB.out.size)
    exact below_set (below_set h0 (by omega) _) (by omega) _
  have GM := Lib.hid (((own2.below bel3 (Nat.le_refl _)).keep (fun g h1 h2 => hk g h1)).mat.more (B' := ((w3.setCell ⟨w.heap.size + 1, 0, none⟩ (.slice A2 n c2)).setCell ⟨w.heap.size + 1, 1, none⟩ (.slice A3 n' c3)).heap.size) (by rw [hsz]; exact hz3))
  have GR := Lib.hid (((OwnR.of own3).keep (fun g h1 h2 => hk g (by omega))).row.more (B' := ((w3.setCell ⟨w.heap.size + 1, 0, none⟩ (.slice A2 n c2)).setCell ⟨w.heap.size + 1, 1, none⟩ (.slice A3 n' c3)).heap.size) (by rw [hsz]; exact Nat.le_refl _))
  have hc2 : n ≤ c2 := by
    rcases own2.outer.1.2 with ⟨e1, e2⟩ | ⟨g, cap, cur, e1, _, _, e2, e3, _⟩
    · injection e1 with _ _ e3; subst e3; omega
    · injection e1 with _ _ e4; subst e4; exact e2
  have hc3 := (own_cap own3).1
  have HR2 := Lib.hid R
  clear R own2 own3 bel2 bel3 hb3 hk hsz hz2 hz3
  go_wp2
  refine bodyPost_ret (v := .agg #[.slice A2 n c2, .slice A3 n' c3]) ?_ rfl ⟨A2, c2, A3, c3, rfl, hc2, hc3, GM.out, GR.out, GB.out⟩
  exact results_cell_row rfl _ _ (w.heap.size + 1) 60 _ (0, 0) _ rfl HR2.out Try.underlying60 rfl info_sch
end Go.Proofs.Ytnnihdkhblbdgaa
