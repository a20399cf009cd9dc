/-
  Tableaus in memory: an argument opened; sizes, copies, comparisons, marks.
-/
import Derived.Test.YtnnihdkhblbdgaaBase
import Derived.Test.YtnnihdkhblbdgaaNest
import Derived.Test.YtnnihdkhblbdgaaNestc
import Derived.Test.YtnnihdkhblbdgaaMarks
import Derived.Deep.SlicePairs
namespace Go.Proofs.Ytnnihdkhblbdgaa
open Go.ChangeShapes Go.WideShapes Go.RowKit Fld
set_option linter.unusedVariables false
set_option linter.unusedSimpArgs false
set_option maxRecDepth 100000

section
variable {H : Type} {enc : TypeId × Value → H} {P : Program} {w : World} {d : DataW H} {ps : List MemPlace}
/-- what came in as a tableau -/
theorem isTab_of {t q r : TypeId} {f0 f1 : Field} {base : Nat} {v : Value} (ht : P.underlying t = some (.struct #[f0, f1])) (ct : P.cellsOf t = 2) (o0 : f0.offset = 0) (o1 : f1.offset = 1)
    (t0 : P.underlying f0.type = some (.slice q)) (t1 : P.underlying f1.type = some (.slice r)) (hq : P.underlying q = some (.slice r)) (hr : P.underlying r = some (.int .i64)) (c0 : P.cellsOf f0.type = 1) (c1 : P.cellsOf f1.type = 1) (cq : P.cellsOf q = 1) (cr : P.cellsOf r = 1)
    (hval : Value.okWide P w .any base t v) (h : DataW.Trod enc P w 0 (fun _ => true) true t v d ps) :
    ∃ A len cap m A' len' cap' b, v = .agg #[.slice A len cap, .slice A' len' cap'] ∧ IsMat w A len cap m ∧ IsRow .i64 w A' len' cap' b := by
  obtain ⟨cs, rfl, hcs⟩ := okWide_struct ht hval
  obtain ⟨fuel, hf⟩ := h
  rw [ct] at hcs
  obtain ⟨y0, y1, n, _, _, g0, g1⟩ := trod_struct2 ht hf
  have hl : cs.toList.length = 2 := by simpa using hcs
  match hcl : cs.toList, hl with
  | [v0, v1], _ =>
    have e : cs = #[v0, v1] := by rw [← Array.toArray_toList (xs := cs), hcl]
    subst e
    simp [Value.cells, o0, o1, c0, c1] at g0 g1
    obtain ⟨Ak, lk, ck, hv0⟩ : ∃ Ak lk ck, v0 = .slice Ak lk ck := by
      rcases Go.Deep.open_int_rows t0 hq hr cq cr g0 with ⟨hcs, _⟩ | ⟨x', l', c', _, _, _, _, hcs, _⟩
      · injection hcs with hcs _; exact ⟨_, _, _, hcs⟩
      · injection hcs with hcs _; exact ⟨_, _, _, hcs⟩
    obtain ⟨Bk, lk', ck', hv1⟩ : ∃ Ak lk ck, v1 = .slice Ak lk ck := by
      rcases open_ints t1 hr cr g1 with ⟨hcs, _⟩ | ⟨x', l', c', _, hcs, _⟩
      · injection hcs with hcs _; exact ⟨_, _, _, hcs⟩
      · injection hcs with hcs _; exact ⟨_, _, _, hcs⟩
    subst hv0 hv1
    obtain ⟨m, hm⟩ := isMat_of (a := Ak) (len := lk) (cap := ck) t0 hq hr cq cr ⟨n, g0⟩
    obtain ⟨b, hb⟩ := isRow_of (a := Bk) (len := lk') (cap := ck') t1 hr cr ⟨n, g1⟩
    exact ⟨Ak, lk, ck, m, Bk, lk', ck', b, rfl, hm, hb⟩
end

theorem below_undrawn {w w' : World} {a : Nat} (h : Below (w.drewN a).heap.size (w.drewN a) w') : Below w.heap.size w w' := ⟨h.os, h.tape, h.output, h.size, h.block⟩
/-- block g holds two values -/
def Bx (w : World) (g : Nat) (T : TypeId) (u v : Value) : Prop := w.heap[g]? = some (.cells #[u, v] T (0, 0))
theorem Bx.c0 {w : World} {g : Nat} {T : TypeId} {u v : Value} (h : Bx w g T u v) : w.cell? ⟨g, 0, none⟩ = some u := by rw [cell_of_row w g 0 _ _ _ h]; rfl
theorem Bx.c1 {w : World} {g : Nat} {T : TypeId} {u v : Value} (h : Bx w g T u v) : w.cell? ⟨g, 1, none⟩ = some v := by rw [cell_of_row w g 1 _ _ _ h]; rfl
theorem Bx.free {w : World} {g : Nat} {T : TypeId} {u v : Value} (h : Bx w g T u v) (k : Nat) : w.frozen? ⟨g, k, none⟩ = false := frozen_of_row w g k _ _ h
theorem Bx.lt {w : World} {g : Nat} {T : TypeId} {u v : Value} (h : Bx w g T u v) : g < w.heap.size := (Array.getElem?_eq_some_iff.1 h).1
theorem Bx.below {w w' : World} {g B : Nat} {T : TypeId} {u v : Value} (h : Bx w g T u v) (hb : Below B w w') (hg : g < B) : Bx w' g T u v := (hb.block g hg).trans h
theorem Bx.next {w w' : World} {g : Nat} {T : TypeId} {u v : Value} (h : Bx w g T u v) (hb : Below w.heap.size w w') : Bx w' g T u v := h.below hb h.lt
theorem Bx.within {w w' : World} {g lo hi : Nat} {T : TypeId} {u v : Value} (h : Bx w g T u v) (hb : Within lo hi w w') (hg : g < lo ∨ hi ≤ g) : Bx w' g T u v := (hb.block g h.lt hg).trans h
theorem Bx.new (w : World) (T : TypeId) (u v : Value) : Bx (w.alloc (.cells #[u, v] T)) w.heap.size T u v := heap_alloc_new w _
theorem Bx.stored {w : World} {g : Nat} {T : TypeId} {u v : Value} (h : Bx w g T u v) (x y : Value) : Bx ((w.setCell ⟨g, 0, none⟩ x).setCell ⟨g, 1, none⟩ y) g T x y := by
  unfold Bx at h ⊢
  have h1 : (w.setCell ⟨g, 0, none⟩ x).heap[g]? = some (.cells #[x, v] T (0, 0)) := by
    simp only [World.setCell, Array.getElem?_modify, if_pos, h, Option.map_some]; rfl
  simp only [World.setCell, Array.getElem?_modify, if_pos, h, Option.map_some] at h1 ⊢; rfl

theorem szTableau_any (A A' : Option Addr) (n c B n' c' : Nat) (m : List (List Int)) (left : Int) (w : World) (hl : m.length = n) (hn : n ≤ 9223372036854775807) (hn' : n' ≤ 9223372036854775807) (hB : B ≤ w.heap.size) (h : Mat w B A m) (h0 : -1 ≤ left) (h1 : left ≤ 1048576) :
    Calls Try.prog 10 #[.agg #[.slice A n c, .slice A' n' c'], .int .i64 left] w fun e w' => e = .returned (.int .i64 (szR left (n + total m + n'))) ∧ Below w.heap.size w w' := by
  have HL := Lib.hid hl
  have HB : Hid (Below w.heap.size w (w.alloc (.cells #[.slice A n c, .slice A' n' c'] 25))) := (Below.refl _ _).alloc (Nat.le_refl _) _
  have HM : Hid (Mat (w.alloc (.cells #[.slice A n c, .slice A' n' c'] 25)) B A m) := h.below HB.out hB
  clear hl h
  go_enter Try.func10, Try.ntmps10
  go_wp2_with fail
  refine (szInt64SS_any A n c B m left _ HL.out hn HM.out h0 h1).mono ?_
  rintro e w' ⟨rfl, rfl⟩
  by_cases hfit : ((n + total m : Nat) : Int) ≤ left
  · have G := szR_pos hfit
    rw [G]
    have H := Lib.hid G
    have hd : decide (left - ((n + total m : Nat) : Int) < 0) = false := decide_eq_false (by omega)
    have hd2 : -1 ≤ left - ((n + total m : Nat) : Int) := by omega
    have hd3 : left - ((n + total m : Nat) : Int) ≤ 1048576 := by omega
    have HE : Hid (szR (left - ((n + total m : Nat) : Int)) n' = szR left (n + total m + n')) := by
      unfold szR Hid
      split <;> split <;> omega
    obtain ⟨L, hL⟩ : ∃ L, L = left - ((n + total m : Nat) : Int) := ⟨_, rfl⟩
    rw [← hL] at hd hd2 hd3 HE ⊢
    clear HM hL G
    go_wp2_with fail
    refine (szInt64S_any A' n' c' L _ hd2 hd3 hn').mono ?_
    rintro e w' ⟨rfl, rfl⟩
    rw [HE.out]
    by_cases hf2 : 0 ≤ szR left (n + total m + n')
    · have hd4 : decide (szR left (n + total m + n') < 0) = false := decide_eq_false (by omega)
      obtain ⟨R, hR⟩ : ∃ R, R = szR left (n + total m + n') := ⟨_, rfl⟩
      rw [← hR] at hd4 hf2 ⊢
      have HR := Lib.hid hR
      clear hR HE
      go_wp2
      go_ret
      exact ⟨ret_i64 HR.out, HB.out⟩
    · have hb := szR_bd left (n + total m + n') h0
      have hd4 : decide (szR left (n + total m + n') < 0) = true := decide_eq_true (by omega)
      have hm1 : Hid (szR left (n + total m + n') = -1) := by rw [Hid]; omega
      obtain ⟨R, hR⟩ : ∃ R, R = szR left (n + total m + n') := ⟨_, rfl⟩
      rw [← hR] at hd4 hf2 hm1 ⊢
      have HR := Lib.hid hR
      clear hR HE hb
      go_wp2
      go_ret
      exact ⟨ret_i64 (hm1.out.symm.trans HR.out), HB.out⟩
  · have G := szR_neg (left := left) (used := n + total m) (by omega)
    have G2 := szR_neg (left := left) (used := n + total m + n') (by omega)
    rw [G]
    have H2 := Lib.hid G2
    clear HM G2
    go_wp2
    go_ret
    exact ⟨ret_i64 H2.out.symm, HB.out⟩
theorem heap_set_sameT {w : World} {g k : Nat} {cs : Array Value} {T : TypeId} (h : w.heap[g]? = some (.cells cs T (0, 0))) (u : Value) : (w.setCell ⟨g, k, none⟩ u).heap[g]? = some (.cells (cs.setIfInBounds k u) T (0, 0)) := by
  simp only [World.setCell, Array.getElem?_modify, if_pos, h, Option.map_some]
  rfl
/-- a new tableau: A's rows and then B -/
def NewTab (n n' : Nat) (m : List (List Int)) (b : List Int) (w : World) (e : Ending) (w' : World) : Prop :=
  ∃ A c vs A' c' mid, e = .returned (.agg #[.slice A n c, .slice A' n' c']) ∧ w.heap.size ≤ mid ∧ mid ≤ w'.heap.size ∧ OwnMat w' w.heap.size mid (.slice A n c) n m vs ∧ OwnR w' mid w'.heap.size 2 (.slice A' n' c') n' (ints b) ∧ Below w.heap.size w w'
set_option maxHeartbeats 800000 in
theorem toTableau_any (A A' : Option Addr) (n c n' c' B : Nat) (m : List (List Int)) (b : List Int) (w : World) (hl : m.length = n) (hl' : b.length = n') (hn : n ≤ 1048576) (ht : total m ≤ 1048576) (hn' : n' ≤ 1048576) (hB : B ≤ w.heap.size) (h : Mat w B A m) (h' : Row w B A' (ints b)) :
    Calls Try.prog 12 #[.agg #[.slice A n c, .slice A' n' c']] w (NewTab n n' m b w) := by
  have HL := Lib.hid hl
  have HL' := Lib.hid hl'
  clear hl hl'
  go_enter Try.func12, Try.ntmps12
  go_wp2_with fail
  have HB3 : Hid (Below w.heap.size w (((w.alloc (.cells #[.slice A n c, .slice A' n' c'] 25)).alloc (.cells #[.slice none 0 0, .slice none 0 0] 29)).alloc (.cells #[.slice none 0 0, .slice none 0 0] 29))) := (((Below.refl _ _).alloc (Nat.le_refl _) _).alloc (by simp) _).alloc (by simp; omega) _
  have HM : Hid (Mat (((w.alloc (.cells #[.slice A n c, .slice A' n' c'] 25)).alloc (.cells #[.slice none 0 0, .slice none 0 0] 29)).alloc (.cells #[.slice none 0 0, .slice none 0 0] 29)) B A m) := h.below HB3.out hB
  refine (toInt64SS_any A n c B m _ HL.out hn ht (by simp; omega) HM.out).mono ?_
  rintro e w4 ⟨A4, c4, vs4, rfl, own4, b4⟩
  have hs3 : (((w.alloc (.cells #[.slice A n c, .slice A' n' c'] 25)).alloc (.cells #[.slice none 0 0, .slice none 0 0] 29)).alloc (.cells #[.slice none 0 0, .slice none 0 0] 29)).heap.size = w.heap.size + 3 := by simp
  have hz4 := b4.size
  have h0 : w4.heap[w.heap.size]? = some (.cells #[.slice A n c, .slice A' n' c'] 25 (0, 0)) := by
    rw [b4.block _ (by rw [hs3]; omega), Below.heap_alloc _ _ _ (by simp; omega), Below.heap_alloc _ _ _ (by simp)]
    exact heap_alloc_new w _
  have h2 : w4.heap[w.heap.size + 1 + 1]? = some (.cells #[.slice none 0 0, .slice none 0 0] 29 (0, 0)) := by
    rw [b4.block _ (by simp)]
    have := heap_alloc_new ((w.alloc (.cells #[.slice A n c, .slice A' n' c'] 25)).alloc (.cells #[.slice none 0 0, .slice none 0 0] 29)) (.cells #[.slice none 0 0, .slice none 0 0] 29)
    simpa using this
  have h1 : w4.heap[w.heap.size + 1]? = some (.cells #[.slice none 0 0, .slice none 0 0] 29 (0, 0)) := by
    rw [b4.block _ (by simp), Below.heap_alloc _ _ _ (by simp)]
    have := heap_alloc_new (w.alloc (.cells #[.slice A n c, .slice A' n' c'] 25)) (.cells #[.slice none 0 0, .slice none 0 0] 29)
    simpa using this
  have k0 : w4.cell? ⟨w.heap.size + 1 + 1, 0, none⟩ = some (.slice none 0 0) := by rw [cell_of_row w4 _ 0 _ _ _ h2]; rfl
  have k1 : w4.cell? ⟨w.heap.size + 1 + 1, 1, none⟩ = some (.slice none 0 0) := by rw [cell_of_row w4 _ 1 _ _ _ h2]; rfl
  have kf : w4.frozen? ⟨w.heap.size + 1 + 1, 0, none⟩ = false := frozen_of_row w4 _ 0 _ _ h2
  have g1 : w4.cell? ⟨w.heap.size, 1, none⟩ = some (.slice A' n' c') := by rw [cell_of_row w4 _ 1 _ _ _ h0]; rfl
  have hO4 := Lib.hid own4
  have hB4 := Lib.hid b4
  have H1 := Lib.hid h1
  have H2 := Lib.hid h2
  obtain ⟨W5, hW5⟩ : ∃ W5, W5 = w4.setCell ⟨w.heap.size + 1 + 1, 0, none⟩ (.slice A4 n c4) := ⟨_, rfl⟩
  have hB5 : Hid (Below w.heap.size w W5) := by
    rw [hW5]
    have h0 : Below w.heap.size w w4 := HB3.out.trans (hB4.out.mono HB3.out.size)
    exact h0.setCell (p := ⟨w.heap.size + 1 + 1, 0, none⟩) (by show w.heap.size ≤ w.heap.size + 1 + 1; omega) _
  have hs5 : Hid (W5.heap.size = w4.heap.size) := by rw [hW5]; simp [World.setCell, Hid]
  have hR5 : Hid (Row W5 B A' (ints b)) := h'.below hB5.out hB
  have hc1 : Hid (W5.cell? ⟨w.heap.size, 1, none⟩ = some (.slice A' n' c')) := by
    rw [hW5, Hid, World.cell?_setCell_other _ _ _ _ (by intro e; simp only [Addr.mk.injEq] at e; omega)]; exact g1
  clear own4 b4 h0 h1 h2 HM h h'
  go_wp2_with fail
  rw [← hW5]
  have H5a : Hid (W5.heap[w.heap.size + 1 + 1]? = some (.cells #[.slice A4 n c4, .slice none 0 0] 29 (0, 0))) := by rw [hW5]; exact heap_set_sameT H2.out _
  have H5b : Hid (W5.heap[w.heap.size + 1]? = some (.cells #[.slice none 0 0, .slice none 0 0] 29 (0, 0))) := by
    rw [hW5, Hid, Below.heap_setCell _ _ _ _ (by show w.heap.size + 1 ≠ w.heap.size + 1 + 1; omega)]; exact H1.out
  have hO5 : Hid (OwnMat W5 (w.heap.size + 3) w4.heap.size (.slice A4 n c4) n m vs4) := by
    rw [hW5]
    refine OwnMat.keep ((show OwnMat w4 (w.heap.size + 3) w4.heap.size (.slice A4 n c4) n m vs4 from by rw [← hs3]; exact hO4.out)) (fun g h1 h2 => ?_)
    rw [Below.heap_setCell _ _ _ _ (by show g ≠ w.heap.size + 1 + 1; omega)]
  clear hW5 k0 k1 kf g1
  rw [hs3] at hz4
  have hz5 : w.heap.size + 3 ≤ W5.heap.size := by rw [hs5.out]; exact hz4
  refine (toInt64S_any A' n' c' B b W5 HL'.out hn' (by omega) hR5.out).mono ?_
  rintro e w6 ⟨A6, c6, rfl, own6, b6⟩
  have hz6 := b6.size
  have h2 : w6.heap[w.heap.size + 1 + 1]? = some (.cells #[.slice A4 n c4, .slice none 0 0] 29 (0, 0)) := by rw [b6.block _ (by omega)]; exact H5a.out
  have h1 : w6.heap[w.heap.size + 1]? = some (.cells #[.slice none 0 0, .slice none 0 0] 29 (0, 0)) := by rw [b6.block _ (by omega)]; exact H5b.out
  have k0 : w6.cell? ⟨w.heap.size + 1 + 1, 0, none⟩ = some (.slice A4 n c4) := by rw [cell_of_row w6 _ 0 _ _ _ h2]; rfl
  have k1 : w6.cell? ⟨w.heap.size + 1 + 1, 1, none⟩ = some (.slice none 0 0) := by rw [cell_of_row w6 _ 1 _ _ _ h2]; rfl
  have kf : w6.frozen? ⟨w.heap.size + 1 + 1, 1, none⟩ = false := frozen_of_row w6 _ 1 _ _ h2
  have j0 : w6.cell? ⟨w.heap.size + 1, 0, none⟩ = some (.slice none 0 0) := by rw [cell_of_row w6 _ 0 _ _ _ h1]; rfl
  have j1 : w6.cell? ⟨w.heap.size + 1, 1, none⟩ = some (.slice none 0 0) := by rw [cell_of_row w6 _ 1 _ _ _ h1]; rfl
  have jf0 : w6.frozen? ⟨w.heap.size + 1, 0, none⟩ = false := frozen_of_row w6 _ 0 _ _ h1
  have jf1 : w6.frozen? ⟨w.heap.size + 1, 1, none⟩ = false := frozen_of_row w6 _ 1 _ _ h1
  have HO6 := Lib.hid own6
  have HB6 := Lib.hid b6
  have HH1 := Lib.hid h1
  clear own6 b6 h1 h2
  go_wp2_with fail
  obtain ⟨W7, hW7⟩ : ∃ W7, W7 = (((w6.setCell ⟨w.heap.size + 1 + 1, 1, none⟩ (.slice A6 n' c6)).setCell ⟨w.heap.size + 1, 0, none⟩ (.slice A4 n c4)).setCell ⟨w.heap.size + 1, 1, none⟩ (.slice A6 n' c6)) := ⟨_, rfl⟩
  have hB7 : Hid (Below w.heap.size w W7) := by
    rw [hW7]
    have h0 : Below w.heap.size w w6 := hB5.out.trans (HB6.out.mono hB5.out.size)
    exact ((h0.setCell (p := ⟨w.heap.size + 1 + 1, 1, none⟩) (by show w.heap.size ≤ w.heap.size + 1 + 1; omega) _).setCell (p := ⟨w.heap.size + 1, 0, none⟩) (by show w.heap.size ≤ w.heap.size + 1; omega) _).setCell (p := ⟨w.heap.size + 1, 1, none⟩) (by show w.heap.size ≤ w.heap.size + 1; omega) _
  have hk7 : ∀ g, w.heap.size + 3 ≤ g → W7.heap[g]? = w6.heap[g]? := fun g hg => by
    rw [hW7, Below.heap_setCell _ _ _ _ (by show g ≠ w.heap.size + 1; omega), Below.heap_setCell _ _ _ _ (by show g ≠ w.heap.size + 1; omega), Below.heap_setCell _ _ _ _ (by show g ≠ w.heap.size + 1 + 1; omega)]
  have hg7 : W7.heap[w.heap.size + 1]? = some (.cells #[.slice A4 n c4, .slice A6 n' c6] 29 (0, 0)) := by
    rw [hW7]
    have q0 : (w6.setCell ⟨w.heap.size + 1 + 1, 1, none⟩ (.slice A6 n' c6)).heap[w.heap.size + 1]? = some (.cells #[.slice none 0 0, .slice none 0 0] 29 (0, 0)) := by
      rw [Below.heap_setCell _ _ _ _ (by show w.heap.size + 1 ≠ w.heap.size + 1 + 1; omega)]; exact HH1.out
    exact heap_set_sameT (heap_set_sameT q0 _) _
  have hs7 : W7.heap.size = w6.heap.size := by rw [hW7]; simp [World.setCell]
  rw [← hW7]
  clear hW7
  have hO7 : OwnMat W7 w.heap.size W5.heap.size (.slice A4 n c4) n m vs4 := by
    refine OwnMat.more (lo := w.heap.size + 3) (hi := w4.heap.size) ?_ (by omega) (by rw [hs5.out]; exact Nat.le_refl _)
    exact (hO5.out.below HB6.out (by rw [hs5.out]; exact Nat.le_refl _)).keep (fun g h1 h2 => hk7 g h1)
  have hR7 : OwnR W7 W5.heap.size W7.heap.size 2 (.slice A6 n' c6) n' (ints b) := by
    rw [hs7]
    exact (OwnR.of HO6.out).keep (fun g h1 h2 => hk7 g (by omega))
  refine bodyPost_ret (v := .agg #[.slice A4 n c4, .slice A6 n' c6]) ?_ rfl ⟨A4, c4, vs4, A6, c6, W5.heap.size, rfl, by omega, by omega, hO7, hR7, hB7.out⟩
  exact results_cell_row rfl _ _ (w.heap.size + 1) 29 _ (0, 0) _ rfl hg7 Try.underlying29 rfl (by kernel_rfl)
set_option maxHeartbeats 1000000 in
theorem eqTableau_same (A A' D D' : Option Addr) (n c c' n' d d' hi hi' hj hj' : Nat) (m : List (List Int)) (b : List Int) (w : World) (hl : m.length = n) (hl' : b.length = n') (hn : n ≤ 1048576) (hn' : n' ≤ 1048576) (hh : hi ≤ w.heap.size) (hh' : hi' ≤ w.heap.size) (hg : hj ≤ w.heap.size) (hg' : hj' ≤ w.heap.size) (h : Mat w hi A m) (h' : Mat w hi' A' m) (r : Row w hj D (ints b)) (r' : Row w hj' D' (ints b)) :
    Calls Try.prog 14 #[.agg #[.slice A n c, .slice D n' d], .agg #[.slice A' n c', .slice D' n' d']] w fun e w' => e = .returned (.bool true) ∧ Below w.heap.size w w' := by
  have HL := Lib.hid hl
  have HL' := Lib.hid hl'
  have HR : Hid (∀ W, Below w.heap.size w W → Mat W hi A m) := fun W hb => h.below hb hh
  have HR' : Hid (∀ W, Below w.heap.size w W → Mat W hi' A' m) := fun W hb => h'.below hb hh'
  have RR : Hid (∀ W, Below w.heap.size w W → Row W hj D (ints b)) := fun W hb => r.below hb hg
  have RR' : Hid (∀ W, Below w.heap.size w W → Row W hj' D' (ints b)) := fun W hb => r'.below hb hg'
  clear hl hl' h h' hh hh' r r' hg hg'
  have HB : Hid (Below w.heap.size w ((w.alloc (.cells #[.slice A n c, .slice D n' d] 29)).alloc (.cells #[.slice A' n c', .slice D' n' d'] 29))) := ((Below.refl _ _).alloc (Nat.le_refl _) _).alloc (by simp) _
  go_enter Try.func14, Try.ntmps14
  go_wp2_with fail
  refine (eqInt64SS_any A A' n n c c' hi hi' m m _ HL.out HL.out (by omega) (by omega) (HR.out _ HB.out) (HR'.out _ HB.out)).mono ?_
  rintro e w2 ⟨rfl, k, rfl⟩
  rw [eqM_self]
  go_wp2_with fail
  refine (eqInt64S_any D D' n' n' d d' hj hj' b b _ HL'.out HL'.out (by omega) (by omega) (RR.out _ (below_drewN HB.out k)) (RR'.out _ (below_drewN HB.out k))).mono ?_
  rintro e w3 ⟨rfl, k3, rfl⟩
  rw [eqL_self]
  have GB := below_drewN HB.out (k + k3)
  go_wp2
  go_ret
  exact ⟨rfl, GB⟩
theorem Within.of_below {lo hi : Nat} {w w' : World} (h : Below w.heap.size w w') : Within lo hi w w' := ⟨h.os, h.tape, h.output, h.size, fun g hg _ => h.block g hg⟩
theorem Within.wide {lo hi lo' hi' : Nat} {w w' : World} (h : Within lo hi w w') (h1 : lo' ≤ lo) (h2 : hi ≤ hi') : Within lo' hi' w w' := ⟨h.os, h.tape, h.output, h.size, fun g hg hd => h.block g hg (by omega)⟩
set_option maxHeartbeats 1000000 in
theorem markTableau_any (A D : Option Addr) (n c n' d lo mid hi : Nat) (m : List (List Int)) (vs : List Value) (b : List Int) (k : Int) (w : World) (hl' : b.length = n') (hn : n ≤ 1048576) (ht : total m ≤ 1048576) (hn' : n' ≤ 1048576) (k0 : 0 ≤ k) (k1 : k ≤ 1048576) (hlm : lo ≤ mid) (hmh : mid ≤ hi) (hh : hi ≤ w.heap.size) (h : OwnMat w lo mid (.slice A n c) n m vs) (r : OwnR w mid hi 2 (.slice D n' d) n' (ints b)) :
    Calls Try.prog 18 #[.agg #[.slice A n c, .slice D n' d], .int .i64 k] w fun e w' => e = .returned (.int .i64 (k + (total m : Nat) + (n' : Int))) ∧ OwnMat w' lo mid (.slice A n c) n (marksM k m) vs ∧ OwnR w' mid hi 2 (.slice D n' d) n' (ints (marks (k + (total m : Nat)) n')) ∧ Within lo hi w w' := by
  have HL' := Lib.hid hl'
  obtain ⟨W0, hW0⟩ : ∃ W0, W0 = w.alloc (.cells #[.slice A n c, .slice D n' d] 29) := ⟨_, rfl⟩
  have HB : Hid (Below w.heap.size w W0) := by rw [hW0]; exact (Below.refl _ _).alloc (Nat.le_refl _) _
  have HM : Hid (OwnMat W0 lo mid (.slice A n c) n m vs) := h.below HB.out (by omega)
  have HR : Hid (OwnR W0 mid hi 2 (.slice D n' d) n' (ints b)) := r.below HB.out hh
  have hz : W0.heap.size = w.heap.size + 1 := by rw [hW0]; simp
  have hx : Hid (W0.heap[w.heap.size]? = some (.cells #[.slice A n c, .slice D n' d] 29 (0, 0))) := by rw [hW0]; exact heap_alloc_new w _
  clear hl' h r
  go_enter Try.func18, Try.ntmps18
  go_wp2_with fail
  rw [← hW0]
  clear hW0
  refine (markInt64SS_any A n c lo mid m vs k W0 (by omega) (by omega) (by omega) (by omega) HM.out).mono ?_
  rintro e w2 ⟨rfl, o2, wi2⟩
  have hz2 := wi2.size
  have y1 : w2.cell? ⟨w.heap.size, 1, none⟩ = some (.slice D n' d) := by rw [cell_of_row w2 _ 1 _ _ _ ((wi2.block w.heap.size (by omega) (by omega)).trans hx.out)]; rfl
  have HR2 := Lib.hid (HR.out.within wi2 (by omega) (by omega))
  have H2 := Lib.hid o2
  have W2 := Lib.hid wi2
  clear o2 wi2 hx
  go_wp2_with fail
  refine (markInt64S_any D n' d mid b (k + (total m : Nat)) w2 HL'.out (by omega) (by omega) (by omega) HR2.out.1).mono ?_
  rintro e w3 ⟨rfl, o3, g3⟩
  have wi3 := Within.grown g3 (fun g hg => ⟨(HR2.out.1.lt g hg).1, HR2.out.2 g hg⟩)
  have GO := Lib.hid (show OwnR w3 mid hi 2 (.slice D n' d) n' (ints (marks (k + (total m : Nat)) n')) from ⟨o3, HR2.out.2⟩)
  have GM := Lib.hid (H2.out.within wi3 (by omega) (by omega))
  have GW := Lib.hid ((Within.of_below (lo := lo) (hi := hi) HB.out).trans ((W2.out.wide (Nat.le_refl _) hmh).trans (wi3.wide hlm (Nat.le_refl _))))
  clear o3 g3 wi3
  go_wp2
  go_ret
  exact ⟨rfl, GM.out, GO.out, GW.out⟩
end Go.Proofs.Ytnnihdkhblbdgaa
