/-
  Maps as arrays of the program: blocks of 38 cells.
-/
import Derived.Test.YtgklilckjpbdnaaSlices
import Derived.Test.YtgklilckjpbdnaaGrow
import Derived.Test.YtgklilckjpbdnaaNest
import Derived.Test.YtgklilckjpbdnaaMpT
import Derived.Laws.Rows
import Derived.Laws.Tables
import Derived.Laws.CopyOwn
import Derived.Deep.RegionLaw
import Derived.StillTailTactics
import Derived.IntWalk
namespace Go.Proofs.Ytgklilckjpbdnaa
open Go.RowKit Fld
set_option linter.unusedVariables false
set_option linter.unusedSimpArgs false
set_option maxRecDepth 100000

theorem info_arrM : (Try.prog.info? 47).map (·.size) = some 38 := by kernel_rfl
/-- the cells of a map -/
def arrM (xs : List Int) : Array Value := (ints xs).toArray
theorem arrM_size {xs : List Int} (h : xs.length = 38) : (arrM xs).size = 38 := by simp [arrM, ints_length, h]
theorem arrM_cells (xs : List Int) : (arrM xs).all (·.oneCell') = true := by simp [arrM, ints, intsK, Array.all_eq_true, Value.oneCell']
/-- block g is a map -/
def ArrM (w : World) (g : Nat) (xs : List Int) : Prop := w.heap[g]? = some (.cells (arrM xs) 47 (0, 0))
theorem ArrM.cell {w : World} {g k : Nat} {xs : List Int} {x : Int} (h : ArrM w g xs) (hx : xs[k]? = some x) : w.cell? ⟨g, k, none⟩ = some (.int .i64 x) := by
  rw [cell_of_row w g k _ _ _ h]
  simp [arrM, ints_at hx]
theorem ArrM.free {w : World} {g : Nat} {xs : List Int} (h : ArrM w g xs) (k : Nat) : w.frozen? ⟨g, k, none⟩ = false := frozen_of_row w g k _ _ h
theorem ArrM.lt {w : World} {g : Nat} {xs : List Int} (h : ArrM w g xs) : g < w.heap.size := by
  rcases Nat.lt_or_ge g w.heap.size with h' | h'
  · exact h'
  · unfold ArrM at h; simp [Array.getElem?_eq_none h'] at h
theorem ArrM.store {w : World} {g k : Nat} {xs : List Int} (h : ArrM w g xs) (x : Int) : ArrM (w.setCell ⟨g, k, none⟩ (.int .i64 x)) g (xs.set k x) := by
  have := heap_setCell_same w g k _ _ (.int .i64 x) h
  unfold ArrM
  rw [this]
  simp [arrM, ints, intsK]
theorem ArrM.other {w : World} {g g' k : Nat} {xs : List Int} (h : ArrM w g xs) (hne : g ≠ g') (v : Value) : ArrM (w.setCell ⟨g', k, none⟩ v) g xs := by
  unfold ArrM
  rw [heap_setCell_other w ⟨g', k, none⟩ g v hne]; exact h
theorem ArrM.alloc {w : World} {g : Nat} {xs : List Int} (h : ArrM w g xs) (o : Obj) : ArrM (w.alloc o) g xs := by
  unfold ArrM
  rw [heap_alloc_old w o (ArrM.lt h)]; exact h
theorem ArrM.below {w w' : World} {g B : Nat} {xs : List Int} (h : ArrM w g xs) (hb : Below B w w') (hg : g < B) : ArrM w' g xs := by
  unfold ArrM
  rw [hb.block g hg]; exact h
theorem ArrM.drewN {w : World} {g : Nat} {xs : List Int} (h : ArrM w g xs) (m : Nat) : ArrM (w.drewN m) g xs := h
theorem ArrM.new (w : World) (xs : List Int) : ArrM (w.alloc (.cells (arrM xs) 47)) w.heap.size xs := heap_alloc_new w _
theorem ArrM.next {w : World} {g : Nat} (xs : List Int) (hg : w.heap.size = g) : ArrM (w.alloc (.cells (arrM xs) 47)) g xs := hg ▸ ArrM.new w xs
/-- a mixed list: the first k from us, the others from xs -/
theorem mixP_step {us xs : List Int} {k : Nat} {u : Int} (hk : k < xs.length) (hl : us.length = xs.length) (hu : us[k]? = some u) : (us.take k ++ xs.drop k).set k u = us.take (k + 1) ++ xs.drop (k + 1) := by
  have e1 : (us.take k).length = k := by simp; omega
  rw [List.set_append, if_neg (by omega), e1, Nat.sub_self, List.drop_eq_getElem_cons hk, List.set_cons_zero, List.take_add_one, hu]
  simp
theorem mixP_at {us xs : List Int} {k : Nat} {x : Int} (hl : us.length = xs.length) (hx : xs[k]? = some x) : (us.take k ++ xs.drop k)[k]? = some x := by
  have hk : k < xs.length := by
    rcases Nat.lt_or_ge k xs.length with g | g
    · exact g
    · rw [List.getElem?_eq_none g] at hx; cases hx
  have e1 : (us.take k).length = k := by simp; omega
  rw [List.getElem?_append_right (by omega), e1, Nat.sub_self, List.getElem?_drop, Nat.add_zero]; exact hx
theorem mixP_end {us xs : List Int} {n : Nat} (hl : us.length = n) (hx : xs.length = n) : us.take n ++ xs.drop n = us := by
  rw [List.take_of_length_le (by omega), List.drop_eq_nil_of_le (by omega), List.append_nil]

theorem arrM_two (w : World) (xs ys : List Int) : ArrM ((w.alloc (.cells (arrM xs) 47)).alloc (.cells (arrM ys) 47)) w.heap.size xs ∧ ArrM ((w.alloc (.cells (arrM xs) 47)).alloc (.cells (arrM ys) 47)) (w.heap.size + 1) ys ∧ Below w.heap.size w ((w.alloc (.cells (arrM xs) 47)).alloc (.cells (arrM ys) 47)) :=
  ⟨(ArrM.new w xs).alloc _, ArrM.next ys (by simp), ((Below.refl _ _).alloc (Nat.le_refl _) _).alloc (by simp) _⟩
theorem ArrM.row {w : World} {g : Nat} {xs : List Int} (h : ArrM w g xs) : Row w (g + 1) (some ⟨g, 0, none⟩) (ints xs) := fun k v hv => by
  refine ⟨g, 0, rfl, by omega, ?_⟩
  rw [Nat.zero_add, cell_of_row w g k _ _ _ h]
  simpa [arrM] using hv
theorem spliceM_of {xs : List Int} (hl : xs.length = 38) : splice (ints zero38) 0 (ints xs) = ints xs := by
  have e1 : splice (ints zero38) 0 (ints xs) = ints (xs ++ zero38.drop xs.length) := by
    unfold splice ints intsK; simp [List.map_drop]
  rw [e1, hl]
  show ints (xs ++ []) = _
  rw [List.append_nil]
theorem mixP_keep {us xs : List Int} {k : Nat} {x : Int} (hx : xs[k]? = some x) (hu : us[k]? = some x) : us.take k ++ xs.drop k = us.take (k + 1) ++ xs.drop (k + 1) := by
  have hlt : k < xs.length := by
    rcases Nat.lt_or_ge k xs.length with g | g
    · exact g
    · rw [List.getElem?_eq_none g] at hx; cases hx
  rw [List.getElem?_eq_getElem hlt] at hx
  injection hx with hx
  rw [List.take_add_one, hu, List.drop_eq_getElem_cons hlt, hx]; simp
theorem stillCM {P : Program} {f : FuncId} {args : Array Value} {w : World} {v : Value} (h : Calls P f args w fun e w' => e = .returned v ∧ w = w') : Calls P f args w fun e w' => e = .returned v ∧ w' = w :=
  h.mono fun _ _ ⟨he, hm⟩ => ⟨he, hm.symm⟩
/-- a cell of another block, past a store -/
theorem cell_other {w : World} {b g k : Nat} {o : Nat} {v x : Value} (h : w.cell? ⟨b, o, none⟩ = some x) (hne : b ≠ g) : (w.setCell ⟨g, k, none⟩ v).cell? ⟨b, o, none⟩ = some x :=
  (World.cell?_of_block (heap_setCell_other w ⟨g, k, none⟩ b v hne)).trans h
theorem zero_row {w : World} {lo : Nat} {T : TypeId} {v : Value} (h : w.ownsRow lo T 1 v 38 (madeCells (Value.int .i64 0).cells (38 * 1)).toList) : w.ownsRow lo T 1 v 38 (ints zero38) := by
  have e : (madeCells #[(.int .i64 0 : Value)] 38).toList = ints zero38 := by rw [toList_madeCells_one]; rfl
  exact e ▸ h
theorem info_numM : (Try.prog.info? 45).map (·.size) = some 1 := by kernel_rfl
set_option maxHeartbeats 1000000 in
theorem treeMapOf_any (A : Option Addr) (c B : Nat) (xs : List Int) (w : World) (hl : xs.length = 38) (ha : allNum xs = true) (hB : B ≤ w.heap.size) (h : Row w B A (ints xs)) :
    Calls Try.prog 29 #[.slice A 38 c] w fun e w' => e = .returned (.agg (arrM xs)) ∧ Below w.heap.size w w' := by
  have HL := Lib.hid hl
  have HA := Lib.hid ha
  clear hl ha
  go_enter Try.func29, Try.ntmps29
  go_wp2_with fail
  have F := Lib.hid (arrM_two w zero38 zero38)
  have HR : Hid (Row ((w.alloc (.cells (arrM zero38) 47)).alloc (.cells (arrM zero38) 47)) B A (ints xs)) := (h.alloc hB _).alloc (by simp; omega) _
  have HS := Lib.hid (spliceM_of (xs := xs) HL.out)
  obtain ⟨W0, hW0⟩ : ∃ W0 : World, W0 = (w.alloc (.cells (arrM zero38) 47)).alloc (.cells (arrM zero38) 47) := ⟨_, rfl⟩
  have HW0 : Hid (W0.heap.size = w.heap.size + 2) := by rw [hW0]; simp [Hid]
  change Code.wp _ _ _ _ ((w.alloc (.cells (arrM zero38) 47)).alloc (.cells (arrM zero38) 47))
  rw [← hW0] at F HR ⊢
  clear hW0 h
  go_region_held3 (fun w' => True) (first | trivial)
    (first
      | (go_at_call 52; refine (numbersOf_any _ 38 _ B xs _ HL.out (by omega) (by have := HW0.out; show B ≤ W0.heap.size; omega) (by exact HR.out)).mono ?_; rintro e w1 ⟨A1, c1, rfl, own1, bel1⟩)
      | (refine step_copy_splice (by rfl) (.tmp 4) (.tmp 6) 73 73 (by rfl) 45 Try.underlying73 info_numM (some ⟨w.heap.size + 1, 0, none⟩) A1 38 38 38 c1 (by rfl) (by rfl) (w.heap.size + 1) 0 (ints zero38) 47 (by exact F.out.2.1.below (show Below W0.heap.size W0 w1 from ⟨bel1.os, bel1.tape, bel1.output, bel1.size, bel1.block⟩) (by rw [HW0.out]; omega)) (ints xs) (by rw [ints_length, HL.out]; rfl) (fun h0 => ⟨rfl, (row_of_own own1).src h0⟩) (by rw [ints_length, ints_length, HL.out]; simp [zero38]) (ints_cells _) (w.heap.size + 1) W0 (by exact (show Below W0.heap.size W0 w1 from ⟨bel1.os, bel1.tape, bel1.output, bel1.size, bel1.block⟩).mono (by rw [HW0.out]; omega)) (Nat.le_refl _) ?_; intro w4 hg4 hb4))
  have G4 : Hid (ArrM w4 (w.heap.size + 1) xs) := by have := hg4.out; rw [HS.out] at this; exact this
  have G5 := Lib.hid (F.out.1.below hb4 (by omega))
  have G6 := Lib.hid (F.out.2.2.trans (hb4.mono (show w.heap.size ≤ w.heap.size + 1 by omega)))
  clear hg4 hb4
  go_wp2_with (first
    | (refine wpList_load_row rfl 47 (.tmp 3) rfl (w.heap.size + 1) rfl 47 (arrM xs) (0, 0) _ G4.out Try.underlying47 rfl (by rw [arrM_size HL.out]; exact info_arrM) ?_)
    | (refine wpList_store_row rfl 47 (.tmp 2) (.tmp 8) rfl w.heap.size (arrM xs) rfl rfl 47 (arrM zero38) G5.out (by rw [arrM_size HL.out]; exact info_arrM) (by rw [arrM_size HL.out]; rfl) (arrM_cells _) ?_))
  refine bodyPost_ret (v := .agg (arrM xs)) ?_ rfl ⟨rfl, below_setRow G6.out (Nat.le_refl _) _⟩
  exact results_cell_row rfl _ _ w.heap.size 47 _ (0, 0) _ rfl (setRow_heap _ _ _ _ _ _ G5.out) Try.underlying47 rfl (by rw [arrM_size HL.out]; exact info_arrM)
theorem listM_any (xs : List Int) (w : World) (hl : xs.length = 38) : Calls Try.prog 30 #[.agg (arrM xs)] w (NewRow 2 38 (ints xs) w) := by
  have H0 : Hid (Row (w.alloc (.cells (arrM xs) 47)) (w.heap.size + 1) (some ⟨w.heap.size, 0, none⟩) (ints xs)) := (ArrM.new w xs).row
  have HS := Lib.hid (arrM_size hl)
  have HL := Lib.hid hl
  clear hl
  go_enter Try.func30, Try.ntmps30
  go_wp2_with (go_at_call 53; refine (integersOf_any _ 38 _ (w.heap.size + 1) xs _ HL.out (by omega) (by simp) (by exact H0.out)).mono ?_; rintro e w1 ⟨A1, c1, rfl, own1, bel1⟩)
  go_ret
  exact NewRow.after ((Below.refl _ _).alloc (Nat.le_refl _) _) ⟨A1, c1, rfl, own1, bel1⟩
end Go.Proofs.Ytgklilckjpbdnaa
