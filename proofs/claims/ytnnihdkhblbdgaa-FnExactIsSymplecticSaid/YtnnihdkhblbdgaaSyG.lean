/-
  Grids of the program: arrays of 8 times 8 numbers, filled by a closure.
-/
import Derived.Test.YtnnihdkhblbdgaaSyP
import Derived.Test.YtnnihdkhblbdgaaNum
import Derived.Test.YtnnihdkhblbdgaaSlices
import Derived.Test.YtnnihdkhblbdgaaGrow
import Derived.Test.YtnnihdkhblbdgaaNest
import Derived.Test.YtnnihdkhblbdgaaTab
import Derived.Laws.Rows
import Derived.Laws.Tables
import Derived.Laws.CopyOwn
import Derived.Deep.RegionLaw
import Derived.Deep.MidRow
import Derived.BigQuiet
import Derived.Deep.RegionHeld3
namespace Go.Proofs.Ytnnihdkhblbdgaa
open Go.RowKit Fld
set_option linter.unusedVariables false
set_option linter.unusedSimpArgs false
set_option maxRecDepth 100000

/-- a grid that is filled up to the row i and, in it, up to the column k -/
def gr (f : Nat → Nat → Int) (n i k : Nat) : List Int := (List.range 64).map fun j => if (j / 8 < i ∨ (j / 8 = i ∧ j % 8 < k)) ∧ j / 8 < n ∧ j % 8 < n then f (j / 8) (j % 8) else 0
theorem gr_length (f : Nat → Nat → Int) (n i k : Nat) : (gr f n i k).length = 64 := by unfold gr; rw [List.length_map, List.length_range]
theorem gr_at (f : Nat → Nat → Int) (n i k : Nat) {j : Nat} (h : j < 64) : (gr f n i k)[j]? = some (if (j / 8 < i ∨ (j / 8 = i ∧ j % 8 < k)) ∧ j / 8 < n ∧ j % 8 < n then f (j / 8) (j % 8) else 0) := by
  unfold gr; rw [List.getElem?_map, List.getElem?_range h]; rfl
theorem gr_same {f : Nat → Nat → Int} {n i k i' k' : Nat} (h : ∀ j, j < 64 → (((j / 8 < i ∨ (j / 8 = i ∧ j % 8 < k)) ∧ j / 8 < n ∧ j % 8 < n) ↔ ((j / 8 < i' ∨ (j / 8 = i' ∧ j % 8 < k')) ∧ j / 8 < n ∧ j % 8 < n))) : gr f n i k = gr f n i' k' := by
  unfold gr
  refine List.map_congr_left fun j hj => ?_
  have := h j (List.mem_range.1 hj)
  by_cases q : ((j / 8 < i ∨ (j / 8 = i ∧ j % 8 < k)) ∧ j / 8 < n ∧ j % 8 < n)
  · rw [if_pos q, if_pos (this.1 q)]
  · rw [if_neg q, if_neg (fun z => q (this.2 z))]
theorem gr_leave (f : Nat → Nat → Int) (n i : Nat) : gr f n i n = gr f n (i + 1) 0 := gr_same fun j _ => by omega
def zero64 : List Int := List.replicate 64 0
theorem gr_start (f : Nat → Nat → Int) (n : Nat) : gr f n 0 0 = zero64 := by
  unfold gr zero64
  rw [List.eq_replicate_iff]
  refine ⟨by simp, fun x hx => ?_⟩
  rw [List.mem_map] at hx
  obtain ⟨j, _, rfl⟩ := hx
  rw [if_neg (by omega)]
theorem gr_step (f : Nat → Nat → Int) {n i k : Nat} (hn : n ≤ 8) (hi : i < n) (hk : k < n) : (gr f n i k).set (i * 8 + k) (f i k) = gr f n i (k + 1) := by
  apply List.ext_getElem?
  intro j
  rw [List.getElem?_set]
  by_cases hj : j < 64
  · by_cases e : i * 8 + k = j
    · subst e
      have e1 : (i * 8 + k) / 8 = i := by omega
      have e2 : (i * 8 + k) % 8 = k := by omega
      rw [if_pos rfl, if_pos (by rw [gr_length]; exact hj), gr_at _ _ _ _ hj, if_pos (by omega), e1, e2]
    · rw [if_neg e, gr_at _ _ _ _ hj, gr_at _ _ _ _ hj]
      by_cases q : ((j / 8 < i ∨ (j / 8 = i ∧ j % 8 < k)) ∧ j / 8 < n ∧ j % 8 < n)
      · rw [if_pos q, if_pos (by omega)]
      · rw [if_neg q, if_neg (by omega)]
  · have h1 : (gr f n i k).length = 64 := gr_length ..
    have h2 : (gr f n i (k + 1)).length = 64 := gr_length ..
    rw [if_neg (by omega), List.getElem?_eq_none (by omega), List.getElem?_eq_none (by omega)]
/-- all of it -/
def grL (f : Nat → Nat → Int) (n : Nat) : List Int := gr f n n 0
theorem grL_length (f : Nat → Nat → Int) (n : Nat) : (grL f n).length = 64 := gr_length ..
def grV (f : Nat → Nat → Int) (n i k : Nat) : Int := if i < n ∧ k < n then f i k else 0
theorem grL_at (f : Nat → Nat → Int) {n i k : Nat} (hi : i < 8) (hk : k < 8) : (grL f n)[i * 8 + k]? = some (grV f n i k) := by
  have e1 : (i * 8 + k) / 8 = i := by omega
  have e2 : (i * 8 + k) % 8 = k := by omega
  unfold grL grV
  rw [gr_at _ _ _ _ (by omega), e1, e2]
  by_cases q : i < n ∧ k < n
  · rw [if_pos (by omega), if_pos q]
  · rw [if_neg (by omega), if_neg q]
theorem grL_eq {f g : Nat → Nat → Int} {n : Nat} : grL f n = grL g n ↔ ∀ i k, i < 8 → k < 8 → grV f n i k = grV g n i k := by
  constructor
  · intro e i k hi hk
    have h1 := grL_at f (n := n) hi hk
    rw [e, grL_at g hi hk] at h1
    exact (Option.some.inj h1).symm
  · intro h
    apply List.ext_getElem?
    intro j
    by_cases hj : j < 64
    · have e : j / 8 * 8 + j % 8 = j := by omega
      have h1 := grL_at f (n := n) (i := j / 8) (k := j % 8) (by omega) (by omega)
      have h2 := grL_at g (n := n) (i := j / 8) (k := j % 8) (by omega) (by omega)
      rw [e] at h1 h2
      rw [h1, h2, h (j / 8) (j % 8) (by omega) (by omega)]
    · rw [List.getElem?_eq_none (by rw [grL_length]; omega), List.getElem?_eq_none (by rw [grL_length]; omega)]
/-! in memory -/
theorem info_grd : (Try.prog.info? 54).map (·.size) = some 64 := by kernel_rfl
def arrG (xs : List Int) : Array Value := (ints xs).toArray
theorem arrG_size {xs : List Int} (h : xs.length = 64) : (arrG xs).size = 64 := by simp [arrG, ints_length, h]
theorem arrG_cells (xs : List Int) : (arrG xs).all (·.oneCell') = true := by simp [arrG, ints, intsK, Array.all_eq_true, Value.oneCell']
/-- block g is a grid -/
def ArrG (w : World) (g : Nat) (xs : List Int) : Prop := w.heap[g]? = some (.cells (arrG xs) 54 (0, 0))
theorem ArrG.cell {w : World} {g k : Nat} {xs : List Int} {x : Int} (h : ArrG w g xs) (hx : xs[k]? = some x) : w.cell? ⟨g, k, none⟩ = some (.int .i64 x) := by
  rw [cell_of_row w g k _ _ _ h]
  simp [arrG, ints_at hx]
theorem ArrG.free {w : World} {g : Nat} {xs : List Int} (h : ArrG w g xs) (k : Nat) : w.frozen? ⟨g, k, none⟩ = false := frozen_of_row w g k _ _ h
theorem ArrG.lt {w : World} {g : Nat} {xs : List Int} (h : ArrG w g xs) : g < w.heap.size := by
  rcases Nat.lt_or_ge g w.heap.size with h' | h'
  · exact h'
  · unfold ArrG at h; simp [Array.getElem?_eq_none h'] at h
theorem ArrG.store {w : World} {g k : Nat} {xs : List Int} (h : ArrG w g xs) (x : Int) : ArrG (w.setCell ⟨g, k, none⟩ (.int .i64 x)) g (xs.set k x) := by
  have := heap_setCell_same w g k _ _ (.int .i64 x) h
  unfold ArrG
  rw [this]
  simp [arrG, ints, intsK]
theorem ArrG.other {w : World} {g g' k : Nat} {xs : List Int} (h : ArrG w g xs) (hne : g ≠ g') (v : Value) : ArrG (w.setCell ⟨g', k, none⟩ v) g xs := by
  unfold ArrG
  rw [heap_setCell_other w ⟨g', k, none⟩ g v hne]; exact h
theorem ArrG.alloc {w : World} {g : Nat} {xs : List Int} (h : ArrG w g xs) (o : Obj) : ArrG (w.alloc o) g xs := by
  unfold ArrG
  rw [heap_alloc_old w o (ArrG.lt h)]; exact h
theorem ArrG.below {w w' : World} {g B : Nat} {xs : List Int} (h : ArrG w g xs) (hb : Below B w w') (hg : g < B) : ArrG w' g xs := by
  unfold ArrG
  rw [hb.block g hg]; exact h
theorem ArrG.drewN {w : World} {g : Nat} {xs : List Int} (h : ArrG w g xs) (m : Nat) : ArrG (w.drewN m) g xs := h
theorem ArrG.new (w : World) (xs : List Int) : ArrG (w.alloc (.cells (arrG xs) 54)) w.heap.size xs := heap_alloc_new w _
theorem ArrG.next {w : World} {g : Nat} (xs : List Int) (hg : w.heap.size = g) : ArrG (w.alloc (.cells (arrG xs) 54)) g xs := hg ▸ ArrG.new w xs
theorem ArrG.put {w : World} {g : Nat} {xs : List Int} (h : ArrG w g xs) (ys : List Int) : ArrG (w.setRow g (arrG ys)) g ys := setRow_heap w g _ _ _ _ h
theorem ArrG.putOther {w : World} {g g' : Nat} {xs : List Int} (h : ArrG w g xs) (hne : g ≠ g') (cs : Array Value) : ArrG (w.setRow g' cs) g xs := by
  unfold ArrG
  rw [setRow_other w g' g cs hne]; exact h
theorem Bx.other {w : World} {g g' : Nat} {T : TypeId} {x y : Value} (h : Bx w g T x y) (hne : g ≠ g') {k : Nat} (v : Value) : Bx (w.setCell ⟨g', k, none⟩ v) g T x y := by
  unfold Bx
  rw [heap_setCell_other w ⟨g', k, none⟩ g v hne]; exact h
set_option maxHeartbeats 4000000 in
theorem gridBy_left (kb : Nat) (A D : Option Addr) (n c d : Nat) (f : Nat → Nat → Int) (w : World) (hn : n ≤ 8)
    (hcl : ∀ (W : World) (i k : Nat), i < n → k < n → Below w.heap.size w W → Calls Try.prog 71 #[.int .i64 i, .int .i64 k, .pointer (some ⟨kb, 0, none⟩)] W fun e w' => e = .returned (.int .i64 (f i k)) ∧ ∃ m, w' = W.drewN m) :
    Calls Try.prog 70 #[.agg #[.slice A n c, .slice D n d], .func (.func 71) #[] #[.pointer (some ⟨kb, 0, none⟩)]] w fun e w' => e = .returned (.agg (arrG (grL f n))) ∧ Below w.heap.size w w' := by
  obtain ⟨W0, hW0⟩ : ∃ W0, W0 = ((w.alloc (.cells #[.slice A n c, .slice D n d] 60)).alloc (.cells (arrG zero64) 54)).alloc (.cells (arrG zero64) 54) := ⟨_, rfl⟩
  have FB : Hid (Below w.heap.size w W0) := by rw [hW0]; exact (((Below.refl _ _).alloc (Nat.le_refl _) _).alloc (by simp) _).alloc (by simp; omega) _
  have FX : Hid (Bx W0 w.heap.size 60 (.slice A n c) (.slice D n d)) := by
    rw [hW0]; exact (Bx.new w _ _ _).next (((Below.refl _ _).alloc (Nat.le_refl _) _).alloc (by simp) _)
  have FR : Hid (ArrG W0 (w.heap.size + 1) zero64) := by rw [hW0]; exact (ArrG.next _ (by simp)).alloc _
  have FG : Hid (ArrG W0 (w.heap.size + 2) (gr f n 0 0)) := by rw [hW0, gr_start]; exact ArrG.next _ (by simp)
  have HS : Hid (W0.heap.size = w.heap.size + 3) := by rw [hW0]; simp [Hid]
  have HC := Lib.hid hcl
  have q1 := FX.out.c1
  have L64 := Lib.hid (grL_length f n)
  have Z64 : Hid (zero64.length = 64) := by simp [Hid, zero64]
  clear hcl
  go_enter Try.func70, Try.ntmps70
  go_wp2_with fail
  change Code.wp _ _ _ _ (((w.alloc (.cells #[.slice A n c, .slice D n d] 60)).alloc (.cells (arrG zero64) 54)).alloc (.cells (arrG zero64) 54))
  rw [← hW0]
  clear hW0
  go_wp2_with fail
  go_loopw [11] (fun i wr => ∃ k : Nat, k ≤ n ∧ i = .int .i64 k ∧ Hid (ArrG wr (w.heap.size + 2) (gr f n k 0)) ∧ Hid (ArrG wr (w.heap.size + 1) zero64) ∧ Hid (Bx wr w.heap.size 60 (.slice A n c) (.slice D n d)) ∧ Hid (Below w.heap.size w wr)) (fun i _ => n - (intOf i).toNat)
  case atStart => exact ⟨0, Nat.zero_le _, rfl, FG, FR, FX, FB⟩
  case round =>
    clear q1
    obtain ⟨i, hi, rfl, HG, HR, HX, HB⟩ := hrel
    have q1 := HX.out.c1
    by_cases hlt : i < n
    · go_wp2_with fail
      go_loopw [17] (fun j wr2 => ∃ k : Nat, k ≤ n ∧ j = .int .i64 k ∧ Hid (ArrG wr2 (w.heap.size + 2) (gr f n i k)) ∧ Hid (ArrG wr2 (w.heap.size + 1) zero64) ∧ Hid (Bx wr2 w.heap.size 60 (.slice A n c) (.slice D n d)) ∧ Hid (Below w.heap.size w wr2)) (fun j _ => n - (intOf j).toNat)
      case atStart => exact ⟨0, Nat.zero_le _, rfl, HG, HR, HX, HB⟩
      case round =>
        clear q1 HG HR HX HB
        obtain ⟨k, hk, rfl, HG, HR, HX, HB⟩ := hrel
        by_cases hkl : k < n
        · have i0 : (0 : Int) ≤ (i : Int) := Int.natCast_nonneg _
          have i1 : (i : Int) < 8 := by omega
          have k0 : (0 : Int) ≤ (k : Int) := Int.natCast_nonneg _
          have k1 : (k : Int) < 8 := by omega
          have C1 := fun W hW => HC.out W i k hlt hkl hW
          have c9 : ∃ v, wr.cell? ⟨w.heap.size + 2, i * 8 + k, none⟩ = some v := ⟨_, HG.out.cell (gr_at f n i k (show i * 8 + k < 64 by omega))⟩
          obtain ⟨v9, c9⟩ := c9
          have f9 := HG.out.free (i * 8 + k)
          have HGS : Hid (∀ q, ArrG ((wr.drewN q).setCell ⟨w.heap.size + 2, i * 8 + k, none⟩ (.int .i64 (f i k))) (w.heap.size + 2) (gr f n i (k + 1))) := fun q => by
            have := (HG.out.drewN q).store (k := i * 8 + k) (f i k)
            rw [gr_step f hn hlt hkl] at this
            exact this
          have HRS : Hid (∀ q, ArrG ((wr.drewN q).setCell ⟨w.heap.size + 2, i * 8 + k, none⟩ (.int .i64 (f i k))) (w.heap.size + 1) zero64) := fun q => (HR.out.drewN q).other (by omega) _
          have HXS : Hid (∀ q, Bx ((wr.drewN q).setCell ⟨w.heap.size + 2, i * 8 + k, none⟩ (.int .i64 (f i k))) w.heap.size 60 (.slice A n c) (.slice D n d)) := fun q => (show Bx (wr.drewN q) w.heap.size 60 (.slice A n c) (.slice D n d) from HX.out).other (by omega) _
          have HBS : Hid (∀ q, Below w.heap.size w ((wr.drewN q).setCell ⟨w.heap.size + 2, i * 8 + k, none⟩ (.int .i64 (f i k)))) := fun q => below_set (below_drewN HB.out q) (by omega) _
          go_wp2_with fail
          go_region_law (first
            | (go_simp; go_at_call 71; refine (C1 _ (by first | exact HB.out.drew | exact below_drewN HB.out _)).mono ?_; rintro e w6 ⟨rfl, m6, rfl⟩; have c10 := c9; have f10 := f9))
          all_goals
            clear c10 f10 c9 f9 C1
            go_wp2
            go_roundw
            case rel => exact ⟨k + 1, by omega, by go_num, HGS.out _, HRS.out _, HXS.out _, HBS.out _⟩
            case measure => simp [intOf]; omega
        · obtain rfl : k = n := by omega
          have GG : Hid (ArrG wr (w.heap.size + 2) (gr f k (i + 1) 0)) := by rw [← gr_leave]; exact HG.out
          clear HG
          go_wp2
          go_roundw
          case rel => exact ⟨i + 1, by omega, by go_num, GG, HR, HX, HB⟩
          case measure => simp [intOf]; omega
    · obtain rfl : i = n := by omega
      clear FG FR FX FB
      have GG : Hid (ArrG wr (w.heap.size + 2) (grL f i)) := HG
      go_wp2_with (first
        | (refine wpList_load_row rfl 54 (.tmp 5) rfl (w.heap.size + 2) rfl 54 (arrG (grL f i)) (0, 0) _ GG.out Try.underlying54 rfl (by rw [arrG_size L64.out]; exact info_grd) ?_)
        | (refine wpList_store_row rfl 54 (.tmp 4) (.tmp 30) rfl (w.heap.size + 1) (arrG (grL f i)) rfl rfl 54 (arrG zero64) HR.out (by rw [arrG_size L64.out]; exact info_grd) (by rw [arrG_size L64.out, arrG_size Z64.out]) (arrG_cells _) ?_))
      refine bodyPost_ret (v := .agg (arrG (grL f i))) ?_ rfl ⟨rfl, below_setRow HB.out (by omega) _⟩
      exact results_cell_row rfl _ _ (w.heap.size + 1) 54 _ (0, 0) _ rfl (setRow_heap _ _ _ _ _ _ HR.out) Try.underlying54 rfl (by rw [arrG_size L64.out]; exact info_grd)
set_option maxHeartbeats 4000000 in
theorem gridBy_right (kb : Nat) (A D : Option Addr) (n c d : Nat) (f : Nat → Nat → Int) (w : World) (hn : n ≤ 8)
    (hcl : ∀ (W : World) (i k : Nat), i < n → k < n → Below w.heap.size w W → Calls Try.prog 73 #[.int .i64 i, .int .i64 k, .pointer (some ⟨kb, 0, none⟩)] W fun e w' => e = .returned (.int .i64 (f i k)) ∧ ∃ m, w' = W.drewN m) :
    Calls Try.prog 70 #[.agg #[.slice A n c, .slice D n d], .func (.func 73) #[] #[.pointer (some ⟨kb, 0, none⟩)]] w fun e w' => e = .returned (.agg (arrG (grL f n))) ∧ Below w.heap.size w w' := by
  obtain ⟨W0, hW0⟩ : ∃ W0, W0 = ((w.alloc (.cells #[.slice A n c, .slice D n d] 60)).alloc (.cells (arrG zero64) 54)).alloc (.cells (arrG zero64) 54) := ⟨_, rfl⟩
  have FB : Hid (Below w.heap.size w W0) := by rw [hW0]; exact (((Below.refl _ _).alloc (Nat.le_refl _) _).alloc (by simp) _).alloc (by simp; omega) _
  have FX : Hid (Bx W0 w.heap.size 60 (.slice A n c) (.slice D n d)) := by
    rw [hW0]; exact (Bx.new w _ _ _).next (((Below.refl _ _).alloc (Nat.le_refl _) _).alloc (by simp) _)
  have FR : Hid (ArrG W0 (w.heap.size + 1) zero64) := by rw [hW0]; exact (ArrG.next _ (by simp)).alloc _
  have FG : Hid (ArrG W0 (w.heap.size + 2) (gr f n 0 0)) := by rw [hW0, gr_start]; exact ArrG.next _ (by simp)
  have HS : Hid (W0.heap.size = w.heap.size + 3) := by rw [hW0]; simp [Hid]
  have HC := Lib.hid hcl
  have q1 := FX.out.c1
  have L64 := Lib.hid (grL_length f n)
  have Z64 : Hid (zero64.length = 64) := by simp [Hid, zero64]
  clear hcl
  go_enter Try.func70, Try.ntmps70
  go_wp2_with fail
  change Code.wp _ _ _ _ (((w.alloc (.cells #[.slice A n c, .slice D n d] 60)).alloc (.cells (arrG zero64) 54)).alloc (.cells (arrG zero64) 54))
  rw [← hW0]
  clear hW0
  go_wp2_with fail
  go_loopw [11] (fun i wr => ∃ k : Nat, k ≤ n ∧ i = .int .i64 k ∧ Hid (ArrG wr (w.heap.size + 2) (gr f n k 0)) ∧ Hid (ArrG wr (w.heap.size + 1) zero64) ∧ Hid (Bx wr w.heap.size 60 (.slice A n c) (.slice D n d)) ∧ Hid (Below w.heap.size w wr)) (fun i _ => n - (intOf i).toNat)
  case atStart => exact ⟨0, Nat.zero_le _, rfl, FG, FR, FX, FB⟩
  case round =>
    clear q1
    obtain ⟨i, hi, rfl, HG, HR, HX, HB⟩ := hrel
    have q1 := HX.out.c1
    by_cases hlt : i < n
    · go_wp2_with fail
      go_loopw [17] (fun j wr2 => ∃ k : Nat, k ≤ n ∧ j = .int .i64 k ∧ Hid (ArrG wr2 (w.heap.size + 2) (gr f n i k)) ∧ Hid (ArrG wr2 (w.heap.size + 1) zero64) ∧ Hid (Bx wr2 w.heap.size 60 (.slice A n c) (.slice D n d)) ∧ Hid (Below w.heap.size w wr2)) (fun j _ => n - (intOf j).toNat)
      case atStart => exact ⟨0, Nat.zero_le _, rfl, HG, HR, HX, HB⟩
      case round =>
        clear q1 HG HR HX HB
        obtain ⟨k, hk, rfl, HG, HR, HX, HB⟩ := hrel
        by_cases hkl : k < n
        · have i0 : (0 : Int) ≤ (i : Int) := Int.natCast_nonneg _
          have i1 : (i : Int) < 8 := by omega
          have k0 : (0 : Int) ≤ (k : Int) := Int.natCast_nonneg _
          have k1 : (k : Int) < 8 := by omega
          have C1 := fun W hW => HC.out W i k hlt hkl hW
          have c9 : ∃ v, wr.cell? ⟨w.heap.size + 2, i * 8 + k, none⟩ = some v := ⟨_, HG.out.cell (gr_at f n i k (show i * 8 + k < 64 by omega))⟩
          obtain ⟨v9, c9⟩ := c9
          have f9 := HG.out.free (i * 8 + k)
          have HGS : Hid (∀ q, ArrG ((wr.drewN q).setCell ⟨w.heap.size + 2, i * 8 + k, none⟩ (.int .i64 (f i k))) (w.heap.size + 2) (gr f n i (k + 1))) := fun q => by
            have := (HG.out.drewN q).store (k := i * 8 + k) (f i k)
            rw [gr_step f hn hlt hkl] at this
            exact this
          have HRS : Hid (∀ q, ArrG ((wr.drewN q).setCell ⟨w.heap.size + 2, i * 8 + k, none⟩ (.int .i64 (f i k))) (w.heap.size + 1) zero64) := fun q => (HR.out.drewN q).other (by omega) _
          have HXS : Hid (∀ q, Bx ((wr.drewN q).setCell ⟨w.heap.size + 2, i * 8 + k, none⟩ (.int .i64 (f i k))) w.heap.size 60 (.slice A n c) (.slice D n d)) := fun q => (show Bx (wr.drewN q) w.heap.size 60 (.slice A n c) (.slice D n d) from HX.out).other (by omega) _
          have HBS : Hid (∀ q, Below w.heap.size w ((wr.drewN q).setCell ⟨w.heap.size + 2, i * 8 + k, none⟩ (.int .i64 (f i k)))) := fun q => below_set (below_drewN HB.out q) (by omega) _
          go_wp2_with fail
          go_region_law (first
            | (go_simp; go_at_call 73; refine (C1 _ (by first | exact HB.out.drew | exact below_drewN HB.out _)).mono ?_; rintro e w6 ⟨rfl, m6, rfl⟩; have c10 := c9; have f10 := f9))
          all_goals
            clear c10 f10 c9 f9 C1
            go_wp2
            go_roundw
            case rel => exact ⟨k + 1, by omega, by go_num, HGS.out _, HRS.out _, HXS.out _, HBS.out _⟩
            case measure => simp [intOf]; omega
        · obtain rfl : k = n := by omega
          have GG : Hid (ArrG wr (w.heap.size + 2) (gr f k (i + 1) 0)) := by rw [← gr_leave]; exact HG.out
          clear HG
          go_wp2
          go_roundw
          case rel => exact ⟨i + 1, by omega, by go_num, GG, HR, HX, HB⟩
          case measure => simp [intOf]; omega
    · obtain rfl : i = n := by omega
      clear FG FR FX FB
      have GG : Hid (ArrG wr (w.heap.size + 2) (grL f i)) := HG
      go_wp2_with (first
        | (refine wpList_load_row rfl 54 (.tmp 5) rfl (w.heap.size + 2) rfl 54 (arrG (grL f i)) (0, 0) _ GG.out Try.underlying54 rfl (by rw [arrG_size L64.out]; exact info_grd) ?_)
        | (refine wpList_store_row rfl 54 (.tmp 4) (.tmp 30) rfl (w.heap.size + 1) (arrG (grL f i)) rfl rfl 54 (arrG zero64) HR.out (by rw [arrG_size L64.out]; exact info_grd) (by rw [arrG_size L64.out, arrG_size Z64.out]) (arrG_cells _) ?_))
      refine bodyPost_ret (v := .agg (arrG (grL f i))) ?_ rfl ⟨rfl, below_setRow HB.out (by omega) _⟩
      exact results_cell_row rfl _ _ (w.heap.size + 1) 54 _ (0, 0) _ rfl (setRow_heap _ _ _ _ _ _ HR.out) Try.underlying54 rfl (by rw [arrG_size L64.out]; exact info_grd)
set_option maxHeartbeats 4000000 in
theorem gridBy_pairs (kb kl : Nat) (A D : Option Addr) (n c d : Nat) (f : Nat → Nat → Int) (w : World) (hn : n ≤ 8)
    (hcl : ∀ (W : World) (i k : Nat), i < n → k < n → Below w.heap.size w W → Calls Try.prog 75 #[.int .i64 i, .int .i64 k, .pointer (some ⟨kb, 0, none⟩), .pointer (some ⟨kl, 0, none⟩)] W fun e w' => e = .returned (.int .i64 (f i k)) ∧ ∃ m, w' = W.drewN m) :
    Calls Try.prog 70 #[.agg #[.slice A n c, .slice D n d], .func (.func 75) #[] #[.pointer (some ⟨kb, 0, none⟩), .pointer (some ⟨kl, 0, none⟩)]] w fun e w' => e = .returned (.agg (arrG (grL f n))) ∧ Below w.heap.size w w' := by
  obtain ⟨W0, hW0⟩ : ∃ W0, W0 = ((w.alloc (.cells #[.slice A n c, .slice D n d] 60)).alloc (.cells (arrG zero64) 54)).alloc (.cells (arrG zero64) 54) := ⟨_, rfl⟩
  have FB : Hid (Below w.heap.size w W0) := by rw [hW0]; exact (((Below.refl _ _).alloc (Nat.le_refl _) _).alloc (by simp) _).alloc (by simp; omega) _
  have FX : Hid (Bx W0 w.heap.size 60 (.slice A n c) (.slice D n d)) := by
    rw [hW0]; exact (Bx.new w _ _ _).next (((Below.refl _ _).alloc (Nat.le_refl _) _).alloc (by simp) _)
  have FR : Hid (ArrG W0 (w.heap.size + 1) zero64) := by rw [hW0]; exact (ArrG.next _ (by simp)).alloc _
  have FG : Hid (ArrG W0 (w.heap.size + 2) (gr f n 0 0)) := by rw [hW0, gr_start]; exact ArrG.next _ (by simp)
  have HS : Hid (W0.heap.size = w.heap.size + 3) := by rw [hW0]; simp [Hid]
  have HC := Lib.hid hcl
  have q1 := FX.out.c1
  have L64 := Lib.hid (grL_length f n)
  have Z64 : Hid (zero64.length = 64) := by simp [Hid, zero64]
  clear hcl
  go_enter Try.func70, Try.ntmps70
  go_wp2_with fail
  change Code.wp _ _ _ _ (((w.alloc (.cells #[.slice A n c, .slice D n d] 60)).alloc (.cells (arrG zero64) 54)).alloc (.cells (arrG zero64) 54))
  rw [← hW0]
  clear hW0
  go_wp2_with fail
  go_loopw [11] (fun i wr => ∃ k : Nat, k ≤ n ∧ i = .int .i64 k ∧ Hid (ArrG wr (w.heap.size + 2) (gr f n k 0)) ∧ Hid (ArrG wr (w.heap.size + 1) zero64) ∧ Hid (Bx wr w.heap.size 60 (.slice A n c) (.slice D n d)) ∧ Hid (Below w.heap.size w wr)) (fun i _ => n - (intOf i).toNat)
  case atStart => exact ⟨0, Nat.zero_le _, rfl, FG, FR, FX, FB⟩
  case round =>
    clear q1
    obtain ⟨i, hi, rfl, HG, HR, HX, HB⟩ := hrel
    have q1 := HX.out.c1
    by_cases hlt : i < n
    · go_wp2_with fail
      go_loopw [17] (fun j wr2 => ∃ k : Nat, k ≤ n ∧ j = .int .i64 k ∧ Hid (ArrG wr2 (w.heap.size + 2) (gr f n i k)) ∧ Hid (ArrG wr2 (w.heap.size + 1) zero64) ∧ Hid (Bx wr2 w.heap.size 60 (.slice A n c) (.slice D n d)) ∧ Hid (Below w.heap.size w wr2)) (fun j _ => n - (intOf j).toNat)
      case atStart => exact ⟨0, Nat.zero_le _, rfl, HG, HR, HX, HB⟩
      case round =>
        clear q1 HG HR HX HB
        obtain ⟨k, hk, rfl, HG, HR, HX, HB⟩ := hrel
        by_cases hkl : k < n
        · have i0 : (0 : Int) ≤ (i : Int) := Int.natCast_nonneg _
          have i1 : (i : Int) < 8 := by omega
          have k0 : (0 : Int) ≤ (k : Int) := Int.natCast_nonneg _
          have k1 : (k : Int) < 8 := by omega
          have C1 := fun W hW => HC.out W i k hlt hkl hW
          have c9 : ∃ v, wr.cell? ⟨w.heap.size + 2, i * 8 + k, none⟩ = some v := ⟨_, HG.out.cell (gr_at f n i k (show i * 8 + k < 64 by omega))⟩
          obtain ⟨v9, c9⟩ := c9
          have f9 := HG.out.free (i * 8 + k)
          have HGS : Hid (∀ q, ArrG ((wr.drewN q).setCell ⟨w.heap.size + 2, i * 8 + k, none⟩ (.int .i64 (f i k))) (w.heap.size + 2) (gr f n i (k + 1))) := fun q => by
            have := (HG.out.drewN q).store (k := i * 8 + k) (f i k)
            rw [gr_step f hn hlt hkl] at this
            exact this
          have HRS : Hid (∀ q, ArrG ((wr.drewN q).setCell ⟨w.heap.size + 2, i * 8 + k, none⟩ (.int .i64 (f i k))) (w.heap.size + 1) zero64) := fun q => (HR.out.drewN q).other (by omega) _
          have HXS : Hid (∀ q, Bx ((wr.drewN q).setCell ⟨w.heap.size + 2, i * 8 + k, none⟩ (.int .i64 (f i k))) w.heap.size 60 (.slice A n c) (.slice D n d)) := fun q => (show Bx (wr.drewN q) w.heap.size 60 (.slice A n c) (.slice D n d) from HX.out).other (by omega) _
          have HBS : Hid (∀ q, Below w.heap.size w ((wr.drewN q).setCell ⟨w.heap.size + 2, i * 8 + k, none⟩ (.int .i64 (f i k)))) := fun q => below_set (below_drewN HB.out q) (by omega) _
          go_wp2_with fail
          go_region_law (first
            | (go_simp; go_at_call 75; refine (C1 _ (by first | exact HB.out.drew | exact below_drewN HB.out _)).mono ?_; rintro e w6 ⟨rfl, m6, rfl⟩; have c10 := c9; have f10 := f9))
          all_goals
            clear c10 f10 c9 f9 C1
            go_wp2
            go_roundw
            case rel => exact ⟨k + 1, by omega, by go_num, HGS.out _, HRS.out _, HXS.out _, HBS.out _⟩
            case measure => simp [intOf]; omega
        · obtain rfl : k = n := by omega
          have GG : Hid (ArrG wr (w.heap.size + 2) (gr f k (i + 1) 0)) := by rw [← gr_leave]; exact HG.out
          clear HG
          go_wp2
          go_roundw
          case rel => exact ⟨i + 1, by omega, by go_num, GG, HR, HX, HB⟩
          case measure => simp [intOf]; omega
    · obtain rfl : i = n := by omega
      clear FG FR FX FB
      have GG : Hid (ArrG wr (w.heap.size + 2) (grL f i)) := HG
      go_wp2_with (first
        | (refine wpList_load_row rfl 54 (.tmp 5) rfl (w.heap.size + 2) rfl 54 (arrG (grL f i)) (0, 0) _ GG.out Try.underlying54 rfl (by rw [arrG_size L64.out]; exact info_grd) ?_)
        | (refine wpList_store_row rfl 54 (.tmp 4) (.tmp 30) rfl (w.heap.size + 1) (arrG (grL f i)) rfl rfl 54 (arrG zero64) HR.out (by rw [arrG_size L64.out]; exact info_grd) (by rw [arrG_size L64.out, arrG_size Z64.out]) (arrG_cells _) ?_))
      refine bodyPost_ret (v := .agg (arrG (grL f i))) ?_ rfl ⟨rfl, below_setRow HB.out (by omega) _⟩
      exact results_cell_row rfl _ _ (w.heap.size + 1) 54 _ (0, 0) _ rfl (setRow_heap _ _ _ _ _ _ HR.out) Try.underlying54 rfl (by rw [arrG_size L64.out]; exact info_grd)
set_option maxHeartbeats 4000000 in
theorem gridBy_cols (kb : Nat) (A D : Option Addr) (n c d : Nat) (f : Nat → Nat → Int) (w : World) (hn : n ≤ 8)
    (hcl : ∀ (W : World) (i k : Nat), i < n → k < n → Below w.heap.size w W → Calls Try.prog 76 #[.int .i64 i, .int .i64 k, .pointer (some ⟨kb, 0, none⟩)] W fun e w' => e = .returned (.int .i64 (f i k)) ∧ ∃ m, w' = W.drewN m) :
    Calls Try.prog 70 #[.agg #[.slice A n c, .slice D n d], .func (.func 76) #[] #[.pointer (some ⟨kb, 0, none⟩)]] w fun e w' => e = .returned (.agg (arrG (grL f n))) ∧ Below w.heap.size w w' := by
  obtain ⟨W0, hW0⟩ : ∃ W0, W0 = ((w.alloc (.cells #[.slice A n c, .slice D n d] 60)).alloc (.cells (arrG zero64) 54)).alloc (.cells (arrG zero64) 54) := ⟨_, rfl⟩
  have FB : Hid (Below w.heap.size w W0) := by rw [hW0]; exact (((Below.refl _ _).alloc (Nat.le_refl _) _).alloc (by simp) _).alloc (by simp; omega) _
  have FX : Hid (Bx W0 w.heap.size 60 (.slice A n c) (.slice D n d)) := by
    rw [hW0]; exact (Bx.new w _ _ _).next (((Below.refl _ _).alloc (Nat.le_refl _) _).alloc (by simp) _)
  have FR : Hid (ArrG W0 (w.heap.size + 1) zero64) := by rw [hW0]; exact (ArrG.next _ (by simp)).alloc _
  have FG : Hid (ArrG W0 (w.heap.size + 2) (gr f n 0 0)) := by rw [hW0, gr_start]; exact ArrG.next _ (by simp)
  have HS : Hid (W0.heap.size = w.heap.size + 3) := by rw [hW0]; simp [Hid]
  have HC := Lib.hid hcl
  have q1 := FX.out.c1
  have L64 := Lib.hid (grL_length f n)
  have Z64 : Hid (zero64.length = 64) := by simp [Hid, zero64]
  clear hcl
  go_enter Try.func70, Try.ntmps70
  go_wp2_with fail
  change Code.wp _ _ _ _ (((w.alloc (.cells #[.slice A n c, .slice D n d] 60)).alloc (.cells (arrG zero64) 54)).alloc (.cells (arrG zero64) 54))
  rw [← hW0]
  clear hW0
  go_wp2_with fail
  go_loopw [11] (fun i wr => ∃ k : Nat, k ≤ n ∧ i = .int .i64 k ∧ Hid (ArrG wr (w.heap.size + 2) (gr f n k 0)) ∧ Hid (ArrG wr (w.heap.size + 1) zero64) ∧ Hid (Bx wr w.heap.size 60 (.slice A n c) (.slice D n d)) ∧ Hid (Below w.heap.size w wr)) (fun i _ => n - (intOf i).toNat)
  case atStart => exact ⟨0, Nat.zero_le _, rfl, FG, FR, FX, FB⟩
  case round =>
    clear q1
    obtain ⟨i, hi, rfl, HG, HR, HX, HB⟩ := hrel
    have q1 := HX.out.c1
    by_cases hlt : i < n
    · go_wp2_with fail
      go_loopw [17] (fun j wr2 => ∃ k : Nat, k ≤ n ∧ j = .int .i64 k ∧ Hid (ArrG wr2 (w.heap.size + 2) (gr f n i k)) ∧ Hid (ArrG wr2 (w.heap.size + 1) zero64) ∧ Hid (Bx wr2 w.heap.size 60 (.slice A n c) (.slice D n d)) ∧ Hid (Below w.heap.size w wr2)) (fun j _ => n - (intOf j).toNat)
      case atStart => exact ⟨0, Nat.zero_le _, rfl, HG, HR, HX, HB⟩
      case round =>
        clear q1 HG HR HX HB
        obtain ⟨k, hk, rfl, HG, HR, HX, HB⟩ := hrel
        by_cases hkl : k < n
        · have i0 : (0 : Int) ≤ (i : Int) := Int.natCast_nonneg _
          have i1 : (i : Int) < 8 := by omega
          have k0 : (0 : Int) ≤ (k : Int) := Int.natCast_nonneg _
          have k1 : (k : Int) < 8 := by omega
          have C1 := fun W hW => HC.out W i k hlt hkl hW
          have c9 : ∃ v, wr.cell? ⟨w.heap.size + 2, i * 8 + k, none⟩ = some v := ⟨_, HG.out.cell (gr_at f n i k (show i * 8 + k < 64 by omega))⟩
          obtain ⟨v9, c9⟩ := c9
          have f9 := HG.out.free (i * 8 + k)
          have HGS : Hid (∀ q, ArrG ((wr.drewN q).setCell ⟨w.heap.size + 2, i * 8 + k, none⟩ (.int .i64 (f i k))) (w.heap.size + 2) (gr f n i (k + 1))) := fun q => by
            have := (HG.out.drewN q).store (k := i * 8 + k) (f i k)
            rw [gr_step f hn hlt hkl] at this
            exact this
          have HRS : Hid (∀ q, ArrG ((wr.drewN q).setCell ⟨w.heap.size + 2, i * 8 + k, none⟩ (.int .i64 (f i k))) (w.heap.size + 1) zero64) := fun q => (HR.out.drewN q).other (by omega) _
          have HXS : Hid (∀ q, Bx ((wr.drewN q).setCell ⟨w.heap.size + 2, i * 8 + k, none⟩ (.int .i64 (f i k))) w.heap.size 60 (.slice A n c) (.slice D n d)) := fun q => (show Bx (wr.drewN q) w.heap.size 60 (.slice A n c) (.slice D n d) from HX.out).other (by omega) _
          have HBS : Hid (∀ q, Below w.heap.size w ((wr.drewN q).setCell ⟨w.heap.size + 2, i * 8 + k, none⟩ (.int .i64 (f i k)))) := fun q => below_set (below_drewN HB.out q) (by omega) _
          go_wp2_with fail
          go_region_law (first
            | (go_simp; go_at_call 76; refine (C1 _ (by first | exact HB.out.drew | exact below_drewN HB.out _)).mono ?_; rintro e w6 ⟨rfl, m6, rfl⟩; have c10 := c9; have f10 := f9))
          all_goals
            clear c10 f10 c9 f9 C1
            go_wp2
            go_roundw
            case rel => exact ⟨k + 1, by omega, by go_num, HGS.out _, HRS.out _, HXS.out _, HBS.out _⟩
            case measure => simp [intOf]; omega
        · obtain rfl : k = n := by omega
          have GG : Hid (ArrG wr (w.heap.size + 2) (gr f k (i + 1) 0)) := by rw [← gr_leave]; exact HG.out
          clear HG
          go_wp2
          go_roundw
          case rel => exact ⟨i + 1, by omega, by go_num, GG, HR, HX, HB⟩
          case measure => simp [intOf]; omega
    · obtain rfl : i = n := by omega
      clear FG FR FX FB
      have GG : Hid (ArrG wr (w.heap.size + 2) (grL f i)) := HG
      go_wp2_with (first
        | (refine wpList_load_row rfl 54 (.tmp 5) rfl (w.heap.size + 2) rfl 54 (arrG (grL f i)) (0, 0) _ GG.out Try.underlying54 rfl (by rw [arrG_size L64.out]; exact info_grd) ?_)
        | (refine wpList_store_row rfl 54 (.tmp 4) (.tmp 30) rfl (w.heap.size + 1) (arrG (grL f i)) rfl rfl 54 (arrG zero64) HR.out (by rw [arrG_size L64.out]; exact info_grd) (by rw [arrG_size L64.out, arrG_size Z64.out]) (arrG_cells _) ?_))
      refine bodyPost_ret (v := .agg (arrG (grL f i))) ?_ rfl ⟨rfl, below_setRow HB.out (by omega) _⟩
      exact results_cell_row rfl _ _ (w.heap.size + 1) 54 _ (0, 0) _ rfl (setRow_heap _ _ _ _ _ _ HR.out) Try.underlying54 rfl (by rw [arrG_size L64.out]; exact info_grd)
end Go.Proofs.Ytnnihdkhblbdgaa
