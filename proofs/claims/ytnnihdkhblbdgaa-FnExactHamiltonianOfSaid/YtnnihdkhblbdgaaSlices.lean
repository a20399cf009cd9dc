/-
  Lists of numbers in memory: copies, comparisons, sums and products, the program's and the model's alike.
-/
import Derived.Test.YtnnihdkhblbdgaaTests
import Derived.OwnWalk
import Derived.Laws.OwnMore
import Derived.Deep.QuietTactic
import Derived.BigQuiet
import Derived.LoopTactic
namespace Go.Proofs.Ytnnihdkhblbdgaa
open Go.RowKit Fld
set_option linter.unusedVariables false
set_option linter.unusedSimpArgs false
set_option maxRecDepth 100000

theorem info_i64 : (Try.prog.info? 2).map (fun i => (i.zero, i.size, i.bytes)) = some (some (.int .i64 0), 1, 8) := by kernel_rfl

theorem row_of_own {w : World} {base : Nat} {e : TypeId} {A : Option Addr} {n c : Nat} {vs : List Value} (h : w.ownsRow base e 1 (.slice A n c) n vs) : Row w w.heap.size A vs := by
  intro k v hv
  rcases h.2 with ⟨_, h0⟩ | ⟨g, cap, cur, hs, _, hg, _⟩
  · have : vs = [] := List.eq_nil_of_length_eq_zero (by rw [h.1, h0])
    rw [this] at hv; simp at hv
  · injection hs with h1 h2 h3
    subst h1 h3
    have hk : k < n * 1 := by
      rcases Nat.lt_or_ge k (n * 1) with g' | g'
      · exact g'
      · rw [List.getElem?_eq_none (by rw [h.1]; exact g')] at hv; cases hv
    refine ⟨g, 0, rfl, ?_, ?_⟩
    · rcases Nat.lt_or_ge g w.heap.size with g' | g'
      · exact g'
      · rw [Array.getElem?_eq_none g'] at hg; cases hg
    · rw [Nat.zero_add, h.cellAt k hk]; exact hv
theorem own_len {w : World} {base : Nat} {e : TypeId} {v : Value} {n : Nat} {vs : List Value} (h : w.ownsRow base e 1 v n vs) : vs.length = n := by rw [h.1]; omega

/-- a new row of n cells that holds vs -/
def NewRow (T : TypeId) (n : Nat) (vs : List Value) (w : World) (e : Ending) (w' : World) : Prop :=
  ∃ A c, e = .returned (.slice A n c) ∧ w'.ownsRow w.heap.size T 1 (.slice A n c) n vs ∧ Below w.heap.size w w'
theorem fill_start (z : Value) (vs : List Value) (n : Nat) : List.replicate n z = vs.take 0 ++ List.replicate (n - 0) z := by simp
theorem fill_step {vs : List Value} {n k : Nat} {v z : Value} (hl : vs.length = n) (h : vs[k]? = some v) : (vs.take k ++ List.replicate (n - k) z).set k v = vs.take (k + 1) ++ List.replicate (n - (k + 1)) z := by
  have hk : k < n := by
    rcases Nat.lt_or_ge k n with g | g
    · exact g
    · rw [List.getElem?_eq_none (by omega)] at h; cases h
  have e1 : (vs.take k).length = k := by simp; omega
  rw [List.set_append, if_neg (by omega), e1, Nat.sub_self, show n - k = (n - (k + 1)) + 1 from by omega, List.replicate_succ, List.set_cons_zero, List.take_add_one, h]
  simp
theorem fill_end {vs : List Value} {n : Nat} (z : Value) (hl : vs.length = n) : vs.take n ++ List.replicate (n - n) z = vs := by
  rw [Nat.sub_self, List.take_of_length_le (by omega)]; simp
theorem fill_at {vs : List Value} {n k : Nat} {z : Value} (hl : vs.length = n) (hk : k < n) : (vs.take k ++ List.replicate (n - k) z)[k]? = some z := by
  have e1 : (vs.take k).length = k := by simp; omega
  rw [List.getElem?_append_right (by omega), e1, Nat.sub_self, List.getElem?_replicate, if_pos (by omega)]
theorem below_set {B : Nat} {a w : World} (h : Below B a w) {g k : Nat} (hg : B ≤ g) (u : Value) : Below B a (w.setCell ⟨g, k, none⟩ u) := h.setCell (p := ⟨g, k, none⟩) hg u
theorem ints_length (xs : List Int) : (ints xs).length = xs.length := by simp [ints, intsK]

/-- a copy of xs[0..] filled in a loop, in a row of the call's own -/
def Filling (w : World) (T : TypeId) (n : Nat) (xs : List Int) (k : Nat) (wr : World) : Prop :=
  wr.ownsRow w.heap.size T 1 (.slice (some ⟨w.heap.size, 0, none⟩) n n) n ((ints xs).take k ++ List.replicate (n - k) (.int .i64 0)) ∧ Below w.heap.size w wr
theorem Filling.step {w wr : World} {T : TypeId} {n k : Nat} {xs : List Int} {x : Int} (h : Filling w T n xs k wr) (hl : xs.length = n) (hx : xs[k]? = some x) : Filling w T n xs (k + 1) (wr.setCell ⟨w.heap.size, k, none⟩ (.int .i64 x)) := by
  obtain ⟨h1, h2⟩ := h
  refine ⟨?_, below_set h2 (Nat.le_refl _) _⟩
  have := (h1.stored k (.int .i64 x)).1
  rw [fill_step (by rw [ints_length]; exact hl) (ints_at hx)] at this
  exact this
theorem Filling.done {w wr : World} {T : TypeId} {n : Nat} {xs : List Int} (h : Filling w T n xs n wr) (hl : xs.length = n) : NewRow T n (ints xs) w (.returned (.slice (some ⟨w.heap.size, 0, none⟩) n n)) wr := by
  obtain ⟨h1, h2⟩ := h
  rw [fill_end _ (by rw [ints_length]; exact hl)] at h1
  exact ⟨_, _, rfl, h1, h2⟩
theorem Filling.start {w w1 : World} {T : TypeId} {n : Nat} {xs : List Int} (h : w1.ownsRow w.heap.size T 1 (.slice (some ⟨w.heap.size, 0, none⟩) n n) n (madeCells (Value.int .i64 0).cells (n * 1)).toList) (hg : w.grownBy w1 none) : Filling w T n xs 0 w1 := by
  refine ⟨?_, (Below.refl _ _).grown hg (Nat.le_refl _) (fun k hk => by cases hk)⟩
  have e : (madeCells (Value.int .i64 0).cells (n * 1)).toList = (ints xs).take 0 ++ List.replicate (n - 0) (.int .i64 0) := by
    rw [← fill_start, Nat.mul_one]; exact toList_madeCells_one _ _
  rw [e] at h
  exact h

set_option maxHeartbeats 400000 in
theorem toInt64S_any (A : Option Addr) (n c B : Nat) (xs : List Int) (w : World) (hl : xs.length = n) (hn : n ≤ 1048576) (hB : B ≤ w.heap.size) (h : Row w B A (ints xs)) :
    Calls Try.prog 24 #[.slice A n c] w (NewRow 2 n (ints xs) w) := by
  obtain ⟨i0, hi, hz0, hz1, hz2⟩ := info_parts info_i64
  have HL := Lib.hid hl
  clear hl
  go_enter Try.func24, Try.ntmps24
  go_wp2_with (at_make; refine wpList_make_full _ rfl (.tmp 6) (.tmp 6) 23 rfl w.heap.size 2 i0 _ 1 Try.underlying23 hi hz0 hz1 .i64 .i64 _ _ n rfl rfl rfl rfl (by rw [hz2]; omega) (by simp only [maxLen]; omega) (Nat.le_refl _) ?_; intro w1 hown hg)
  have F0 := Filling.start (xs := xs) hown hg
  clear hown hg hz0 hz1 hz2 hi
  go_loopw [4] (fun i wr => ∃ k : Nat, k ≤ n ∧ i = .int .i64 k ∧ Filling w 2 n xs k wr) (fun i _ => n - (intOf i).toNat)
  case atStart => exact ⟨0, Nat.zero_le _, rfl, F0⟩
  case round =>
    obtain ⟨k, hk, rfl, HF⟩ := hrel
    by_cases hlt : k < n
    · obtain ⟨x, hx⟩ := at_lt (show k < xs.length by rw [HL.out]; exact hlt)
      obtain ⟨b, o, rfl, _, hc⟩ := h.below HF.2 hB k _ (ints_at hx)
      have hf := HF.1.frozenAt k
      have ho := HF.1.cellAt k (by omega)
      rw [fill_at (by rw [ints_length]; exact HL.out) hlt] at ho
      have G := Lib.hid (HF.step HL.out hx)
      clear hx F0 HF
      go_wp2
      go_roundw
      case rel => exact ⟨k + 1, by omega, by go_num, G.out⟩
      case measure => simp [intOf]; omega
    · obtain rfl : k = n := by omega
      have G := Lib.hid (HF.done HL.out)
      clear HF F0
      go_wp2
      go_ret
      exact G.out

theorem ints_cells (xs : List Int) : ∀ u ∈ ints xs, u.oneCell' = true := by
  intro u hu
  simp only [ints, intsK, List.mem_map] at hu
  obtain ⟨x, _, rfl⟩ := hu
  rfl
theorem Row.src {w : World} {B : Nat} {A : Option Addr} {vs : List Value} (h : Row w B A vs) (h0 : 0 < vs.length) : ∃ a, A = some a ∧ ∀ j v, vs[j]? = some v → w.cell? (a.add j) = some v := by
  obtain ⟨b, o, rfl, _, hc⟩ := h 0 _ (List.getElem?_eq_getElem h0)
  refine ⟨_, rfl, fun j v hv => ?_⟩
  obtain ⟨b', o', e, _, hc'⟩ := h j v hv
  injection e with e
  injection e with e1 e2 _
  subst e1 e2
  have : (⟨b, o, none⟩ : Addr).add j = ⟨b, o + j, none⟩ := by unfold Addr.add; split <;> simp_all
  rw [this]; exact hc'
theorem quietL {P : Program} {f : FuncId} {args : Array Value} {w : World} {n : Nat} {v : Value} (h : Calls P f args (w.drewN n) fun e w' => e = .returned v ∧ w.drewN n = w') : Calls P f args (w.drewN n) fun e w'' => e = .returned v ∧ ∃ m, w'' = w.drewN m :=
  h.mono fun _ _ ⟨he, hm⟩ => ⟨he, n, hm.symm⟩
theorem quietL2 {P : Program} {f : FuncId} {args : Array Value} {w : World} {a n : Nat} {v : Value} (h : Calls P f args (w.drewN (a + n)) fun e w' => e = .returned v ∧ w.drewN (a + n) = w') : Calls P f args (w.drewN (a + n)) fun e w'' => e = .returned v ∧ ∃ m, w'' = w.drewN (a + m) :=
  h.mono fun _ _ ⟨he, hm⟩ => ⟨he, n, hm.symm⟩
theorem below_drewN {B : Nat} {a w : World} (h : Below B a w) (n : Nat) : Below B a (w.drewN n) := ⟨h.os, h.tape, h.output, h.size, h.block⟩
theorem Row.drewN {w : World} {B : Nat} {A : Option Addr} {vs : List Value} (h : Row w B A vs) (n : Nat) : Row (w.drewN n) B A vs := h

/-- are two lists alike -/
def eqL (xs ys : List Int) : Bool := decide (xs = ys)
theorem eqL_self (xs : List Int) : eqL xs xs = true := by simp [eqL]
theorem eqL_len {xs ys : List Int} (h : xs.length ≠ ys.length) : eqL xs ys = false := by
  unfold eqL; exact decide_eq_false (fun e => h (by rw [e]))
theorem eqL_at {xs ys : List Int} {k : Nat} {x y : Int} (hx : xs[k]? = some x) (hy : ys[k]? = some y) (h : x ≠ y) : eqL xs ys = false := by
  unfold eqL; exact decide_eq_false (fun e => h (by rw [e, hy] at hx; exact (Option.some.inj hx).symm))
theorem take_same {xs ys : List Int} {k : Nat} {x : Int} (h : xs.take k = ys.take k) (hx : xs[k]? = some x) (hy : ys[k]? = some x) : xs.take (k + 1) = ys.take (k + 1) := by
  rw [List.take_add_one, List.take_add_one, h, hx, hy]
theorem eqL_end {xs ys : List Int} {n : Nat} (h : xs.take n = ys.take n) (hx : xs.length = n) (hy : ys.length = n) : eqL xs ys = true := by
  rw [List.take_of_length_le (by omega), List.take_of_length_le (by omega)] at h
  rw [h]; exact eqL_self _

set_option maxHeartbeats 400000 in
theorem eqInt64S_any (A A' : Option Addr) (n n' c c' B B' : Nat) (xs ys : List Int) (w : World) (hl : xs.length = n) (hl' : ys.length = n') (hn : n ≤ 9223372036854775807) (hn' : n' ≤ 9223372036854775807) (h : Row w B A (ints xs)) (h' : Row w B' A' (ints ys)) :
    Calls Try.prog 17 #[.slice A n c, .slice A' n' c'] w fun e w' => e = .returned (.bool (eqL xs ys)) ∧ ∃ m, w' = w.drewN m := by
  have HL := Lib.hid hl
  have HL' := Lib.hid hl'
  clear hl hl'
  by_cases hnn : n = n'
  · subst hnn
    go_enter Try.func17, Try.ntmps17
    go_wp2_with fail
    go_loopw [5] (fun i wr => ∃ k m : Nat, k ≤ n ∧ i = .int .i64 k ∧ wr = w.drewN m ∧ Hid (xs.take k = ys.take k)) (fun i _ => n - (intOf i).toNat)
    case atStart => exact ⟨0, 0, Nat.zero_le _, rfl, rfl, rfl⟩
    case round =>
      obtain ⟨k, m, hk, rfl, rfl, HT⟩ := hrel
      by_cases hlt : k < n
      · obtain ⟨x, hx⟩ := at_lt (show k < xs.length by rw [HL.out]; exact hlt)
        obtain ⟨y, hy⟩ := at_lt (show k < ys.length by rw [HL'.out]; exact hlt)
        obtain ⟨b, o, rfl, _, hc⟩ := h k _ (ints_at hx)
        obtain ⟨b', o', rfl, _, hc'⟩ := h' k _ (ints_at hy)
        by_cases hxy : x = y
        · subst hxy
          have G := Lib.hid (take_same HT.out hx hy)
          clear hx hy HT
          go_wp2_with fail
          go_quiet (fail)
          go_wp2
          go_roundw
          case rel => exact ⟨k + 1, _, by omega, by go_num, rfl, G⟩
          case measure => simp [intOf]; omega
        · have G := Lib.hid (eqL_at hx hy hxy)
          have t := bne_t hxy
          clear hx hy HT hxy
          go_wp2_with fail
          go_quiet (fail)
          go_wp2
          go_ret
          exact ⟨ret_bool G.out.symm, _, World.drewN_drewN ..⟩
      · obtain rfl : k = n := by omega
        have G := Lib.hid (eqL_end HT.out HL.out HL'.out)
        clear HT
        go_wp2
        go_ret
        exact ⟨ret_bool G.out.symm, _, rfl⟩
  · have G := Lib.hid (eqL_len (xs := xs) (ys := ys) (by rw [HL.out, HL'.out]; exact hnn))
    have t := bne_t (show (n : Int) ≠ (n' : Int) by omega)
    clear hnn
    go_enter Try.func17, Try.ntmps17
    go_wp2
    go_ret
    exact ⟨ret_bool G.out.symm, 0, rfl⟩
theorem l01Numbers_any (A : Option Addr) (n c B : Nat) (xs : List Int) (w : World) (hl : xs.length = n) (hn : n ≤ 9223372036854775807) (h : Row w B A (ints xs)) :
    Calls Try.prog 62 #[.slice A n c] w fun e w' => e = .returned (.bool (allNum xs)) ∧ w = w' := by
  have HL := Lib.hid hl
  clear hl
  go_enter Try.func62, Try.ntmps62
  go_wp2_with fail
  go_loop [3] (fun i => ∃ k : Nat, k ≤ n ∧ i = .int .i64 k ∧ Hid (allNum (xs.take k) = true)) (fun i => n - (intOf i).toNat)
  case atStart => exact ⟨0, Nat.zero_le _, rfl, rfl⟩
  case round =>
    obtain ⟨k, hk, rfl, HT⟩ := hrel
    by_cases hlt : k < n
    · obtain ⟨x, hx⟩ := at_lt (show k < xs.length by rw [HL.out]; exact hlt)
      obtain ⟨b, o, rfl, _, hc⟩ := h k _ (ints_at hx)
      cases hnum : isNum x
      · have G := Lib.hid (allNum_no hx hnum)
        clear hx
        go_wp2_with (go_at_call 98; refine (sIsNumber_any _ _).mono ?_; rintro e w' ⟨rfl, rfl⟩)
        go_ret
        exact ⟨ret_bool G.out.symm, rfl⟩
      · have G := Lib.hid (allNum_take hx HT.out hnum)
        clear hx HT
        go_wp2_with (go_at_call 98; refine (sIsNumber_any _ _).mono ?_; rintro e w' ⟨rfl, rfl⟩)
        go_round
        case rel => exact ⟨k + 1, by omega, by go_num, G⟩
        case measure => simp [intOf]; omega
    · have G := Lib.hid HT.out
      clear HT
      go_wp2
      go_ret
      exact ⟨ret_bool (by have := G.out; rw [List.take_of_length_le (by rw [HL.out]; omega)] at this; exact this.symm), rfl⟩

/-- the sum of a list -/
def sumP (xs : List Int) : Int := xs.foldl (fun s x => (s + x) % 10007) 0
theorem sumP_snoc {xs : List Int} {k : Nat} {x : Int} (h : xs[k]? = some x) : sumP (xs.take (k + 1)) = (sumP (xs.take k) + x) % 10007 := by
  unfold sumP; rw [List.take_add_one, h]; simp
theorem sumP_bd (xs : List Int) : 0 ≤ sumP xs ∧ sumP xs < 10007 := by
  rcases List.eq_nil_or_concat xs with rfl | ⟨ys, y, rfl⟩
  · exact ⟨by decide, by decide⟩
  · unfold sumP; simp; omega
def sumA (n : Nat) (xs : List Int) : Int × Int := if n ≤ 64 ∧ allNum xs = true then (sumP xs, 0) else (0, 2)
theorem num_at {xs : List Int} {k : Nat} {x : Int} (h : allNum xs = true) (hx : xs[k]? = some x) : 0 ≤ x ∧ x < 10007 := allNum_iff.1 h x (List.mem_of_getElem? hx)

/-- the sum of the products of two lists, up to an index -/
def dotK (xs ys : List Int) : Nat → Int
  | 0 => 0
  | k+1 => (dotK xs ys k + xs.getD k 0 * ys.getD k 0 % 10007) % 10007
theorem dotK_bd (xs ys : List Int) (k : Nat) : 0 ≤ dotK xs ys k ∧ dotK xs ys k < 10007 := by
  cases k with
  | zero => show (0 : Int) ≤ 0 ∧ (0 : Int) < 10007; omega
  | succ k => unfold dotK; omega
theorem dotK_succ {xs ys : List Int} {k : Nat} {x y : Int} (hx : xs[k]? = some x) (hy : ys[k]? = some y) : dotK xs ys (k + 1) = (dotK xs ys k + x * y % 10007) % 10007 := by
  rw [dotK, List.getD_eq_getElem?_getD, List.getD_eq_getElem?_getD, hx, hy]; rfl
def dotA (n n' : Nat) (xs ys : List Int) : Int × Int := if n ≤ 64 ∧ n = n' ∧ allNum xs = true ∧ allNum ys = true then (dotK xs ys n, 0) else (0, 2)

theorem fill_at' {w wr : World} {T : TypeId} {n k : Nat} {xs : List Int} (h : Filling w T n xs k wr) (hl : xs.length = n) (hk : k < n) : wr.cell? ⟨w.heap.size, k, none⟩ = some (.int .i64 0) := by
  have ho := h.1.cellAt k (by omega)
  rw [fill_at (by rw [ints_length]; exact hl) hk] at ho
  exact ho
theorem numbersOf_any_info : (Try.prog.info? 51).map (fun i => (i.zero, i.size, i.bytes)) = some (some (.int .i64 0), 1, 8) := by kernel_rfl
set_option maxHeartbeats 400000 in
theorem numbersOf_any (A : Option Addr) (n c B : Nat) (xs : List Int) (w : World) (hl : xs.length = n) (hn : n ≤ 1048576) (hB : B ≤ w.heap.size) (h : Row w B A (ints xs)) :
    Calls Try.prog 66 #[.slice A n c] w (NewRow 51 n (ints xs) w) := by
  obtain ⟨i0, hi, hz0, hz1, hz2⟩ := info_parts numbersOf_any_info
  have HL := Lib.hid hl
  clear hl
  go_enter Try.func66, Try.ntmps66
  go_wp2_with (at_make; refine wpList_make_full _ rfl (.tmp 7) (.tmp 7) 58 rfl w.heap.size 51 i0 _ 1 Try.underlying58 hi hz0 hz1 .i64 .i64 _ _ n rfl rfl rfl rfl (by rw [hz2]; omega) (by simp only [maxLen]; omega) (Nat.le_refl _) ?_; intro w1 hown hg)
  have F0 := Filling.start (xs := xs) hown hg
  clear hown hg hz0 hz1 hz2 hi
  go_loopw [11] (fun i wr => ∃ k : Nat, k ≤ n ∧ i = .int .i64 k ∧ Filling w 51 n xs k wr) (fun i _ => n - (intOf i).toNat)
  case atStart => exact ⟨0, Nat.zero_le _, rfl, F0⟩
  case round =>
    obtain ⟨k, hk, rfl, HF⟩ := hrel
    by_cases hlt : k < n
    · obtain ⟨x, hx⟩ := at_lt (show k < xs.length by rw [HL.out]; exact hlt)
      obtain ⟨b, o, rfl, _, hc⟩ := h.below HF.2 hB k _ (ints_at hx)
      have hf := HF.1.frozenAt k
      have ho := fill_at' HF HL.out hlt
      have G := Lib.hid (HF.step HL.out hx)
      clear hx F0 HF
      go_wp2
      go_roundw
      case rel => exact ⟨k + 1, by omega, by go_num, G.out⟩
      case measure => simp [intOf]; omega
    · obtain rfl : k = n := by omega
      have G := Lib.hid (HF.done HL.out)
      clear HF F0
      go_wp2
      go_ret
      exact G.out
theorem integersOf_any_info : (Try.prog.info? 2).map (fun i => (i.zero, i.size, i.bytes)) = some (some (.int .i64 0), 1, 8) := by kernel_rfl
set_option maxHeartbeats 400000 in
theorem integersOf_any (A : Option Addr) (n c B : Nat) (xs : List Int) (w : World) (hl : xs.length = n) (hn : n ≤ 1048576) (hB : B ≤ w.heap.size) (h : Row w B A (ints xs)) :
    Calls Try.prog 103 #[.slice A n c] w (NewRow 2 n (ints xs) w) := by
  obtain ⟨i0, hi, hz0, hz1, hz2⟩ := info_parts integersOf_any_info
  have HL := Lib.hid hl
  clear hl
  go_enter Try.func103, Try.ntmps103
  go_wp2_with (at_make; refine wpList_make_full _ rfl (.tmp 7) (.tmp 7) 23 rfl w.heap.size 2 i0 _ 1 Try.underlying23 hi hz0 hz1 .i64 .i64 _ _ n rfl rfl rfl rfl (by rw [hz2]; omega) (by simp only [maxLen]; omega) (Nat.le_refl _) ?_; intro w1 hown hg)
  have F0 := Filling.start (xs := xs) hown hg
  clear hown hg hz0 hz1 hz2 hi
  go_loopw [11] (fun i wr => ∃ k : Nat, k ≤ n ∧ i = .int .i64 k ∧ Filling w 2 n xs k wr) (fun i _ => n - (intOf i).toNat)
  case atStart => exact ⟨0, Nat.zero_le _, rfl, F0⟩
  case round =>
    obtain ⟨k, hk, rfl, HF⟩ := hrel
    by_cases hlt : k < n
    · obtain ⟨x, hx⟩ := at_lt (show k < xs.length by rw [HL.out]; exact hlt)
      obtain ⟨b, o, rfl, _, hc⟩ := h.below HF.2 hB k _ (ints_at hx)
      have hf := HF.1.frozenAt k
      have ho := fill_at' HF HL.out hlt
      have G := Lib.hid (HF.step HL.out hx)
      clear hx F0 HF
      go_wp2
      go_roundw
      case rel => exact ⟨k + 1, by omega, by go_num, G.out⟩
      case measure => simp [intOf]; omega
    · obtain rfl : k = n := by omega
      have G := Lib.hid (HF.done HL.out)
      clear HF F0
      go_wp2
      go_ret
      exact G.out
end Go.Proofs.Ytnnihdkhblbdgaa
