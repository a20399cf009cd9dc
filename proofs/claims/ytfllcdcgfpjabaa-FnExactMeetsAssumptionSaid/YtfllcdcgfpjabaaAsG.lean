/-
  Assumptions of a tableau, the program's: products number by number, the sums of the three kinds, the integrals.
-/
import Derived.Test.YtfllcdcgfpjabaaAsP
import Derived.Test.YtfllcdcgfpjabaaNum
import Derived.StillTailTactics
import Derived.Laws.OwnMore
namespace Go.Proofs.Ytfllcdcgfpjabaa
open Go.RowKit Fld
set_option linter.unusedVariables false
set_option linter.unusedSimpArgs false
set_option maxRecDepth 100000

theorem stillG {P : Program} {f : FuncId} {args : Array Value} {w : World} {v : Value} (h : Calls P f args w fun e w' => e = .returned v ∧ w = w') : Calls P f args w fun e w' => e = .returned v ∧ w' = w :=
  h.mono fun _ _ ⟨he, hm⟩ => ⟨he, hm.symm⟩
theorem info_numA : (Try.prog.info? 79).map (fun i => (i.zero, i.size, i.bytes)) = some (some (.int .i64 0), 1, 8) := by kernel_rfl
theorem num_atA {xs : List Int} {k : Nat} {x : Int} (h : allNum xs = true) (hx : xs[k]? = some x) : 0 ≤ x ∧ x < 10007 := allNum_iff.1 h x (List.mem_of_getElem? hx)
set_option maxHeartbeats 1000000 in
theorem productsOf_any (A A2 : Option Addr) (n c c2 B B2 : Nat) (xs ys : List Int) (w : World) (hl : xs.length = n) (hl2 : ys.length = n) (hn : n ≤ 1048576) (hx : allNum xs = true) (hy : allNum ys = true) (hB : B ≤ w.heap.size) (hB2 : B2 ≤ w.heap.size) (h : Row w B A (ints xs)) (h2 : Row w B2 A2 (ints ys)) :
    Calls Try.prog 76 #[.slice A n c, .slice A2 n c2] w (NewRow 79 n (ints (prL xs ys)) w) := by
  obtain ⟨i0, hi, hz0, hz1, hz2⟩ := info_parts info_numA
  have HL := Lib.hid hl
  have HL2 := Lib.hid hl2
  have HNX := Lib.hid hx
  have HNY := Lib.hid hy
  have HAL : Hid ((prL xs ys).length = n) := (prL_length xs ys).trans hl
  clear hl hl2 hx hy
  go_enter Try.func76, Try.ntmps76
  go_wp2_with (at_make; refine wpList_make_full _ rfl (.tmp 8) (.tmp 8) 63 rfl w.heap.size 79 i0 _ 1 Try.underlying63 hi hz0 hz1 .i64 .i64 _ _ n rfl rfl rfl rfl (by rw [hz2]; omega) (by simp only [maxLen]; omega) (Nat.le_refl _) ?_; intro w1 hown hg)
  have F0 := Filling.start (xs := prL xs ys) hown hg
  clear hown hg hz0 hz1 hz2 hi
  go_loopw [12] (fun i wr => ∃ k : Nat, k ≤ n ∧ i = .int .i64 k ∧ Filling w 79 n (prL xs ys) k wr) (fun i _ => n - (intOf i).toNat)
  case atStart => exact ⟨0, Nat.zero_le _, rfl, F0⟩
  case round =>
    obtain ⟨k, hk, rfl, HF⟩ := hrel
    by_cases hlt : k < n
    · obtain ⟨x, hx⟩ := at_lt (show k < xs.length by rw [HL.out]; exact hlt)
      obtain ⟨y, hy⟩ := at_lt (show k < ys.length by rw [HL2.out]; exact hlt)
      obtain ⟨x0, x1⟩ := num_atA HNX.out hx
      obtain ⟨y0, y1⟩ := num_atA HNY.out hy
      obtain ⟨bx, o, rfl, _, hcx⟩ := h.below HF.2 hB k _ (ints_at hx)
      obtain ⟨by_, oy, rfl, _, hcy⟩ := h2.below HF.2 hB2 k _ (ints_at hy)
      have hf := HF.1.frozenAt k
      have ho := fill_at' HF HAL.out hlt
      have G := Lib.hid ((HF.drewN 1).step HAL.out (prL_at hx hy))
      clear hx hy F0 HF
      go_wp2_with fail
      refine wp_region_still_tail 12 (by kernel_rfl) (by kernel_rfl) ?_
      simp only [List.take_succ_cons, List.take_zero, List.drop_succ_cons, List.drop_zero]
      repeat still_step
      refine wpStill_step (fun K hK => ?_)
      go_simp
      refine ⟨_, stillG (times_any _ _ _ x0 x1 y0 y1), hK _ ?_⟩
      clear hK K
      repeat still_step
      refine wpStill_nil ?_
      change wpList _ _ _ _ _ wr.drew
      go_wp2
      go_roundw
      case rel => exact ⟨k + 1, by omega, by go_num, G.out⟩
      case measure => simp [intOf]; omega
    · obtain rfl : k = n := by omega
      have G := Lib.hid (HF.done HAL.out)
      clear HF F0
      go_wp2
      go_ret
      exact G.out
/-- a list that can be read -/
def RdRow (n : Nat) (vs : List Value) (w : World) (e : Ending) (w' : World) : Prop := ∃ A c, e = .returned (.slice A n c) ∧ Row w' w'.heap.size A vs ∧ Below w.heap.size w w'
theorem RdRow.of {n : Nat} {vs : List Value} {T : TypeId} {w W w' : World} {e : Ending} (hb : Below w.heap.size w W) (h : NewRow T n vs W e w') : RdRow n vs w e w' := by
  obtain ⟨A, c, rfl, own, b⟩ := h
  exact ⟨A, c, rfl, row_of_own own, hb.trans (b.mono hb.size)⟩
theorem one_row (W : World) (x : Int) : Row (W.alloc (.cells #[.int .i64 x] 79)) (W.heap.size + 1) (some ⟨W.heap.size, 0, none⟩) (ints [x]) := Row.new W 79 (ints [x])
set_option maxHeartbeats 1000000 in
theorem sums0_any (A D A2 : Option Addr) (n c d c2 B' B2 : Nat) (b pv : List Int) (w : World) (hb : b.length = n) (hp : pv.length = n) (hn : n ≤ 8) (hnb : allNum b = true) (hpn : allNum pv = true) (hB' : B' ≤ w.heap.size) (hB2 : B2 ≤ w.heap.size) (r : Row w B' D (ints b)) (h2 : Row w B2 A2 (ints pv)) :
    Calls Try.prog 157 #[.agg #[], .agg #[.slice A n c, .slice D n d], .slice A2 n c2] w (RdRow 1 (ints [dotK b pv n]) w) := by
  obtain ⟨W0, hW0⟩ : ∃ W0, W0 = (w.alloc (.cells #[] 53)).alloc (.cells #[.slice A n c, .slice D n d] 65) := ⟨_, rfl⟩
  have HB : Hid (Below w.heap.size w W0) := by rw [hW0]; exact ((Below.refl _ _).alloc (Nat.le_refl _) _).alloc (by simp) _
  have CD := dotOf_any D A2 n d c2 B' B2 b pv W0 hb hp (by omega) (r.below HB.out hB') (h2.below HB.out hB2) hnb hpn
  obtain ⟨x, hx⟩ : ∃ x, x = dotK b pv n := ⟨_, rfl⟩
  rw [← hx] at CD ⊢
  clear hb hp hnb hpn r h2 hx
  go_enter Try.func157, Try.ntmps157
  go_wp2_with fail
  rw [← hW0]
  refine CD.mono ?_
  rintro e w2 ⟨rfl, q, rfl⟩
  clear CD
  clear hW0
  have G : Hid (RdRow 1 (ints [x]) w (.returned (.slice (some ⟨(W0.drewN q).heap.size, 0, none⟩) 1 1)) ((W0.drewN q).alloc (.cells #[.int .i64 x] 79))) :=
    ⟨_, _, rfl, by have := one_row (W0.drewN q) x; simpa using this, (below_drewN HB.out q).alloc (below_drewN HB.out q).size _⟩
  go_wp2
  go_ret
  exact G.out
set_option maxHeartbeats 1000000 in
theorem sums1_any (A D A2 : Option Addr) (n c d c2 B B2 : Nat) (m : List (List Int)) (pv : List Int) (w : World) (hl : m.length = n) (hp : pv.length = n) (hn : n ≤ 8) (hq : Wide m n) (hnum : ∀ r ∈ m, allNum r = true) (hpn : allNum pv = true) (hB : B ≤ w.heap.size) (hB2 : B2 ≤ w.heap.size) (h : Mat w B A m) (h2 : Row w B2 A2 (ints pv)) :
    Calls Try.prog 158 #[.agg #[], .agg #[.slice A n c, .slice D n d], .slice A2 n c2] w (RdRow n (ints (appL m pv)) w) := by
  obtain ⟨W0, hW0⟩ : ∃ W0, W0 = (w.alloc (.cells #[] 55)).alloc (.cells #[.slice A n c, .slice D n d] 65) := ⟨_, rfl⟩
  have HB : Hid (Below w.heap.size w W0) := by rw [hW0]; exact ((Below.refl _ _).alloc (Nat.le_refl _) _).alloc (by simp) _
  have hz := HB.out.size
  have CD := applied_any A D A2 n c n d c2 B B2 m pv W0 hl hn hq hnum hp hpn (by omega) (by omega) (h.below HB.out hB) (h2.below HB.out hB2)
  clear hl hp hq hnum hpn h h2
  go_enter Try.func158, Try.ntmps158
  go_wp2_with fail
  rw [← hW0]
  refine CD.mono ?_
  intro e w2 hR
  have G := Lib.hid (RdRow.of HB.out hR)
  obtain ⟨A3, c3, rfl, own3, b3⟩ := hR
  clear CD hW0 own3 b3
  go_wp2
  go_ret
  exact G.out
/-- the sums over columns, as far as row i, and one more in the first j columns -/
def colL (m : List (List Int)) (f : List Int) (n i j : Nat) : List Int := (List.range n).map fun t => colD m f t (if t < j then i + 1 else i)
theorem colL_length (m : List (List Int)) (f : List Int) (n i j : Nat) : (colL m f n i j).length = n := by simp [colL]
theorem colL_at {m : List (List Int)} {f : List Int} {n i j t : Nat} (h : t < n) : (colL m f n i j)[t]? = some (colD m f t (if t < j then i + 1 else i)) := by
  unfold colL; rw [List.getElem?_map, List.getElem?_range h]; rfl
theorem colL_start (m : List (List Int)) (f : List Int) (n : Nat) : colL m f n 0 0 = List.replicate n 0 := by
  rw [List.eq_replicate_iff]
  refine ⟨colL_length _ _ _ _ _, fun x hx => ?_⟩
  unfold colL at hx
  obtain ⟨t, _, rfl⟩ := List.mem_map.1 hx
  rw [if_neg (by omega)]; rfl
theorem colL_end (m : List (List Int)) (f : List Int) (n i : Nat) : colL m f n i n = colL m f n (i + 1) 0 := by
  unfold colL
  apply List.map_congr_left
  intro t ht
  rw [List.mem_range] at ht
  rw [if_pos ht, if_neg (by omega)]
theorem colL_set {m : List (List Int)} {f : List Int} {n i j : Nat} (h : j < n) : (colL m f n i j).set j (colD m f j (i + 1)) = colL m f n i (j + 1) := by
  apply List.ext_getElem?
  intro t
  by_cases ht : t < n
  · by_cases e : j = t
    · subst e
      rw [List.getElem?_set_self (by rw [colL_length]; exact h), colL_at h, if_pos (by omega)]
    · rw [List.getElem?_set_ne e, colL_at ht, colL_at ht]
      by_cases h2 : t < j
      · rw [if_pos h2, if_pos (by omega)]
      · rw [if_neg h2, if_neg (by omega)]
  · rw [List.getElem?_eq_none (by rw [List.length_set, colL_length]; omega), List.getElem?_eq_none (by rw [colL_length]; omega)]
theorem intsA_set (ls : List Int) (k : Nat) (l : Int) : ints (ls.set k l) = (ints ls).set k (.int .i64 l) := by unfold ints intsK; rw [List.map_set]
/-- the row of sums while it fills -/
def ColS (base g n : Nat) (w : World) (ls : List Int) (wr : World) : Prop := wr.ownsRow base 79 1 (.slice (some ⟨g, 0, none⟩) n n) n (ints ls) ∧ w.grownBy wr (some g)
theorem ColS.put {base g n j : Nat} {w wr : World} {ls : List Int} {x : Int} (h : ColS base g n w ls wr) : ColS base g n w (ls.set j x) (wr.setCell ⟨g, j, none⟩ (.int .i64 x)) := by
  obtain ⟨h1, h2⟩ := h.1.stored j (.int .i64 x)
  rw [← intsA_set] at h1
  exact ⟨h1, grownBy_trans h.2 h2⟩
theorem ColS.drewN {base g n : Nat} {w wr : World} {ls : List Int} (h : ColS base g n w ls wr) (q : Nat) : ColS base g n w ls (wr.drewN q) := ⟨h.1, ⟨h.2.os, h.2.tape, h.2.output, h.2.size, h.2.block⟩⟩
set_option maxHeartbeats 2000000 in
theorem sums2_any (A D A2 : Option Addr) (n c d c2 B B' B2 : Nat) (m : List (List Int)) (b pv : List Int) (w : World) (hl : m.length = n) (hb : b.length = n) (hp : pv.length = n) (hn : n ≤ 8) (hq : Wide m n) (hnum : ∀ r ∈ m, allNum r = true) (hnb : allNum b = true) (hpn : allNum pv = true) (hB : B ≤ w.heap.size) (hB' : B' ≤ w.heap.size) (hB2 : B2 ≤ w.heap.size) (h : Mat w B A m) (r : Row w B' D (ints b)) (h2 : Row w B2 A2 (ints pv)) :
    Calls Try.prog 159 #[.agg #[], .agg #[.slice A n c, .slice D n d], .slice A2 n c2] w (RdRow n (ints (colL m (prL b pv) n n 0)) w) := by
  obtain ⟨i0, hi, hz0, hz1, hz2⟩ := info_parts info_numA
  have HL := Lib.hid hl
  have HQ := Lib.hid hq
  have HN := Lib.hid hnum
  obtain ⟨W0, hW0⟩ : ∃ W0, W0 = (w.alloc (.cells #[] 56)).alloc (.cells #[.slice A n c, .slice D n d] 65) := ⟨_, rfl⟩
  have HB : Hid (Below w.heap.size w W0) := by rw [hW0]; exact ((Below.refl _ _).alloc (Nat.le_refl _) _).alloc (by simp) _
  have HX : Bx W0 (w.heap.size + 1) 65 (.slice A n c) (.slice D n d) := by rw [hW0]; have := Bx.new (w.alloc (.cells #[] 56)) 65 (.slice A n c) (.slice D n d); simpa using this
  have hz := HB.out.size
  have HM := Lib.hid (h.below HB.out hB)
  have CP := fun V (hV : Below W0.heap.size W0 V) => productsOf_any D A2 n d c2 B' B2 b pv V hb hp (by omega) hnb hpn (by have := hV.size; omega) (by have := hV.size; omega) ((r.below HB.out hB').below hV (by omega)) ((h2.below HB.out hB2).below hV (by omega))
  obtain ⟨f, hf⟩ : ∃ f, f = prL b pv := ⟨_, rfl⟩
  have HFN : Hid (allNum f = true) := by rw [hf]; exact prL_num _ _
  have HFL : Hid (f.length = n) := by rw [hf]; exact (prL_length b pv).trans hb
  rw [← hf] at CP ⊢
  have HXX := Lib.hid HX
  have q1 := HX.c1
  clear hl hq hnum hb hp hnb hpn h r h2 hf HX
  go_enter Try.func159, Try.ntmps159
  go_wp2_with (at_make; rw [← hW0]; clear hW0; refine wpList_make_full _ rfl (.tmp 14) (.tmp 14) 63 rfl W0.heap.size 79 i0 _ 1 Try.underlying63 hi hz0 hz1 .i64 .i64 _ _ n rfl rfl rfl rfl (by rw [hz2]; omega) (by simp only [maxLen]; omega) (Nat.le_refl _) ?_; intro w1 hown hg; have q2 := (HXX.out.next ((Below.refl _ _).grown hg (Nat.le_refl _) (fun k hk => by cases hk))).c1)
  have hg1 : Below W0.heap.size W0 w1 := (Below.refl _ _).grown hg (Nat.le_refl _) (fun k hk => by cases hk)
  have hlt1 : W0.heap.size < w1.heap.size := (hown.lt W0.heap.size rfl).2
  have hown0 : w1.ownsRow W0.heap.size 79 1 (.slice (some ⟨W0.heap.size, 0, none⟩) n n) n (ints (colL m f n 0 0)) := by
    rw [colL_start]; have e : (madeCells (Value.int .i64 0).cells (n * 1)).toList = ints (List.replicate n 0) := by
      rw [Nat.mul_one]; exact (toList_madeCells_one _ _).trans (by simp [ints, intsK])
    rw [← e]; exact hown
  refine (CP w1 hg1).mono ?_
  rintro e w2 ⟨A3, c3, rfl, own3, b3⟩
  have HF3 := Lib.hid (OwnR.of own3)
  have hb2 : Below W0.heap.size W0 w2 := hg1.trans (b3.mono hg1.size)
  have F0 : ColS W0.heap.size W0.heap.size n w2 (colL m f n 0 0) w2 := ⟨(OwnR.below (OwnR.of hown0) b3 (Nat.le_refl _)).1, World.grownBy.refl _ _⟩
  have hz2' := hb2.size
  have hz3 := b3.size
  clear hown hown0 hg hz0 hz1 hz2 hi CP q1 q2 own3 b3 hg1
  have HB2 := Lib.hid hb2
  clear hb2
  -- what lies elsewhere stays
  have KW : Hid (∀ V, w2.grownBy V (some W0.heap.size) → Below W0.heap.size W0 V) := fun V hV => HB2.out.grown hV hz2' (fun k hk => by cases hk; exact Nat.le_refl _)
  have KF : Hid (∀ V, w2.grownBy V (some W0.heap.size) → Row V w2.heap.size A3 (ints f)) := fun V hV => by
    have := HF3.out.grown hV (by
      cases hob : (Value.slice A3 n c3).ownBlock with
      | none => exact .inl rfl
      | some q => exact .inr (fun e => by injection e with e; have := (HF3.out.1.lt q hob).1; omega))
    exact this.row
  go_wp2_with fail
  go_loopw [21] (fun iv wr => ∃ i : Nat, i ≤ n ∧ iv = .int .i64 i ∧ ColS W0.heap.size W0.heap.size n w2 (colL m f n i 0) wr) (fun iv _ => n - (intOf iv).toNat)
  case atStart => exact ⟨0, Nat.zero_le _, rfl, F0⟩
  case round =>
    obtain ⟨i, hi, rfl, HS⟩ := hrel
    have HS' := Lib.hid HS
    have hbw := KW.out wr HS.2
    by_cases hlt : i < n
    · obtain ⟨x, hx⟩ := at_lt (show i < f.length by rw [HFL.out]; exact hlt)
      obtain ⟨x0, x1⟩ := num_atA HFN.out hx
      obtain ⟨bx, ox, rfl, _, hcx⟩ := KF.out wr HS.2 i _ (ints_at hx)
      obtain ⟨r, hr⟩ := at_lt (show i < m.length by rw [HL.out]; exact hlt)
      have hrq := HQ.out.at_ hr
      have HRN := Lib.hid (HN.out r (List.mem_of_getElem? hr))
      have HRQ := Lib.hid hrq
      obtain ⟨bm, om, Ak, ck, rfl, hbm, hcm0, _, _, hrow0⟩ := HM.out i r hr
      have hcm : wr.cell? ⟨bm, om + i, none⟩ = some (.slice Ak r.length ck) := (hbw.cell (by show bm < W0.heap.size; omega)).trans hcm0
      rw [hrq] at hcm
      have HRW := Lib.hid hrow0
      have q0 := (HXX.out.next hbw).c0
      have HFI := Lib.hid hx
      have HRI := Lib.hid hr
      clear hx hr hrq F0 HS hbw hcm0 hrow0
      go_wp2_with fail
      clear q0 hcm hcx
      obtain ⟨wo, hwo⟩ : ∃ wo, wo = wr := ⟨_, rfl⟩
      rw [← hwo] at HS'
      go_loopw [32] (fun jv wr => ∃ j : Nat, j ≤ n ∧ jv = .int .i64 j ∧ ColS W0.heap.size W0.heap.size n w2 (colL m f n i j) wr) (fun jv _ => n - (intOf jv).toNat)
      case atStart => exact ⟨0, Nat.zero_le _, rfl, by rw [← hwo]; exact HS'.out⟩
      case round =>
        obtain ⟨j, hj, rfl, HS⟩ := hrel
        by_cases hjl : j < n
        · obtain ⟨y, hy⟩ := at_lt (show j < r.length by rw [HRQ.out]; exact hjl)
          obtain ⟨y0, y1⟩ := num_atA HRN.out hy
          obtain ⟨by_, oy, rfl, _, hcy⟩ := (HRW.out.below (KW.out wr HS.2) (by omega)) j _ (ints_at hy)
          have hcs := HS.1.cellAt j (by omega)
          rw [ints_at (colL_at hjl), if_neg (by omega)] at hcs
          have hfs := HS.1.frozenAt j
          obtain ⟨s0, s1⟩ := colD_bd m f j i
          have HST := Lib.hid (colD_next HFI.out HRI.out hy)
          have G : Hid (ColS W0.heap.size W0.heap.size n w2 (colL m f n i (j + 1)) (wr.setCell ⟨W0.heap.size, j, none⟩ (.int .i64 ((colD m f j i + x * y % 10007) % 10007))).drew) := by
            rw [← HST.out, ← colL_set hjl]; exact HS.put.drewN 1
          obtain ⟨S, hS⟩ : ∃ S, S = colD m f j i := ⟨_, rfl⟩
          rw [← hS] at hcs s0 s1 G
          clear hy HS hS HST
          go_wp2_with fail
          refine wp_region_still_tail 11 (by kernel_rfl) (by kernel_rfl) ?_
          simp only [List.take_succ_cons, List.take_zero, List.drop_succ_cons, List.drop_zero]
          repeat still_step
          refine wpStill_step (fun K hK => ?_)
          go_simp
          refine ⟨_, stillG (times_any _ _ _ x0 x1 y0 y1), hK _ ?_⟩
          clear hK K
          repeat still_step
          refine wpStill_step (fun K hK => ?_)
          go_simp
          refine ⟨_, stillG (plus_any _ _ _ s0 s1 (Int.emod_nonneg _ (by omega)) (Int.emod_lt_of_pos _ (by omega))), hK _ ?_⟩
          clear hK K
          repeat still_step
          refine wpStill_nil ?_
          change wpList _ _ _ _ _ wr.drew
          go_wp2
          go_roundw
          case rel => exact ⟨j + 1, by omega, by go_num, by have := G.out; simpa using this⟩
          case measure => simp [intOf]; omega
        · obtain rfl : j = n := by omega
          rw [colL_end] at HS
          have G := Lib.hid HS
          clear HS
          go_wp2
          go_roundw
          case rel => exact ⟨i + 1, by omega, by go_num, G.out⟩
          case measure => simp [intOf]; omega
    · obtain rfl : i = n := by omega
      have G : Hid (RdRow i (ints (colL m f i i 0)) w (.returned (.slice (some ⟨W0.heap.size, 0, none⟩) i i)) wr) := ⟨_, _, rfl, row_of_own HS.1, HB.out.trans ((KW.out wr HS.2).mono HB.out.size)⟩
      clear HS F0 HS' hbw
      go_wp2
      go_ret
      exact G.out
end Go.Proofs.Ytfllcdcgfpjabaa
