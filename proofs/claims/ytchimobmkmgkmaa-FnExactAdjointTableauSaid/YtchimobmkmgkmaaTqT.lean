/-
  Stages taken by a list of indices, the program's; the list of all stages, and its reverse.
-/
import Derived.Test.YtchimobmkmgkmaaTqE
import Derived.Test.YtchimobmkmgkmaaTqG
namespace Go.Proofs.Ytchimobmkmgkmaa
open Go.RowKit Fld
set_option linter.unusedVariables false
set_option linter.unusedSimpArgs false
set_option maxRecDepth 100000

/-- indices as integers -/
def idx (is : List Nat) : List Int := is.map fun i : Nat => (i : Int)
theorem idx_length (is : List Nat) : (idx is).length = is.length := by simp [idx]
theorem idx_at {is : List Nat} {k i : Nat} (h : is[k]? = some i) : (idx is)[k]? = some (i : Int) := by unfold idx; rw [List.getElem?_map, h]; rfl
theorem idx_reverse (is : List Nat) : idx is.reverse = (idx is).reverse := by simp [idx]
set_option maxHeartbeats 1000000 in
theorem taking1_any (A S : Option Addr) (n c q cs B Bs kb : Nat) (r : List Int) (is : List Nat) (w : World) (hl : r.length = n) (hn : n ≤ 8) (hq : is.length = q) (hq8 : q ≤ 8) (hi : ∀ i ∈ is, i < n) (hB : B ≤ w.heap.size) (hBs : Bs ≤ w.heap.size) (h : Row w B A (ints r)) (hs : Row w Bs S (ints (idx is))) (hc : w.cell? ⟨kb, 0, none⟩ = some (.slice S q cs)) :
    Calls Try.prog 132 #[.slice A n c, .pointer (some ⟨kb, 0, none⟩)] w (NewRow 65 q (ints (takeL is r)) w) := by
  obtain ⟨i0, hi0, hz0, hz1, hz2⟩ := info_parts info_numE
  have HL := Lib.hid hl
  have HQ := Lib.hid hq
  have HI := Lib.hid hi
  have HAL : Hid ((takeL is r).length = q) := (takeL_length is r).trans hq
  have hkb := lt_of_cell hc
  have HC : Hid (∀ W, Below w.heap.size w W → W.cell? ⟨kb, 0, none⟩ = some (.slice S q cs)) := fun W hb => (hb.cell (p := ⟨kb, 0, none⟩) hkb).trans hc
  have q0 := hc
  clear hl hq hi hc
  go_enter Try.func132, Try.ntmps132
  go_wp2_with (at_make; refine wpList_make_full _ rfl (.tmp 8) (.tmp 8) 56 rfl w.heap.size 65 i0 _ 1 Try.underlying56 hi0 hz0 hz1 .i64 .i64 _ _ q rfl rfl rfl rfl (by rw [hz2]; omega) (by simp only [maxLen]; omega) (Nat.le_refl _) ?_; intro w1 hown hg; have q1 := HC.out w1 ((Below.refl _ _).grown hg (Nat.le_refl _) (fun k hk => by cases hk)))
  have F0 := Filling.start (xs := takeL is r) hown hg
  clear hown hg hz0 hz1 hz2 hi0 q0 q1
  go_loopw [12] (fun i wr => ∃ k : Nat, k ≤ q ∧ i = .int .i64 k ∧ Filling w 65 q (takeL is r) k wr) (fun i _ => q - (intOf i).toNat)
  case atStart => exact ⟨0, Nat.zero_le _, rfl, F0⟩
  case round =>
    obtain ⟨k, hk, rfl, HF⟩ := hrel
    by_cases hlt : k < q
    · obtain ⟨i, hik⟩ := at_lt (show k < is.length by rw [HQ.out]; exact hlt)
      have hin := HI.out i (List.mem_of_getElem? hik)
      obtain ⟨x, hx⟩ := at_lt (show i < r.length by rw [HL.out]; exact hin)
      obtain ⟨b, o, rfl, _, hcx⟩ := h.below HF.2 hB i _ (ints_at hx)
      obtain ⟨bs, os, rfl, _, hcs⟩ := hs.below HF.2 hBs k _ (ints_at (idx_at hik))
      have hf := HF.1.frozenAt k
      have ho := fill_at' HF HAL.out hlt
      have G := Lib.hid (HF.step HAL.out (takeL_at hik hx))
      have hinI : (i : Int) < (n : Int) := by omega
      have hi0I : (0 : Int) ≤ (i : Int) := Int.natCast_nonneg _
      clear hik hx F0 HF
      go_wp2
      go_roundw
      case rel => exact ⟨k + 1, by omega, by go_num, G.out⟩
      case measure => simp [intOf]; omega
    · obtain rfl : k = q := by omega
      have G := Lib.hid (HF.done HAL.out)
      clear HF F0
      go_wp2
      go_ret
      exact G.out
set_option maxHeartbeats 2000000 in
theorem taking_any (A D S : Option Addr) (n c d q cs B B' Bs : Nat) (m : List (List Int)) (b : List Int) (is : List Nat) (w : World) (hok : SchOk m b n) (hn : n ≤ 8) (hq : is.length = q) (hq8 : q ≤ 8) (hi : ∀ i ∈ is, i < n) (hB : B ≤ w.heap.size) (hB' : B' ≤ w.heap.size) (hBs : Bs ≤ w.heap.size) (h : Mat w B A m) (r : Row w B' D (ints b)) (hs : Row w Bs S (ints (idx is))) :
    Calls Try.prog 92 #[.agg #[.slice A n c, .slice D n d], .slice S q cs] w (NewF q q (takeM is m) (takeL is b) w) := by
  obtain ⟨i0, hi0, hz0, hz1, hz2⟩ := info_parts info_rowE
  have HOK := Lib.hid hok
  have HQ := Lib.hid hq
  have HI := Lib.hid hi
  obtain ⟨W0, hW0⟩ : ∃ W0, W0 = ((w.alloc (.cells #[.slice A n c, .slice D n d] 58)).alloc (.cells #[.slice S q cs] 23)).alloc (.cells #[.slice none 0 0, .slice none 0 0] 58) := ⟨_, rfl⟩
  have B1 : Below w.heap.size w (w.alloc (.cells #[.slice A n c, .slice D n d] 58)) := (Below.refl _ _).alloc (Nat.le_refl _) _
  have FB : Below w.heap.size w W0 := by rw [hW0]; exact (B1.alloc (by simp) _).alloc (by simp; omega) _
  have FS : W0.heap.size = w.heap.size + 3 := by rw [hW0]; simp
  have F1 : Bx W0 w.heap.size 58 (.slice A n c) (.slice D n d) := by
    rw [hW0]; exact ((Bx.new w _ _ _).next ((Below.refl _ _).alloc (Nat.le_refl _) _)).next ((Below.refl _ _).alloc (Nat.le_refl _) _)
  have F2 : Bx W0 (w.heap.size + 2) 58 (.slice none 0 0) (.slice none 0 0) := by
    rw [hW0]; have := Bx.new ((w.alloc (.cells #[.slice A n c, .slice D n d] 58)).alloc (.cells #[.slice S q cs] 23)) 58 (.slice none 0 0) (.slice none 0 0); simpa using this
  have F3 : W0.cell? ⟨w.heap.size + 1, 0, none⟩ = some (.slice S q cs) := by
    have h1 : W0.heap[w.heap.size + 1]? = some (.cells #[.slice S q cs] 23 (0, 0)) := by
      rw [hW0, Below.heap_alloc _ _ _ (by simp)]
      have := heap_alloc_new (w.alloc (.cells #[.slice A n c, .slice D n d] 58)) (.cells #[.slice S q cs] 23)
      simpa using this
    rw [cell_of_row _ _ 0 _ _ _ h1]; rfl
  have HM := Lib.hid (h.below FB hB)
  have HR := Lib.hid (r.below FB hB')
  have HSR := Lib.hid (hs.below FB hBs)
  have HX1 := Lib.hid F1
  have HX2 := Lib.hid F2
  have HB := Lib.hid FB
  have HS := Lib.hid FS
  have HC3 : Hid (∀ W, Below W0.heap.size W0 W → W.cell? ⟨w.heap.size + 1, 0, none⟩ = some (.slice S q cs)) := fun W hb => (hb.cell (p := ⟨w.heap.size + 1, 0, none⟩) (by show w.heap.size + 1 < W0.heap.size; omega)).trans F3
  have hs0 : B ≤ W0.heap.size := by rw [FS]; omega
  have hs1 : B' ≤ W0.heap.size := by rw [FS]; omega
  have hs2 : Bs ≤ W0.heap.size := by rw [FS]; omega
  have HAL : Hid ((takeM is m).length = q) := (takeM_length is m).trans hq
  have q0 := F3
  clear hok hq hi h r hs F1 F2 F3 FB FS B1
  go_enter Try.func92, Try.ntmps92
  go_wp2_with (at_make; rw [← hW0]; clear hW0; refine wpList_make_full _ rfl (.tmp 11) (.tmp 11) 55 rfl W0.heap.size 56 i0 _ 1 Try.underlying55 hi0 hz0 hz1 .i64 .i64 _ _ q rfl rfl rfl rfl (by rw [hz2]; omega) (by simp only [maxLen]; omega) (Nat.le_refl _) ?_; intro w1 hown hg; have q1 := HC3.out w1 ((Below.refl _ _).grown hg (Nat.le_refl _) (fun k hk => by cases hk)))
  have F0 := FillS.start (m := takeM is m) hown hg
  clear hown hg hz0 hz1 hz2 hi0 q0 q1
  go_loopw [15] (fun i wr => ∃ k : Nat, k ≤ q ∧ i = .int .i64 k ∧ FillS W0 q (takeM is m) k wr) (fun i _ => q - (intOf i).toNat)
  case atStart => exact ⟨0, Nat.zero_le _, rfl, F0⟩
  case round =>
    obtain ⟨k, hk, rfl, HFS⟩ := hrel
    obtain ⟨vs, hvs, hbel, hsz⟩ := id HFS
    by_cases hlt : k < q
    · obtain ⟨i, hik⟩ := at_lt (show k < is.length by rw [HQ.out]; exact hlt)
      have hin := HI.out i (List.mem_of_getElem? hik)
      obtain ⟨r, hr, hrn, _⟩ := HOK.out.at_ hin
      obtain ⟨b, o, Ak, ck, rfl, _, hc, hlc, hcm, hrow⟩ := HM.out.below hbel hs0 i r hr
      rw [hrn] at hc hlc
      obtain ⟨bs, os, rfl, _, hcs⟩ := HSR.out.below hbel hs2 k _ (ints_at (idx_at hik))
      have hqk := (HX1.out.next hbel).c0
      have hrm := takeM_at hik hr
      have C1 := taking1_any Ak (some ⟨bs, os, none⟩) n ck q cs B Bs (w.heap.size + 1) r is wr hrn hn HQ.out hq8 HI.out (by have := hbel.size; omega) (by have := hbel.size; omega) hrow (HSR.out.below hbel hs2) (HC3.out wr hbel)
      have HF' := Lib.hid HFS
      have HR2 := Lib.hid hrm
      have hBs := hbel.size
      have hinI : (i : Int) < (n : Int) := by omega
      have hi0I : (0 : Int) ≤ (i : Int) := Int.natCast_nonneg _
      have HTL := Lib.hid (takeL_length is r)
      clear hr hrn hik hrm F0 HFS hvs hbel hrow
      go_wp2_with fail
      refine C1.mono ?_
      rintro e w2 ⟨A2, c2, rfl, own2, be2⟩
      obtain ⟨⟨u, hu⟩, hf⟩ := HF'.out.cell HAL.out hlt be2
      have hTQ : (takeL is r).length = q := HTL.out.trans HQ.out
      have G := Lib.hid (HF'.out.step (c := c2) (A := A2) HAL.out HR2.out (by rw [hTQ]; exact own2) be2)
      rw [hTQ] at G
      clear own2 C1 hTQ
      go_wp2
      go_roundw
      case rel => exact ⟨k + 1, by omega, by go_num, G.out⟩
      case measure => simp [intOf]; omega
    · obtain rfl : k = q := by omega
      obtain ⟨A9, c9, vs9, he, own9, bel9⟩ := HFS.done HAL.out
      injection he with he
      injection he with he1 he2 he3
      subst he1 he3
      have q1 := (HX1.out.next hbel).c1
      have C1 := taking1_any D S n d k cs B' Bs (w.heap.size + 1) b is wr HOK.out.lenb hn HQ.out hq8 HI.out (by have := hbel.size; omega) (by have := hbel.size; omega) (HR.out.below hbel hs1) (HSR.out.below hbel hs2) (HC3.out wr hbel)
      have HG2 := Lib.hid (HX2.out.next hbel)
      have HO := Lib.hid own9
      have HBW := Lib.hid hbel
      have hzr := hbel.size
      clear F0 HFS hvs hbel own9 bel9
      go_wp2_with fail
      refine C1.mono ?_
      rintro e w5 ⟨A5, c5, rfl, own5, b5⟩
      have hz5 := b5.size
      have G5 := HG2.out.next b5
      have k0 := G5.c0
      have k1 := G5.c1
      have f0 := G5.free 0
      have f1 := G5.free 1
      have HG5 := Lib.hid G5
      have M5 := Lib.hid (MatF.of_sys (HO.out.below b5 (Nat.le_refl _)))
      have B5 := Lib.hid (HB.out.trans ((HBW.out.trans (b5.mono HBW.out.size)).mono HB.out.size))
      have hc5 := (own_cap own5).1
      have O6 := Lib.hid (RowF.of_own own5)
      clear own5 b5 G5 q1 C1
      go_wp2
      obtain ⟨hx7, hn7⟩ := NewF.put (w := w) (n := k) (n' := k) (c := k) (d := c5) HG5.out (by omega) (by have := HS.out; omega) (Nat.le_refl _) hc5 M5.out (O6.out.less (show W0.heap.size ≤ wr.heap.size by omega)) B5.out
      exact bodyPost_ret (v := .agg #[.slice (some ⟨W0.heap.size, 0, none⟩) k k, .slice A5 k c5]) (results_cell_row rfl _ _ (w.heap.size + 2) 58 _ (0, 0) _ rfl hx7 Try.underlying58 rfl info_schR) rfl hn7
set_option maxHeartbeats 1000000 in
theorem stages_any (A D : Option Addr) (n c n' d : Nat) (w : World) (hn : n' ≤ 8) :
    Calls Try.prog 91 #[.agg #[.slice A n c, .slice D n' d]] w (NewRow 2 n' (ints (idx (List.range n'))) w) := by
  obtain ⟨i0, hi0, hz0, hz1, hz2⟩ := info_parts info_i64
  obtain ⟨W0, hW0⟩ : ∃ W0, W0 = w.alloc (.cells #[.slice A n c, .slice D n' d] 58) := ⟨_, rfl⟩
  have HB : Hid (Below w.heap.size w W0) := by rw [hW0]; exact (Below.refl _ _).alloc (Nat.le_refl _) _
  have HX : Bx W0 w.heap.size 58 (.slice A n c) (.slice D n' d) := by rw [hW0]; exact Bx.new _ _ _ _
  have q1 := HX.c1
  have HAL : Hid ((idx (List.range n')).length = n') := by simp [Hid, idx]
  clear HX
  go_enter Try.func91, Try.ntmps91
  go_wp2_with (at_make; rw [← hW0]; clear hW0; refine wpList_make_full _ rfl (.tmp 7) (.tmp 7) 23 rfl W0.heap.size 2 i0 _ 1 Try.underlying23 hi0 hz0 hz1 .i64 .i64 _ _ n' rfl rfl rfl rfl (by rw [hz2]; omega) (by simp only [maxLen]; omega) (Nat.le_refl _) ?_; intro w1 hown hg)
  have F0 := Filling.start (xs := idx (List.range n')) hown hg
  clear hown hg hz0 hz1 hz2 hi0 q1
  go_loopw [11] (fun i wr => ∃ k : Nat, k ≤ n' ∧ i = .int .i64 k ∧ Filling W0 2 n' (idx (List.range n')) k wr) (fun i _ => n' - (intOf i).toNat)
  case atStart => exact ⟨0, Nat.zero_le _, rfl, F0⟩
  case round =>
    obtain ⟨k, hk, rfl, HF⟩ := hrel
    by_cases hlt : k < n'
    · have hf := HF.1.frozenAt k
      have ho := fill_at' HF HAL.out hlt
      have G := Lib.hid (HF.step HAL.out (idx_at (show (List.range n')[k]? = some k from List.getElem?_range hlt)))
      clear F0 HF
      go_wp2
      go_roundw
      case rel => exact ⟨k + 1, by omega, by go_num, G.out⟩
      case measure => simp [intOf]; omega
    · obtain rfl : k = n' := by omega
      have G := Lib.hid (NewRow.after HB.out (HF.done HAL.out))
      clear HF F0
      go_wp2
      go_ret
      exact G.out
end Go.Proofs.Ytchimobmkmgkmaa
