/-
  Rows of a scheme turned by a closure: scaled, and less B.
-/
import Derived.Test.YtchimobmkmgkmaaTqF
import Derived.Test.YtchimobmkmgkmaaOwn1
namespace Go.Proofs.Ytchimobmkmgkmaa
open Go.RowKit Fld
set_option linter.unusedVariables false
set_option linter.unusedSimpArgs false
set_option maxRecDepth 100000

theorem info_numE : (Try.prog.info? 65).map (fun i => (i.zero, i.size, i.bytes)) = some (some (.int .i64 0), 1, 8) := by kernel_rfl
theorem info_rowE : (Try.prog.info? 56).map (fun i => (i.zero, i.size, i.bytes)) = some (some (.slice none 0 0), 1, 24) := by kernel_rfl
theorem Filling.drewE {w wr : World} {T : TypeId} {n k : Nat} {xs : List Int} (h : Filling w T n xs k wr) (j : Nat) : Filling w T n xs k (wr.drewN j) := ⟨h.1, below_drewN h.2 j⟩
set_option maxHeartbeats 1000000 in
theorem scaled1_any (A : Option Addr) (n c B kb : Nat) (r : List Int) (y : Int) (w : World) (hl : r.length = n) (hn : n ≤ 8) (hr : allNum r = true) (y0 : 0 ≤ y) (y1 : y < 10007) (hB : B ≤ w.heap.size) (h : Row w B A (ints r)) (hc : w.cell? ⟨kb, 0, none⟩ = some (.int .i64 y)) :
    Calls Try.prog 104 #[.slice A n c, .pointer (some ⟨kb, 0, none⟩)] w (NewRow 65 n (ints (scaleL y r)) w) := by
  obtain ⟨i0, hi, hz0, hz1, hz2⟩ := info_parts info_numE
  have HL := Lib.hid hl
  have HN := Lib.hid hr
  have HAL : Hid ((scaleL y r).length = n) := (scaleL_length y r).trans hl
  have hkb := lt_of_cell hc
  have HC : Hid (∀ W, Below w.heap.size w W → W.cell? ⟨kb, 0, none⟩ = some (.int .i64 y)) := fun W hb => (hb.cell (p := ⟨kb, 0, none⟩) hkb).trans hc
  clear hl hr hc
  go_enter Try.func104, Try.ntmps104
  go_wp2_with (at_make; refine wpList_make_full _ rfl (.tmp 8) (.tmp 8) 56 rfl w.heap.size 65 i0 _ 1 Try.underlying56 hi hz0 hz1 .i64 .i64 _ _ n rfl rfl rfl rfl (by rw [hz2]; omega) (by simp only [maxLen]; omega) (Nat.le_refl _) ?_; intro w1 hown hg)
  have F0 := Filling.start (xs := scaleL y r) hown hg
  clear hown hg hz0 hz1 hz2 hi
  go_loopw [12] (fun i wr => ∃ k : Nat, k ≤ n ∧ i = .int .i64 k ∧ Filling w 65 n (scaleL y r) k wr) (fun i _ => n - (intOf i).toNat)
  case atStart => exact ⟨0, Nat.zero_le _, rfl, F0⟩
  case round =>
    obtain ⟨k, hk, rfl, HF⟩ := hrel
    by_cases hlt : k < n
    · obtain ⟨x, hx⟩ := at_lt (show k < r.length by rw [HL.out]; exact hlt)
      obtain ⟨x0, x1⟩ := num_at HN.out hx
      obtain ⟨b, o, rfl, _, hcx⟩ := h.below HF.2 hB k _ (ints_at hx)
      have hcy := HC.out wr HF.2
      have hf := HF.1.frozenAt k
      have ho := fill_at' HF HAL.out hlt
      have G := Lib.hid (HF.step HAL.out (scaleL_at (y := y) hx))
      clear hx F0 HF
      go_wp2_with fail
      refine (times_any x y _ x0 x1 y0 y1).mono ?_
      rintro e w2 ⟨rfl, rfl⟩
      go_wp2
      go_roundw
      case rel => exact ⟨k + 1, by omega, by go_num, G.out⟩
      case measure => simp [intOf]; omega
    · obtain rfl : k = n := by omega
      have G := Lib.hid (HF.done HAL.out)
      clear HF F0
      go_wp2
      go_ret
      exact G.out
set_option maxHeartbeats 1000000 in
theorem inverse1_any (A A0 D : Option Addr) (n c n0 c0 d B B' kb : Nat) (r b : List Int) (w : World) (hl : r.length = n) (hlb : b.length = n) (hn : n ≤ 8) (hr : allNum r = true) (hb : allNum b = true) (hB : B ≤ w.heap.size) (hB' : B' ≤ w.heap.size) (h : Row w B A (ints r)) (h' : Row w B' D (ints b)) (hc : Bx w kb 58 (.slice A0 n0 c0) (.slice D n d)) :
    Calls Try.prog 107 #[.slice A n c, .pointer (some ⟨kb, 0, none⟩)] w (NewRow 65 n (ints (lessL b r)) w) := by
  obtain ⟨i0, hi, hz0, hz1, hz2⟩ := info_parts info_numE
  have HL := Lib.hid hl
  have HLB := Lib.hid hlb
  have HN := Lib.hid hr
  have HNB := Lib.hid hb
  have HAL : Hid ((lessL b r).length = n) := (lessL_length (by rw [hl, hlb])).trans hl
  have HC := Lib.hid hc
  clear hl hlb hr hb hc
  go_enter Try.func107, Try.ntmps107
  go_wp2_with (at_make; refine wpList_make_full _ rfl (.tmp 8) (.tmp 8) 56 rfl w.heap.size 65 i0 _ 1 Try.underlying56 hi hz0 hz1 .i64 .i64 _ _ n rfl rfl rfl rfl (by rw [hz2]; omega) (by simp only [maxLen]; omega) (Nat.le_refl _) ?_; intro w1 hown hg)
  have F0 := Filling.start (xs := lessL b r) hown hg
  clear hown hg hz0 hz1 hz2 hi
  go_loopw [12] (fun i wr => ∃ k : Nat, k ≤ n ∧ i = .int .i64 k ∧ Filling w 65 n (lessL b r) k wr) (fun i _ => n - (intOf i).toNat)
  case atStart => exact ⟨0, Nat.zero_le _, rfl, F0⟩
  case round =>
    obtain ⟨k, hk, rfl, HF⟩ := hrel
    by_cases hlt : k < n
    · obtain ⟨x, hx⟩ := at_lt (show k < r.length by rw [HL.out]; exact hlt)
      obtain ⟨y, hy⟩ := at_lt (show k < b.length by rw [HLB.out]; exact hlt)
      obtain ⟨x0, x1⟩ := num_at HN.out hx
      obtain ⟨y0, y1⟩ := num_at HNB.out hy
      obtain ⟨bx, o, rfl, _, hcx⟩ := h.below HF.2 hB k _ (ints_at hx)
      obtain ⟨by_, oy, rfl, _, hcy⟩ := h'.below HF.2 hB' k _ (ints_at hy)
      have hq := (HC.out.next HF.2).c1
      have hf := HF.1.frozenAt k
      have ho := fill_at' HF HAL.out hlt
      have G := Lib.hid (HF.step HAL.out (lessL_at hx hy))
      clear hx hy F0 HF
      go_wp2_with fail
      refine (minus_any x y _ x0 x1 y0 y1).mono ?_
      rintro e w2 ⟨rfl, rfl⟩
      go_wp2
      go_roundw
      case rel => exact ⟨k + 1, by omega, by go_num, G.out⟩
      case measure => simp [intOf]; omega
    · obtain rfl : k = n := by omega
      have G := Lib.hid (HF.done HAL.out)
      clear HF F0
      go_wp2
      go_ret
      exact G.out
set_option maxHeartbeats 2000000 in
theorem eachRow_scaled (A D : Option Addr) (n c n' d B B' kb : Nat) (m : List (List Int)) (b : List Int) (y : Int) (w : World) (hlm : m.length = n) (hlb : b.length = n') (hn : n ≤ 8) (hB : B ≤ w.heap.size) (hB' : B' ≤ w.heap.size) (h : Mat w B A m) (r : Row w B' D (ints b))
    (hf : ∀ r, r ∈ m ∨ r = b → (scaleL y r).length = r.length)
    (hcl : ∀ (W : World) (A2 : Option Addr) (c2 q : Nat) (r : List Int), Below w.heap.size w W → (r ∈ m ∨ r = b) → r.length = q → Row W W.heap.size A2 (ints r) → Calls Try.prog 104 #[.slice A2 q c2, .pointer (some ⟨kb, 0, none⟩)] W (NewRow 65 q (ints (scaleL y r)) W)) :
    Calls Try.prog 103 #[.agg #[.slice A n c, .slice D n' d], .func (.func 104) #[] #[.pointer (some ⟨kb, 0, none⟩)]] w (NewF n n' (m.map (scaleL y)) (scaleL y b) w) := by
  obtain ⟨i0, hi, hz0, hz1, hz2⟩ := info_parts info_rowE
  have HL := Lib.hid hlm
  have HLB := Lib.hid hlb
  have HF := Lib.hid hf
  obtain ⟨W0, hW0⟩ : ∃ W0, W0 = (w.alloc (.cells #[.slice A n c, .slice D n' d] 58)).alloc (.cells #[.slice none 0 0, .slice none 0 0] 58) := ⟨_, rfl⟩
  have FB : Below w.heap.size w W0 := by rw [hW0]; exact ((Below.refl _ _).alloc (Nat.le_refl _) _).alloc (by simp) _
  have FS : W0.heap.size = w.heap.size + 2 := by rw [hW0]; simp
  have F1 : Bx W0 w.heap.size 58 (.slice A n c) (.slice D n' d) := by
    rw [hW0]; exact (Bx.new w _ _ _).next ((Below.refl _ _).alloc (Nat.le_refl _) _)
  have F2 : Bx W0 (w.heap.size + 1) 58 (.slice none 0 0) (.slice none 0 0) := by
    rw [hW0]; have := Bx.new (w.alloc (.cells #[.slice A n c, .slice D n' d] 58)) 58 (.slice none 0 0) (.slice none 0 0); simpa using this
  have HM := Lib.hid (h.below FB hB)
  have HR := Lib.hid (r.below FB hB')
  have HX1 := Lib.hid F1
  have HX2 := Lib.hid F2
  have HB := Lib.hid FB
  have HS := Lib.hid FS
  have HCL := Lib.hid hcl
  have HAL : Hid ((m.map (scaleL y)).length = n) := by simp [Hid, hlm]
  have hs0 : B ≤ W0.heap.size := by rw [FS]; omega
  have hs1 : B' ≤ W0.heap.size := by rw [FS]; omega
  have q0 := F1.c0
  clear hlm hlb hf h r F1 F2 FB FS hcl
  go_enter Try.func103, Try.ntmps103
  go_wp2_with (at_make; rw [← hW0]; clear hW0; refine wpList_make_full _ rfl (.tmp 10) (.tmp 10) 55 rfl W0.heap.size 56 i0 _ 1 Try.underlying55 hi hz0 hz1 .i64 .i64 _ _ n rfl rfl rfl rfl (by rw [hz2]; omega) (by simp only [maxLen]; omega) (Nat.le_refl _) ?_; intro w1 hown hg; have q1 := (HX1.out.next ((Below.refl _ _).grown hg (Nat.le_refl _) (fun k hk => by cases hk))).c0)
  have F0 := FillS.start (m := m.map (scaleL y)) hown hg
  clear hown hg hz0 hz1 hz2 hi q0 q1
  go_loopw [15] (fun i wr => ∃ k : Nat, k ≤ n ∧ i = .int .i64 k ∧ FillS W0 n (m.map (scaleL y)) k wr) (fun i _ => n - (intOf i).toNat)
  case atStart => exact ⟨0, Nat.zero_le _, rfl, F0⟩
  case round =>
    obtain ⟨k, hk, rfl, HFS⟩ := hrel
    obtain ⟨vs, hvs, hbel, hsz⟩ := id HFS
    by_cases hlt : k < n
    · obtain ⟨r, hr⟩ := at_lt (show k < m.length by rw [HL.out]; exact hlt)
      obtain ⟨b, o, Ak, ck, rfl, _, hc, hlc, hcm, hrow⟩ := HM.out.below hbel hs0 k r hr
      have hrm : (m.map (scaleL y))[k]? = some (scaleL y r) := by rw [List.getElem?_map, hr]; rfl
      have hglen := HF.out r (.inl (List.mem_of_getElem? hr))
      have C1 := HCL.out wr Ak ck r.length r (HB.out.trans (hbel.mono HB.out.size)) (.inl (List.mem_of_getElem? hr)) rfl (hrow.more (by have := hbel.size; omega))
      have HF' := Lib.hid HFS
      have HR2 := Lib.hid hrm
      have HGL := Lib.hid hglen
      have hBs := hbel.size
      clear hr hrm hglen F0 HFS hvs hbel hrow
      go_wp2_with fail
      refine C1.mono ?_
      rintro e w2 ⟨A2, c2, rfl, own2, be2⟩
      obtain ⟨⟨u, hu⟩, hf⟩ := HF'.out.cell HAL.out hlt be2
      have G := Lib.hid (HF'.out.step (c := c2) (A := A2) HAL.out HR2.out (by rw [HGL.out]; exact own2) be2)
      rw [HGL.out] at G
      clear own2 C1
      go_wp2
      go_roundw
      case rel => exact ⟨k + 1, by omega, by go_num, G.out⟩
      case measure => simp [intOf]; omega
    · obtain rfl : k = n := by omega
      obtain ⟨A9, c9, vs9, he, own9, bel9⟩ := HFS.done HAL.out
      injection he with he
      injection he with he1 he2 he3
      subst he1 he3
      have G1 := HX1.out.next hbel
      have G2 := HX2.out.next hbel
      have q1 := G1.c1
      have HR2 := (HR.out.below hbel hs1).more (show B' ≤ wr.heap.size by have := hbel.size; omega)
      have C1 := HCL.out wr D d n' b (HB.out.trans (hbel.mono HB.out.size)) (.inr rfl) HLB.out HR2
      have hglen := Lib.hid (HF.out b (.inr rfl))
      have HG2 := Lib.hid G2
      have HO := Lib.hid own9
      have HBW := Lib.hid hbel
      have hzr := hbel.size
      clear F0 HFS hvs hbel own9 bel9 G1 G2 HR2
      go_wp2_with fail
      refine C1.mono ?_
      rintro e w5 ⟨A5, c5, rfl, own5, b5⟩
      have hz5 := b5.size
      have G5 := HG2.out.next b5
      have k0 := G5.c0
      have k1 := G5.c1
      have f0 := G5.free 0
      have f1 := G5.free 1
      have HG5 := Lib.hid G5
      have O5 := Lib.hid (OwnR.of own5)
      have M5 := Lib.hid (HO.out.below b5 (Nat.le_refl _))
      have B5 := Lib.hid (HB.out.trans ((HBW.out.trans (b5.mono HBW.out.size)).mono HB.out.size))
      have hc5 := (own_cap own5).1
      have O6 := Lib.hid (RowF.of_own own5)
      have M6 := Lib.hid ((MatF.of_sys M5.out))
      clear own5 b5 G5 q1 C1
      go_wp2
      obtain ⟨hx7, hn7⟩ := NewF.put (w := w) (n := k) (n' := n') (c := k) (d := c5) HG5.out (by omega) (by have := HS.out; omega) (Nat.le_refl _) hc5 M6.out (O6.out.less (show W0.heap.size ≤ wr.heap.size by omega)) B5.out
      exact bodyPost_ret (v := .agg #[.slice (some ⟨W0.heap.size, 0, none⟩) k k, .slice A5 n' c5]) (results_cell_row rfl _ _ (w.heap.size + 1) 58 _ (0, 0) _ rfl hx7 Try.underlying58 rfl info_schR) rfl hn7
set_option maxHeartbeats 2000000 in
theorem eachRow_inverse (A D : Option Addr) (n c n' d B B' kb : Nat) (m : List (List Int)) (b : List Int) (t : List Int) (w : World) (hlm : m.length = n) (hlb : b.length = n') (hn : n ≤ 8) (hB : B ≤ w.heap.size) (hB' : B' ≤ w.heap.size) (h : Mat w B A m) (r : Row w B' D (ints b))
    (hf : ∀ r, r ∈ m ∨ r = b → (lessL t r).length = r.length)
    (hcl : ∀ (W : World) (A2 : Option Addr) (c2 q : Nat) (r : List Int), Below w.heap.size w W → (r ∈ m ∨ r = b) → r.length = q → Row W W.heap.size A2 (ints r) → Calls Try.prog 107 #[.slice A2 q c2, .pointer (some ⟨kb, 0, none⟩)] W (NewRow 65 q (ints (lessL t r)) W)) :
    Calls Try.prog 103 #[.agg #[.slice A n c, .slice D n' d], .func (.func 107) #[] #[.pointer (some ⟨kb, 0, none⟩)]] w (NewF n n' (m.map (lessL t)) (lessL t b) w) := by
  obtain ⟨i0, hi, hz0, hz1, hz2⟩ := info_parts info_rowE
  have HL := Lib.hid hlm
  have HLB := Lib.hid hlb
  have HF := Lib.hid hf
  obtain ⟨W0, hW0⟩ : ∃ W0, W0 = (w.alloc (.cells #[.slice A n c, .slice D n' d] 58)).alloc (.cells #[.slice none 0 0, .slice none 0 0] 58) := ⟨_, rfl⟩
  have FB : Below w.heap.size w W0 := by rw [hW0]; exact ((Below.refl _ _).alloc (Nat.le_refl _) _).alloc (by simp) _
  have FS : W0.heap.size = w.heap.size + 2 := by rw [hW0]; simp
  have F1 : Bx W0 w.heap.size 58 (.slice A n c) (.slice D n' d) := by
    rw [hW0]; exact (Bx.new w _ _ _).next ((Below.refl _ _).alloc (Nat.le_refl _) _)
  have F2 : Bx W0 (w.heap.size + 1) 58 (.slice none 0 0) (.slice none 0 0) := by
    rw [hW0]; have := Bx.new (w.alloc (.cells #[.slice A n c, .slice D n' d] 58)) 58 (.slice none 0 0) (.slice none 0 0); simpa using this
  have HM := Lib.hid (h.below FB hB)
  have HR := Lib.hid (r.below FB hB')
  have HX1 := Lib.hid F1
  have HX2 := Lib.hid F2
  have HB := Lib.hid FB
  have HS := Lib.hid FS
  have HCL := Lib.hid hcl
  have HAL : Hid ((m.map (lessL t)).length = n) := by simp [Hid, hlm]
  have hs0 : B ≤ W0.heap.size := by rw [FS]; omega
  have hs1 : B' ≤ W0.heap.size := by rw [FS]; omega
  have q0 := F1.c0
  clear hlm hlb hf h r F1 F2 FB FS hcl
  go_enter Try.func103, Try.ntmps103
  go_wp2_with (at_make; rw [← hW0]; clear hW0; refine wpList_make_full _ rfl (.tmp 10) (.tmp 10) 55 rfl W0.heap.size 56 i0 _ 1 Try.underlying55 hi hz0 hz1 .i64 .i64 _ _ n rfl rfl rfl rfl (by rw [hz2]; omega) (by simp only [maxLen]; omega) (Nat.le_refl _) ?_; intro w1 hown hg; have q1 := (HX1.out.next ((Below.refl _ _).grown hg (Nat.le_refl _) (fun k hk => by cases hk))).c0)
  have F0 := FillS.start (m := m.map (lessL t)) hown hg
  clear hown hg hz0 hz1 hz2 hi q0 q1
  go_loopw [15] (fun i wr => ∃ k : Nat, k ≤ n ∧ i = .int .i64 k ∧ FillS W0 n (m.map (lessL t)) k wr) (fun i _ => n - (intOf i).toNat)
  case atStart => exact ⟨0, Nat.zero_le _, rfl, F0⟩
  case round =>
    obtain ⟨k, hk, rfl, HFS⟩ := hrel
    obtain ⟨vs, hvs, hbel, hsz⟩ := id HFS
    by_cases hlt : k < n
    · obtain ⟨r, hr⟩ := at_lt (show k < m.length by rw [HL.out]; exact hlt)
      obtain ⟨b, o, Ak, ck, rfl, _, hc, hlc, hcm, hrow⟩ := HM.out.below hbel hs0 k r hr
      have hrm : (m.map (lessL t))[k]? = some (lessL t r) := by rw [List.getElem?_map, hr]; rfl
      have hglen := HF.out r (.inl (List.mem_of_getElem? hr))
      have C1 := HCL.out wr Ak ck r.length r (HB.out.trans (hbel.mono HB.out.size)) (.inl (List.mem_of_getElem? hr)) rfl (hrow.more (by have := hbel.size; omega))
      have HF' := Lib.hid HFS
      have HR2 := Lib.hid hrm
      have HGL := Lib.hid hglen
      have hBs := hbel.size
      clear hr hrm hglen F0 HFS hvs hbel hrow
      go_wp2_with fail
      refine C1.mono ?_
      rintro e w2 ⟨A2, c2, rfl, own2, be2⟩
      obtain ⟨⟨u, hu⟩, hf⟩ := HF'.out.cell HAL.out hlt be2
      have G := Lib.hid (HF'.out.step (c := c2) (A := A2) HAL.out HR2.out (by rw [HGL.out]; exact own2) be2)
      rw [HGL.out] at G
      clear own2 C1
      go_wp2
      go_roundw
      case rel => exact ⟨k + 1, by omega, by go_num, G.out⟩
      case measure => simp [intOf]; omega
    · obtain rfl : k = n := by omega
      obtain ⟨A9, c9, vs9, he, own9, bel9⟩ := HFS.done HAL.out
      injection he with he
      injection he with he1 he2 he3
      subst he1 he3
      have G1 := HX1.out.next hbel
      have G2 := HX2.out.next hbel
      have q1 := G1.c1
      have HR2 := (HR.out.below hbel hs1).more (show B' ≤ wr.heap.size by have := hbel.size; omega)
      have C1 := HCL.out wr D d n' b (HB.out.trans (hbel.mono HB.out.size)) (.inr rfl) HLB.out HR2
      have hglen := Lib.hid (HF.out b (.inr rfl))
      have HG2 := Lib.hid G2
      have HO := Lib.hid own9
      have HBW := Lib.hid hbel
      have hzr := hbel.size
      clear F0 HFS hvs hbel own9 bel9 G1 G2 HR2
      go_wp2_with fail
      refine C1.mono ?_
      rintro e w5 ⟨A5, c5, rfl, own5, b5⟩
      have hz5 := b5.size
      have G5 := HG2.out.next b5
      have k0 := G5.c0
      have k1 := G5.c1
      have f0 := G5.free 0
      have f1 := G5.free 1
      have HG5 := Lib.hid G5
      have O5 := Lib.hid (OwnR.of own5)
      have M5 := Lib.hid (HO.out.below b5 (Nat.le_refl _))
      have B5 := Lib.hid (HB.out.trans ((HBW.out.trans (b5.mono HBW.out.size)).mono HB.out.size))
      have hc5 := (own_cap own5).1
      have O6 := Lib.hid (RowF.of_own own5)
      have M6 := Lib.hid ((MatF.of_sys M5.out))
      clear own5 b5 G5 q1 C1
      go_wp2
      obtain ⟨hx7, hn7⟩ := NewF.put (w := w) (n := k) (n' := n') (c := k) (d := c5) HG5.out (by omega) (by have := HS.out; omega) (Nat.le_refl _) hc5 M6.out (O6.out.less (show W0.heap.size ≤ wr.heap.size by omega)) B5.out
      exact bodyPost_ret (v := .agg #[.slice (some ⟨W0.heap.size, 0, none⟩) k k, .slice A5 n' c5]) (results_cell_row rfl _ _ (w.heap.size + 1) 58 _ (0, 0) _ rfl hx7 Try.underlying58 rfl info_schR) rfl hn7
end Go.Proofs.Ytchimobmkmgkmaa
