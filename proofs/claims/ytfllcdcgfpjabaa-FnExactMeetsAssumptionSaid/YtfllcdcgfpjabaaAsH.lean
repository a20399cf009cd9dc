/-
  Assumptions of a tableau, the program's: the integrals.
-/
import Derived.Test.YtfllcdcgfpjabaaAsG
namespace Go.Proofs.Ytfllcdcgfpjabaa
open Go.RowKit Fld
set_option linter.unusedVariables false
set_option linter.unusedSimpArgs false
set_option maxRecDepth 100000

theorem taWW (W : World) : (Instr.typeAssert (.iface 53 (.agg #[])) 59 53 true).run Try.prog W = .ok (.tuple #[.agg #[], .bool true]) W := by kernel_rfl
theorem taWS (W : World) : (Instr.typeAssert (.iface 53 (.agg #[])) 59 55 true).run Try.prog W = .ok (.tuple #[.agg #[], .bool false]) W := by kernel_rfl
theorem taWC (W : World) : (Instr.typeAssert (.iface 53 (.agg #[])) 59 56 true).run Try.prog W = .ok (.tuple #[.agg #[], .bool false]) W := by kernel_rfl
theorem taSW (W : World) : (Instr.typeAssert (.iface 55 (.agg #[])) 59 53 true).run Try.prog W = .ok (.tuple #[.agg #[], .bool false]) W := by kernel_rfl
theorem taSS (W : World) : (Instr.typeAssert (.iface 55 (.agg #[])) 59 55 true).run Try.prog W = .ok (.tuple #[.agg #[], .bool true]) W := by kernel_rfl
theorem taSC (W : World) : (Instr.typeAssert (.iface 55 (.agg #[])) 59 56 true).run Try.prog W = .ok (.tuple #[.agg #[], .bool false]) W := by kernel_rfl
theorem taCW (W : World) : (Instr.typeAssert (.iface 56 (.agg #[])) 59 53 true).run Try.prog W = .ok (.tuple #[.agg #[], .bool false]) W := by kernel_rfl
theorem taCS (W : World) : (Instr.typeAssert (.iface 56 (.agg #[])) 59 55 true).run Try.prog W = .ok (.tuple #[.agg #[], .bool false]) W := by kernel_rfl
theorem taCC (W : World) : (Instr.typeAssert (.iface 56 (.agg #[])) 59 56 true).run Try.prog W = .ok (.tuple #[.agg #[], .bool true]) W := by kernel_rfl
set_option maxHeartbeats 1000000 in
theorem integrals0_any (A D A2 : Option Addr) (n c d c2 : Nat) (w : World) :
    Calls Try.prog 77 #[.agg #[.slice A n c, .slice D n d], .iface 53 (.agg #[]), .slice A2 n c2] w (RdRow 1 (ints [1]) w) := by
  obtain ⟨W0, hW0⟩ : ∃ W0, W0 = w.alloc (.cells #[.slice A n c, .slice D n d] 65) := ⟨_, rfl⟩
  have HB : Hid (Below w.heap.size w W0) := by rw [hW0]; exact (Below.refl _ _).alloc (Nat.le_refl _) _
  have t1 := taWW
  have hs : Hid (W0.heap.size = w.heap.size + 1) := by rw [Hid, hW0]; simp
  go_enter Try.func77, Try.ntmps77
  go_wp2_with fail
  rw [← hW0]
  clear hW0
  have G : Hid (RdRow 1 (ints [1]) w (.returned (.slice (some ⟨w.heap.size + 1, 0, none⟩) 1 1)) (W0.alloc (.cells #[.int .i64 1] 79))) := by
    rw [← hs.out]; exact ⟨_, _, rfl, by have := one_row W0 1; simpa using this, HB.out.alloc HB.out.size _⟩
  go_wp2
  go_ret
  exact G.out
set_option maxHeartbeats 1000000 in
theorem integrals1_any (A D A2 : Option Addr) (n c d c2 B2 : Nat) (pv : List Int) (w : World) (hB2 : B2 ≤ w.heap.size) (h2 : Row w B2 A2 (ints pv)) :
    Calls Try.prog 77 #[.agg #[.slice A n c, .slice D n d], .iface 55 (.agg #[]), .slice A2 n c2] w (RdRow n (ints pv) w) := by
  obtain ⟨W0, hW0⟩ : ∃ W0, W0 = w.alloc (.cells #[.slice A n c, .slice D n d] 65) := ⟨_, rfl⟩
  have HB : Hid (Below w.heap.size w W0) := by rw [hW0]; exact (Below.refl _ _).alloc (Nat.le_refl _) _
  have G : Hid (RdRow n (ints pv) w (.returned (.slice A2 n c2)) W0) := ⟨_, _, rfl, (h2.below HB.out hB2).more (by have := HB.out.size; omega), HB.out⟩
  have t1 := taSW
  have t2 := taSS
  go_enter Try.func77, Try.ntmps77
  go_wp2_with fail
  rw [← hW0]
  clear hW0
  go_wp2
  go_ret
  exact G.out
/-- what the program calls the integrals of D -/
def icL (b pv : List Int) : List Int := prL b (pv.map fun p => (1 - p) % 10007)
theorem icL_length (b pv : List Int) : (icL b pv).length = b.length := prL_length _ _
theorem icL_at {b pv : List Int} {i : Nat} {x y : Int} (h : b[i]? = some x) (g : pv[i]? = some y) : (icL b pv)[i]? = some (x * ((1 - y) % 10007) % 10007) :=
  prL_at h (by rw [List.getElem?_map, g]; rfl)
set_option maxHeartbeats 2000000 in
theorem integrals2_any (A D A2 : Option Addr) (n c d c2 B' B2 : Nat) (b pv : List Int) (w : World) (hb : b.length = n) (hp : pv.length = n) (hn : n ≤ 8) (hnb : allNum b = true) (hpn : allNum pv = true) (hB' : B' ≤ w.heap.size) (hB2 : B2 ≤ w.heap.size) (r : Row w B' D (ints b)) (h2 : Row w B2 A2 (ints pv)) :
    Calls Try.prog 77 #[.agg #[.slice A n c, .slice D n d], .iface 56 (.agg #[]), .slice A2 n c2] w (RdRow n (ints (icL b pv)) w) := by
  obtain ⟨i0, hi, hz0, hz1, hz2⟩ := info_parts info_numA
  obtain ⟨W0, hW0⟩ : ∃ W0, W0 = w.alloc (.cells #[.slice A n c, .slice D n d] 65) := ⟨_, rfl⟩
  have HB : Hid (Below w.heap.size w W0) := by rw [hW0]; exact (Below.refl _ _).alloc (Nat.le_refl _) _
  have HX : Bx W0 w.heap.size 65 (.slice A n c) (.slice D n d) := by rw [hW0]; exact Bx.new _ _ _ _
  have hz := HB.out.size
  have HXX := Lib.hid HX
  have HL := Lib.hid hb
  have HLP := Lib.hid hp
  have HNB := Lib.hid hnb
  have HNP := Lib.hid hpn
  have HR := Lib.hid (r.below HB.out hB')
  have HP := Lib.hid (h2.below HB.out hB2)
  have HAL : Hid ((icL b pv).length = n) := (icL_length b pv).trans hb
  have t1 := taCW
  have t2 := taCS
  have t3 := taCC
  clear hb hp hnb hpn r h2 HX
  go_enter Try.func77, Try.ntmps77
  go_wp2_with (at_make; rw [← hW0]; clear hW0; refine wpList_make_full _ rfl (.tmp 23) (.tmp 23) 63 rfl W0.heap.size 79 i0 _ 1 Try.underlying63 hi hz0 hz1 .i64 .i64 _ _ n rfl rfl rfl rfl (by rw [hz2]; omega) (by simp only [maxLen]; omega) (Nat.le_refl _) ?_; intro w1 hown hg)
  have F0 := Filling.start (xs := icL b pv) hown hg
  clear hown hg hz0 hz1 hz2 hi t1 t2 t3
  go_wp2_with fail
  go_loopw [27] (fun i wr => ∃ k : Nat, k ≤ n ∧ i = .int .i64 k ∧ Filling W0 79 n (icL b pv) k wr) (fun i _ => n - (intOf i).toNat)
  case atStart => exact ⟨0, Nat.zero_le _, rfl, F0⟩
  case round =>
    obtain ⟨k, hk, rfl, HF⟩ := hrel
    by_cases hlt : k < n
    · obtain ⟨x, hx⟩ := at_lt (show k < b.length by rw [HL.out]; exact hlt)
      obtain ⟨y, hy⟩ := at_lt (show k < pv.length by rw [HLP.out]; exact hlt)
      obtain ⟨x0, x1⟩ := num_atA HNB.out hx
      obtain ⟨y0, y1⟩ := num_atA HNP.out hy
      obtain ⟨bx, o, rfl, _, hcx⟩ := HR.out.below HF.2 (by omega) k _ (ints_at hx)
      obtain ⟨by_, oy, rfl, _, hcy⟩ := HP.out.below HF.2 (by omega) k _ (ints_at hy)
      have q1 := (HXX.out.next HF.2).c1
      have hf := HF.1.frozenAt k
      have ho := fill_at' HF HAL.out hlt
      have G := Lib.hid ((HF.drewN 1).step HAL.out (icL_at hx hy))
      clear hx hy F0 HF
      go_wp2_with fail
      refine wp_region_still_tail 11 (by kernel_rfl) (by kernel_rfl) ?_
      simp only [List.take_succ_cons, List.take_zero, List.drop_succ_cons, List.drop_zero]
      repeat still_step
      refine wpStill_step (fun K hK => ?_)
      go_simp
      refine ⟨_, stillG (minus_any _ _ _ (by omega) (by omega) y0 y1), hK _ ?_⟩
      clear hK K
      repeat still_step
      refine wpStill_step (fun K hK => ?_)
      go_simp
      refine ⟨_, stillG (times_any _ _ _ x0 x1 (Int.emod_nonneg _ (by omega)) (Int.emod_lt_of_pos _ (by omega))), hK _ ?_⟩
      clear hK K
      repeat still_step
      refine wpStill_nil ?_
      change wpList _ _ _ _ _ wr.drew
      go_wp2
      go_roundw
      case rel => exact ⟨k + 1, by omega, by go_num, G.out⟩
      case measure => simp [intOf]; omega
    · obtain rfl : k = n := by omega
      have G := Lib.hid (RdRow.of HB.out (HF.done HAL.out))
      clear HF F0
      go_wp2
      go_ret
      exact G.out
end Go.Proofs.Ytfllcdcgfpjabaa
