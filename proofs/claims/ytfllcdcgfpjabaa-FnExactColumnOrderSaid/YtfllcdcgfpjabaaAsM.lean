/-
  Assumptions of a tableau, the model's: the left side of a condition less the right side, and the number up to which the conditions are met.
-/
import Derived.Test.YtfllcdcgfpjabaaAsP
import Derived.Test.YtfllcdcgfpjabaaTabI
namespace Go.Proofs.Ytfllcdcgfpjabaa
open Go.RowKit Fld
set_option linter.unusedVariables false
set_option linter.unusedSimpArgs false
set_option maxRecDepth 100000

/-- what the model's sum tells -/
def SumIs (b : List Int) (m : List (List Int)) (c : List Int) (n kind k i : Nat) (w : World) (e : Ending) (w' : World) : Prop :=
  ∃ v : Int, e = .returned (.int .i64 v) ∧ (v = 0 ↔ metI b m c n kind k i) ∧ Below w.heap.size w w'
/-- the sum as far as j -/
def parI (b : List Int) (m : List (List Int)) (c : List Int) (kind k i j : Nat) : Int :=
  if kind = 0 then dotK b (pwL c k) j else if kind = 1 then dotK (m.getD i []) (pwL c k) j else colD m (prL b (pwL c k)) i j
theorem parI_zero (b : List Int) (m : List (List Int)) (c : List Int) (kind k i : Nat) : parI b m c kind k i 0 = 0 := by
  unfold parI; split
  · rfl
  · split <;> rfl
theorem parI_bd (b : List Int) (m : List (List Int)) (c : List Int) (kind k i j : Nat) : 0 ≤ parI b m c kind k i j ∧ parI b m c kind k i j < 10007 := by
  unfold parI
  split
  · exact dotK_bd _ _ _
  · split
    · exact dotK_bd _ _ _
    · exact colD_bd _ _ _ _
theorem parI_end (b : List Int) (m : List (List Int)) (c : List Int) (n kind k i : Nat) : parI b m c kind k i n = sumI b m c n kind k i := rfl
theorem parI0_next {b c : List Int} {m : List (List Int)} {k i j : Nat} {x y : Int} (hx : b[j]? = some x) (hy : c[j]? = some y) : parI b m c 0 k i (j + 1) = (parI b m c 0 k i j + x * pw y k % 10007) % 10007 := by
  unfold parI; rw [if_pos rfl, if_pos rfl, dotK_succ hx (pwL_at hy)]
theorem parI1_next {b c r : List Int} {m : List (List Int)} {k i j : Nat} {x y : Int} (hr : m[i]? = some r) (hx : r[j]? = some x) (hy : c[j]? = some y) : parI b m c 1 k i (j + 1) = (parI b m c 1 k i j + x * pw y k % 10007) % 10007 := by
  unfold parI; rw [if_neg (by omega), if_pos rfl, if_neg (by omega), if_pos rfl, List.getD_eq_getElem?_getD, hr, Option.getD_some, dotK_succ hx (pwL_at hy)]
theorem parI2_next {b c r : List Int} {m : List (List Int)} {k i j : Nat} {x y z : Int} (hx : b[j]? = some x) (hy : c[j]? = some y) (hr : m[j]? = some r) (hz : r[i]? = some z) : parI b m c 2 k i (j + 1) = (parI b m c 2 k i j + x * pw y k % 10007 * z % 10007) % 10007 := by
  unfold parI; rw [if_neg (by omega), if_neg (by omega), if_neg (by omega), if_neg (by omega), colD_next (prL_at hx (pwL_at hy)) hr hz]
-- PRINTED BY gen/asm.py
theorem ones_numA (n : Nat) : allNum (List.replicate n (1 : Int)) = true := by rw [allNum_iff]; intro x hx; have := (List.mem_replicate.1 hx).2; omega
theorem l01Frac_k (k : Nat) (hk : k < 16) : ∃ fr : Int, 0 ≤ fr ∧ fr < 10007 ∧ Hid (fr = inv ((k : Int) + 1)) ∧ ∀ W, Calls Try.prog 101 #[.int .i64 1, .int .i64 ((k : Int) + 1)] W fun e w' => e = .returned (.int .i64 fr) ∧ W = w' := by
  refine ⟨inv ((k : Int) + 1), inv_lo _, inv_hi _, rfl, fun W => ?_⟩
  have h := l01Frac_any 1 ((k : Int) + 1) W
  rw [show ((1 : Int) % 10007) = 1 from rfl, Int.one_mul, Int.emod_eq_of_lt (a := (k : Int) + 1) (by omega) (by omega), Int.emod_eq_of_lt (inv_lo _) (inv_hi _)] at h
  exact h
theorem l01Pow_k (k : Nat) (hk : k < 16) (y : Int) (W : World) (y0 : 0 ≤ y) (y1 : y < 10007) : Calls Try.prog 100 #[.int .i64 y, .int .i64 (k : Int)] W fun e w' => e = .returned (.int .i64 (pw y k)) ∧ W = w' := by
  have h := l01Pow_any y (k : Int) W y0 y1 (by omega) (by omega)
  rw [Int.toNat_natCast] at h; exact h
theorem l01Pow_k1 (k : Nat) (hk : k < 16) (y : Int) (W : World) (y0 : 0 ≤ y) (y1 : y < 10007) : Calls Try.prog 100 #[.int .i64 y, .int .i64 ((k : Int) + 1)] W fun e w' => e = .returned (.int .i64 (pw y (k + 1))) ∧ W = w' := by
  have h := l01Pow_any y ((k : Int) + 1) W y0 y1 (by omega) (by omega)
  rw [show ((k : Int) + 1).toNat = k + 1 by omega] at h; exact h
set_option maxHeartbeats 2000000 in
theorem l11Sum0_any (A D : Option Addr) (n c d B B' k i : Nat) (m : List (List Int)) (b : List Int) (w : World) (hl : m.length = n) (hl' : b.length = n) (hn1 : 1 ≤ n) (hn : n ≤ 8) (hq : Wide m n) (hnum : ∀ r ∈ m, allNum r = true) (hnb : allNum b = true) (hk : k < 16) (hi : i < n) (hB : B ≤ w.heap.size) (hB' : B' ≤ w.heap.size) (h : Mat w B A m) (r : Row w B' D (ints b)) :
    Calls Try.prog 72 #[.agg #[.slice A n c, .slice D n d], .int .i64 0, .int .i64 ((k : Int) + 1), .int .i64 i] w (SumIs b m (appL m (List.replicate n 1)) n 0 k i w) := by
  have HL := Lib.hid hl
  have HL' := Lib.hid hl'
  have HQ := Lib.hid hq
  have HN := Lib.hid hnum
  have HNB := Lib.hid hnb
  obtain ⟨W0, hW0⟩ : ∃ W0, W0 = w.alloc (.cells #[.slice A n c, .slice D n d] 29) := ⟨_, rfl⟩
  have HB : Hid (Below w.heap.size w W0) := by rw [hW0]; exact (Below.refl _ _).alloc (Nat.le_refl _) _
  have HM : Hid (Mat W0 B A m) := h.below HB.out hB
  have HR : Hid (Row W0 B' D (ints b)) := r.below HB.out hB'
  have HX : Hid (Bx W0 w.heap.size 29 (.slice A n c) (.slice D n d)) := by rw [hW0]; exact Bx.new _ _ _ _
  have hz := HB.out.size
  have KK : Hid (∀ V, Below W0.heap.size W0 V → V.cell? ⟨w.heap.size, 0, none⟩ = some (.slice A n c) ∧ V.cell? ⟨w.heap.size, 1, none⟩ = some (.slice D n d)) := fun V hV => ⟨(HX.out.next hV).c0, (HX.out.next hV).c1⟩
  have C1 := fun V => l09Ones_any n V hn
  have C2 := fun V (hV : Below W0.heap.size W0 V) A2 c2 (h2 : Row V V.heap.size A2 (ints (List.replicate n 1))) => l09Times_any A A2 n c c2 B V.heap.size m (List.replicate n 1) V HL.out hn HQ.out HN.out (by simp) (ones_numA n) (by have := hV.size; omega) (Nat.le_refl _) (HM.out.below hV (by omega)) h2
  obtain ⟨fr, f0, f1, HF, C3⟩ := l01Frac_k k hk
  have CP := fun y y0 y1 W => l01Pow_k k hk y W y0 y1
  have CP1 := fun y y0 y1 W => l01Pow_k1 k hk y W y0 y1
  have hwr : IntKind.i64.wrap ((k : Int) + 1 - 1) = (k : Int) := by rw [IntWalk.i64_in _ (by omega)]; omega
  clear hl hl' hq hnum hnb h r
  go_enter Try.func72, Try.ntmps72
  go_wp2_with fail
  rw [← hW0]
  clear hW0
  go_region_held3 (fun V => V.cell? ⟨w.heap.size, 0, none⟩ = some (.slice A n c) ∧ V.cell? ⟨w.heap.size, 1, none⟩ = some (.slice D n d))
    (first | exact KK.out _ (Below.refl _ _) | exact KK.out _ (Below.refl _ _).drew | exact KK.out _ (below_drewN (Below.refl _ _) _) | exact KK.out _ (below_undrawn (a := 1) b3) | exact KK.out _ ((below_undrawn (a := 1) b3).trans (b4.mono (below_undrawn (a := 1) b3).size)))
    (first
      | (go_at_call 61; refine (C1 _).mono ?_; clear C1; rintro e w3 ⟨A3, c3, rfl, own3, b3⟩)
      | (go_at_call 60; refine (C2 _ (by exact below_undrawn (a := 1) b3) A3 c3 (by exact row_of_own own3)).mono ?_; clear C2; rintro e w4 ⟨A4, c4, rfl, own4, b4⟩))
  have hb3 : Below W0.heap.size W0 w3 := below_undrawn (a := 1) b3
  have hb4 : Below W0.heap.size W0 w4 := hb3.trans (b4.mono hb3.size)
  have HB4 := Lib.hid (HB.out.trans (hb4.mono HB.out.size))
  have HM4 := Lib.hid (HM.out.below hb4 (by omega))
  have HR4 := Lib.hid (HR.out.below hb4 (by omega))
  have HX4 := HX.out.next hb4
  have q0 := HX4.c0
  have q1 := HX4.c1
  have HLC : Hid ((appL m (List.replicate n 1)).length = n) := (appL_length _ _).trans HL.out
  have HNC := Lib.hid (appL_num m (List.replicate n 1))
  have HC4 := Lib.hid (row_of_own own4)
  have hz4 := b4.size
  obtain ⟨cl, hcl⟩ : ∃ C, C = appL m (List.replicate n 1) := ⟨_, rfl⟩
  rw [← hcl] at HLC HNC HC4 ⊢
  have HCL := Lib.hid hcl
  clear hcl own3 own4 b3 b4 hb3 hb4 KK HX4 HB HX HM HR
  go_wp2_with (go_at_call 101; refine (C3 _).mono ?_; rintro e w5 ⟨rfl, rfl⟩)
  go_loopw [10, 12] (fun lv jv wr => ∃ j q : Nat, j ≤ n ∧ lv = .int .i64 (parI b m cl 0 k i j) ∧ jv = .int .i64 j ∧ wr = w4.drewN q) (fun _ jv _ => n - (intOf jv).toNat)
  case atStart => exact ⟨0, 0, Nat.zero_le _, by rw [parI_zero], rfl, rfl⟩
  case round =>
    obtain ⟨j, q, hj, rfl, rfl, rfl⟩ := hrel
    by_cases hlt : j < n
    · obtain ⟨y, hy⟩ := at_lt (show j < cl.length by rw [HLC.out]; exact hlt)
      obtain ⟨bc, oc, rfl, _, hcc⟩ := HC4.out j _ (ints_at hy)
      obtain ⟨y0, y1⟩ := allNum_iff.1 HNC.out y (List.mem_of_getElem? hy)
      obtain ⟨x, hx⟩ := at_lt (show j < b.length by rw [HL'.out]; exact hlt)
      obtain ⟨bb, ob, rfl, _, hcb⟩ := HR4.out j _ (ints_at hx)
      obtain ⟨x0, x1⟩ := allNum_iff.1 HNB.out x (List.mem_of_getElem? hx)
      have HS := Lib.hid (parI0_next (m := m) (k := k) (i := i) hx hy)
      have CPy := CP y y0 y1
      have p0 := pw_lo y k
      have p1 := pw_hi y k
      obtain ⟨s0, s1⟩ := parI_bd b m cl 0 k i j
      obtain ⟨P, hP⟩ : ∃ P, P = pw y k := ⟨_, rfl⟩
      rw [← hP] at CPy p0 p1 HS
      obtain ⟨S, hS⟩ : ∃ S, S = parI b m cl 0 k i j := ⟨_, rfl⟩
      rw [← hS] at s0 s1 HS ⊢
      clear hP hS CP CP1 C3 hy hx
      go_wp2_with (first
        | (go_at_call 100; refine (CPy _).mono ?_; rintro e w6 ⟨rfl, rfl⟩)
        | (go_at_call 99; refine (l01Mul_any _ _ _ x0 x1 p0 p1).mono ?_; rintro e w6 ⟨rfl, rfl⟩)
        | (go_at_call 98; refine (l01Add_any _ _ _ s0 s1 (Int.emod_nonneg _ (by omega)) (Int.emod_lt_of_pos _ (by omega))).mono ?_; rintro e w6 ⟨rfl, rfl⟩))
      go_roundw
      case rel => exact ⟨j + 1, q, by omega, by rw [HS.out]; simp, by go_num, rfl⟩
      case measure => simp [intOf]; omega
    · obtain rfl : j = n := by omega
      rw [parI_end]
      obtain ⟨s0, s1⟩ := sumI_bd b m cl j 0 k i
      have t0 := HB4.out
      have G : Hid ((sumI b m cl j 0 k i - fr) % 10007 = 0 ↔ metI b m cl j 0 k i) := by
        have := frac_met (k := k) (y := 1) hk s0 s1 (by omega) (by omega)
        rw [Int.mul_one, Int.emod_eq_of_lt (a := inv ((k : Int) + 1)) (inv_lo _) (inv_hi _), ← HF.out] at this
        unfold metI intI; rw [Hid, if_pos rfl, show ((k + 1 : Nat) : Int) = (k : Int) + 1 by omega]; exact this
      obtain ⟨S, hS⟩ : ∃ S, S = sumI b m cl j 0 k i := ⟨_, rfl⟩
      rw [← hS] at s0 s1 G ⊢
      clear hS CP CP1 C3 q0 q1
      go_wp2_with (go_at_call 104; refine (l01Sub_any _ _ _ s0 s1 f0 f1).mono ?_; rintro e w6 ⟨rfl, rfl⟩)
      go_ret
      exact ⟨_, rfl, by rw [← HCL.out]; exact G.out, below_drewN t0 _⟩
set_option maxHeartbeats 2000000 in
theorem l11Sum1_any (A D : Option Addr) (n c d B B' k i : Nat) (m : List (List Int)) (b : List Int) (w : World) (hl : m.length = n) (hl' : b.length = n) (hn1 : 1 ≤ n) (hn : n ≤ 8) (hq : Wide m n) (hnum : ∀ r ∈ m, allNum r = true) (hnb : allNum b = true) (hk : k < 16) (hi : i < n) (hB : B ≤ w.heap.size) (hB' : B' ≤ w.heap.size) (h : Mat w B A m) (r : Row w B' D (ints b)) :
    Calls Try.prog 72 #[.agg #[.slice A n c, .slice D n d], .int .i64 1, .int .i64 ((k : Int) + 1), .int .i64 i] w (SumIs b m (appL m (List.replicate n 1)) n 1 k i w) := by
  have HL := Lib.hid hl
  have HL' := Lib.hid hl'
  have HQ := Lib.hid hq
  have HN := Lib.hid hnum
  have HNB := Lib.hid hnb
  obtain ⟨W0, hW0⟩ : ∃ W0, W0 = w.alloc (.cells #[.slice A n c, .slice D n d] 29) := ⟨_, rfl⟩
  have HB : Hid (Below w.heap.size w W0) := by rw [hW0]; exact (Below.refl _ _).alloc (Nat.le_refl _) _
  have HM : Hid (Mat W0 B A m) := h.below HB.out hB
  have HR : Hid (Row W0 B' D (ints b)) := r.below HB.out hB'
  have HX : Hid (Bx W0 w.heap.size 29 (.slice A n c) (.slice D n d)) := by rw [hW0]; exact Bx.new _ _ _ _
  have hz := HB.out.size
  have KK : Hid (∀ V, Below W0.heap.size W0 V → V.cell? ⟨w.heap.size, 0, none⟩ = some (.slice A n c) ∧ V.cell? ⟨w.heap.size, 1, none⟩ = some (.slice D n d)) := fun V hV => ⟨(HX.out.next hV).c0, (HX.out.next hV).c1⟩
  have C1 := fun V => l09Ones_any n V hn
  have C2 := fun V (hV : Below W0.heap.size W0 V) A2 c2 (h2 : Row V V.heap.size A2 (ints (List.replicate n 1))) => l09Times_any A A2 n c c2 B V.heap.size m (List.replicate n 1) V HL.out hn HQ.out HN.out (by simp) (ones_numA n) (by have := hV.size; omega) (Nat.le_refl _) (HM.out.below hV (by omega)) h2
  obtain ⟨fr, f0, f1, HF, C3⟩ := l01Frac_k k hk
  have CP := fun y y0 y1 W => l01Pow_k k hk y W y0 y1
  have CP1 := fun y y0 y1 W => l01Pow_k1 k hk y W y0 y1
  have hwr : IntKind.i64.wrap ((k : Int) + 1 - 1) = (k : Int) := by rw [IntWalk.i64_in _ (by omega)]; omega
  clear hl hl' hq hnum hnb h r
  go_enter Try.func72, Try.ntmps72
  go_wp2_with fail
  rw [← hW0]
  clear hW0
  go_region_held3 (fun V => V.cell? ⟨w.heap.size, 0, none⟩ = some (.slice A n c) ∧ V.cell? ⟨w.heap.size, 1, none⟩ = some (.slice D n d))
    (first | exact KK.out _ (Below.refl _ _) | exact KK.out _ (Below.refl _ _).drew | exact KK.out _ (below_drewN (Below.refl _ _) _) | exact KK.out _ (below_undrawn (a := 1) b3) | exact KK.out _ ((below_undrawn (a := 1) b3).trans (b4.mono (below_undrawn (a := 1) b3).size)))
    (first
      | (go_at_call 61; refine (C1 _).mono ?_; clear C1; rintro e w3 ⟨A3, c3, rfl, own3, b3⟩)
      | (go_at_call 60; refine (C2 _ (by exact below_undrawn (a := 1) b3) A3 c3 (by exact row_of_own own3)).mono ?_; clear C2; rintro e w4 ⟨A4, c4, rfl, own4, b4⟩))
  have hb3 : Below W0.heap.size W0 w3 := below_undrawn (a := 1) b3
  have hb4 : Below W0.heap.size W0 w4 := hb3.trans (b4.mono hb3.size)
  have HB4 := Lib.hid (HB.out.trans (hb4.mono HB.out.size))
  have HM4 := Lib.hid (HM.out.below hb4 (by omega))
  have HR4 := Lib.hid (HR.out.below hb4 (by omega))
  have HX4 := HX.out.next hb4
  have q0 := HX4.c0
  have q1 := HX4.c1
  have HLC : Hid ((appL m (List.replicate n 1)).length = n) := (appL_length _ _).trans HL.out
  have HNC := Lib.hid (appL_num m (List.replicate n 1))
  have HC4 := Lib.hid (row_of_own own4)
  have hz4 := b4.size
  obtain ⟨cl, hcl⟩ : ∃ C, C = appL m (List.replicate n 1) := ⟨_, rfl⟩
  rw [← hcl] at HLC HNC HC4 ⊢
  have HCL := Lib.hid hcl
  clear hcl own3 own4 b3 b4 hb3 hb4 KK HX4 HB HX HM HR
  go_wp2_with (go_at_call 101; refine (C3 _).mono ?_; rintro e w5 ⟨rfl, rfl⟩)
  go_loopw [10, 12] (fun lv jv wr => ∃ j q : Nat, j ≤ n ∧ lv = .int .i64 (parI b m cl 1 k i j) ∧ jv = .int .i64 j ∧ wr = w4.drewN q) (fun _ jv _ => n - (intOf jv).toNat)
  case atStart => exact ⟨0, 0, Nat.zero_le _, by rw [parI_zero], rfl, rfl⟩
  case round =>
    obtain ⟨j, q, hj, rfl, rfl, rfl⟩ := hrel
    by_cases hlt : j < n
    · obtain ⟨y, hy⟩ := at_lt (show j < cl.length by rw [HLC.out]; exact hlt)
      obtain ⟨bc, oc, rfl, _, hcc⟩ := HC4.out j _ (ints_at hy)
      obtain ⟨y0, y1⟩ := allNum_iff.1 HNC.out y (List.mem_of_getElem? hy)
      obtain ⟨r, hr⟩ := at_lt (show i < m.length by rw [HL.out]; exact hi)
      have hrq := HQ.out.at_ hr
      obtain ⟨bm, om, Ak, ck, rfl, _, hcm, _, _, hrow⟩ := HM4.out i r hr
      rw [hrq] at hcm
      obtain ⟨x, hx⟩ := at_lt (show j < r.length by rw [hrq]; exact hlt)
      obtain ⟨bb, ob, rfl, _, hcb⟩ := hrow j _ (ints_at hx)
      obtain ⟨x0, x1⟩ := allNum_iff.1 (HN.out r (List.mem_of_getElem? hr)) x (List.mem_of_getElem? hx)
      have HS := Lib.hid (parI1_next (b := b) (k := k) hr hx hy)
      have CPy := CP y y0 y1
      have p0 := pw_lo y k
      have p1 := pw_hi y k
      obtain ⟨s0, s1⟩ := parI_bd b m cl 1 k i j
      obtain ⟨P, hP⟩ : ∃ P, P = pw y k := ⟨_, rfl⟩
      rw [← hP] at CPy p0 p1 HS
      obtain ⟨S, hS⟩ : ∃ S, S = parI b m cl 1 k i j := ⟨_, rfl⟩
      rw [← hS] at s0 s1 HS ⊢
      clear hP hS CP CP1 C3 hy hx hr hrq hrow
      go_wp2_with (first
        | (go_at_call 100; refine (CPy _).mono ?_; rintro e w6 ⟨rfl, rfl⟩)
        | (go_at_call 99; refine (l01Mul_any _ _ _ x0 x1 p0 p1).mono ?_; rintro e w6 ⟨rfl, rfl⟩)
        | (go_at_call 98; refine (l01Add_any _ _ _ s0 s1 (Int.emod_nonneg _ (by omega)) (Int.emod_lt_of_pos _ (by omega))).mono ?_; rintro e w6 ⟨rfl, rfl⟩))
      go_roundw
      case rel => exact ⟨j + 1, q, by omega, by rw [HS.out]; simp, by go_num, rfl⟩
      case measure => simp [intOf]; omega
    · obtain rfl : j = n := by omega
      rw [parI_end]
      obtain ⟨s0, s1⟩ := sumI_bd b m cl j 1 k i
      have t0 := HB4.out
      obtain ⟨y, hy⟩ := at_lt (show i < cl.length by rw [HLC.out]; exact hi)
      obtain ⟨bc, oc, rfl, _, hcc⟩ := HC4.out i _ (ints_at hy)
      obtain ⟨y0, y1⟩ := allNum_iff.1 HNC.out y (List.mem_of_getElem? hy)
      have CPy := CP1 y y0 y1
      have p0 := pw_lo y (k + 1)
      have p1 := pw_hi y (k + 1)
      have G : Hid ((sumI b m cl j 1 k i - fr * pw y (k + 1) % 10007) % 10007 = 0 ↔ metI b m cl j 1 k i) := by
        have := frac_met (k := k) (y := pw y (k + 1)) hk s0 s1 p0 p1
        rw [← HF.out] at this
        have e1 : cl.getD i 0 = y := by rw [List.getD_eq_getElem?_getD, hy]; rfl
        unfold metI intI; rw [Hid, if_neg (by omega), if_pos rfl, e1, show ((k + 1 : Nat) : Int) = (k : Int) + 1 by omega]; exact this
      obtain ⟨P, hP⟩ : ∃ P, P = pw y (k + 1) := ⟨_, rfl⟩
      rw [← hP] at CPy p0 p1 G
      obtain ⟨S, hS⟩ : ∃ S, S = sumI b m cl j 1 k i := ⟨_, rfl⟩
      rw [← hS] at s0 s1 G ⊢
      clear hS hP hy CP CP1 C3 q0 q1
      go_wp2_with (first
        | (go_at_call 100; refine (CPy _).mono ?_; rintro e w6 ⟨rfl, rfl⟩)
        | (go_at_call 99; refine (l01Mul_any _ _ _ f0 f1 p0 p1).mono ?_; rintro e w6 ⟨rfl, rfl⟩)
        | (go_at_call 104; refine (l01Sub_any _ _ _ s0 s1 (Int.emod_nonneg _ (by omega)) (Int.emod_lt_of_pos _ (by omega))).mono ?_; rintro e w6 ⟨rfl, rfl⟩))
      go_ret
      exact ⟨_, rfl, by rw [← HCL.out]; have := G.out; simpa using this, below_drewN t0 _⟩
set_option maxHeartbeats 2000000 in
theorem l11Sum2_any (A D : Option Addr) (n c d B B' k i : Nat) (m : List (List Int)) (b : List Int) (w : World) (hl : m.length = n) (hl' : b.length = n) (hn1 : 1 ≤ n) (hn : n ≤ 8) (hq : Wide m n) (hnum : ∀ r ∈ m, allNum r = true) (hnb : allNum b = true) (hk : k < 16) (hi : i < n) (hB : B ≤ w.heap.size) (hB' : B' ≤ w.heap.size) (h : Mat w B A m) (r : Row w B' D (ints b)) :
    Calls Try.prog 72 #[.agg #[.slice A n c, .slice D n d], .int .i64 2, .int .i64 ((k : Int) + 1), .int .i64 i] w (SumIs b m (appL m (List.replicate n 1)) n 2 k i w) := by
  have HL := Lib.hid hl
  have HL' := Lib.hid hl'
  have HQ := Lib.hid hq
  have HN := Lib.hid hnum
  have HNB := Lib.hid hnb
  obtain ⟨W0, hW0⟩ : ∃ W0, W0 = w.alloc (.cells #[.slice A n c, .slice D n d] 29) := ⟨_, rfl⟩
  have HB : Hid (Below w.heap.size w W0) := by rw [hW0]; exact (Below.refl _ _).alloc (Nat.le_refl _) _
  have HM : Hid (Mat W0 B A m) := h.below HB.out hB
  have HR : Hid (Row W0 B' D (ints b)) := r.below HB.out hB'
  have HX : Hid (Bx W0 w.heap.size 29 (.slice A n c) (.slice D n d)) := by rw [hW0]; exact Bx.new _ _ _ _
  have hz := HB.out.size
  have KK : Hid (∀ V, Below W0.heap.size W0 V → V.cell? ⟨w.heap.size, 0, none⟩ = some (.slice A n c) ∧ V.cell? ⟨w.heap.size, 1, none⟩ = some (.slice D n d)) := fun V hV => ⟨(HX.out.next hV).c0, (HX.out.next hV).c1⟩
  have C1 := fun V => l09Ones_any n V hn
  have C2 := fun V (hV : Below W0.heap.size W0 V) A2 c2 (h2 : Row V V.heap.size A2 (ints (List.replicate n 1))) => l09Times_any A A2 n c c2 B V.heap.size m (List.replicate n 1) V HL.out hn HQ.out HN.out (by simp) (ones_numA n) (by have := hV.size; omega) (Nat.le_refl _) (HM.out.below hV (by omega)) h2
  obtain ⟨fr, f0, f1, HF, C3⟩ := l01Frac_k k hk
  have CP := fun y y0 y1 W => l01Pow_k k hk y W y0 y1
  have CP1 := fun y y0 y1 W => l01Pow_k1 k hk y W y0 y1
  have hwr : IntKind.i64.wrap ((k : Int) + 1 - 1) = (k : Int) := by rw [IntWalk.i64_in _ (by omega)]; omega
  clear hl hl' hq hnum hnb h r
  go_enter Try.func72, Try.ntmps72
  go_wp2_with fail
  rw [← hW0]
  clear hW0
  go_region_held3 (fun V => V.cell? ⟨w.heap.size, 0, none⟩ = some (.slice A n c) ∧ V.cell? ⟨w.heap.size, 1, none⟩ = some (.slice D n d))
    (first | exact KK.out _ (Below.refl _ _) | exact KK.out _ (Below.refl _ _).drew | exact KK.out _ (below_drewN (Below.refl _ _) _) | exact KK.out _ (below_undrawn (a := 1) b3) | exact KK.out _ ((below_undrawn (a := 1) b3).trans (b4.mono (below_undrawn (a := 1) b3).size)))
    (first
      | (go_at_call 61; refine (C1 _).mono ?_; clear C1; rintro e w3 ⟨A3, c3, rfl, own3, b3⟩)
      | (go_at_call 60; refine (C2 _ (by exact below_undrawn (a := 1) b3) A3 c3 (by exact row_of_own own3)).mono ?_; clear C2; rintro e w4 ⟨A4, c4, rfl, own4, b4⟩))
  have hb3 : Below W0.heap.size W0 w3 := below_undrawn (a := 1) b3
  have hb4 : Below W0.heap.size W0 w4 := hb3.trans (b4.mono hb3.size)
  have HB4 := Lib.hid (HB.out.trans (hb4.mono HB.out.size))
  have HM4 := Lib.hid (HM.out.below hb4 (by omega))
  have HR4 := Lib.hid (HR.out.below hb4 (by omega))
  have HX4 := HX.out.next hb4
  have q0 := HX4.c0
  have q1 := HX4.c1
  have HLC : Hid ((appL m (List.replicate n 1)).length = n) := (appL_length _ _).trans HL.out
  have HNC := Lib.hid (appL_num m (List.replicate n 1))
  have HC4 := Lib.hid (row_of_own own4)
  have hz4 := b4.size
  obtain ⟨cl, hcl⟩ : ∃ C, C = appL m (List.replicate n 1) := ⟨_, rfl⟩
  rw [← hcl] at HLC HNC HC4 ⊢
  have HCL := Lib.hid hcl
  clear hcl own3 own4 b3 b4 hb3 hb4 KK HX4 HB HX HM HR
  go_wp2_with (go_at_call 101; refine (C3 _).mono ?_; rintro e w5 ⟨rfl, rfl⟩)
  go_loopw [10, 12] (fun lv jv wr => ∃ j q : Nat, j ≤ n ∧ lv = .int .i64 (parI b m cl 2 k i j) ∧ jv = .int .i64 j ∧ wr = w4.drewN q) (fun _ jv _ => n - (intOf jv).toNat)
  case atStart => exact ⟨0, 0, Nat.zero_le _, by rw [parI_zero], rfl, rfl⟩
  case round =>
    obtain ⟨j, q, hj, rfl, rfl, rfl⟩ := hrel
    by_cases hlt : j < n
    · obtain ⟨y, hy⟩ := at_lt (show j < cl.length by rw [HLC.out]; exact hlt)
      obtain ⟨bc, oc, rfl, _, hcc⟩ := HC4.out j _ (ints_at hy)
      obtain ⟨y0, y1⟩ := allNum_iff.1 HNC.out y (List.mem_of_getElem? hy)
      obtain ⟨x, hx⟩ := at_lt (show j < b.length by rw [HL'.out]; exact hlt)
      obtain ⟨bb, ob, rfl, _, hcb⟩ := HR4.out j _ (ints_at hx)
      obtain ⟨x0, x1⟩ := allNum_iff.1 HNB.out x (List.mem_of_getElem? hx)
      obtain ⟨r, hr⟩ := at_lt (show j < m.length by rw [HL.out]; exact hlt)
      have hrq := HQ.out.at_ hr
      obtain ⟨bm, om, Ak, ck, rfl, _, hcm, _, _, hrow⟩ := HM4.out j r hr
      rw [hrq] at hcm
      obtain ⟨z, hzr⟩ := at_lt (show i < r.length by rw [hrq]; exact hi)
      obtain ⟨bz, oz, rfl, _, hcz⟩ := hrow i _ (ints_at hzr)
      obtain ⟨z0, z1⟩ := allNum_iff.1 (HN.out r (List.mem_of_getElem? hr)) z (List.mem_of_getElem? hzr)
      have HS := Lib.hid (parI2_next (k := k) hx hy hr hzr)
      have CPy := CP y y0 y1
      have p0 := pw_lo y k
      have p1 := pw_hi y k
      obtain ⟨s0, s1⟩ := parI_bd b m cl 2 k i j
      obtain ⟨P, hP⟩ : ∃ P, P = pw y k := ⟨_, rfl⟩
      rw [← hP] at CPy p0 p1 HS
      obtain ⟨S, hS⟩ : ∃ S, S = parI b m cl 2 k i j := ⟨_, rfl⟩
      rw [← hS] at s0 s1 HS ⊢
      clear hP hS CP CP1 C3 hy hx hr hrq hrow hzr
      have CM1 := fun W => l01Mul_any x P W x0 x1 p0 p1
      obtain ⟨xp, hxp⟩ : ∃ v, v = x * P % 10007 := ⟨_, rfl⟩
      have xp0 : 0 ≤ xp := by omega
      have xp1 : xp < 10007 := by omega
      rw [← hxp] at CM1 HS
      clear hxp
      have CM2 := fun W => l01Mul_any xp z W xp0 xp1 z0 z1
      obtain ⟨xz, hxz⟩ : ∃ v, v = xp * z % 10007 := ⟨_, rfl⟩
      have xz0 : 0 ≤ xz := by omega
      have xz1 : xz < 10007 := by omega
      rw [← hxz] at CM2 HS
      clear hxz
      have CA := fun W => l01Add_any S xz W s0 s1 xz0 xz1
      go_wp2_with (first
        | (go_at_call 100; refine (CPy _).mono ?_; rintro e w6 ⟨rfl, rfl⟩)
        | fail)
      go_quiet ((first | (go_at_call 99; first | exact quietL (CM1 _) | exact quietL (CM2 _) | exact quietL2 (CM1 _) | exact quietL2 (CM2 _)) | (go_at_call 98; first | exact quietL (CA _) | exact quietL2 (CA _))))
      go_wp2
      go_roundw
      case rel => exact ⟨j + 1, _, by omega, by rw [HS.out], by go_num, by first | rfl | rw [World.drewN_drewN]⟩
      case measure => simp [intOf]; omega
    · obtain rfl : j = n := by omega
      rw [parI_end]
      obtain ⟨s0, s1⟩ := sumI_bd b m cl j 2 k i
      have t0 := HB4.out
      obtain ⟨y, hy⟩ := at_lt (show i < cl.length by rw [HLC.out]; exact hi)
      obtain ⟨bc, oc, rfl, _, hcc⟩ := HC4.out i _ (ints_at hy)
      obtain ⟨y0, y1⟩ := allNum_iff.1 HNC.out y (List.mem_of_getElem? hy)
      obtain ⟨x, hx⟩ := at_lt (show i < b.length by rw [HL'.out]; exact hi)
      obtain ⟨bb, ob, rfl, _, hcb⟩ := HR4.out i _ (ints_at hx)
      obtain ⟨x0, x1⟩ := allNum_iff.1 HNB.out x (List.mem_of_getElem? hx)
      have CPy := CP1 y y0 y1
      have p0 := pw_lo y (k + 1)
      have p1 := pw_hi y (k + 1)
      have G : Hid ((sumI b m cl j 2 k i - fr * (x * ((1 - pw y (k + 1)) % 10007) % 10007) % 10007) % 10007 = 0 ↔ metI b m cl j 2 k i) := by
        have := frac_met (k := k) (y := x * ((1 - pw y (k + 1)) % 10007) % 10007) hk s0 s1 (Int.emod_nonneg _ (by omega)) (Int.emod_lt_of_pos _ (by omega))
        rw [← HF.out] at this
        have e1 : cl.getD i 0 = y := by rw [List.getD_eq_getElem?_getD, hy]; rfl
        have e2 : b.getD i 0 = x := by rw [List.getD_eq_getElem?_getD, hx]; rfl
        unfold metI intI; rw [Hid, if_neg (by omega), if_neg (by omega), e1, e2, show ((k + 1 : Nat) : Int) = (k : Int) + 1 by omega]; exact this
      obtain ⟨P, hP⟩ : ∃ P, P = pw y (k + 1) := ⟨_, rfl⟩
      rw [← hP] at CPy p0 p1 G
      have CS := fun W => l01Sub_any 1 P W (by omega) (by omega) p0 p1
      obtain ⟨u, hu⟩ : ∃ v, v = (1 - P) % 10007 := ⟨_, rfl⟩
      have u0 : 0 ≤ u := by omega
      have u1 : u < 10007 := by omega
      rw [← hu] at CS G
      have CM1 := fun W => l01Mul_any x u W x0 x1 u0 u1
      obtain ⟨v, hv⟩ : ∃ t, t = x * u % 10007 := ⟨_, rfl⟩
      have v0 : 0 ≤ v := by omega
      have v1 : v < 10007 := by omega
      rw [← hv] at CM1 G
      have CM2 := fun W => l01Mul_any fr v W f0 f1 v0 v1
      obtain ⟨g, hg⟩ : ∃ t, t = fr * v % 10007 := ⟨_, rfl⟩
      have g0 : 0 ≤ g := by omega
      have g1 : g < 10007 := by omega
      rw [← hg] at CM2 G
      obtain ⟨S, hS⟩ : ∃ S, S = sumI b m cl j 2 k i := ⟨_, rfl⟩
      rw [← hS] at s0 s1 G ⊢
      clear hS hP hu hv hg hy hx CP CP1 C3
      go_wp2_with fail
      go_quiet ((first | (go_at_call 100; first | exact quietL (CPy _) | exact quietL2 (CPy _)) | (go_at_call 104; first | exact quietL (CS _) | exact quietL2 (CS _)) | (go_at_call 99; first | exact quietL (CM1 _) | exact quietL (CM2 _) | exact quietL2 (CM1 _) | exact quietL2 (CM2 _))))
      go_wp2_with (go_at_call 104; refine (l01Sub_any _ _ _ s0 s1 g0 g1).mono ?_; rintro e w6 ⟨rfl, rfl⟩)
      go_ret
      exact ⟨_, rfl, by rw [← HCL.out]; exact G.out, by first | exact below_drewN t0 _ | (rw [World.drewN_drewN]; exact below_drewN t0 _)⟩
end Go.Proofs.Ytfllcdcgfpjabaa
