/-
  Polynomials of nodes, the model's: l11Factor, l11Polynomial, l11Integral; NodePolynomial, OrthogonalTo.
-/
import Derived.Test.YtfllcdcgfpjabaaNdP
import Derived.Test.YtfllcdcgfpjabaaNum
import Derived.Test.YtfllcdcgfpjabaaOwn1
import Derived.Test.YtfllcdcgfpjabaaResO
import Derived.StillTailTactics
import Derived.Laws.OwnMore
namespace Go.Proofs.Ytfllcdcgfpjabaa
open Go.RowKit Fld
set_option linter.unusedVariables false
set_option linter.unusedSimpArgs false
set_option maxRecDepth 100000

theorem stillM {P : Program} {f : FuncId} {args : Array Value} {w : World} {v : Value} (h : Calls P f args w fun e w' => e = .returned v ∧ w = w') : Calls P f args w fun e w' => e = .returned v ∧ w' = w :=
  h.mono fun _ _ ⟨he, hm⟩ => ⟨he, hm.symm⟩
theorem info_i64M : (Try.prog.info? 2).map (fun i => (i.zero, i.size, i.bytes)) = some (some (.int .i64 0), 1, 8) := by kernel_rfl
theorem intsM_set (ls : List Int) (k : Nat) (l : Int) : ints (ls.set k l) = (ints ls).set k (.int .i64 l) := by unfold ints intsK; rw [List.map_set]
/-- a row of the call's own that fills in any order -/
def OwnF (w : World) (T : TypeId) (n : Nat) (ls : List Int) (wr : World) : Prop := wr.ownsRow w.heap.size T 1 (.slice (some ⟨w.heap.size, 0, none⟩) n n) n (ints ls) ∧ Below w.heap.size w wr
theorem OwnF.put {w wr : World} {T : TypeId} {n k : Nat} {ls : List Int} {x : Int} (h : OwnF w T n ls wr) : OwnF w T n (ls.set k x) (wr.setCell ⟨w.heap.size, k, none⟩ (.int .i64 x)) := by
  refine ⟨?_, below_set h.2 (Nat.le_refl _) _⟩
  rw [intsM_set]; exact (h.1.stored k _).1
theorem OwnF.drewN {w wr : World} {T : TypeId} {n : Nat} {ls : List Int} (h : OwnF w T n ls wr) (q : Nat) : OwnF w T n ls (wr.drewN q) := ⟨h.1, below_drewN h.2 q⟩
theorem OwnF.start {w w1 : World} {T : TypeId} {n : Nat} (h : w1.ownsRow w.heap.size T 1 (.slice (some ⟨w.heap.size, 0, none⟩) n n) n (madeCells (Value.int .i64 0).cells (n * 1)).toList) (hg : w.grownBy w1 none) : OwnF w T n (List.replicate n 0) w1 := by
  refine ⟨?_, (Below.refl _ _).grown hg (Nat.le_refl _) (fun k hk => by cases hk)⟩
  have e : (madeCells (Value.int .i64 0).cells (n * 1)).toList = ints (List.replicate n 0) := by
    rw [Nat.mul_one]; exact (toList_madeCells_one _ _).trans (by simp [ints, intsK])
  rw [← e]; exact h
set_option maxHeartbeats 2000000 in
theorem l11Factor_any (A : Option Addr) (q c B : Nat) (p : List Int) (x : Int) (w : World) (hl : p.length = q) (hn : q ≤ 1000) (hp : allNum p = true) (x0 : 0 ≤ x) (x1 : x < 10007) (hB : B ≤ w.heap.size) (h : Row w B A (ints p)) :
    Calls Try.prog 95 #[.slice A q c, .int .i64 x] w (NewRow 2 (q + 1) (ints (facP p x q)) w) := by
  obtain ⟨i0, hi, hz0, hz1, hz2⟩ := info_parts info_i64M
  have HL := Lib.hid hl
  have HN := Lib.hid hp
  obtain ⟨n, hnq⟩ : ∃ n, n = q + 1 := ⟨_, rfl⟩
  have HNQ := Lib.hid hnq
  have hqn : q < n := by omega
  have hwr0 : IntKind.i64.wrap ((q : Int) + 1) = (n : Int) := by rw [IntWalk.i64_in _ (by omega)]; omega
  have HST : Hid (facP p x 0 = List.replicate n 0) := facP_start p x (by omega)
  rw [← hnq]
  have hn2 : n ≤ 1001 := by omega
  clear hl hp hnq
  go_enter Try.func95, Try.ntmps95
  go_wp2_with (at_make; refine wpList_make_full _ rfl (.tmp 9) (.tmp 9) 23 rfl w.heap.size 2 i0 _ 1 Try.underlying23 hi hz0 hz1 .i64 .i64 _ _ n rfl rfl rfl rfl (by rw [hz2]; omega) (by simp only [maxLen]; omega) (Nat.le_refl _) ?_; intro w1 hown hg)
  have F0 : OwnF w 2 n (facP p x 0) w1 := by rw [HST.out]; exact OwnF.start hown hg
  clear hown hg hz0 hz1 hz2 hi hwr0
  go_wp2_with fail
  go_loopw [6] (fun i wr => ∃ k : Nat, k ≤ q ∧ i = .int .i64 k ∧ OwnF w 2 n (facP p x k) wr) (fun i _ => q - (intOf i).toNat)
  case atStart => exact ⟨0, Nat.zero_le _, rfl, F0⟩
  case round =>
    obtain ⟨k, hk, rfl, HF⟩ := hrel
    by_cases hlt : k < q
    · obtain ⟨y, hy⟩ := at_lt (show k < p.length by rw [HL.out]; exact hlt)
      obtain ⟨y0, y1⟩ := allNum_iff.1 HN.out y (List.mem_of_getElem? hy)
      obtain ⟨by_, oy, rfl, _, hcy⟩ := h.below HF.2 hB k _ (ints_at hy)
      have hc1 := HF.1.cellAt (k + 1) (by omega)
      rw [ints_at (facP_at (by rw [HL.out]; omega)), if_neg (by omega), if_neg (by omega)] at hc1
      have hc0 := HF.1.cellAt k (by omega)
      rw [ints_at (facP_at (by rw [HL.out]; omega)), if_neg (by omega)] at hc0
      have hf1 := HF.1.frozenAt (k + 1)
      have hwk : IntKind.i64.wrap ((k : Int) + 1) = (k : Int) + 1 := IntWalk.i64_in _ (by omega)
      have hkn : k < n := by omega
      have hk1a : (0 : Int) ≤ (k : Int) + 1 := by omega
      have hk1b : (k : Int) + 1 < (n : Int) := by omega
      have HS := Lib.hid (facP_step (x := x) hy)
      obtain ⟨z, hz⟩ : ∃ z : Int, z = (if k = k ∧ 0 < k then p.getD (k - 1) 0 else 0) := ⟨_, rfl⟩
      have hz' : (if k = 0 then 0 else p.getD (k - 1) 0) = z := by
        rw [hz]
        by_cases e : k = 0
        · rw [if_pos e, if_neg (by omega)]
        · rw [if_neg e, if_pos ⟨rfl, by omega⟩]
      have hzb : 0 ≤ z ∧ z < 10007 := by
        rw [← hz']
        split
        · omega
        · rw [List.getD_eq_getElem?_getD]
          cases hq9 : p[k - 1]? with
          | none => exact ⟨by simp, by simp⟩
          | some v => exact allNum_iff.1 HN.out v (List.mem_of_getElem? hq9)
      obtain ⟨z0, z1⟩ := hzb
      rw [← hz] at hc0
      rw [hz'] at HS
      have CA : ∀ W, Calls Try.prog 98 #[.int .i64 0, .int .i64 y] W fun e w' => e = .returned (.int .i64 y) ∧ W = w' := fun W => by
        have := l01Add_any 0 y W (by omega) (by omega) y0 y1
        rw [Int.zero_add, Int.emod_eq_of_lt y0 y1] at this; exact this
      obtain ⟨W5, hW5⟩ : ∃ V, V = (wr.setCell ⟨w.heap.size, k + 1, none⟩ (.int .i64 y)).drew := ⟨_, rfl⟩
      have F1 : OwnF w 2 n ((facP p x k).set (k + 1) y) W5 := by rw [hW5]; exact HF.put.drewN 1
      have hc2 : (W5).cell? ⟨w.heap.size, k, none⟩ = some (.int .i64 z) := by
        have := F1.1.cellAt k (by omega)
        rw [intsM_set, List.getElem?_set_ne (by omega)] at this
        rw [this, ← hc0, HF.1.cellAt k (by omega)]
      have hf2 := F1.1.frozenAt k
      have hcy2 : (W5).cell? ⟨by_, oy + k, none⟩ = some (.int .i64 y) := by
        obtain ⟨b3, o3, e3, _, h3⟩ := h.below F1.2 hB k _ (ints_at hy)
        injection e3 with e3
        injection e3 with e4 e5
        subst e4 e5
        exact h3
      have G := Lib.hid ((F1.put (k := k) (x := (z - x * y % 10007) % 10007)).drewN 1)
      rw [HS.out] at G
      clear hy hz hz' HS F0 HF F1
      go_wp2_with fail
      refine wp_region_still_tail 14 (by kernel_rfl) (by kernel_rfl) ?_
      simp only [List.take_succ_cons, List.take_zero, List.drop_succ_cons, List.drop_zero]
      repeat still_step
      refine wpStill_step (fun K hK => ?_)
      go_simp
      refine ⟨_, stillM (CA _), hK _ ?_⟩
      clear hK K
      repeat still_step
      refine wpStill_nil ?_
      change wpList _ _ _ _ _ wr.drew
      go_wp2_with fail
      change Code.wp _ _ _ _ (wr.setCell ⟨w.heap.size, k + 1, none⟩ (.int .i64 y)).drew
      rw [← hW5]
      clear hW5 hc0 hc1 hcy hf1
      refine wp_region_still_tail 14 (by kernel_rfl) (by kernel_rfl) ?_
      simp only [List.take_succ_cons, List.take_zero, List.drop_succ_cons, List.drop_zero]
      repeat still_step
      refine wpStill_step (fun K hK => ?_)
      go_simp
      refine ⟨_, stillM (l01Mul_any _ _ _ x0 x1 y0 y1), hK _ ?_⟩
      clear hK K
      repeat still_step
      refine wpStill_step (fun K hK => ?_)
      go_simp
      refine ⟨_, stillM (l01Sub_any _ _ _ z0 z1 (Int.emod_nonneg _ (by omega)) (Int.emod_lt_of_pos _ (by omega))), hK _ ?_⟩
      clear hK K
      repeat still_step
      refine wpStill_nil ?_
      change wpList _ _ _ _ _ W5.drew
      go_wp2
      go_roundw
      case rel => exact ⟨k + 1, by omega, by go_num, by have := G.out; rw [show (z - x * y % 10007) % 10007 = (z - x * y) % 10007 by generalize x * y = t; omega] at this; exact this⟩
      case measure => simp [intOf]; omega
    · obtain rfl : k = q := by omega
      have G : Hid (NewRow 2 n (ints (facP p x k)) w (.returned (.slice (some ⟨w.heap.size, 0, none⟩) n n)) wr) := ⟨_, _, rfl, HF.1, HF.2⟩
      clear HF F0
      go_wp2
      go_ret
      exact G.out
set_option maxHeartbeats 2000000 in
theorem l11Polynomial_any (A : Option Addr) (n c B : Nat) (ns : List Int) (w : World) (hl : ns.length = n) (hn : n ≤ 8) (hp : allNum ns = true) (hB : B ≤ w.heap.size) (h : Row w B A (ints ns)) :
    Calls Try.prog 66 #[.slice A n c] w (NewRow 2 (n + 1) (ints (cl (n + 1) (plF ns n))) w) := by
  have HL := Lib.hid hl
  have HN := Lib.hid hp
  have hr0 : (w.alloc (.cells #[.int .i64 1] 2)).ownsRow w.heap.size 2 1 (.slice (some ⟨w.heap.size, 0, none⟩) 1 1) 1 (ints (cl (0 + 1) (plF ns 0))) := by
    have := World.ownsRow_lit (base := w.heap.size) (e := 2) (size := 1) w #[.int .i64 1] 1 (Nat.le_refl _) (by decide) rfl
    exact this
  have hb0 : Below w.heap.size w (w.alloc (.cells #[.int .i64 1] 2)) := (Below.refl _ _).alloc (Nat.le_refl _) _
  have HR0 := Lib.hid hr0
  have HB0 := Lib.hid hb0
  clear hl hp hr0 hb0
  go_enter Try.func66, Try.ntmps66
  go_wp2_with fail
  go_loopw [3, 4] (fun pv iv wr => ∃ (k : Nat) (A3 : Option Addr) (c3 : Nat), k ≤ n ∧ pv = .slice A3 (k + 1) c3 ∧ iv = .int .i64 k ∧ Hid (wr.ownsRow w.heap.size 2 1 (.slice A3 (k + 1) c3) (k + 1) (ints (cl (k + 1) (plF ns k)))) ∧ Hid (Below w.heap.size w wr)) (fun _ iv _ => n - (intOf iv).toNat)
  case atStart => exact ⟨0, some ⟨w.heap.size, 0, none⟩, 1, by omega, rfl, rfl, HR0, HB0⟩
  case round =>
    obtain ⟨k, A3, c3, hk, rfl, rfl, HR, HBB⟩ := hrel
    clear HR0 HB0
    by_cases hlt : k < n
    · obtain ⟨x, hx⟩ := at_lt (show k < ns.length by rw [HL.out]; exact hlt)
      obtain ⟨x0, x1⟩ := allNum_iff.1 HN.out x (List.mem_of_getElem? hx)
      obtain ⟨bx, ox, rfl, _, hcx⟩ := h.below HBB.out hB k _ (ints_at hx)
      have C := l11Factor_any A3 (k + 1) c3 wr.heap.size (cl (k + 1) (plF ns k)) x wr (cl_length _ _) (by omega) (cl_num _ _) x0 x1 (Nat.le_refl _) (row_of_own HR.out)
      rw [facP_end hx] at C
      have hz := HBB.out.size
      clear hx HR
      go_wp2_with fail
      refine C.mono ?_
      rintro e w2 ⟨A4, c4, rfl, own4, b4⟩
      have HR4 := Lib.hid ((OwnR.of own4).more hz (Nat.le_refl _)).1
      have HB4 := Lib.hid (HBB.out.trans (b4.mono hz))
      clear C own4 b4
      go_wp2
      go_roundw
      case rel => exact ⟨k + 1, A4, c4, by omega, rfl, by go_num, HR4, HB4⟩
      case measure => simp [intOf]; omega
    · obtain rfl : k = n := by omega
      have G : Hid (NewRow 2 (k + 1) (ints (cl (k + 1) (plF ns k))) w (.returned (.slice A3 (k + 1) c3)) wr) := ⟨_, _, rfl, HR.out, HBB.out⟩
      clear HR HBB
      go_wp2
      go_ret
      exact G.out
set_option maxHeartbeats 2000000 in
theorem l11Integral_any (A : Option Addr) (n c B m : Nat) (p : List Int) (x : Int) (w : World) (hl : p.length = n) (hn : n ≤ 20) (hm : m ≤ 20) (hp : allNum p = true) (x0 : 0 ≤ x) (x1 : x < 10007) (h : Row w B A (ints p)) :
    Calls Try.prog 69 #[.slice A n c, .int .i64 m, .int .i64 x] w fun e w' => e = .returned (.int .i64 (igX p m x n)) ∧ ∃ q, w' = w.drewN q := by
  have HL := Lib.hid hl
  have HN := Lib.hid hp
  clear hl hp
  go_enter Try.func69, Try.ntmps69
  go_wp2_with fail
  go_loopw [7, 8] (fun sv iv wr => ∃ k q : Nat, k ≤ n ∧ sv = .int .i64 (igX p m x k) ∧ iv = .int .i64 k ∧ wr = w.drewN q) (fun _ iv _ => n - (intOf iv).toNat)
  case atStart => exact ⟨0, 0, by omega, rfl, rfl, rfl⟩
  case round =>
    obtain ⟨k, q, hk, rfl, rfl, rfl⟩ := hrel
    by_cases hlt : k < n
    · obtain ⟨y, hy⟩ := at_lt (show k < p.length by rw [HL.out]; exact hlt)
      obtain ⟨y0, y1⟩ := allNum_iff.1 HN.out y (List.mem_of_getElem? hy)
      obtain ⟨by_, oy, rfl, _, hcy⟩ := h k _ (ints_at hy)
      have HS := Lib.hid (igX_next (m := m) (x := x) hy)
      obtain ⟨s0, s1⟩ := igX_bd p m x k
      have hw1 : IntKind.i64.wrap ((k : Int) + (m : Int)) = (k : Int) + (m : Int) := IntWalk.i64_in _ (by omega)
      have hw2 : IntKind.i64.wrap ((k : Int) + (m : Int) + 1) = (k : Int) + (m : Int) + 1 := IntWalk.i64_in _ (by omega)
      have C1 : ∀ W, Calls Try.prog 100 #[.int .i64 x, .int .i64 ((k : Int) + (m : Int) + 1)] W fun e w' => e = .returned (.int .i64 (pw x (k + m + 1))) ∧ W = w' := fun W => by
        have := l01Pow_any x ((k : Int) + (m : Int) + 1) W x0 x1 (by omega) (by omega)
        rw [show ((k : Int) + (m : Int) + 1).toNat = k + m + 1 by omega] at this; exact this
      have C2 : ∀ W, Calls Try.prog 101 #[.int .i64 1, .int .i64 ((k : Int) + (m : Int) + 1)] W fun e w' => e = .returned (.int .i64 (inv ((k : Int) + (m : Int) + 1))) ∧ W = w' := fun W => by
        have := l01Frac_any 1 ((k : Int) + (m : Int) + 1) W
        rw [show ((1 : Int) % 10007) = 1 from rfl, Int.one_mul, Int.emod_eq_of_lt (a := (k : Int) + (m : Int) + 1) (by omega) (by omega), Int.emod_eq_of_lt (inv_lo _) (inv_hi _)] at this
        exact this
      have p0 := pw_lo x (k + m + 1)
      have p1 := pw_hi x (k + m + 1)
      have f0 := inv_lo ((k : Int) + (m : Int) + 1)
      have f1 := inv_hi ((k : Int) + (m : Int) + 1)
      obtain ⟨P, hP⟩ : ∃ P, P = pw x (k + m + 1) := ⟨_, rfl⟩
      obtain ⟨F, hF⟩ : ∃ F, F = inv ((k : Int) + (m : Int) + 1) := ⟨_, rfl⟩
      rw [← hP] at C1 p0 p1 HS
      rw [← hF] at C2 f0 f1 HS
      have C3 := fun W => l01Mul_any P F W p0 p1 f0 f1
      obtain ⟨u, hu⟩ : ∃ u, u = P * F % 10007 := ⟨_, rfl⟩
      have u0 : 0 ≤ u := by omega
      have u1 : u < 10007 := by omega
      rw [← hu] at C3 HS
      have C4 := fun W => l01Mul_any y u W y0 y1 u0 u1
      obtain ⟨v, hv⟩ : ∃ v, v = y * u % 10007 := ⟨_, rfl⟩
      have v0 : 0 ≤ v := by omega
      have v1 : v < 10007 := by omega
      rw [← hv] at C4 HS
      obtain ⟨S, hS⟩ : ∃ S, S = igX p m x k := ⟨_, rfl⟩
      rw [← hS] at s0 s1 HS ⊢
      have C5 := fun W => l01Add_any S v W s0 s1 v0 v1
      clear hP hF hu hv hS hy
      go_wp2_with fail
      go_quiet ((first
        | (go_at_call 100; first | exact quietL (C1 _) | exact quietL2 (C1 _))
        | (go_at_call 101; first | exact quietL (C2 _) | exact quietL2 (C2 _))
        | (go_at_call 99; first | exact quietL (C3 _) | exact quietL (C4 _) | exact quietL2 (C3 _) | exact quietL2 (C4 _))
        | (go_at_call 98; first | exact quietL (C5 _) | exact quietL2 (C5 _))))
      go_wp2
      go_roundw
      case rel => exact ⟨k + 1, _, by omega, by rw [HS.out], by go_num, by first | rfl | rw [World.drewN_drewN]⟩
      case measure => simp [intOf]; omega
    · obtain rfl : k = n := by omega
      have tk : ¬ (k : Int) < k := by omega
      go_wp2
      go_ret
      exact ⟨rfl, _, rfl⟩
end Go.Proofs.Ytfllcdcgfpjabaa
