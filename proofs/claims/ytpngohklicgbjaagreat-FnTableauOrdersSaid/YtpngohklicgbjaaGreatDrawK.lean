/-
  Draws of tableaus: rows and squares of fractions.
-/
import Derived.Test.YtpngohklicgbjaaGreatDrawL
import Derived.Test.YtpngohklicgbjaaGreatPush
import Derived.Test.YtpngohklicgbjaaGreatOwn1
import Derived.Deep.RegionHeld3
namespace Go.Proofs.YtpngohklicgbjaaGreat
open Go.RowKit Fld
set_option linter.unusedVariables false
set_option linter.unusedSimpArgs false
set_option maxRecDepth 100000

theorem fracE (p q : Int) (w : World) : Calls Tryz.prog 99 #[.int .i64 p, .int .i64 q] w fun e w' => (∃ f : Int, IsN f ∧ e = .returned (.int .i64 f)) ∧ w = w' := by
  refine (l01Frac_any p q w).mono ?_
  rintro e w' ⟨rfl, rfl⟩
  exact ⟨⟨_, ⟨Int.emod_nonneg _ (by omega), Int.emod_lt_of_pos _ (by omega)⟩, rfl⟩, rfl⟩
theorem ints_snocK (ys : List Int) (r : Int) : ints ys ++ [.int .i64 r] = ints (ys ++ [r]) := by simp [ints, intsK]
/-- a new row of numbers of the field -/
def NewRowN (n : Nat) (w : World) (e : Ending) (w' : World) : Prop := ∃ zs : List Int, zs.length = n ∧ allNum zs = true ∧ NewRow 2 n (ints zs) w e w'
set_option maxHeartbeats 1000000 in
theorem l09Row_any (q : Int) (A : Option Addr) (n c B : Nat) (ys : List Int) (w : World) (hl : ys.length = n) (hn : n ≤ 64) (hB : B ≤ w.heap.size) (h : Row w B A (ints ys)) :
    Calls Tryz.prog 102 #[.int .i64 q, .slice A n c] w (NewRowN n w) := by
  obtain ⟨i0, hi, hz0, hz1, hz2⟩ := info_parts info_i64
  have HL := Lib.hid hl
  clear hl
  go_enter Tryz.func102, Tryz.ntmps102
  go_wp2_with fail
  go_loopw [5, 6] (fun v i wr => ∃ k g cap : Nat, ∃ zs : List Int, k ≤ n ∧ v = .slice (some ⟨g, 0, none⟩) k cap ∧ i = .int .i64 k ∧ zs.length = k ∧ allNum zs = true ∧ Growing w 2 g k cap (ints zs) wr) (fun _ i _ => n - (intOf i).toNat)
  case atStart => exact ⟨0, _, 0, [], Nat.zero_le _, rfl, rfl, rfl, rfl, Growing.start w _⟩
  case round =>
    obtain ⟨k, g, cap, zs, hk, rfl, rfl, hz, hzn, hG⟩ := hrel
    by_cases hlt : k < n
    · obtain ⟨y, hy⟩ := at_lt (show k < ys.length by rw [HL.out]; exact hlt)
      obtain ⟨b, o, rfl, hb, hc⟩ := (h.below hG.2 hB) k _ (ints_at hy)
      have HG := Lib.hid hG
      have HZ := Lib.hid hz
      have HN := Lib.hid hzn
      have hsz := hG.2.size
      have own := hG.1
      clear hy hG hz hzn
      go_wp2_with fail
      refine (fracE _ _ _).mono ?_
      rintro e w' ⟨⟨f, hf, rfl⟩, rfl⟩
      have HF := Lib.hid hf
      have HS := Lib.hid (ints_snocK zs f)
      clear hf hc
      go_wp2_with (at_builtin; refine wpList_append_lies _ rfl (.tmp 14) (.tmp 21) 25 rfl w.heap.size 2 i0 _ 1 8 Tryz.underlying25 hi hz0 hz1 hz2 rfl (by omega) (.slice (some ⟨g, 0, none⟩) k cap) k (ints zs) rfl (own.alloc _) ⟨wr.heap.size, 0, none⟩ 1 1 [.int .i64 f] rfl rfl (World.news_of_block (cs := #[.int .i64 f]) (heap_alloc_new _ _)) (by simp [Value.oneCell']) (by omega) (by simp only [maxLen]; omega) (by omega) (by simp; omega) (wr.heap.size + 1) (by simp) ?_; intro g2 cap2 w2 hown2 hgrow2 hat2 hlt2)
      rw [HS.out] at hown2
      have G2 := Lib.hid (HG.out.step ((Below.refl _ _).alloc (Nat.le_refl _) _) hown2 hgrow2)
      clear hown2 hgrow2 hat2 own
      go_wp2
      go_roundw
      case rel => exact ⟨k + 1, _, _, zs ++ [f], by omega, rfl, by go_num, by simp [HZ.out], nums_snoc HN.out HF.out, G2.out⟩
      case measure => simp [intOf]; omega
    · obtain rfl : k = n := by omega
      have G := Lib.hid hG.done
      have HZ := Lib.hid hz
      have HN := Lib.hid hzn
      clear hG hz hzn
      go_wp2
      go_ret
      exact ⟨zs, HZ.out, HN.out, G.out⟩

/-- a new square of numbers of the field -/
def NewSq (n : Nat) (w : World) (e : Ending) (w' : World) : Prop := ∃ m : List (List Int), Wide m n ∧ (∀ r ∈ m, allNum r = true) ∧ NewMat n m w e w'
theorem wide_push {m : List (List Int)} {q : Nat} {r : List Int} (h : Wide m q) (hr : r.length = q) : Wide (m ++ [r]) q := fun s hs => by
  rcases List.mem_append.1 hs with h1 | h1
  · exact h s h1
  · rw [List.mem_singleton] at h1; subst h1; exact hr
theorem nums_push {m : List (List Int)} {r : List Int} (h : ∀ r ∈ m, allNum r = true) (hr : allNum r = true) : ∀ s ∈ m ++ [r], allNum s = true := fun s hs => by
  rcases List.mem_append.1 hs with h1 | h1
  · exact h s h1
  · rw [List.mem_singleton] at h1; subst h1; exact hr
set_option maxHeartbeats 2000000 in
theorem l09Square_any (s : Nat) (q : Int) (A : Option Addr) (n c B : Nat) (ys : List Int) (w : World) (hl : ys.length = n) (hs : s ≤ 8) (hn : s * s = n) (hB : B ≤ w.heap.size) (h : Row w B A (ints ys)) :
    Calls Tryz.prog 101 #[.int .i64 s, .int .i64 q, .slice A n c] w (NewSq s w) := by
  obtain ⟨i0, hi, hz0, hz1, hz2⟩ := info_parts info_i64
  obtain ⟨j0, hj, hy0, hy1, hy2⟩ := info_parts info_row
  have HL := Lib.hid hl
  have HN := Lib.hid hn
  clear hl hn
  go_enter Tryz.func101, Tryz.ntmps101
  go_wp2_with fail
  go_loopw [7, 8] (fun v i wr => ∃ k g cap : Nat, ∃ m : List (List Int), k ≤ s ∧ v = .slice (some ⟨g, 0, none⟩) k cap ∧ i = .int .i64 k ∧ Wide m s ∧ (∀ r ∈ m, allNum r = true) ∧ GrowM w g k cap m wr) (fun _ i _ => s - (intOf i).toNat)
  case atStart => exact ⟨0, _, 0, [], Nat.zero_le _, rfl, rfl, fun _ h => by simp at h, fun _ h => by simp at h, GrowM.start ..⟩
  case round =>
    obtain ⟨k, g, cap, m, hk, rfl, rfl, hw, hnm, vs, HM, HBel⟩ := hrel
    have hsz := HBel.size
    have HW := Lib.hid hw
    have HNM := Lib.hid hnm
    have HM' := Lib.hid HM
    have HB' := Lib.hid HBel
    clear hw hnm HM HBel
    generalize wr = wo at *
    by_cases hlt : k < s
    · have HR := Lib.hid (h.below HB'.out hB)
      go_wp2_with fail
      go_loopw [9, 10] (fun v i wj => ∃ j g2 cap2 : Nat, ∃ zs : List Int, j ≤ s ∧ v = .slice (some ⟨g2, 0, none⟩) j cap2 ∧ i = .int .i64 j ∧ zs.length = j ∧ allNum zs = true ∧ Growing wo 2 g2 j cap2 (ints zs) wj) (fun _ i _ => s - (intOf i).toNat)
      case atStart => exact ⟨0, _, 0, [], Nat.zero_le _, rfl, rfl, rfl, rfl, Growing.start wo _⟩
      case round =>
        obtain ⟨j, g2, cap2, zs, hj2, rfl, rfl, hz, hzn, hG⟩ := hrel
        have HG := Lib.hid hG
        have HZ := Lib.hid hz
        have HZN := Lib.hid hzn
        have own := hG.1
        have hsj := hG.2.size
        clear hG hz hzn
        by_cases hjl : j < s
        · have hks : k * s + j < n := by
            have h1 : k * s + s ≤ s * s := by
              have := Nat.mul_le_mul_right s (show k + 1 ≤ s from hlt)
              rw [Nat.add_mul, Nat.one_mul] at this
              exact this
            have := HN.out
            omega
          obtain ⟨y, hy⟩ := at_lt (show k * s + j < ys.length by rw [HL.out]; exact hks)
          obtain ⟨b, o, rfl, hb, hc⟩ := (HR.out.below HG.out.2 (by omega)) (k * s + j) _ (ints_at hy)
          have e1 : IntKind.i64.wrap ((k : Int) * (s : Int)) = ((k * s : Nat) : Int) := by
            rw [← Int.natCast_mul]; exact IntWalk.i64_in _ (by have := HN.out; have := Nat.mul_le_mul hs hs; omega)
          have e2 : IntKind.i64.wrap (((k * s : Nat) : Int) + (j : Int)) = ((k * s + j : Nat) : Int) := by
            rw [← Int.natCast_add]; exact IntWalk.i64_in _ (by have := HN.out; have := Nat.mul_le_mul hs hs; omega)
          obtain ⟨x, hx⟩ : ∃ x, x = k * s := ⟨_, rfl⟩
          rw [← hx] at e1 e2 hks hc
          obtain ⟨z, hz⟩ : ∃ z, z = x + j := ⟨_, rfl⟩
          rw [← hz] at e2 hks hc
          have HX := Lib.hid hx
          have HZ2 := Lib.hid hz
          have z0 : (0 : Int) ≤ (z : Int) := Int.natCast_nonneg _
          have z1 : (z : Int) < (n : Int) := by omega
          clear hy hx hz
          go_wp2_with fail
          refine (fracE _ _ _).mono ?_
          rintro e w' ⟨⟨f, hf, rfl⟩, rfl⟩
          have HF := Lib.hid hf
          have HS := Lib.hid (ints_snocK zs f)
          clear hf hc
          go_wp2_with (at_builtin; refine wpList_append_lies _ rfl (.tmp 23) (.tmp 34) 25 rfl wo.heap.size 2 i0 _ 1 8 Tryz.underlying25 hi hz0 hz1 hz2 rfl (by omega) (.slice (some ⟨g2, 0, none⟩) j cap2) j (ints zs) rfl (own.alloc _) ⟨wr.heap.size, 0, none⟩ 1 1 [.int .i64 f] rfl rfl (World.news_of_block (cs := #[.int .i64 f]) (heap_alloc_new _ _)) (by simp [Value.oneCell']) (by omega) (by simp only [maxLen]; omega) (by omega) (by simp; omega) (wr.heap.size + 1) (by simp) ?_; intro g3 cap3 w3 hown3 hgrow3 hat3 hlt3)
          rw [HS.out] at hown3
          have G3 := Lib.hid (HG.out.step ((Below.refl _ _).alloc (Nat.le_refl _) _) hown3 hgrow3)
          clear hown3 hgrow3 hat3 own
          go_wp2
          go_roundw
          case rel => exact ⟨j + 1, _, _, zs ++ [f], by omega, rfl, by go_num, by simp [HZ.out], nums_snoc HZN.out HF.out, G3.out⟩
          case measure => simp [intOf]; omega
        · obtain rfl : j = s := by omega
          have HM2 := Lib.hid (HM'.out.below HG.out.2 (Nat.le_refl _))
          have HB2 := Lib.hid (HB'.out.trans (HG.out.2.mono hsz))
          have hownO := HM2.out.outer.1
          have HRZ := Lib.hid own
          have hsz2 := HB2.out.size
          clear own
          go_wp2_with (at_builtin; refine wpList_append_lies _ rfl (.tmp 36) (.tmp 38) 24 rfl w.heap.size 25 j0 _ 1 24 Tryz.underlying24 hj hy0 hy1 hy2 rfl (by omega) (.slice (some ⟨g, 0, none⟩) k cap) k vs rfl (hownO.alloc _) ⟨wr.heap.size, 0, none⟩ 1 1 [.slice (some ⟨g2, 0, none⟩) j cap2] rfl rfl (World.news_of_block (cs := #[.slice (some ⟨g2, 0, none⟩) j cap2]) (heap_alloc_new _ _)) (by simp [Value.oneCell']) (by omega) (by simp only [maxLen]; omega) (by omega) (by simp; omega) (wr.heap.size + 1) (by simp) ?_; intro g5 cap5 w5 hown5 hgrow5 hat5 hlt5)
          have G : Hid (GrowM w g5 (k + 1) cap5 (m ++ [zs]) w5) := by
            refine ⟨_, HM2.out.push (row := zs) hsj HZ.out HRZ.out hsz hown5 hgrow5, ?_⟩
            exact (HB2.out.alloc (by omega) _).grown hgrow5 (by simp; omega) (fun q hq => (hownO.lt q hq).1)
          clear hown5 hgrow5 hat5 hownO
          go_wp2
          go_roundw
          case rel => exact ⟨k + 1, g5, cap5, m ++ [zs], by omega, rfl, by go_num, wide_push HW.out HZ.out, nums_push HNM.out HZN.out, G.out⟩
          case measure => simp [intOf]; omega
    · obtain rfl : k = s := by omega
      have G : Hid (NewSq k w (.returned (.slice (some ⟨g, 0, none⟩) k cap)) wo) := ⟨m, HW.out, HNM.out, GrowM.done ⟨vs, HM'.out, HB'.out⟩⟩
      go_wp2
      go_ret
      exact G.out
end Go.Proofs.YtpngohklicgbjaaGreat
