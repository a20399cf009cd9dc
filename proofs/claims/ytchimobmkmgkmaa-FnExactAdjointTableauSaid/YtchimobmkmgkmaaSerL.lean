/-
  The model's operations on lists of numbers: sums and multiples.
-/
import Derived.Test.YtchimobmkmgkmaaGrow
import Derived.Test.YtchimobmkmgkmaaNest
import Derived.Test.YtchimobmkmgkmaaSerl
import Derived.Test.YtchimobmkmgkmaaMark1
import Derived.Test.YtchimobmkmgkmaaRes1
namespace Go.Proofs.Ytchimobmkmgkmaa
open Go.RowKit Fld Ser
set_option linter.unusedVariables false
set_option linter.unusedSimpArgs false
set_option maxRecDepth 100000

theorem own_ne {w wr : World} {T : TypeId} {g k cap b o : Nat} {vs : List Value} (h : wr.ownsRow w.heap.size T 1 (.slice (some ⟨g, 0, none⟩) k cap) k vs) (hb : b < w.heap.size) : some (Addr.block ⟨b, o, none⟩) ≠ Value.ownBlock (.slice (some ⟨g, 0, none⟩) k cap) := fun e => by
  have h1 := (h.lt g rfl).1
  have h2 : b = g := by simpa [Value.ownBlock] using e
  omega
theorem below_same {w a b : World} (h : Below w.heap.size w a) (he : b.heap = a.heap) (h1 : b.os = a.os) (h2 : b.tape = a.tape) (h3 : b.output = a.output) : Below w.heap.size w b := ⟨h1.trans h.os, h2.trans h.tape, h3.trans h.output, by rw [he]; exact h.size, fun k hk => by rw [he]; exact h.block k hk⟩

set_option maxHeartbeats 1000000 in
theorem l02Add_any (A A' : Option Addr) (n c c' B B' : Nat) (xs ys : List Int) (w : World) (hl : xs.length = n) (hl' : ys.length = n) (hn : n ≤ 1048576) (ha : allNum xs = true) (ha' : allNum ys = true) (hB : B ≤ w.heap.size) (hB' : B' ≤ w.heap.size) (h : Row w B A (ints xs)) (h' : Row w B' A' (ints ys)) :
    Calls Try.prog 106 #[.slice A n c, .slice A' n c'] w (NewRow 2 n (ints (cl n (ad (co xs) (co ys)))) w) := by
  obtain ⟨i0, hi, hz0, hz1, hz2⟩ := info_parts info_i64
  have HL := Lib.hid hl
  have HL' := Lib.hid hl'
  have HA := Lib.hid ha
  have HA' := Lib.hid ha'
  clear hl hl' ha ha'
  go_enter Try.func106, Try.ntmps106
  go_wp2_with fail
  go_loopw [5, 6] (fun v i wr => ∃ j g cap : Nat, j ≤ n ∧ v = .slice (some ⟨g, 0, none⟩) j cap ∧ i = .int .i64 j ∧ Growing w 2 g j cap (ints ((cl n (ad (co xs) (co ys))).take j)) wr) (fun _ i _ => n - (intOf i).toNat)
  case atStart => exact ⟨0, _, 0, Nat.zero_le _, rfl, rfl, Growing.start ..⟩
  case round =>
    obtain ⟨j, g, cap, hj, rfl, rfl, HF⟩ := hrel
    by_cases hlt : j < n
    · obtain ⟨x, hx⟩ := at_lt (show j < xs.length by rw [HL.out]; exact hlt)
      obtain ⟨y, hy⟩ := at_lt (show j < ys.length by rw [HL'.out]; exact hlt)
      obtain ⟨b, o, rfl, hbb, hc⟩ := h.below HF.2 hB j _ (ints_at hx)
      obtain ⟨b', o', rfl, hbb', hc'⟩ := h'.below HF.2 hB' j _ (ints_at hy)
      obtain ⟨x0, x1⟩ := num_at HA.out hx
      obtain ⟨y0, y1⟩ := num_at HA'.out hy
      have HD : Hid (ints ((cl n (ad (co xs) (co ys))).take j) ++ [.int .i64 ((x + y) % 10007)] = ints ((cl n (ad (co xs) (co ys))).take (j + 1))) := by
        refine grow_ints ?_
        rw [cl_at _ hlt]
        show some ((co xs j + co ys j) % 10007) = _
        rw [co_at hx, co_at hy]
      have hsz := HF.2.size
      have hbw : b < wr.heap.size := by omega
      have hbw' : b' < wr.heap.size := by omega
      have HK : Hid (∀ W' : World, Below wr.heap.size wr W' → W'.cell? ⟨b, o + j, none⟩ = some (.int .i64 x) ∧ W'.cell? ⟨b', o' + j, none⟩ = some (.int .i64 y)) := fun W' hb => ⟨(hb.cell (p := ⟨b, o + j, none⟩) hbw).trans hc, (hb.cell (p := ⟨b', o' + j, none⟩) hbw').trans hc'⟩
      have HO : Hid (∀ W' : World, Below wr.heap.size wr W' → W'.ownsRow w.heap.size 2 1 (.slice (some ⟨g, 0, none⟩) j cap) j (ints ((cl n (ad (co xs) (co ys))).take j))) := fun W' hb => ((OwnR.of HF.1).below hb (Nat.le_refl _)).1
      have HNE := Lib.hid (own_ne (o := o + j) HF.1 (b := b) (by omega))
      have HNE' := Lib.hid (own_ne (o := o' + j) HF.1 (b := b') (by omega))
      have HF' := Lib.hid HF
      have j0 : (0 : Int) ≤ (j : Int) := Int.natCast_nonneg _
      have j1 : (j : Int) < (n : Int) := by omega
      clear hx hy HF
      go_wp2_with fail
      go_region_held3 (fun w' => w'.cell? ⟨b, o + j, none⟩ = some (.int .i64 x) ∧ w'.cell? ⟨b', o' + j, none⟩ = some (.int .i64 y)) (first | go_keep | exact HK.out _ ((below_drewN (Below.refl _ _) _).alloc (Nat.le_refl _) _) | exact ⟨World.grownBy.cell hgrow3 (HK.out _ ((below_drewN (Below.refl _ _) _).alloc (Nat.le_refl _) _)).1 HNE.out, World.grownBy.cell hgrow3 (HK.out _ ((below_drewN (Below.refl _ _) _).alloc (Nat.le_refl _) _)).2 HNE'.out⟩)
        (first
          | (go_at_call 123; refine (l01Add_any _ _ _ x0 x1 y0 y1).mono ?_; rintro e w2 ⟨rfl, rfl⟩)
          | (refine step_append_lies _ (by rfl) _ _ _ (by rfl) w.heap.size 2 i0 _ 1 8 Try.underlying23 hi hz0 hz1 hz2 rfl (by omega) (.slice (some ⟨g, 0, none⟩) j cap) j (ints ((cl n (ad (co xs) (co ys))).take j)) (by rfl) (HO.out _ (by exact (below_drewN (Below.refl _ _) _).alloc (Nat.le_refl _) _)) ⟨wr.heap.size, 0, none⟩ 1 1 [.int .i64 ((x + y) % 10007)] (by rfl) (by rfl) (World.news_of_block (cs := #[.int .i64 ((x + y) % 10007)]) (heap_alloc_new _ _)) (by simp [Value.oneCell']) (by omega) (by simp only [maxLen]; omega) (by omega) (by simp; omega) (wr.heap.size + 1) (by simp) ?_; intro g3 cap3 w3 hown3 hgrow3 hat3 hlt3))
      rw [HD.out] at hown3
      have G := Lib.hid (HF'.out.step ((below_drewN (Below.refl _ _) _).alloc (Nat.le_refl _) _) hown3 hgrow3)
      clear hown3 hgrow3 hat3
      go_wp2
      go_roundw
      case rel => exact ⟨j + 1, _, _, by omega, rfl, by go_num, G.out⟩
      case measure => simp [intOf]; omega
    · obtain rfl : j = n := by omega
      have e : (cl j (ad (co xs) (co ys))).take j = cl j (ad (co xs) (co ys)) := List.take_of_length_le (by rw [cl_length]; omega)
      rw [e] at HF
      have G := Lib.hid HF.done
      clear HF
      go_wp2
      go_ret
      exact G.out

set_option maxHeartbeats 1000000 in
theorem l02Times_any (A : Option Addr) (n c B : Nat) (xs : List Int) (y : Int) (w : World) (hl : xs.length = n) (hn : n ≤ 1048576) (ha : allNum xs = true) (y0 : 0 ≤ y) (y1 : y < 10007) (hB : B ≤ w.heap.size) (h : Row w B A (ints xs)) :
    Calls Try.prog 102 #[.slice A n c, .int .i64 y] w (NewRow 2 n (ints (cl n (sc y (co xs)))) w) := by
  obtain ⟨i0, hi, hz0, hz1, hz2⟩ := info_parts info_i64
  have HL := Lib.hid hl
  have HA := Lib.hid ha
  clear hl ha
  go_enter Try.func102, Try.ntmps102
  go_wp2_with fail
  go_loopw [5, 6] (fun v i wr => ∃ j g cap : Nat, j ≤ n ∧ v = .slice (some ⟨g, 0, none⟩) j cap ∧ i = .int .i64 j ∧ Growing w 2 g j cap (ints ((cl n (sc y (co xs))).take j)) wr) (fun _ i _ => n - (intOf i).toNat)
  case atStart => exact ⟨0, _, 0, Nat.zero_le _, rfl, rfl, Growing.start ..⟩
  case round =>
    obtain ⟨j, g, cap, hj, rfl, rfl, HF⟩ := hrel
    by_cases hlt : j < n
    · obtain ⟨x, hx⟩ := at_lt (show j < xs.length by rw [HL.out]; exact hlt)
      obtain ⟨b, o, rfl, hbb, hc⟩ := h.below HF.2 hB j _ (ints_at hx)
      obtain ⟨x0, x1⟩ := num_at HA.out hx
      have HD : Hid (ints ((cl n (sc y (co xs))).take j) ++ [.int .i64 (x * y % 10007)] = ints ((cl n (sc y (co xs))).take (j + 1))) := by
        refine grow_ints ?_
        rw [cl_at _ hlt]
        show some ((y * co xs j) % 10007) = _
        rw [co_at hx, Int.mul_comm]
      have hsz := HF.2.size
      have hown := HF.1
      have HF' := Lib.hid HF
      clear hx HF
      go_wp2_with (first | (go_at_call 111; refine (l01Mul_any _ _ _ x0 x1 y0 y1).mono ?_; rintro e w2 ⟨rfl, rfl⟩) | (at_builtin; refine wpList_append_lies _ rfl (.tmp 14) (.tmp 21) 23 rfl w.heap.size 2 i0 _ 1 8 Try.underlying23 hi hz0 hz1 hz2 rfl (by omega) (.slice (some ⟨g, 0, none⟩) j cap) j (ints ((cl n (sc y (co xs))).take j)) rfl (hown.alloc _) ⟨wr.heap.size, 0, none⟩ 1 1 [.int .i64 (x * y % 10007)] rfl rfl (World.news_of_block (cs := #[.int .i64 (x * y % 10007)]) (heap_alloc_new _ _)) (by simp [Value.oneCell']) (by omega) (by simp only [maxLen]; omega) (by omega) (by simp; omega) (wr.heap.size + 1) (by simp) ?_; intro g2 cap2 w2 hown2 hgrow2 hat2 hlt2))
      rw [HD.out] at hown2
      have G := Lib.hid (HF'.out.step ((Below.refl _ _).alloc (Nat.le_refl _) _) hown2 hgrow2)
      clear hown2 hgrow2 hat2 hown
      go_wp2
      go_roundw
      case rel => exact ⟨j + 1, _, _, by omega, rfl, by go_num, G.out⟩
      case measure => simp [intOf]; omega
    · obtain rfl : j = n := by omega
      have e : (cl j (sc y (co xs))).take j = cl j (sc y (co xs)) := List.take_of_length_le (by rw [cl_length]; omega)
      rw [e] at HF
      have G := Lib.hid HF.done
      clear HF
      go_wp2
      go_ret
      exact G.out
end Go.Proofs.Ytchimobmkmgkmaa
