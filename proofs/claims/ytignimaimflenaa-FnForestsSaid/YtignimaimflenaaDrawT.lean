/-
  Draws of level lists: what is mostly one.
-/
import Derived.Test.YtignimaimflenaaDrawB
namespace Go.Proofs.Ytignimaimflenaa
open Go.RowKit Fld
set_option linter.unusedVariables false
set_option linter.unusedSimpArgs false
set_option maxRecDepth 100000

theorem at_lastT {ys : List Int} {j : Nat} (h : ys.length = j + 1) : ∃ y, ys[j]? = some y ∧ y ∈ ys := by
  have hj : j < ys.length := by omega
  exact ⟨ys[j], List.getElem?_eq_getElem hj, List.getElem_mem hj⟩
theorem ints_snocT (ys : List Int) (r : Int) : ints ys ++ [.int .i64 r] = ints (ys ++ [r]) := by simp [ints, intsK]
def UpTo (ys : List Int) (j : Nat) : Prop := ∀ y ∈ ys, 0 ≤ y ∧ y ≤ (j : Int)
theorem UpTo.snoc {ys : List Int} {j : Nat} {r : Int} (h : UpTo ys j) (h0 : 0 ≤ r) (h1 : r ≤ (j : Int) + 1) : UpTo (ys ++ [r]) (j + 1) := fun y hy => by
  rcases List.mem_append.1 hy with h2 | h2
  · have := h y h2; omega
  · obtain rfl : y = r := by simpa using h2
    omega
set_option maxHeartbeats 1000000 in
theorem l03Draw_any (G B : Nat) (xs : List Int) (n : Nat) (w : World) (h1 : 1 ≤ n) (hn : n ≤ 64) (s : Src w 96 G B xs) :
    Calls Try.prog 100 #[.pointer (some ⟨G, 0, none⟩), .int .i64 n] w (DrawnL (fun ys => 1 ≤ ys.length ∧ ys.length ≤ n) 96 G B xs w) := by
  obtain ⟨i0, hi, hz0, hz1, hz2⟩ := info_parts info_i64
  have HG := s.lt
  have S0 := Lib.hid (s.alloc (.cells #[.int .i64 0] 2))
  have O0 : Hid ((w.alloc (.cells #[.int .i64 0] 2)).ownsRow w.heap.size 2 1 (.slice (some ⟨w.heap.size, 0, none⟩) 1 1) 1 (ints [0])) := World.ownsRow_lit w #[.int .i64 0] 1 (Nat.le_refl _) (by decide) rfl
  have U0 : Hid (UpTo [0] 0) := fun y hy => by
    obtain rfl : y = 0 := by simpa using hy
    omega
  clear s
  go_enter Try.func100, Try.ntmps100
  go_wp2_with fail
  refine (l01Next_any G B xs _ _ (by omega) S0.out).mono ?_
  rintro e w1 ⟨r, rfl, r0, r1, s1, o1⟩
  obtain ⟨rn, rfl⟩ : ∃ rn : Nat, r = (rn : Int) := ⟨r.toNat, by omega⟩
  have O1 := Lib.hid (own_pastv O0.out HG o1)
  have G1 := Lib.hid (only_trans (World.grownBy_alloc w (.cells #[.int .i64 0] 2) (some G)) o1)
  have S1 := Lib.hid s1
  clear O0 S0 s1 o1
  go_wp2_with fail
  go_loopw [5, 6] (fun v q wr => ∃ j g cap : Nat, ∃ ys : List Int, j ≤ rn ∧ v = .slice (some ⟨g, 0, none⟩) (j + 1) cap ∧ q = .int .i64 ((rn : Int) - j) ∧ ys.length = j + 1 ∧ Hid (UpTo ys j) ∧ wr.ownsRow w.heap.size 2 1 (.slice (some ⟨g, 0, none⟩) (j + 1) cap) (j + 1) (ints ys) ∧ Src wr 96 G B xs ∧ w.grownBy wr (some G)) (fun _ q _ => (intOf q).toNat)
  case atStart => exact ⟨0, _, _, [0], by omega, rfl, by simp, rfl, U0, O1.out, S1.out, G1.out⟩
  case round =>
    obtain ⟨j, g, cap, ys, hj, rfl, rfl, hy1, HU, hown, hs, ho⟩ := hrel
    by_cases hlt : j < rn
    · have h0 : (0 : Int) < (rn : Int) - j := by omega
      have hg := (hown.lt g rfl).1
      obtain ⟨y, hy, hm⟩ := at_lastT hy1
      have hy2 := HU.out y hm
      have hc := hown.cellAt j (by omega)
      rw [ints_at hy] at hc
      have HY1 := Lib.hid hy1
      have HO := Lib.hid hown
      have HGR := Lib.hid ho
      have hsz := ho.size
      clear hown hy1 ho hy hm O1 S1 G1 U0
      go_wp2_with fail
      refine (l01Next_any G B xs _ _ (by omega) hs).mono ?_
      rintro e w1 ⟨r, rfl, q0, q1, s1, o1⟩
      have own1 := own_pastv HO.out HG o1
      have hsz1 := o1.size
      have HR : Hid (UpTo (ys ++ [1 + r]) (j + 1)) := HU.out.snoc (by omega) (by omega)
      have HR' := Lib.hid (ints_snocT ys (1 + r))
      have O1 := Lib.hid o1
      clear hs o1 HU
      go_wp2_with (at_builtin; refine wpList_append_lies _ rfl (.tmp 15) (.tmp 26) 22 rfl w.heap.size 2 i0 _ 1 8 Try.underlying22 hi hz0 hz1 hz2 rfl (by omega) (.slice (some ⟨g, 0, none⟩) (j + 1) cap) (j + 1) (ints ys) rfl (own1.alloc _) ⟨w1.heap.size, 0, none⟩ 1 1 [.int .i64 (1 + r)] rfl rfl (World.news_of_block (cs := #[.int .i64 (1 + r)]) (heap_alloc_new _ _)) (by simp [Value.oneCell']) (by omega) (by simp only [maxLen]; omega) (by omega) (by simp; omega) (w1.heap.size + 1) (by simp) ?_; intro g2 cap2 w2 hown2 hgrow2 hat2 hlt2)
      rw [HR'.out] at hown2
      have s2 := (s1.alloc (.cells #[.int .i64 (1 + r)] 2)).only (g := g) hgrow2 (by omega) (by obtain ⟨_, _, _, _, _, _, h3, _⟩ := s1; omega)
      have G2 := Lib.hid (only_row (only_alloc (only_trans HGR.out O1.out) _) hgrow2 hg)
      have S2 := Lib.hid s2
      have OW2 := Lib.hid hown2
      clear hown2 hgrow2 hat2 s1 s2 own1
      go_wp2
      go_roundw
      case rel => exact ⟨j + 1, _, _, ys ++ [1 + r], by omega, rfl, by go_num, by simp [HY1.out], HR, OW2.out, S2.out, G2.out⟩
      case measure => simp [intOf]; omega
    · obtain rfl : j = rn := by omega
      have HD : Hid (DrawnL (fun ys => 1 ≤ ys.length ∧ ys.length ≤ n) 96 G B xs w (.returned (.slice (some ⟨g, 0, none⟩) (j + 1) cap)) wr) := ⟨g, cap, j + 1, ys, rfl, hy1, ⟨by omega, by omega⟩, hown, hs, ho⟩
      have h0 : ¬ (0 : Int) < (j : Int) - j := by omega
      clear hown hs ho hy1 HU O1 S1 G1 U0
      go_wp2
      go_ret
      exact HD.out
theorem ints_setT (ys : List Int) (r : Int) (k : Nat) : (ints ys).set k (.int .i64 r) = ints (ys.set k r) := by simp [ints, intsK, List.map_set]
set_option maxHeartbeats 2000000 in
theorem l03DrawAny_any (G B : Nat) (xs : List Int) (n : Nat) (w : World) (h1 : 1 ≤ n) (hn : n ≤ 64) (s : Src w 96 G B xs) :
    Calls Try.prog 101 #[.pointer (some ⟨G, 0, none⟩), .int .i64 n] w (DrawnR (fun ys => ys.length ≤ n + 8) 96 G B xs w) := by
  obtain ⟨i0, hi, hz0, hz1, hz2⟩ := info_parts info_i64
  have HG := s.lt
  go_enter Try.func101, Try.ntmps101
  go_wp2_with fail
  refine (l03Draw_any G B xs n _ h1 hn s).mono ?_
  rintro e w1 ⟨g, c, l, ys, rfl, hl, ⟨p1, p2⟩, own1, s1, o1⟩
  rw [hl] at p1 p2
  have hg := (own1.lt g rfl).1
  have HGw := s1.lt
  have O1 := Lib.hid own1
  have G1 := Lib.hid o1
  have HL := Lib.hid hl
  clear s own1 o1 hl
  go_wp2_with fail
  refine (l01Next_any G B xs _ _ (by omega) s1).mono ?_
  rintro e w2 ⟨r, rfl, r0, r1, s2, o2⟩
  have O2 := Lib.hid (own_pastv O1.out HG o2)
  have G2 := Lib.hid (only_trans G1.out o2)
  clear O1 G1 s1 o2
  by_cases c0 : r = 0
  · have t0 := beq_t c0
    clear c0
    go_wp2_with fail
    refine (l01Next_any G B xs _ _ (by omega) s2).mono ?_
    rintro e w3 ⟨q, rfl, q0, q1, s3, o3⟩
    obtain ⟨qn, rfl⟩ : ∃ qn : Nat, q = (qn : Int) := ⟨q.toNat, by omega⟩
    have O3 := Lib.hid (own_pastv O2.out HG o3)
    have G3 := Lib.hid (only_trans G2.out o3)
    clear O2 G2 s2 o3
    go_wp2_with fail
    refine (l01Next_any G B xs _ _ (by omega) s3).mono ?_
    rintro e w4 ⟨p, rfl, q2, q3, s4, o4⟩
    have O4 := Lib.hid (own_pastv O3.out HG o4)
    have G4 := Lib.hid (only_trans G3.out o4)
    clear O3 G3 s3 o4
    have hf := O4.out.frozenAt qn
    have hc := O4.out.cellAt qn (by omega)
    obtain ⟨y, hy⟩ := at_lt (show qn < ys.length by rw [HL.out]; omega)
    rw [ints_at hy] at hc
    obtain ⟨O5, H5⟩ := O4.out.stored qn (.int .i64 (p - 1))
    rw [ints_setT] at O5
    have HD : Hid (DrawnR (fun ys => ys.length ≤ n + 8) 96 G B xs w (.returned (.slice (some ⟨g, 0, none⟩) l c)) (w4.setCell ⟨g, qn, none⟩ (.int .i64 (p - 1)))) := ⟨_, c, l, _, rfl, by rw [List.length_set]; exact HL.out, by show (ys.set _ _).length ≤ n + 8; rw [List.length_set, HL.out]; omega, O5, s4.only H5 (by omega) (by obtain ⟨_, _, _, _, _, _, h3, _⟩ := s4; omega), only_row G4.out H5 hg⟩
    clear O4 G4 O5 H5 hy s4
    go_wp2
    go_ret
    exact HD.out
  · have t0 := beq_f c0
    by_cases c1 : r = 1
    · have t1 := beq_t c1
      have HD : Hid (DrawnR (fun ys => ys.length ≤ n + 8) 96 G B xs w (.returned (.slice none 0 0)) w2) := ⟨none, 0, 0, [], rfl, rfl, by simp, World.ownsRow_nil .., s2, G2.out⟩
      clear c0 c1 s2 G2 O2
      go_wp2
      go_ret
      exact HD.out
    · have t1 := beq_f c1
      by_cases c2 : r = 2
      · have t2 := beq_t c2
        have S2 := Lib.hid s2
        clear c0 c1 c2 s2
        go_wp2_with fail
        go_loopw [5, 6] (fun v q wr => ∃ j g cap : Nat, ∃ ys : List Int, j ≤ 8 ∧ v = .slice (some ⟨g, 0, none⟩) (l + j) cap ∧ q = .int .i64 j ∧ ys.length = l + j ∧ wr.ownsRow w.heap.size 2 1 (.slice (some ⟨g, 0, none⟩) (l + j) cap) (l + j) (ints ys) ∧ Src wr 96 G B xs ∧ w.grownBy wr (some G)) (fun _ q _ => 8 - (intOf q).toNat)
        case atStart => exact ⟨0, _, _, ys, by omega, rfl, rfl, HL.out, O2.out, S2.out, G2.out⟩
        case round =>
          obtain ⟨j, g, cap, ys, hj, rfl, rfl, hy1, hown, hs, ho⟩ := hrel
          by_cases hlt : j < 8
          · have hg := (hown.lt g rfl).1
            have HY1 := Lib.hid hy1
            have HO := Lib.hid hown
            have HGR := Lib.hid ho
            have hsz := ho.size
            have HS := Lib.hid hs
            have HB := Lib.hid (show B ≤ g from by obtain ⟨_, _, _, _, _, _, h3, _⟩ := hs; omega)
            have HR' := Lib.hid (ints_snocT ys 1)
            clear hown hy1 ho hs O2 S2 G2 HL
            go_wp2_with (at_builtin; refine wpList_append_lies _ rfl (.tmp 31) (.tmp 32) 22 rfl w.heap.size 2 i0 _ 1 8 Try.underlying22 hi hz0 hz1 hz2 rfl (by omega) (.slice (some ⟨g, 0, none⟩) (l + j) cap) (l + j) (ints ys) rfl (HO.out.alloc _) ⟨wr.heap.size, 0, none⟩ 1 1 [.int .i64 1] rfl rfl (World.news_of_block (cs := #[.int .i64 1]) (heap_alloc_new _ _)) (by simp [Value.oneCell']) (by omega) (by simp only [maxLen]; omega) (by omega) (by simp; omega) (wr.heap.size + 1) (by simp) ?_; intro g2 cap2 w2 hown2 hgrow2 hat2 hlt2)
            rw [HR'.out] at hown2
            have s2 := (HS.out.alloc (.cells #[.int .i64 1] 2)).only (g := g) hgrow2 (by omega) HB.out
            have G2 := Lib.hid (only_row (only_alloc HGR.out _) hgrow2 hg)
            have S2 := Lib.hid s2
            have OW2 := Lib.hid hown2
            clear hown2 hgrow2 hat2 s2
            go_wp2
            go_roundw
            case rel => exact ⟨j + 1, _, _, ys ++ [1], by omega, rfl, by go_num, by simp [HY1.out]; omega, OW2.out, S2.out, G2.out⟩
            case measure => simp [intOf]; omega
          · obtain rfl : j = 8 := by omega
            have HD : Hid (DrawnR (fun ys => ys.length ≤ n + 8) 96 G B xs w (.returned (.slice (some ⟨g, 0, none⟩) (l + 8) cap)) wr) := ⟨_, cap, l + 8, ys, rfl, hy1, by show ys.length ≤ n + 8; omega, hown, hs, ho⟩
            clear hown hs ho hy1 O2 S2 G2 HL
            go_wp2
            go_ret
            exact HD.out
      · have t2 := beq_f c2
        have HD : Hid (DrawnR (fun ys => ys.length ≤ n + 8) 96 G B xs w (.returned (.slice (some ⟨g, 0, none⟩) l c)) w2) := ⟨_, c, l, ys, rfl, HL.out, by show ys.length ≤ n + 8; rw [HL.out]; omega, O2.out, s2, G2.out⟩
        clear c0 c1 c2 s2 G2 O2
        go_wp2
        go_ret
        exact HD.out
/-- a tree and a node -/
def DrawnN (w : World) (e : Ending) (w' : World) : Prop := ∃ A c n, ∃ ys : List Int, ∃ k : Int, e = .returned (.tuple #[.slice A n c, .int .i64 k]) ∧ ys.length = n ∧ n ≤ 16 ∧ n ≤ c ∧ Row w' w'.heap.size A (ints ys) ∧ (-1 ≤ k ∧ k ≤ 17) ∧ Below w.heap.size w w'
/-- two lists -/
def DrawnP (w : World) (e : Ending) (w' : World) : Prop := ∃ A c n A2 c2 n2, ∃ ys zs : List Int, e = .returned (.tuple #[.slice A n c, .slice A2 n2 c2]) ∧ (ys.length = n ∧ zs.length = n2) ∧ (n ≤ 1024 ∧ n2 ≤ 1024) ∧ (n ≤ c ∧ n2 ≤ c2) ∧ Row w' w'.heap.size A (ints ys) ∧ Row w' w'.heap.size A2 (ints zs) ∧ Below w.heap.size w w'
end Go.Proofs.Ytignimaimflenaa
