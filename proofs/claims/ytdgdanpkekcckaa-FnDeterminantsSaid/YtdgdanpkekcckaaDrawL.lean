/-
  Draws of lists of numbers: the model's lists and series, the laws' lists.
-/
import Derived.Test.YtdgdanpkekcckaaDrawB
import Derived.Test.YtdgdanpkekcckaaGrow
import Derived.Test.YtdgdanpkekcckaaNest
import Derived.Deep.DeepCutAuto
import Derived.Deep.CutBlock
namespace Go.Proofs.Ytdgdanpkekcckaa
open Go.RowKit Fld
set_option linter.unusedVariables false
set_option linter.unusedSimpArgs false
set_option maxRecDepth 100000

theorem nums_snoc {ys : List Int} {r : Int} (h : allNum ys = true) (hr : IsN r) : allNum (ys ++ [r]) = true := by
  rw [allNum_iff] at *
  intro x hx
  rcases List.mem_append.1 hx with h1 | h1
  · exact h x h1
  · obtain rfl : x = r := by simpa using h1
    exact hr
theorem ints_snoc (ys : List Int) (r : Int) : ints ys ++ [.int .i64 r] = ints (ys ++ [r]) := by simp [ints, intsK]
set_option maxHeartbeats 1000000 in
theorem l01List_any (G B : Nat) (xs : List Int) (n : Nat) (w : World) (hn : n ≤ 64) (s : Src w 62 G B xs) :
    Calls Try.prog 30 #[.pointer (some ⟨G, 0, none⟩), .int .i64 n] w (DrawnL (fun ys => ys.length = n ∧ allNum ys = true) 62 G B xs w) := by
  obtain ⟨i0, hi, hz0, hz1, hz2⟩ := info_parts info_i64
  have HG := s.lt
  have HS := Lib.hid s
  clear s
  go_enter Try.func30, Try.ntmps30
  go_wp2_with fail
  go_loopw [1, 5] (fun q v wr => ∃ j g cap : Nat, ∃ ys : List Int, j ≤ n ∧ q = .int .i64 ((n : Int) - j) ∧ v = .slice (some ⟨g, 0, none⟩) j cap ∧ ys.length = j ∧ allNum ys = true ∧ wr.ownsRow w.heap.size 2 1 (.slice (some ⟨g, 0, none⟩) j cap) j (ints ys) ∧ Src wr 62 G B xs ∧ w.grownBy wr (some G)) (fun q _ _ => (intOf q).toNat)
  case atStart => exact ⟨0, _, 0, [], by omega, by simp, rfl, rfl, rfl, (Growing.start w 2).1, HS.out.alloc _, World.grownBy_alloc w _ _⟩
  case round =>
    obtain ⟨j, g, cap, ys, hj, rfl, rfl, hy1, hy2, hown, hs, ho⟩ := hrel
    by_cases hlt : j < n
    · have h0 : (0 : Int) < (n : Int) - j := by omega
      have hg := (hown.lt g rfl).1
      have HY1 := Lib.hid hy1
      have HY2 := Lib.hid hy2
      have HO := Lib.hid hown
      have HGR := Lib.hid ho
      have hsz := ho.size
      clear hown hy1 hy2 HS ho
      go_wp2_with fail
      refine (l01Number_any G B xs _ hs).mono ?_
      rintro e w1 ⟨r, rfl, hr, s1, o1⟩
      have own1 := own_past HO.out HG o1
      have hsz1 := o1.size
      have HR := Lib.hid hr
      have O1 := Lib.hid o1
      clear hr hs o1
      go_wp2_with (at_builtin; refine wpList_append_lies _ rfl (.tmp 11) (.tmp 14) 31 rfl w.heap.size 2 i0 _ 1 8 Try.underlying31 hi hz0 hz1 hz2 rfl (by omega) (.slice (some ⟨g, 0, none⟩) j cap) j (ints ys) rfl (own1.alloc _) ⟨w1.heap.size, 0, none⟩ 1 1 [.int .i64 r] rfl rfl (World.news_of_block (cs := #[.int .i64 r]) (heap_alloc_new _ _)) (by simp [Value.oneCell']) (by omega) (by simp only [maxLen]; omega) (by omega) (by simp; omega) (w1.heap.size + 1) (by simp) ?_; intro g2 cap2 w2 hown2 hgrow2 hat2 hlt2)
      rw [ints_snoc] at hown2
      have s2 := (s1.alloc (.cells #[.int .i64 r] 2)).only (g := g) hgrow2 (by omega) (by obtain ⟨_, _, _, _, _, _, h3, _⟩ := s1; omega)
      have G2 := Lib.hid (only_row (only_alloc (only_trans HGR.out O1.out) _) hgrow2 hg)
      have S2 := Lib.hid s2
      have OW2 := Lib.hid hown2
      clear hown2 hgrow2 hat2 s1 s2 own1
      go_wp2
      go_roundw
      case rel => exact ⟨j + 1, _, _, ys ++ [r], by omega, by go_num, rfl, by simp [HY1.out], nums_snoc HY2.out HR.out, OW2.out, S2.out, G2.out⟩
      case measure => simp [intOf]; omega
    · obtain rfl : j = n := by omega
      have HD : Hid (DrawnL (fun ys => ys.length = j ∧ allNum ys = true) 62 G B xs w (.returned (.slice (some ⟨g, 0, none⟩) j cap)) wr) := ⟨g, cap, j, ys, rfl, hy1, ⟨hy1, hy2⟩, hown, hs, ho⟩
      have h0 : ¬ (0 : Int) < (j : Int) - j := by omega
      clear hown hs ho hy1 hy2 HS
      go_wp2
      go_ret
      exact HD.out
set_option maxHeartbeats 1000000 in
theorem list5_any (G B : Nat) (xs : List Int) (n : Nat) (w : World) (hn : n ≤ 64) (s : Src w 49 G B xs) :
    Calls Try.prog 9 #[.pointer (some ⟨G, 0, none⟩), .int .i64 n] w (DrawnL (fun ys => ys.length = n ∧ allNum ys = true) 49 G B xs w) := by
  obtain ⟨i0, hi, hz0, hz1, hz2⟩ := info_parts info_i64
  have HG := s.lt
  have HS := Lib.hid s
  clear s
  go_enter Try.func9, Try.ntmps9
  go_wp2_with fail
  go_loopw [1, 5] (fun q v wr => ∃ j g cap : Nat, ∃ ys : List Int, j ≤ n ∧ q = .int .i64 ((n : Int) - j) ∧ v = .slice (some ⟨g, 0, none⟩) j cap ∧ ys.length = j ∧ allNum ys = true ∧ wr.ownsRow w.heap.size 2 1 (.slice (some ⟨g, 0, none⟩) j cap) j (ints ys) ∧ Src wr 49 G B xs ∧ w.grownBy wr (some G)) (fun q _ _ => (intOf q).toNat)
  case atStart => exact ⟨0, _, 0, [], by omega, by simp, rfl, rfl, rfl, (Growing.start w 2).1, HS.out.alloc _, World.grownBy_alloc w _ _⟩
  case round =>
    obtain ⟨j, g, cap, ys, hj, rfl, rfl, hy1, hy2, hown, hs, ho⟩ := hrel
    by_cases hlt : j < n
    · have h0 : (0 : Int) < (n : Int) - j := by omega
      have hg := (hown.lt g rfl).1
      have HY1 := Lib.hid hy1
      have HY2 := Lib.hid hy2
      have HO := Lib.hid hown
      have HGR := Lib.hid ho
      have hsz := ho.size
      clear hown hy1 hy2 HS ho
      go_wp2_with fail
      refine (number5_any G B xs _ hs).mono ?_
      rintro e w1 ⟨r, rfl, hr, s1, o1⟩
      have own1 := own_past HO.out HG o1
      have hsz1 := o1.size
      have HR := Lib.hid hr
      have O1 := Lib.hid o1
      clear hr hs o1
      go_wp2_with (at_builtin; refine wpList_append_lies _ rfl (.tmp 11) (.tmp 14) 31 rfl w.heap.size 2 i0 _ 1 8 Try.underlying31 hi hz0 hz1 hz2 rfl (by omega) (.slice (some ⟨g, 0, none⟩) j cap) j (ints ys) rfl (own1.alloc _) ⟨w1.heap.size, 0, none⟩ 1 1 [.int .i64 r] rfl rfl (World.news_of_block (cs := #[.int .i64 r]) (heap_alloc_new _ _)) (by simp [Value.oneCell']) (by omega) (by simp only [maxLen]; omega) (by omega) (by simp; omega) (w1.heap.size + 1) (by simp) ?_; intro g2 cap2 w2 hown2 hgrow2 hat2 hlt2)
      rw [ints_snoc] at hown2
      have s2 := (s1.alloc (.cells #[.int .i64 r] 2)).only (g := g) hgrow2 (by omega) (by obtain ⟨_, _, _, _, _, _, h3, _⟩ := s1; omega)
      have G2 := Lib.hid (only_row (only_alloc (only_trans HGR.out O1.out) _) hgrow2 hg)
      have S2 := Lib.hid s2
      have OW2 := Lib.hid hown2
      clear hown2 hgrow2 hat2 s1 s2 own1
      go_wp2
      go_roundw
      case rel => exact ⟨j + 1, _, _, ys ++ [r], by omega, by go_num, rfl, by simp [HY1.out], nums_snoc HY2.out HR.out, OW2.out, S2.out, G2.out⟩
      case measure => simp [intOf]; omega
    · obtain rfl : j = n := by omega
      have HD : Hid (DrawnL (fun ys => ys.length = j ∧ allNum ys = true) 49 G B xs w (.returned (.slice (some ⟨g, 0, none⟩) j cap)) wr) := ⟨g, cap, j, ys, rfl, hy1, ⟨hy1, hy2⟩, hown, hs, ho⟩
      have h0 : ¬ (0 : Int) < (j : Int) - j := by omega
      clear hown hs ho hy1 hy2 HS
      go_wp2
      go_ret
      exact HD.out
theorem ints_put (L : List Int) (k : Nat) (u : Int) : (ints L).set k (.int .i64 u) = ints (L.set k u) := by unfold ints intsK; rw [List.map_set]
theorem nums_put {L : List Int} {k : Nat} {v : Int} (h : allNum L = true) (h0 : 0 ≤ v) (h1 : v < 10007) : allNum (L.set k v) = true := by
  rw [allNum_iff] at *
  intro x hx
  rcases List.mem_or_eq_of_mem_set hx with h2 | rfl
  · exact h x h2
  · exact ⟨h0, h1⟩
theorem Src.put {w : World} {T : TypeId} {G B g k : Nat} {xs : List Int} {v : Value} (s : Src w T G B xs) (hg : g ≠ G) (hB : B ≤ g) : Src (w.setCell ⟨g, k, none⟩ v) T G B xs :=
  s.only (g := g) ⟨rfl, rfl, rfl, by simp [World.setCell], fun i hi hne => Below.heap_setCell w ⟨g, k, none⟩ v i (fun e => hne (by rw [e]))⟩ hg hB
theorem only_put {w a : World} {G g k : Nat} {v : Value} (h : w.grownBy a (some G)) (hg : w.heap.size ≤ g) : w.grownBy (a.setCell ⟨g, k, none⟩ v) (some G) :=
  only_row (g := g) h ⟨rfl, rfl, rfl, by simp [World.setCell], fun i hi hne => Below.heap_setCell a ⟨g, k, none⟩ v i (fun e => hne (by rw [e]))⟩ hg
theorem Src.base {w : World} {T : TypeId} {G B : Nat} {xs : List Int} (s : Src w T G B xs) : B ≤ G := by
  obtain ⟨_, _, _, _, _, _, h3, _⟩ := s; exact h3
/-- one list, two lists, drawn out of a code -/
def DrawnS (w : World) (e : Ending) (w' : World) : Prop :=
  ∃ A c n, ∃ ys : List Int, e = .returned (.slice A n c) ∧ ys.length = n ∧ n ≤ 64 ∧ Row w' w'.heap.size A (ints ys) ∧ Below w.heap.size w w'
def DrawnSS (w : World) (e : Ending) (w' : World) : Prop :=
  ∃ A c n, ∃ ys : List Int, ∃ A' c' n', ∃ zs : List Int, e = .returned (.tuple #[.slice A n c, .slice A' n' c']) ∧ ys.length = n ∧ n ≤ 64 ∧ Row w' w'.heap.size A (ints ys) ∧ zs.length = n' ∧ n' ≤ 64 ∧ Row w' w'.heap.size A' (ints zs) ∧ Below w.heap.size w w' ∧ n ≤ c
end Go.Proofs.Ytdgdanpkekcckaa
