/-
  Draws of lists of numbers: the model's lists and series, the laws' lists.
-/
import Derived.Test.YtjdanhjonjmccabDraws
import Derived.Test.YtjdanhjonjmccabGrow
import Derived.Test.YtjdanhjonjmccabNest
import Derived.Deep.DeepCutAuto
import Derived.Deep.CutBlock
namespace Go.Proofs.Ytjdanhjonjmccab
open Go.RowKit Fld
set_option linter.unusedVariables false
set_option linter.unusedSimpArgs false
set_option maxRecDepth 100000

/-- a row of the call's own has turned, and the source -/
theorem only_row {w a b : World} {G g : Nat} (h : w.grownBy a (some G)) (k : a.grownBy b (some g)) (hg : w.heap.size ≤ g) : w.grownBy b (some G) :=
  ⟨k.os.trans h.os, k.tape.trans h.tape, k.output.trans h.output, Nat.le_trans h.size k.size, fun i hi hne => (k.block i (Nat.lt_of_lt_of_le hi h.size) (fun e => by have := Option.some.inj e; omega)).trans (h.block i hi hne)⟩
theorem Src.only {w w' : World} {T : TypeId} {G B g : Nat} {xs : List Int} (s : Src w T G B xs) (k : w.grownBy w' (some g)) (hg : g ≠ G) (hB : B ≤ g) : Src w' T G B xs := by
  obtain ⟨A, c, i, h, h1, h2, h3, h4, h5⟩ := s
  exact ⟨A, c, i, h, (k.block G h1.lt (fun e => hg (Option.some.inj e).symm)).trans h1, h2, h3, h4.only k hB, h5⟩
/-- a list that was drawn: its own memory, and only the source has turned -/
def DrawnL (P : List Int → Prop) (T : TypeId) (G B : Nat) (xs : List Int) (w : World) (e : Ending) (w' : World) : Prop :=
  ∃ g c n, ∃ ys : List Int, e = .returned (.slice (some ⟨g, 0, none⟩) n c) ∧ ys.length = n ∧ P ys ∧ w'.ownsRow w.heap.size 2 1 (.slice (some ⟨g, 0, none⟩) n c) n (ints ys) ∧ Src w' T G B xs ∧ w.grownBy w' (some G)
theorem own_past {w w1 : World} {base G g n c : Nat} {vs : List Value} (h : w.ownsRow base 2 1 (.slice (some ⟨g, 0, none⟩) n c) n vs) (hG : G < base) (o : w.grownBy w1 (some G)) : w1.ownsRow base 2 1 (.slice (some ⟨g, 0, none⟩) n c) n vs :=
  h.kept o (.inr (fun e => by have h1 := (h.lt g rfl).1; have h2 : g = G := (by simpa [Value.ownBlock] using e); omega))
theorem nums_snoc {ys : List Int} {r : Int} (h : allNum ys = true) (hr : IsN r) : allNum (ys ++ [r]) = true := by
  rw [allNum_iff] at *
  intro x hx
  rcases List.mem_append.1 hx with h1 | h1
  · exact h x h1
  · obtain rfl : x = r := by simpa using h1
    exact hr
theorem ints_snoc (ys : List Int) (r : Int) : ints ys ++ [.int .i64 r] = ints (ys ++ [r]) := by simp [ints, intsK]
set_option maxHeartbeats 1000000 in
theorem l01List_any (G B : Nat) (xs : List Int) (n : Nat) (w : World) (hn : n ≤ 64) (s : Src w 97 G B xs) :
    Calls Try.prog 106 #[.pointer (some ⟨G, 0, none⟩), .int .i64 n] w (DrawnL (fun ys => ys.length = n ∧ allNum ys = true) 97 G B xs w) := by
  obtain ⟨i0, hi, hz0, hz1, hz2⟩ := info_parts info_i64
  have HG := s.lt
  have HS := Lib.hid s
  clear s
  go_enter Try.func106, Try.ntmps106
  go_wp2_with fail
  go_loopw [1, 5] (fun q v wr => ∃ j g cap : Nat, ∃ ys : List Int, j ≤ n ∧ q = .int .i64 ((n : Int) - j) ∧ v = .slice (some ⟨g, 0, none⟩) j cap ∧ ys.length = j ∧ allNum ys = true ∧ wr.ownsRow w.heap.size 2 1 (.slice (some ⟨g, 0, none⟩) j cap) j (ints ys) ∧ Src wr 97 G B xs ∧ w.grownBy wr (some G)) (fun q _ _ => (intOf q).toNat)
  case atStart => exact ⟨0, _, 0, [], by omega, by simp, rfl, rfl, rfl, (Growing.start w 2).1, HS.out.alloc _, World.grownBy_alloc w _ _⟩
  case round =>
    obtain ⟨j, g, cap, ys, hj, rfl, rfl, hy1, hy2, hown, hs, ho⟩ := hrel
    by_cases hlt : j < n
    · have h0 : (0 : Int) < (n : Int) - j := by omega
      have hg := (hown.lt g rfl).1
      have HY1 := Lib.hid hy1
      have HY2 := Lib.hid hy2
      have HO := Lib.hid hown
      have HGR := Lib.hid ho
      have hsz := ho.size
      clear hown hy1 hy2 HS ho
      go_wp2_with fail
      refine (l01Number_any G B xs _ hs).mono ?_
      rintro e w1 ⟨r, rfl, hr, s1, o1⟩
      have own1 := own_past HO.out HG o1
      have hsz1 := o1.size
      have HR := Lib.hid hr
      have O1 := Lib.hid o1
      clear hr hs o1
      go_wp2_with (at_builtin; refine wpList_append_lies _ rfl (.tmp 11) (.tmp 14) 24 rfl w.heap.size 2 i0 _ 1 8 Try.underlying24 hi hz0 hz1 hz2 rfl (by omega) (.slice (some ⟨g, 0, none⟩) j cap) j (ints ys) rfl (own1.alloc _) ⟨w1.heap.size, 0, none⟩ 1 1 [.int .i64 r] rfl rfl (World.news_of_block (cs := #[.int .i64 r]) (heap_alloc_new _ _)) (by simp [Value.oneCell']) (by omega) (by simp only [maxLen]; omega) (by omega) (by simp; omega) (w1.heap.size + 1) (by simp) ?_; intro g2 cap2 w2 hown2 hgrow2 hat2 hlt2)
      rw [ints_snoc] at hown2
      have s2 := (s1.alloc (.cells #[.int .i64 r] 2)).only (g := g) hgrow2 (by omega) (by obtain ⟨_, _, _, _, _, _, h3, _⟩ := s1; omega)
      have G2 := Lib.hid (only_row (only_alloc (only_trans HGR.out O1.out) _) hgrow2 hg)
      have S2 := Lib.hid s2
      have OW2 := Lib.hid hown2
      clear hown2 hgrow2 hat2 s1 s2 own1
      go_wp2
      go_roundw
      case rel => exact ⟨j + 1, _, _, ys ++ [r], by omega, by go_num, rfl, by simp [HY1.out], nums_snoc HY2.out HR.out, OW2.out, S2.out, G2.out⟩
      case measure => simp [intOf]; omega
    · obtain rfl : j = n := by omega
      have HD : Hid (DrawnL (fun ys => ys.length = j ∧ allNum ys = true) 97 G B xs w (.returned (.slice (some ⟨g, 0, none⟩) j cap)) wr) := ⟨g, cap, j, ys, rfl, hy1, ⟨hy1, hy2⟩, hown, hs, ho⟩
      have h0 : ¬ (0 : Int) < (j : Int) - j := by omega
      clear hown hs ho hy1 hy2 HS
      go_wp2
      go_ret
      exact HD.out
set_option maxHeartbeats 1000000 in
theorem list5_any (G B : Nat) (xs : List Int) (n : Nat) (w : World) (hn : n ≤ 64) (s : Src w 75 G B xs) :
    Calls Try.prog 25 #[.pointer (some ⟨G, 0, none⟩), .int .i64 n] w (DrawnL (fun ys => ys.length = n ∧ allNum ys = true) 75 G B xs w) := by
  obtain ⟨i0, hi, hz0, hz1, hz2⟩ := info_parts info_i64
  have HG := s.lt
  have HS := Lib.hid s
  clear s
  go_enter Try.func25, Try.ntmps25
  go_wp2_with fail
  go_loopw [1, 5] (fun q v wr => ∃ j g cap : Nat, ∃ ys : List Int, j ≤ n ∧ q = .int .i64 ((n : Int) - j) ∧ v = .slice (some ⟨g, 0, none⟩) j cap ∧ ys.length = j ∧ allNum ys = true ∧ wr.ownsRow w.heap.size 2 1 (.slice (some ⟨g, 0, none⟩) j cap) j (ints ys) ∧ Src wr 75 G B xs ∧ w.grownBy wr (some G)) (fun q _ _ => (intOf q).toNat)
  case atStart => exact ⟨0, _, 0, [], by omega, by simp, rfl, rfl, rfl, (Growing.start w 2).1, HS.out.alloc _, World.grownBy_alloc w _ _⟩
  case round =>
    obtain ⟨j, g, cap, ys, hj, rfl, rfl, hy1, hy2, hown, hs, ho⟩ := hrel
    by_cases hlt : j < n
    · have h0 : (0 : Int) < (n : Int) - j := by omega
      have hg := (hown.lt g rfl).1
      have HY1 := Lib.hid hy1
      have HY2 := Lib.hid hy2
      have HO := Lib.hid hown
      have HGR := Lib.hid ho
      have hsz := ho.size
      clear hown hy1 hy2 HS ho
      go_wp2_with fail
      refine (number5_any G B xs _ hs).mono ?_
      rintro e w1 ⟨r, rfl, hr, s1, o1⟩
      have own1 := own_past HO.out HG o1
      have hsz1 := o1.size
      have HR := Lib.hid hr
      have O1 := Lib.hid o1
      clear hr hs o1
      go_wp2_with (at_builtin; refine wpList_append_lies _ rfl (.tmp 11) (.tmp 14) 24 rfl w.heap.size 2 i0 _ 1 8 Try.underlying24 hi hz0 hz1 hz2 rfl (by omega) (.slice (some ⟨g, 0, none⟩) j cap) j (ints ys) rfl (own1.alloc _) ⟨w1.heap.size, 0, none⟩ 1 1 [.int .i64 r] rfl rfl (World.news_of_block (cs := #[.int .i64 r]) (heap_alloc_new _ _)) (by simp [Value.oneCell']) (by omega) (by simp only [maxLen]; omega) (by omega) (by simp; omega) (w1.heap.size + 1) (by simp) ?_; intro g2 cap2 w2 hown2 hgrow2 hat2 hlt2)
      rw [ints_snoc] at hown2
      have s2 := (s1.alloc (.cells #[.int .i64 r] 2)).only (g := g) hgrow2 (by omega) (by obtain ⟨_, _, _, _, _, _, h3, _⟩ := s1; omega)
      have G2 := Lib.hid (only_row (only_alloc (only_trans HGR.out O1.out) _) hgrow2 hg)
      have S2 := Lib.hid s2
      have OW2 := Lib.hid hown2
      clear hown2 hgrow2 hat2 s1 s2 own1
      go_wp2
      go_roundw
      case rel => exact ⟨j + 1, _, _, ys ++ [r], by omega, by go_num, rfl, by simp [HY1.out], nums_snoc HY2.out HR.out, OW2.out, S2.out, G2.out⟩
      case measure => simp [intOf]; omega
    · obtain rfl : j = n := by omega
      have HD : Hid (DrawnL (fun ys => ys.length = j ∧ allNum ys = true) 75 G B xs w (.returned (.slice (some ⟨g, 0, none⟩) j cap)) wr) := ⟨g, cap, j, ys, rfl, hy1, ⟨hy1, hy2⟩, hown, hs, ho⟩
      have h0 : ¬ (0 : Int) < (j : Int) - j := by omega
      clear hown hs ho hy1 hy2 HS
      go_wp2
      go_ret
      exact HD.out
theorem ints_put (L : List Int) (k : Nat) (u : Int) : (ints L).set k (.int .i64 u) = ints (L.set k u) := by unfold ints intsK; rw [List.map_set]
theorem nums_put {L : List Int} {k : Nat} {v : Int} (h : allNum L = true) (h0 : 0 ≤ v) (h1 : v < 10007) : allNum (L.set k v) = true := by
  rw [allNum_iff] at *
  intro x hx
  rcases List.mem_or_eq_of_mem_set hx with h2 | rfl
  · exact h x h2
  · exact ⟨h0, h1⟩
theorem Src.put {w : World} {T : TypeId} {G B g k : Nat} {xs : List Int} {v : Value} (s : Src w T G B xs) (hg : g ≠ G) (hB : B ≤ g) : Src (w.setCell ⟨g, k, none⟩ v) T G B xs :=
  s.only (g := g) ⟨rfl, rfl, rfl, by simp [World.setCell], fun i hi hne => Below.heap_setCell w ⟨g, k, none⟩ v i (fun e => hne (by rw [e]))⟩ hg hB
theorem only_put {w a : World} {G g k : Nat} {v : Value} (h : w.grownBy a (some G)) (hg : w.heap.size ≤ g) : w.grownBy (a.setCell ⟨g, k, none⟩ v) (some G) :=
  only_row (g := g) h ⟨rfl, rfl, rfl, by simp [World.setCell], fun i hi hne => Below.heap_setCell a ⟨g, k, none⟩ v i (fun e => hne (by rw [e]))⟩ hg
theorem Src.base {w : World} {T : TypeId} {G B : Nat} {xs : List Int} (s : Src w T G B xs) : B ≤ G := by
  obtain ⟨_, _, _, _, _, _, h3, _⟩ := s; exact h3
set_option maxHeartbeats 1000000 in
theorem l02Draw_any (G B : Nat) (xs : List Int) (n : Nat) (w : World) (hn : n ≤ 64) (s : Src w 97 G B xs) :
    Calls Try.prog 109 #[.pointer (some ⟨G, 0, none⟩), .int .i64 n] w (DrawnL (fun ys => ys.length = n ∧ allNum ys = true) 97 G B xs w) := by
  have HG := s.lt
  have HBG := s.base
  go_enter Try.func109, Try.ntmps109
  go_wp2_with fail
  refine (l01List_any G B xs n _ hn s).mono ?_
  rintro e w1 ⟨g, c, n', ys, rfl, hy, ⟨hy1, hy2⟩, own1, s1, o1⟩
  obtain rfl : n' = n := by omega
  have hg := (own1.lt g rfl).1
  have O1 := Lib.hid own1
  have G1 := Lib.hid o1
  have Y1 := Lib.hid hy1
  have Y2 := Lib.hid hy2
  clear own1 o1 hy hy1 hy2 s
  go_wp2_with fail
  refine (l01Next_any G B xs _ _ (by omega) s1).mono ?_
  rintro e w2 ⟨r, rfl, r0, r1, s2, o2⟩
  have O2 := Lib.hid (own_past O1.out HG o2)
  have G2 := Lib.hid (only_trans G1.out o2)
  clear o2 O1 G1 s1
  by_cases hr : r = 0
  · have t := beq_t hr
    clear hr
    go_wp2_with fail
    go_loopw [6] (fun i wr => ∃ j : Nat, ∃ ys : List Int, 1 ≤ j ∧ i = .int .i64 j ∧ ys.length = n' ∧ allNum ys = true ∧ wr.ownsRow w.heap.size 2 1 (.slice (some ⟨g, 0, none⟩) n' c) n' (ints ys) ∧ Src wr 97 G B xs ∧ w.grownBy wr (some G)) (fun i _ => n' - (intOf i).toNat)
    case atStart => exact ⟨1, ys, by omega, rfl, Y1.out, Y2.out, O2.out, s2, G2.out⟩
    case round =>
      obtain ⟨j, ys', hj, rfl, hy1, hy2, hown, hs, ho⟩ := hrel
      have HO := Lib.hid hown
      have HGR := Lib.hid ho
      have HY1 := Lib.hid hy1
      have HY2 := Lib.hid hy2
      by_cases hlt : j < n'
      · have hsz := ho.size
        clear hown ho hy1 hy2 s2
        go_wp2_with fail
        refine (l01Next_any G B xs _ _ (by omega) hs).mono ?_
        rintro e w3 ⟨r', rfl, r0', r1', s3, o3⟩
        have O3 := Lib.hid (own_past HO.out HG o3)
        have G3 := Lib.hid (only_trans HGR.out o3)
        clear o3 HO HGR
        by_cases hr' : r' = 0
        · have t' := beq_t hr'
          have hf := O3.out.frozenAt j
          obtain ⟨x, hx⟩ := at_lt (show j < ys'.length by rw [HY1.out]; exact hlt)
          have ho := O3.out.cellAt j (by omega)
          rw [ints_at hx] at ho
          have O4 := Lib.hid (O3.out.stored j (.int .i64 0)).1
          have S4 := Lib.hid (s3.put (g := g) (k := j) (v := .int .i64 0) (by omega) (by omega))
          have G4 := Lib.hid (only_put (g := g) (k := j) (v := .int .i64 0) G3.out hg)
          clear hr' hx s3
          go_wp2
          go_roundw
          case rel => exact ⟨j + 1, ys'.set j 0, by omega, by go_num, by rw [List.length_set]; exact HY1.out, nums_put HY2.out (by omega) (by omega), by have := O4.out; rw [ints_put] at this; exact this, S4.out, G4.out⟩
          case measure => simp [intOf]; omega
        · have t' := beq_f hr'
          clear hr'
          go_wp2
          go_roundw
          case rel => exact ⟨j + 1, ys', by omega, by go_num, HY1.out, HY2.out, O3.out, s3, G3.out⟩
          case measure => simp [intOf]; omega
      · clear hown ho hy1 hy2
        go_wp2
        go_ret
        exact ⟨g, c, n', ys', rfl, HY1.out, ⟨HY1.out, HY2.out⟩, HO.out, hs, HGR.out⟩
  · have t := beq_f hr
    clear hr
    go_wp2
    go_ret
    exact ⟨g, c, n', ys, rfl, Y1.out, ⟨Y1.out, Y2.out⟩, O2.out, s2, G2.out⟩
theorem mem_lens {r : Int} (h : r ∈ ([16, 15, 1] : List Int)) : 1 ≤ r ∧ r ≤ 16 := by simp at h; omega
set_option maxHeartbeats 2000000 in
theorem l02Begin_any (G B : Nat) (xs : List Int) (q : Int) (w : World) (s : Src w 97 G B xs) :
    Calls Try.prog 72 #[.pointer (some ⟨G, 0, none⟩), .int .i64 q] w (DrawnL (fun ys => ys.length ≤ 17) 97 G B xs w) := by
  obtain ⟨i0, hi, hz0, hz1, hz2⟩ := info_parts info_i64
  have HG := s.lt
  have HBG := s.base
  go_enter Try.func72, Try.ntmps72
  go_wp2_with fail
  refine (l01Next_any G B xs _ _ (by omega) s).mono ?_
  rintro e w1 ⟨r, rfl, r0, r1, s1, o1⟩
  go_wp2_with fail
  refine (l01Next_any G B xs _ _ (by omega) s1).mono ?_
  rintro e w2 ⟨r', rfl, r0', r1', s2, o2⟩
  have hsz2 := s2.lt
  have O12 := Lib.hid (only_trans o1 o2)
  have S2 := Lib.hid s2
  clear o1 o2 s1 s s2
  go_upto_if 12 with fail
  go_cut [5] (fun v wx => ∃ N : Nat, 1 ≤ N ∧ N ≤ 16 ∧ v = .int .i64 N ∧ Src wx 97 G B xs ∧ w.grownBy wx (some G))
  case first =>
    by_cases h : r' = 0
    · have t := beq_t h
      clear h
      go_wp2_with fail
      refine (l01Pick_any G B xs _ 3 _ _ [16, 15, 1] _ (S2.out.alloc _) (Row.new w2 _ (ints [16, 15, 1])) (fun b o e => by injection e with e; injection e with e1; omega) rfl (by omega) (by omega)).mono ?_
      rintro e w3 ⟨v, rfl, hv, s3, o3⟩
      obtain ⟨v0, v1⟩ := mem_lens hv
      have O3 := Lib.hid (only_trans (only_alloc O12.out _) o3)
      have S3 := Lib.hid s3
      clear hv s3 o3
      go_wp2_with fail
      go_meet
      exact ⟨v.toNat, by omega, by omega, by rw [Int.toNat_of_nonneg (by omega)], S3.out, O3.out⟩
    · have t := beq_f h
      clear h
      go_wp2_with fail
      go_meet
      exact ⟨(1 + r).toNat, by omega, by omega, by rw [Int.toNat_of_nonneg (by omega)], S2.out, O12.out⟩
  case rest =>
    obtain ⟨N, N1, N2, rfl, s3, o3⟩ := hcut
    have O3 := Lib.hid o3
    clear o3 O12 S2
    go_wp2_with fail
    refine (l02Draw_any G B xs N _ (by omega) s3).mono ?_
    rintro e w4 ⟨g, c, n', ys, rfl, hy, ⟨hy1, hy2⟩, own4, s4, o4⟩
    obtain rfl : n' = N := by omega
    have hg := (own4.lt g rfl).1
    have hw := O3.out.size
    have O4 := Lib.hid (only_trans O3.out o4)
    have W4 := Lib.hid ((OwnR.of own4).more hw (Nat.le_refl _)).1
    have Y1 := Lib.hid hy1
    clear o4 own4 s3 hy hy1 hy2
    go_wp2_with fail
    refine (l01Next_any G B xs _ _ (by omega) s4).mono ?_
    rintro e w5 ⟨r5, rfl, r50, r51, s5, o5⟩
    have O5 := Lib.hid (only_trans O4.out o5)
    have W5 := Lib.hid (own_past W4.out HG o5)
    have S5 := Lib.hid s5
    clear o5 s4 O4 W4 O3 s5
    go_upto_if 21 with fail
    go_cut [5] (fun v wx => v = .int .i64 n' ∧ ∃ ys : List Int, ys.length = n' ∧ wx.ownsRow w.heap.size 2 1 (.slice (some ⟨g, 0, none⟩) n' c) n' (ints ys) ∧ Src wx 97 G B xs ∧ w.grownBy wx (some G))
    case first =>
      by_cases h : 0 < r5
      · have hf := W5.out.frozenAt 0
        obtain ⟨x, hx⟩ := at_lt (show 0 < ys.length by rw [Y1.out]; omega)
        have ho := W5.out.cellAt 0 (by omega)
        rw [ints_at hx] at ho
        have W6 := Lib.hid (W5.out.stored 0 (.int .i64 q)).1
        have S6 := Lib.hid (S5.out.put (g := g) (k := 0) (v := .int .i64 q) (by omega) (by omega))
        have O6 := Lib.hid (only_put (g := g) (k := 0) (v := .int .i64 q) O5.out (by omega))
        have hn0 : (0 : Int) < (n' : Int) := by omega
        clear hx
        go_wp2_with fail
        go_meet
        exact ⟨rfl, ys.set 0 q, by rw [List.length_set]; exact Y1.out, by have := W6.out; rw [ints_put] at this; exact this, S6.out, O6.out⟩
      · go_wp2_with fail
        go_meet
        exact ⟨rfl, ys, Y1.out, W5.out, S5.out, O5.out⟩
    case rest =>
      obtain ⟨rfl, ys7, hy7, own7, s7, o7⟩ := hcut
      have O7 := Lib.hid o7
      have W7 := Lib.hid own7
      have Y7 := Lib.hid hy7
      clear O5 W5 S5 o7 own7 hy7 Y1
      go_wp2_with fail
      refine (l01Next_any G B xs _ _ (by omega) s7).mono ?_
      rintro e w8 ⟨r8, rfl, r80, r81, s8, o8⟩
      have O8 := Lib.hid (only_trans O7.out o8)
      have W8 := Lib.hid (own_past W7.out HG o8)
      have S8 := Lib.hid s8
      clear o8 s7 O7 W7 s8
      by_cases h0 : r8 = 0
      · have t0 := beq_t h0
        have HE : Hid (DrawnL (fun ys => ys.length ≤ 17) 97 G B xs w (.returned (.slice (some ⟨w8.heap.size, 0, none⟩) 0 0)) (w8.alloc (.cells #[] 2))) :=
          ⟨w8.heap.size, 0, 0, [], rfl, rfl, by simp, World.ownsRow_lit w8 #[] 0 O8.out.size (Nat.zero_le _) rfl, S8.out.alloc _, only_alloc O8.out _⟩
        clear h0
        go_wp2
        go_ret
        exact HE.out
      · have t0 := beq_f h0
        by_cases h1 : r8 = 1
        · have t1 := beq_t h1
          clear h0 h1
          go_wp2_with fail
          refine (l01Next_any G B xs _ _ (by omega) S8.out).mono ?_
          rintro e w9 ⟨r9, rfl, r90, r91, s9, o9⟩
          have O9 := Lib.hid (only_trans O8.out o9)
          have W9 := Lib.hid (own_past W8.out HG o9)
          have hs9 := s9.lt
          have S9 := Lib.hid s9
          clear o9 O8 W8 S8 s9
          go_wp2_with fail
          refine (l01Pick_any G B xs _ 2 _ _ [-1, 10007] _ (S9.out.alloc _) (Row.new w9 _ (ints [-1, 10007])) (fun b o e => by injection e with e; injection e with e1; omega) rfl (by omega) (by omega)).mono ?_
          rintro e wa ⟨v, rfl, hv, sa, oa⟩
          have Oa := Lib.hid (only_trans (only_alloc O9.out _) oa)
          have Wa := Lib.hid (own_past (W9.out.alloc _) HG oa)
          obtain ⟨j, rfl⟩ := Int.eq_ofNat_of_zero_le r90
          have hj : j < n' := by omega
          have hf := Wa.out.frozenAt j
          obtain ⟨x, hx⟩ := at_lt (show j < ys7.length by rw [Y7.out]; exact hj)
          have ho := Wa.out.cellAt j (by omega)
          rw [ints_at hx] at ho
          have Wb := Lib.hid (Wa.out.stored j (.int .i64 v)).1
          have Sb := Lib.hid (sa.put (g := g) (k := j) (v := .int .i64 v) (by omega) (by omega))
          have Ob := Lib.hid (only_put (g := g) (k := j) (v := .int .i64 v) Oa.out (by omega))
          clear hx hv oa sa
          go_wp2
          go_ret
          exact ⟨g, c, n', ys7.set j v, rfl, by rw [List.length_set]; exact Y7.out, by show (ys7.set j v).length ≤ 17; rw [List.length_set, Y7.out]; omega, by have := Wb.out; rw [ints_put] at this; exact this, Sb.out, Ob.out⟩
        · have t1 := beq_f h1
          by_cases h2 : r8 = 2
          · have t2 := beq_t h2
            clear h0 h1 h2
            go_wp2_with fail
            go_loopw [6] (fun v wr => ∃ j g cap : Nat, ∃ ys : List Int, j ≤ 17 ∧ v = .slice (some ⟨g, 0, none⟩) j cap ∧ ys.length = j ∧ wr.ownsRow w.heap.size 2 1 (.slice (some ⟨g, 0, none⟩) j cap) j (ints ys) ∧ Src wr 97 G B xs ∧ w.grownBy wr (some G)) (fun v _ => match v with | .slice _ n _ => 17 - n | _ => 0)
            case atStart => exact ⟨n', g, c, ys7, by omega, rfl, Y7.out, W8.out, S8.out, O8.out⟩
            case round =>
              obtain ⟨j, g', cap, ys', hj, rfl, hy', hown, hs, ho⟩ := hrel
              have hg' := (hown.lt g' rfl).1
              have HY := Lib.hid hy'
              have HO := Lib.hid hown
              have HGR := Lib.hid ho
              have HS := Lib.hid hs
              have hsz := ho.size
              clear S8 W8 O8 ho
              by_cases hlt : j ≤ 16
              · have hltI : (j : Int) ≤ 16 := by omega
                clear hy' hs
                go_wp2_with (at_builtin; refine wpList_append_lies _ rfl (.tmp 45) (.tmp 46) 24 rfl w.heap.size 2 i0 _ 1 8 Try.underlying24 hi hz0 hz1 hz2 rfl (by omega) (.slice (some ⟨g', 0, none⟩) j cap) j (ints ys') rfl (hown.alloc _) ⟨wr.heap.size, 0, none⟩ 1 1 [.int .i64 1] rfl rfl (World.news_of_block (cs := #[.int .i64 1]) (heap_alloc_new _ _)) (by simp [Value.oneCell']) (by omega) (by simp only [maxLen]; omega) (by omega) (by simp; omega) (wr.heap.size + 1) (by simp) ?_; intro g2 cap2 w2' hown2 hgrow2 hat2 hlt2)
                rw [ints_snoc] at hown2
                have s2' := (HS.out.alloc (.cells #[.int .i64 1] 2)).only (g := g') hgrow2 (by omega) (by omega)
                have G2 := Lib.hid (only_row (only_alloc HGR.out _) hgrow2 hg')
                have S2' := Lib.hid s2'
                have OW2 := Lib.hid hown2
                clear hown2 hgrow2 hat2 s2' hown
                go_wp2
                go_roundw
                case rel => exact ⟨j + 1, _, _, ys' ++ [1], by omega, rfl, by simp [HY.out], OW2.out, S2'.out, G2.out⟩
                case measure => simp; omega
              · have hltI : ¬ (j : Int) ≤ 16 := by omega
                have HE : Hid (DrawnL (fun ys => ys.length ≤ 17) 97 G B xs w (.returned (.slice (some ⟨g', 0, none⟩) j cap)) wr) := ⟨g', cap, j, ys', rfl, hy', by omega, hown, hs, HGR.out⟩
                clear hy' hs hown
                go_wp2
                go_ret
                exact HE.out
          · have t2 := beq_f h2
            clear h0 h1 h2
            go_wp2
            go_ret
            exact ⟨g, c, n', ys7, rfl, Y7.out, by show ys7.length ≤ 17; rw [Y7.out]; omega, W8.out, S8.out, O8.out⟩
/-- one list, two lists, drawn out of a code -/
def DrawnS (w : World) (e : Ending) (w' : World) : Prop :=
  ∃ A c n, ∃ ys : List Int, e = .returned (.slice A n c) ∧ ys.length = n ∧ n ≤ 64 ∧ Row w' w'.heap.size A (ints ys) ∧ Below w.heap.size w w'
def DrawnSS (w : World) (e : Ending) (w' : World) : Prop :=
  ∃ A c n, ∃ ys : List Int, ∃ A' c' n', ∃ zs : List Int, e = .returned (.tuple #[.slice A n c, .slice A' n' c']) ∧ ys.length = n ∧ n ≤ 64 ∧ Row w' w'.heap.size A (ints ys) ∧ zs.length = n' ∧ n' ≤ 64 ∧ Row w' w'.heap.size A' (ints zs) ∧ Below w.heap.size w w' ∧ n ≤ c
theorem own_room {w : World} {base n c : Nat} {A : Option Addr} {vs : List Value} (h : w.ownsRow base 2 1 (.slice A n c) n vs) : n ≤ c := by
  rcases h.2 with ⟨e1, e2⟩ | ⟨g, cap, cur, e1, _, _, e2, _⟩
  · omega
  · injection e1 with e3 e4 e5; omega
theorem row_only {w w' : World} {base G g n c : Nat} {vs : List Value} (h : w.ownsRow base 2 1 (.slice (some ⟨g, 0, none⟩) n c) n vs) (hG : G < base) (o : w.grownBy w' (some G)) : Row w' w'.heap.size (some ⟨g, 0, none⟩) vs := row_of_own (own_past h hG o)
set_option maxHeartbeats 1000000 in
theorem l02Pair_any (A : Option Addr) (n c : Nat) (xs : List Int) (q : Int) (w : World) (hn : n ≤ 4096) (h : IsCode w A n xs) : Calls Try.prog 59 #[.slice A n c, .int .i64 q] w (DrawnSS w) := by
  have HX := Lib.hid h
  clear h
  go_enter Try.func59, Try.ntmps59
  go_wp2_with fail
  refine (l01From_any A n c w.heap.size xs _ HX.out.1 hn (Nat.le_refl _) HX.out.2.1 HX.out.2.2).mono ?_
  rintro e w1 ⟨G, rfl, hG, s1, b1⟩
  have hs1 := s1.lt
  have B1 := Lib.hid b1
  clear b1
  go_wp2_with fail
  refine (l02Begin_any G w.heap.size xs q _ s1).mono ?_
  rintro e w2 ⟨g, c2, n2, ys, rfl, hy, hy17, own2, s2, o2⟩
  have O2 := Lib.hid o2
  have W2 := Lib.hid own2
  have Y2 := Lib.hid hy
  have hn2 : n2 ≤ 17 := by omega
  clear o2 own2 s1 hy hy17
  go_wp2_with fail
  refine (l01Next_any G w.heap.size xs _ _ (by omega) s2).mono ?_
  rintro e w3 ⟨r, rfl, r0, r1, s3, o3⟩
  have O3 := Lib.hid (only_trans O2.out o3)
  have W3 := Lib.hid (own_past W2.out hs1 o3)
  clear o3 s2 O2 W2
  by_cases hr : r = 0
  · have t := beq_t hr
    clear hr
    have e1 : ((n2 + 1 : Nat) : Int) = (n2 : Int) + 1 := by omega
    have HE := Lib.hid e1
    clear e1
    go_wp2_with fail
    rw [← HE.out]
    refine (l02Draw_any G w.heap.size xs (n2 + 1) _ (by omega) s3).mono ?_
    rintro e w4 ⟨g4, c4, n4, zs, rfl, hz, ⟨hz1, _⟩, own4, s4, o4⟩
    have R2 := Lib.hid (row_only W3.out hs1 o4)
    have B4 := Lib.hid (below_only B1.out (only_trans O3.out o4) B1.out.size hG)
    have R4 := Lib.hid (row_of_own own4)
    have hz' : n4 ≤ 64 := by omega
    have Z4 := Lib.hid hz
    have C4 := Lib.hid (own_room own4)
    clear own4 s4 o4 s3 hz hz1
    go_wp2
    go_ret2
    exact ⟨_, _, _, zs, _, _, _, ys, rfl, Z4.out, hz', R4.out, Y2.out, by omega, R2.out, B4.out, C4.out⟩
  · have t := beq_f hr
    clear hr
    go_wp2_with fail
    refine (l02Draw_any G w.heap.size xs n2 _ (by omega) s3).mono ?_
    rintro e w4 ⟨g4, c4, n4, zs, rfl, hz, ⟨hz1, _⟩, own4, s4, o4⟩
    have R2 := Lib.hid (row_only W3.out hs1 o4)
    have B4 := Lib.hid (below_only B1.out (only_trans O3.out o4) B1.out.size hG)
    have R4 := Lib.hid (row_of_own own4)
    have hz' : n4 ≤ 64 := by omega
    have Z4 := Lib.hid hz
    have C4 := Lib.hid (own_room own4)
    clear own4 s4 o4 s3 hz hz1
    go_wp2
    go_ret2
    exact ⟨_, _, _, zs, _, _, _, ys, rfl, Z4.out, hz', R4.out, Y2.out, by omega, R2.out, B4.out, C4.out⟩
theorem DrawnSS.after {w W w' : World} {e : Ending} (hb : Below w.heap.size w W) (h : DrawnSS W e w') : DrawnSS w e w' := by
  obtain ⟨A, c, n, ys, A', c', n', zs, h1, h2, h3, h4, h5, h6, h7, h8, h9⟩ := h
  exact ⟨A, c, n, ys, A', c', n', zs, h1, h2, h3, h4, h5, h6, h7, hb.trans (h8.mono hb.size), h9⟩
set_option maxHeartbeats 1000000 in
theorem drawDivideSeries_any (A : Option Addr) (n c : Nat) (xs : List Int) (w : World) (hn : n ≤ 4096) (h : IsCode w A n xs) : Calls Try.prog 13 #[.slice A n c] w (DrawnSS w) := by
  have HX := Lib.hid h
  clear h
  go_enter Try.func13, Try.ntmps13
  go_wp2_with fail
  refine (l01From_any A n c w.heap.size xs _ HX.out.1 hn (Nat.le_refl _) HX.out.2.1 HX.out.2.2).mono ?_
  rintro e w1 ⟨G, rfl, hG, s1, b1⟩
  have B1 := Lib.hid b1
  clear b1
  go_wp2_with fail
  refine (l01Number_any G w.heap.size xs _ s1).mono ?_
  rintro e w2 ⟨q, rfl, hq, s2, o2⟩
  have B2 := Lib.hid (below_only B1.out o2 B1.out.size hG)
  have X2 := Lib.hid (HX.out.below B2.out)
  clear o2 s1 s2 hq
  go_wp2_with fail
  refine (l02Pair_any A n c xs q _ hn X2.out).mono ?_
  rintro e w3 hD
  have D := Lib.hid (DrawnSS.after B2.out hD)
  obtain ⟨A5, c5, n5, ys, A6, c6, n6, zs, rfl, _⟩ := hD
  go_wp2
  go_ret2
  exact D.out
set_option maxHeartbeats 1000000 in
theorem drawComposeSeries_any (A : Option Addr) (n c : Nat) (xs : List Int) (w : World) (hn : n ≤ 4096) (h : IsCode w A n xs) : Calls Try.prog 34 #[.slice A n c] w (DrawnSS w) := by
  have HX := Lib.hid h
  clear h
  go_enter Try.func34, Try.ntmps34
  go_wp2_with fail
  refine (l02Pair_any A n c xs 0 _ hn HX.out).mono ?_
  rintro e w3 hD
  have D := Lib.hid hD
  obtain ⟨A5, c5, n5, ys, A6, c6, n6, zs, rfl, _⟩ := hD
  go_wp2
  go_ret2
  exact D.out
set_option maxHeartbeats 1000000 in
theorem drawExpSeries_any (A : Option Addr) (n c : Nat) (xs : List Int) (w : World) (hn : n ≤ 4096) (h : IsCode w A n xs) : Calls Try.prog 21 #[.slice A n c] w (DrawnS w) := by
  have HX := Lib.hid h
  clear h
  go_enter Try.func21, Try.ntmps21
  go_wp2_with fail
  refine (l01From_any A n c w.heap.size xs _ HX.out.1 hn (Nat.le_refl _) HX.out.2.1 HX.out.2.2).mono ?_
  rintro e w1 ⟨G, rfl, hG, s1, b1⟩
  have B1 := Lib.hid b1
  clear b1
  go_wp2_with fail
  refine (l02Begin_any G w.heap.size xs 0 _ s1).mono ?_
  rintro e w2 ⟨g, c2, n2, ys, rfl, hy, hy17, own2, s2, o2⟩
  have B2 := Lib.hid (below_only B1.out o2 B1.out.size hG)
  have R2 := Lib.hid (row_of_own own2)
  have Y2 := Lib.hid hy
  have hn2 : n2 ≤ 64 := by omega
  clear o2 own2 s1 hy hy17 s2
  go_wp2
  go_ret
  exact ⟨_, _, _, ys, rfl, Y2.out, hn2, R2.out, B2.out⟩
set_option maxHeartbeats 1000000 in
theorem drawReverseSeries_any (A : Option Addr) (n c : Nat) (xs : List Int) (w : World) (hn : n ≤ 4096) (h : IsCode w A n xs) : Calls Try.prog 30 #[.slice A n c] w (DrawnS w) := by
  have HX := Lib.hid h
  clear h
  go_enter Try.func30, Try.ntmps30
  go_wp2_with fail
  refine (l01From_any A n c w.heap.size xs _ HX.out.1 hn (Nat.le_refl _) HX.out.2.1 HX.out.2.2).mono ?_
  rintro e w1 ⟨G, rfl, hG, s1, b1⟩
  have hs1 := s1.lt
  have B1 := Lib.hid b1
  clear b1
  go_wp2_with fail
  refine (l02Begin_any G w.heap.size xs 0 _ s1).mono ?_
  rintro e w2 ⟨g, c2, n2, ys, rfl, hy, hy17, own2, s2, o2⟩
  have O2 := Lib.hid o2
  have W2 := Lib.hid own2
  have Y2 := Lib.hid hy
  have hn2 : n2 ≤ 17 := by omega
  have hg2 := (own2.lt g rfl).1
  clear o2 own2 s1 hy hy17
  by_cases h1 : 1 < n2
  · have h1I : (1 : Int) < (n2 : Int) := by omega
    go_wp2_with fail
    refine (l01Next_any G w.heap.size xs _ _ (by omega) s2).mono ?_
    rintro e w3 ⟨r, rfl, r0, r1, s3, o3⟩
    have O3 := Lib.hid (only_trans O2.out o3)
    have W3 := Lib.hid (own_past W2.out hs1 o3)
    clear o3 s2 O2 W2
    by_cases hr : r = 0
    · have t := beq_t hr
      have hf := W3.out.frozenAt 1
      obtain ⟨x, hx⟩ := at_lt (show 1 < ys.length by rw [Y2.out]; exact h1)
      have ho := W3.out.cellAt 1 (by omega)
      rw [ints_at hx] at ho
      have W4 := Lib.hid (W3.out.stored 1 (.int .i64 0)).1
      have B4 := Lib.hid (below_only B1.out (only_put (g := g) (k := 1) (v := .int .i64 0) O3.out hg2) B1.out.size hG)
      clear hr hx s3
      go_wp2
      go_ret
      exact ⟨_, _, _, ys.set 1 0, rfl, by rw [List.length_set]; exact Y2.out, by omega, row_of_own (by have := W4.out; rw [ints_put] at this; exact this), B4.out⟩
    · have t := beq_f hr
      have B4 := Lib.hid (below_only B1.out O3.out B1.out.size hG)
      clear hr s3
      go_wp2
      go_ret
      exact ⟨_, _, _, ys, rfl, Y2.out, by omega, row_of_own W3.out, B4.out⟩
  · have h1I : ¬ (1 : Int) < (n2 : Int) := by omega
    have B4 := Lib.hid (below_only B1.out O2.out B1.out.size hG)
    clear s2
    go_wp2
    go_ret
    exact ⟨_, _, _, ys, rfl, Y2.out, by omega, row_of_own W2.out, B4.out⟩
end Go.Proofs.Ytjdanhjonjmccab
