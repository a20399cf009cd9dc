/-
  Draws of matrices: squares with rows that depend on each other, and what is no matrix.
-/
import Derived.Test.YtdgdanpkekcckaaDrawL
import Derived.Test.YtdgdanpkekcckaaPush
import Derived.Test.YtdgdanpkekcckaaGrR
import Derived.Test.YtdgdanpkekcckaaOwn1
import Derived.Deep.RegionHeld3
namespace Go.Proofs.Ytdgdanpkekcckaa
open Go.RowKit Fld
set_option linter.unusedVariables false
set_option linter.unusedSimpArgs false
set_option maxRecDepth 100000

theorem wide_pushR {m : List (List Int)} {q : Nat} {r : List Int} (h : Wide m q) (hr : r.length = q) : Wide (m ++ [r]) q := fun s hs => by
  rcases List.mem_append.1 hs with h1 | h1
  · exact h s h1
  · rw [List.mem_singleton] at h1; subst h1; exact hr
/-- a list of lists that was drawn: its own memory, and only the source has turned -/
def DrawnM (n q : Nat) (T : TypeId) (G B : Nat) (xs : List Int) (w : World) (e : Ending) (w' : World) : Prop :=
  ∃ g c vs m, e = .returned (.slice (some ⟨g, 0, none⟩) n c) ∧ Wide m q ∧ OwnMat w' w.heap.size w'.heap.size (.slice (some ⟨g, 0, none⟩) n c) n m vs ∧ Src w' T G B xs ∧ w.grownBy w' (some G)
theorem OwnMat.past {w w1 : World} {lo hi n G : Nat} {v : Value} {m : List (List Int)} {vs : List Value} (h : OwnMat w lo hi v n m vs) (hs : hi ≤ w.heap.size) (hG : G < lo) (o : w.grownBy w1 (some G)) : OwnMat w1 lo hi v n m vs :=
  h.keep fun g a b => o.block g (by omega) (fun e => by have := Option.some.inj e; omega)
theorem own_at {w : World} {lo hi n c k : Nat} {A : Option Addr} {m : List (List Int)} {vs : List Value} (h : OwnMat w lo hi (.slice A n c) n m vs) (hk : k < n) :
    ∃ b o r Ak ck, A = some ⟨b, o, none⟩ ∧ m[k]? = some r ∧ w.cell? ⟨b, o + k, none⟩ = some (.slice Ak r.length ck) ∧ Row w hi Ak (ints r) := by
  have hm : k < m.length := by rw [h.size]; exact hk
  obtain ⟨b, o, Ak, ck, e, _, h2, _, _, h3⟩ := h.mat k _ (List.getElem?_eq_getElem hm)
  exact ⟨b, o, _, Ak, ck, e, List.getElem?_eq_getElem hm, h2, h3⟩
theorem row_some {w : World} {hi : Nat} {A : Option Addr} {r : List Int} (h : Row w hi A (ints r)) (h1 : 1 ≤ r.length) : ∃ ad, A = some ad := by
  obtain ⟨x, hx⟩ := at_lt h1
  obtain ⟨b, o, e, _, _⟩ := h 0 _ (ints_at hx)
  exact ⟨_, e⟩
theorem cell_othR {w : World} {b g k : Nat} {o : Nat} {v x : Value} (h : w.cell? ⟨b, o, none⟩ = some x) (hne : b ≠ g) : (w.setCell ⟨g, k, none⟩ v).cell? ⟨b, o, none⟩ = some x :=
  (World.cell?_of_block (Below.heap_setCell _ _ _ _ (by show b ≠ g; exact hne))).trans h
theorem ints_snocR (ys : List Int) (r : Int) : ints ys ++ [.int .i64 r] = ints (ys ++ [r]) := by simp [ints, intsK]
theorem ints_putR (xs : List Int) (j : Nat) (v : Int) : (ints xs).set j (.int .i64 v) = ints (xs.set j v) := by unfold ints intsK; rw [List.map_set]
/-- a matrix that was drawn, or something near one -/
def DrawnMx (T : TypeId) (G B : Nat) (xs : List Int) (w : World) (e : Ending) (w' : World) : Prop :=
  ∃ A n c m, e = .returned (.slice A n c) ∧ m.length = n ∧ n ≤ 9 ∧ Mat w' w'.heap.size A m ∧ Src w' T G B xs ∧ w.grownBy w' (some G)
set_option maxHeartbeats 2000000 in
theorem l01Square_any (G B : Nat) (xs : List Int) (n q : Nat) (w : World) (hn : n ≤ 8) (hq : q ≤ 8) (hq1 : 1 ≤ q) (s : Src w 62 G B xs) :
    Calls Try.prog 29 #[.pointer (some ⟨G, 0, none⟩), .int .i64 n, .int .i64 q] w (DrawnM n q 62 G B xs w) := by
  obtain ⟨j0, hj, hy0, hy1, hy2⟩ := info_parts info_row
  have HG := s.lt
  have HBG := s.base
  have HS := Lib.hid s
  clear s
  go_enter Try.func29, Try.ntmps29
  go_wp2_with fail
  go_loopw [7, 8] (fun v i wr => ∃ k g cap : Nat, ∃ (m : List (List Int)) (vs : List Value), k ≤ n ∧ v = .slice (some ⟨g, 0, none⟩) k cap ∧ i = .int .i64 k ∧ Wide m q ∧ OwnMat wr w.heap.size wr.heap.size (.slice (some ⟨g, 0, none⟩) k cap) k m vs ∧ Src wr 62 G B xs ∧ w.grownBy wr (some G)) (fun _ i _ => n - (intOf i).toNat)
  case atStart => exact ⟨0, _, 0, [], [], Nat.zero_le _, rfl, rfl, fun _ h => by simp at h, by have := OwnMat.empty w; simpa using this, HS.out.alloc _, World.grownBy_alloc w _ _⟩
  case round =>
    obtain ⟨k, g, cap, m, vs, hk, rfl, rfl, hw, hM, hs, ho⟩ := hrel
    have HW := Lib.hid hw
    have HM := Lib.hid hM
    have HO := Lib.hid ho
    have HS1 := Lib.hid hs
    have hsz := ho.size
    have hgl := hM.outer.1.lt g rfl
    have hgl1 := hgl.1
    clear hw hM hs ho HS hgl
    generalize wr = wo at *
    by_cases hlt : k < n
    · go_wp2_with fail
      refine (l01List_any G B xs q _ (by omega) HS1.out).mono ?_
      rintro e w1 ⟨g2, c2, n2, ys, rfl, hy, ⟨hy1', _⟩, own1, s1, o1⟩
      obtain rfl : q = n2 := by omega
      have hz1 := o1.size
      have M1 := Lib.hid (HM.out.past (Nat.le_refl _) (by omega) o1)
      have O1 := Lib.hid (only_trans HO.out o1)
      have S1 := Lib.hid s1
      have Y := Lib.hid hy
      have R1 := Lib.hid own1
      clear own1 s1 o1 hy hy1' HM HO HS1
      by_cases hk0 : k = 0
      · have t0 : decide ((0 : Int) < (k : Int)) = false := decide_eq_false (by omega)
        subst hk0
        go_wp2_with (at_builtin; refine wpList_append_lies _ rfl (.tmp 32) (.tmp 34) 24 rfl w.heap.size 31 j0 _ 1 24 Try.underlying24 hj hy0 hy1 hy2 rfl (by omega) (.slice (some ⟨g, 0, none⟩) 0 cap) 0 vs rfl (M1.out.outer.1.alloc _) ⟨w1.heap.size, 0, none⟩ 1 1 [.slice (some ⟨g2, 0, none⟩) q c2] rfl rfl (World.news_of_block (cs := #[.slice (some ⟨g2, 0, none⟩) q c2]) (heap_alloc_new _ _)) (by simp [Value.oneCell']) (by omega) (by simp only [maxLen]; omega) (by omega) (by simp; omega) (w1.heap.size + 1) (by simp) ?_; intro g5 cap5 w5 hown5 hgrow5 hat5 hlt5)
        have hM5 := M1.out.push (row := ys) (by omega) Y.out R1.out (by omega) hown5 hgrow5
        have hS5 := (S1.out.alloc (.cells #[.slice (some ⟨g2, 0, none⟩) q c2] 31)).only (g := g) hgrow5 (by omega) (by omega)
        have hO5 := only_row (only_alloc O1.out (.cells #[.slice (some ⟨g2, 0, none⟩) q c2] 31)) hgrow5 hgl1
        have Q1 := Lib.hid hM5
        have Q2 := Lib.hid hS5
        have Q3 := Lib.hid hO5
        clear hM5 hS5 hO5 hown5 hgrow5 hat5
        go_wp2
        go_roundw
        case rel => exact ⟨0 + 1, g5, cap5, m ++ [ys], _, by omega, rfl, by go_num, wide_pushR HW.out Y.out, Q1.out, Q2.out, Q3.out⟩
        case measure => simp [intOf]; omega
      · have t0 : decide ((0 : Int) < (k : Int)) = true := decide_eq_true (by omega)
        go_wp2_with fail
        refine (l01Next_any G B xs _ _ (by omega) S1.out).mono ?_
        rintro e w2 ⟨r, rfl, r0, r1, s2, o2⟩
        have hz2 := o2.size
        have M2 := Lib.hid (M1.out.past (by omega) (by omega) o2)
        have O2 := Lib.hid (only_trans O1.out o2)
        have S2 := Lib.hid s2
        have R2 := Lib.hid (own_past R1.out (by omega) o2)
        clear s2 o2 M1 O1 S1 R1
        by_cases hr : r = 0
        · have t1 := beq_t hr
          obtain ⟨b, o, rr, Ak, ck, eA, hrr, hc, hrow⟩ := own_at M2.out (show k - 1 < k by omega)
          injection eA with eA
          injection eA with e1 e2
          subst e1 e2
          rw [Nat.zero_add] at hc
          have hrl : rr.length = q := HW.out rr (List.mem_of_getElem? hrr)
          rw [hrl] at hc
          have ek : IntKind.i64.wrap ((k : Int) - 1) = ((k - 1 : Nat) : Int) := by rw [IntWalk.i64_in _ (by omega)]; omega
          have ez : (0 : Int) ≤ ((k - 1 : Nat) : Int) := Int.natCast_nonneg _
          have ey : ((k - 1 : Nat) : Int) < (k : Int) := by omega
          obtain ⟨ad, rfl⟩ := row_some hrow (by omega)
          have HR := Lib.hid hrow
          have HRL := Lib.hid hrl
          clear hrr hrow hrl hr
          go_wp2_with fail
          refine (l01Own_any ad q ck w2.heap.size rr w2 HRL.out (by omega) (Nat.le_refl _) (HR.out.more (by omega))).mono ?_
          rintro e w3 ⟨A3, c3, rfl, own3, b3⟩
          have hz3 := b3.size
          have M3 := Lib.hid (M2.out.below b3 (by omega))
          have O3 := Lib.hid (only_below O2.out b3)
          have S3 := Lib.hid (S2.out.below b3)
          have R3 := Lib.hid (((OwnR.of own3).more (lo' := wo.heap.size) (by omega) (Nat.le_refl _)).1)
          clear own3 b3 M2 O2 S2 R2 HR hc
          go_wp2_with (at_builtin; refine wpList_append_lies _ rfl (.tmp 32) (.tmp 34) 24 rfl w.heap.size 31 j0 _ 1 24 Try.underlying24 hj hy0 hy1 hy2 rfl (by omega) (.slice (some ⟨g, 0, none⟩) k cap) k vs rfl (M3.out.outer.1.alloc _) ⟨w3.heap.size, 0, none⟩ 1 1 [.slice A3 q c3] rfl rfl (World.news_of_block (cs := #[.slice A3 q c3]) (heap_alloc_new _ _)) (by simp [Value.oneCell']) (by omega) (by simp only [maxLen]; omega) (by omega) (by simp; omega) (w3.heap.size + 1) (by simp) ?_; intro g5 cap5 w5 hown5 hgrow5 hat5 hlt5)
          have hM5 := M3.out.push (row := rr) (by omega) HRL.out R3.out (by omega) hown5 hgrow5
          have hS5 := (S3.out.alloc (.cells #[.slice A3 q c3] 31)).only (g := g) hgrow5 (by omega) (by omega)
          have hO5 := only_row (only_alloc O3.out (.cells #[.slice A3 q c3] 31)) hgrow5 hgl1
          have Q1 := Lib.hid hM5
          have Q2 := Lib.hid hS5
          have Q3 := Lib.hid hO5
          clear hM5 hS5 hO5 hown5 hgrow5 hat5
          go_wp2
          go_roundw
          case rel => exact ⟨k + 1, g5, cap5, m ++ [rr], _, by omega, rfl, by go_num, wide_pushR HW.out HRL.out, Q1.out, Q2.out, Q3.out⟩
          case measure => simp [intOf]; omega
        · have t1 := beq_f hr
          clear hr
          go_wp2_with (at_builtin; refine wpList_append_lies _ rfl (.tmp 32) (.tmp 34) 24 rfl w.heap.size 31 j0 _ 1 24 Try.underlying24 hj hy0 hy1 hy2 rfl (by omega) (.slice (some ⟨g, 0, none⟩) k cap) k vs rfl (M2.out.outer.1.alloc _) ⟨w2.heap.size, 0, none⟩ 1 1 [.slice (some ⟨g2, 0, none⟩) q c2] rfl rfl (World.news_of_block (cs := #[.slice (some ⟨g2, 0, none⟩) q c2]) (heap_alloc_new _ _)) (by simp [Value.oneCell']) (by omega) (by simp only [maxLen]; omega) (by omega) (by simp; omega) (w2.heap.size + 1) (by simp) ?_; intro g5 cap5 w5 hown5 hgrow5 hat5 hlt5)
          have hM5 := M2.out.push (row := ys) (by omega) Y.out R2.out (by omega) hown5 hgrow5
          have hS5 := (S2.out.alloc (.cells #[.slice (some ⟨g2, 0, none⟩) q c2] 31)).only (g := g) hgrow5 (by omega) (by omega)
          have hO5 := only_row (only_alloc O2.out (.cells #[.slice (some ⟨g2, 0, none⟩) q c2] 31)) hgrow5 hgl1
          have Q1 := Lib.hid hM5
          have Q2 := Lib.hid hS5
          have Q3 := Lib.hid hO5
          clear hM5 hS5 hO5 hown5 hgrow5 hat5
          go_wp2
          go_roundw
          case rel => exact ⟨k + 1, g5, cap5, m ++ [ys], _, by omega, rfl, by go_num, wide_pushR HW.out Y.out, Q1.out, Q2.out, Q3.out⟩
          case measure => simp [intOf]; omega
    · obtain rfl : k = n := by omega
      have G1 : Hid (DrawnM k q 62 G B xs w (.returned (.slice (some ⟨g, 0, none⟩) k cap)) wo) := ⟨g, cap, vs, m, rfl, HW.out, HM.out, HS1.out, HO.out⟩
      clear HW HM HS1 HO
      go_wp2
      go_ret
      exact G1.out
set_option maxHeartbeats 8000000 in
theorem l01Rows_any (G B : Nat) (xs : List Int) (w : World) (s : Src w 62 G B xs) :
    Calls Try.prog 14 #[.pointer (some ⟨G, 0, none⟩)] w (DrawnMx 62 G B xs w) := by
  obtain ⟨i0, hi, hz0, hz1, hz2⟩ := info_parts info_i64
  obtain ⟨j0, hj, hy0, hy1, hy2⟩ := info_parts info_row
  have HG := s.lt
  have HBG := s.base
  have HS := Lib.hid s
  clear s
  go_enter Try.func14, Try.ntmps14
  go_wp2_with fail
  refine (l01Next_any G B xs _ _ (by omega) HS.out).mono ?_
  rintro e w1 ⟨r, rfl, r0, r1, s1, o1⟩
  obtain ⟨N, hN⟩ : ∃ N : Nat, 1 + r = (N : Int) := ⟨(1 + r).toNat, by omega⟩
  have hNw : IntKind.i64.wrap (1 + r) = (N : Int) := by rw [hN]; exact IntWalk.i64_in _ (by omega)
  have hN1 : 1 ≤ N := by omega
  have hN8 : N ≤ 8 := by omega
  have S1 := Lib.hid s1
  have O1 := Lib.hid o1
  have hz1' := o1.size
  clear s1 o1 HS
  go_wp2_with fail
  refine (l01Next_any G B xs _ _ (by omega) S1.out).mono ?_
  rintro e w2 ⟨p, rfl, p0, p1, s2, o2⟩
  have S2 := Lib.hid s2
  have O2 := Lib.hid (only_trans O1.out o2)
  have hz2' := o2.size
  clear s2 o2 S1 O1
  by_cases hp : p = 0
  · have t := beq_t hp
    clear hp
    clear hN hNw r0 r1 hN1 hN8
    have CP : ∀ W, Src W 62 G B xs → Row W (w2.heap.size + 1) (some ⟨w2.heap.size, 0, none⟩) (ints [8, 7, 6]) → Calls Try.prog 28 #[.pointer (some ⟨G, 0, none⟩), .slice (some ⟨w2.heap.size, 0, none⟩) 3 3] W (Drawn (· ∈ ([8, 7, 6] : List Int)) 62 G B xs W) := fun W hs hr =>
      l01Pick_any G B xs _ 3 _ _ [8, 7, 6] W hs hr (fun b o e => by injection e with e; injection e with e1; omega) rfl (by omega) (by omega)
    go_wp2_with fail
    refine (CP _ (by exact S2.out.alloc _) (by exact Row.new w2 _ (ints [8, 7, 6]))).mono ?_
    clear CP
    rintro e w3 ⟨v, rfl, hv, s3, o3⟩
    have hv2 : v = 8 ∨ v = 7 ∨ v = 6 := by simpa using hv
    obtain ⟨N, rfl⟩ : ∃ N : Nat, v = (N : Int) := ⟨v.toNat, by omega⟩
    have hN1 : 1 ≤ N := by omega
    have hN8 : N ≤ 8 := by omega
    have S3 := Lib.hid s3
    have O3 := Lib.hid (only_trans (only_alloc O2.out (.cells #[.int .i64 8, .int .i64 7, .int .i64 6] 2)) o3)
    clear hv hv2 s3 o3 S2 O2
    go_wp2_with fail
    refine (l01Square_any G B xs N N _ (by omega) (by omega) (by omega) S3.out).mono ?_
    rintro e w4 ⟨g, cap, vs, m, rfl, hw, own4, s4, o4⟩
    have hz4 := o4.size
    have hzO := O3.out.size
    have M4 := Lib.hid (own4.more (lo' := w.heap.size) (by omega) (Nat.le_refl _))
    have O4 := Lib.hid (only_trans O3.out o4)
    have S4 := Lib.hid s4
    have HW := Lib.hid hw
    clear own4 s4 o4 hw S3 O3
    go_wp2_with fail
    refine (l01Next_any G B xs _ _ (by omega) S4.out).mono ?_
    rintro e w5 ⟨r, rfl, r0, r1, s5, o5⟩
    have hz5 := o5.size
    have M5 := Lib.hid (M4.out.past (Nat.le_refl _) HG o5)
    have O5 := Lib.hid (only_trans O4.out o5)
    have S5 := Lib.hid s5
    have hgl := (M5.out.outer.1.lt g rfl).1
    have hgl2 := M5.out.outer.2 g rfl
    clear s5 o5 M4 O4 S4
    rcases (show r = 0 ∨ r = 1 ∨ r = 2 ∨ r = 3 ∨ r = 4 ∨ 5 ≤ r by omega) with rfl | rfl | rfl | rfl | rfl | hr
    · go_wp2_with fail
      refine (l01List_any G B xs N _ (by omega) S5.out).mono ?_
      rintro e w6 ⟨g2, c2, n2, ys, rfl, hy, ⟨hy1', _⟩, own6, s6, o6⟩
      obtain rfl : N = n2 := by omega
      have hz6 := o6.size
      have M6 := Lib.hid ((M5.out.past hz5 HG o6).more (Nat.le_refl _) hz5)
      have O6 := Lib.hid (only_trans O5.out o6)
      have S6 := Lib.hid s6
      have R6 := Lib.hid own6
      have Y := Lib.hid hy
      clear own6 s6 o6 hy hy1' M5 O5 S5
      go_wp2_with (at_builtin; refine wpList_append_lies _ rfl (.tmp 22) (.tmp 26) 24 rfl w.heap.size 31 j0 _ 1 24 Try.underlying24 hj hy0 hy1 hy2 rfl (by omega) (.slice (some ⟨g, 0, none⟩) N cap) N vs rfl (M6.out.outer.1.alloc _) ⟨w6.heap.size, 0, none⟩ 1 1 [.slice (some ⟨g2, 0, none⟩) N c2] rfl rfl (World.news_of_block (cs := #[.slice (some ⟨g2, 0, none⟩) N c2]) (heap_alloc_new _ _)) (by simp [Value.oneCell']) (by omega) (by simp only [maxLen]; omega) (by omega) (by simp; omega) (w6.heap.size + 1) (by simp) ?_; intro g5 cap5 w5 hown5 hgrow5 hat5 hlt5)
      have hM := M6.out.push (row := ys) hz6 Y.out R6.out (by omega) hown5 hgrow5
      have hS := (S6.out.alloc (.cells #[.slice (some ⟨g2, 0, none⟩) N c2] 31)).only (g := g) hgrow5 (by omega) (by omega)
      have hO := only_row (only_alloc O6.out (.cells #[.slice (some ⟨g2, 0, none⟩) N c2] 31)) hgrow5 hgl
      have Q : Hid (DrawnMx 62 G B xs w (.returned (.slice (some ⟨g5, 0, none⟩) (N + 1) cap5)) w5) := ⟨_, _, _, _, rfl, hM.size, by omega, hM.mat, hS, hO⟩
      clear hM hS hO hown5 hgrow5 hat5
      go_wp2
      go_ret
      exact Q.out
    · skip
      obtain ⟨r0, hr0⟩ := at_lt (show 0 < m.length by rw [M5.out.size]; omega)
      have hr0n : r0.length = N := HW.out r0 (List.mem_of_getElem? hr0)
      obtain ⟨Ag, cg, hv0, hro⟩ := M5.out.inner 0 r0 hr0
      rw [hr0n] at hv0 hro
      obtain ⟨g0, rfl, hg0, hg0'⟩ : ∃ g0, Ag = some ⟨g0, 0, none⟩ ∧ w.heap.size ≤ g0 ∧ g0 < w4.heap.size := by
        rcases hro.1.2 with ⟨e1, e2⟩ | ⟨g, cap, cur, e1, _⟩
        · exfalso; have := own_len hro.1; rw [e2] at this; simp at this; omega
        · injection e1 with e1 _ _
          subst e1
          exact ⟨g, rfl, (hro.1.lt g rfl).1, hro.2 g rfl⟩
      have hgne : g0 ≠ g := fun e => by
        rcases own_types M5.out.outer.1 hro.1 (by decide) with h | h
        · simp [Value.ownBlock] at h
        · exact h (by simp [Value.ownBlock, e])
      have a1 := M5.out.outer.1.cellAt 0 (by omega)
      rw [hv0] at a1
      have hNp : 0 < N := by omega
      have hNI : (0 : Int) < (N : Int) := by omega
      have hIX := ints_snocR r0 1
      have hwa : Below w5.heap.size w5 (w5.alloc (.cells #[.int .i64 1] 2)) := (Below.refl _ _).alloc (Nat.le_refl _) _
      have MA := Lib.hid ((M5.out.below hwa hz5))
      have own0 : (w5.alloc (.cells #[.int .i64 1] 2)).ownsRow w.heap.size 2 1 (.slice (some ⟨g0, 0, none⟩) N cg) N (ints r0) := by
        obtain ⟨A9, c9, h9, o9⟩ := MA.out.inner 0 r0 hr0
        rw [hv0, hr0n] at h9
        injection h9 with h9
        injection h9 with e1 e2 e3
        subst e1 e3
        rw [hr0n] at o9
        exact o9.1
      have HRO := Lib.hid own0
      have HV := Lib.hid hv0
      have HR0 := Lib.hid hr0
      have HRN := Lib.hid hr0n
      have HIX := Lib.hid hIX
      have HWA := Lib.hid hwa
      clear own0 hv0 hr0 hr0n hIX hwa hro
      have HK : Hid (∀ W3 : World, (w5.alloc (.cells #[.int .i64 1] 2)).grownBy W3 (Value.ownBlock (.slice (some ⟨g0, 0, none⟩) N cg)) → W3.cell? ⟨g, 0, none⟩ = some (.slice (some ⟨g0, 0, none⟩) N cg) ∧ W3.frozen? ⟨g, 0, none⟩ = false) := fun W3 hg => by
        have q1 := MA.out.outer.1.cellAt 0 (by omega)
        rw [HV.out] at q1
        have hb := hg.block g (by have := HWA.out.size; omega) (fun e => by have e2 : g = g0 := Option.some.inj e; exact hgne e2.symm)
        exact ⟨(World.cell?_of_block hb).trans q1, (World.frozen?_of_block hb).trans (MA.out.outer.1.frozenAt 0)⟩
      go_wp2_with (at_builtin; refine wpList_append_lies _ rfl (.tmp 33) (.tmp 34) 31 rfl w.heap.size 2 i0 _ 1 8 Try.underlying31 hi hz0 hz1 hz2 rfl (by omega) (.slice (some ⟨g0, 0, none⟩) N cg) N (ints r0) rfl HRO.out ⟨w5.heap.size, 0, none⟩ 1 1 [.int .i64 1] rfl rfl (World.news_of_block (cs := #[.int .i64 1]) (heap_alloc_new _ _)) (by simp [Value.oneCell']) (by omega) (by simp only [maxLen]; omega) (by omega) (by simp; omega) (w5.heap.size + 1) (by simp) ?_; intro g3 cap3 w6 hown6 hgrow6 hat6 hlt6; have hq3 := HK.out _ hgrow6; have hf1 := hq3.1; have hf2 := hq3.2; clear hq3)
      rw [HIX.out] at hown6
      have hM := MA.out.grow_row (w' := w6) (g5 := g3) (c5 := cap3) (x := 1) (by have := HWA.out.size; omega) HR0.out (by rw [HRN.out]; exact HV.out) (by rw [HRN.out]; exact hown6) (by rw [HRN.out]; exact hgrow6) (by rw [HRN.out]; exact hat6.imp id (fun e => by omega)) hlt6
      rw [HRN.out] at hM
      have hS := ((S5.out.alloc (.cells #[.int .i64 1] 2)).only (g := g0) hgrow6 (by omega) (by omega)).put (g := g) (k := 0) (v := .slice (some ⟨g3, 0, none⟩) (N + 1) cap3) (by omega) (by omega)
      have hO := only_put (g := g) (k := 0) (v := .slice (some ⟨g3, 0, none⟩) (N + 1) cap3) (only_row (only_alloc O5.out (.cells #[.int .i64 1] 2)) hgrow6 hg0) hgl
      have Q : Hid (DrawnMx 62 G B xs w (.returned (.slice (some ⟨g, 0, none⟩) N cap)) (w6.setCell ⟨g, 0, none⟩ (.slice (some ⟨g3, 0, none⟩) (N + 1) cap3))) := ⟨_, _, _, _, rfl, hM.size, by omega, hM.mat.more (by simp [World.setCell]), hS, hO⟩
      clear hM hS hO hown6 hgrow6 hat6 a1 hf1 hf2 HK
      try go_wp2
      go_ret
      exact Q.out
    · skip
      obtain ⟨r0, hr0⟩ := at_lt (show 0 < m.length by rw [M5.out.size]; omega)
      have hr0n : r0.length = N := HW.out r0 (List.mem_of_getElem? hr0)
      obtain ⟨Ag, cg, hv0, hro⟩ := M5.out.inner 0 r0 hr0
      rw [hr0n] at hv0 hro
      obtain ⟨g0, rfl, hg0, hg0'⟩ : ∃ g0, Ag = some ⟨g0, 0, none⟩ ∧ w.heap.size ≤ g0 ∧ g0 < w4.heap.size := by
        rcases hro.1.2 with ⟨e1, e2⟩ | ⟨g, cap, cur, e1, _⟩
        · exfalso; have := own_len hro.1; rw [e2] at this; simp at this; omega
        · injection e1 with e1 _ _
          subst e1
          exact ⟨g, rfl, (hro.1.lt g rfl).1, hro.2 g rfl⟩
      have hgne : g0 ≠ g := fun e => by
        rcases own_types M5.out.outer.1 hro.1 (by decide) with h | h
        · simp [Value.ownBlock] at h
        · exact h (by simp [Value.ownBlock, e])
      have a1 := M5.out.outer.1.cellAt 0 (by omega)
      rw [hv0] at a1
      have HK : Hid (∀ W, OwnMat W w.heap.size w4.heap.size (.slice (some ⟨g, 0, none⟩) N cap) N m vs → W.cell? ⟨g, 0, none⟩ = some (.slice (some ⟨g0, 0, none⟩) N cg)) := fun W h => by
        have := h.outer.1.cellAt 0 (by omega)
        rw [hv0] at this
        exact this
      have TB : Hid (∀ W, Below w5.heap.size w5 W → OwnMat W w.heap.size w4.heap.size (.slice (some ⟨g, 0, none⟩) N cap) N m vs) := fun W hb => M5.out.below hb hz5
      have CP : ∀ W, Src W 62 G B xs → Row W (w5.heap.size + 1) (some ⟨w5.heap.size, 0, none⟩) (ints [-1, 10007]) → Calls Try.prog 28 #[.pointer (some ⟨G, 0, none⟩), .slice (some ⟨w5.heap.size, 0, none⟩) 2 2] W (Drawn (· ∈ ([-1, 10007] : List Int)) 62 G B xs W) := fun W hs hr =>
        l01Pick_any G B xs _ 2 _ _ [-1, 10007] W hs hr (fun b o e => by injection e with e; injection e with e1; omega) rfl (by omega) (by omega)
      have HBW : Hid (∀ o, Below w5.heap.size w5 (w5.alloc o).drew) := fun o => ((Below.refl _ _).alloc (Nat.le_refl _) _).drew
      have HV := Lib.hid hv0
      have HR0 := Lib.hid hr0
      have HRN := Lib.hid hr0n
      have hNp : 0 < N := by omega
      have hNI : (0 : Int) < (N : Int) := by omega
      have HKW : Hid (∀ W, OwnMat W w.heap.size w4.heap.size (.slice (some ⟨g, 0, none⟩) N cap) N m vs → OwnR W w.heap.size w4.heap.size 2 (.slice (some ⟨g0, 0, none⟩) N cg) N (ints r0)) := fun W h => by
        obtain ⟨A9, c9, h9, o9⟩ := h.inner 0 r0 HR0.out
        rw [HV.out, HRN.out] at h9
        injection h9 with h9
        injection h9 with e1 e2 e3
        subst e1 e3
        rw [HRN.out] at o9
        exact o9
      clear hv0 hr0 hr0n hro a1
      go_upto_region 11 with fail
      go_region_held3 (fun W => W.cell? ⟨g, 0, none⟩ = some (.slice (some ⟨g0, 0, none⟩) N cg))
        (first | exact HK.out _ (TB.out _ (Below.refl _ _).drew) | exact HK.out _ (TB.out _ (below_drewN (Below.refl _ _) _)) | exact HK.out _ (TB.out _ ((below_drewN (Below.refl _ _) _).alloc (Nat.le_refl _) _)) | exact HK.out w6 ((TB.out _ (HBW.out _)).past (by have := (HBW.out (.cells #[.int .i64 (-1), .int .i64 10007] 2)).size; omega) HG o6) | (have hz := HK.out w6 ((TB.out _ (HBW.out _)).past (by have := (HBW.out (.cells #[.int .i64 (-1), .int .i64 10007] 2)).size; omega) HG o6); exact cell_othR hz (Ne.symm hgne)))
        ((go_at_call 28; refine (CP _ (by exact S5.out.alloc _) (by exact Row.new w5 _ (ints [-1, 10007]))).mono ?_; clear CP; rintro e w6 ⟨v, rfl, hv, s6, o6⟩; have hz := HKW.out _ ((TB.out _ (HBW.out (.cells #[.int .i64 (-1), .int .i64 10007] 2))).past (by have := (HBW.out (.cells #[.int .i64 (-1), .int .i64 10007] 2)).size; omega) HG o6); have k6 := hz.1.cellAt 0 (by omega); have f6 := hz.1.frozenAt 0; rw [ints_at (List.getElem?_eq_getElem (show 0 < r0.length by have := HRN.out; omega))] at k6; clear hz))
      all_goals
        have M6 := (TB.out _ (HBW.out (.cells #[.int .i64 (-1), .int .i64 10007] 2))).past (by have := (HBW.out (.cells #[.int .i64 (-1), .int .i64 10007] 2)).size; omega) HG o6
        have hz6 := o6.size
        have hzw := (HBW.out (.cells #[.int .i64 (-1), .int .i64 10007] 2)).size
        obtain ⟨st, gr⟩ := (HKW.out _ M6).1.stored 0 (.int .i64 v)
        rw [ints_putR] at st
        have hM := (M6.set_row (r := 0) HV.out (by rw [List.length_set]; exact HRN.out) st gr).more (hi' := w6.heap.size) (Nat.le_refl _) (by omega)
        have hS := s6.put (g := g0) (k := 0) (v := .int .i64 v) (by omega) (by omega)
        have hO := only_put (g := g0) (k := 0) (v := .int .i64 v) (only_trans (only_drewN (only_alloc O5.out (.cells #[.int .i64 (-1), .int .i64 10007] 2)) 1) o6) hg0
        have Q : Hid (DrawnMx 62 G B xs w (.returned (.slice (some ⟨g, 0, none⟩) N cap)) (w6.setCell ⟨g0, 0, none⟩ (.int .i64 v))) := ⟨_, _, _, _, rfl, hM.size, by omega, hM.mat.more (by simp [World.setCell]), hS, hO⟩
        clear hM hS hO M6 st gr k6 f6 s6 o6 hv HK TB HBW HKW
        go_wp2
        go_ret
        exact Q.out
    · go_wp2_with fail
      refine (l01Next_any G B xs _ _ (by omega) S5.out).mono ?_
      rintro e w6 ⟨p, rfl, p0, p1, s6, o6⟩
      obtain ⟨M, hM⟩ : ∃ M : Nat, 1 + p = (M : Int) := ⟨(1 + p).toNat, by omega⟩
      have hMw : IntKind.i64.wrap (1 + p) = (M : Int) := by rw [hM]; exact IntWalk.i64_in _ (by omega)
      have hM1 : 1 ≤ M := by omega
      have hM8 : M ≤ 8 := by omega
      have S6 := Lib.hid s6
      have O6 := Lib.hid (only_trans O5.out o6)
      have hz6 := o6.size
      clear s6 o6 S5 O5 M5
      go_wp2_with fail
      try rw [hM]
      clear hM hMw p0 p1
      refine (l01Square_any G B xs N M _ (by omega) (by omega) (by omega) S6.out).mono ?_
      rintro e w7 ⟨g7, cap7, vs7, m7, rfl, hw7, own7, s7, o7⟩
      have Q : Hid (DrawnMx 62 G B xs w (.returned (.slice (some ⟨g7, 0, none⟩) N cap7)) w7) := ⟨_, _, _, _, rfl, own7.size, by omega, own7.mat, s7, only_trans O6.out o7⟩
      clear own7 s7 o7
      go_wp2
      go_ret
      exact Q.out
    · have hS := S5.out.alloc (.cells #[] 31)
      have Q : Hid (DrawnMx 62 G B xs w (.returned (.slice (some ⟨w5.heap.size, 0, none⟩) 0 0)) (w5.alloc (.cells #[] 31))) := ⟨_, _, _, [], rfl, rfl, by omega, fun k r hr => by simp at hr, hS, only_alloc O5.out _⟩
      clear hS
      go_wp2
      go_ret
      exact Q.out
    · have t0 := beq_f (show r ≠ 0 by omega)
      have t1 := beq_f (show r ≠ 1 by omega)
      have t2 := beq_f (show r ≠ 2 by omega)
      have t3 := beq_f (show r ≠ 3 by omega)
      have t4 := beq_f (show r ≠ 4 by omega)
      have Q : Hid (DrawnMx 62 G B xs w (.returned (.slice (some ⟨g, 0, none⟩) N cap)) w5) := ⟨_, _, _, _, rfl, M5.out.size, by omega, (M5.out.more (Nat.le_refl _) hz5).mat, S5.out, O5.out⟩
      go_wp2
      go_ret
      exact Q.out
  · have t := beq_f hp
    clear hp
    go_wp2_with fail
    try rw [hN]
    clear hN hNw r0 r1
    refine (l01Square_any G B xs N N _ (by omega) (by omega) (by omega) S2.out).mono ?_
    rintro e w4 ⟨g, cap, vs, m, rfl, hw, own4, s4, o4⟩
    have hz4 := o4.size
    have hzO := O2.out.size
    have M4 := Lib.hid (own4.more (lo' := w.heap.size) (by omega) (Nat.le_refl _))
    have O4 := Lib.hid (only_trans O2.out o4)
    have S4 := Lib.hid s4
    have HW := Lib.hid hw
    clear own4 s4 o4 hw S2 O2
    go_wp2_with fail
    refine (l01Next_any G B xs _ _ (by omega) S4.out).mono ?_
    rintro e w5 ⟨r, rfl, r0, r1, s5, o5⟩
    have hz5 := o5.size
    have M5 := Lib.hid (M4.out.past (Nat.le_refl _) HG o5)
    have O5 := Lib.hid (only_trans O4.out o5)
    have S5 := Lib.hid s5
    have hgl := (M5.out.outer.1.lt g rfl).1
    have hgl2 := M5.out.outer.2 g rfl
    clear s5 o5 M4 O4 S4
    rcases (show r = 0 ∨ r = 1 ∨ r = 2 ∨ r = 3 ∨ r = 4 ∨ 5 ≤ r by omega) with rfl | rfl | rfl | rfl | rfl | hr
    · go_wp2_with fail
      refine (l01List_any G B xs N _ (by omega) S5.out).mono ?_
      rintro e w6 ⟨g2, c2, n2, ys, rfl, hy, ⟨hy1', _⟩, own6, s6, o6⟩
      obtain rfl : N = n2 := by omega
      have hz6 := o6.size
      have M6 := Lib.hid ((M5.out.past hz5 HG o6).more (Nat.le_refl _) hz5)
      have O6 := Lib.hid (only_trans O5.out o6)
      have S6 := Lib.hid s6
      have R6 := Lib.hid own6
      have Y := Lib.hid hy
      clear own6 s6 o6 hy hy1' M5 O5 S5
      go_wp2_with (at_builtin; refine wpList_append_lies _ rfl (.tmp 22) (.tmp 26) 24 rfl w.heap.size 31 j0 _ 1 24 Try.underlying24 hj hy0 hy1 hy2 rfl (by omega) (.slice (some ⟨g, 0, none⟩) N cap) N vs rfl (M6.out.outer.1.alloc _) ⟨w6.heap.size, 0, none⟩ 1 1 [.slice (some ⟨g2, 0, none⟩) N c2] rfl rfl (World.news_of_block (cs := #[.slice (some ⟨g2, 0, none⟩) N c2]) (heap_alloc_new _ _)) (by simp [Value.oneCell']) (by omega) (by simp only [maxLen]; omega) (by omega) (by simp; omega) (w6.heap.size + 1) (by simp) ?_; intro g5 cap5 w5 hown5 hgrow5 hat5 hlt5)
      have hM := M6.out.push (row := ys) hz6 Y.out R6.out (by omega) hown5 hgrow5
      have hS := (S6.out.alloc (.cells #[.slice (some ⟨g2, 0, none⟩) N c2] 31)).only (g := g) hgrow5 (by omega) (by omega)
      have hO := only_row (only_alloc O6.out (.cells #[.slice (some ⟨g2, 0, none⟩) N c2] 31)) hgrow5 hgl
      have Q : Hid (DrawnMx 62 G B xs w (.returned (.slice (some ⟨g5, 0, none⟩) (N + 1) cap5)) w5) := ⟨_, _, _, _, rfl, hM.size, by omega, hM.mat, hS, hO⟩
      clear hM hS hO hown5 hgrow5 hat5
      go_wp2
      go_ret
      exact Q.out
    · skip
      obtain ⟨r0, hr0⟩ := at_lt (show 0 < m.length by rw [M5.out.size]; omega)
      have hr0n : r0.length = N := HW.out r0 (List.mem_of_getElem? hr0)
      obtain ⟨Ag, cg, hv0, hro⟩ := M5.out.inner 0 r0 hr0
      rw [hr0n] at hv0 hro
      obtain ⟨g0, rfl, hg0, hg0'⟩ : ∃ g0, Ag = some ⟨g0, 0, none⟩ ∧ w.heap.size ≤ g0 ∧ g0 < w4.heap.size := by
        rcases hro.1.2 with ⟨e1, e2⟩ | ⟨g, cap, cur, e1, _⟩
        · exfalso; have := own_len hro.1; rw [e2] at this; simp at this; omega
        · injection e1 with e1 _ _
          subst e1
          exact ⟨g, rfl, (hro.1.lt g rfl).1, hro.2 g rfl⟩
      have hgne : g0 ≠ g := fun e => by
        rcases own_types M5.out.outer.1 hro.1 (by decide) with h | h
        · simp [Value.ownBlock] at h
        · exact h (by simp [Value.ownBlock, e])
      have a1 := M5.out.outer.1.cellAt 0 (by omega)
      rw [hv0] at a1
      have hNp : 0 < N := by omega
      have hNI : (0 : Int) < (N : Int) := by omega
      have hIX := ints_snocR r0 1
      have hwa : Below w5.heap.size w5 (w5.alloc (.cells #[.int .i64 1] 2)) := (Below.refl _ _).alloc (Nat.le_refl _) _
      have MA := Lib.hid ((M5.out.below hwa hz5))
      have own0 : (w5.alloc (.cells #[.int .i64 1] 2)).ownsRow w.heap.size 2 1 (.slice (some ⟨g0, 0, none⟩) N cg) N (ints r0) := by
        obtain ⟨A9, c9, h9, o9⟩ := MA.out.inner 0 r0 hr0
        rw [hv0, hr0n] at h9
        injection h9 with h9
        injection h9 with e1 e2 e3
        subst e1 e3
        rw [hr0n] at o9
        exact o9.1
      have HRO := Lib.hid own0
      have HV := Lib.hid hv0
      have HR0 := Lib.hid hr0
      have HRN := Lib.hid hr0n
      have HIX := Lib.hid hIX
      have HWA := Lib.hid hwa
      clear own0 hv0 hr0 hr0n hIX hwa hro
      have HK : Hid (∀ W3 : World, (w5.alloc (.cells #[.int .i64 1] 2)).grownBy W3 (Value.ownBlock (.slice (some ⟨g0, 0, none⟩) N cg)) → W3.cell? ⟨g, 0, none⟩ = some (.slice (some ⟨g0, 0, none⟩) N cg) ∧ W3.frozen? ⟨g, 0, none⟩ = false) := fun W3 hg => by
        have q1 := MA.out.outer.1.cellAt 0 (by omega)
        rw [HV.out] at q1
        have hb := hg.block g (by have := HWA.out.size; omega) (fun e => by have e2 : g = g0 := Option.some.inj e; exact hgne e2.symm)
        exact ⟨(World.cell?_of_block hb).trans q1, (World.frozen?_of_block hb).trans (MA.out.outer.1.frozenAt 0)⟩
      go_wp2_with (at_builtin; refine wpList_append_lies _ rfl (.tmp 33) (.tmp 34) 31 rfl w.heap.size 2 i0 _ 1 8 Try.underlying31 hi hz0 hz1 hz2 rfl (by omega) (.slice (some ⟨g0, 0, none⟩) N cg) N (ints r0) rfl HRO.out ⟨w5.heap.size, 0, none⟩ 1 1 [.int .i64 1] rfl rfl (World.news_of_block (cs := #[.int .i64 1]) (heap_alloc_new _ _)) (by simp [Value.oneCell']) (by omega) (by simp only [maxLen]; omega) (by omega) (by simp; omega) (w5.heap.size + 1) (by simp) ?_; intro g3 cap3 w6 hown6 hgrow6 hat6 hlt6; have hq3 := HK.out _ hgrow6; have hf1 := hq3.1; have hf2 := hq3.2; clear hq3)
      rw [HIX.out] at hown6
      have hM := MA.out.grow_row (w' := w6) (g5 := g3) (c5 := cap3) (x := 1) (by have := HWA.out.size; omega) HR0.out (by rw [HRN.out]; exact HV.out) (by rw [HRN.out]; exact hown6) (by rw [HRN.out]; exact hgrow6) (by rw [HRN.out]; exact hat6.imp id (fun e => by omega)) hlt6
      rw [HRN.out] at hM
      have hS := ((S5.out.alloc (.cells #[.int .i64 1] 2)).only (g := g0) hgrow6 (by omega) (by omega)).put (g := g) (k := 0) (v := .slice (some ⟨g3, 0, none⟩) (N + 1) cap3) (by omega) (by omega)
      have hO := only_put (g := g) (k := 0) (v := .slice (some ⟨g3, 0, none⟩) (N + 1) cap3) (only_row (only_alloc O5.out (.cells #[.int .i64 1] 2)) hgrow6 hg0) hgl
      have Q : Hid (DrawnMx 62 G B xs w (.returned (.slice (some ⟨g, 0, none⟩) N cap)) (w6.setCell ⟨g, 0, none⟩ (.slice (some ⟨g3, 0, none⟩) (N + 1) cap3))) := ⟨_, _, _, _, rfl, hM.size, by omega, hM.mat.more (by simp [World.setCell]), hS, hO⟩
      clear hM hS hO hown6 hgrow6 hat6 a1 hf1 hf2 HK
      try go_wp2
      go_ret
      exact Q.out
    · skip
      obtain ⟨r0, hr0⟩ := at_lt (show 0 < m.length by rw [M5.out.size]; omega)
      have hr0n : r0.length = N := HW.out r0 (List.mem_of_getElem? hr0)
      obtain ⟨Ag, cg, hv0, hro⟩ := M5.out.inner 0 r0 hr0
      rw [hr0n] at hv0 hro
      obtain ⟨g0, rfl, hg0, hg0'⟩ : ∃ g0, Ag = some ⟨g0, 0, none⟩ ∧ w.heap.size ≤ g0 ∧ g0 < w4.heap.size := by
        rcases hro.1.2 with ⟨e1, e2⟩ | ⟨g, cap, cur, e1, _⟩
        · exfalso; have := own_len hro.1; rw [e2] at this; simp at this; omega
        · injection e1 with e1 _ _
          subst e1
          exact ⟨g, rfl, (hro.1.lt g rfl).1, hro.2 g rfl⟩
      have hgne : g0 ≠ g := fun e => by
        rcases own_types M5.out.outer.1 hro.1 (by decide) with h | h
        · simp [Value.ownBlock] at h
        · exact h (by simp [Value.ownBlock, e])
      have a1 := M5.out.outer.1.cellAt 0 (by omega)
      rw [hv0] at a1
      have HK : Hid (∀ W, OwnMat W w.heap.size w4.heap.size (.slice (some ⟨g, 0, none⟩) N cap) N m vs → W.cell? ⟨g, 0, none⟩ = some (.slice (some ⟨g0, 0, none⟩) N cg)) := fun W h => by
        have := h.outer.1.cellAt 0 (by omega)
        rw [hv0] at this
        exact this
      have TB : Hid (∀ W, Below w5.heap.size w5 W → OwnMat W w.heap.size w4.heap.size (.slice (some ⟨g, 0, none⟩) N cap) N m vs) := fun W hb => M5.out.below hb hz5
      have CP : ∀ W, Src W 62 G B xs → Row W (w5.heap.size + 1) (some ⟨w5.heap.size, 0, none⟩) (ints [-1, 10007]) → Calls Try.prog 28 #[.pointer (some ⟨G, 0, none⟩), .slice (some ⟨w5.heap.size, 0, none⟩) 2 2] W (Drawn (· ∈ ([-1, 10007] : List Int)) 62 G B xs W) := fun W hs hr =>
        l01Pick_any G B xs _ 2 _ _ [-1, 10007] W hs hr (fun b o e => by injection e with e; injection e with e1; omega) rfl (by omega) (by omega)
      have HBW : Hid (∀ o, Below w5.heap.size w5 (w5.alloc o).drew) := fun o => ((Below.refl _ _).alloc (Nat.le_refl _) _).drew
      have HV := Lib.hid hv0
      have HR0 := Lib.hid hr0
      have HRN := Lib.hid hr0n
      have hNp : 0 < N := by omega
      have hNI : (0 : Int) < (N : Int) := by omega
      have HKW : Hid (∀ W, OwnMat W w.heap.size w4.heap.size (.slice (some ⟨g, 0, none⟩) N cap) N m vs → OwnR W w.heap.size w4.heap.size 2 (.slice (some ⟨g0, 0, none⟩) N cg) N (ints r0)) := fun W h => by
        obtain ⟨A9, c9, h9, o9⟩ := h.inner 0 r0 HR0.out
        rw [HV.out, HRN.out] at h9
        injection h9 with h9
        injection h9 with e1 e2 e3
        subst e1 e3
        rw [HRN.out] at o9
        exact o9
      clear hv0 hr0 hr0n hro a1
      go_upto_region 11 with fail
      go_region_held3 (fun W => W.cell? ⟨g, 0, none⟩ = some (.slice (some ⟨g0, 0, none⟩) N cg))
        (first | exact HK.out _ (TB.out _ (Below.refl _ _).drew) | exact HK.out _ (TB.out _ (below_drewN (Below.refl _ _) _)) | exact HK.out _ (TB.out _ ((below_drewN (Below.refl _ _) _).alloc (Nat.le_refl _) _)) | exact HK.out w6 ((TB.out _ (HBW.out _)).past (by have := (HBW.out (.cells #[.int .i64 (-1), .int .i64 10007] 2)).size; omega) HG o6) | (have hz := HK.out w6 ((TB.out _ (HBW.out _)).past (by have := (HBW.out (.cells #[.int .i64 (-1), .int .i64 10007] 2)).size; omega) HG o6); exact cell_othR hz (Ne.symm hgne)))
        ((go_at_call 28; refine (CP _ (by exact S5.out.alloc _) (by exact Row.new w5 _ (ints [-1, 10007]))).mono ?_; clear CP; rintro e w6 ⟨v, rfl, hv, s6, o6⟩; have hz := HKW.out _ ((TB.out _ (HBW.out (.cells #[.int .i64 (-1), .int .i64 10007] 2))).past (by have := (HBW.out (.cells #[.int .i64 (-1), .int .i64 10007] 2)).size; omega) HG o6); have k6 := hz.1.cellAt 0 (by omega); have f6 := hz.1.frozenAt 0; rw [ints_at (List.getElem?_eq_getElem (show 0 < r0.length by have := HRN.out; omega))] at k6; clear hz))
      all_goals
        have M6 := (TB.out _ (HBW.out (.cells #[.int .i64 (-1), .int .i64 10007] 2))).past (by have := (HBW.out (.cells #[.int .i64 (-1), .int .i64 10007] 2)).size; omega) HG o6
        have hz6 := o6.size
        have hzw := (HBW.out (.cells #[.int .i64 (-1), .int .i64 10007] 2)).size
        obtain ⟨st, gr⟩ := (HKW.out _ M6).1.stored 0 (.int .i64 v)
        rw [ints_putR] at st
        have hM := (M6.set_row (r := 0) HV.out (by rw [List.length_set]; exact HRN.out) st gr).more (hi' := w6.heap.size) (Nat.le_refl _) (by omega)
        have hS := s6.put (g := g0) (k := 0) (v := .int .i64 v) (by omega) (by omega)
        have hO := only_put (g := g0) (k := 0) (v := .int .i64 v) (only_trans (only_drewN (only_alloc O5.out (.cells #[.int .i64 (-1), .int .i64 10007] 2)) 1) o6) hg0
        have Q : Hid (DrawnMx 62 G B xs w (.returned (.slice (some ⟨g, 0, none⟩) N cap)) (w6.setCell ⟨g0, 0, none⟩ (.int .i64 v))) := ⟨_, _, _, _, rfl, hM.size, by omega, hM.mat.more (by simp [World.setCell]), hS, hO⟩
        clear hM hS hO M6 st gr k6 f6 s6 o6 hv HK TB HBW HKW
        go_wp2
        go_ret
        exact Q.out
    · go_wp2_with fail
      refine (l01Next_any G B xs _ _ (by omega) S5.out).mono ?_
      rintro e w6 ⟨p, rfl, p0, p1, s6, o6⟩
      obtain ⟨M, hM⟩ : ∃ M : Nat, 1 + p = (M : Int) := ⟨(1 + p).toNat, by omega⟩
      have hMw : IntKind.i64.wrap (1 + p) = (M : Int) := by rw [hM]; exact IntWalk.i64_in _ (by omega)
      have hM1 : 1 ≤ M := by omega
      have hM8 : M ≤ 8 := by omega
      have S6 := Lib.hid s6
      have O6 := Lib.hid (only_trans O5.out o6)
      have hz6 := o6.size
      clear s6 o6 S5 O5 M5
      go_wp2_with fail
      try rw [hM]
      clear hM hMw p0 p1
      refine (l01Square_any G B xs N M _ (by omega) (by omega) (by omega) S6.out).mono ?_
      rintro e w7 ⟨g7, cap7, vs7, m7, rfl, hw7, own7, s7, o7⟩
      have Q : Hid (DrawnMx 62 G B xs w (.returned (.slice (some ⟨g7, 0, none⟩) N cap7)) w7) := ⟨_, _, _, _, rfl, own7.size, by omega, own7.mat, s7, only_trans O6.out o7⟩
      clear own7 s7 o7
      go_wp2
      go_ret
      exact Q.out
    · have hS := S5.out.alloc (.cells #[] 31)
      have Q : Hid (DrawnMx 62 G B xs w (.returned (.slice (some ⟨w5.heap.size, 0, none⟩) 0 0)) (w5.alloc (.cells #[] 31))) := ⟨_, _, _, [], rfl, rfl, by omega, fun k r hr => by simp at hr, hS, only_alloc O5.out _⟩
      clear hS
      go_wp2
      go_ret
      exact Q.out
    · have t0 := beq_f (show r ≠ 0 by omega)
      have t1 := beq_f (show r ≠ 1 by omega)
      have t2 := beq_f (show r ≠ 2 by omega)
      have t3 := beq_f (show r ≠ 3 by omega)
      have t4 := beq_f (show r ≠ 4 by omega)
      have Q : Hid (DrawnMx 62 G B xs w (.returned (.slice (some ⟨g, 0, none⟩) N cap)) w5) := ⟨_, _, _, _, rfl, M5.out.size, by omega, (M5.out.more (Nat.le_refl _) hz5).mat, S5.out, O5.out⟩
      go_wp2
      go_ret
      exact Q.out

/-- a matrix, or something near one -/
def DrawnMt (w : World) (e : Ending) (w' : World) : Prop := ∃ A n c m, e = .returned (.slice A n c) ∧ m.length = n ∧ n ≤ 9 ∧ Mat w' w'.heap.size A m ∧ Below w.heap.size w w'
set_option maxHeartbeats 400000 in
theorem drawDeterminant_any (A : Option Addr) (n c : Nat) (xs : List Int) (w : World) (hn : n ≤ 4096) (h : IsCode w A n xs) : Calls Try.prog 5 #[.slice A n c] w (DrawnMt w) := by
  have HX := Lib.hid h
  clear h
  go_enter Try.func5, Try.ntmps5
  go_wp2_with fail
  refine (l01From_any A n c w.heap.size xs _ HX.out.1 hn (Nat.le_refl _) HX.out.2.1 HX.out.2.2).mono ?_
  rintro e w1 ⟨G, rfl, hG, s1, b1⟩
  go_wp2_with fail
  refine (l01Rows_any G w.heap.size xs _ s1).mono ?_
  rintro e w2 ⟨A2, n2, c2, m, rfl, hl, h9, hM, s2, o2⟩
  have Q : Hid (DrawnMt w (.returned (.slice A2 n2 c2)) w2) := ⟨A2, n2, c2, m, rfl, hl, h9, hM, below_only b1 o2 b1.size hG⟩
  clear s1 b1 hM s2 o2
  go_wp2
  go_ret
  exact Q.out
end Go.Proofs.Ytdgdanpkekcckaa
