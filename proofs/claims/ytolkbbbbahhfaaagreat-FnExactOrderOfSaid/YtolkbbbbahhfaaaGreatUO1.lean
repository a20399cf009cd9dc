/-
  Texts of this seat, joined: what several laws lean on.
-/
import Derived.Test.YtolkbbbbahhfaaaGreatTab
import Derived.Test.YtolkbbbbahhfaaaGreatMat
import Derived.Test.YtolkbbbbahhfaaaGreatNest
import Derived.OwnWalk
import Derived.Test.YtolkbbbbahhfaaaGreatSlices
import Derived.Laws.CopyOwn
import Derived.Test.YtolkbbbbahhfaaaGreatGrow
import Derived.Laws.AppendOwnNone
import Derived.Test.YtolkbbbbahhfaaaGreatRes1
import Derived.Test.YtolkbbbbahhfaaaGreatTreeOf
import Derived.Lib.OthersKept
import Derived.Test.YtolkbbbbahhfaaaGreatTreeD
import Derived.Outline
import Derived.Laws.DeepStrings4
import Derived.Test.YtolkbbbbahhfaaaGreatTreeE
import Derived.Laws.Strings2
import Derived.Test.YtolkbbbbahhfaaaGreatTreeC
import Derived.Test.YtolkbbbbahhfaaaGreatSame
import Derived.Test.YtolkbbbbahhfaaaGreatLev
import Derived.Test.YtolkbbbbahhfaaaGreatParts
import Derived.StillTailTactics
import Derived.Test.YtolkbbbbahhfaaaGreatTests
import Derived.Laws.Rows
import Derived.Laws.Tables
import Derived.Deep.RegionLaw
import Derived.IntWalk
import Derived.Test.YtolkbbbbahhfaaaGreatTreeN
import Derived.Test.YtolkbbbbahhfaaaGreatPush
import Derived.Test.YtolkbbbbahhfaaaGreatMarks
import Derived.Lib.SliceRun
import Derived.Test.YtolkbbbbahhfaaaGreatSCan
import Derived.Test.YtolkbbbbahhfaaaGreatNestc
import Derived.Test.YtolkbbbbahhfaaaGreatSrt
import Derived.Test.YtolkbbbbahhfaaaGreatBase
/-
  What is a tableau: the plain test, the program's and the model's.
-/
namespace Go.Proofs.YtolkbbbbahhfaaaGreat
open Go.RowKit Fld
set_option linter.unusedVariables false
set_option linter.unusedSimpArgs false
set_option maxRecDepth 100000

def isTabB (m : List (List Int)) (b : List Int) : Bool := decide (1 ≤ b.length ∧ b.length ≤ 8 ∧ m.length = b.length) && (allNum b && okRows b.length m)
theorem isTabB_len {m : List (List Int)} {b : List Int} (h : b.length = 0 ∨ 8 < b.length ∨ m.length ≠ b.length) : isTabB m b = false := by
  unfold isTabB; rw [decide_eq_false (by omega)]; rfl
theorem isTabB_num {m : List (List Int)} {b : List Int} (h : allNum b = false) : isTabB m b = false := by
  unfold isTabB; rw [h]; simp
theorem isTabB_bad {m : List (List Int)} {b r : List Int} {k : Nat} (hr : m[k]? = some r) (h : r.length ≠ b.length ∨ allNum r = false) : isTabB m b = false := by
  unfold isTabB
  have : okRows b.length m = false := by
    unfold okRows
    rw [List.all_eq_false]
    refine ⟨r, List.mem_of_getElem? hr, ?_⟩
    rcases h with h | h
    · simp [h]
    · simp [h]
  rw [this, Bool.and_false, Bool.and_false]
theorem isTabB_yes {m : List (List Int)} {b : List Int} {n : Nat} (hl : m.length = n) (hb : b.length = n) (h1 : 1 ≤ n) (h8 : n ≤ 8) (hn : allNum b = true) (h : okRows n (m.take n) = true) : isTabB m b = true := by
  unfold isTabB
  rw [List.take_of_length_le (by omega)] at h
  rw [decide_eq_true (by omega), hn, hb, h]; rfl
theorem isTabB_parts {m : List (List Int)} {b : List Int} (h : isTabB m b = true) : 1 ≤ b.length ∧ b.length ≤ 8 ∧ m.length = b.length ∧ allNum b = true ∧ Wide m b.length ∧ ∀ r ∈ m, allNum r = true := by
  unfold isTabB at h
  rw [Bool.and_eq_true, Bool.and_eq_true] at h
  obtain ⟨h1, h2, h3⟩ := h
  have h4 := of_decide_eq_true h1
  unfold okRows at h3
  rw [List.all_eq_true] at h3
  refine ⟨h4.1, h4.2.1, h4.2.2, h2, fun r hr => ?_, fun r hr => ?_⟩
  · have := h3 r hr; simp at this; exact this.1
  · have := h3 r hr; simp at this; exact this.2

set_option maxHeartbeats 1600000 in
theorem isTableau_any (A D : Option Addr) (n c n' d B B' : Nat) (m : List (List Int)) (b : List Int) (w : World) (hl : m.length = n) (hl' : b.length = n') (hn : n ≤ 9223372036854775807) (hn' : n' ≤ 9223372036854775807) (hB : B ≤ w.heap.size) (hB' : B' ≤ w.heap.size) (h : Mat w B A m) (r : Row w B' D (ints b)) :
    Calls Tryz.prog 35 #[.agg #[.slice A n c, .slice D n' d]] w fun e w' => e = .returned (.bool (isTabB m b)) ∧ Below w.heap.size w w' := by
  have HL := Lib.hid hl
  have HL' := Lib.hid hl'
  clear hl hl'
  obtain ⟨W0, hW0⟩ : ∃ W0, W0 = w.alloc (.cells #[.slice A n c, .slice D n' d] 29) := ⟨_, rfl⟩
  have HB : Hid (Below w.heap.size w W0) := by rw [hW0]; exact (Below.refl _ _).alloc (Nat.le_refl _) _
  have HM : Hid (Mat W0 B A m) := h.below HB.out hB
  have HR : Hid (Row W0 B' D (ints b)) := r.below HB.out hB'
  have hx := heap_alloc_new w (.cells #[.slice A n c, .slice D n' d] 29)
  have hx0 : W0.cell? ⟨w.heap.size, 0, none⟩ = some (.slice A n c) := by rw [hW0, cell_of_row _ _ 0 _ _ _ hx]; rfl
  have hx1 : W0.cell? ⟨w.heap.size, 1, none⟩ = some (.slice D n' d) := by rw [hW0, cell_of_row _ _ 1 _ _ _ hx]; rfl
  clear h r hx hB hB'
  by_cases h0 : n = 0
  · have H : Hid (isTabB m b = false) := isTabB_len (by rw [HL'.out]; have := HL.out; omega)
    subst h0
    clear hx0 hx1
    go_enter Tryz.func35, Tryz.ntmps35
    go_wp2
    go_ret
    exact ⟨ret_bool H.out.symm, by rw [← hW0]; exact HB.out⟩
  · by_cases h8 : 8 < n
    · have H : Hid (isTabB m b = false) := isTabB_len (by rw [HL'.out]; have := HL.out; omega)
      have t0 : ¬ ((n : Int) < 1) := by omega
      clear h0 hx0 hx1
      go_enter Tryz.func35, Tryz.ntmps35
      go_wp2
      go_ret
      exact ⟨ret_bool H.out.symm, by rw [← hW0]; exact HB.out⟩
    · by_cases hq : n' = n
      · subst hq
        have hn1 : 1 ≤ n' := by omega
        have t0 : ¬ ((n' : Int) < 1) := by omega
        clear h0
        cases hnb : allNum b
        · have H : Hid (isTabB m b = false) := isTabB_num hnb
          go_enter Tryz.func35, Tryz.ntmps35
          go_wp2_with fail
          rw [← hW0]
          refine (areNumbers_any _ _ _ B' b _ HL'.out (by omega) HR.out).mono ?_
          rintro e w' ⟨rfl, rfl⟩
          rw [hnb]
          clear hW0 hx0 hx1
          go_wp2
          go_ret
          exact ⟨ret_bool H.out.symm, HB.out⟩
        · go_enter Tryz.func35, Tryz.ntmps35
          go_wp2_with fail
          rw [← hW0]
          refine (areNumbers_any _ _ _ B' b _ HL'.out (by omega) HR.out).mono ?_
          rintro e w' ⟨rfl, rfl⟩
          rw [hnb]
          have HNB := Lib.hid hnb
          clear hW0 hnb
          go_wp2_with fail
          go_loop [31] (fun i => ∃ k : Nat, k ≤ n' ∧ i = .int .i64 k ∧ Hid (okRows n' (m.take k) = true)) (fun i => n' - (intOf i).toNat)
          case atStart => exact ⟨0, Nat.zero_le _, rfl, rfl⟩
          case round =>
            obtain ⟨k, hk, rfl, HT⟩ := hrel
            by_cases hlt : k < n'
            · obtain ⟨r, hr⟩ := at_lt (show k < m.length by rw [HL.out]; exact hlt)
              obtain ⟨b2, o2, Ak, ck, rfl, _, hc, hlc, hcm, hrow⟩ := HM.out k r hr
              unfold maxLen at hcm
              by_cases hrq : r.length = n'
              · have tr : ((r.length : Int) != n') = false := bne_f (by omega)
                cases hnum : allNum r
                · have H : Hid (isTabB m b = false) := isTabB_bad hr (.inr hnum)
                  clear hr hrq HT
                  go_wp2_with (go_at_call 65; refine (areNumbers_any _ _ _ B r _ rfl (by omega) hrow).mono ?_; rintro e w' ⟨rfl, rfl⟩)
                  go_ret
                  exact ⟨ret_bool H.out.symm, HB.out⟩
                · have G := Lib.hid (okRows_step hr hrq hnum HT.out)
                  clear hr hrq HT
                  go_wp2_with (go_at_call 65; refine (areNumbers_any _ _ _ B r _ rfl (by omega) hrow).mono ?_; rintro e w' ⟨rfl, rfl⟩)
                  go_round
                  case rel => exact ⟨k + 1, by omega, by go_num, G⟩
                  case measure => simp [intOf]; omega
              · have tr : ((r.length : Int) != n') = true := bne_t (by omega)
                have H : Hid (isTabB m b = false) := isTabB_bad hr (.inl (by rw [HL'.out]; exact hrq))
                clear hr hrq HT
                go_wp2
                go_ret
                exact ⟨ret_bool H.out.symm, HB.out⟩
            · obtain rfl : k = n' := by omega
              have H : Hid (isTabB m b = true) := isTabB_yes HL.out HL'.out (by omega) (by omega) HNB.out HT.out
              clear HT
              go_wp2
              go_ret
              exact ⟨ret_bool H.out.symm, HB.out⟩
      · have H : Hid (isTabB m b = false) := isTabB_len (by rw [HL'.out]; have := HL.out; omega)
        have t0 : ¬ ((n : Int) < 1) := by omega
        have t1 := bne_t (show (n' : Int) ≠ (n : Int) by omega)
        clear h0 hq hx0 hx1
        go_enter Tryz.func35, Tryz.ntmps35
        go_wp2
        go_ret
        exact ⟨ret_bool H.out.symm, by rw [← hW0]; exact HB.out⟩
set_option maxHeartbeats 1600000 in
theorem l09Is_any (A D : Option Addr) (n c n' d B B' : Nat) (m : List (List Int)) (b : List Int) (w : World) (hl : m.length = n) (hl' : b.length = n') (hn : n ≤ 9223372036854775807) (hn' : n' ≤ 9223372036854775807) (hB : B ≤ w.heap.size) (hB' : B' ≤ w.heap.size) (h : Mat w B A m) (r : Row w B' D (ints b)) :
    Calls Tryz.prog 33 #[.agg #[.slice A n c, .slice D n' d]] w fun e w' => e = .returned (.bool (isTabB m b)) ∧ Below w.heap.size w w' := by
  have HL := Lib.hid hl
  have HL' := Lib.hid hl'
  clear hl hl'
  obtain ⟨W0, hW0⟩ : ∃ W0, W0 = w.alloc (.cells #[.slice A n c, .slice D n' d] 29) := ⟨_, rfl⟩
  have HB : Hid (Below w.heap.size w W0) := by rw [hW0]; exact (Below.refl _ _).alloc (Nat.le_refl _) _
  have HM : Hid (Mat W0 B A m) := h.below HB.out hB
  have HR : Hid (Row W0 B' D (ints b)) := r.below HB.out hB'
  have hx := heap_alloc_new w (.cells #[.slice A n c, .slice D n' d] 29)
  have hx0 : W0.cell? ⟨w.heap.size, 0, none⟩ = some (.slice A n c) := by rw [hW0, cell_of_row _ _ 0 _ _ _ hx]; rfl
  have hx1 : W0.cell? ⟨w.heap.size, 1, none⟩ = some (.slice D n' d) := by rw [hW0, cell_of_row _ _ 1 _ _ _ hx]; rfl
  clear h r hx hB hB'
  by_cases h0 : n' = 0
  · have H : Hid (isTabB m b = false) := isTabB_len (by rw [HL'.out]; have := HL.out; omega)
    subst h0
    clear hx0 hx1
    go_enter Tryz.func33, Tryz.ntmps33
    go_wp2
    go_ret
    exact ⟨ret_bool H.out.symm, by rw [← hW0]; exact HB.out⟩
  · by_cases h8 : 8 < n'
    · have H : Hid (isTabB m b = false) := isTabB_len (by rw [HL'.out]; have := HL.out; omega)
      have t0 : ¬ ((n' : Int) < 1) := by omega
      clear h0 hx0 hx1
      go_enter Tryz.func33, Tryz.ntmps33
      go_wp2
      go_ret
      exact ⟨ret_bool H.out.symm, by rw [← hW0]; exact HB.out⟩
    · by_cases hq : n = n'
      · subst hq
        have hn1 : 1 ≤ n := by omega
        have t0 : ¬ ((n : Int) < 1) := by omega
        clear h0
        cases hnb : allNum b
        · have H : Hid (isTabB m b = false) := isTabB_num hnb
          go_enter Tryz.func33, Tryz.ntmps33
          go_wp2_with fail
          rw [← hW0]
          refine (l01Numbers_any _ _ _ B' b _ HL'.out (by omega) HR.out).mono ?_
          rintro e w' ⟨rfl, rfl⟩
          rw [hnb]
          clear hW0 hx0 hx1
          go_wp2
          go_ret
          exact ⟨ret_bool H.out.symm, HB.out⟩
        · go_enter Tryz.func33, Tryz.ntmps33
          go_wp2_with fail
          rw [← hW0]
          refine (l01Numbers_any _ _ _ B' b _ HL'.out (by omega) HR.out).mono ?_
          rintro e w' ⟨rfl, rfl⟩
          rw [hnb]
          have HNB := Lib.hid hnb
          clear hW0 hnb
          go_wp2_with fail
          go_loop [4] (fun i => ∃ k : Nat, k ≤ n ∧ i = .int .i64 k ∧ Hid (okRows n (m.take k) = true)) (fun i => n - (intOf i).toNat)
          case atStart => exact ⟨0, Nat.zero_le _, rfl, rfl⟩
          case round =>
            obtain ⟨k, hk, rfl, HT⟩ := hrel
            by_cases hlt : k < n
            · obtain ⟨r, hr⟩ := at_lt (show k < m.length by rw [HL.out]; exact hlt)
              obtain ⟨b2, o2, Ak, ck, rfl, _, hc, hlc, hcm, hrow⟩ := HM.out k r hr
              unfold maxLen at hcm
              by_cases hrq : r.length = n
              · have tr : ((r.length : Int) != n) = false := bne_f (by omega)
                cases hnum : allNum r
                · have H : Hid (isTabB m b = false) := isTabB_bad hr (.inr hnum)
                  clear hr hrq HT
                  go_wp2_with fail
                  refine (l01Numbers_any _ _ _ B r _ rfl (by omega) hrow).mono ?_
                  rintro e w' ⟨rfl, rfl⟩
                  rw [hnum]
                  go_wp2
                  go_ret
                  exact ⟨ret_bool H.out.symm, HB.out⟩
                · have G := Lib.hid (okRows_step hr hrq hnum HT.out)
                  clear hr hrq HT
                  go_wp2_with fail
                  refine (l01Numbers_any _ _ _ B r _ rfl (by omega) hrow).mono ?_
                  rintro e w' ⟨rfl, rfl⟩
                  rw [hnum]
                  go_wp2
                  go_round
                  case rel => exact ⟨k + 1, by omega, by go_num, G⟩
                  case measure => simp [intOf]; omega
              · have tr : ((r.length : Int) != n) = true := bne_t (by omega)
                have H : Hid (isTabB m b = false) := isTabB_bad hr (.inl (by rw [HL'.out]; exact hrq))
                clear hr hrq HT
                go_wp2
                go_ret
                exact ⟨ret_bool H.out.symm, HB.out⟩
            · obtain rfl : k = n := by omega
              have H : Hid (isTabB m b = true) := isTabB_yes HL.out HL'.out (by omega) (by omega) HNB.out HT.out
              clear HT
              go_wp2
              go_ret
              exact ⟨ret_bool H.out.symm, HB.out⟩
      · have H : Hid (isTabB m b = false) := isTabB_len (by rw [HL'.out]; have := HL.out; omega)
        have t0 : ¬ ((n' : Int) < 1) := by omega
        have t1 := bne_t (show (n : Int) ≠ (n' : Int) by omega)
        clear h0 hq hx0 hx1
        go_enter Tryz.func33, Tryz.ntmps33
        go_wp2
        go_ret
        exact ⟨ret_bool H.out.symm, by rw [← hW0]; exact HB.out⟩
end Go.Proofs.YtolkbbbbahhfaaaGreat
/-
  Systems of the program's: rows of numbers, each of the call's own, apart from each other: a number is stored, two rows change places.
-/
namespace Go.Proofs.YtolkbbbbahhfaaaGreat
open Go.RowKit Fld
set_option linter.unusedVariables false
set_option linter.unusedSimpArgs false
set_option maxRecDepth 100000

/-- a list of lists of the call's own: its rows lie apart -/
structure OwnSys (w : World) (lo hi : Nat) (v : Value) (n : Nat) (m : List (List Int)) (vs : List Value) : Prop where
  outer : OwnR w lo hi 59 v n vs
  len : vs.length = m.length
  inner : ∀ (r : Nat) (row : List Int), m[r]? = some row → ∃ A c, vs[r]? = some (.slice A row.length c) ∧ OwnR w lo hi 54 (.slice A row.length c) row.length (ints row)
  apart : ∀ (r s : Nat) (u t : Value) (g : Nat), r ≠ s → vs[r]? = some u → vs[s]? = some t → u.ownBlock = some g → t.ownBlock ≠ some g
theorem OwnSys.keep {w w' : World} {lo hi n : Nat} {v : Value} {m : List (List Int)} {vs : List Value} (h : OwnSys w lo hi v n m vs) (hk : ∀ g, lo ≤ g → g < hi → w'.heap[g]? = w.heap[g]?) : OwnSys w' lo hi v n m vs :=
  ⟨h.outer.keep hk, h.len, fun r row hr => by obtain ⟨A, c, h1, h2⟩ := h.inner r row hr; exact ⟨A, c, h1, h2.keep hk⟩, h.apart⟩
theorem OwnSys.below {w w' : World} {lo hi n B : Nat} {v : Value} {m : List (List Int)} {vs : List Value} (h : OwnSys w lo hi v n m vs) (hb : Below B w w') (hB : hi ≤ B) : OwnSys w' lo hi v n m vs := h.keep fun g _ hg => hb.block g (by omega)
theorem OwnSys.within {w w' : World} {lo hi lo' hi' n : Nat} {v : Value} {m : List (List Int)} {vs : List Value} (h : OwnSys w lo hi v n m vs) (hb : Within lo' hi' w w') (hs : hi ≤ w.heap.size) (hd : hi ≤ lo' ∨ hi' ≤ lo) : OwnSys w' lo hi v n m vs :=
  h.keep fun g h1 h2 => hb.block g (by omega) (by omega)
theorem OwnSys.more {w : World} {lo hi lo' hi' n : Nat} {v : Value} {m : List (List Int)} {vs : List Value} (h : OwnSys w lo hi v n m vs) (h1 : lo' ≤ lo) (h2 : hi ≤ hi') : OwnSys w lo' hi' v n m vs :=
  ⟨h.outer.more h1 h2, h.len, fun r row hr => by obtain ⟨A, c, h3, h4⟩ := h.inner r row hr; exact ⟨A, c, h3, h4.more h1 h2⟩, h.apart⟩
theorem OwnSys.mat {w : World} {lo hi n c : Nat} {A : Option Addr} {m : List (List Int)} {vs : List Value} (h : OwnSys w lo hi (.slice A n c) n m vs) : Mat w hi A m := by
  intro k r hr
  obtain ⟨Ak, ck, h1, h2⟩ := h.inner k r hr
  obtain ⟨b, o, e, hb, hc⟩ := h.outer.row k _ h1
  have := own_cap h2.1
  exact ⟨b, o, Ak, ck, e, hb, hc, this.1, this.2, h2.row⟩
theorem OwnSys.drewN {w : World} {lo hi n : Nat} {v : Value} {m : List (List Int)} {vs : List Value} (h : OwnSys w lo hi v n m vs) (k : Nat) : OwnSys (w.drewN k) lo hi v n m vs := h.keep fun _ _ _ => rfl
theorem OwnSys.size {w : World} {lo hi n : Nat} {v : Value} {m : List (List Int)} {vs : List Value} (h : OwnSys w lo hi v n m vs) : m.length = n := by
  have := own_len h.outer.1; have := h.len; omega
/-- one row of it is written anew, in its place -/
theorem OwnSys.set_row {w w' : World} {lo hi n r q c : Nat} {v : Value} {A : Option Addr} {m : List (List Int)} {vs : List Value} {row' : List Int} (h : OwnSys w lo hi v n m vs) (hr : vs[r]? = some (.slice A q c)) (hq : row'.length = q)
    (h1 : w'.ownsRow lo 54 1 (.slice A q c) q (ints row')) (hg : w.grownBy w' (Value.ownBlock (.slice A q c))) : OwnSys w' lo hi v n (m.set r row') vs := by
  have hrl : r < m.length := by
    rcases Nat.lt_or_ge r m.length with g | g
    · exact g
    · rw [List.getElem?_eq_none (by rw [h.len]; exact g)] at hr; cases hr
  obtain ⟨A0, c0, e0, o0⟩ := h.inner r _ (List.getElem?_eq_getElem hrl)
  rw [hr] at e0
  injection e0 with e0
  injection e0 with eA eq ec
  subst eA ec
  have hot : w.ownsRow lo 54 1 (.slice A q c) q (ints m[r]) := by rw [eq]; exact o0.1
  refine ⟨h.outer.grown hg ?_, by rw [List.length_set]; exact h.len, ?_, h.apart⟩
  · exact own_types h.outer.1 hot (by decide)
  · intro s row hs
    by_cases hsr : r = s
    · subst hsr
      rw [List.getElem?_set_self (by exact hrl)] at hs
      injection hs with hs
      subst hs
      refine ⟨A, c, by rw [hq]; exact hr, ⟨by rw [hq]; exact h1, ?_⟩⟩
      rw [hq, eq]; exact o0.2
    · rw [List.getElem?_set_ne hsr] at hs
      obtain ⟨A2, c2, e2, o2⟩ := h.inner s row hs
      refine ⟨A2, c2, e2, o2.grown hg ?_⟩
      cases hb : Value.ownBlock (.slice A2 row.length c2) with
      | none => exact .inl rfl
      | some g => exact .inr (fun e => h.apart s r _ _ g (Ne.symm hsr) e2 hr hb e.symm)

/-- a number is stored -/
theorem OwnSys.put {w : World} {lo hi n r k g c : Nat} {v : Value} {m : List (List Int)} {vs : List Value} {row : List Int} {x : Int} (h : OwnSys w lo hi v n m vs) (hr : m[r]? = some row) (hv : vs[r]? = some (.slice (some ⟨g, 0, none⟩) row.length c)) :
    OwnSys (w.setCell ⟨g, k, none⟩ (.int .i64 x)) lo hi v n (m.set r (row.set k x)) vs := by
  obtain ⟨A0, c0, e0, o0⟩ := h.inner r row hr
  rw [hv] at e0
  injection e0 with e0
  injection e0 with eA eq ec
  subst eA ec
  obtain ⟨h1, h2⟩ := o0.1.stored k (.int .i64 x)
  refine h.set_row hv (by rw [List.length_set]) ?_ h2
  have e : (ints row).set k (.int .i64 x) = ints (row.set k x) := by unfold ints intsK; rw [List.map_set]
  rw [e] at h1
  exact h1
/-- two places of a list change -/
def swapL {α : Type} (l : List α) (p q : Nat) (a b : α) : List α := (l.set p b).set q a
theorem swapL_at {α : Type} {l : List α} {p q : Nat} {a b : α} (hp : l[p]? = some a) (hq : l[q]? = some b) (i : Nat) : (swapL l p q a b)[i]? = l[if i = p then q else if i = q then p else i]? := by
  have hpl : p < l.length := by
    rcases Nat.lt_or_ge p l.length with g | g
    · exact g
    · rw [List.getElem?_eq_none g] at hp; cases hp
  have hql : q < l.length := by
    rcases Nat.lt_or_ge q l.length with g | g
    · exact g
    · rw [List.getElem?_eq_none g] at hq; cases hq
  unfold swapL
  rw [List.getElem?_set, List.getElem?_set]
  by_cases e1 : q = i
  · subst e1
    rw [if_pos rfl, if_pos (by rw [List.length_set]; exact hql)]
    by_cases e2 : q = p
    · subst e2; rw [if_pos rfl, hp]
    · rw [if_neg e2, if_pos rfl, hp]
  · rw [if_neg e1]
    by_cases e2 : p = i
    · subst e2; rw [if_pos rfl, if_pos hpl, if_pos rfl, hq]
    · rw [if_neg e2, if_neg (fun e => e2 e.symm), if_neg (fun e => e1 e.symm)]
/-- two rows change places -/
theorem OwnSys.swap {w : World} {lo hi n p q g c : Nat} {m : List (List Int)} {vs : List Value} {r s : List Int} {u t : Value} (h : OwnSys w lo hi (.slice (some ⟨g, 0, none⟩) n c) n m vs)
    (hp : m[p]? = some r) (hq : m[q]? = some s) (hu : vs[p]? = some u) (ht : vs[q]? = some t) :
    OwnSys ((w.setCell ⟨g, p, none⟩ t).setCell ⟨g, q, none⟩ u) lo hi (.slice (some ⟨g, 0, none⟩) n c) n (swapL m p q r s) (swapL vs p q u t) := by
  obtain ⟨h1, h2⟩ := h.outer.1.stored p t
  obtain ⟨h3, h4⟩ := h1.stored q u
  refine ⟨⟨h3, h.outer.2⟩, by unfold swapL; simp [h.len], ?_, ?_⟩
  · intro i row hi
    rw [swapL_at hp hq] at hi
    obtain ⟨A, c', e, o⟩ := h.inner _ row hi
    refine ⟨A, c', by rw [swapL_at hu ht]; exact e, ?_⟩
    have hne := own_types o.1 h.outer.1 (by decide)
    exact (o.grown h2 hne).grown h4 hne
  · intro i j a b gg hij ha hb hg
    rw [swapL_at hu ht] at ha hb
    refine h.apart _ _ a b gg ?_ ha hb hg
    split <;> split <;> (try split) <;> (try split) <;> omega
end Go.Proofs.YtolkbbbbahhfaaaGreat
/-
  The copy of a matrix as a system of the program's.
-/
namespace Go.Proofs.YtolkbbbbahhfaaaGreat
open Go.RowKit Fld
set_option linter.unusedVariables false
set_option linter.unusedSimpArgs false
set_option maxRecDepth 100000

/-- a new row is laid into a place of the outer row -/
theorem OwnSys.put_row {w : World} {lo hi hi' n k q c g cap : Nat} {A : Option Addr} {m : List (List Int)} {vs : List Value} {row : List Int} (h : OwnSys w lo hi (.slice (some ⟨g, 0, none⟩) n cap) n m vs) (hk : k < m.length) (hq : row.length = q)
    (ho : OwnR w hi hi' 54 (.slice A q c) q (ints row)) (hl : lo ≤ hi) (hh : hi ≤ hi') : OwnSys (w.setCell ⟨g, k, none⟩ (.slice A q c)) lo hi' (.slice (some ⟨g, 0, none⟩) n cap) n (m.set k row) (vs.set k (.slice A q c)) := by
  have hs := h.outer.1.stored k (.slice A q c)
  have hg2 : ∀ g', Value.ownBlock (.slice A q c) = some g' → hi ≤ g' := fun g' e => (ho.1.lt g' e).1
  refine ⟨⟨hs.1, fun g' e => by have := h.outer.2 g' e; omega⟩, by rw [List.length_set, List.length_set]; exact h.len, ?_, ?_⟩
  · intro s r hr
    by_cases hsk : k = s
    · subst hsk
      rw [List.getElem?_set_self hk] at hr
      injection hr with hr
      subst hr
      subst hq
      refine ⟨A, c, by rw [List.getElem?_set_self (by rw [h.len]; exact hk)], ?_⟩
      exact (ho.more hl (Nat.le_refl _)).grown hs.2 ((own_types ho.1 h.outer.1 (by decide)).imp id (fun e => e))
    · rw [List.getElem?_set_ne hsk] at hr
      obtain ⟨A2, c2, e2, o2⟩ := h.inner s r hr
      exact ⟨A2, c2, by rw [List.getElem?_set_ne hsk]; exact e2, (o2.more (Nat.le_refl _) hh).grown hs.2 ((own_types o2.1 h.outer.1 (by decide)).imp id (fun e => e))⟩
  · intro r s u t g' hne hu ht hb hb'
    by_cases hrk : k = r
    · subst hrk
      have hks : k ≠ s := hne
      rw [List.getElem?_set_self (by rw [h.len]; exact hk)] at hu
      rw [List.getElem?_set_ne hks] at ht
      injection hu with hu
      subst hu
      have h1 := hg2 g' hb
      have hsl : s < m.length := by
        rcases Nat.lt_or_ge s m.length with x | x
        · exact x
        · rw [List.getElem?_eq_none (by rw [h.len]; exact x)] at ht; cases ht
      obtain ⟨A2, c2, e2, o2⟩ := h.inner s _ (List.getElem?_eq_getElem hsl)
      rw [ht] at e2
      injection e2 with e2
      subst e2
      have := o2.2 g' hb'
      omega
    · rw [List.getElem?_set_ne hrk] at hu
      by_cases hsk : k = s
      · subst hsk
        rw [List.getElem?_set_self (by rw [h.len]; exact hk)] at ht
        injection ht with ht
        subst ht
        have h1 := hg2 g' hb'
        have hrl : r < m.length := by
          rcases Nat.lt_or_ge r m.length with x | x
          · exact x
          · rw [List.getElem?_eq_none (by rw [h.len]; exact x)] at hu; cases hu
        obtain ⟨A2, c2, e2, o2⟩ := h.inner r _ (List.getElem?_eq_getElem hrl)
        rw [hu] at e2
        injection e2 with e2
        subst e2
        have := o2.2 g' hb
        omega
      · rw [List.getElem?_set_ne hsk] at ht
        exact h.apart r s u t g' hne hu ht hb hb'
/-- an outer row of empty rows -/
theorem OwnSys.blank {w w1 : World} {n : Nat} (h : w1.ownsRow w.heap.size 59 1 (.slice (some ⟨w.heap.size, 0, none⟩) n n) n (madeCells (Value.slice none 0 0).cells (n * 1)).toList) (hz : w.heap.size < w1.heap.size) :
    OwnSys w1 w.heap.size w1.heap.size (.slice (some ⟨w.heap.size, 0, none⟩) n n) n (List.replicate n []) (List.replicate n (.slice none 0 0)) := by
  have e : (madeCells (Value.slice none 0 0).cells (n * 1)).toList = List.replicate n (.slice none 0 0) := by rw [Nat.mul_one]; exact toList_madeCells_one _ _
  rw [e] at h
  refine ⟨⟨h, fun g hg => by have : w.heap.size = g := (by simpa [Value.ownBlock] using hg); omega⟩, by simp, ?_, ?_⟩
  · intro r row hr
    rw [List.getElem?_replicate] at hr
    split at hr
    · rename_i hlt
      injection hr with hr
      subst hr
      exact ⟨none, 0, by rw [List.getElem?_replicate, if_pos hlt]; rfl, World.ownsRow_nil _ _ _ _, fun g hg => by simp [Value.ownBlock] at hg⟩
    · cases hr
  · intro r s u t g hne hu ht hb
    rw [List.getElem?_replicate] at hu
    split at hu
    · injection hu with hu; subst hu; simp [Value.ownBlock] at hb
    · cases hu
/-- a new list of lists -/
def NewSys (n : Nat) (m : List (List Int)) (w : World) (e : Ending) (w' : World) : Prop :=
  ∃ A c vs, e = .returned (.slice A n c) ∧ OwnSys w' w.heap.size w'.heap.size (.slice A n c) n m vs ∧ Below w.heap.size w w'
/-- the rows up to k are filled -/
def FillS (w : World) (n : Nat) (m : List (List Int)) (k : Nat) (wr : World) : Prop :=
  ∃ vs, OwnSys wr w.heap.size wr.heap.size (.slice (some ⟨w.heap.size, 0, none⟩) n n) n (m.take k ++ List.replicate (n - k) []) vs ∧ Below w.heap.size w wr ∧ w.heap.size < wr.heap.size
theorem fillS_step {m : List (List Int)} {n k : Nat} {r : List Int} (hl : m.length = n) (h : m[k]? = some r) : (m.take k ++ List.replicate (n - k) []).set k r = m.take (k + 1) ++ List.replicate (n - (k + 1)) [] := by
  have hk : k < n := by
    rcases Nat.lt_or_ge k n with g | g
    · exact g
    · rw [List.getElem?_eq_none (by omega)] at h; cases h
  have e1 : (m.take k).length = k := by simp; omega
  rw [List.set_append, if_neg (by omega), e1, Nat.sub_self, show n - k = (n - (k + 1)) + 1 from by omega, List.replicate_succ, List.set_cons_zero, List.take_add_one, h]
  simp
theorem FillS.step {w wr w2 : World} {n k c : Nat} {A : Option Addr} {m : List (List Int)} {row : List Int} (h : FillS w n m k wr) (hl : m.length = n) (hr : m[k]? = some row)
    (ho : w2.ownsRow wr.heap.size 54 1 (.slice A row.length c) row.length (ints row)) (hb : Below wr.heap.size wr w2) : FillS w n m (k + 1) (w2.setCell ⟨w.heap.size, k, none⟩ (.slice A row.length c)) := by
  obtain ⟨vs, h1, h2, h3⟩ := h
  have hk : k < n := by
    rcases Nat.lt_or_ge k n with g | g
    · exact g
    · rw [List.getElem?_eq_none (by omega)] at hr; cases hr
  have hlen : (m.take k ++ List.replicate (n - k) []).length = n := by simp; omega
  have h4 := (h1.below hb (Nat.le_refl _)).put_row (k := k) (by omega) rfl (OwnR.of ho) (by omega) hb.size
  rw [fillS_step hl hr] at h4
  have hsz : (w2.setCell ⟨w.heap.size, k, none⟩ (.slice A row.length c)).heap.size = w2.heap.size := by simp [World.setCell]
  exact ⟨_, by rw [hsz]; exact h4, below_set (h2.trans (hb.mono (by omega))) (Nat.le_refl _) _, by rw [hsz]; have := hb.size; omega⟩
theorem FillS.done {w wr : World} {n : Nat} {m : List (List Int)} (h : FillS w n m n wr) (hl : m.length = n) : NewSys n m w (.returned (.slice (some ⟨w.heap.size, 0, none⟩) n n)) wr := by
  obtain ⟨vs, h1, h2, _⟩ := h
  rw [Nat.sub_self, List.take_of_length_le (by omega)] at h1
  simp only [List.replicate_zero, List.append_nil] at h1
  exact ⟨_, _, vs, rfl, h1, h2⟩
theorem FillS.start {w w1 : World} {n : Nat} {m : List (List Int)} (h : w1.ownsRow w.heap.size 59 1 (.slice (some ⟨w.heap.size, 0, none⟩) n n) n (madeCells (Value.slice none 0 0).cells (n * 1)).toList) (hg : w.grownBy w1 none) : FillS w n m 0 w1 := by
  have hz : w.heap.size < w1.heap.size := (h.lt w.heap.size rfl).2
  refine ⟨List.replicate n (.slice none 0 0), ?_, (Below.refl _ _).grown hg (Nat.le_refl _) (fun k hk => by cases hk), hz⟩
  simp only [List.take_zero, List.nil_append, Nat.sub_zero]
  exact OwnSys.blank h hz
theorem FillS.cell {w wr w2 : World} {n k : Nat} {m : List (List Int)} (h : FillS w n m k wr) (hl : m.length = n) (hk : k < n) (hb : Below wr.heap.size wr w2) :
    (∃ u, w2.cell? ⟨w.heap.size, k, none⟩ = some u) ∧ w2.frozen? ⟨w.heap.size, k, none⟩ = false := by
  obtain ⟨vs, h1, _, h3⟩ := h
  have h2 := (h1.below hb (Nat.le_refl _)).outer.1
  refine ⟨?_, h2.frozenAt k⟩
  have e := h2.cellAt k (by omega)
  have hv : k < vs.length := by rw [own_len h2]; exact hk
  rw [List.getElem?_eq_getElem hv] at e
  exact ⟨_, e⟩


/-- an append of no cells at all -/
theorem run_append_none {P : Program} (w : World) (t tn ty e : TypeId) (i : TypeInfo) (ht : P.underlying t = some (.slice e)) (htn : P.underlying tn = some (.int .i64)) (hi : P.info? e = some i)
    (base : Option Addr) (n c : Nat) (hc : n ≤ c) : (Builtin.append_ #[t, tn] ty #[.slice base n c, .int .i64 0]).run P w = .ok (.slice base n c) w := by
  have hw : IntKind.i64.wrap (0 : Int) = 0 := by decide
  cases base <;> simp [Builtin.append_, run_underlying ht, run_underlying htn, sizeOf, typeInfo, hi, asInt, asIntOf, hw, hc, storeCells]
theorem wpList_append_none {P : Program} (w : World) {ops : Array Oper} {rest : List Oper} {o : Oper} {a : Act} {Q : Exit → Act → World → Prop}
    (hg : o.guard = none) (s x : Operand) (t tn : TypeId) (hop : o.op = Op.call { callee := Callee.builtin Builtin.append, args := #[s, x], argTypes := #[t, tn] })
    (e : TypeId) (i : TypeInfo) (ht : P.underlying t = some (.slice e)) (htn : P.underlying tn = some (.int .i64)) (hi : P.info? e = some i)
    (base : Option Addr) (n c : Nat) (hc : n ≤ c) (hs : a.eval s = .slice base n c) (hx : a.eval x = .int .i64 0)
    (hK : wpList P ops Q rest (a.put o.dst (.slice base n c)) w) : wpList P ops Q (o :: rest) a w := by
  refine wpList_plain hg fun K hK' => ?_
  have hrun := run_append_none w t tn o.type e i ht htn hi base n c hc
  unfold Oper.wp
  simp [execOp, hop, resolve, invoke, builtin, hs, hx, hrun, Result.andThen]
  exact hK' _ _ hK
theorem info_sysrow : (Tryz.prog.info? 59).map (fun i => (i.zero, i.size, i.bytes)) = some (some (.slice none 0 0), 1, 24) := by kernel_rfl
set_option maxHeartbeats 800000 in
theorem systemOf_any (A : Option Addr) (n c B q : Nat) (m : List (List Int)) (w : World) (hl : m.length = n) (hn : n ≤ 8) (hq : Wide m q) (hq16 : q ≤ 16) (hB : B ≤ w.heap.size) (h : Mat w B A m) :
    Calls Tryz.prog 66 #[.slice A n c, .int .i64 0] w (NewSys n m w) := by
  obtain ⟨i0, hi, hz0, hz1, hz2⟩ := info_parts info_sysrow
  obtain ⟨j0, hj, _, _, _⟩ := info_parts numbersOf_any_info
  have HL := Lib.hid hl
  have HQ := Lib.hid hq
  clear hl hq
  go_enter Tryz.func66, Tryz.ntmps66
  go_wp2_with (at_make; refine wpList_make_full _ rfl (.tmp 9) (.tmp 9) 58 rfl w.heap.size 59 i0 _ 1 Tryz.underlying58 hi hz0 hz1 .i64 .i64 _ _ n rfl rfl rfl rfl (by rw [hz2]; omega) (by simp only [maxLen]; omega) (Nat.le_refl _) ?_; intro w1 hown hg)
  have F0 := FillS.start (m := m) hown hg
  clear hown hg hz0 hz1 hz2 hi
  go_loopw [13] (fun i wr => ∃ k : Nat, k ≤ n ∧ i = .int .i64 k ∧ FillS w n m k wr) (fun i _ => n - (intOf i).toNat)
  case atStart => exact ⟨0, Nat.zero_le _, rfl, F0⟩
  case round =>
    obtain ⟨k, hk, rfl, HF⟩ := hrel
    by_cases hlt : k < n
    · obtain ⟨r, hr⟩ := at_lt (show k < m.length by rw [HL.out]; exact hlt)
      have hrq := HQ.out.at_ hr
      obtain ⟨vs, hvs, hbel, hsz⟩ := id HF
      obtain ⟨b, o, Ak, ck, rfl, _, hc, hlc, hcm, hrow⟩ := h.below hbel hB k r hr
      have hrl : r.length ≤ 1048576 := by omega
      have HF' := Lib.hid HF
      have HR := Lib.hid hr
      have hBs := hbel.size
      have k0 : (0 : Int) ≤ (k : Int) := Int.natCast_nonneg _
      have k1 : (k : Int) < (n : Int) := by omega
      clear hr F0 HF hvs hbel hrq
      go_wp2_with fail
      refine (numbersOf_any Ak r.length ck B r _ rfl hrl (by omega) hrow).mono ?_
      rintro e w2 ⟨A2, c2, rfl, own2, be2⟩
      obtain ⟨⟨u, hu⟩, hf⟩ := HF'.out.cell HL.out hlt be2
      have hcap2 := (own_cap own2).1
      have G := Lib.hid (HF'.out.step HL.out HR.out own2 be2)
      clear own2
      go_wp2_with (at_builtin; refine wpList_append_none _ rfl (.tmp 21) (.tmp 22) 59 3 rfl 54 j0 Tryz.underlying59 Tryz.underlying3 hj A2 r.length c2 hcap2 rfl rfl ?_)
      go_roundw
      case rel => exact ⟨k + 1, by omega, by go_num, G.out⟩
      case measure => simp [intOf]; omega
    · obtain rfl : k = n := by omega
      have G := Lib.hid (HF.done HL.out)
      clear HF F0
      go_wp2
      go_ret
      exact G.out
end Go.Proofs.YtolkbbbbahhfaaaGreat
/-
  The program's copy of a tableau.
-/
namespace Go.Proofs.YtolkbbbbahhfaaaGreat
open Go.RowKit Fld
set_option linter.unusedVariables false
set_option linter.unusedSimpArgs false
set_option maxRecDepth 100000

theorem cell_othT {w : World} {b g k : Nat} {o : Nat} {v x : Value} (h : w.cell? ⟨b, o, none⟩ = some x) (hne : b ≠ g) : (w.setCell ⟨g, k, none⟩ v).cell? ⟨b, o, none⟩ = some x :=
  (World.cell?_of_block (heap_setCell_other w ⟨g, k, none⟩ b v hne)).trans h
/-- a new scheme: rows and numbers that can be read -/
def NewSch (n n' : Nat) (m : List (List Int)) (b : List Int) (w : World) (e : Ending) (w' : World) : Prop :=
  ∃ A c D d, e = .returned (.agg #[.slice A n c, .slice D n' d]) ∧ n ≤ c ∧ n' ≤ d ∧ Mat w' w'.heap.size A m ∧ Row w' w'.heap.size D (ints b) ∧ Below w.heap.size w w'
theorem info_sch : (Tryz.prog.info? 61).map (·.size) = some 2 := by kernel_rfl
set_option maxHeartbeats 2000000 in
theorem schemeOf_any (A D : Option Addr) (n c n' d B B' q : Nat) (m : List (List Int)) (b : List Int) (w : World) (hl : m.length = n) (hl' : b.length = n') (hn : n ≤ 8) (hq : Wide m q) (hq16 : q ≤ 16) (hn' : n' ≤ 1048576) (hB : B ≤ w.heap.size) (hB' : B' ≤ w.heap.size) (h : Mat w B A m) (r : Row w B' D (ints b)) :
    Calls Tryz.prog 36 #[.agg #[.slice A n c, .slice D n' d]] w (NewSch n n' m b w) := by
  have HL := Lib.hid hl
  have HL' := Lib.hid hl'
  have HQ := Lib.hid hq
  obtain ⟨W0, hW0⟩ : ∃ W0, W0 = (w.alloc (.cells #[.slice A n c, .slice D n' d] 29)).alloc (.cells #[.slice none 0 0, .slice none 0 0] 61) := ⟨_, rfl⟩
  have FB : Below w.heap.size w W0 := by rw [hW0]; exact ((Below.refl _ _).alloc (Nat.le_refl _) _).alloc (by simp) _
  have FS : W0.heap.size = w.heap.size + 2 := by rw [hW0]; simp
  have F0 : Bx W0 w.heap.size 29 (.slice A n c) (.slice D n' d) := by
    rw [hW0]; exact (Bx.new w _ _ _).next ((Below.refl _ _).alloc (Nat.le_refl _) _)
  have F1 : Bx W0 (w.heap.size + 1) 61 (.slice none 0 0) (.slice none 0 0) := by
    rw [hW0]; have := Bx.new (w.alloc (.cells #[.slice A n c, .slice D n' d] 29)) 61 (.slice none 0 0) (.slice none 0 0); simpa using this
  have HM := Lib.hid (h.below FB hB)
  have HR := Lib.hid (r.below FB hB')
  have T1 := fun W (hW : Below W0.heap.size W0 W) => systemOf_any A n c B q m W HL.out hn HQ.out hq16 (by have := hW.size; have := FB.size; omega) (HM.out.below hW (by have := FB.size; omega))
  have T2 := fun W (hW : Below W0.heap.size W0 W) => numbersOf_any D n' d B' b W HL'.out hn' (by have := hW.size; have := FB.size; omega) (HR.out.below hW (by have := FB.size; omega))
  have HK : Hid (∀ W, Below W0.heap.size W0 W → W.cell? ⟨w.heap.size, 0, none⟩ = some (.slice A n c) ∧ W.cell? ⟨w.heap.size, 1, none⟩ = some (.slice D n' d)) := fun W hb => ⟨(F0.next hb).c0, (F0.next hb).c1⟩
  have H2 : Hid (∀ W, Below W0.heap.size W0 W → Bx W (w.heap.size + 1) 61 (.slice none 0 0) (.slice none 0 0)) := fun W hb => F1.next hb
  have HB := Lib.hid FB
  have HS := Lib.hid FS
  clear F0 F1 FB FS hl hl' hq h r hB hB'
  go_enter Tryz.func36, Tryz.ntmps36
  go_wp2_with fail
  change Code.wp _ _ _ _ ((w.alloc (.cells #[.slice A n c, .slice D n' d] 29)).alloc (.cells #[.slice none 0 0, .slice none 0 0] 61))
  rw [← hW0]
  clear hW0
  go_region_held3 (fun W => W.cell? ⟨w.heap.size, 0, none⟩ = some (.slice A n c) ∧ W.cell? ⟨w.heap.size, 1, none⟩ = some (.slice D n' d))
    (first | exact HK.out _ (Below.refl _ _).drew | exact HK.out _ (below_drewN (Below.refl _ _) _) | exact HK.out _ (below_undrawn (a := 1) bel2) | exact HK.out w3 ((below_undrawn (a := 1) bel2).trans (bel3.mono bel2.size)) | (have hz := HK.out w3 ((below_undrawn (a := 1) bel2).trans (bel3.mono bel2.size)); exact ⟨cell_othT (cell_othT hz.1 (by omega)) (by omega), cell_othT (cell_othT hz.2 (by omega)) (by omega)⟩))
    (first
      | (go_at_call 66; refine (T1 _ (by first | exact (Below.refl _ _).drew | exact below_drewN (Below.refl _ _) _)).mono ?_; clear T1; rintro e w2 ⟨A2, c2, vs2, rfl, own2, bel2⟩)
      | (go_at_call 67; refine (T2 _ (by exact below_undrawn (a := 1) bel2)).mono ?_; clear T2; rintro e w3 ⟨A3, c3, rfl, own3, bel3⟩)
      | (have hz := H2.out w3 ((below_undrawn (a := 1) bel2).trans (bel3.mono bel2.size)); have z0 := hz.c0; have z1 := hz.c1; have f0 := hz.free 0; have f1 := hz.free 1; clear hz; go_simp))
  have hb3 : Below W0.heap.size W0 w3 := (below_undrawn (a := 1) bel2).trans (bel3.mono bel2.size)
  have hz2 : W0.heap.size ≤ w2.heap.size := bel2.size
  have hz3 := bel3.size
  have R : Bx ((w3.setCell ⟨w.heap.size + 1, 0, none⟩ (.slice A2 n c2)).setCell ⟨w.heap.size + 1, 1, none⟩ (.slice A3 n' c3)) (w.heap.size + 1) 61 (.slice A2 n c2) (.slice A3 n' c3) := (H2.out w3 hb3).stored _ _
  have hk : ∀ g, W0.heap.size ≤ g → ((w3.setCell ⟨w.heap.size + 1, 0, none⟩ (.slice A2 n c2)).setCell ⟨w.heap.size + 1, 1, none⟩ (.slice A3 n' c3)).heap[g]? = w3.heap[g]? := fun g hg => by
    rw [Below.heap_setCell _ _ _ _ (by show g ≠ w.heap.size + 1; have := HS.out; omega), Below.heap_setCell _ _ _ _ (by show g ≠ w.heap.size + 1; have := HS.out; omega)]
  have hsz : ((w3.setCell ⟨w.heap.size + 1, 0, none⟩ (.slice A2 n c2)).setCell ⟨w.heap.size + 1, 1, none⟩ (.slice A3 n' c3)).heap.size = w3.heap.size := by simp [World.setCell]
  have GB : Hid (Below w.heap.size w ((w3.setCell ⟨w.heap.size + 1, 0, none⟩ (.slice A2 n c2)).setCell ⟨w.heap.size + 1, 1, none⟩ (.slice A3 n' c3))) := by
    have h0 : Below w.heap.size w w3 := HB.out.trans (hb3.mono HB.out.size)
    exact below_set (below_set h0 (by omega) _) (by omega) _
  have GM := Lib.hid (((own2.below bel3 (Nat.le_refl _)).keep (fun g h1 h2 => hk g h1)).mat.more (B' := ((w3.setCell ⟨w.heap.size + 1, 0, none⟩ (.slice A2 n c2)).setCell ⟨w.heap.size + 1, 1, none⟩ (.slice A3 n' c3)).heap.size) (by rw [hsz]; exact hz3))
  have GR := Lib.hid (((OwnR.of own3).keep (fun g h1 h2 => hk g (by omega))).row.more (B' := ((w3.setCell ⟨w.heap.size + 1, 0, none⟩ (.slice A2 n c2)).setCell ⟨w.heap.size + 1, 1, none⟩ (.slice A3 n' c3)).heap.size) (by rw [hsz]; exact Nat.le_refl _))
  have hc2 : n ≤ c2 := by
    rcases own2.outer.1.2 with ⟨e1, e2⟩ | ⟨g, cap, cur, e1, _, _, e2, e3, _⟩
    · injection e1 with _ _ e3; subst e3; omega
    · injection e1 with _ _ e4; subst e4; exact e2
  have hc3 := (own_cap own3).1
  have HR2 := Lib.hid R
  clear R own2 own3 bel2 bel3 hb3 hk hsz hz2 hz3
  go_wp2
  refine bodyPost_ret (v := .agg #[.slice A2 n c2, .slice A3 n' c3]) ?_ rfl ⟨A2, c2, A3, c3, rfl, hc2, hc3, GM.out, GR.out, GB.out⟩
  exact results_cell_row rfl _ _ (w.heap.size + 1) 61 _ (0, 0) _ rfl HR2.out Tryz.underlying61 rfl info_sch
end Go.Proofs.YtolkbbbbahhfaaaGreat
/-
  slices.Repeat of the list with one 1.
-/
namespace Go.Proofs.YtolkbbbbahhfaaaGreat
open Go.RowKit Fld
set_option linter.unusedVariables false
set_option linter.unusedSimpArgs false
set_option maxRecDepth 100000

set_option maxHeartbeats 1000000 in
theorem mul64_one (n : Nat) (hn : n ≤ 8) (w : World) : Calls Tryz.prog 186 #[.int .u64 1, .int .u64 (n : Int)] w fun e w' => e = .returned (.tuple #[.int .u64 0, .int .u64 (n : Int)]) ∧ w = w' := by
  have : n = 0 ∨ n = 1 ∨ n = 2 ∨ n = 3 ∨ n = 4 ∨ n = 5 ∨ n = 6 ∨ n = 7 ∨ n = 8 := by omega
  rcases this with rfl | rfl | rfl | rfl | rfl | rfl | rfl | rfl | rfl
  all_goals
    go_enter Tryz.func186, Tryz.ntmps186
    go_wp2
    go_ret2
    exact ⟨rfl, rfl⟩
set_option maxHeartbeats 1000000 in
theorem bitsMul_one (n : Nat) (hn : n ≤ 8) (w : World) : Calls Tryz.prog 180 #[.int .u64 1, .int .u64 (n : Int)] w fun e w' => e = .returned (.tuple #[.int .u64 0, .int .u64 (n : Int)]) ∧ w = w' := by
  go_enter Tryz.func180, Tryz.ntmps180
  go_wp2_with fail
  refine (mul64_one n hn w).mono ?_
  rintro e w' ⟨rfl, rfl⟩
  go_wp2
  go_ret2
  exact ⟨rfl, rfl⟩
def onesK (n k : Nat) : List Value := ints (List.replicate k 1) ++ ints (List.replicate (n - k) 0)
theorem onesK_len {n k : Nat} (h : k ≤ n) : (onesK n k).length = n := by simp [onesK, ints, intsK]; omega
theorem onesK_at {n k j : Nat} (h : j < k) : (onesK n k)[j]? = some (.int .i64 1) := by
  unfold onesK ints intsK
  rw [List.getElem?_append_left (by simp; omega)]
  simp [h]
theorem onesK_all (n : Nat) : onesK n n = ints (List.replicate n 1) := by simp [onesK, ints, intsK]
theorem onesK_put {n k d : Nat} (h : k + d ≤ n) : (onesK n k).take k ++ (ints (List.replicate d 1) ++ (onesK n k).drop (k + d)) = onesK n (k + d) := by
  unfold onesK ints intsK
  rw [List.take_left' (by simp), List.drop_append, List.length_map, List.length_replicate, show k + d - k = d by omega, List.drop_of_length_le (by simp), List.nil_append, ← List.map_drop, List.drop_replicate, show n - k - d = n - (k + d) by omega, ← List.append_assoc, ← List.map_append, List.replicate_append_replicate]
theorem step_copy_row {P : Program} {ops : Array Oper} {o : Oper} {a : Act} {w : World} {K : Act → World → Prop} {Q : Exit → Act → World → Prop} {E : Prop}
    (hg : o.guard = none) (d s : Operand) (dT sT : TypeId) (ho : o.op = .call { callee := .builtin .copy, args := #[d, s], argTypes := #[dT, sT] }) (elem : TypeId) (hu : P.underlying dT = some (.slice elem)) (hsz : (P.info? elem).map (·.size) = some 1)
    (g off dLen dCap : Nat) (ad : Addr) (sLen sCap : Nat) (hd : a.eval d = .slice (some ⟨g, off, none⟩) dLen dCap) (hs : a.eval s = .slice (some ad) sLen sCap)
    (cur : Array Value) (t : TypeId) (hgc : w.heap[g]? = some (.cells cur t (0, 0))) (cs : List Value) (hn : cs.length = Nat.min sLen dLen)
    (hsrc : ∀ j v, cs[j]? = some v → w.cell? (ad.add j) = some v) (hfit : off + cs.length ≤ cur.size) (h1 : ∀ v ∈ cs, v.oneCell' = true)
    (hK : K (a.put o.dst (goInt cs.length)) (w.setRow g (cur.toList.take off ++ (cs ++ cur.toList.drop (off + cs.length))).toArray)) : if Region.wanted o (yielded ops a.tmps) = true then Oper.wp P o a w K Q else E := by
  have hw : Region.wanted o (yielded ops a.tmps) = true := by simp [Region.wanted, hg]
  rw [if_pos hw]
  have hrun := run_copy_row (P := P) w dT sT o.type elem g off dLen dCap ad sLen sCap cur t cs hu hsz hgc hn hsrc hfit h1
  unfold Oper.wp
  simp [execOp, ho, resolve, invoke, builtin, hd, hs, hrun, Result.andThen]
  exact hK
theorem info_numR : (Tryz.prog.info? 54).map (fun i => (i.zero, i.size, i.bytes)) = some (some (.int .i64 0), 1, 8) := by kernel_rfl
theorem info_numS : (Tryz.prog.info? 54).map (·.size) = some 1 := by kernel_rfl
set_option maxHeartbeats 2000000 in
theorem repeat_any (A : Option Addr) (c B n : Nat) (w : World) (hn1 : 1 ≤ n) (hn : n ≤ 8) (hB : B ≤ w.heap.size) (h : Row w B A (ints [1])) :
    Calls Tryz.prog 161 #[.slice A 1 c, .int .i64 (n : Int)] w (NewRow 54 n (ints (List.replicate n 1)) w) := by
  obtain ⟨i0, hi, hz0, hz1, hz2⟩ := info_parts info_numR
  obtain ⟨ba, oa, rfl, hba, hca⟩ := h 0 _ rfl
  rw [Nat.add_zero] at hca
  have t0 : ¬ ((n : Int) < 0) := by omega
  go_enter Tryz.func161, Tryz.ntmps161
  go_wp2_with (first | (go_at_call 180; refine (bitsMul_one n hn w).mono ?_; rintro e w' ⟨rfl, rfl⟩) | (at_make; refine wpList_make_full _ rfl (.tmp 29) (.tmp 29) 59 rfl w.heap.size 54 i0 _ 1 Tryz.underlying59 hi hz0 hz1 .i64 .i64 _ _ n rfl rfl rfl rfl (by rw [hz2]; omega) (by simp only [maxLen]; omega) (Nat.le_refl _) ?_; intro w1 hown hg))
  have hz : w.heap.size < w1.heap.size := (hown.lt w.heap.size rfl).2
  have hB1 : Below w.heap.size w w1 := (Below.refl _ _).grown hg (Nat.le_refl _) (fun k hk => by cases hk)
  obtain ⟨cur, hcur, hcs, hct⟩ : ∃ cur : Array Value, w1.heap[w.heap.size]? = some (.cells cur 54 (0, 0)) ∧ cur.size = n ∧ cur.toList = List.replicate n (.int .i64 0) := by
    rcases hown.2 with ⟨e, _⟩ | ⟨g, cap, cur, e, _, h2, _, _, h3, h4⟩
    · cases e
    · injection e with e1 _ e3
      injection e1 with e1
      injection e1 with e1
      subst e1 e3
      refine ⟨cur, h2, by omega, ?_⟩
      rw [List.take_of_length_le (by rw [Array.length_toList]; omega), Nat.mul_one] at h4
      rw [h4]; exact toList_madeCells_one _ _
  have hca1 : w1.cell? ⟨ba, oa, none⟩ = some (.int .i64 1) := (hB1.cell (p := ⟨ba, oa, none⟩) (by show ba < _; omega)).trans hca
  have HB1 := Lib.hid hB1
  have HCT := Lib.hid hct
  clear hown hg hz0 hz1 hz2 hi hB1 hct
  have hmin : (1 : Nat) = Nat.min 1 n := (Nat.min_eq_left hn1).symm
  have hsrc : ∀ j v, [Value.int .i64 1][j]? = some v → w1.cell? ((⟨ba, oa, none⟩ : Addr).add j) = some v := fun j v hv => by rcases j with _ | j; (· simp at hv; subst hv; simpa [Addr.add] using hca1); (· simp at hv)
  have hfit : 0 + [Value.int .i64 1].length ≤ cur.size := by simp; omega
  have hone : ∀ v ∈ [Value.int .i64 1], v.oneCell' = true := by simp [Value.oneCell']
  have hrun := run_copy_row (P := Tryz.prog) w1 59 59 3 54 w.heap.size 0 n n ⟨ba, oa, none⟩ 1 c cur 54 [.int .i64 1] Tryz.underlying59 info_numS hcur hmin hsrc hfit hone
  go_wp2_with fail
  rw [hrun]
  obtain ⟨W2, hW2⟩ : ∃ W2, W2 = w1.setRow w.heap.size (List.take 0 cur.toList ++ [Value.int .i64 1] ++ List.drop (0 + [Value.int .i64 1].length) cur.toList).toArray := ⟨_, rfl⟩
  have hg2 : Hid (W2.heap[w.heap.size]? = some (.cells (onesK n 1).toArray 54 (0, 0))) := by
    have e : List.take 0 cur.toList ++ [Value.int .i64 1] ++ List.drop (0 + [Value.int .i64 1].length) cur.toList = onesK n 1 := by
      rw [HCT.out]; simp [onesK, ints, intsK]
    rw [hW2, e]; exact setRow_heap _ _ _ _ _ _ hcur
  have hB2 : Hid (Below w.heap.size w W2) := by rw [hW2]; exact below_setRow HB1.out (Nat.le_refl _) _
  have hone1 : goInt ([Value.int .i64 1].length : Nat) = .int .i64 1 := rfl
  rw [← hW2, hone1]
  clear hW2 hrun hsrc hfit hone hmin hca1 hca hcur hcs HCT HB1 hone1
  go_wp2_with fail
  go_loopw [8] (fun i wr => ∃ k : Nat, 1 ≤ k ∧ k ≤ n ∧ i = .int .i64 k ∧ Hid (wr.heap[w.heap.size]? = some (.cells (onesK n k).toArray 54 (0, 0))) ∧ Hid (Below w.heap.size w wr)) (fun i _ => n - (intOf i).toNat)
  case atStart => exact ⟨1, Nat.le_refl _, hn1, rfl, hg2, hB2⟩
  case round =>
    obtain ⟨k, hk1, hk, rfl, HG, HBr⟩ := hrel
    by_cases hlt : k < n
    · obtain ⟨d, hd⟩ : ∃ d, d = Nat.min k (n - k) := ⟨_, rfl⟩
      have hd1 : 1 ≤ d ∧ k + d ≤ n := by
        have h1 : d ≤ k := by rw [hd]; exact Nat.min_le_left _ _
        have h2 : d ≤ n - k := by rw [hd]; exact Nat.min_le_right _ _
        have h3 : d = k ∨ d = n - k := by rw [hd]; exact Nat.le_total k (n - k) |>.elim (fun h => .inl (Nat.min_eq_left h)) (fun h => .inr (Nat.min_eq_right h))
        omega
      have hcl : (ints (List.replicate d 1)).length = Nat.min k (n - k) := by rw [← hd]; simp [ints, intsK]
      have hcl2 : (ints (List.replicate d 1)).length = d := by simp [ints, intsK]
      have hGd : wr.drew.heap[w.heap.size]? = some (.cells (onesK n k).toArray 54 (0, 0)) := HG.out
      have hsrc : ∀ j v, (ints (List.replicate d 1))[j]? = some v → wr.drew.cell? ((⟨w.heap.size, 0, none⟩ : Addr).add j) = some v := fun j v hv => by
        have hj : j < d := by have := (List.getElem?_eq_some_iff.1 hv).1; rw [hcl2] at this; exact this
        have hv1 : v = .int .i64 1 := by
          have := ints_at (xs := List.replicate d 1) (k := j) (x := 1) (by simp [hj]); rw [this] at hv; exact (Option.some.inj hv).symm
        have hjk : j < k := by have h1 : Nat.min k (n - k) ≤ k := Nat.min_le_left _ _; rw [← hd] at h1; omega
        have e : (⟨w.heap.size, 0, none⟩ : Addr).add j = ⟨w.heap.size, 0 + j, none⟩ := by rcases j with _ | j <;> simp [Addr.add]
        rw [e, Nat.zero_add, cell_of_row wr.drew _ j _ _ _ hGd, hv1]
        rw [List.getElem?_toArray, onesK_at hjk]
      have hfit : k + (ints (List.replicate d 1)).length ≤ (onesK n k).toArray.size := by rw [hcl2, List.size_toArray, onesK_len hk]; exact hd1.2
      have hone : ∀ v ∈ ints (List.replicate d 1), v.oneCell' = true := ints_cells _
      have hput : (onesK n k).toArray.toList.take k ++ (ints (List.replicate d 1) ++ (onesK n k).toArray.toList.drop (k + (ints (List.replicate d 1)).length)) = onesK n (k + d) := by rw [hcl2]; exact onesK_put hd1.2
      have HP := Lib.hid hput
      have HCL := Lib.hid hcl2
      have hwk : IntKind.i64.wrap ((k : Int) + (d : Int)) = (k : Int) + (d : Int) := IntWalk.i64_in _ (by omega)
      have HD := Lib.hid hd
      have hnk : ¬ n = k := by omega
      have HMIN := Lib.hid hcl
      clear hd hput hcl2 hcl
      go_wp2_with fail
      go_region_law (go_loud (refine step_copy_row (by rfl) (.tmp 41) (.tmp 44) 59 59 (by rfl) 54 Tryz.underlying59 info_numS w.heap.size k (n - k) (n - k) ⟨w.heap.size, 0, none⟩ k n (by simp [Act.eval, Act.put, hnk]) (by simp [Act.eval, Act.put]) (onesK n k).toArray 54 hGd (ints (List.replicate d 1)) (by exact HMIN.out) hsrc hfit hone ?_); rw [HP.out, HCL.out])
      obtain ⟨W3, hW3⟩ : ∃ W3, W3 = wr.drew.setRow w.heap.size (onesK n (k + d)).toArray := ⟨_, rfl⟩
      have hg3 : Hid (W3.heap[w.heap.size]? = some (.cells (onesK n (k + d)).toArray 54 (0, 0))) := by rw [hW3]; exact setRow_heap _ _ _ _ _ _ hGd
      have hB3 : Hid (Below w.heap.size w W3) := by rw [hW3]; exact below_setRow HBr.out.drew (Nat.le_refl _) _
      rw [← hW3]
      clear hW3 hGd hsrc hfit hone HG HBr HP HCL HMIN HD
      simp only [Act.put, List.setIfInBounds_toArray, List.set_cons_succ, List.set_cons_zero, List.getElem_toArray, List.getElem_cons_zero, List.getElem_cons_succ]
      go_wp2
      go_roundw
      case rel => exact ⟨k + d, by omega, by omega, by go_num, hg3, hB3⟩
      case measure => simp [intOf]; omega
    · obtain rfl : k = n := by omega
      have GO : Hid (NewRow 54 k (ints (List.replicate k 1)) w (.returned (.slice (some ⟨w.heap.size, 0, none⟩) k k)) wr) := by
        refine ⟨_, _, rfl, ⟨by simp [ints, intsK], .inr ⟨w.heap.size, k, _, rfl, Nat.le_refl _, HG.out, Nat.le_refl _, by simp only [maxLen]; omega, by rw [List.size_toArray, onesK_len (Nat.le_refl _), Nat.mul_one], ?_⟩⟩, HBr.out⟩
        rw [onesK_all, Nat.mul_one, List.take_of_length_le (by simp [ints, intsK])]
      go_wp2
      go_ret
      exact GO.out
end Go.Proofs.YtolkbbbbahhfaaaGreat
/-
  The model's copy of a list.
-/
namespace Go.Proofs.YtolkbbbbahhfaaaGreat
open Go.RowKit Fld
set_option linter.unusedVariables false
set_option linter.unusedSimpArgs false
set_option maxRecDepth 100000

theorem Row.news {w : World} {B : Nat} {ad : Addr} {vs : List Value} (h : Row w B (some ad) vs) : ∀ j u, vs[j]? = some u → w.cell? (ad.add j) = some u := by
  intro j u hu
  obtain ⟨b, o, e, _, hc⟩ := h j u hu
  cases e
  have : (⟨b, o, none⟩ : Addr).add j = ⟨b, o + j, none⟩ := by unfold Addr.add; split <;> simp_all
  rw [this]; exact hc
theorem NewRow.own {w w' : World} {T : TypeId} {v : Value} {n : Nat} {vs : List Value} (h : w'.ownsRow w.heap.size T 1 v n vs) (hb : Below w.heap.size w w') : NewRow T n vs w (.returned v) w' := by
  rcases h.2 with ⟨rfl, rfl⟩ | ⟨g, cap, cur, rfl, _⟩
  · exact ⟨_, _, rfl, h, hb⟩
  · exact ⟨_, _, rfl, h, hb⟩
theorem l01Own_any (ad : Addr) (n c B : Nat) (xs : List Int) (w : World) (hl : xs.length = n) (hn : n ≤ 1048576) (hB : B ≤ w.heap.size) (h : Row w B (some ad) (ints xs)) :
    Calls Tryz.prog 88 #[.slice (some ad) n c] w (NewRow 2 n (ints xs) w) := by
  obtain ⟨i0, hi, hz0, hz1, hz2⟩ := info_parts info_i64
  have hnews := (h.alloc hB (.cells #[] 2)).news
  have hlen : (ints xs).length = n * 1 := by rw [ints_length, hl, Nat.mul_one]
  have h1 := ints_cells xs
  have hown0 := (Growing.start w 2).1
  have hbel0 := (Growing.start w 2).2
  go_enter Tryz.func88, Tryz.ntmps88
  go_wp2_with (at_builtin; refine wpList_append_own _ rfl (.tmp 3) (.tmp 4) 23 rfl w.heap.size 2 i0 _ 1 8 Tryz.underlying23 hi hz0 hz1 hz2 rfl (by omega) (.slice (some ⟨w.heap.size, 0, none⟩) 0 0) 0 [] rfl hown0 ad n c (ints xs) rfl hlen hnews h1 (by simp only [maxLen]; omega) (by omega) (by simp) ?_; intro v' w' hown hgrow _)
  go_ret
  rw [Nat.zero_add] at hown
  exact NewRow.own hown (hbel0.grown hgrow (by simp) (fun k hk => (hown0.lt k hk).1))
end Go.Proofs.YtolkbbbbahhfaaaGreat
/-
  The nodes of a tableau: the program's and the model's.
-/
namespace Go.Proofs.YtolkbbbbahhfaaaGreat
open Go.RowKit Fld
set_option linter.unusedVariables false
set_option linter.unusedSimpArgs false
set_option maxRecDepth 100000

/-- the products of the rows with a list -/
def appL (m : List (List Int)) (v : List Int) : List Int := m.map fun r => dotK r v v.length
theorem appL_length (m : List (List Int)) (v : List Int) : (appL m v).length = m.length := by simp [appL]
theorem appL_at {m : List (List Int)} {v r : List Int} {k n : Nat} (h : m[k]? = some r) (hv : v.length = n) : (appL m v)[k]? = some (dotK r v n) := by
  unfold appL; rw [List.getElem?_map, h, ← hv]; rfl
theorem appL_num (m : List (List Int)) (v : List Int) : allNum (appL m v) = true := by
  rw [allNum_iff]
  intro x hx
  unfold appL at hx
  obtain ⟨r, _, rfl⟩ := List.mem_map.1 hx
  exact dotK_bd r v _
theorem Filling.drewN {w wr : World} {T : TypeId} {n k : Nat} {xs : List Int} (h : Filling w T n xs k wr) (j : Nat) : Filling w T n xs k (wr.drewN j) := ⟨h.1, below_drewN h.2 j⟩
theorem info_appN : (Tryz.prog.info? 54).map (fun i => (i.zero, i.size, i.bytes)) = some (some (.int .i64 0), 1, 8) := by kernel_rfl
set_option maxHeartbeats 1000000 in
theorem applied_any (A D A2 : Option Addr) (n c n' d c2 B B2 : Nat) (m : List (List Int)) (v : List Int) (w : World) (hl : m.length = n) (hn : n ≤ 8) (hq : Wide m n) (hnum : ∀ r ∈ m, allNum r = true) (hv : v.length = n) (hvn : allNum v = true) (hB : B ≤ w.heap.size) (hB2 : B2 ≤ w.heap.size) (h : Mat w B A m) (h2 : Row w B2 A2 (ints v)) :
    Calls Tryz.prog 136 #[.agg #[.slice A n c, .slice D n' d], .slice A2 n c2] w (NewRow 54 n (ints (appL m v)) w) := by
  obtain ⟨i0, hi, hz0, hz1, hz2⟩ := info_parts info_appN
  have HL := Lib.hid hl
  have HQ := Lib.hid hq
  have HN := Lib.hid hnum
  have HV := Lib.hid hv
  have HVN := Lib.hid hvn
  have HAL : Hid ((appL m v).length = n) := (appL_length m v).trans hl
  obtain ⟨W0, hW0⟩ : ∃ W0, W0 = w.alloc (.cells #[.slice A n c, .slice D n' d] 61) := ⟨_, rfl⟩
  have HB : Hid (Below w.heap.size w W0) := by rw [hW0]; exact (Below.refl _ _).alloc (Nat.le_refl _) _
  have HX : Bx W0 w.heap.size 61 (.slice A n c) (.slice D n' d) := by rw [hW0]; exact Bx.new _ _ _ _
  have hz := HB.out.size
  have HM := Lib.hid (h.below HB.out hB)
  have HR2 := Lib.hid (h2.below HB.out hB2)
  have HXX := Lib.hid HX
  have q0 := HX.c0
  clear hl hq hnum hv hvn h h2 HX
  go_enter Tryz.func136, Tryz.ntmps136
  go_wp2_with (at_make; rw [← hW0]; clear hW0; refine wpList_make_full _ rfl (.tmp 10) (.tmp 10) 59 rfl W0.heap.size 54 i0 _ 1 Tryz.underlying59 hi hz0 hz1 .i64 .i64 _ _ n rfl rfl rfl rfl (by rw [hz2]; omega) (by simp only [maxLen]; omega) (Nat.le_refl _) ?_; intro w1 hown hg; have q1 := (HXX.out.next ((Below.refl _ _).grown hg (Nat.le_refl _) (fun k hk => by cases hk))).c0)
  have F0 := Filling.start (xs := appL m v) hown hg
  clear hown hg hz0 hz1 hz2 hi q0 q1
  go_loopw [15] (fun i wr => ∃ k : Nat, k ≤ n ∧ i = .int .i64 k ∧ Filling W0 54 n (appL m v) k wr) (fun i _ => n - (intOf i).toNat)
  case atStart => exact ⟨0, Nat.zero_le _, rfl, F0⟩
  case round =>
    obtain ⟨k, hk, rfl, HF⟩ := hrel
    by_cases hlt : k < n
    · obtain ⟨r, hr⟩ := at_lt (show k < m.length by rw [HL.out]; exact hlt)
      have hrq := HQ.out.at_ hr
      have hrn := HN.out r (List.mem_of_getElem? hr)
      obtain ⟨b, o, Ak, ck, rfl, _, hc, _, _, hrow⟩ := HM.out.below HF.2 (by omega) k r hr
      have hzr := HF.2.size
      have hf := HF.1.frozenAt k
      have ho := fill_at' HF HAL.out hlt
      rw [hrq] at hc
      have hf' : ∀ j, (wr.drewN j).frozen? ⟨W0.heap.size, k, none⟩ = false := fun j => hf
      have ho' : ∀ j, (wr.drewN j).cell? ⟨W0.heap.size, k, none⟩ = some (.int .i64 0) := fun j => ho
      have HDT := dotOf_any Ak A2 n ck c2 B B2 r v wr hrq HV.out (by omega) hrow (HR2.out.below HF.2 (by omega)) hrn HVN.out
      have G := fun j => Lib.hid ((HF.drewN j).step HAL.out (appL_at hr HV.out))
      clear hr hrq hrn F0 HF hrow
      go_wp2_with fail
      refine HDT.mono ?_
      rintro e w2 ⟨rfl, j, rfl⟩
      have G1 := G j
      have z1 := hf' j
      have z2 := ho' j
      clear HDT G hf' ho' hf ho
      go_wp2
      go_roundw
      case rel => exact ⟨k + 1, by omega, by go_num, G1.out⟩
      case measure => simp [intOf]; omega
    · obtain rfl : k = n := by omega
      have G := Lib.hid ((HF.done HAL.out).after HB.out)
      clear HF F0
      go_wp2
      go_ret
      exact G.out
set_option maxHeartbeats 1000000 in
theorem ones_any (A D : Option Addr) (n c n' d : Nat) (w : World) (hn1 : 1 ≤ n') (hn : n' ≤ 8) :
    Calls Tryz.prog 135 #[.agg #[.slice A n c, .slice D n' d]] w (NewRow 54 n' (ints (List.replicate n' 1)) w) := by
  have HB : Hid (Below w.heap.size w (w.alloc (.cells #[.slice A n c, .slice D n' d] 61))) := (Below.refl _ _).alloc (Nat.le_refl _) _
  have HB2 : Hid (Below w.heap.size w ((w.alloc (.cells #[.slice A n c, .slice D n' d] 61)).alloc (.cells #[.int .i64 1] 54))) := HB.out.alloc HB.out.size _
  go_enter Tryz.func135, Tryz.ntmps135
  go_wp2_with fail
  refine (repeat_any _ _ _ n' _ hn1 hn (Nat.le_refl _) (show Row _ _ _ [Value.int .i64 1] from by have := Row.new (w.alloc (.cells #[.slice A n c, .slice D n' d] 61)) 54 [Value.int .i64 1]; simpa using this)).mono ?_
  rintro e w3 ⟨A3, c3, rfl, own3, b3⟩
  have G : Hid (NewRow 54 n' (ints (List.replicate n' 1)) w (.returned (.slice A3 n' c3)) w3) := NewRow.after HB2.out ⟨A3, c3, rfl, own3, b3⟩
  clear own3 b3
  go_wp2
  go_ret
  exact G.out
theorem Growing.drewN {w wr : World} {T : TypeId} {g j cap : Nat} {vs : List Value} (h : Growing w T g j cap vs wr) (i : Nat) : Growing w T g j cap vs (wr.drewN i) := ⟨h.1, below_drewN h.2 i⟩
theorem grow_ones (j : Nat) : ints (List.replicate j 1) ++ [.int .i64 1] = ints (List.replicate (j + 1) 1) := by
  simp [ints, intsK, List.replicate_succ']
set_option maxHeartbeats 1000000 in
theorem l09Ones_any (n : Nat) (w : World) (hn : n ≤ 8) : Calls Tryz.prog 138 #[.int .i64 (n : Int)] w (NewRow 2 n (ints (List.replicate n 1)) w) := by
  obtain ⟨i0, hi, hz0, hz1, hz2⟩ := info_parts info_i64
  go_enter Tryz.func138, Tryz.ntmps138
  go_wp2_with fail
  go_loopw [0, 3] (fun i v wr => ∃ j g cap : Nat, j ≤ n ∧ v = .slice (some ⟨g, 0, none⟩) j cap ∧ i = .int .i64 ((n : Int) - j) ∧ Growing w 2 g j cap (ints (List.replicate j 1)) wr) (fun i _ _ => (intOf i).toNat)
  case atStart => exact ⟨0, _, 0, Nat.zero_le _, rfl, by simp, Growing.start ..⟩
  case round =>
    obtain ⟨j, g, cap, hj, rfl, rfl, HF⟩ := hrel
    by_cases hlt : j < n
    · have HF' := Lib.hid HF
      have hown := HF.1
      have hpos : (0 : Int) < (n : Int) - j := by omega
      have hwr : IntKind.i64.wrap ((n : Int) - j - 1) = (n : Int) - j - 1 := IntWalk.i64_in _ (by omega)
      have HC := Lib.hid (grow_ones j)
      clear HF
      go_wp2_with (at_builtin; refine wpList_append_lies _ rfl (.tmp 9) (.tmp 10) 23 rfl w.heap.size 2 i0 _ 1 8 Tryz.underlying23 hi hz0 hz1 hz2 rfl (by omega) (.slice (some ⟨g, 0, none⟩) j cap) j (ints (List.replicate j 1)) rfl (hown.alloc _) ⟨wr.heap.size, 0, none⟩ 1 1 [.int .i64 1] rfl rfl (World.news_of_block (cs := #[.int .i64 1]) (heap_alloc_new _ _)) (by simp [Value.oneCell']) (by omega) (by simp only [maxLen]; omega) (by omega) (by simp; have := HF'.out.2.size; omega) (wr.heap.size + 1) (by simp) ?_; intro g2 cap2 w2 hown2 hgrow2 hat2 hlt2)
      rw [HC.out] at hown2
      have G := Lib.hid (HF'.out.step ((Below.refl _ _).alloc (Nat.le_refl _) _) hown2 hgrow2)
      clear hown2 hgrow2 hat2 hown
      go_wp2
      go_roundw
      case rel => exact ⟨j + 1, _, _, by omega, rfl, by push_cast; congr 1; omega, G.out⟩
      case measure => simp [intOf]; omega
    · obtain rfl : j = n := by omega
      have G := Lib.hid HF.done
      have hpos : ¬ (0 : Int) < (j : Int) - j := by omega
      clear HF
      go_wp2
      go_ret
      exact G.out
set_option maxHeartbeats 1000000 in
theorem l09Times_any (A A2 : Option Addr) (n c c2 B B2 : Nat) (m : List (List Int)) (v : List Int) (w : World) (hl : m.length = n) (hn : n ≤ 8) (hq : Wide m n) (hnum : ∀ r ∈ m, allNum r = true) (hv : v.length = n) (hvn : allNum v = true) (hB : B ≤ w.heap.size) (hB2 : B2 ≤ w.heap.size) (h : Mat w B A m) (h2 : Row w B2 A2 (ints v)) :
    Calls Tryz.prog 139 #[.slice A n c, .slice A2 n c2] w (NewRow 2 n (ints (appL m v)) w) := by
  obtain ⟨i0, hi, hz0, hz1, hz2⟩ := info_parts info_i64
  have HL := Lib.hid hl
  have HQ := Lib.hid hq
  have HN := Lib.hid hnum
  have HV := Lib.hid hv
  have HVN := Lib.hid hvn
  have HAL : Hid ((appL m v).length = n) := (appL_length m v).trans hl
  clear hl hq hnum hv hvn
  go_enter Tryz.func139, Tryz.ntmps139
  go_wp2_with fail
  go_loopw [5, 6] (fun u i wr => ∃ j g cap : Nat, j ≤ n ∧ u = .slice (some ⟨g, 0, none⟩) j cap ∧ i = .int .i64 j ∧ Growing w 2 g j cap (ints ((appL m v).take j)) wr) (fun _ i _ => n - (intOf i).toNat)
  case atStart => exact ⟨0, _, 0, Nat.zero_le _, rfl, rfl, Growing.start ..⟩
  case round =>
    obtain ⟨j, g, cap, hj, rfl, rfl, HF⟩ := hrel
    by_cases hlt : j < n
    · obtain ⟨r, hr⟩ := at_lt (show j < m.length by rw [HL.out]; exact hlt)
      have hrq := HQ.out.at_ hr
      have hrn := HN.out r (List.mem_of_getElem? hr)
      obtain ⟨b, o, Ak, ck, rfl, _, hc, _, _, hrow⟩ := h.below HF.2 (by omega) j r hr
      rw [hrq] at hc
      have HDT := l01Dot_any Ak A2 n ck c2 B B2 r v wr hrq HV.out (by omega) hrow (h2.below HF.2 (by omega)) hrn HVN.out
      have HC := Lib.hid (grow_ints (appL_at hr HV.out))
      have HF' := Lib.hid HF
      have hzr := HF.2.size
      clear hr hrq hrn HF hrow
      go_wp2_with fail
      refine HDT.mono ?_
      rintro e w2 ⟨rfl, i, rfl⟩
      have hown := (HF'.out.drewN i).1
      obtain ⟨x, hx⟩ : ∃ x, x = dotK r v n := ⟨_, rfl⟩
      rw [← hx] at HC ⊢
      clear HDT hx
      go_wp2_with (at_builtin; refine wpList_append_lies _ rfl (.tmp 14) (.tmp 21) 23 rfl w.heap.size 2 i0 _ 1 8 Tryz.underlying23 hi hz0 hz1 hz2 rfl (by omega) (.slice (some ⟨g, 0, none⟩) j cap) j (ints ((appL m v).take j)) rfl (hown.alloc _) ⟨wr.heap.size, 0, none⟩ 1 1 [.int .i64 x] rfl rfl (World.news_of_block (cs := #[.int .i64 x]) (heap_alloc_new _ _)) (by simp [Value.oneCell']) (by omega) (by simp only [maxLen]; omega) (by omega) (by simp; omega) (wr.heap.size + 1) (by simp) ?_; intro g2 cap2 w2 hown2 hgrow2 hat2 hlt2)
      rw [HC.out] at hown2
      have G := Lib.hid ((HF'.out.drewN i).step ((Below.refl _ _).alloc (Nat.le_refl _) _) hown2 hgrow2)
      clear hown2 hgrow2 hat2 hown
      go_wp2
      go_roundw
      case rel => exact ⟨j + 1, _, _, by omega, rfl, by go_num, G.out⟩
      case measure => simp [intOf]; omega
    · obtain rfl : j = n := by omega
      have e : (appL m v).take j = appL m v := List.take_of_length_le (by rw [HAL.out]; omega)
      rw [e] at HF
      have G := Lib.hid HF.done
      clear HF
      go_wp2
      go_ret
      exact G.out
/-- what NodesOf answers -/
def nodesA (m : List (List Int)) (b : List Int) : List Int × Int := if isTabB m b = true then (appL m (List.replicate b.length 1), 0) else ([], 1)
theorem ones_num (n : Nat) : allNum (List.replicate n (1 : Int)) = true := by rw [allNum_iff]; intro x hx; have := (List.mem_replicate.1 hx).2; omega
end Go.Proofs.YtolkbbbbahhfaaaGreat
/-
  The levels of a text of brackets.
-/
namespace Go.Proofs.YtolkbbbbahhfaaaGreat
open Go.RowKit Fld
set_option linter.unusedVariables false
set_option linter.unusedSimpArgs false
set_option maxRecDepth 100000

theorem nodes_any (l : List UInt8) (w : World) (hn : l.length ≤ 1048576) : Calls Tryz.prog 70 #[.string ⟨l.toArray⟩] w fun e w' => e = .returned (.int .i64 ((l.length / 2 : Nat) : Int)) ∧ w = w' := by
  obtain ⟨s, hs⟩ : ∃ s : ByteArray, s = ⟨l.toArray⟩ := ⟨_, rfl⟩
  have hz : s.size = l.length := by rw [hs]; exact size_S l
  rw [← hs, ← hz]
  rw [← hz] at hn
  clear hz hs
  go_enter Tryz.func70, Tryz.ntmps70
  go_wp2
  go_ret
  exact ⟨rfl, rfl⟩
theorem own_ne_iter {w : World} {lo : Nat} {T : TypeId} {v : Value} {n : Nat} {vs : List Value} {k : Nat} {s : ByteArray} {p : Nat} (h : w.ownsRow lo T 1 v n vs) (hk : w.heap[k]? = some (.stringIter s p)) : some k ≠ v.ownBlock := by
  intro e
  rcases h.2 with ⟨rfl, _⟩ | ⟨g, cap, cur, rfl, _, hg, _⟩
  · cases e
  · have e2 : k = g := by simpa [Value.ownBlock] using e
    subst e2
    rw [hk] at hg
    cases hg
theorem own_iterAt {w : World} {lo : Nat} {T : TypeId} {v : Value} {n : Nat} {vs : List Value} {k : Nat} {s : ByteArray} {p p' : Nat} (h : w.ownsRow lo T 1 v n vs) (hk : w.heap[k]? = some (.stringIter s p)) : (w.iterAt k s p').ownsRow lo T 1 v n vs := by
  have hne := own_ne_iter h hk
  refine ⟨h.1, ?_⟩
  rcases h.2 with h1 | ⟨g, cap, cur, hv, hb, hg, r⟩
  · exact .inl h1
  · refine .inr ⟨g, cap, cur, hv, hb, ?_, r⟩
    rw [Lib.iterAt_other _ _ _ _ _ (fun e => hne (by rw [hv, ← e]; simp [Value.ownBlock]))]
    exact hg
/-- all bytes are brackets -/
def Brk (s : List UInt8) : Prop := ∀ c ∈ s, c = 91 ∨ c = 93
theorem byte_at {s : List UInt8} {p : Nat} {c : UInt8} (h : s[p]? = some c) (hp : p < (⟨s.toArray⟩ : ByteArray).size) : (⟨s.toArray⟩ : ByteArray)[p]'hp = c := by
  have h1 : p < s.length := by rw [← size_S]; exact hp
  rw [List.getElem?_eq_getElem h1] at h
  exact Option.some.inj h
theorem lvl_open {s : List UInt8} {p : Nat} (h : s[p]? = some 91) (l : Int) : Tr.lvlF l (s.drop p) = l :: Tr.lvlF (l + 1) (s.drop (p + 1)) := by
  have hlt : p < s.length := by
    rcases Nat.lt_or_ge p s.length with g | g
    · exact g
    · rw [List.getElem?_eq_none g] at h; cases h
  rw [List.getElem?_eq_getElem hlt] at h
  injection h with h
  rw [List.drop_eq_getElem_cons hlt, h, Tr.lvlF, if_pos rfl]
theorem lvl_close {s : List UInt8} {p : Nat} (h : s[p]? = some 93) (l : Int) : Tr.lvlF l (s.drop p) = Tr.lvlF (l - 1) (s.drop (p + 1)) := by
  have hlt : p < s.length := by
    rcases Nat.lt_or_ge p s.length with g | g
    · exact g
    · rw [List.getElem?_eq_none g] at h; cases h
  rw [List.getElem?_eq_getElem hlt] at h
  injection h with h
  rw [List.drop_eq_getElem_cons hlt, h, Tr.lvlF, if_neg (by decide)]
set_option maxHeartbeats 1000000 in
theorem levels_any (s : List UInt8) (w : World) (hn : s.length ≤ 1048576) (hb : Brk s) :
    Calls Tryz.prog 102 #[.string ⟨s.toArray⟩] w (NewRow 2 (Tr.lvl s).length (ints (Tr.lvl s)) w) := by
  obtain ⟨i0, hi, hz0, hz1, hz2⟩ := info_parts info_i64
  have HB := Lib.hid hb
  have HN := Lib.hid hn
  obtain ⟨S, hS⟩ : ∃ S : ByteArray, S = ⟨s.toArray⟩ := ⟨_, rfl⟩
  have hsz : S.size = s.length := by rw [hS]; exact size_S s
  have HSZ := Lib.hid hsz
  have HS := Lib.hid hS
  have C0 := nodes_any s w hn
  rw [← hS] at C0 ⊢
  have hcap : s.length / 2 ≤ 1048576 := by omega
  obtain ⟨q, hq⟩ : ∃ q, q = s.length / 2 := ⟨_, rfl⟩
  rw [← hq] at C0 hcap
  clear hb hS hsz hn hq
  go_enter Tryz.func102, Tryz.ntmps102
  go_wp2_with fail
  refine C0.mono ?_
  rintro e w' ⟨rfl, rfl⟩
  go_wp2_with (at_make; refine wpList_make_own _ rfl _ _ 23 rfl w.heap.size 2 i0 (.int .i64 0) 1 Tryz.underlying23 hi hz0 hz1 .i64 .i64 _ q rfl rfl rfl (by rw [hz2]; omega) (by unfold maxLen; omega) (Nat.le_refl _) ?_; intro w1 hown hg)
  have HO1 := Lib.hid hown
  have HB1 : Hid (Below w.heap.size w w1) := (Below.refl _ _).grown hg (Nat.le_refl _) (fun k hk => by cases hk)
  have hs1 := hg.size
  clear hown hg
  go_loopw [3, 4] (fun v l wr => ∃ (p g cap : Nat) (lv : Int) (L : List Int), p ≤ S.size ∧ -(p : Int) ≤ lv ∧ lv ≤ p ∧ v = .slice (some ⟨g, 0, none⟩) L.length cap ∧ l = .int .i64 lv ∧ L.length ≤ p ∧ wr.heap[w1.heap.size]? = some (.stringIter S p) ∧ Hid (Tr.lvl s = L ++ Tr.lvlF lv (s.drop p)) ∧ Hid (wr.ownsRow w.heap.size 2 1 (.slice (some ⟨g, 0, none⟩) L.length cap) L.length (ints L)) ∧ Below w.heap.size w wr) (fun _ _ wr => S.size - wr.iterPos w1.heap.size)
  case atStart =>
    have hit := World.iter_heap w1 S 0
    exact ⟨0, _, q, 0, [], Nat.zero_le _, by omega, by omega, rfl, rfl, Nat.le_refl _, hit, rfl, HO1.out.alloc _, HB1.out.alloc (by omega) _⟩
  case round =>
    obtain ⟨p, g, cap, lv, L, hp, l0, l1, rfl, rfl, hL, hit, HE, HO, HBw⟩ := hrel
    have hlt := (Array.getElem?_eq_some_iff.1 hit).1
    by_cases hps : p < S.size
    · obtain ⟨c, hc⟩ := at_lt (show p < s.length by rw [← HSZ.out]; exact hps)
      have hbyte : S[p]'hps = c := by
        have hS := HS.out
        subst hS
        exact byte_at hc hps
      have hcb := HB.out c (List.mem_of_getElem? hc)
      have hasc : (S[p]'hps).toNat < 128 := by rw [hbyte]; rcases hcb with rfl | rfl <;> decide
      have hnx : ∀ ty, (Instr.next (.pointer (some ⟨w1.heap.size, 0, none⟩)) true ty).run Tryz.prog wr = _ := fun ty => Lib.run_next_ascii_at wr w1.heap.size S p ty hit hps hasc
      rw [hbyte] at hnx
      have hp3 : p + 1 ≤ 1048576 := by have := HSZ.out; have := HN.out; omega
      have HIT := Lib.hid hit
      have hit2 := Lib.iterAt_heap wr w1.heap.size S p (p + 1) hit
      have HO2 := Lib.hid (own_iterAt (p' := p + 1) HO.out hit)
      have HB2 := Lib.hid (Lib.below_iterAt HBw (k := w1.heap.size) hs1 S (p + 1))
      have hsz2 : (wr.iterAt w1.heap.size S (p + 1)).heap.size = wr.heap.size := Lib.iterAt_size ..
      rcases hcb with rfl | rfl
      · have HE2 : Hid (Tr.lvl s = (L ++ [lv]) ++ Tr.lvlF (lv + 1) (s.drop (p + 1))) := by rw [Hid, HE.out, lvl_open hc]; simp
        have e91 : ((91 : UInt8).toNat : Int) = 91 := rfl
        rw [e91] at hnx
        generalize hW : wr.iterAt w1.heap.size S (p + 1) = W at *
        have hown2 := HO2.out
        have HH2 := Lib.hid hit2
        have hW1 : w1.heap.size < W.heap.size := by omega
        have hW2 : w.heap.size ≤ W.heap.size := by omega
        clear hc hbyte hasc HE HBw HO hit hW hit2 hsz2
        go_wp2_with (at_builtin; (refine wpList_append_lies _ rfl (.tmp 17) (.tmp 19) 23 rfl w.heap.size 2 i0 _ 1 8 Tryz.underlying23 hi hz0 hz1 hz2 rfl (by omega) (.slice (some ⟨g, 0, none⟩) L.length cap) L.length (ints L) rfl (hown2.alloc _) ⟨W.heap.size, 0, none⟩ 1 1 [.int .i64 lv] rfl rfl (World.news_of_block (cs := #[.int .i64 lv]) (heap_alloc_new _ _)) (by simp [Value.oneCell']) (by omega) (by simp only [maxLen]; omega) (by omega) (by simp; omega) (W.heap.size + 1) (by simp) ?_); intro g2 cap2 w3 hown3 hgrow3 hat3 hlt3)
        have G3 : Hid (w3.ownsRow w.heap.size 2 1 (.slice (some ⟨g2, 0, none⟩) (L ++ [lv]).length cap2) (L ++ [lv]).length (ints (L ++ [lv]))) := by
          have e : ints L ++ [.int .i64 lv] = ints (L ++ [lv]) := by simp [ints, intsK]
          rw [e] at hown3
          rw [Hid, List.length_append]; exact hown3
        have GB3 : Hid (Below w.heap.size w w3) := (HB2.out.alloc hW2 _).grown hgrow3 (by simp; omega) (fun q hq => (HO2.out.lt q hq).1)
        have GI : Hid (w3.heap[w1.heap.size]? = some (.stringIter S (p + 1))) := by
          rw [Hid, hgrow3.block _ (by simp; omega) (own_ne_iter HO2.out HH2.out), Lib.alloc_old _ _ _ hW1]
          exact HH2.out
        have hl2 : (L ++ [lv]).length = L.length + 1 := by simp
        have HL2 := Lib.hid hl2
        clear hown3 hgrow3 hat3 hown2 hl2
        go_wp2
        go_roundw
        case rel => exact ⟨p + 1, g2, cap2, lv + 1, L ++ [lv], by omega, by omega, by omega, by rw [HL2.out], by go_num, by have := HL2.out; omega, GI.out, HE2, G3, GB3.out⟩
        case measure =>
          simp only [World.iterPos, GI.out, HIT.out]
          omega
      · have HE2 : Hid (Tr.lvl s = L ++ Tr.lvlF (lv - 1) (s.drop (p + 1))) := by rw [Hid, HE.out, lvl_close hc]
        have e93 : ((93 : UInt8).toNat : Int) = 93 := rfl
        rw [e93] at hnx
        generalize hW : wr.iterAt w1.heap.size S (p + 1) = W at *
        have HH2 := Lib.hid hit2
        clear hc hbyte hasc HE HBw HO hit hW hit2 hsz2
        go_wp2
        go_roundw
        case rel => exact ⟨p + 1, g, cap, lv - 1, L, by omega, by omega, by omega, rfl, by go_num, by omega, HH2.out, HE2, HO2, HB2.out⟩
        case measure =>
          simp only [World.iterPos, HH2.out, HIT.out]
          omega
    · have hnx : ∀ ty, (Instr.next (.pointer (some ⟨w1.heap.size, 0, none⟩)) true ty).run Tryz.prog wr = _ := fun ty => Lib.run_next_end_at wr w1.heap.size S p ty hit hps
      have e : Tr.lvl s = L := by
        have := HE.out
        rw [List.drop_of_length_le (by have := HSZ.out; omega), Tr.lvlF, List.append_nil] at this
        exact this
      have G : Hid (NewRow 2 (Tr.lvl s).length (ints (Tr.lvl s)) w (.returned (.slice (some ⟨g, 0, none⟩) L.length cap)) wr) := by rw [e]; exact ⟨_, _, rfl, HO.out, HBw⟩
      clear HBw HE e hit
      go_wp2
      go_ret
      exact G.out
end Go.Proofs.YtolkbbbbahhfaaaGreat
/-
  A text is split into those of trees.
-/
namespace Go.Proofs.YtolkbbbbahhfaaaGreat
open Go.RowKit Fld
set_option linter.unusedVariables false
set_option linter.unusedSimpArgs false
set_option maxRecDepth 100000

theorem extract_S (s : List UInt8) (a b : Nat) : (⟨s.toArray⟩ : ByteArray).extract a b = ⟨((s.drop a).take (b - a)).toArray⟩ := by
  apply ByteArray.ext
  simp [ByteArray.data_extract]
theorem tr_open {cur : List UInt8} {o : Nat} {acc : List (List UInt8)} {s : List UInt8} {p : Nat} (h : s[p]? = some 91) : Tr.trF cur o acc (s.drop p) = Tr.trF (cur ++ [91]) (o + 1) acc (s.drop (p + 1)) := by
  have hlt : p < s.length := by
    rcases Nat.lt_or_ge p s.length with g | g
    · exact g
    · rw [List.getElem?_eq_none g] at h; cases h
  rw [List.getElem?_eq_getElem hlt] at h
  injection h with h
  rw [List.drop_eq_getElem_cons hlt, h, Tr.trF, if_pos rfl]
theorem tr_close {cur : List UInt8} {o : Nat} {acc : List (List UInt8)} {s : List UInt8} {p : Nat} (h : s[p]? = some 93) : Tr.trF cur o acc (s.drop p) = if o = 0 then ([], false) else if o = 1 then Tr.trF [] 0 (acc ++ [cur ++ [93]]) (s.drop (p + 1)) else Tr.trF (cur ++ [93]) (o - 1) acc (s.drop (p + 1)) := by
  have hlt : p < s.length := by
    rcases Nat.lt_or_ge p s.length with g | g
    · exact g
    · rw [List.getElem?_eq_none g] at h; cases h
  rw [List.getElem?_eq_getElem hlt] at h
  injection h with h
  rw [List.drop_eq_getElem_cons hlt, h, Tr.trF, if_neg (by decide), if_pos rfl]
theorem tr_other {cur : List UInt8} {o : Nat} {acc : List (List UInt8)} {s : List UInt8} {p : Nat} {c : UInt8} (h : s[p]? = some c) (h1 : c ≠ 91) (h2 : c ≠ 93) : Tr.trF cur o acc (s.drop p) = ([], false) := by
  have hlt : p < s.length := by
    rcases Nat.lt_or_ge p s.length with g | g
    · exact g
    · rw [List.getElem?_eq_none g] at h; cases h
  rw [List.getElem?_eq_getElem hlt] at h
  injection h with h
  rw [List.drop_eq_getElem_cons hlt, h, Tr.trF, if_neg h1, if_neg h2]
theorem cut_step {s : List UInt8} {a p : Nat} {c : UInt8} (h : s[p]? = some c) (ha : a ≤ p) : (s.drop a).take (p + 1 - a) = (s.drop a).take (p - a) ++ [c] := by
  rw [show p + 1 - a = p - a + 1 from by omega, List.take_add_one, List.getElem?_drop, show a + (p - a) = p from by omega, h]; rfl
/-- the texts of trees, and whether there are no others -/
def ResT (r : List (List UInt8) × Bool) (w : World) (e : Ending) (w' : World) : Prop :=
  ∃ A q c, e = .returned (.tuple #[.slice A q c, .bool r.2]) ∧ w'.ownsRow w.heap.size 80 1 (.slice A q c) q (strs r.1) ∧ Below w.heap.size w w'
theorem ResT.none {r : List (List UInt8) × Bool} {w w' : World} (h : r = ([], false)) (hb : Below w.heap.size w w') : ResT r w (.returned (.tuple #[.slice none 0 0, .bool false])) w' := by
  subst h; exact ⟨_, _, _, rfl, World.ownsRow_nil .., hb⟩
set_option maxHeartbeats 2000000 in
theorem treesIn_any (s : List UInt8) (w : World) (hn : s.length ≤ 1048576) :
    Calls Tryz.prog 130 #[.string ⟨s.toArray⟩] w (ResT (Tr.trF [] 0 [] s) w) := by
  obtain ⟨i0, hi, hz0, hz1, hz2⟩ := info_parts info_tree
  have HN := Lib.hid hn
  obtain ⟨S, hS⟩ : ∃ S : ByteArray, S = ⟨s.toArray⟩ := ⟨_, rfl⟩
  have HSZ : Hid (S.size = s.length) := by rw [Hid, hS]; exact size_S s
  have HS := Lib.hid hS
  rw [← hS]
  have hs20 : S.size ≤ 1048576 := by rw [HSZ.out]; exact hn
  clear hS hn
  go_enter Tryz.func130, Tryz.ntmps130
  go_wp2_with fail
  go_loopw [4, 5, 6] (fun v a o wr => ∃ (p st op q cv : Nat) (Av : Option Addr) (acc : List (List UInt8)), p ≤ S.size ∧ st ≤ p ∧ op ≤ p ∧ q ≤ p ∧ v = .slice Av q cv ∧ a = .int .i64 st ∧ o = .int .i64 op ∧ wr.heap[w.heap.size]? = some (.stringIter S p) ∧ Hid (Tr.trF [] 0 [] s = Tr.trF ((s.drop st).take (p - st)) op acc (s.drop p)) ∧ Hid (wr.ownsRow w.heap.size 80 1 (.slice Av q cv) q (strs acc)) ∧ Below w.heap.size w wr) (fun _ _ _ wr => S.size - wr.iterPos w.heap.size)
  case atStart => exact ⟨0, 0, 0, 0, 0, none, [], Nat.zero_le _, Nat.le_refl _, Nat.le_refl _, Nat.le_refl _, rfl, rfl, rfl, World.iter_heap w S 0, by simp [Hid], World.ownsRow_nil .., (Below.refl _ _).alloc (Nat.le_refl _) _⟩
  case round =>
    obtain ⟨p, st, op, q, cv, Av, acc, hp, hst, hop, hq, rfl, rfl, rfl, hit, HE, HO, HBw⟩ := hrel
    have hlt := (Array.getElem?_eq_some_iff.1 hit).1
    by_cases hps : p < S.size
    · obtain ⟨c, hc⟩ := at_lt (show p < s.length by rw [← HSZ.out]; exact hps)
      have hbyte : S[p]'hps = c := by
        have hS := HS.out
        subst hS
        exact byte_at hc hps
      have HIT := Lib.hid hit
      by_cases hasc : c.toNat < 128
      · have hnx : ∀ ty, (Instr.next (.pointer (some ⟨w.heap.size, 0, none⟩)) true ty).run Tryz.prog wr = _ := fun ty => Lib.run_next_ascii_at wr w.heap.size S p ty hit hps (by rw [hbyte]; exact hasc)
        rw [hbyte] at hnx
        have hit2 := Lib.iterAt_heap wr w.heap.size S p (p + 1) hit
        have HO2 := Lib.hid (own_iterAt (p' := p + 1) HO.out hit)
        have HB2 := Lib.hid (Lib.below_iterAt HBw (k := w.heap.size) (Nat.le_refl _) S (p + 1))
        have hsz2 : (wr.iterAt w.heap.size S (p + 1)).heap.size = wr.heap.size := Lib.iterAt_size ..
        have hW1 : w.heap.size < (wr.iterAt w.heap.size S (p + 1)).heap.size := by rw [hsz2]; exact hlt
        by_cases h91 : c = 91
        · subst h91
          have e91 : ((91 : UInt8).toNat : Int) = 91 := rfl
          rw [e91] at hnx
          have HE2 : Hid (Tr.trF [] 0 [] s = Tr.trF ((s.drop st).take (p + 1 - st)) (op + 1) acc (s.drop (p + 1))) := by rw [Hid, HE.out, tr_open hc, cut_step hc hst]
          generalize hW : wr.iterAt w.heap.size S (p + 1) = W at *
          have HH2 := Lib.hid hit2
          have t0 : ((op : Int) + 1 == 0) = false := beq_f (by omega)
          clear hc hbyte hasc HE HBw HO hit hW hit2 hsz2
          go_wp2
          go_roundw
          case rel => exact ⟨p + 1, st, op + 1, q, cv, Av, acc, by omega, by omega, by omega, by omega, rfl, rfl, by go_num, HH2.out, HE2, HO2, HB2.out⟩
          case measure =>
            simp only [World.iterPos, HH2.out, HIT.out]
            omega
        · by_cases h93 : c = 93
          · subst h93
            have e93 : ((93 : UInt8).toNat : Int) = 93 := rfl
            rw [e93] at hnx
            have HTC := Lib.hid (HE.out.trans (tr_close hc))
            have HCUT : Hid ((s.drop st).take (p + 1 - st) = (s.drop st).take (p - st) ++ [93]) := cut_step hc hst
            generalize hW : wr.iterAt w.heap.size S (p + 1) = W at *
            have HH2 := Lib.hid hit2
            clear hc hbyte hasc HE HBw HO hit hW hit2 hsz2
            rcases (show op = 0 ∨ op = 1 ∨ 2 ≤ op by omega) with rfl | rfl | h2
            · have G : Hid (Tr.trF [] 0 [] s = ([], false)) := by rw [Hid, HTC.out, if_pos rfl]
              clear HTC
              go_wp2
              go_ret2
              exact ResT.none G.out HB2.out
            · have HE2 : Hid (Tr.trF [] 0 [] s = Tr.trF ((s.drop (p + 1)).take (p + 1 - (p + 1))) 0 (acc ++ [(s.drop st).take (p + 1 - st)]) (s.drop (p + 1))) := by
                rw [Hid, HTC.out, if_neg (by decide), if_pos rfl, Nat.sub_self, List.take_zero, HCUT.out]
              have HX : Hid (S.extract st (p + 1) = ⟨((s.drop st).take (p + 1 - st)).toArray⟩) := by rw [Hid, HS.out]; exact extract_S s st (p + 1)
              obtain ⟨X, hX⟩ : ∃ X, X = S.extract st (p + 1) := ⟨_, rfl⟩
              have HXX : Hid (S.extract st (p + 1) = X) := hX.symm
              have hown2 := HO2.out
              have hp1 : p + 1 ≤ S.size := hps
              clear HTC
              have hsl : ∀ W, (Instr.slice 9 (.string S) (some (.int .i64 (st : Int))) (some (.int .i64 ((p : Int) + 1))) none).run Tryz.prog W = .ok (.string X) W := fun W => by
                rw [run_slice_string W 9 S .i64 .i64 st ((p : Int) + 1) Tryz.underlying9 (by omega) (by omega) (by omega)]
                rw [← HXX.out]
                congr 3
              clear hX
              go_wp2_with (at_builtin; (refine wpList_append_lies _ rfl (.tmp 28) (.tmp 34) 76 rfl w.heap.size 80 i0 _ 1 16 Tryz.underlying76 hi hz0 hz1 hz2 rfl (by omega) (.slice Av q cv) q (strs acc) rfl (hown2.alloc _) ⟨W.heap.size, 0, none⟩ 1 1 [.string X] rfl rfl (World.news_of_block (cs := #[.string X]) (heap_alloc_new _ _)) (by simp [Value.oneCell']) (by omega) (by simp only [maxLen]; omega) (by omega) (by simp; omega) (W.heap.size + 1) (by simp) ?_); intro g2 cap2 w3 hown3 hgrow3 hat3 hlt3)
              have e1 : strs acc ++ [Value.string X] = strs (acc ++ [(s.drop st).take (p + 1 - st)]) := by rw [← HXX.out, HX.out]; simp [strs]
              rw [e1] at hown3
              have GI : Hid (w3.heap[w.heap.size]? = some (.stringIter S (p + 1))) := by
                rw [Hid, hgrow3.block _ (by simp; omega) (own_ne_iter HO2.out HH2.out), Lib.alloc_old _ _ _ hW1]
                exact HH2.out
              have G3 := Lib.hid hown3
              have GB3 : Hid (Below w.heap.size w w3) := (HB2.out.alloc (by omega) _).grown hgrow3 (by simp; omega) (fun z hz => (HO2.out.lt z hz).1)
              clear hown3 hgrow3 hat3 hown2 e1 hsl
              go_wp2
              go_roundw
              case rel => exact ⟨p + 1, p + 1, 0, q + 1, cap2, _, _, by omega, by omega, by omega, by omega, rfl, by go_num, rfl, GI.out, HE2, G3, GB3.out⟩
              case measure =>
                simp only [World.iterPos, GI.out, HIT.out]
                omega
            · have HE2 : Hid (Tr.trF [] 0 [] s = Tr.trF ((s.drop st).take (p + 1 - st)) (op - 1) acc (s.drop (p + 1))) := by
                rw [Hid, HTC.out, if_neg (by omega), if_neg (by omega), HCUT.out]
              have t0 : ((op : Int) - 1 == 0) = false := beq_f (by omega)
              clear HTC
              go_wp2
              go_roundw
              case rel => exact ⟨p + 1, st, op - 1, q, cv, Av, acc, by omega, by omega, by omega, by omega, rfl, rfl, by go_num, HH2.out, HE2, HO2, HB2.out⟩
              case measure =>
                simp only [World.iterPos, HH2.out, HIT.out]
                omega
          · have G : Hid (Tr.trF [] 0 [] s = ([], false)) := by rw [Hid, HE.out]; exact tr_other hc h91 h93
            have t1 : ((c.toNat : Int) == 91) = false := beq_f (fun e => h91 (UInt8.toNat_inj.1 (by simp; omega)))
            have t2 : ((c.toNat : Int) == 93) = false := beq_f (fun e => h93 (UInt8.toNat_inj.1 (by simp; omega)))
            generalize hW : wr.iterAt w.heap.size S (p + 1) = W at *
            clear hc hbyte hasc HE HBw HO hit hW hit2 hsz2 h91 h93
            go_wp2
            go_ret2
            exact ResT.none G.out HB2.out
      · have hd := decode_high S p hps (by rw [hbyte]; omega)
        have hnx : ∀ ty, (Instr.next (.pointer (some ⟨w.heap.size, 0, none⟩)) true ty).run Tryz.prog wr = _ := fun ty => Lib.run_next_any_at wr w.heap.size S p ty hit hps
        have h91 : c ≠ 91 := fun e => by subst e; exact hasc (by decide)
        have h93 : c ≠ 93 := fun e => by subst e; exact hasc (by decide)
        have G : Hid (Tr.trF [] 0 [] s = ([], false)) := by rw [Hid, HE.out]; exact tr_other hc h91 h93
        have HB2 := Lib.hid (Lib.below_iterAt HBw (k := w.heap.size) (Nat.le_refl _) S (p + (Utf8.decode S p).2))
        generalize hW : wr.iterAt w.heap.size S (p + (Utf8.decode S p).2) = W at *
        obtain ⟨rn, hrn⟩ : ∃ rn, rn = (Utf8.decode S p).1 := ⟨_, rfl⟩
        rw [← hrn] at hnx hd
        have t1 : ((rn : Int) == 91) = false := beq_f (by have := hd.1; omega)
        have t2 : ((rn : Int) == 93) = false := beq_f (by have := hd.1; omega)
        clear hc hbyte hasc HE HBw HO hit hW h91 h93 hrn hd
        go_wp2
        go_ret2
        exact ResT.none G.out HB2.out
    · have hnx : ∀ ty, (Instr.next (.pointer (some ⟨w.heap.size, 0, none⟩)) true ty).run Tryz.prog wr = _ := fun ty => Lib.run_next_end_at wr w.heap.size S p ty hit hps
      have e : Tr.trF [] 0 [] s = (acc, op == 0) := by
        have hl : s.length ≤ p := by have := HSZ.out; unfold Hid at this; omega
        have := HE.out
        rw [List.drop_of_length_le hl] at this
        rw [this]
        simp [Tr.trF]
      have G : Hid (ResT (Tr.trF [] 0 [] s) w (.returned (.tuple #[.slice Av q cv, .bool (op == 0)])) wr) := by
        rw [Hid, e]; exact ⟨Av, q, cv, rfl, HO.out, HBw⟩
      by_cases h0 : op = 0
      · subst h0
        clear HBw HE e hit
        go_wp2
        go_ret2
        exact G.out
      · have t0 : ((op : Int) == 0) = false := beq_f (by omega)
        have t1 : (op == 0) = false := by simp [h0]
        rw [t1] at G
        clear HBw HE e hit h0 t1
        go_wp2
        go_ret2
        exact G.out
end Go.Proofs.YtolkbbbbahhfaaaGreat
/-
  The branches of a tree by its text.
-/
namespace Go.Proofs.YtolkbbbbahhfaaaGreat
open Go.RowKit Fld
set_option linter.unusedVariables false
set_option linter.unusedSimpArgs false
set_option maxRecDepth 100000

/-- texts of the call's own -/
def ResTs (l : List (List UInt8)) (w : World) (e : Ending) (w' : World) : Prop :=
  ∃ A q c, e = .returned (.slice A q c) ∧ q = l.length ∧ w'.ownsRow w.heap.size 80 1 (.slice A q c) q (strs l) ∧ Below w.heap.size w w'
theorem branches_any (x : List UInt8) (w : World) (hx : Tr.isTx x = true) :
    Calls Tryz.prog 97 #[.string ⟨x.toArray⟩] w (ResTs (Tr.brT x) w) := by
  obtain ⟨⟨h2, h16⟩, _, _⟩ := Tr.br_parts hx
  obtain ⟨S, hS⟩ : ∃ S : ByteArray, S = ⟨x.toArray⟩ := ⟨_, rfl⟩
  have hsz : S.size = x.length := by rw [hS]; exact size_S x
  have HX : Hid (S.extract 1 (x.length - 1) = ⟨(Tr.inner x).toArray⟩) := by
    rw [Hid, hS, extract_S]; unfold Tr.inner; rw [show x.length - 1 - 1 = x.length - 2 from by omega]
  obtain ⟨X, hX⟩ : ∃ X, X = S.extract 1 (x.length - 1) := ⟨_, rfl⟩
  have hXX : X = ⟨(Tr.inner x).toArray⟩ := by rw [hX]; exact HX.out
  have HXX : Hid (S.extract 1 (x.length - 1) = X) := hX.symm
  have hil : (Tr.inner x).length ≤ 1048576 := by unfold Tr.inner; rw [List.length_take]; omega
  have C0 := treesIn_any (Tr.inner x) w hil
  rw [← hXX] at C0
  have hsl : ∀ W, (Instr.slice 80 (.string S) (some (.int .i64 1)) (some (.int .i64 ((S.size : Int) - 1))) none).run Tryz.prog W = .ok (.string X) W := fun W => by
    have h9 := run_slice_string W 80 S .i64 .i64 1 ((S.size : Int) - 1) Tryz.underlying80 (by omega) (by omega) (by omega)
    rw [show (S.size : Int) - 1 = ((x.length - 1 : Nat) : Int) from by omega] at h9 ⊢
    rw [h9, ← HXX.out]
    congr 3
  rw [← hS]
  have hs2 : 2 ≤ S.size := by omega
  have hs16 : S.size ≤ 16 := by omega
  clear hX hXX hS hsz h2 h16 hil hx
  go_enter Tryz.func97, Tryz.ntmps97
  go_wp2_with fail
  refine C0.mono ?_
  rintro e w1 ⟨A, q, c, rfl, own1, bel1⟩
  have G : Hid (ResTs (Tr.brT x) w (.returned (.slice A q c)) w1) := by
    refine ⟨A, q, c, rfl, ?_, own1, bel1⟩
    have := own_len own1
    rw [strs_length] at this
    exact this.symm
  clear own1 bel1
  go_wp2
  go_ret
  exact G.out
end Go.Proofs.YtolkbbbbahhfaaaGreat
/-
  Stage weights, plain: by the branches of a text, in any order.
-/
namespace Go.Proofs.YtolkbbbbahhfaaaGreat
open Go.RowKit Fld
set_option linter.unusedVariables false
set_option linter.unusedSimpArgs false
set_option maxRecDepth 100000

def mulL (a b : List Int) : List Int := List.zipWith (fun x y => x * y % 10007) a b
theorem mulL_length {a b : List Int} {n : Nat} (ha : a.length = n) (hb : b.length = n) : (mulL a b).length = n := by unfold mulL; rw [List.length_zipWith]; omega
theorem mulL_at {a b : List Int} {j : Nat} {x y : Int} (hx : a[j]? = some x) (hy : b[j]? = some y) : (mulL a b)[j]? = some (x * y % 10007) := by
  unfold mulL; rw [List.getElem?_zipWith, hx, hy]
theorem mulL_num : ∀ a b : List Int, allNum (mulL a b) = true
  | [], _ => by simp [mulL, allNum]
  | _ :: _, [] => by simp [mulL, allNum]
  | x :: a, y :: b => by
    have := mulL_num a b
    rw [allNum_iff] at this ⊢
    intro z hz
    unfold mulL at hz
    rw [List.zipWith_cons_cons, List.mem_cons] at hz
    rcases hz with rfl | hz
    · omega
    · exact this z hz
theorem mod_three (x y z : Int) : x * y % 10007 * z % 10007 = x * y * z % 10007 := by
  rw [Int.mul_emod, Int.emod_emod, ← Int.mul_emod]
theorem mulL_right : ∀ a b c : List Int, mulL (mulL a b) c = mulL (mulL a c) b
  | [], b, c => by simp [mulL]
  | x :: a, [], c => by cases c <;> simp [mulL]
  | x :: a, y :: b, [] => by simp [mulL]
  | x :: a, y :: b, z :: c => by
    have h := mulL_right a b c
    unfold mulL at h ⊢
    rw [List.zipWith_cons_cons, List.zipWith_cons_cons, List.zipWith_cons_cons, List.zipWith_cons_cons, h, mod_three, mod_three, Int.mul_right_comm]
/-- the stage weights of a text -/
def swF (m : List (List Int)) (n : Nat) : Nat → List UInt8 → List Int
  | 0, _ => List.replicate n 1
  | k+1, x => (Tr.brT x).foldl (fun a b => mulL a (appL m (swF m n k b))) (List.replicate n 1)
theorem foldW_congr (m : List (List Int)) (f g : List UInt8 → List Int) : ∀ (L : List (List UInt8)) (a : List Int), (∀ b ∈ L, f b = g b) → L.foldl (fun a b => mulL a (appL m (f b))) a = L.foldl (fun a b => mulL a (appL m (g b))) a
  | [], _, _ => rfl
  | b :: L, a, h => by rw [List.foldl_cons, List.foldl_cons, h b (by simp), foldW_congr m f g L _ (fun c hc => h c (by simp [hc]))]
theorem swF_fuel (m : List (List Int)) (n : Nat) : ∀ (k j : Nat) (x : List UInt8), Tr.isTx x = true → x.length ≤ k → x.length ≤ j → swF m n k x = swF m n j x := fun k => by
  induction k with
  | zero => intro j x hx h1 h2; have := (Tr.br_parts hx).1.1; omega
  | succ k ih =>
    intro j x hx h1 h2
    cases j with
    | zero => have := (Tr.br_parts hx).1.1; omega
    | succ j =>
      have hb := (Tr.br_parts hx).2.1
      exact foldW_congr m _ _ _ _ fun b hm => ih j b (hb b hm).1 (by have := (hb b hm).2; omega) (by have := (hb b hm).2; omega)
def sw (m : List (List Int)) (n : Nat) (x : List UInt8) : List Int := swF m n 16 x
theorem sw_eq {m : List (List Int)} {n : Nat} {x : List UInt8} (hx : Tr.isTx x = true) : sw m n x = (Tr.brT x).foldl (fun a b => mulL a (appL m (sw m n b))) (List.replicate n 1) := by
  have h := (Tr.br_parts hx).1
  unfold sw
  rw [swF_fuel m n 16 17 x hx (by omega) (by omega)]; rfl
/-- what the first k branches make -/
def swTo (m : List (List Int)) (n : Nat) (L : List (List UInt8)) (k : Nat) : List Int := (L.take k).foldl (fun a b => mulL a (appL m (sw m n b))) (List.replicate n 1)
theorem swTo_succ {m : List (List Int)} {n k : Nat} {L : List (List UInt8)} {b : List UInt8} (h : L[k]? = some b) : swTo m n L (k + 1) = mulL (swTo m n L k) (appL m (sw m n b)) := by
  unfold swTo; rw [List.take_add_one, h]; simp
theorem fold_len {m : List (List Int)} {n : Nat} (hm : m.length = n) (f : List UInt8 → List Int) : ∀ (L : List (List UInt8)) (a : List Int), a.length = n → (L.foldl (fun a b => mulL a (appL m (f b))) a).length = n
  | [], a, h => h
  | b :: L, a, h => by rw [List.foldl_cons]; exact fold_len hm f L _ (mulL_length h ((appL_length m _).trans hm))
theorem fold_num {m : List (List Int)} (f : List UInt8 → List Int) : ∀ (L : List (List UInt8)) (a : List Int), allNum a = true → allNum (L.foldl (fun a b => mulL a (appL m (f b))) a) = true
  | [], a, h => h
  | b :: L, a, h => by rw [List.foldl_cons]; exact fold_num f L _ (mulL_num _ _)
theorem swTo_len {m : List (List Int)} {n : Nat} (hm : m.length = n) (L : List (List UInt8)) (k : Nat) : (swTo m n L k).length = n := fold_len hm _ _ _ (by simp)
theorem swTo_num (m : List (List Int)) (n : Nat) (L : List (List UInt8)) (k : Nat) : allNum (swTo m n L k) = true := fold_num _ _ _ (ones_num n)
theorem sw_len {m : List (List Int)} {n : Nat} (hm : m.length = n) {x : List UInt8} (hx : Tr.isTx x = true) : (sw m n x).length = n := by rw [sw_eq hx]; exact fold_len hm _ _ _ (by simp)
theorem sw_num {m : List (List Int)} {n : Nat} {x : List UInt8} (hx : Tr.isTx x = true) : allNum (sw m n x) = true := by rw [sw_eq hx]; exact fold_num _ _ _ (ones_num n)
theorem swTo_br {m : List (List Int)} {n q : Nat} {x : List UInt8} (hx : Tr.isTx x = true) (hq : (Tr.brT x).length = q) : swTo m n (Tr.brT x) q = sw m n x := by
  rw [sw_eq hx]; unfold swTo; rw [List.take_of_length_le (by omega)]
def chkW (t : List Int) : Bool := ((Tr.partsL t).map Tr.txt).isPerm (Tr.brT (Tr.txt t))
theorem chkW_all : Tr.allLv.all chkW = true := by decide +kernel
theorem swTo_parts {m : List (List Int)} {n q : Nat} {t : List Int} (h : Tr.isLv t = true) (hq : (Tr.partsL t).length = q) : swTo m n ((Tr.partsL t).map Tr.txt) q = sw m n (Tr.txt t) := by
  have h1 : ((Tr.partsL t).map Tr.txt).Perm (Tr.brT (Tr.txt t)) := by
    have := Tr.all_of chkW_all (Tr.isLv_iff.1 h)
    unfold chkW at this
    exact List.isPerm_iff.1 this
  rw [sw_eq (Tr.tx_txt h)]; unfold swTo; rw [List.take_of_length_le (by rw [List.length_map]; omega)]
  exact h1.foldl_eq' (fun x _ y _ z => mulL_right _ _ _) _
end Go.Proofs.YtolkbbbbahhfaaaGreat
/-
  The program's canonical lists and its test on them.
-/
namespace Go.Proofs.YtolkbbbbahhfaaaGreat
open Go.RowKit Fld
set_option linter.unusedVariables false
set_option linter.unusedSimpArgs false
set_option maxRecDepth 100000

theorem wrap_brk {ss : List (List UInt8)} (h : ∀ x ∈ ss, Brk x) : Brk (Tr.wrap ss) := by
  intro c hc
  unfold Tr.wrap at hc
  rw [List.mem_cons, List.mem_append, List.mem_flatten, List.mem_singleton] at hc
  rcases hc with rfl | ⟨x, hx, hcx⟩ | rfl
  · exact .inl rfl
  · exact h x hx c hcx
  · exact .inr rfl
theorem txt_brk : ∀ (d : Nat) (t : List Int), Brk (Tr.txtF d t)
  | 0, t => fun c hc => by simp [Tr.txtF] at hc
  | d+1, t => by
    rw [Tr.txtF]
    refine wrap_brk fun x hx => ?_
    rw [(Tr.sortS_perm _).mem_iff, List.mem_map] at hx
    obtain ⟨p, _, rfl⟩ := hx
    exact txt_brk d p
theorem lv_txt {t : List Int} (h : Tr.isLv t = true) : Tr.lvl (Tr.txt t) = Tr.can t ∧ Tr.isLv (Tr.can t) = true ∧ (Tr.can t).length = t.length ∧ (Tr.txt t).length = 2 * t.length := by
  have h1 := Tr.all_of Tr.chk1_all (Tr.isLv_iff.1 h)
  unfold Tr.chk1 at h1
  simp only [Bool.and_eq_true, beq_iff_eq] at h1
  exact ⟨h1.1.1.1, h1.1.1.2, h1.1.2, h1.2⟩
theorem lv_bd {t : List Int} (h : Tr.isLv t = true) : 1 ≤ t.length ∧ t.length ≤ 8 := by
  have := Tr.isLv_iff.1 h
  exact ⟨this.1, this.2.1⟩
def isTr (t : List Int) : Bool := Tr.isLv t && eqL (Tr.can t) t
/-- levels of the text of a level list -/
theorem levelsOf_any (t : List Int) (w : World) (h : Tr.isLv t = true) : Calls Tryz.prog 102 #[.string ⟨(Tr.txt t).toArray⟩] w (NewRow 2 t.length (ints (Tr.can t)) w) := by
  obtain ⟨e1, _, e2, e3⟩ := lv_txt h
  have h1 := levels_any (Tr.txt t) w (by have := (lv_bd h).2; omega) (txt_brk _ _)
  rw [e1, e2] at h1
  exact h1
set_option maxHeartbeats 400000 in
theorem isTree_any (A : Option Addr) (n c B : Nat) (t : List Int) (w : World) (hl : t.length = n) (hn : n ≤ 9223372036854775807) (hc : n ≤ c) (hB : B ≤ w.heap.size) (h : Row w B A (ints t)) :
    Calls Tryz.prog 91 #[.slice A n c] w (ResB (isTr t) w) := by
  cases hlv : Tr.isLv t
  · have G : Hid (isTr t = false) := by rw [Hid, isTr, hlv]; rfl
    go_enter Tryz.func91, Tryz.ntmps91
    go_wp2_with fail
    have C0 := isLevels_any A n c B t w hl hn h
    rw [hlv] at C0
    refine C0.mono ?_
    rintro e w' ⟨rfl, m, rfl⟩
    go_wp2
    go_ret
    exact ⟨ret_bool G.out.symm, below_drewN (Below.refl _ _) _⟩
  · obtain ⟨b1, b8⟩ := lv_bd hlv
    rw [hl] at b1 b8
    have HL := Lib.hid hl
    have HLV := Lib.hid hlv
    have C0 := isLevels_any A n c B t w hl hn h
    rw [hlv] at C0
    have HE : Hid ((Tr.can t).length = n) := by rw [Hid, (lv_txt hlv).2.2.1, hl]
    have GE : Hid (isTr t = eqL (Tr.can t) t) := by rw [Hid, isTr, hlv]; rfl
    clear hl hlv
    go_enter Tryz.func91, Tryz.ntmps91
    go_wp2_with fail
    refine C0.mono ?_
    rintro e w' ⟨rfl, m, rfl⟩
    go_wp2_with fail
    refine (treeOf_any A n c B t _ HL.out b1 b8 hc (by exact hB) (h.drewN m)).mono ?_
    rintro e w2 ⟨rfl, bel2⟩
    go_wp2_with fail
    refine (levelsOf_any t _ HLV.out).mono ?_
    rintro e w3 ⟨A3, c3, rfl, own3, bel3⟩
    have hs2 : w.heap.size ≤ w2.heap.size := bel2.size
    have row3 : Row w3 B A (ints t) := Row.below (Row.below h (below_undrew' bel2) hB) bel3 (by omega)
    rw [HL.out]
    go_wp2_with fail
    refine (slicesEqual_any A3 A n n c3 c _ _ (Tr.can t) t _ HE.out HL.out hn hn (row_of_own (by rw [HL.out] at own3; exact own3)) row3).mono ?_
    rintro e w4 ⟨rfl, m4, rfl⟩
    have GB : Hid (Below w.heap.size w w3) := (below_undrew' bel2).trans (bel3.mono hs2)
    clear own3 bel2 bel3
    go_wp2
    go_ret
    exact ⟨ret_bool GE.out.symm, below_drewN GB.out _⟩
/-- what CanonicalTree is to answer -/
def canA (t : List Int) : List Int × Int := if Tr.isLv t = true then (Tr.can t, 0) else ([], 1)
theorem canA_yes {t : List Int} (h : Tr.isLv t = true) : canA t = (Tr.can t, 0) := if_pos h
theorem canA_no {t : List Int} (h : Tr.isLv t = false) : canA t = ([], 1) := if_neg (by rw [h]; simp)
end Go.Proofs.YtolkbbbbahhfaaaGreat
/-
  A result beside a code, handed back.
-/
namespace Go.Proofs.YtolkbbbbahhfaaaGreat
open Go.RowKit Fld
set_option linter.unusedVariables false

theorem ResI.of' {r : Int × Int} {w w' : World} {x k : Int} (h : r = (x, k)) (hb : Below w.heap.size w w') : ResI r w (.returned (.tuple #[.int .i64 x, .int .i64 k])) w' := by
  subst h; exact ⟨rfl, hb⟩
end Go.Proofs.YtolkbbbbahhfaaaGreat
/-
  Stage weights: the program's walk.
-/
namespace Go.Proofs.YtolkbbbbahhfaaaGreat
open Go.RowKit Fld
set_option linter.unusedVariables false
set_option linter.unusedSimpArgs false
set_option maxRecDepth 100000

theorem mix_stepW {U V : List Int} {j : Nat} {u : Int} (hu : U[j]? = some u) (hl : V.length = U.length) : (U.take j ++ V.drop j).set j u = U.take (j + 1) ++ V.drop (j + 1) := by
  have hj : j < U.length := (List.getElem?_eq_some_iff.1 hu).1
  exact mark_step (by omega) (by omega) hu
theorem mix_atW {U V : List Int} {j : Nat} {v : Int} (hv : V[j]? = some v) (hl : V.length = U.length) : (U.take j ++ V.drop j)[j]? = some v := by
  have hj : j < V.length := (List.getElem?_eq_some_iff.1 hv).1
  rw [List.getElem?_append_right (by rw [List.length_take]; omega), List.length_take, Nat.min_eq_left (by omega), Nat.sub_self, List.getElem?_drop, Nat.add_zero]; exact hv
theorem mix_lenW (U V : List Int) (j : Nat) (hl : V.length = U.length) (hj : j ≤ U.length) : (U.take j ++ V.drop j).length = U.length := by simp; omega
/-- the weights so far, in block g: nothing else of what was there has turned -/
def WState (w w2 : World) (T : TypeId) (g n c : Nat) (xs : List Int) (wr : World) : Prop :=
  wr.ownsRow w.heap.size T 1 (.slice (some ⟨g, 0, none⟩) n c) n (ints xs) ∧ Within g (g + 1) w2 wr
theorem WState.below {w w2 wr w3 : World} {T : TypeId} {g n c : Nat} {xs : List Int} (h : WState w w2 T g n c xs wr) (hb : Below wr.heap.size wr w3) : WState w w2 T g n c xs w3 := by
  refine ⟨?_, h.2.trans (Within.of_below hb)⟩
  exact (OwnR.below (OwnR.of h.1) hb (Nat.le_refl _)).1
theorem WState.put {w w2 wr : World} {T : TypeId} {g n c j : Nat} {xs : List Int} {u : Int} (h : WState w w2 T g n c xs wr) (hj : j < n) : WState w w2 T g n c (xs.set j u) (wr.setCell ⟨g, j, none⟩ (.int .i64 u)) := by
  have hs := h.1.stored j (.int .i64 u)
  refine ⟨?_, h.2.trans (Within.grown hs.2 (fun g' e => by injection e with e; subst e; exact ⟨Nat.le_refl _, Nat.lt_succ_self _⟩))⟩
  have := hs.1
  unfold ints intsK at this ⊢
  rw [List.map_set]; exact this
theorem WState.drewN {w w2 wr : World} {T : TypeId} {g n c : Nat} {xs : List Int} (h : WState w w2 T g n c xs wr) (j : Nat) : WState w w2 T g n c xs (wr.drewN j) := h.below (below_drewN (Below.refl _ _) j)
theorem own_block {w : World} {base : Nat} {T : TypeId} {A : Option Addr} {n c : Nat} {vs : List Value} (h : w.ownsRow base T 1 (.slice A n c) n vs) (hn : 1 ≤ n) : ∃ g, A = some ⟨g, 0, none⟩ ∧ base ≤ g ∧ g < w.heap.size := by
  rcases h.2 with ⟨_, h0⟩ | ⟨g, cap, cur, e, hb, hg, _⟩
  · omega
  · injection e with e1 _ e3
    exact ⟨g, e1, hb, (Array.getElem?_eq_some_iff.1 hg).1⟩
def StageW (d : Nat) : Prop := ∀ (x : List UInt8) (A D : Option Addr) (n c dd B : Nat) (m : List (List Int)) (w : World), Tr.isTx x = true → x.length ≤ d → m.length = n → 1 ≤ n → n ≤ 8 → Wide m n → (∀ r ∈ m, allNum r = true) → B ≤ w.heap.size → Mat w B A m →
  Calls Tryz.prog 106 #[.agg #[.slice A n c, .slice D n dd], .string ⟨x.toArray⟩] w (NewRow 54 n (ints (sw m n x)) w)
set_option maxHeartbeats 4000000 in
theorem stageW_succ (d : Nat) (IH : StageW d) : StageW (d + 1) := by
  intro x A D n c dd B m w hx hxd hl hn1 hn hq hnum hB h
  have hbr := Tr.br_parts hx
  have HX := Lib.hid hx
  have HL := Lib.hid hl
  have HQ := Lib.hid hq
  have HN := Lib.hid hnum
  obtain ⟨W0, hW0⟩ : ∃ W0, W0 = w.alloc (.cells #[.slice A n c, .slice D n dd] 61) := ⟨_, rfl⟩
  have HB : Hid (Below w.heap.size w W0) := by rw [hW0]; exact (Below.refl _ _).alloc (Nat.le_refl _) _
  have HBX : Hid (Bx W0 w.heap.size 61 (.slice A n c) (.slice D n dd)) := by rw [hW0]; exact Bx.new _ _ _ _
  have zA : w.heap.size < W0.heap.size := HBX.out.lt
  have HM := Lib.hid (h.below HB.out hB)
  have IHb : Hid (∀ b ∈ Tr.brT x, ∀ (V : World), Below W0.heap.size W0 V ∨ Mat V B A m → B ≤ V.heap.size → Mat V B A m → Calls Tryz.prog 106 #[.agg #[.slice A n c, .slice D n dd], .string ⟨b.toArray⟩] V (NewRow 54 n (ints (sw m n b)) V)) := fun b hb V _ h1 h2 =>
    IH b A D n c dd B m V (hbr.2.1 b hb).1 (by have := (hbr.2.1 b hb).2; omega) HL.out hn1 hn HQ.out HN.out h1 h2
  have CB := fun V => branches_any x V hx
  obtain ⟨L, hL⟩ : ∃ L, L = Tr.brT x := ⟨_, rfl⟩
  have HLL := Lib.hid hL
  have hq7 : L.length ≤ 7 := by rw [hL]; exact hbr.2.2
  have HTX : Hid (∀ b ∈ L, Tr.isTx b = true) := fun b hb => (hbr.2.1 b (by rw [← hL]; exact hb)).1
  rw [← hL] at IHb
  simp only [← hL] at CB
  obtain ⟨X, hX⟩ : ∃ X : ByteArray, X = ⟨x.toArray⟩ := ⟨_, rfl⟩
  rw [← hX] at CB ⊢
  clear hl hq hnum h hbr hx hL hX hxd IH
  go_enter Tryz.func106, Tryz.ntmps106
  go_wp2_with fail
  rw [← hW0]
  clear hW0
  refine (ones_any A D n c n dd W0 hn1 hn).mono ?_
  rintro e w1 ⟨A1, c1, rfl, own1, b1⟩
  obtain ⟨g1, rfl, hg0, hg1⟩ := own_block own1 hn1
  have hc1 := own_cap own1
  have hz1 := b1.size
  have HO1 := Lib.hid own1
  have HB1 := Lib.hid b1
  clear own1 b1
  go_wp2_with fail
  refine (CB w1).mono ?_
  rintro e w2 ⟨A2, q, c2, rfl, hq, own2, b2⟩
  have hz2 := b2.size
  have HQL := Lib.hid hq
  have hq7' : q ≤ 7 := by omega
  have HO2 := Lib.hid (OwnR.of own2)
  have S0 : Hid (WState w w2 54 g1 n c1 (swTo m n L 0) w2) := by
    refine ⟨?_, Within.refl _ _ _⟩
    exact ((((OwnR.of HO1.out).below b2 (Nat.le_refl _)).more (Nat.le_of_lt zA) (Nat.le_refl _))).1
  have HB2 := Lib.hid (HB1.out.trans (b2.mono hz1))
  have HBX2 := Lib.hid (HBX.out.next HB2.out)
  have HM2 := Lib.hid (HM.out.below HB2.out (by omega))
  have HBW := Lib.hid (HB.out.trans (HB2.out.mono (Nat.le_of_lt zA)))
  have FR : Hid (∀ xs wr, WState w w2 54 g1 n c1 xs wr → Row wr w2.heap.size A2 (strs L) ∧ Bx wr w.heap.size 61 (.slice A n c) (.slice D n dd) ∧ Mat wr B A m ∧ Below w.heap.size w wr ∧ w2.heap.size ≤ wr.heap.size) := fun xs wr hs =>
    ⟨(HO2.out.within hs.2 (Nat.le_refl _) (by omega)).row, HBX2.out.within hs.2 (by omega), HM2.out.below (hs.2.below (B := B) (by omega) (by omega)) (Nat.le_refl _), Below.then HBW.out hs.2 (by omega) (by omega), hs.2.size⟩
  clear hq own2 b2 HO1 HB1 CB HM HB HBX HB2
  go_wp2_with fail
  go_loopw [15] (fun i wr => ∃ k : Nat, k ≤ q ∧ i = .int .i64 k ∧ WState w w2 54 g1 n c1 (swTo m n L k) wr) (fun i _ => q - (intOf i).toNat)
  case atStart => exact ⟨0, Nat.zero_le _, rfl, S0.out⟩
  case round =>
    obtain ⟨k, hk, rfl, HS⟩ := hrel
    by_cases hlt : k < q
    · obtain ⟨b, hb⟩ := at_lt (show k < L.length by have := HQL.out; omega)
      obtain ⟨hrow, hbx, hmat, hbw, hzr⟩ := FR.out _ _ HS
      obtain ⟨b3, o3, rfl, _, hcb⟩ := hrow k _ (strs_at hb)
      have hbm := List.mem_of_getElem? hb
      have hbt := HTX.out b hbm
      have KK : Hid (∀ V, Below wr.heap.size wr V → V.cell? ⟨w.heap.size, 0, none⟩ = some (.slice A n c) ∧ V.cell? ⟨w.heap.size, 1, none⟩ = some (.slice D n dd)) := fun V hV => ⟨(hbx.next hV).c0, (hbx.next hV).c1⟩
      have C1 := fun V (hV : Below wr.heap.size wr V) => IHb.out b hbm V (.inr (hmat.below hV (by omega))) (by have := hV.size; omega) (hmat.below hV (by omega))
      have C2 := fun V (hV : Below wr.heap.size wr V) A3 c3 (h3 : Row V V.heap.size A3 (ints (sw m n b))) => applied_any A D A3 n c n dd c3 B V.heap.size m (sw m n b) V HL.out hn HQ.out HN.out (sw_len HL.out hbt) (sw_num hbt) (by have := hV.size; omega) (Nat.le_refl _) (hmat.below hV (by omega)) h3
      obtain ⟨Y, hY⟩ : ∃ Y : ByteArray, Y = ⟨b.toArray⟩ := ⟨_, rfl⟩
      rw [← hY] at hcb
      simp only [← hY] at C1
      have HSB := Lib.hid HS
      have HE := Lib.hid (swTo_succ (m := m) (n := n) hb)
      have hPl : Hid ((appL m (sw m n b)).length = n) := (appL_length _ _).trans HL.out
      have hPn : Hid (allNum (appL m (sw m n b)) = true) := appL_num _ _
      have hVl : Hid ((swTo m n L k).length = n) := swTo_len HL.out _ _
      have hVn : Hid (allNum (swTo m n L k) = true) := swTo_num _ _ _ _
      obtain ⟨P, hP⟩ : ∃ P, P = appL m (sw m n b) := ⟨_, rfl⟩
      obtain ⟨V0, hV0⟩ : ∃ V, V = swTo m n L k := ⟨_, rfl⟩
      rw [← hP] at HE hPl hPn
      simp only [← hP] at C2
      rw [← hV0] at HE HSB hVl hVn
      clear hb hrow hbx hmat hbm hbt hY HS hP hV0
      go_wp2_with fail
      go_region_held3 (fun V => V.cell? ⟨w.heap.size, 0, none⟩ = some (.slice A n c) ∧ V.cell? ⟨w.heap.size, 1, none⟩ = some (.slice D n dd))
        (first | exact KK.out _ (Below.refl _ _) | exact KK.out _ (Below.refl _ _).drew | exact KK.out _ (below_drewN (Below.refl _ _) _) | exact KK.out _ (below_undrawn (a := 1) be3) | exact KK.out _ ((below_undrawn (a := 1) be3).trans (be4.mono (below_undrawn (a := 1) be3).size)))
        (first
          | (go_at_call 106; refine (C1 _ (by first | exact (Below.refl _ _).drew | exact below_drewN (Below.refl _ _) _)).mono ?_; clear C1; rintro e w3 ⟨A3, c3, rfl, own3, be3⟩)
          | (go_at_call 136; refine (C2 _ (by exact below_undrawn (a := 1) be3) A3 c3 (by exact row_of_own own3)).mono ?_; clear C2; rintro e w4 ⟨A4, c4, rfl, own4, be4⟩))
      have hb34 : Below wr.heap.size wr w4 := (below_undrawn (a := 1) be3).trans (be4.mono (below_undrawn (a := 1) be3).size)
      have hz3 : wr.heap.size ≤ w3.heap.size := (below_undrawn (a := 1) be3).size
      have hz4 := be4.size
      have HS4 := Lib.hid (HSB.out.below hb34)
      have HO4 := Lib.hid (OwnR.of own4)
      have hzw := HSB.out.2.size
      clear own3 own4 be3 be4 hb34 KK hcb
      go_wp2_with fail
      go_loopw [25] (fun i wj => ∃ j : Nat, j ≤ n ∧ i = .int .i64 j ∧ WState w w2 54 g1 n c1 ((mulL V0 P).take j ++ V0.drop j) wj ∧ Within g1 (g1 + 1) w4 wj) (fun i _ => n - (intOf i).toNat)
      case atStart => exact ⟨0, Nat.zero_le _, rfl, by simpa using HS4.out, Within.refl _ _ _⟩
      case round =>
        obtain ⟨j, hj, rfl, HJ, HW4⟩ := hrel
        have hUl : Hid ((mulL V0 P).length = n) := mulL_length hVl.out hPl.out
        by_cases hjl : j < n
        · obtain ⟨p, hp⟩ := at_lt (show j < P.length by rw [hPl.out]; exact hjl)
          obtain ⟨v, hv⟩ := at_lt (show j < V0.length by rw [hVl.out]; exact hjl)
          obtain ⟨p0, p1⟩ := num_at hPn.out hp
          obtain ⟨v0, v1⟩ := num_at hVn.out hv
          obtain ⟨b5, o5, rfl, _, hcp⟩ := (HO4.out.within HW4 (Nat.le_refl _) (by omega)).row j _ (ints_at hp)
          have hcv := HJ.1.cellAt j (by omega)
          rw [ints_at (mix_atW hv (by rw [hVl.out, hUl.out]))] at hcv
          have hfv := HJ.1.frozenAt j
          have HU := mulL_at hv hp
          obtain ⟨u, hu⟩ : ∃ u, u = v * p % 10007 := ⟨_, rfl⟩
          have C5 : Hid (∀ w : World, Calls Tryz.prog 134 #[.int .i64 v, .int .i64 p] w fun e w' => e = .returned (.int .i64 u) ∧ w = w') := fun w => by rw [hu]; exact times_any _ _ _ v0 v1 p0 p1
          rw [← hu] at HU
          have G1 := HJ.put (u := u) hjl
          rw [mix_stepW HU (by rw [hVl.out, hUl.out])] at G1
          have HG1 := Lib.hid G1
          have HG2 : Hid (Within g1 (g1 + 1) w4 (wr.setCell ⟨g1, j, none⟩ (.int .i64 u))) := HW4.trans (Within.grown (HJ.1.stored j (.int .i64 u)).2 (fun g' e => by injection e with e; subst e; exact ⟨Nat.le_refl _, Nat.lt_succ_self _⟩))
          have j0 : (0 : Int) ≤ (j : Int) := Int.natCast_nonneg _
          have j1 : (j : Int) < (n : Int) := by omega
          clear hp hv HJ HW4 HU G1 hu
          go_wp2_with fail
          refine (C5.out _).mono ?_
          rintro e w6 ⟨rfl, rfl⟩
          go_wp2
          go_roundw
          case rel => exact ⟨j + 1, by omega, by go_num, HG1.out, HG2.out⟩
          case measure => simp [intOf]; omega
        · obtain rfl : j = n := by omega
          rw [List.take_of_length_le (by rw [hUl.out]; exact Nat.le_refl _), List.drop_of_length_le (by rw [hVl.out]; exact Nat.le_refl _), List.append_nil, ← HE.out] at HJ
          have HJH := Lib.hid HJ
          clear HJ HW4
          go_wp2
          go_roundw
          case rel => exact ⟨k + 1, by omega, by go_num, HJH.out⟩
          case measure => simp [intOf]; omega
    · obtain rfl : k = q := by omega
      have e : swTo m n L k = sw m n x := by rw [HLL.out]; exact swTo_br HX.out (by rw [← HLL.out]; exact HQL.out.symm)
      rw [e] at HS
      have G : Hid (NewRow 54 n (ints (sw m n x)) w (.returned (.slice (some ⟨g1, 0, none⟩) n c1)) wr) := ⟨_, _, rfl, HS.1, (FR.out _ _ HS).2.2.2.1⟩
      clear HS
      go_wp2
      go_ret
      exact G.out
theorem stageW_upto : ∀ d, StageW d
  | 0 => fun x A D n c dd B m w hx hxd => by have := (Tr.br_parts hx).1.1; omega
  | d + 1 => stageW_succ d (stageW_upto d)
theorem stageWeights_any (x : List UInt8) (A D : Option Addr) (n c dd B : Nat) (m : List (List Int)) (w : World) (hx : Tr.isTx x = true) (hl : m.length = n) (hn1 : 1 ≤ n) (hn : n ≤ 8) (hq : Wide m n) (hnum : ∀ r ∈ m, allNum r = true) (hB : B ≤ w.heap.size) (h : Mat w B A m) :
    Calls Tryz.prog 106 #[.agg #[.slice A n c, .slice D n dd], .string ⟨x.toArray⟩] w (NewRow 54 n (ints (sw m n x)) w) := stageW_upto x.length x A D n c dd B m w hx (Nat.le_refl _) hl hn1 hn hq hnum hB h
/-- the weight of a text -/
def wtT (m : List (List Int)) (b : List Int) (n : Nat) (x : List UInt8) : Int := dotK b (sw m n x) n
set_option maxHeartbeats 2000000 in
theorem weight_any (x : List UInt8) (A D : Option Addr) (n c d B B' : Nat) (m : List (List Int)) (b : List Int) (w : World) (hx : Tr.isTx x = true) (hl : m.length = n) (hl' : b.length = n) (hn1 : 1 ≤ n) (hn : n ≤ 8) (hq : Wide m n) (hnum : ∀ r ∈ m, allNum r = true) (hnb : allNum b = true) (hB : B ≤ w.heap.size) (hB' : B' ≤ w.heap.size) (h : Mat w B A m) (r : Row w B' D (ints b)) :
    Calls Tryz.prog 69 #[.agg #[.slice A n c, .slice D n d], .string ⟨x.toArray⟩] w fun e w' => e = .returned (.int .i64 (wtT m b n x)) ∧ Below w.heap.size w w' := by
  have HL := Lib.hid hl
  have HL' := Lib.hid hl'
  have HQ := Lib.hid hq
  have HN := Lib.hid hnum
  obtain ⟨W0, hW0⟩ : ∃ W0, W0 = w.alloc (.cells #[.slice A n c, .slice D n d] 61) := ⟨_, rfl⟩
  have HB : Hid (Below w.heap.size w W0) := by rw [hW0]; exact (Below.refl _ _).alloc (Nat.le_refl _) _
  have HX : Bx W0 w.heap.size 61 (.slice A n c) (.slice D n d) := by rw [hW0]; exact Bx.new _ _ _ _
  have hz := HB.out.size
  have HM := Lib.hid (h.below HB.out hB)
  have HR := Lib.hid (r.below HB.out hB')
  have KK : Hid (∀ V, Below W0.heap.size W0 V → V.cell? ⟨w.heap.size, 0, none⟩ = some (.slice A n c) ∧ V.cell? ⟨w.heap.size, 1, none⟩ = some (.slice D n d)) := fun V hV => ⟨(HX.next hV).c0, (HX.next hV).c1⟩
  have C1 := fun V (hV : Below W0.heap.size W0 V) => stageWeights_any x A D n c d B m V hx HL.out hn1 hn HQ.out HN.out (by have := hV.size; omega) (HM.out.below hV (by omega))
  have C2 := fun V (hV : Below W0.heap.size W0 V) A3 c3 (h3 : Row V V.heap.size A3 (ints (sw m n x))) => dotOf_any D A3 n d c3 B' V.heap.size b (sw m n x) V HL'.out (sw_len HL.out hx) (by omega) (HR.out.below hV (by omega)) h3 hnb (sw_num hx)
  have HW : Hid (wtT m b n x = dotK b (sw m n x) n) := rfl
  rw [HW.out]
  obtain ⟨X, hX⟩ : ∃ X : ByteArray, X = ⟨x.toArray⟩ := ⟨_, rfl⟩
  simp only [← hX] at C1
  rw [← hX]
  clear hl hl' hq hnum h r HX hX HW
  go_enter Tryz.func69, Tryz.ntmps69
  go_wp2_with fail
  change Code.wp _ _ _ _ (w.alloc (.cells #[.slice A n c, .slice D n d] 61))
  rw [← hW0]
  clear hW0
  go_region_held3 (fun V => V.cell? ⟨w.heap.size, 0, none⟩ = some (.slice A n c) ∧ V.cell? ⟨w.heap.size, 1, none⟩ = some (.slice D n d))
    (first | exact KK.out _ (Below.refl _ _) | exact KK.out _ (Below.refl _ _).drew | exact KK.out _ (below_drewN (Below.refl _ _) _) | exact KK.out _ (below_undrawn (a := 1) b2) | exact KK.out _ (below_drewN (below_undrawn (a := 1) b2) _))
    (first
      | (go_at_call 106; refine (C1 _ (by first | exact (Below.refl _ _).drew | exact below_drewN (Below.refl _ _) _)).mono ?_; clear C1; rintro e w2 ⟨A2, c2, rfl, own2, b2⟩)
      | (go_at_call 105; refine (C2 _ (by exact below_undrawn (a := 1) b2) A2 c2 (by exact row_of_own own2)).mono ?_; clear C2; rintro e w3 ⟨rfl, j3, rfl⟩))
  have hb2 : Below W0.heap.size W0 w2 := below_undrawn (a := 1) b2
  have G : Hid (Below w.heap.size w (w2.drewN j3)) := below_drewN (HB.out.trans (hb2.mono HB.out.size)) _
  clear own2 b2 hb2 KK
  go_wp2
  go_ret
  exact ⟨rfl, G.out⟩
/-- what StageWeights and WeightOf answer -/
def stageWA (m : List (List Int)) (b t : List Int) : List Int × Int := if isTabB m b = true ∧ Tr.isLv t = true then (sw m b.length (Tr.txt t), 0) else ([], 1)
def weightA (m : List (List Int)) (b t : List Int) : Int × Int := if isTabB m b = true ∧ Tr.isLv t = true then (wtT m b b.length (Tr.txt t), 0) else (0, 1)
end Go.Proofs.YtolkbbbbahhfaaaGreat
/-
  Stage weights: the model's walk.
-/
namespace Go.Proofs.YtolkbbbbahhfaaaGreat
open Go.RowKit Fld
set_option linter.unusedVariables false
set_option linter.unusedSimpArgs false
set_option maxRecDepth 100000

theorem stillW {P : Program} {f : FuncId} {args : Array Value} {w : World} {v : Value} (h : Calls P f args w fun e w' => e = .returned v ∧ w = w') : Calls P f args w fun e w' => e = .returned v ∧ w' = w :=
  h.mono fun _ _ ⟨h1, h2⟩ => ⟨h1, h2.symm⟩
def StageM (d : Nat) : Prop := ∀ (t : List Int) (A D A2 : Option Addr) (n c dd n2 c2 B B2 : Nat) (m : List (List Int)) (w : World), Tr.isLv t = true → t.length ≤ d → t.length = n2 → m.length = n → 1 ≤ n → n ≤ 8 → Wide m n → (∀ r ∈ m, allNum r = true) → B ≤ w.heap.size → B2 ≤ w.heap.size → Mat w B A m → Row w B2 A2 (ints t) →
  Calls Tryz.prog 110 #[.agg #[.slice A n c, .slice D n dd], .slice A2 n2 c2] w (NewRow 2 n (ints (sw m n (Tr.txt t))) w)
set_option maxHeartbeats 4000000 in
theorem stageM_succ (d : Nat) (IH : StageM d) : StageM (d + 1) := by
  intro t A D A2 n c dd n2 c2 B B2 m w hlv htd hl2 hl hn1 hn hq hnum hB hB2 h h2
  obtain ⟨_, hpt, hq7⟩ := Tr.can_parts hlv
  have HLV := Lib.hid hlv
  have HL := Lib.hid hl
  have HL2 := Lib.hid hl2
  have HQ := Lib.hid hq
  have HN := Lib.hid hnum
  have hn2 : n2 ≤ 8 := by rw [← hl2]; exact (lv_bd hlv).2
  obtain ⟨W0, hW0⟩ : ∃ W0, W0 = w.alloc (.cells #[.slice A n c, .slice D n dd] 29) := ⟨_, rfl⟩
  have HB : Hid (Below w.heap.size w W0) := by rw [hW0]; exact (Below.refl _ _).alloc (Nat.le_refl _) _
  have HBX : Hid (Bx W0 w.heap.size 29 (.slice A n c) (.slice D n dd)) := by rw [hW0]; exact Bx.new _ _ _ _
  have zA : w.heap.size < W0.heap.size := HBX.out.lt
  have HM := Lib.hid (h.below HB.out hB)
  have HT := Lib.hid (h2.below HB.out hB2)
  have IHb : Hid (∀ b ∈ Tr.partsL t, ∀ (V : World) (A3 : Option Addr) (c3 B3 : Nat), B ≤ V.heap.size → B3 ≤ V.heap.size → Mat V B A m → Row V B3 A3 (ints b) → Calls Tryz.prog 110 #[.agg #[.slice A n c, .slice D n dd], .slice A3 b.length c3] V (NewRow 2 n (ints (sw m n (Tr.txt b))) V)) := fun b hb V A3 c3 B3 h1 h2 h3 h4 =>
    IH b A D A3 n c dd b.length c3 B B3 m V (hpt b hb).1 (by have := (hpt b hb).2; omega) rfl HL.out hn1 hn HQ.out HN.out h1 h2 h3 h4
  have HPT : Hid (∀ b ∈ Tr.partsL t, Tr.isLv b = true) := fun b hb => (hpt b hb).1
  have hq7' : (Tr.partsL t).length ≤ 7 := hq7
  have HALL : Hid (swTo m n ((Tr.partsL t).map Tr.txt) (Tr.partsL t).length = sw m n (Tr.txt t)) := swTo_parts hlv rfl
  have CB := fun V (hV : Below W0.heap.size W0 V) => l03Parts_any A2 n2 c2 B2 t V HL2.out HLV.out (by have := hV.size; omega) (HT.out.below hV (by omega))
  obtain ⟨L, hL⟩ : ∃ L, L = Tr.partsL t := ⟨_, rfl⟩
  rw [← hL] at IHb HPT HALL hq7'
  simp only [← hL] at CB
  obtain ⟨q, hqq⟩ : ∃ q, q = L.length := ⟨_, rfl⟩
  have HQL := Lib.hid hqq
  rw [← hqq] at hq7' HALL
  simp only [← hqq] at CB
  clear hl hl2 hq hnum h h2 hpt hL hqq htd IH hlv hq7
  go_enter Tryz.func110, Tryz.ntmps110
  go_wp2_with fail
  rw [← hW0]
  clear hW0
  refine (l09Ones_any n W0 hn).mono ?_
  rintro e w1 ⟨A1, c1, rfl, own1, b1⟩
  obtain ⟨g1, rfl, hg0, hg1⟩ := own_block own1 hn1
  have hc1 := own_cap own1
  have hz1 := b1.size
  have HO1 := Lib.hid own1
  have HB1 := Lib.hid b1
  clear own1 b1
  go_wp2_with fail
  refine (CB w1 HB1.out).mono ?_
  rintro e w2 ⟨A3, c3, vs, rfl, own2, b2⟩
  have hz2 := b2.size
  have HO2 := Lib.hid own2
  have S0 : Hid (WState w w2 2 g1 n c1 (swTo m n (L.map Tr.txt) 0) w2) := by
    refine ⟨?_, Within.refl _ _ _⟩
    exact ((((OwnR.of HO1.out).below b2 (Nat.le_refl _)).more (Nat.le_of_lt zA) (Nat.le_refl _))).1
  have HB2 := Lib.hid (HB1.out.trans (b2.mono hz1))
  have HBX2 := Lib.hid (HBX.out.next HB2.out)
  have HM2 := Lib.hid (HM.out.below HB2.out (by omega))
  have HBW := Lib.hid (HB.out.trans (HB2.out.mono (Nat.le_of_lt zA)))
  have FR : Hid (∀ xs wr, WState w w2 2 g1 n c1 xs wr → Mat wr w2.heap.size A3 L ∧ Bx wr w.heap.size 29 (.slice A n c) (.slice D n dd) ∧ Mat wr B A m ∧ Below w.heap.size w wr ∧ w2.heap.size ≤ wr.heap.size) := fun xs wr hs =>
    ⟨(HO2.out.within hs.2 (Nat.le_refl _) (by omega)).mat, HBX2.out.within hs.2 (by omega), HM2.out.below (hs.2.below (B := B) (by omega) (by omega)) (Nat.le_refl _), Below.then HBW.out hs.2 (by omega) (by omega), hs.2.size⟩
  clear own2 b2 HO1 HB1 CB HM HB HBX HB2 HT
  go_wp2_with fail
  go_loopw [7] (fun i wr => ∃ k : Nat, k ≤ q ∧ i = .int .i64 k ∧ WState w w2 2 g1 n c1 (swTo m n (L.map Tr.txt) k) wr) (fun i _ => q - (intOf i).toNat)
  case atStart => exact ⟨0, Nat.zero_le _, rfl, S0.out⟩
  case round =>
    obtain ⟨k, hk, rfl, HS⟩ := hrel
    by_cases hlt : k < q
    · obtain ⟨b, hb⟩ := at_lt (show k < L.length by have := HQL.out; omega)
      obtain ⟨hbr, hbx, hmat, hbw, hzr⟩ := FR.out _ _ HS
      obtain ⟨b3, o3, Ak, ck, rfl, hb3, hcb, hbl, hbm2, hbrow⟩ := hbr k b hb
      unfold maxLen at hbm2
      have hbm := List.mem_of_getElem? hb
      have hbt := Tr.tx_txt (HPT.out b hbm)
      have KK : Hid (∀ V, Below wr.heap.size wr V → V.cell? ⟨w.heap.size, 0, none⟩ = some (.slice A n c) ∧ V.cell? ⟨w.heap.size, 1, none⟩ = some (.slice D n dd) ∧ V.cell? ⟨b3, o3 + k, none⟩ = some (.slice Ak b.length ck)) := fun V hV => ⟨(hbx.next hV).c0, (hbx.next hV).c1, (hV.cell (p := ⟨b3, o3 + k, none⟩) (show b3 < _ by omega)).trans hcb⟩
      have C1 := fun V (hV : Below wr.heap.size wr V) => IHb.out b hbm V Ak ck w2.heap.size (by have := hV.size; omega) (by have := hV.size; omega) (hmat.below hV (by omega)) (hbrow.below hV (by omega))
      have C2 := fun V (hV : Below wr.heap.size wr V) A4 c4 (h3 : Row V V.heap.size A4 (ints (sw m n (Tr.txt b)))) => l09Times_any A A4 n c c4 B V.heap.size m (sw m n (Tr.txt b)) V HL.out hn HQ.out HN.out (sw_len HL.out hbt) (sw_num hbt) (by have := hV.size; omega) (Nat.le_refl _) (hmat.below hV (by omega)) h3
      have HSB := Lib.hid HS
      have HE := Lib.hid (swTo_succ (m := m) (n := n) (L := L.map Tr.txt) (k := k) (b := Tr.txt b) (by rw [List.getElem?_map, hb]; rfl))
      have hPl : Hid ((appL m (sw m n (Tr.txt b))).length = n) := (appL_length _ _).trans HL.out
      have hPn : Hid (allNum (appL m (sw m n (Tr.txt b))) = true) := appL_num _ _
      have hVl : Hid ((swTo m n (L.map Tr.txt) k).length = n) := swTo_len HL.out _ _
      have hVn : Hid (allNum (swTo m n (L.map Tr.txt) k) = true) := swTo_num _ _ _ _
      obtain ⟨P, hP⟩ : ∃ P, P = appL m (sw m n (Tr.txt b)) := ⟨_, rfl⟩
      obtain ⟨V0, hV0⟩ : ∃ V, V = swTo m n (L.map Tr.txt) k := ⟨_, rfl⟩
      rw [← hP] at HE hPl hPn
      simp only [← hP] at C2
      rw [← hV0] at HE HSB hVl hVn
      have k0 : (0 : Int) ≤ (k : Int) := Int.natCast_nonneg _
      have k1 : (k : Int) < (q : Int) := by omega
      clear hb hbr hbx hmat hbm hbt HS hP hV0 hbrow
      go_wp2_with fail
      go_region_held3 (fun V => V.cell? ⟨w.heap.size, 0, none⟩ = some (.slice A n c) ∧ V.cell? ⟨w.heap.size, 1, none⟩ = some (.slice D n dd) ∧ V.cell? ⟨b3, o3 + k, none⟩ = some (.slice Ak b.length ck))
        (first | exact KK.out _ (Below.refl _ _) | exact KK.out _ (Below.refl _ _).drew | exact KK.out _ (below_drewN (Below.refl _ _) _) | exact KK.out _ (below_undrawn (a := 1) be3) | exact KK.out _ ((below_undrawn (a := 1) be3).trans (be4.mono (below_undrawn (a := 1) be3).size)))
        (first
          | (go_at_call 110; refine (C1 _ (by first | exact (Below.refl _ _).drew | exact below_drewN (Below.refl _ _) _)).mono ?_; clear C1; rintro e w3 ⟨A4, c4, rfl, own3, be3⟩)
          | (go_at_call 139; refine (C2 _ (by exact below_undrawn (a := 1) be3) A4 c4 (by exact row_of_own own3)).mono ?_; clear C2; rintro e w4 ⟨A5, c5, rfl, own4, be4⟩))
      have hb34 : Below wr.heap.size wr w4 := (below_undrawn (a := 1) be3).trans (be4.mono (below_undrawn (a := 1) be3).size)
      have hz3 : wr.heap.size ≤ w3.heap.size := (below_undrawn (a := 1) be3).size
      have hz4 := be4.size
      have HS4 := Lib.hid (HSB.out.below hb34)
      have HO4 := Lib.hid (OwnR.of own4)
      have hzw := HSB.out.2.size
      clear own3 own4 be3 be4 hb34 KK hcb
      go_wp2_with fail
      go_loopw [9] (fun i wj => ∃ j : Nat, j ≤ n ∧ i = .int .i64 j ∧ WState w w2 2 g1 n c1 ((mulL V0 P).take j ++ V0.drop j) wj ∧ Within g1 (g1 + 1) w4 wj) (fun i _ => n - (intOf i).toNat)
      case atStart => exact ⟨0, Nat.zero_le _, rfl, by simpa using HS4.out, Within.refl _ _ _⟩
      case round =>
        obtain ⟨j, hj, rfl, HJ, HW4⟩ := hrel
        have hUl : Hid ((mulL V0 P).length = n) := mulL_length hVl.out hPl.out
        by_cases hjl : j < n
        · obtain ⟨p, hp⟩ := at_lt (show j < P.length by rw [hPl.out]; exact hjl)
          obtain ⟨v, hv⟩ := at_lt (show j < V0.length by rw [hVl.out]; exact hjl)
          obtain ⟨p0, p1⟩ := num_at hPn.out hp
          obtain ⟨v0, v1⟩ := num_at hVn.out hv
          obtain ⟨b5, o5, rfl, _, hcp⟩ := (HO4.out.within HW4 (Nat.le_refl _) (by omega)).row j _ (ints_at hp)
          have hcv := HJ.1.cellAt j (by omega)
          rw [ints_at (mix_atW hv (by rw [hVl.out, hUl.out]))] at hcv
          have hfv := HJ.1.frozenAt j
          have HU := mulL_at hv hp
          obtain ⟨u, hu⟩ : ∃ u, u = v * p % 10007 := ⟨_, rfl⟩
          have C5 : Hid (∀ w : World, Calls Tryz.prog 111 #[.int .i64 v, .int .i64 p] w fun e w' => e = .returned (.int .i64 u) ∧ w = w') := fun w => by rw [hu]; exact l01Mul_any _ _ _ v0 v1 p0 p1
          rw [← hu] at HU
          have HJd := HJ.drewN 1
          have G1 := HJd.put (u := u) hjl
          rw [mix_stepW HU (by rw [hVl.out, hUl.out])] at G1
          have HG1 : Hid (WState w w2 2 g1 n c1 ((mulL V0 P).take (j + 1) ++ V0.drop (j + 1)) (wr.drew.setCell ⟨g1, j, none⟩ (.int .i64 u))) := G1
          have HG2 : Hid (Within g1 (g1 + 1) w4 (wr.drew.setCell ⟨g1, j, none⟩ (.int .i64 u))) := (HW4.trans (Within.of_below (below_drewN (Below.refl _ _) 1))).trans (Within.grown (HJd.1.stored j (.int .i64 u)).2 (fun g' e => by injection e with e; subst e; exact ⟨Nat.le_refl _, Nat.lt_succ_self _⟩))
          have j0 : (0 : Int) ≤ (j : Int) := Int.natCast_nonneg _
          have j1 : (j : Int) < (n : Int) := by omega
          have hcv' : wr.drew.cell? ⟨g1, j, none⟩ = some (.int .i64 v) := hcv
          have hfv' : wr.drew.frozen? ⟨g1, j, none⟩ = false := hfv
          have hcp' : wr.drew.cell? ⟨b5, o5 + j, none⟩ = some (.int .i64 p) := hcp
          clear hp hv HJ HW4 HU G1 hu HJd
          go_wp2_with fail
          refine wp_region_still_tail 12 (by kernel_rfl) (by kernel_rfl) ?_
          simp only [List.take_succ_cons, List.take_zero, List.drop_succ_cons, List.drop_zero]
          repeat still_step
          refine wpStill_step (fun K hK => ?_)
          go_simp
          refine ⟨_, stillW (C5.out _), hK _ ?_⟩
          clear hK K
          repeat still_step
          refine wpStill_nil ?_
          change wpList _ _ _ _ _ wr.drew
          go_wp2
          go_roundw
          case rel => exact ⟨j + 1, by omega, by go_num, by exact HG1.out, by exact HG2.out⟩
          case measure => simp [intOf]; omega
        · obtain rfl : j = n := by omega
          rw [List.take_of_length_le (by rw [hUl.out]; exact Nat.le_refl _), List.drop_of_length_le (by rw [hVl.out]; exact Nat.le_refl _), List.append_nil, ← HE.out] at HJ
          have HJH := Lib.hid HJ
          clear HJ HW4
          go_wp2
          go_roundw
          case rel => exact ⟨k + 1, by omega, by go_num, HJH.out⟩
          case measure => simp [intOf]; omega
    · obtain rfl : k = q := by omega
      rw [HALL.out] at HS
      have G : Hid (NewRow 2 n (ints (sw m n (Tr.txt t))) w (.returned (.slice (some ⟨g1, 0, none⟩) n c1)) wr) := ⟨_, _, rfl, HS.1, (FR.out _ _ HS).2.2.2.1⟩
      clear HS
      go_wp2
      go_ret
      exact G.out
theorem stageM_upto : ∀ d, StageM d
  | 0 => fun t A D A2 n c dd n2 c2 B B2 m w hlv htd => by have := (lv_bd hlv).1; omega
  | d + 1 => stageM_succ d (stageM_upto d)
theorem l09Stages_any (t : List Int) (A D A2 : Option Addr) (n c dd n2 c2 B B2 : Nat) (m : List (List Int)) (w : World) (hlv : Tr.isLv t = true) (hl2 : t.length = n2) (hl : m.length = n) (hn1 : 1 ≤ n) (hn : n ≤ 8) (hq : Wide m n) (hnum : ∀ r ∈ m, allNum r = true) (hB : B ≤ w.heap.size) (hB2 : B2 ≤ w.heap.size) (h : Mat w B A m) (h2 : Row w B2 A2 (ints t)) :
    Calls Tryz.prog 110 #[.agg #[.slice A n c, .slice D n dd], .slice A2 n2 c2] w (NewRow 2 n (ints (sw m n (Tr.txt t))) w) := stageM_upto t.length t A D A2 n c dd n2 c2 B B2 m w hlv (Nat.le_refl _) hl2 hl hn1 hn hq hnum hB hB2 h h2
set_option maxHeartbeats 2000000 in
theorem l09Weight_any (t : List Int) (A D A2 : Option Addr) (n c d n2 c2 B B' B2 : Nat) (m : List (List Int)) (b : List Int) (w : World) (hlv : Tr.isLv t = true) (hl2 : t.length = n2) (hl : m.length = n) (hl' : b.length = n) (hn1 : 1 ≤ n) (hn : n ≤ 8) (hq : Wide m n) (hnum : ∀ r ∈ m, allNum r = true) (hnb : allNum b = true) (hB : B ≤ w.heap.size) (hB' : B' ≤ w.heap.size) (hB2 : B2 ≤ w.heap.size) (h : Mat w B A m) (r : Row w B' D (ints b)) (h2 : Row w B2 A2 (ints t)) :
    Calls Tryz.prog 77 #[.agg #[.slice A n c, .slice D n d], .slice A2 n2 c2] w fun e w' => e = .returned (.int .i64 (wtT m b n (Tr.txt t))) ∧ Below w.heap.size w w' := by
  have HL := Lib.hid hl
  have HL' := Lib.hid hl'
  have HL2 := Lib.hid hl2
  have HQ := Lib.hid hq
  have HN := Lib.hid hnum
  have HLV := Lib.hid hlv
  obtain ⟨W0, hW0⟩ : ∃ W0, W0 = w.alloc (.cells #[.slice A n c, .slice D n d] 29) := ⟨_, rfl⟩
  have HB : Hid (Below w.heap.size w W0) := by rw [hW0]; exact (Below.refl _ _).alloc (Nat.le_refl _) _
  have HX : Bx W0 w.heap.size 29 (.slice A n c) (.slice D n d) := by rw [hW0]; exact Bx.new _ _ _ _
  have hz := HB.out.size
  have HM := Lib.hid (h.below HB.out hB)
  have HR := Lib.hid (r.below HB.out hB')
  have HT := Lib.hid (h2.below HB.out hB2)
  have hx := Tr.tx_txt hlv
  have KK : Hid (∀ V, Below W0.heap.size W0 V → V.cell? ⟨w.heap.size, 0, none⟩ = some (.slice A n c) ∧ V.cell? ⟨w.heap.size, 1, none⟩ = some (.slice D n d)) := fun V hV => ⟨(HX.next hV).c0, (HX.next hV).c1⟩
  have C1 := fun V (hV : Below W0.heap.size W0 V) => l09Stages_any t A D A2 n c d n2 c2 B B2 m V HLV.out HL2.out HL.out hn1 hn HQ.out HN.out (by have := hV.size; omega) (by have := hV.size; omega) (HM.out.below hV (by omega)) (HT.out.below hV (by omega))
  have C2 := fun V (hV : Below W0.heap.size W0 V) A3 c3 (h3 : Row V V.heap.size A3 (ints (sw m n (Tr.txt t)))) => l01Dot_any D A3 n d c3 B' V.heap.size b (sw m n (Tr.txt t)) V HL'.out (sw_len HL.out hx) (by omega) (HR.out.below hV (by omega)) h3 hnb (sw_num hx)
  have HW : Hid (wtT m b n (Tr.txt t) = dotK b (sw m n (Tr.txt t)) n) := rfl
  rw [HW.out]
  clear hl hl' hl2 hq hnum h r h2 HX HW hlv hx
  go_enter Tryz.func77, Tryz.ntmps77
  go_wp2_with fail
  change Code.wp _ _ _ _ (w.alloc (.cells #[.slice A n c, .slice D n d] 29))
  rw [← hW0]
  clear hW0
  go_region_held3 (fun V => V.cell? ⟨w.heap.size, 0, none⟩ = some (.slice A n c) ∧ V.cell? ⟨w.heap.size, 1, none⟩ = some (.slice D n d))
    (first | exact KK.out _ (Below.refl _ _) | exact KK.out _ (Below.refl _ _).drew | exact KK.out _ (below_drewN (Below.refl _ _) _) | exact KK.out _ (below_undrawn (a := 1) b2) | exact KK.out _ (below_drewN (below_undrawn (a := 1) b2) _))
    (first
      | (go_at_call 110; refine (C1 _ (by first | exact (Below.refl _ _).drew | exact below_drewN (Below.refl _ _) _)).mono ?_; clear C1; rintro e w2 ⟨A4, c4, rfl, own2, b2⟩)
      | (go_at_call 109; refine (C2 _ (by exact below_undrawn (a := 1) b2) A4 c4 (by exact row_of_own own2)).mono ?_; clear C2; rintro e w3 ⟨rfl, j3, rfl⟩))
  have hb2 : Below W0.heap.size W0 w2 := below_undrawn (a := 1) b2
  have G : Hid (Below w.heap.size w (w2.drewN j3)) := below_drewN (HB.out.trans (hb2.mono HB.out.size)) _
  clear own2 b2 hb2 KK
  go_wp2
  go_ret
  exact ⟨rfl, G.out⟩
end Go.Proofs.YtolkbbbbahhfaaaGreat
/-
  Which lists are maps, plainly.
-/
namespace Go.Proofs.YtolkbbbbahhfaaaGreat
open Go.RowKit Fld
set_option linter.unusedVariables false
set_option linter.unusedSimpArgs false
set_option maxRecDepth 100000

def isMp (a : List Int) : Bool := decide (a.length = 38) && allNum a
def isChr (a : List Int) : Bool := isMp a && decide (a.getD 0 0 = 1)
def isInf (a : List Int) : Bool := isMp a && decide (a.getD 0 0 = 0)
theorem isMp_num {a : List Int} (h : a.length = 38) : isMp a = allNum a := by unfold isMp; rw [decide_eq_true h, Bool.true_and]
theorem isMp_len {a : List Int} (h : a.length ≠ 38) : isMp a = false := by unfold isMp; rw [decide_eq_false h, Bool.false_and]
theorem isMp_iff {a : List Int} : isMp a = true ↔ a.length = 38 ∧ allNum a = true := by unfold isMp; simp
theorem isMp_parts {a : List Int} {n : Nat} (h : isMp a = true) (hl : a.length = n) : n = 38 ∧ allNum a = true := by
  obtain ⟨h1, h2⟩ := isMp_iff.1 h
  exact ⟨by omega, h2⟩
theorem isChr_no {a : List Int} (h : isMp a = false) : isChr a = false := by unfold isChr; rw [h, Bool.false_and]
theorem isInf_no {a : List Int} (h : isMp a = false) : isInf a = false := by unfold isInf; rw [h, Bool.false_and]
theorem isChr_at {a : List Int} {x : Int} (h : isMp a = true) (hx : a[0]? = some x) : isChr a = decide (x = 1) := by
  unfold isChr; rw [h, Bool.true_and, List.getD_eq_getElem?_getD, hx]; rfl
theorem isInf_at {a : List Int} {x : Int} (h : isMp a = true) (hx : a[0]? = some x) : isInf a = decide (x = 0) := by
  unfold isInf; rw [h, Bool.true_and, List.getD_eq_getElem?_getD, hx]; rfl
def unitL : List Int := 1 :: List.replicate 37 0
def zero38 : List Int := List.replicate 38 0
theorem zero38_at {k : Nat} (h : k < 38) : zero38[k]? = some 0 := by unfold zero38; rw [List.getElem?_replicate, if_pos h]
theorem unitL_length : unitL.length = 38 := rfl
end Go.Proofs.YtolkbbbbahhfaaaGreat
/-
  Maps as arrays of the program: blocks of 38 cells.
-/
namespace Go.Proofs.YtolkbbbbahhfaaaGreat
open Go.RowKit Fld
set_option linter.unusedVariables false
set_option linter.unusedSimpArgs false
set_option maxRecDepth 100000

theorem info_arrM : (Tryz.prog.info? 56).map (·.size) = some 38 := by kernel_rfl
/-- the cells of a map -/
def arrM (xs : List Int) : Array Value := (ints xs).toArray
theorem arrM_size {xs : List Int} (h : xs.length = 38) : (arrM xs).size = 38 := by simp [arrM, ints_length, h]
theorem arrM_cells (xs : List Int) : (arrM xs).all (·.oneCell') = true := by simp [arrM, ints, intsK, Array.all_eq_true, Value.oneCell']
/-- block g is a map -/
def ArrM (w : World) (g : Nat) (xs : List Int) : Prop := w.heap[g]? = some (.cells (arrM xs) 56 (0, 0))
theorem ArrM.cell {w : World} {g k : Nat} {xs : List Int} {x : Int} (h : ArrM w g xs) (hx : xs[k]? = some x) : w.cell? ⟨g, k, none⟩ = some (.int .i64 x) := by
  rw [cell_of_row w g k _ _ _ h]
  simp [arrM, ints_at hx]
theorem ArrM.free {w : World} {g : Nat} {xs : List Int} (h : ArrM w g xs) (k : Nat) : w.frozen? ⟨g, k, none⟩ = false := frozen_of_row w g k _ _ h
theorem ArrM.lt {w : World} {g : Nat} {xs : List Int} (h : ArrM w g xs) : g < w.heap.size := by
  rcases Nat.lt_or_ge g w.heap.size with h' | h'
  · exact h'
  · unfold ArrM at h; simp [Array.getElem?_eq_none h'] at h
theorem ArrM.store {w : World} {g k : Nat} {xs : List Int} (h : ArrM w g xs) (x : Int) : ArrM (w.setCell ⟨g, k, none⟩ (.int .i64 x)) g (xs.set k x) := by
  have := heap_setCell_same w g k _ _ (.int .i64 x) h
  unfold ArrM
  rw [this]
  simp [arrM, ints, intsK]
theorem ArrM.other {w : World} {g g' k : Nat} {xs : List Int} (h : ArrM w g xs) (hne : g ≠ g') (v : Value) : ArrM (w.setCell ⟨g', k, none⟩ v) g xs := by
  unfold ArrM
  rw [heap_setCell_other w ⟨g', k, none⟩ g v hne]; exact h
theorem ArrM.alloc {w : World} {g : Nat} {xs : List Int} (h : ArrM w g xs) (o : Obj) : ArrM (w.alloc o) g xs := by
  unfold ArrM
  rw [heap_alloc_old w o (ArrM.lt h)]; exact h
theorem ArrM.below {w w' : World} {g B : Nat} {xs : List Int} (h : ArrM w g xs) (hb : Below B w w') (hg : g < B) : ArrM w' g xs := by
  unfold ArrM
  rw [hb.block g hg]; exact h
theorem ArrM.drewN {w : World} {g : Nat} {xs : List Int} (h : ArrM w g xs) (m : Nat) : ArrM (w.drewN m) g xs := h
theorem ArrM.new (w : World) (xs : List Int) : ArrM (w.alloc (.cells (arrM xs) 56)) w.heap.size xs := heap_alloc_new w _
theorem ArrM.next {w : World} {g : Nat} (xs : List Int) (hg : w.heap.size = g) : ArrM (w.alloc (.cells (arrM xs) 56)) g xs := hg ▸ ArrM.new w xs
/-- a mixed list: the first k from us, the others from xs -/
theorem mixP_step {us xs : List Int} {k : Nat} {u : Int} (hk : k < xs.length) (hl : us.length = xs.length) (hu : us[k]? = some u) : (us.take k ++ xs.drop k).set k u = us.take (k + 1) ++ xs.drop (k + 1) := by
  have e1 : (us.take k).length = k := by simp; omega
  rw [List.set_append, if_neg (by omega), e1, Nat.sub_self, List.drop_eq_getElem_cons hk, List.set_cons_zero, List.take_add_one, hu]
  simp
theorem mixP_at {us xs : List Int} {k : Nat} {x : Int} (hl : us.length = xs.length) (hx : xs[k]? = some x) : (us.take k ++ xs.drop k)[k]? = some x := by
  have hk : k < xs.length := by
    rcases Nat.lt_or_ge k xs.length with g | g
    · exact g
    · rw [List.getElem?_eq_none g] at hx; cases hx
  have e1 : (us.take k).length = k := by simp; omega
  rw [List.getElem?_append_right (by omega), e1, Nat.sub_self, List.getElem?_drop, Nat.add_zero]; exact hx
theorem mixP_end {us xs : List Int} {n : Nat} (hl : us.length = n) (hx : xs.length = n) : us.take n ++ xs.drop n = us := by
  rw [List.take_of_length_le (by omega), List.drop_eq_nil_of_le (by omega), List.append_nil]

theorem arrM_two (w : World) (xs ys : List Int) : ArrM ((w.alloc (.cells (arrM xs) 56)).alloc (.cells (arrM ys) 56)) w.heap.size xs ∧ ArrM ((w.alloc (.cells (arrM xs) 56)).alloc (.cells (arrM ys) 56)) (w.heap.size + 1) ys ∧ Below w.heap.size w ((w.alloc (.cells (arrM xs) 56)).alloc (.cells (arrM ys) 56)) :=
  ⟨(ArrM.new w xs).alloc _, ArrM.next ys (by simp), ((Below.refl _ _).alloc (Nat.le_refl _) _).alloc (by simp) _⟩
theorem ArrM.row {w : World} {g : Nat} {xs : List Int} (h : ArrM w g xs) : Row w (g + 1) (some ⟨g, 0, none⟩) (ints xs) := fun k v hv => by
  refine ⟨g, 0, rfl, by omega, ?_⟩
  rw [Nat.zero_add, cell_of_row w g k _ _ _ h]
  simpa [arrM] using hv
theorem spliceM_of {xs : List Int} (hl : xs.length = 38) : splice (ints zero38) 0 (ints xs) = ints xs := by
  have e1 : splice (ints zero38) 0 (ints xs) = ints (xs ++ zero38.drop xs.length) := by
    unfold splice ints intsK; simp [List.map_drop]
  rw [e1, hl]
  show ints (xs ++ []) = _
  rw [List.append_nil]
theorem mixP_keep {us xs : List Int} {k : Nat} {x : Int} (hx : xs[k]? = some x) (hu : us[k]? = some x) : us.take k ++ xs.drop k = us.take (k + 1) ++ xs.drop (k + 1) := by
  have hlt : k < xs.length := by
    rcases Nat.lt_or_ge k xs.length with g | g
    · exact g
    · rw [List.getElem?_eq_none g] at hx; cases hx
  rw [List.getElem?_eq_getElem hlt] at hx
  injection hx with hx
  rw [List.take_add_one, hu, List.drop_eq_getElem_cons hlt, hx]; simp
theorem stillCM {P : Program} {f : FuncId} {args : Array Value} {w : World} {v : Value} (h : Calls P f args w fun e w' => e = .returned v ∧ w = w') : Calls P f args w fun e w' => e = .returned v ∧ w' = w :=
  h.mono fun _ _ ⟨he, hm⟩ => ⟨he, hm.symm⟩
/-- a cell of another block, past a store -/
theorem cell_other {w : World} {b g k : Nat} {o : Nat} {v x : Value} (h : w.cell? ⟨b, o, none⟩ = some x) (hne : b ≠ g) : (w.setCell ⟨g, k, none⟩ v).cell? ⟨b, o, none⟩ = some x :=
  (World.cell?_of_block (heap_setCell_other w ⟨g, k, none⟩ b v hne)).trans h
theorem zero_row {w : World} {lo : Nat} {T : TypeId} {v : Value} (h : w.ownsRow lo T 1 v 38 (madeCells (Value.int .i64 0).cells (38 * 1)).toList) : w.ownsRow lo T 1 v 38 (ints zero38) := by
  have e : (madeCells #[(.int .i64 0 : Value)] 38).toList = ints zero38 := by rw [toList_madeCells_one]; rfl
  exact e ▸ h
theorem info_numM : (Tryz.prog.info? 54).map (·.size) = some 1 := by kernel_rfl
end Go.Proofs.YtolkbbbbahhfaaaGreat
/-
  The next lower list of a tree, in place.
-/
namespace Go.Proofs.YtolkbbbbahhfaaaGreat
open Go.RowKit Fld
set_option linter.unusedVariables false
set_option linter.unusedSimpArgs false
set_option maxRecDepth 100000

theorem last_le (t : List Int) : ∀ k, Tr.lastF t k ≤ k
  | 0 => Nat.le_refl _
  | k+1 => by rw [Tr.lastF]; split; · have := last_le t k; omega
              · exact Nat.le_refl _
theorem par_le (t : List Int) (x : Int) : ∀ k, Tr.parF t x k ≤ k
  | 0 => Nat.le_refl _
  | k+1 => by rw [Tr.parF]; split; · have := par_le t x k; omega
              · exact Nat.le_refl _
/-- what lower leaves -/
def Lowered (base g n cap : Nat) (t : List Int) (w : World) (e : Ending) (w' : World) : Prop :=
  (Tr.lowerL t = none ∧ e = .returned (.bool false) ∧ w = w') ∨ (∃ u, Tr.lowerL t = some u ∧ e = .returned (.bool true) ∧ w'.ownsRow base 2 1 (.slice (some ⟨g, 0, none⟩) n cap) n (ints u) ∧ w.grownBy w' (some g))
theorem cpy_step {d f i : Nat} {t : List Int} {x : Int} (hx : t[i - d]? = some x) : Tr.cpyF d (f + 1) i t = Tr.cpyF d f (i + 1) (t.set i x) := by
  rw [Tr.cpyF, lv_at hx]
def Cpd (base g n cap : Nat) (w : World) (T : List Int) (wr : World) : Prop := wr.ownsRow base 2 1 (.slice (some ⟨g, 0, none⟩) n cap) n (ints T) ∧ w.grownBy wr (some g)
theorem Cpd.step {base g n cap i : Nat} {w wr : World} {T : List Int} {x : Int} (h : Cpd base g n cap w T wr) : Cpd base g n cap w (T.set i x) (wr.setCell ⟨g, i, none⟩ (.int .i64 x)) := by
  obtain ⟨h1, h2⟩ := h.1.stored i (.int .i64 x)
  have e : (ints T).set i (.int .i64 x) = ints (T.set i x) := by unfold ints intsK; rw [List.map_set]
  rw [e] at h1
  exact ⟨h1, grownBy_trans h.2 h2⟩
theorem Cpd.start {base g n cap : Nat} {w : World} {t : List Int} (h : w.ownsRow base 2 1 (.slice (some ⟨g, 0, none⟩) n cap) n (ints t)) (M : Nat) : Cpd base g n cap (w.drewN M) t (w.drewN M) := ⟨h, World.grownBy.refl _ _⟩
set_option maxHeartbeats 1000000 in
theorem lower_any (base g n cap : Nat) (t : List Int) (w : World) (hl : t.length = n) (hlv : Tr.isLv t = true) (h : w.ownsRow base 2 1 (.slice (some ⟨g, 0, none⟩) n cap) n (ints t)) :
    Calls Tryz.prog 114 #[.slice (some ⟨g, 0, none⟩) n cap] w fun e w' => ∃ m, Lowered base g n cap t (w.drewN m) e w' := by
  have h3 := Tr.isLv_iff.1 hlv
  have n1 : 1 ≤ n := by have := h3.1; omega
  have n8 : n ≤ 8 := by have := h3.2.1; omega
  have HST : Hid (StepsTo t n) := by rw [Hid, ← hl]; exact h3.2.2.2
  have HZ : Hid (t.getD 0 0 = 0) := h3.2.2.1
  have HL := Lib.hid hl
  have HO := Lib.hid h
  have HLAST : Hid (Tr.lastF t (t.length - 1) = Tr.lastF t (n - 1)) := by rw [Hid, hl]
  clear hl hlv h3 h
  go_enter Tryz.func114, Tryz.ntmps114
  go_wp2_with fail
  go_loop [3] (fun l => ∃ k : Nat, k < n ∧ l = .int .i64 k ∧ Hid (Tr.lastF t (n - 1) = Tr.lastF t k)) (fun l => (intOf l).toNat)
  case atStart => exact ⟨n - 1, by omega, by go_num, rfl⟩
  case round =>
    obtain ⟨k, hk, rfl, HK⟩ := hrel
    obtain ⟨x, hx⟩ := at_lt (show k < t.length by rw [HL.out]; exact hk)
    have hcx := HO.out.cellAt k (by omega)
    rw [ints_at hx] at hcx
    have HX := Lib.hid hx
    rcases Nat.eq_zero_or_pos k with k0 | k0
    · subst k0
      have G : Hid (Tr.lowerL t = none) := by
        rw [Hid, Tr.lowerL]
        simp only [HLAST.out, HK.out]
        rfl
      clear hx HK
      go_wp2
      go_ret
      exact ⟨0, .inl ⟨G.out, rfl, rfl⟩⟩
    · obtain ⟨j, rfl⟩ : ∃ j, k = j + 1 := ⟨k - 1, by omega⟩
      by_cases hx1 : x = 1
      · have G : Hid (Tr.lastF t (n - 1) = Tr.lastF t j) := by
          rw [Hid, HK.out, Tr.lastF, lv_at hx, if_pos hx1]
        subst hx1
        clear hx HK
        go_wp2
        go_round
        case rel => exact ⟨j, by omega, by go_num, G⟩
        case measure => simp [intOf]
      · have tx := beq_f hx1
        have HLL : Hid (Tr.lastF t (n - 1) = j + 1) := by
          rw [Hid, HK.out, Tr.lastF, lv_at hx, if_neg hx1]
        have hxp : 1 ≤ x := by have := (HST.out (j + 1) hk (by omega)).1; rw [lv_at hx] at this; exact this
        clear hx HK
        have tz : ((j : Int) + 1 == 0) = false := beq_f (by omega)
        go_wp2_with fail
        go_loopw [4] (fun pp wr => ∃ p m : Nat, p ≤ j ∧ pp = .int .i64 p ∧ wr = w.drewN m ∧ Hid (Tr.parF t x j = Tr.parF t x p)) (fun pp _ => (intOf pp).toNat)
        case atStart => exact ⟨j, 0, Nat.le_refl _, by go_num, rfl, rfl⟩
        case round =>
          obtain ⟨p, m, hp, rfl, rfl, HP⟩ := hrel
          obtain ⟨y, hy⟩ := at_lt (show p < t.length by rw [HL.out]; omega)
          have hcy := HO.out.cellAt p (by omega)
          rw [ints_at hy] at hcy
          have hcx' : (w.drewN m).cell? ⟨g, j + 1, none⟩ = some (.int .i64 x) := hcx
          have hcy' : (w.drewN m).cell? ⟨g, p, none⟩ = some (.int .i64 y) := hcy
          by_cases hxy : x ≤ y
          · have hd : decide (x ≤ y) = true := decide_eq_true hxy
            obtain ⟨q, rfl⟩ : ∃ q, p = q + 1 := ⟨p - 1, by
              rcases Nat.eq_zero_or_pos p with e | e
              · subst e; have h9 := HZ.out; rw [lv_at hy] at h9; omega
              · omega⟩
            have G : Hid (Tr.parF t x j = Tr.parF t x q) := by
              rw [Hid, HP.out, Tr.parF, lv_at hy, if_pos hxy]
            clear hy HP
            go_wp2_with fail
            go_quiet (fail)
            go_wp2
            go_roundw
            case rel => exact ⟨q, _, by omega, by go_num, rfl, G⟩
            case measure => simp [intOf]
          · have hd : decide (x ≤ y) = false := decide_eq_false hxy
            have HPP : Hid (Tr.parF t x j = p) := by
              rw [Hid, HP.out]
              match p, hy with
              | 0, _ => rfl
              | q+1, hy => rw [Tr.parF, lv_at hy, if_neg hxy]
            have HLO : Hid (Tr.lowerL t = some (Tr.cpyF (j + 1 - p) (n - (j + 1)) (j + 1) t)) := by
              rw [Hid, Tr.lowerL]
              simp only [HL.out, HLL.out, lv_at HX.out, Nat.add_sub_cancel, HPP.out]
              rfl
            clear hy HP HLL
            go_wp2_with fail
            go_quiet (fail)
            go_wp2_with fail
            go_loopw [5] (fun ii wr => ∃ (e : Nat) (T : List Int), j + 1 + e ≤ n ∧ ii = .int .i64 ((j + 1 + e : Nat) : Int) ∧ Hid (Tr.cpyF (j + 1 - p) (n - (j + 1)) (j + 1) t = Tr.cpyF (j + 1 - p) (n - (j + 1 + e)) (j + 1 + e) T) ∧ Hid (T.length = n) ∧ ∃ M, Cpd base g n cap (w.drewN M) T wr) (fun ii _ => n - (intOf ii).toNat)
            case atStart => exact ⟨0, t, by omega, by go_num, rfl, HL.out, _, by rw [World.drewN_drewN]; exact Cpd.start HO.out _⟩
            case round =>
              obtain ⟨e, T, he, rfl, HC, HT, M, HD⟩ := hrel
              by_cases hlt : j + 1 + e < n
              · have hep : e + p < j + 1 + e := by omega
                obtain ⟨z, hz⟩ := at_lt (show e + p < T.length by rw [HT.out]; omega)
                have hcz := HD.1.cellAt (e + p) (by omega)
                rw [ints_at hz] at hcz
                obtain ⟨old, hold⟩ := at_lt (show j + 1 + e < T.length by rw [HT.out]; exact hlt)
                have hco := HD.1.cellAt (j + 1 + e) (by omega)
                rw [ints_at hold] at hco
                have hfo := HD.1.frozenAt (j + 1 + e)
                have HC2 : Hid (Tr.cpyF (j + 1 - p) (n - (j + 1)) (j + 1) t = Tr.cpyF (j + 1 - p) (n - (j + 1 + (e + 1))) (j + 1 + (e + 1)) (T.set (j + 1 + e) z)) := by
                  rw [Hid, HC.out, show n - (j + 1 + e) = n - (j + 1 + (e + 1)) + 1 from by omega, cpy_step (x := z) (by rw [show j + 1 + e - (j + 1 - p) = e + p from by omega]; exact hz)]
                  rfl
                have HT2 : Hid ((T.set (j + 1 + e) z).length = n) := by rw [Hid, List.length_set]; exact HT.out
                have G := Lib.hid (HD.step (i := j + 1 + e) (x := z))
                have ew1 : ((j + 1 + e : Nat) : Int) - ((j : Int) + 1) = (e : Int) := by omega
                clear hz hold HD HC
                go_wp2
                go_roundw
                case rel => exact ⟨e + 1, T.set (j + 1 + e) z, by omega, by go_num, HC2, HT2, M, G.out⟩
                case measure => simp [intOf]; omega
              · have hne : n = j + 1 + e := by omega
                have G : Hid (∃ m, Lowered base g n cap t (w.drewN m) (.returned (.bool true)) wr) := by
                  have hc := HC.out
                  rw [show n - (j + 1 + e) = 0 from by omega, Tr.cpyF] at hc
                  exact ⟨M, .inr ⟨T, by rw [HLO.out, hc], rfl, HD.1, HD.2⟩⟩
                clear HD HC
                go_wp2
                go_ret
                exact G.out
end Go.Proofs.YtolkbbbbahhfaaaGreat
/-
  All trees with so many nodes, the program's.
-/
namespace Go.Proofs.YtolkbbbbahhfaaaGreat
open Go.RowKit Fld
set_option linter.unusedVariables false
set_option linter.unusedSimpArgs false
set_option maxRecDepth 100000

theorem slicesClone_any (ad : Addr) (n c B : Nat) (xs : List Int) (w : World) (hl : xs.length = n) (hn : n ≤ 1048576) (hB : B ≤ w.heap.size) (h : Row w B (some ad) (ints xs)) :
    Calls Tryz.prog 113 #[.slice (some ad) n c] w (NewRow 2 n (ints xs) w) := by
  obtain ⟨i0, hi, hz0, hz1, hz2⟩ := info_parts info_i64
  have hnews := (h.alloc hB (.cells #[] 2)).news
  have hlen : (ints xs).length = n * 1 := by rw [ints_length, hl, Nat.mul_one]
  have h1 := ints_cells xs
  have hown0 := (Growing.start w 2).1
  have hbel0 := (Growing.start w 2).2
  have q22 : ∀ (w : World) (a : Option Addr) (n c n' c' : Nat), (binOp .eql 23 (.slice a n c) (.slice none n' c')).run Tryz.prog w = .ok (.bool a.isNone) w := fun w a n c n' c' => Lib.run_eql_slice_nil w _ _ a n c n' c' Tryz.underlying23
  go_enter Tryz.func113, Tryz.ntmps113
  go_wp2_with (at_builtin; refine wpList_append_own _ rfl (.tmp 5) (.tmp 6) 23 rfl w.heap.size 2 i0 _ 1 8 Tryz.underlying23 hi hz0 hz1 hz2 rfl (by omega) (.slice (some ⟨w.heap.size, 0, none⟩) 0 0) 0 [] rfl hown0 ad n c (ints xs) rfl hlen hnews h1 (by simp only [maxLen]; omega) (by omega) (by simp) ?_; intro v' w' hown hgrow _)
  go_ret
  rw [Nat.zero_add] at hown
  exact NewRow.own hown (hbel0.grown hgrow (by simp) (fun k hk => (hown0.lt k hk).1))
def rangeL (n : Nat) : List Int := (List.range n).map fun k : Nat => (k : Int)
theorem rangeL_length (n : Nat) : (rangeL n).length = n := by simp [rangeL]
theorem rangeL_at {n k : Nat} (h : k < n) : (rangeL n)[k]? = some (k : Int) := by unfold rangeL; rw [List.getElem?_map, List.getElem?_range h]; rfl
def chkT (n : Nat) : Bool := (Tr.treesL (n + 1)).all (fun t => Tr.isLv t && decide (t.length = n + 1)) && decide ((Tr.treesL (n + 1)).length ≤ 115)
theorem chkT_all : (List.range 8).all chkT = true := by decide +kernel
theorem trees_all {n : Nat} (h1 : 1 ≤ n) (h8 : n ≤ 8) : (∀ t ∈ Tr.treesL n, Tr.isLv t = true ∧ t.length = n) ∧ (Tr.treesL n).length ≤ 115 := by
  have h := List.all_eq_true.1 chkT_all (n - 1) (by rw [List.mem_range]; omega)
  unfold chkT at h
  rw [show n - 1 + 1 = n from by omega] at h
  simp only [Bool.and_eq_true, List.all_eq_true, decide_eq_true_eq] at h
  exact h
/-- the trees so far, the last one of them as it stands in the levels -/
structure Listed (n : Nat) (m : List (List Int)) (T : List Int) : Prop where
  last : ∃ m', m = m' ++ [T] ∧ Tr.treesL n = m' ++ Tr.treesF (116 - m'.length) T
theorem Listed.bd {n : Nat} {m : List (List Int)} {T : List Int} (h : Listed n m T) (h1 : 1 ≤ n) (h8 : n ≤ 8) : Tr.isLv T = true ∧ T.length = n ∧ 1 ≤ m.length ∧ m.length ≤ 115 := by
  obtain ⟨m', rfl, e⟩ := h.last
  obtain ⟨hall, hlen⟩ := trees_all h1 h8
  rw [e, List.length_append] at hlen
  have hf : 116 - m'.length = (115 - m'.length) + 1 := by omega
  have hT : T ∈ Tr.treesL n := by rw [e, hf, Tr.treesF]; simp
  have h2 := hall T hT
  rw [hf, Tr.treesF, List.length_cons] at hlen
  exact ⟨h2.1, h2.2, by simp, by rw [List.length_append]; simp; omega⟩
theorem Listed.done {n : Nat} {m : List (List Int)} {T : List Int} (h : Listed n m T) (h1 : 1 ≤ n) (h8 : n ≤ 8) (hl : Tr.lowerL T = none) : m = Tr.treesL n := by
  have hb := h.bd h1 h8
  obtain ⟨m', rfl, e⟩ := h.last
  have hlen := hb.2.2.2
  rw [List.length_append] at hlen
  simp at hlen
  rw [e, show 116 - m'.length = (115 - m'.length) + 1 from by omega, Tr.treesF, hl]
theorem Listed.next {n : Nat} {m : List (List Int)} {T u : List Int} (h : Listed n m T) (h1 : 1 ≤ n) (h8 : n ≤ 8) (hl : Tr.lowerL T = some u) : Listed n (m ++ [u]) u := by
  have hb := h.bd h1 h8
  obtain ⟨m', rfl, e⟩ := h.last
  have hlen := hb.2.2.2
  rw [List.length_append] at hlen
  simp at hlen
  refine ⟨m' ++ [T], rfl, ?_⟩
  rw [e, show 116 - m'.length = (115 - m'.length) + 1 from by omega, Tr.treesF, hl, List.length_append]
  simp
theorem Listed.start (n : Nat) : Listed n [rangeL n] (rangeL n) := ⟨[], rfl, rfl⟩
set_option maxHeartbeats 2000000 in
theorem treesWith_any (n : Nat) (w : World) (h1 : 1 ≤ n) (h8 : n ≤ 8) :
    Calls Tryz.prog 80 #[.int .i64 n] w (NewMat (Tr.treesL n).length (Tr.treesL n) w) := by
  obtain ⟨i0, hi, hz0, hz1, hz2⟩ := info_parts info_i64
  obtain ⟨j0, hj, hy0, hy1, hy2⟩ := info_parts info_row
  go_enter Tryz.func80, Tryz.ntmps80
  go_wp2_with (at_make; refine wpList_make_full _ rfl (.tmp 6) (.tmp 6) 23 rfl w.heap.size 2 i0 _ 1 Tryz.underlying23 hi hz0 hz1 .i64 .i64 _ _ n rfl rfl rfl rfl (by rw [hz2]; omega) (by simp only [maxLen]; omega) (Nat.le_refl _) ?_; intro w1 hown hg)
  have F0 := Filling.start (xs := rangeL n) hown hg
  clear hown hg hz0 hz1 hz2 hi
  go_wp2_with fail
  go_loopw [10] (fun i wr => ∃ k : Nat, k ≤ n ∧ i = .int .i64 k ∧ Filling w 2 n (rangeL n) k wr) (fun i _ => n - (intOf i).toNat)
  case atStart => exact ⟨0, Nat.zero_le _, rfl, F0⟩
  case round =>
    obtain ⟨k, hk, rfl, HF⟩ := hrel
    by_cases hlt : k < n
    · have hf := HF.1.frozenAt k
      have ho := HF.1.cellAt k (by omega)
      rw [fill_at (by rw [ints_length]; exact rangeL_length n) hlt] at ho
      have G := Lib.hid (HF.step (rangeL_length n) (rangeL_at hlt))
      clear F0 HF
      go_wp2
      go_roundw
      case rel => exact ⟨k + 1, by omega, by go_num, G.out⟩
      case measure => simp [intOf]; omega
    · obtain rfl : k = n := by omega
      obtain ⟨A0, c0, e0, hown1, hbel1⟩ := HF.done (rangeL_length k)
      injection e0 with e0
      injection e0 with eA _ ec
      subst eA ec
      obtain ⟨wo, hwo⟩ : ∃ wo, wo = wr := ⟨wr, rfl⟩
      subst hwo
      have HLV := Lib.hid (OwnR.of hown1)
      have HB1 := Lib.hid hbel1
      have hs1 : w.heap.size < wo.heap.size := (hown1.lt w.heap.size rfl).2
      clear F0 HF hown1 hbel1
      go_wp2_with fail
      refine (slicesClone_any ⟨w.heap.size, 0, none⟩ k k wo.heap.size (rangeL k) _ (rangeL_length k) (by omega) (Nat.le_refl _) HLV.out.row).mono ?_
      rintro e w2 ⟨A2, c2, rfl, own2, bel2⟩
      have HO2 := Lib.hid own2
      have HB2 := Lib.hid bel2
      have hs2 := bel2.size
      clear own2 bel2
      go_wp2_with fail
      have HM0 : Hid (OwnMat (w2.alloc (.cells #[.slice A2 k c2] 23)) wo.heap.size (w2.alloc (.cells #[.slice A2 k c2] 23)).heap.size (.slice (some ⟨w2.heap.size, 0, none⟩) 1 1) 1 [rangeL k] [.slice A2 k c2]) := by
        have hal : Below w2.heap.size w2 (w2.alloc (.cells #[.slice A2 k c2] 23)) := (Below.refl _ _).alloc (Nat.le_refl _) _
        have hlit := World.ownsRow_lit (base := wo.heap.size) (size := 1) (e := 23) w2 #[.slice A2 k c2] 1 hs2 (by simp [maxLen]) rfl
        refine ⟨OwnR.of hlit, rfl, ?_, ?_⟩
        · intro r row hr
          match r, hr with
          | 0, hr =>
            simp only [List.getElem?_cons_zero, Option.some.injEq] at hr
            subst hr
            refine ⟨A2, c2, by rw [rangeL_length]; rfl, ?_⟩
            rw [rangeL_length]
            exact ((OwnR.of HO2.out).below hal (Nat.le_refl _)).more (Nat.le_refl _) hal.size
          | r+1, hr => simp at hr
        · intro r s u t g hne hu ht
          match r, s, hu, ht with
          | 0, 0, _, _ => exact absurd rfl hne
          | r+1, _, hu, _ => simp at hu
          | 0, s+1, _, ht => simp at ht
      have HL0 : Hid (OwnR (w2.alloc (.cells #[.slice A2 k c2] 23)) w.heap.size wo.heap.size 2 (.slice (some ⟨w.heap.size, 0, none⟩) k k) k (ints (rangeL k))) :=
        (HLV.out.below HB2.out (Nat.le_refl _)).below ((Below.refl w2.heap.size w2).alloc (Nat.le_refl _) _) hs2
      have HB0 : Hid (Below w.heap.size w (w2.alloc (.cells #[.slice A2 k c2] 23))) := (HB1.out.trans (HB2.out.mono (by omega))).alloc (by omega) _
      go_loopw [5] (fun v W => ∃ (g cap j : Nat) (m : List (List Int)) (vs : List Value) (T : List Int), v = .slice (some ⟨g, 0, none⟩) j cap ∧ 1 ≤ j ∧ j ≤ 115 ∧ Hid (Listed k m T) ∧ Hid (OwnMat W wo.heap.size W.heap.size (.slice (some ⟨g, 0, none⟩) j cap) j m vs) ∧ Hid (OwnR W w.heap.size wo.heap.size 2 (.slice (some ⟨w.heap.size, 0, none⟩) k k) k (ints T)) ∧ Below w.heap.size w W ∧ wo.heap.size ≤ W.heap.size) (fun v _ => 200 - (match v with | .slice _ n _ => n | _ => 0))
      case atStart => exact ⟨w2.heap.size, 1, 1, [rangeL k], [.slice A2 k c2], rangeL k, rfl, Nat.le_refl _, by omega, Listed.start k, HM0, HL0, HB0.out, by simp; omega⟩
      case round =>
        obtain ⟨g, cap, j, m, vs, T, rfl, j1, j115, HT, HM, HL, HB, hWo⟩ := hrel
        obtain ⟨tlv, tl, _, _⟩ := HT.out.bd h1 h8
        have HTL := Lib.hid tl
        have C0 := lower_any w.heap.size w.heap.size k k T wr tl tlv HL.out.1
        clear tl tlv
        go_wp2_with fail
        refine C0.mono ?_
        rintro e w3 ⟨md, ⟨hlo, rfl, rfl⟩ | ⟨u, hlo, rfl, hown3, hg3⟩⟩
        · have e := HT.out.done h1 h8 hlo
          have hjl : m.length = j := HM.out.size
          have G : Hid (NewMat (Tr.treesL k).length (Tr.treesL k) w (.returned (.slice (some ⟨g, 0, none⟩) j cap)) (wr.drewN md)) := by
            rw [Hid, ← e, hjl]
            exact ⟨_, _, vs, rfl, (HM.out.drewN md).more (by omega) (Nat.le_refl _), below_drewN HB md⟩
          clear hlo e hjl HB C0
          go_wp2
          go_ret
          exact G.out
        · have hsz3 : wr.heap.size ≤ w3.heap.size := hg3.size
          have hWI : Within w.heap.size wo.heap.size (wr.drewN md) w3 := Within.grown hg3 (fun g' e => by injection e with e; omega)
          have HM3 : Hid (OwnMat w3 wo.heap.size w3.heap.size (.slice (some ⟨g, 0, none⟩) j cap) j m vs) := ((HM.out.drewN md).within hWI (by show wr.heap.size ≤ wr.heap.size; omega) (.inr (Nat.le_refl _))).more (Nat.le_refl _) hsz3
          have HL3 : Hid (OwnR w3 w.heap.size wo.heap.size 2 (.slice (some ⟨w.heap.size, 0, none⟩) k k) k (ints u)) := ⟨hown3, fun g' e => by have : w.heap.size = g' := (by simpa [Value.ownBlock] using e); omega⟩
          have HB3 : Hid (Below w.heap.size w w3) := Below.then (below_drewN HB md) hWI (Nat.le_refl _) (by show w.heap.size ≤ wr.heap.size; omega)
          have HN := Lib.hid (HT.out.next h1 h8 hlo)
          have hul : u.length = k := (HN.out.bd h1 h8).2.1
          have huj : j + 1 ≤ 115 := by have := (HN.out.bd h1 h8).2.2.2; rw [List.length_append] at this; have := HM.out.size; simp at *; omega
          have HUL := Lib.hid hul
          have hW3 : wo.heap.size ≤ w3.heap.size := by omega
          clear hlo hown3 hg3 hWI HB C0 HM HL HT hul
          go_wp2_with fail
          refine (slicesClone_any ⟨w.heap.size, 0, none⟩ k k wo.heap.size u _ HUL.out (by omega) hW3 HL3.out.row).mono ?_
          rintro e w4 ⟨A4, c4, rfl, own4, bel4⟩
          have hs4 := bel4.size
          have HM4 := Lib.hid (HM3.out.below bel4 (Nat.le_refl _))
          have HL4 := Lib.hid (HL3.out.below bel4 hW3)
          have HB4 := Lib.hid (HB3.out.trans (bel4.mono (by omega)))
          have HO4 := Lib.hid own4
          have hownO := HM4.out.outer.1
          clear own4 bel4
          go_wp2_with (at_builtin; refine wpList_append_lies _ rfl (.tmp 23) (.tmp 26) 22 rfl wo.heap.size 23 j0 _ 1 24 Tryz.underlying22 hj hy0 hy1 hy2 rfl (by omega) (.slice (some ⟨g, 0, none⟩) j cap) j vs rfl (hownO.alloc _) ⟨w4.heap.size, 0, none⟩ 1 1 [.slice A4 k c4] rfl rfl (World.news_of_block (cs := #[.slice A4 k c4]) (heap_alloc_new _ _)) (by simp [Value.oneCell']) (by omega) (by simp only [maxLen]; omega) (by omega) (by simp; omega) (w4.heap.size + 1) (by simp) ?_; intro g5 cap5 w5 hown5 hgrow5 hat5 hlt5)
          have hs5 : w4.heap.size ≤ w5.heap.size := by have := hgrow5.size; simp at this; omega
          have GM : Hid (OwnMat w5 wo.heap.size w5.heap.size (.slice (some ⟨g5, 0, none⟩) (j + 1) cap5) (j + 1) (m ++ [u]) (vs ++ [.slice A4 k c4])) := HM4.out.push (row := u) hs4 HUL.out HO4.out hW3 hown5 hgrow5
          have GL : Hid (OwnR w5 w.heap.size wo.heap.size 2 (.slice (some ⟨w.heap.size, 0, none⟩) k k) k (ints u)) :=
            ((HL4.out.below ((Below.refl w4.heap.size w4).alloc (Nat.le_refl _) _) (by omega)).grown hgrow5 (own_types HL4.out.1 hownO (by decide)))
          have GB : Hid (Below w.heap.size w w5) := (HB4.out.alloc (by omega) _).grown hgrow5 (by simp; omega) (fun q hq => by have := (hownO.lt q hq).1; omega)
          clear hown5 hgrow5 hat5 hownO
          go_wp2
          go_roundw
          case rel => exact ⟨g5, cap5, j + 1, _, _, u, rfl, by omega, huj, HN, GM, GL, GB.out, by omega⟩
          case measure => simp; omega
end Go.Proofs.YtolkbbbbahhfaaaGreat
/-
  The model's list of all trees with n nodes, plainly.
-/
namespace Go.Proofs.YtolkbbbbahhfaaaGreat
set_option maxRecDepth 100000

theorem grow_trees {n : Nat} (h1 : 1 ≤ n) (h8 : n ≤ 8) : Tr.growF (n - 1) [0] [] = Tr.treesL n := by
  have h := List.all_eq_true.1 Tr.grow_eq (n - 1) (by rw [List.mem_range]; omega)
  rw [show n - 1 + 1 = n from by omega] at h
  exact eq_of_beq h
end Go.Proofs.YtolkbbbbahhfaaaGreat
/-
  Trees: the model's test and its canonical lists, beside the program's.
-/
namespace Go.Proofs.YtolkbbbbahhfaaaGreat
open Go.RowKit Fld
set_option linter.unusedVariables false
set_option linter.unusedSimpArgs false
set_option maxRecDepth 100000

set_option maxHeartbeats 400000 in
theorem sIsTree_L (A : Option Addr) (n c B : Nat) (t : List Int) (w : World) (hl : t.length = n) (hn : n ≤ 1048576) (hB : B ≤ w.heap.size) (h : Row w B A (ints t)) :
    Calls Tryz.prog 82 #[.slice A n c] w (ResB (isTr t) w) := by
  have C0 := l03Is_any A n c B t w hl hn h
  cases hlv : Tr.isLv t
  · have G : Hid (isTr t = false) := by rw [Hid, isTr, hlv]; rfl
    rw [hlv] at C0
    go_enter Tryz.func82, Tryz.ntmps82
    go_wp2_with fail
    refine C0.mono ?_
    rintro e w' ⟨rfl, m, rfl⟩
    go_wp2
    go_ret
    exact ⟨ret_bool G.out.symm, below_drewN (Below.refl _ _) _⟩
  · rw [hlv] at C0
    have HL := Lib.hid hl
    have HLV := Lib.hid hlv
    have HE : Hid ((Tr.can t).length = n) := by rw [Hid, (lv_can hlv).2, hl]
    have GE : Hid (isTr t = eqL (Tr.can t) t) := by rw [Hid, isTr, hlv]; rfl
    clear hl hlv
    go_enter Tryz.func82, Tryz.ntmps82
    go_wp2_with fail
    refine C0.mono ?_
    rintro e w' ⟨rfl, m, rfl⟩
    go_wp2_with fail
    refine (l03Canon_any A n c B t _ HL.out HLV.out (by exact hB) (h.drewN m)).mono ?_
    rintro e w3 ⟨A3, c3, rfl, own3, bel3⟩
    have row3 : Row w3 B A (ints t) := Row.below h (below_undrew' bel3) hB
    go_wp2_with fail
    refine (l01Same_any A3 A n n c3 c _ _ (Tr.can t) t _ HE.out HL.out (by omega) (by omega) (row_of_own own3) row3).mono ?_
    rintro e w4 ⟨rfl, m4, rfl⟩
    have GB : Hid (Below w.heap.size w w3) := below_undrew' bel3
    clear own3 bel3
    go_wp2
    go_ret
    exact ⟨ret_bool GE.out.symm, below_drewN GB.out _⟩
theorem pIsTree_L (A : Option Addr) (n c B : Nat) (t : List Int) (w : World) (hl : t.length = n) (hn : n ≤ 1048576) (hB : B ≤ w.heap.size) (h : Row w B A (ints t)) (hc : n ≤ c) :
    Calls Tryz.prog 91 #[.slice A n c] w (ResB (isTr t) w) := isTree_any A n c B t w hl (by omega) hc hB h
end Go.Proofs.YtolkbbbbahhfaaaGreat
/-
  All trees with so many nodes, the model's.
-/
namespace Go.Proofs.YtolkbbbbahhfaaaGreat
open Go.RowKit Fld
set_option linter.unusedVariables false
set_option linter.unusedSimpArgs false
set_option maxRecDepth 100000

theorem lv_last {t : List Int} (h : Tr.isLv t = true) : 0 ≤ t.getD (t.length - 1) 0 ∧ t.getD (t.length - 1) 0 ≤ (t.length : Int) - 1 := by
  have h1 := Tr.isLv_iff.1 h
  have h2 := StepsTo.bd (t := t) (n := t.length) (k := t.length - 1) h1.2.2.2 h1.2.2.1 (by have := h1.1; omega) rfl
  have := h1.1
  omega
theorem lv_push {t : List Int} {x : Int} (h : Tr.isLv t = true) (hl : t.length + 1 ≤ 8) (h1 : 1 ≤ x) (h2 : x ≤ t.getD (t.length - 1) 0 + 1) : Tr.isLv (t ++ [x]) = true := by
  have h3 := Tr.isLv_iff.1 h
  have hlt := h3.1
  have hg : ∀ i, i < t.length → (t ++ [x]).getD i 0 = t.getD i 0 := fun i hi => by
    rw [List.getD_eq_getElem?_getD, List.getElem?_append_left hi, ← List.getD_eq_getElem?_getD]
  have hx : (t ++ [x]).getD t.length 0 = x := by
    rw [List.getD_eq_getElem?_getD, List.getElem?_append_right (Nat.le_refl _), Nat.sub_self]; rfl
  refine Tr.isLv_iff.2 ⟨by simp, by simp; omega, by rw [hg 0 hlt]; exact h3.2.2.1, fun i hi h1' => ?_⟩
  rw [List.length_append, List.length_singleton] at hi
  by_cases e : i = t.length
  · subst e
    rw [hx, hg (t.length - 1) (by omega)]
    exact ⟨h1, h2⟩
  · rw [hg i (by omega), hg (i - 1) (by omega)]
    exact h3.2.2.2 i (by omega) h1'
def growTo (f : Nat) (t : List Int) (m : List (List Int)) (k : Nat) : List (List Int) := (List.range k).foldl (fun (o : List (List Int)) (j : Nat) => Tr.growF f (t ++ [t.getD (t.length - 1) 0 + 1 - (j : Int)]) o) m
theorem growTo_step (f : Nat) (t : List Int) (m : List (List Int)) (k : Nat) : growTo f t m (k + 1) = Tr.growF f (t ++ [t.getD (t.length - 1) 0 + 1 - (k : Int)]) (growTo f t m k) := by
  unfold growTo; rw [List.range_succ, List.foldl_append]; rfl
theorem growF_succ (f : Nat) (t : List Int) (m : List (List Int)) : Tr.growF (f + 1) t m = growTo f t m (t.getD (t.length - 1) 0 + 1).toNat := rfl
theorem grow_len : ∀ (f : Nat) (t : List Int) (m : List (List Int)), Tr.isLv t = true → t.length + f ≤ 8 → (Tr.growF f t m).length ≤ m.length + 9 ^ f
  | 0, t, m, _, _ => by
    rw [Tr.growF]; split
    · simp
    · simp
  | f+1, t, m, h, hl => by
    rw [growF_succ]
    have hb := lv_last h
    have key : ∀ k : Nat, (k : Int) ≤ t.getD (t.length - 1) 0 + 1 → (growTo f t m k).length ≤ m.length + k * 9 ^ f := by
      intro k
      induction k with
      | zero => intro _; simp [growTo]
      | succ k ih =>
        intro hk
        rw [growTo_step]
        have h1 := grow_len f (t ++ [t.getD (t.length - 1) 0 + 1 - (k : Int)]) (growTo f t m k) (lv_push h (by omega) (by omega) (by omega)) (by rw [List.length_append]; simp; omega)
        have h2 := ih (by omega)
        have e : (k + 1) * 9 ^ f = k * 9 ^ f + 9 ^ f := by rw [Nat.add_mul, Nat.one_mul]
        omega
    have h1 := key (t.getD (t.length - 1) 0 + 1).toNat (by omega)
    have h2 : (t.getD (t.length - 1) 0 + 1).toNat ≤ 9 := by omega
    have h3 : (t.getD (t.length - 1) 0 + 1).toNat * 9 ^ f ≤ 9 * 9 ^ f := Nat.mul_le_mul_right _ h2
    have e : 9 ^ (f + 1) = 9 * 9 ^ f := by rw [Nat.pow_succ, Nat.mul_comm]
    omega
/-- what was there stands, but for a row that grows -/
theorem grown_chain {a b c : World} {r r' : Option Nat} (h : a.grownBy b r) (k : b.grownBy c r') (hr : r' = r ∨ ∃ g, r' = some g ∧ a.heap.size ≤ g) : a.grownBy c r :=
  ⟨k.os.trans h.os, k.tape.trans h.tape, k.output.trans h.output, Nat.le_trans h.size k.size, fun i hi hne => by
    rw [k.block i (Nat.lt_of_lt_of_le hi h.size) (fun e => by
      rcases hr with hr | ⟨g, hr, hg⟩
      · exact hne (by rw [e, hr])
      · rw [hr] at e; injection e with e; omega)]
    exact h.block i hi hne⟩
theorem below_grown {a b : World} (h : Below a.heap.size a b) : a.grownBy b none := ⟨h.os, h.tape, h.output, h.size, fun i hi _ => h.block i hi⟩
theorem grown_any {a b : World} {r : Option Nat} (h : a.grownBy b none) : a.grownBy b r := ⟨h.os, h.tape, h.output, h.size, fun i hi _ => h.block i hi (by simp)⟩
/-- what l03Grow hands back -/
def Grown (lo : Nat) (v : Value) (m' : List (List Int)) (w : World) (e : Ending) (w' : World) : Prop :=
  ∃ A q c vs, e = .returned (.slice A q c) ∧ OwnMat w' lo w'.heap.size (.slice A q c) q m' vs ∧ w.grownBy w' v.ownBlock ∧ (Value.ownBlock (.slice A q c) = v.ownBlock ∨ ∃ g, Value.ownBlock (.slice A q c) = some g ∧ w.heap.size ≤ g)
def SGrow (f : Nat) : Prop := ∀ (At A : Option Addr) (ct q c n lo lot : Nat) (t : List Int) (m : List (List Int)) (vs : List Value) (w : World), t.length + f = n → n ≤ 8 → Tr.isLv t = true → q + 9 ^ f ≤ 100000000 → lo ≤ w.heap.size →
    w.ownsRow lot 2 1 (.slice At t.length ct) t.length (ints t) → OwnMat w lo w.heap.size (.slice A q c) q m vs →
    Calls Tryz.prog 75 #[.slice At t.length ct, .int .i64 n, .slice A q c] w (Grown lo (.slice A q c) (Tr.growF f t m) w)
set_option maxHeartbeats 1000000 in
theorem sGrow_zero : SGrow 0 := by
  obtain ⟨j0, hj, hy0, hy1, hy2⟩ := info_parts info_row
  intro At A ct q c n lo lot t m vs w hn hn8 hlv hq hlo ht hm
  have hnt : t.length = n := by omega
  obtain ⟨e1, e2⟩ := lv_can hlv
  have HE : Hid ((Tr.can t).length = n) := by rw [Hid, e2, hnt]
  have HT := Lib.hid ht
  have HM := Lib.hid hm
  have HLV := Lib.hid hlv
  have HN := Lib.hid hnt
  have h1 : 1 ≤ n := by have := (Tr.isLv_iff.1 hlv).1; omega
  have hq' : q ≤ 100000000 := by omega
  rw [hnt] at ht HT ⊢
  obtain ⟨gt, capt, hvt⟩ := own_form ht (by omega)
  injection hvt with hA _ hcap
  subst hA hcap
  clear hn hlv hq e1 e2 hnt hm
  go_enter Tryz.func75, Tryz.ntmps75
  go_wp2_with fail
  refine (l03Canon_any _ n ct w.heap.size t _ HN.out HLV.out (Nat.le_refl _) (row_of_own ht)).mono ?_
  rintro e w1 ⟨A1, c1, rfl, own1, bel1⟩
  have hs1 := bel1.size
  have HB1 := Lib.hid bel1
  have HT1 := Lib.hid ((OwnR.of HT.out).below bel1 (Nat.le_refl _))
  have C1 := l01Same_any A1 _ n n c1 ct _ _ (Tr.can t) t w1 HE.out HN.out (by omega) (by omega) (row_of_own own1) HT1.out.row
  clear own1 bel1 ht
  by_cases hct : Tr.can t = t
  · have G : Hid (Tr.growF 0 t m = m ++ [t]) := by rw [Hid, Tr.growF, if_pos hct]
    rw [hct, eqL_self] at C1
    clear hct
    go_wp2_with fail
    refine C1.mono ?_
    rintro e w2 ⟨rfl, m2, rfl⟩
    go_wp2_with fail
    refine (l01Own_any ⟨gt, 0, none⟩ n ct w1.heap.size t _ HN.out (by omega) (by show w1.heap.size ≤ w1.heap.size; omega) ((HT1.out.row.more hs1).drewN m2)).mono ?_
    rintro e w3 ⟨A3, c3, rfl, own3, bel3⟩
    have hs3 : w1.heap.size ≤ w3.heap.size := bel3.size
    have HM3 := Lib.hid ((((HM.out.below HB1.out (Nat.le_refl _)).more (Nat.le_refl _) hs1).drewN m2).below bel3 (Nat.le_refl _))
    have HB3 : Hid (Below w.heap.size w w3) := (below_drewN HB1.out m2).trans (bel3.mono (by show w.heap.size ≤ w1.heap.size; exact hs1))
    have HO3 : Hid (w3.ownsRow w1.heap.size 2 1 (.slice A3 n c3) n (ints t)) := own3
    have hownO := HM3.out.outer.1
    clear own3 bel3
    go_wp2_with (at_builtin; refine wpList_append_lies _ rfl (.tmp 16) (.tmp 19) 22 rfl lo 23 j0 _ 1 24 Tryz.underlying22 hj hy0 hy1 hy2 rfl (by omega) (.slice A q c) q vs rfl (hownO.alloc _) ⟨w3.heap.size, 0, none⟩ 1 1 [.slice A3 n c3] rfl rfl (World.news_of_block (cs := #[.slice A3 n c3]) (heap_alloc_new _ _)) (by simp [Value.oneCell']) (by omega) (by simp only [maxLen]; omega) (by omega) (by simp; omega) (w3.heap.size + 1) (by simp) ?_; intro g5 cap5 w5 hown5 hgrow5 hat5 hlt5)
    have hs5 : w3.heap.size ≤ w5.heap.size := by have := hgrow5.size; simp at this; omega
    have GG : Hid (Grown lo (.slice A q c) (Tr.growF 0 t m) w (.returned (.slice (some ⟨g5, 0, none⟩) (q + 1) cap5)) w5) := by
      rw [Hid, G.out]
      refine ⟨_, _, _, _, rfl, HM3.out.push (row := t) hs3 HN.out HO3.out (by omega) hown5 hgrow5, ?_, ?_⟩
      · have h1 : w.grownBy (w3.alloc (.cells #[.slice A3 n c3] 23)) none := below_grown (HB3.out.alloc (by omega) _)
        exact grown_chain (grown_any h1) hgrow5 (.inl rfl)
      · rcases hat5 with e | e
        · exact .inl e.symm
        · exact .inr ⟨g5, rfl, by omega⟩
    clear hown5 hgrow5 hat5 hownO
    go_wp2
    go_ret
    exact GG.out
  · have G : Hid (Tr.growF 0 t m = m) := by rw [Hid, Tr.growF, if_neg hct]
    have e : eqL (Tr.can t) t = false := by unfold eqL; exact decide_eq_false hct
    rw [e] at C1
    clear hct e
    go_wp2_with fail
    refine C1.mono ?_
    rintro e w2 ⟨rfl, m2, rfl⟩
    have GG : Hid (Grown lo (.slice A q c) (Tr.growF 0 t m) w (.returned (.slice A q c)) (w1.drewN m2)) := by
      rw [Hid, G.out]
      exact ⟨A, q, c, vs, rfl, ((HM.out.below HB1.out (Nat.le_refl _)).drewN m2).more (Nat.le_refl _) hs1, grown_any (below_grown (below_drewN HB1.out m2)), .inl rfl⟩
    go_wp2
    go_ret
    exact GG.out
set_option maxHeartbeats 2000000 in
theorem sGrow_succ (f : Nat) (IH : SGrow f) : SGrow (f + 1) := by
  obtain ⟨i0, hi, hz0, hz1, hz2⟩ := info_parts info_i64
  intro At A ct q c n lo lot t m vs w hn hn8 hlv hq hlo ht hm
  obtain ⟨nt, hnt⟩ : ∃ nt, nt = t.length := ⟨_, rfl⟩
  have h1 : 1 ≤ nt := by have := (Tr.isLv_iff.1 hlv).1; omega
  have HNT : Hid (t.length = nt) := hnt.symm
  rw [← hnt] at ht ⊢
  obtain ⟨gt, capt, hvt⟩ := own_form ht (by omega)
  injection hvt with hA _ hcap
  subst hA hcap
  obtain ⟨L, hL⟩ : ∃ L, L = t.getD (t.length - 1) 0 := ⟨_, rfl⟩
  have hLb := lv_last hlv
  rw [← hL, ← hnt] at hLb
  have hLc := ht.cellAt (nt - 1) (by omega)
  have hLx : t[nt - 1]? = some L := by
    obtain ⟨x, hx⟩ := at_lt (show nt - 1 < t.length by omega)
    rw [hx, hL, ← hnt, lv_at hx]
  rw [ints_at hLx] at hLc
  have hnlt : nt < n := by omega
  have HFN : Hid (nt + (f + 1) = n) := by rw [Hid, hnt]; exact hn
  have HT : Hid (OwnR w lot w.heap.size 2 (.slice (some ⟨gt, 0, none⟩) nt ct) nt (ints t)) := OwnR.of ht
  have HM := Lib.hid hm
  have HLV := Lib.hid hlv
  have HLL : Hid (t.getD (t.length - 1) 0 = L) := hL.symm
  have HG : Hid (Tr.growF (f + 1) t m = growTo f t m (L + 1).toNat) := by rw [Hid, growF_succ, ← hL]
  have hpow : 9 ^ (f + 1) = 9 * 9 ^ f := by rw [Nat.pow_succ, Nat.mul_comm]
  have HQ : Hid (q + 9 * 9 ^ f ≤ 100000000) := by rw [Hid, ← hpow]; exact hq
  have HML : Hid (m.length = q) := hm.size
  have tn := beq_f (show ¬ (nt : Int) = (n : Int) by omega)
  clear hn hlv hq hpow hL hLx ht hm hnt
  go_enter Tryz.func75, Tryz.ntmps75
  go_wp2_with fail
  go_loopw [2, 7] (fun v l wr => ∃ (k q' c' : Nat) (A' : Option Addr) (vs' : List Value), v = .slice A' q' c' ∧ l = .int .i64 (L + 1 - (k : Int)) ∧ (k : Int) ≤ L + 1 ∧ Hid (q' ≤ q + k * 9 ^ f) ∧ Hid (OwnMat wr lo wr.heap.size (.slice A' q' c') q' (growTo f t m k) vs') ∧ Hid (w.grownBy wr (Value.ownBlock (.slice A q c))) ∧ Hid (Value.ownBlock (.slice A' q' c') = Value.ownBlock (.slice A q c) ∨ ∃ g, Value.ownBlock (.slice A' q' c') = some g ∧ w.heap.size ≤ g) ∧ w.heap.size ≤ wr.heap.size) (fun _ l _ => (intOf l).toNat)
  case atStart => exact ⟨0, q, c, A, vs, rfl, by simp, by omega, by rw [Hid]; omega, HM.out, World.grownBy.refl _ _, .inl rfl, Nat.le_refl _⟩
  case round =>
    obtain ⟨k, q', c', A', vs', rfl, rfl, hk, HQ', HM', HGR, HOB, hsz⟩ := hrel
    by_cases hlt : (k : Int) < L + 1
    · have hlev : 1 ≤ L + 1 - (k : Int) := by omega
      obtain ⟨lev, hlv2⟩ : ∃ lev, lev = L + 1 - (k : Int) := ⟨_, rfl⟩
      have hl1 : 1 ≤ lev := by omega
      have hl8 : lev ≤ 9 := by omega
      have HS : Hid (growTo f t m (k + 1) = Tr.growF f (t ++ [lev]) (growTo f t m k)) := by rw [Hid, growTo_step, HLL.out, hlv2]
      have HPL : Hid (Tr.isLv (t ++ [lev]) = true) := lv_push HLV.out (by have := HNT.out; have := HFN.out; omega) hl1 (by rw [HLL.out]; omega)
      have HT' := Lib.hid (HT.out.grown HGR.out (own_types HT.out.1 HM.out.outer.1 (by decide)))
      have hk9 : k + 1 ≤ 9 := by omega
      have HQ2 : Hid (q' + 9 ^ f ≤ 100000000) := by
        have h2 := HQ'.out
        have h3 := HQ.out
        have h4 : (k + 1) * 9 ^ f ≤ 9 * 9 ^ f := Nat.mul_le_mul_right _ hk9
        rw [Nat.add_mul, Nat.one_mul] at h4
        rw [Hid]; omega
      have hrng : L + 1 - (k : Int) = lev := hlv2.symm
      rw [hrng]
      have hlm : lev - 1 = L + 1 - ((k + 1 : Nat) : Int) := by omega
      have HLM := Lib.hid hlm
      clear hrng hlm hlv2
      go_wp2_with fail
      refine (l01Own_any ⟨gt, 0, none⟩ nt ct w.heap.size t _ HNT.out (by omega) hsz HT'.out.row).mono ?_
      rintro e w1 ⟨A1, c1, rfl, own1, bel1⟩
      have hs1 := bel1.size
      have HB1 := Lib.hid bel1
      have HO1 := Lib.hid own1
      clear bel1
      go_wp2_with (at_builtin; refine wpList_append_lies _ rfl (.tmp 34) (.tmp 36) 23 rfl wr.heap.size 2 i0 _ 1 8 Tryz.underlying23 hi hz0 hz1 hz2 rfl (by omega) (.slice A1 nt c1) nt (ints t) rfl (own1.alloc _) ⟨w1.heap.size, 0, none⟩ 1 1 [.int .i64 lev] rfl rfl (World.news_of_block (cs := #[.int .i64 lev]) (heap_alloc_new _ _)) (by simp [Value.oneCell']) (by omega) (by simp only [maxLen]; omega) (by omega) (by simp; omega) (w1.heap.size + 1) (by simp) ?_; intro g2 c2 w2 hown2 hgrow2 hat2 hlt2)
      have BW2 : Hid (Below wr.heap.size wr w2) := (HB1.out.alloc hs1 _).grown hgrow2 (by simp; omega) (fun q hq => (HO1.out.lt q hq).1)
      have hs2 : wr.heap.size ≤ w2.heap.size := BW2.out.size
      have HLN : Hid ((t ++ [lev]).length = nt + 1) := by rw [Hid, List.length_append, HNT.out]; rfl
      have HM2 : Hid (OwnMat w2 lo w2.heap.size (.slice A' q' c') q' (growTo f t m k) vs') := (HM'.out.below BW2.out (Nat.le_refl _)).more (Nat.le_refl _) hs2
      have C1 := IH (some ⟨g2, 0, none⟩) A' c2 q' c' n lo wr.heap.size (t ++ [lev]) (growTo f t m k) vs' w2 (by rw [HLN.out]; have := HFN.out; omega) hn8 HPL.out HQ2.out (by omega) (by
        have e : ints t ++ [.int .i64 lev] = ints (t ++ [lev]) := by simp [ints, intsK]
        rw [e] at hown2
        rw [HLN.out]; exact hown2) HM2.out
      rw [HLN.out, ← HS.out] at C1
      clear hown2 hgrow2 hat2 own1
      go_wp2_with fail
      refine C1.mono ?_
      rintro e w3 ⟨A3, q3, c3, vs3, rfl, hm3, hg3, hb3⟩
      have HM3 := Lib.hid hm3
      have hs3 : w2.heap.size ≤ w3.heap.size := hg3.size
      have HGR3 : Hid (w.grownBy w3 (Value.ownBlock (.slice A q c))) := grown_chain (grown_chain HGR.out (grown_any (below_grown BW2.out)) (.inl rfl)) hg3 HOB.out
      have HOB3 : Hid (Value.ownBlock (.slice A3 q3 c3) = Value.ownBlock (.slice A q c) ∨ ∃ g, Value.ownBlock (.slice A3 q3 c3) = some g ∧ w.heap.size ≤ g) := by
        rcases hb3 with hb3 | ⟨g, hb3, hg⟩
        · rw [Hid, hb3]; exact HOB.out
        · exact .inr ⟨g, hb3, by omega⟩
      have HQ3 : Hid (q3 ≤ q + (k + 1) * 9 ^ f) := by
        have h1 := HM3.out.size
        rw [HS.out] at h1
        have h2 := grow_len f (t ++ [lev]) (growTo f t m k) HPL.out (by rw [HLN.out]; have := HFN.out; omega)
        have h3 := HM'.out.size
        have h4 := HQ'.out
        rw [Hid, Nat.add_mul, Nat.one_mul]; omega
      clear hm3 hg3 hb3 C1
      go_wp2
      go_roundw
      case rel => exact ⟨k + 1, q3, c3, A3, vs3, rfl, by rw [← HLM.out], by omega, HQ3, HM3, HGR3, HOB3, by omega⟩
      case measure => simp [intOf]; omega
    · have hk2 : (k : Int) = L + 1 := by omega
      have G : Hid (Grown lo (.slice A q c) (Tr.growF (f + 1) t m) w (.returned (.slice A' q' c')) wr) := by
        rw [Hid, HG.out, show (L + 1).toNat = k from by omega]
        exact ⟨A', q', c', vs', rfl, HM'.out, HGR.out, HOB.out⟩
      have e0 : L + 1 - (k : Int) = 0 := by omega
      rw [e0]
      clear hk2 e0
      go_wp2
      go_ret
      exact G.out
theorem sGrow_all : ∀ f, SGrow f
  | 0 => sGrow_zero
  | f+1 => sGrow_succ f (sGrow_all f)
theorem l03Trees_any (n : Nat) (w : World) (h1 : 1 ≤ n) (h8 : n ≤ 8) : Calls Tryz.prog 41 #[.int .i64 n] w (NewMat (Tr.treesL n).length (Tr.treesL n) w) := by
  have own1 := World.ownsRow_lit (base := w.heap.size) (size := 1) (e := 2) w #[.int .i64 0] 1 (Nat.le_refl _) (by simp [maxLen]) rfl
  have C1 := sGrow_all (n - 1) (some ⟨w.heap.size, 0, none⟩) none 1 0 0 n w.heap.size w.heap.size [0] [] [] (w.alloc (.cells #[.int .i64 0] 2)) (by simp; omega) h8 (by decide) (by
    have : n - 1 ≤ 7 := by omega
    have h2 : 9 ^ (n - 1) ≤ 9 ^ 7 := Nat.pow_le_pow_right (by omega) this
    omega) (by simp) own1 ⟨⟨World.ownsRow_nil _ _ _ _, fun g e => by simp [Value.ownBlock] at e⟩, rfl, fun r row hr => by simp at hr, fun r s u t g _ hu => by simp at hu⟩
  rw [grow_trees h1 h8] at C1
  go_enter Tryz.func41, Tryz.ntmps41
  go_wp2_with fail
  refine C1.mono ?_
  rintro e w3 ⟨A3, q3, c3, vs3, rfl, hm3, hg3, hb3⟩
  have e1 : (Tr.treesL n).length = q3 := hm3.size
  have G : Hid (NewMat (Tr.treesL n).length (Tr.treesL n) w (.returned (.slice A3 q3 c3)) w3) := by
    rw [Hid, e1]
    refine ⟨A3, c3, vs3, rfl, hm3, ?_⟩
    exact ((Below.refl _ _).alloc (Nat.le_refl _) _).grown hg3 (by simp) (fun b hb => by simp [Value.ownBlock] at hb)
  clear hm3 hg3 hb3 C1 e1
  go_wp2
  go_ret
  exact G.out
end Go.Proofs.YtolkbbbbahhfaaaGreat
/-
  A list of lists beside a code, as calls hand it back.
-/
namespace Go.Proofs.YtolkbbbbahhfaaaGreat
open Go.RowKit Fld
set_option linter.unusedVariables false
set_option linter.unusedSimpArgs false
set_option maxRecDepth 100000

/-- a list of lists that the call owns, beside a code -/
def ResM (r : List (List Int) × Int) (w : World) (e : Ending) (w' : World) : Prop :=
  r.1.length + total r.1 ≤ 1048576 ∧ ∃ A c vs, e = .returned (.tuple #[.slice A r.1.length c, .int .i64 r.2]) ∧ OwnMat w' w.heap.size w'.heap.size (.slice A r.1.length c) r.1.length r.1 vs ∧ Below w.heap.size w w'
theorem OwnMat.nil' (w : World) (lo hi : Nat) : OwnMat w lo hi (.slice none 0 0) 0 [] [] :=
  ⟨⟨World.ownsRow_nil _ _ _ _, fun g e => by simp [Value.ownBlock] at e⟩, rfl, fun r row hr => by simp at hr, fun r s u t g _ hu => by simp at hu⟩
theorem ResM.nil {r : List (List Int) × Int} {w w' : World} {k : Int} (h : r = ([], k)) (hb : Below w.heap.size w w') : ResM r w (.returned (.tuple #[.slice none 0 0, .int .i64 k])) w' := by
  subst h
  exact ⟨by simp [total], none, 0, [], rfl, OwnMat.nil' _ _ _, hb⟩
theorem ResM.of {r : List (List Int) × Int} {w w' : World} {A : Option Addr} {n c : Nat} {m : List (List Int)} {vs : List Value} {k : Int} (h : r = (m, k)) (hn : m.length + total m ≤ 1048576)
    (ho : OwnMat w' w.heap.size w'.heap.size (.slice A n c) n m vs) (hb : Below w.heap.size w w') : ResM r w (.returned (.tuple #[.slice A n c, .int .i64 k])) w' := by
  subst h
  have e := ho.size
  subst e
  exact ⟨hn, A, c, vs, rfl, ho, hb⟩
/-- lists in memory below a bound: the model's -/
def LowMat (w : World) (hi : Nat) (A : Option Addr) (m : List (List Int)) : Prop := Mat w hi A m
theorem LowMat.below {w w' : World} {hi B : Nat} {A : Option Addr} {m : List (List Int)} (h : LowMat w hi A m) (hb : Below B w w') (hB : hi ≤ B) : LowMat w' hi A m := Mat.below h hb hB
theorem LowMat.within {w w' : World} {hi lo' hi' : Nat} {A : Option Addr} {m : List (List Int)} (h : LowMat w hi A m) (hb : Within lo' hi' w w') (hs : hi ≤ w.heap.size) (hd : hi ≤ lo') : LowMat w' hi A m :=
  Mat.keep h fun b o hbb => World.cell?_of_block (hb.block b (by omega) (by omega))
theorem LowMat.mat {w : World} {hi : Nat} {A : Option Addr} {m : List (List Int)} (h : LowMat w hi A m) : Mat w hi A m := h
theorem LowMat.drewN {w : World} {hi : Nat} {A : Option Addr} {m : List (List Int)} (h : LowMat w hi A m) (k : Nat) : LowMat (w.drewN k) hi A m := h
def ResMl (r : List (List Int) × Int) (w : World) (e : Ending) (w' : World) : Prop :=
  r.1.length + total r.1 ≤ 1048576 ∧ ∃ A c, e = .returned (.tuple #[.slice A r.1.length c, .int .i64 r.2]) ∧ LowMat w' w'.heap.size A r.1 ∧ Below w.heap.size w w'
theorem ResMl.nil {r : List (List Int) × Int} {w w' : World} {k : Int} (h : r = ([], k)) (hb : Below w.heap.size w w') : ResMl r w (.returned (.tuple #[.slice none 0 0, .int .i64 k])) w' := by
  subst h
  exact ⟨by simp [total], none, 0, rfl, fun k r hr => by simp at hr, hb⟩
theorem ResMl.of {r : List (List Int) × Int} {w w' : World} {A : Option Addr} {n c : Nat} {m : List (List Int)} {k : Int} (h : r = (m, k)) (hl : m.length = n) (hn : m.length + total m ≤ 1048576)
    (ho : Mat w' w'.heap.size A m) (hb : Below w.heap.size w w') : ResMl r w (.returned (.tuple #[.slice A n c, .int .i64 k])) w' := by
  subst h hl
  exact ⟨hn, A, c, rfl, ho, hb⟩
end Go.Proofs.YtolkbbbbahhfaaaGreat
/-
  What TreesOf answers, the program's and the model's.
-/
namespace Go.Proofs.YtolkbbbbahhfaaaGreat
open Go.RowKit Fld
set_option linter.unusedVariables false
set_option linter.unusedSimpArgs false
set_option maxRecDepth 100000

theorem total_bd {q : Nat} : ∀ {m : List (List Int)}, (∀ t ∈ m, t.length ≤ q) → total m ≤ m.length * q
  | [], _ => by simp [total]
  | x :: r, h => by
    have h1 := h x (by simp)
    have h2 := total_bd (fun t ht => h t (by simp [ht]) : ∀ t ∈ r, t.length ≤ q)
    have e : total (x :: r) = x.length + total r := by simp [total]
    rw [e, List.length_cons, Nat.add_mul, Nat.one_mul]; omega
theorem trees_total {n : Nat} (h1 : 1 ≤ n) (h8 : n ≤ 8) : (Tr.treesL n).length + total (Tr.treesL n) ≤ 1048576 := by
  obtain ⟨ha, hl⟩ := trees_all h1 h8
  have := total_bd (q := 8) (m := Tr.treesL n) (fun t ht => by rw [(ha t ht).2]; exact h8)
  omega
def treesOfA (a : Int) : List (List Int) × Int := if 1 ≤ a ∧ a ≤ 8 then (Tr.treesL a.toNat, 0) else ([], 2)
theorem treesOfA_yes {n : Nat} (h1 : 1 ≤ n) (h8 : n ≤ 8) : treesOfA (n : Int) = (Tr.treesL n, 0) := by
  unfold treesOfA; rw [if_pos (by omega)]; rfl
theorem treesOfA_no {a : Int} (h : ¬ (1 ≤ a ∧ a ≤ 8)) : treesOfA a = ([], 2) := if_neg h
end Go.Proofs.YtolkbbbbahhfaaaGreat
/-
  The list of all trees; what TreeAt answers, the program's and the model's.
-/
namespace Go.Proofs.YtolkbbbbahhfaaaGreat
open Go.RowKit Fld
set_option linter.unusedVariables false
set_option linter.unusedSimpArgs false
set_option maxRecDepth 100000

/-- rows are added behind the last one -/
theorem OwnMat.pushAll {w w2 : World} {lo hi n n' g cap c' : Nat} {v : Value} {A' : Option Addr} {m m' : List (List Int)} {vs vs' : List Value} (h : OwnMat w lo hi v n m vs) (hs : hi ≤ w.heap.size) (h' : OwnMat w hi w.heap.size (.slice A' n' c') n' m' vs') (hl : lo ≤ hi)
    (h2 : w2.ownsRow lo 23 1 (.slice (some ⟨g, 0, none⟩) (n + n') cap) (n + n') (vs ++ vs')) (hg : w.grownBy w2 v.ownBlock) : OwnMat w2 lo w2.heap.size (.slice (some ⟨g, 0, none⟩) (n + n') cap) (n + n') (m ++ m') (vs ++ vs') := by
  have hz : w.heap.size ≤ w2.heap.size := hg.size
  have carry : ∀ (lo' hi' : Nat) (A2 : Option Addr) (c2 : Nat) (r2 : List Int), OwnR w lo' hi' 2 (.slice A2 r2.length c2) r2.length (ints r2) → OwnR w2 lo' hi' 2 (.slice A2 r2.length c2) r2.length (ints r2) := fun lo' hi' A2 c2 r2 o2 => o2.grown hg (own_types o2.1 h.outer.1 (by decide))
  have side : ∀ (r : Nat) (u : Value) (g' : Nat), (vs ++ vs')[r]? = some u → u.ownBlock = some g' → (r < vs.length ∧ vs[r]? = some u ∧ g' < hi) ∨ (vs.length ≤ r ∧ vs'[r - vs.length]? = some u ∧ hi ≤ g') := by
    intro r u g' hu hb
    rcases Nat.lt_or_ge r vs.length with x | x
    · rw [List.getElem?_append_left x] at hu
      obtain ⟨A2, c2, e2, o2⟩ := h.inner r _ (List.getElem?_eq_getElem (by rw [← h.len]; exact x))
      rw [hu] at e2
      injection e2 with e2
      subst e2
      exact .inl ⟨x, hu, o2.2 g' hb⟩
    · rw [List.getElem?_append_right x] at hu
      have hx : r - vs.length < vs'.length := by
        rcases Nat.lt_or_ge (r - vs.length) vs'.length with y | y
        · exact y
        · rw [List.getElem?_eq_none y] at hu; cases hu
      obtain ⟨A2, c2, e2, o2⟩ := h'.inner _ _ (List.getElem?_eq_getElem (by rw [← h'.len]; exact hx))
      have hu0 := hu
      rw [hu] at e2
      injection e2 with e2
      subst e2
      exact .inr ⟨x, hu0, (o2.1.lt g' hb).1⟩
  refine ⟨OwnR.of h2, by simp [h.len, h'.len], ?_, ?_⟩
  · intro r row hr
    rcases Nat.lt_or_ge r m.length with x | x
    · rw [List.getElem?_append_left x] at hr
      obtain ⟨A2, c2, e2, o2⟩ := h.inner r row hr
      exact ⟨A2, c2, by rw [List.getElem?_append_left (by rw [h.len]; exact x)]; exact e2, (carry _ _ _ _ _ o2).more (Nat.le_refl _) (by omega)⟩
    · rw [List.getElem?_append_right x] at hr
      obtain ⟨A2, c2, e2, o2⟩ := h'.inner _ row hr
      exact ⟨A2, c2, by rw [List.getElem?_append_right (by rw [h.len]; exact x), h.len]; exact e2, (carry _ _ _ _ _ o2).more hl hz⟩
  · intro r s u t g' hne hu ht hb hb'
    rcases side r u g' hu hb with ⟨a1, a2, a3⟩ | ⟨a1, a2, a3⟩ <;> rcases side s t g' ht hb' with ⟨b1, b2, b3⟩ | ⟨b1, b2, b3⟩
    · exact h.apart r s u t g' hne a2 b2 hb hb'
    · omega
    · omega
    · exact h'.apart _ _ u t g' (by omega) a2 b2 hb hb'
def treesTo (k : Nat) : List (List Int) := (List.range k).flatMap fun n => Tr.treesL (n + 1)
theorem treesTo_step (k : Nat) : treesTo (k + 1) = treesTo k ++ Tr.treesL (k + 1) := by
  unfold treesTo; rw [List.range_succ, List.flatMap_append]; simp
theorem treesTo_end : treesTo 8 = Tr.allL := rfl
theorem treesTo_len : ∀ k, k ≤ 8 → (treesTo k).length ≤ k * 115
  | 0, _ => by simp [treesTo]
  | k+1, h => by
    rw [treesTo_step, List.length_append]
    have := treesTo_len k (by omega)
    have := (trees_all (n := k + 1) (by omega) (by omega)).2
    omega
theorem own_addr {w : World} {lo : Nat} {T : TypeId} {A : Option Addr} {n c : Nat} {vs : List Value} (h : w.ownsRow lo T 1 (.slice A n c) n vs) (h1 : 0 < n) : ∃ g, A = some ⟨g, 0, none⟩ := by
  obtain ⟨g, cap, hv⟩ := own_form h h1
  injection hv with hA _ _
  exact ⟨g, hA⟩
theorem vals_one {w : World} {lo hi n : Nat} {v : Value} {m : List (List Int)} {vs : List Value} (h : OwnMat w lo hi v n m vs) : ∀ u ∈ vs, u.oneCell' = true := by
  intro u hu
  obtain ⟨k, hk⟩ := List.mem_iff_getElem?.1 hu
  have hkl : k < m.length := by
    rw [← h.len]
    rcases Nat.lt_or_ge k vs.length with y | y
    · exact y
    · rw [List.getElem?_eq_none y] at hk; cases hk
  obtain ⟨A, c, e, _⟩ := h.inner k _ (List.getElem?_eq_getElem hkl)
  rw [hk] at e
  injection e with e
  subst e
  rfl
theorem trees_pos {n : Nat} (h1 : 1 ≤ n) : 1 ≤ (Tr.treesL n).length := by
  unfold Tr.treesL
  rw [show (116 : Nat) = 115 + 1 from rfl, Tr.treesF]
  simp
theorem all_split : ∀ k, k ≤ 8 → ∃ rest, Tr.allL = treesTo k ++ rest := by
  intro k hk
  refine ⟨((List.range (8 - k)).map (· + k)).flatMap fun n => Tr.treesL (n + 1), ?_⟩
  rw [← treesTo_end]
  unfold treesTo
  rw [← List.flatMap_append]
  congr 1
  have : ∀ k, k ≤ 8 → List.range 8 = List.range k ++ (List.range (8 - k)).map (· + k) := by decide
  exact this k hk
def treeAtA (a : Int) : List Int × Int := if 0 ≤ a ∧ a ≤ 199 then (Tr.allL.getD a.toNat [], 0) else ([], 2)
theorem treeAtA_no {a : Int} (h : ¬ (0 ≤ a ∧ a ≤ 199)) : treeAtA a = ([], 2) := if_neg h
theorem treeAtA_yes {a : Nat} {t : List Int} (ht : Tr.allL[a]? = some t) (h : a ≤ 199) : treeAtA (a : Int) = (t, 0) := by
  unfold treeAtA
  rw [if_pos (by omega), Int.toNat_natCast, List.getD_eq_getElem?_getD, ht]; rfl
theorem all_len {a : Nat} {t : List Int} (ht : Tr.allL[a]? = some t) : t.length ≤ 8 := by
  have hm := List.mem_of_getElem? ht
  rw [← treesTo_end] at hm
  unfold treesTo at hm
  rw [List.mem_flatMap] at hm
  obtain ⟨n, hn, h⟩ := hm
  rw [List.mem_range] at hn
  rw [((trees_all (n := n + 1) (by omega) (by omega)).1 t h).2]; omega
end Go.Proofs.YtolkbbbbahhfaaaGreat
/-
  Maps of trees, plainly: which lists are maps, the numbers of nodes at their places, and what is made of them.
-/
namespace Go.Proofs.YtolkbbbbahhfaaaGreat
open Go.RowKit Fld
set_option linter.unusedVariables false
set_option linter.unusedSimpArgs false
set_option maxRecDepth 100000

/-- the numbers of nodes of the trees at the places of a map -/
def lens : List Nat := [0, 1, 2, 3, 3, 4, 4, 4, 4, 5, 5, 5, 5, 5, 5, 5, 5, 5, 6, 6, 6, 6, 6, 6, 6, 6, 6, 6, 6, 6, 6, 6, 6, 6, 6, 6, 6, 6]
theorem lens_len : lens.length = 38 := rfl
theorem lens_bd : ∀ l ∈ lens, l ≤ 6 := by decide
theorem lens_to : lens = 0 :: (treesTo 6).map List.length := by decide +kernel
theorem to_len : (treesTo 6).length = 37 := by
  have := congrArg List.length lens_to
  rw [List.length_cons, List.length_map, lens_len] at this; omega
theorem lens_at {k : Nat} (h : k < 38) : ∃ l, lens[k]? = some l ∧ l ≤ 6 := by
  have h2 : k < lens.length := by rw [lens_len]; exact h
  exact ⟨lens[k], List.getElem?_eq_getElem h2, lens_bd _ (List.getElem_mem h2)⟩
theorem to_at {k : Nat} {t : List Int} (h : (treesTo 6)[k]? = some t) : lens[k + 1]? = some t.length := by
  rw [lens_to, List.getElem?_cons_succ, List.getElem?_map, h]; rfl
/-- the texts of the trees at the places of a map -/
def mapTx : List (List UInt8) := [] :: (treesTo 6).map Tr.txt
theorem mapTx_len : mapTx.length = 38 := by unfold mapTx; rw [List.length_cons, List.length_map, to_len]
theorem mapTx_lens : mapTx.map List.length = lens.map (2 * ·) := by decide +kernel
theorem mapTx_at {k l : Nat} (h : lens[k]? = some l) : ∃ x, mapTx[k]? = some x ∧ x.length = 2 * l := by
  have e : (mapTx.map List.length)[k]? = some (2 * l) := by rw [mapTx_lens, List.getElem?_map, h]; rfl
  rw [List.getElem?_map] at e
  cases hx : mapTx[k]? with
  | none => rw [hx] at e; cases e
  | some x => rw [hx] at e; exact ⟨x, rfl, by simpa using e⟩
/-- up to which number of nodes two maps agree -/
def agrL : List Int → List Int → List Nat → Int
  | x :: xs, y :: ys, l :: ls => if x = y then agrL xs ys ls else (l : Int) - 1
  | _, _, _ => 6
def agrA (a b : List Int) : Int := agrL a b lens
theorem drop_at {α : Type} {L : List α} {k : Nat} {x : α} (h : L[k]? = some x) : L.drop k = x :: L.drop (k + 1) := by
  have hlt : k < L.length := by
    rcases Nat.lt_or_ge k L.length with g | g
    · exact g
    · rw [List.getElem?_eq_none g] at h; cases h
  rw [List.getElem?_eq_getElem hlt] at h
  injection h with h
  rw [List.drop_eq_getElem_cons hlt, h]
theorem agr_next {a b : List Int} {k : Nat} {x y : Int} {l : Nat} (hx : a[k]? = some x) (hy : b[k]? = some y) (hl : lens[k]? = some l) (e : x = y) : agrL (a.drop k) (b.drop k) (lens.drop k) = agrL (a.drop (k + 1)) (b.drop (k + 1)) (lens.drop (k + 1)) := by
  rw [drop_at hx, drop_at hy, drop_at hl, agrL, if_pos e]
theorem agr_stop {a b : List Int} {k : Nat} {x y : Int} {l : Nat} (hx : a[k]? = some x) (hy : b[k]? = some y) (hl : lens[k]? = some l) (e : x ≠ y) : agrL (a.drop k) (b.drop k) (lens.drop k) = (l : Int) - 1 := by
  rw [drop_at hx, drop_at hy, drop_at hl, agrL, if_neg e]
theorem agr_end {a b : List Int} : agrL (a.drop 38) (b.drop 38) (lens.drop 38) = 6 := by
  have e : lens.drop 38 = [] := rfl
  rw [e]
  cases a.drop 38 <;> cases b.drop 38 <;> rfl
theorem agr_start (a b : List Int) : agrA a b = agrL (a.drop 0) (b.drop 0) (lens.drop 0) := rfl
/-- a map with 0 at all trees with more than n nodes -/
def truncL (a : List Int) (n : Int) : List Int := List.zipWith (fun x (l : Nat) => if n < (l : Int) then 0 else x) a lens
theorem truncL_length {a : List Int} (h : a.length = 38) (n : Int) : (truncL a n).length = 38 := by unfold truncL; rw [List.length_zipWith, h, lens_len, Nat.min_self]
theorem truncL_at {a : List Int} {n : Int} {k l : Nat} {x : Int} (hx : a[k]? = some x) (hl : lens[k]? = some l) : (truncL a n)[k]? = some (if n < (l : Int) then 0 else x) := by
  unfold truncL; rw [List.getElem?_zipWith, hx, hl]
def scaleL (a : List Int) (y : Int) : List Int := List.zipWith (fun x l => x * pw y l % 10007) a lens
theorem scaleL_length {a : List Int} (h : a.length = 38) (y : Int) : (scaleL a y).length = 38 := by unfold scaleL; rw [List.length_zipWith, h, lens_len, Nat.min_self]
theorem scaleL_at {a : List Int} {y : Int} {k l : Nat} {x : Int} (hx : a[k]? = some x) (hl : lens[k]? = some l) : (scaleL a y)[k]? = some (x * pw y l % 10007) := by
  unfold scaleL; rw [List.getElem?_zipWith, hx, hl]
/-- the answers -/
def agreeA (a b : List Int) : Int × Int := if isMp a = true ∧ isMp b = true then (agrA a b, 0) else (0, 1)
theorem agreeA_no1 {a b : List Int} (h : isMp a = false) : agreeA a b = (0, 1) := if_neg (by rw [h]; simp)
theorem agreeA_no2 {a b : List Int} (h : isMp b = false) : agreeA a b = (0, 1) := if_neg (by rw [h]; simp)
theorem agreeA_yes {a b : List Int} (h : isMp a = true) (k : isMp b = true) : agreeA a b = (agrA a b, 0) := if_pos ⟨h, k⟩
def truncA (a : List Int) (y : Int) : List Int × Int := if isMp a = true then (if 0 ≤ y ∧ y ≤ 6 then (truncL a y, 0) else ([], 2)) else ([], 1)
theorem truncA_no {a : List Int} {y : Int} (h : isMp a = false) : truncA a y = ([], 1) := if_neg (by rw [h]; simp)
theorem truncA_out {a : List Int} {y : Int} (h : isMp a = true) (hy : ¬ (0 ≤ y ∧ y ≤ 6)) : truncA a y = ([], 2) := by unfold truncA; rw [if_pos h, if_neg hy]
theorem truncA_yes {a : List Int} {y : Int} (h : isMp a = true) (hy : 0 ≤ y ∧ y ≤ 6) : truncA a y = (truncL a y, 0) := by unfold truncA; rw [if_pos h, if_pos hy]
def scaleMA (a : List Int) (y : Int) : List Int × Int := if isMp a = true then (if 0 ≤ y ∧ y < 10007 then (scaleL a y, 0) else ([], 2)) else ([], 1)
theorem scaleMA_no {a : List Int} {y : Int} (h : isMp a = false) : scaleMA a y = ([], 1) := if_neg (by rw [h]; simp)
theorem scaleMA_out {a : List Int} {y : Int} (h : isMp a = true) (hy : ¬ (0 ≤ y ∧ y < 10007)) : scaleMA a y = ([], 2) := by unfold scaleMA; rw [if_pos h, if_neg hy]
theorem scaleMA_yes {a : List Int} {y : Int} (h : isMp a = true) (hy : 0 ≤ y ∧ y < 10007) : scaleMA a y = (scaleL a y, 0) := by unfold scaleMA; rw [if_pos h, if_pos hy]
end Go.Proofs.YtolkbbbbahhfaaaGreat
/-
  Texts filled in one after another.
-/
namespace Go.Proofs.YtolkbbbbahhfaaaGreat
open Go.RowKit Fld
set_option linter.unusedVariables false
set_option linter.unusedSimpArgs false
set_option maxRecDepth 100000

/-- texts filled in one after another -/
def FillT (w : World) (n : Nat) (ss : List (List UInt8)) (k : Nat) (wr : World) : Prop :=
  wr.ownsRow w.heap.size 80 1 (.slice (some ⟨w.heap.size, 0, none⟩) n n) n ((strs ss).take k ++ List.replicate (n - k) (.string ⟨#[]⟩)) ∧ Below w.heap.size w wr
theorem FillT.below {w wr w2 : World} {n k : Nat} {ss : List (List UInt8)} (h : FillT w n ss k wr) (hb : Below wr.heap.size wr w2) : FillT w n ss k w2 :=
  ⟨((OwnR.of h.1).below hb (Nat.le_refl _)).1, h.2.trans (hb.mono h.2.size)⟩
theorem FillT.step {w wr : World} {n k : Nat} {ss : List (List UInt8)} {s : List UInt8} (h : FillT w n ss k wr) (hl : ss.length = n) (hs : ss[k]? = some s) : FillT w n ss (k + 1) (wr.setCell ⟨w.heap.size, k, none⟩ (.string ⟨s.toArray⟩)) := by
  obtain ⟨h1, h2⟩ := h
  refine ⟨?_, below_set h2 (Nat.le_refl _) _⟩
  have := (h1.stored k (.string ⟨s.toArray⟩)).1
  rw [fill_step (by rw [strs_length]; exact hl) (strs_at hs)] at this
  exact this
theorem FillT.start {w w1 : World} {n : Nat} {ss : List (List UInt8)} (h : w1.ownsRow w.heap.size 80 1 (.slice (some ⟨w.heap.size, 0, none⟩) n n) n (madeCells (Value.string ⟨#[]⟩).cells (n * 1)).toList) (hg : w.grownBy w1 none) : FillT w n ss 0 w1 := by
  refine ⟨?_, (Below.refl _ _).grown hg (Nat.le_refl _) (fun k hk => by cases hk)⟩
  have e : (madeCells (Value.string ⟨#[]⟩).cells (n * 1)).toList = (strs ss).take 0 ++ List.replicate (n - 0) (.string ⟨#[]⟩) := by
    rw [← fill_start, Nat.mul_one]; exact toList_madeCells_one _ _
  rw [e] at h
  exact h
end Go.Proofs.YtolkbbbbahhfaaaGreat
/-
  The texts of the trees of a list of level lists: the walk.
-/
namespace Go.Proofs.YtolkbbbbahhfaaaGreat
open Go.RowKit Fld
set_option linter.unusedVariables false
set_option linter.unusedSimpArgs false
set_option maxRecDepth 100000

set_option maxHeartbeats 1000000 in
theorem treesOf_any (A : Option Addr) (n c B : Nat) (f : List (List Int)) (w : World) (hl : f.length = n) (hn : n ≤ 1048576) (hr : ∀ r ∈ f, Tr.isLv r = true) (hB : B ≤ w.heap.size) (h : Mat w B A f) :
    Calls Tryz.prog 55 #[.slice A n c] w fun e w' => e = .returned (.slice (some ⟨w.heap.size, 0, none⟩) n n) ∧ w'.ownsRow w.heap.size 80 1 (.slice (some ⟨w.heap.size, 0, none⟩) n n) n (strs (f.map Tr.txt)) ∧ Below w.heap.size w w' := by
  obtain ⟨i0, hi, hz0, hz1, hz2⟩ := info_parts info_tree
  have HL := Lib.hid hl
  have HR := Lib.hid hr
  have HSL : Hid ((f.map Tr.txt).length = n) := by rw [Hid, List.length_map]; exact hl
  clear hl hr
  go_enter Tryz.func55, Tryz.ntmps55
  go_wp2_with (at_make; refine wpList_make_full _ rfl (.tmp 7) (.tmp 7) 76 rfl w.heap.size 80 i0 _ 1 Tryz.underlying76 hi hz0 hz1 .i64 .i64 _ _ n rfl rfl rfl rfl (by rw [hz2]; omega) (by simp only [maxLen]; omega) (Nat.le_refl _) ?_; intro w1 hown hg)
  have F0 := FillT.start (ss := f.map Tr.txt) hown hg
  clear hown hg hz0 hz1 hz2 hi
  go_wp2_with fail
  go_loopw [11] (fun i wr => ∃ k : Nat, k ≤ n ∧ i = .int .i64 k ∧ FillT w n (f.map Tr.txt) k wr) (fun i _ => n - (intOf i).toNat)
  case atStart => exact ⟨0, Nat.zero_le _, rfl, F0⟩
  case round =>
    obtain ⟨k, hk, rfl, HF⟩ := hrel
    by_cases hlt : k < n
    · obtain ⟨r, hr⟩ := at_lt (show k < f.length by rw [HL.out]; exact hlt)
      obtain ⟨b, o, Ak, ck, rfl, hb, hc, hrc, hcm, hrow⟩ := (h.below HF.2 hB) k r hr
      obtain ⟨r1, r8⟩ := lv_bd (HR.out r (List.mem_of_getElem? hr))
      have hsz := HF.2.size
      have hst : (f.map Tr.txt)[k]? = some (Tr.txt r) := by rw [List.getElem?_map, hr]; rfl
      have HST := Lib.hid hst
      have HFF := Lib.hid HF
      clear hr hst F0 HF
      go_wp2_with fail
      refine (treeOf_any Ak r.length ck B r wr rfl r1 r8 hrc (by omega) hrow).mono ?_
      rintro e w2 ⟨rfl, bel2⟩
      have HF2 := HFF.out.below bel2
      have hf := HF2.1.frozenAt k
      have ho := HF2.1.cellAt k (by omega)
      rw [fill_at (by rw [strs_length]; exact HSL.out) hlt] at ho
      have G := Lib.hid (HF2.step HSL.out HST.out)
      obtain ⟨X, hX⟩ : ∃ X : ByteArray, X = ⟨(Tr.txt r).toArray⟩ := ⟨_, rfl⟩
      rw [← hX] at G ⊢
      clear bel2 HF2 hc hrow hX
      go_wp2
      go_roundw
      case rel => exact ⟨k + 1, by omega, by go_num, G.out⟩
      case measure => simp [intOf]; omega
    · obtain rfl : k = n := by omega
      have G : Hid (wr.ownsRow w.heap.size 80 1 (.slice (some ⟨w.heap.size, 0, none⟩) k k) k (strs (f.map Tr.txt)) ∧ Below w.heap.size w wr) := by
        obtain ⟨h1, h2⟩ := HF
        rw [fill_end _ (by rw [strs_length]; exact HSL.out)] at h1
        exact ⟨h1, h2⟩
      clear HF F0
      go_wp2
      go_ret
      exact ⟨rfl, G.out⟩
end Go.Proofs.YtolkbbbbahhfaaaGreat
/-
  The model's list of all trees with so many nodes and fewer.
-/
namespace Go.Proofs.YtolkbbbbahhfaaaGreat
open Go.RowKit Fld
set_option linter.unusedVariables false
set_option linter.unusedSimpArgs false
set_option maxRecDepth 100000

set_option maxHeartbeats 1000000 in
theorem l03All_any (n : Nat) (w : World) (h1 : 1 ≤ n) (h8 : n ≤ 8) : Calls Tryz.prog 64 #[.int .i64 n] w (NewMat (treesTo n).length (treesTo n) w) := by
  obtain ⟨j0, hj, hy0, hy1, hy2⟩ := info_parts info_row
  go_enter Tryz.func64, Tryz.ntmps64
  go_wp2_with fail
  go_loopw [3, 4] (fun v i wr => ∃ (k q g cap : Nat) (vs : List Value), k ≤ n ∧ v = .slice (some ⟨g, 0, none⟩) q cap ∧ i = .int .i64 ((k : Int) + 1) ∧ Hid (OwnMat wr w.heap.size wr.heap.size (.slice (some ⟨g, 0, none⟩) q cap) q (treesTo k) vs) ∧ Below w.heap.size w wr ∧ w.heap.size ≤ wr.heap.size) (fun _ i _ => 9 - (intOf i).toNat)
  case atStart => exact ⟨0, 0, w.heap.size, 0, [], Nat.zero_le _, rfl, rfl, by rw [Hid]; have := OwnMat.empty w; simpa [treesTo] using this, (Below.refl _ _).alloc (Nat.le_refl _) _, by simp⟩
  case round =>
    obtain ⟨k, q, g, cap, vs, hk, rfl, rfl, HM, HB, hsz⟩ := hrel
    by_cases hlt : k < n
    · have hq : q ≤ 920 := by
        have h1 := HM.out.size
        have h2 := treesTo_len k (by omega)
        omega
      have HBB := Lib.hid HB
      have C1 := l03Trees_any (k + 1) wr (by omega) (by omega)
      have h115 := (trees_all (n := k + 1) (by omega) (by omega)).2
      have hpos := trees_pos (n := k + 1) (by omega)
      obtain ⟨T, hT⟩ : ∃ T, T = Tr.treesL (k + 1) := ⟨_, rfl⟩
      have HS : Hid (treesTo (k + 1) = treesTo k ++ T) := by rw [Hid, hT]; exact treesTo_step k
      rw [← hT] at C1 h115 hpos
      obtain ⟨N, hN⟩ : ∃ N, N = T.length := ⟨_, rfl⟩
      rw [← hN] at C1 h115 hpos
      clear HB hT hN
      go_wp2_with fail
      refine C1.mono ?_
      rintro e w2 ⟨A2, c2, vs2, rfl, own2, bel2⟩
      have hs2 := bel2.size
      have HM2 := Lib.hid (HM.out.below bel2 (Nat.le_refl _))
      have HO2 := Lib.hid own2
      have HB2 := Lib.hid (HBB.out.trans (bel2.mono hsz))
      have hownO := HM2.out.outer.1
      obtain ⟨g2, rfl⟩ := own_addr own2.outer.1 (by omega)
      have HLEN : Hid (vs2.length = N * 1) := by rw [Hid, HO2.out.len, HO2.out.size, Nat.mul_one]
      have HNEW : Hid (∀ j u, vs2[j]? = some u → w2.cell? ((⟨g2, 0, none⟩ : Addr).add j) = some u) := (row_of_own HO2.out.outer.1).news
      have HONE := Lib.hid (vals_one HO2.out)
      clear own2 bel2 C1
      go_wp2_with (at_builtin; refine wpList_append_lies _ rfl (.tmp 11) (.tmp 13) 22 rfl w.heap.size 23 j0 _ 1 24 Tryz.underlying22 hj hy0 hy1 hy2 rfl (by omega) (.slice (some ⟨g, 0, none⟩) q cap) q vs rfl hownO ⟨g2, 0, none⟩ N c2 vs2 rfl HLEN.out HNEW.out HONE.out (by omega) (by simp only [maxLen]; omega) (by omega) (by omega) w2.heap.size rfl ?_; intro g5 cap5 w5 hown5 hgrow5 hat5 hlt5)
      have GM : Hid (OwnMat w5 w.heap.size w5.heap.size (.slice (some ⟨g5, 0, none⟩) (q + N) cap5) (q + N) (treesTo (k + 1)) (vs ++ vs2)) := by
        rw [Hid, HS.out]
        exact HM2.out.pushAll hs2 HO2.out hsz hown5 hgrow5
      have GB : Hid (Below w.heap.size w w5) := HB2.out.grown hgrow5 (by omega) (fun z hz => (hownO.lt z hz).1)
      have hs5 : w2.heap.size ≤ w5.heap.size := hgrow5.size
      clear hown5 hgrow5 hat5 hownO
      go_wp2
      go_roundw
      case rel => exact ⟨k + 1, q + N, g5, cap5, _, by omega, rfl, by go_num, GM, GB.out, by omega⟩
      case measure => simp [intOf]; omega
    · obtain rfl : k = n := by omega
      have e : (treesTo k).length = q := HM.out.size
      have G : Hid (NewMat (treesTo k).length (treesTo k) w (.returned (.slice (some ⟨g, 0, none⟩) q cap)) wr) := by
        rw [Hid, e]; exact ⟨_, _, vs, rfl, HM.out, HB⟩
      clear HB e
      go_wp2
      go_ret
      exact G.out
end Go.Proofs.YtolkbbbbahhfaaaGreat
/-
  The trees at the places of maps: the program's texts and the model's lists.
-/
namespace Go.Proofs.YtolkbbbbahhfaaaGreat
open Go.RowKit Fld
set_option linter.unusedVariables false
set_option linter.unusedSimpArgs false
set_option maxRecDepth 100000

def mapTo (k : Nat) : List (List UInt8) := [] :: (treesTo k).map Tr.txt
theorem mapTo_step (k : Nat) : mapTo (k + 1) = mapTo k ++ (Tr.treesL (k + 1)).map Tr.txt := by
  unfold mapTo; rw [treesTo_step, List.map_append, List.cons_append]
theorem mapTo_len (k : Nat) : (mapTo k).length = 1 + (treesTo k).length := by unfold mapTo; rw [List.length_cons, List.length_map]; omega
theorem strs_app9 (a b : List (List UInt8)) : strs a ++ strs b = strs (a ++ b) := by simp [strs]
theorem strs_one9 (l : List (List UInt8)) : ∀ u ∈ strs l, u.oneCell' = true := fun u hu => by
  unfold strs at hu
  rw [List.mem_map] at hu
  obtain ⟨x, _, rfl⟩ := hu
  rfl
set_option maxHeartbeats 2000000 in
theorem mapTrees_any (w : World) : Calls Tryz.prog 68 #[] w (NewRow 80 38 (strs mapTx) w) := by
  obtain ⟨i0, hi, hz0, hz1, hz2⟩ := info_parts info_tree
  go_enter Tryz.func68, Tryz.ntmps68
  go_wp2_with fail
  go_loopw [1, 2] (fun v i wr => ∃ (k q g cap : Nat), k ≤ 6 ∧ v = .slice (some ⟨g, 0, none⟩) q cap ∧ i = .int .i64 ((k : Int) + 1) ∧ Hid (q = (mapTo k).length) ∧ Hid (wr.ownsRow w.heap.size 80 1 (.slice (some ⟨g, 0, none⟩) q cap) q (strs (mapTo k))) ∧ Below w.heap.size w wr ∧ w.heap.size ≤ wr.heap.size) (fun _ i _ => 7 - (intOf i).toNat)
  case atStart => exact ⟨0, 1, w.heap.size, 1, Nat.zero_le _, rfl, rfl, rfl, World.ownsRow_lit (base := w.heap.size) (size := 1) (e := 80) w #[.string ⟨#[]⟩] 1 (Nat.le_refl _) (by simp [maxLen]) rfl, (Below.refl _ _).alloc (Nat.le_refl _) _, by simp⟩
  case round =>
    obtain ⟨k, q, g, cap, hk, rfl, rfl, HQ, HO, HB, hsz⟩ := hrel
    by_cases hlt : k < 6
    · have hq : q ≤ 921 := by
        have h1 := HQ.out
        have h2 := treesTo_len k (by omega)
        rw [mapTo_len] at h1
        omega
      have HBB := Lib.hid HB
      have C1 := treesWith_any (k + 1) wr (by omega) (by omega)
      obtain ⟨ha, h115⟩ := trees_all (n := k + 1) (by omega) (by omega)
      obtain ⟨T, hT⟩ : ∃ T, T = Tr.treesL (k + 1) := ⟨_, rfl⟩
      have HS : Hid (mapTo (k + 1) = mapTo k ++ T.map Tr.txt) := by rw [Hid, hT]; exact mapTo_step k
      rw [← hT] at C1 h115 ha
      have HLV : Hid (∀ r ∈ T, Tr.isLv r = true) := fun r hr => (ha r hr).1
      obtain ⟨N, hN⟩ : ∃ N, N = T.length := ⟨_, rfl⟩
      rw [← hN] at C1 h115
      have HN : Hid (T.length = N) := hN.symm
      have HSL : Hid ((strs (T.map Tr.txt)).length = N * 1) := by rw [Hid, strs_length, List.length_map, Nat.mul_one]; exact hN.symm
      have HQ2 : Hid (q + N = (mapTo (k + 1)).length) := by rw [Hid, HS.out, List.length_append, List.length_map, ← HQ.out, hN]
      clear HB hT hN ha HQ
      go_wp2_with fail
      refine C1.mono ?_
      rintro e w2 ⟨A2, c2, vs2, rfl, own2, bel2⟩
      have hs2 := bel2.size
      have HO2 : Hid (w2.ownsRow w.heap.size 80 1 (.slice (some ⟨g, 0, none⟩) q cap) q (strs (mapTo k))) := ((OwnR.of HO.out).below bel2 (Nat.le_refl _)).1
      have HM2 : Hid (Mat w2 w2.heap.size A2 T) := own2.mat
      have HB2 := Lib.hid (HBB.out.trans (bel2.mono hsz))
      clear own2 bel2 C1 HO
      go_wp2_with fail
      refine (treesOf_any A2 N c2 w2.heap.size T _ HN.out (by omega) HLV.out (Nat.le_refl _) HM2.out).mono ?_
      rintro e w3 ⟨rfl, own3, bel3⟩
      have hs3 := bel3.size
      have hown : w3.ownsRow w.heap.size 80 1 (.slice (some ⟨g, 0, none⟩) q cap) q (strs (mapTo k)) := ((OwnR.of HO2.out).below bel3 (Nat.le_refl _)).1
      have HB3 := Lib.hid (HB2.out.trans (bel3.mono (by omega)))
      have HNEW : Hid (∀ j u, (strs (T.map Tr.txt))[j]? = some u → w3.cell? ((⟨w2.heap.size, 0, none⟩ : Addr).add j) = some u) := row_news (row_of_own own3)
      have HONE := Lib.hid (strs_one9 (T.map Tr.txt))
      obtain ⟨vs, hvs⟩ : ∃ vs, vs = strs (T.map Tr.txt) := ⟨_, rfl⟩
      have HVS := Lib.hid hvs
      rw [← hvs] at HNEW HONE HSL
      clear own3 bel3 HO2 HM2 HB2 hvs
      go_wp2_with (at_builtin; refine wpList_append_own _ rfl (.tmp 8) (.tmp 11) 76 rfl w.heap.size 80 i0 _ 1 16 Tryz.underlying76 hi hz0 hz1 hz2 rfl (by omega) (.slice (some ⟨g, 0, none⟩) q cap) q (strs (mapTo k)) rfl hown ⟨w2.heap.size, 0, none⟩ N N vs rfl HSL.out HNEW.out HONE.out (by simp only [maxLen]; omega) (by omega) (by omega) ?_; intro v5 w5 own5 hgrow5 _; obtain ⟨g5, c5, rfl⟩ := own_form own5 (by have := HQ2.out; have := mapTo_len (k + 1); omega))
      have e1 : strs (mapTo k) ++ vs = strs (mapTo (k + 1)) := by rw [HVS.out, strs_app9, HS.out]
      rw [e1] at own5
      have GO := Lib.hid own5
      have GB : Hid (Below w.heap.size w w5) := HB3.out.grown hgrow5 (by omega) (fun z hz => (hown.lt z hz).1)
      have hs5 : w.heap.size ≤ w5.heap.size := by have := hgrow5.size; omega
      clear own5 hgrow5 hown e1
      go_wp2
      go_roundw
      case rel => exact ⟨k + 1, q + N, g5, c5, by omega, rfl, by go_num, HQ2, GO, GB.out, hs5⟩
      case measure => simp [intOf]; omega
    · obtain rfl : k = 6 := by omega
      have e : q = 38 := by have := HQ.out; rw [mapTo_len, to_len] at this; exact this
      subst e
      have G : Hid (NewRow 80 38 (strs mapTx) w (.returned (.slice (some ⟨g, 0, none⟩) 38 cap)) wr) := ⟨_, _, rfl, HO.out, HB⟩
      clear HB HQ
      go_wp2
      go_ret
      exact G.out
theorem strs_cell {w : World} {B b : Nat} {l : List (List UInt8)} (h : Row w B (some ⟨b, 0, none⟩) (strs l)) : ∀ k t, l[k]? = some t → w.cell? ⟨b, k, none⟩ = some (.string ⟨t.toArray⟩) := fun k t ht => by
  obtain ⟨b', o', e, _, hc⟩ := h k _ (strs_at ht)
  injection e with e
  injection e with e1 e2 _
  subst e1 e2
  rw [Nat.zero_add] at hc
  exact hc
end Go.Proofs.YtolkbbbbahhfaaaGreat
/-
  The character of a tableau, the program's and the model's.
-/
namespace Go.Proofs.YtolkbbbbahhfaaaGreat
open Go.RowKit Fld
set_option linter.unusedVariables false
set_option linter.unusedSimpArgs false
set_option maxRecDepth 100000

def charL (m : List (List Int)) (b : List Int) (n : Nat) : List Int := 1 :: (treesTo 6).map fun t => wtT m b n (Tr.txt t)
theorem charL_length (m : List (List Int)) (b : List Int) (n : Nat) : (charL m b n).length = 38 := by unfold charL; rw [List.length_cons, List.length_map, to_len]
theorem charL_at {m : List (List Int)} {b : List Int} {n k : Nat} {t : List Int} (h : (treesTo 6)[k]? = some t) : (charL m b n)[k + 1]? = some (wtT m b n (Tr.txt t)) := by
  unfold charL; rw [List.getElem?_cons_succ, List.getElem?_map, h]; rfl
theorem charTx_tree {k : Nat} {t : List Int} (h : (treesTo 6)[k]? = some t) : mapTx[k + 1]? = some (Tr.txt t) := by
  unfold mapTx; rw [List.getElem?_cons_succ, List.getElem?_map, h]; rfl
theorem charTo_lv {k : Nat} {t : List Int} (h : (treesTo 6)[k]? = some t) : Tr.isLv t = true := by
  have hm := List.mem_of_getElem? h
  unfold treesTo at hm
  rw [List.mem_flatMap] at hm
  obtain ⟨n, hn, ht⟩ := hm
  rw [List.mem_range] at hn
  exact ((trees_all (n := n + 1) (by omega) (by omega)).1 t ht).1
theorem char_mix (m : List (List Int)) (b : List Int) (n : Nat) : unitL = (charL m b n).take (0 + 1) ++ unitL.drop (0 + 1) := rfl
theorem charU_at {k : Nat} (h : k < 37) : unitL[k + 1]? = some 0 := by
  unfold unitL; rw [List.getElem?_cons_succ, List.getElem?_replicate, if_pos h]
theorem charU_len : unitL.length = 38 := by decide
set_option maxHeartbeats 2000000 in
theorem character_any (A D : Option Addr) (n c d B B' : Nat) (m : List (List Int)) (b : List Int) (w : World) (hl : m.length = n) (hl' : b.length = n) (hn1 : 1 ≤ n) (hn : n ≤ 8) (hq : Wide m n) (hnum : ∀ r ∈ m, allNum r = true) (hnb : allNum b = true) (hB : B ≤ w.heap.size) (hB' : B' ≤ w.heap.size) (h : Mat w B A m) (r : Row w B' D (ints b)) :
    Calls Tryz.prog 37 #[.agg #[.slice A n c, .slice D n d]] w fun e w' => e = .returned (.agg (arrM (charL m b n))) ∧ Below w.heap.size w w' := by
  have EL := Lib.hid (charL_length m b n)
  have UL := Lib.hid charU_len
  have HL := Lib.hid hl
  have HL' := Lib.hid hl'
  have HQ := Lib.hid hq
  have HN := Lib.hid hnum
  have HNB := Lib.hid hnb
  have FF := arrM_two (w.alloc (.cells #[.slice A n c, .slice D n d] 61)) zero38 zero38
  have hzb : (w.alloc (.cells #[.slice A n c, .slice D n d] 61)).heap.size = w.heap.size + 1 := by simp
  rw [hzb] at FF
  have HBb : Hid (Below w.heap.size w (w.alloc (.cells #[.slice A n c, .slice D n d] 61))) := (Below.refl _ _).alloc (Nat.le_refl _) _
  obtain ⟨W0, hW0⟩ : ∃ W0, W0 = (((w.alloc (.cells #[.slice A n c, .slice D n d] 61)).alloc (.cells (arrM zero38) 56)).alloc (.cells (arrM zero38) 56)).setRow (w.heap.size + 1 + 1) (arrM unitL) := ⟨_, rfl⟩
  have hs3 : (((w.alloc (.cells #[.slice A n c, .slice D n d] 61)).alloc (.cells (arrM zero38) 56)).alloc (.cells (arrM zero38) 56)).heap.size = w.heap.size + 3 := by simp
  have hs0 : W0.heap.size = w.heap.size + 3 := by rw [hW0]; simp [World.setRow]
  have FX : Hid (ArrM W0 (w.heap.size + 1 + 1) unitL) := by rw [hW0]; exact setRow_heap _ _ _ _ _ _ FF.2.1
  have FZ : Hid (ArrM W0 (w.heap.size + 1) zero38) := by rw [hW0]; exact (setRow_other _ _ _ _ (by omega)).trans FF.1
  have FBX : Hid (Bx W0 w.heap.size 61 (.slice A n c) (.slice D n d)) := by
    have h0 := Bx.new w 61 (.slice A n c) (.slice D n d)
    rw [hW0]; unfold Hid Bx
    rw [setRow_other _ _ _ _ (by omega)]
    exact (h0.below FF.2.2 (by omega))
  have FB : Hid (Below w.heap.size w W0) := by
    rw [hW0]; exact below_setRow (HBb.out.trans (FF.2.2.mono (by omega))) (by omega) _
  have HM : Hid (Mat W0 B A m) := h.below FB.out hB
  have HR : Hid (Row W0 B' D (ints b)) := r.below FB.out hB'
  have F2 := FF.2.1
  clear hl hl' hq hnum hnb h r FF HBb hzb hs3
  go_enter Tryz.func37, Tryz.ntmps37
  go_wp2_with (refine wpList_store_row rfl 56 (.tmp 3) (.tmp 6) rfl (w.heap.size + 1 + 1) (arrM unitL) rfl rfl 56 (arrM zero38) F2 (by rw [arrM_size UL.out]; exact info_arrM) (by rw [arrM_size UL.out]; rfl) (arrM_cells _) ?_)
  change Calls _ _ _ ((((w.alloc (.cells #[.slice A n c, .slice D n d] 61)).alloc (.cells (arrM zero38) 56)).alloc (.cells (arrM zero38) 56)).setRow (w.heap.size + 1 + 1) (arrM unitL)) _
  rw [← hW0]
  clear hW0 F2
  refine (mapTrees_any W0).mono ?_
  rintro e w2 ⟨A2, c2, rfl, own2, bel2⟩
  have FX2 : Hid (ArrM w2 (w.heap.size + 1 + 1) ((charL m b n).take (0 + 1) ++ unitL.drop (0 + 1))) := by rw [← char_mix]; exact FX.out.below bel2 (by omega)
  have FZ2 : Hid (ArrM w2 (w.heap.size + 1) zero38) := FZ.out.below bel2 (by omega)
  have FBX2 : Hid (Bx w2 w.heap.size 61 (.slice A n c) (.slice D n d)) := FBX.out.next bel2
  have FB2 : Hid (Below w.heap.size w w2) := FB.out.trans (bel2.mono (by omega))
  have FM2 : Hid (Mat w2 B A m) := HM.out.below bel2 (by omega)
  have FR2 : Hid (Row w2 B' D (ints b)) := HR.out.below bel2 (by omega)
  obtain ⟨g2, rfl⟩ := own_addr own2 (by omega)
  have hg2 : w.heap.size + 3 ≤ g2 := by have := (own2.lt g2 rfl).1; omega
  have FT := Lib.hid (strs_cell (row_of_own own2))
  have hcap := (own_cap own2).1
  have hc1 : ¬ c2 = 1 := by omega
  have hz2 := bel2.size
  clear own2 bel2 FX FZ FBX FB HM HR
  go_wp2_with fail
  go_loopw [10] (fun i wr => ∃ k : Nat, k ≤ 37 ∧ i = .int .i64 k ∧ Hid (ArrM wr (w.heap.size + 1 + 1) ((charL m b n).take (k + 1) ++ unitL.drop (k + 1))) ∧ Hid (ArrM wr (w.heap.size + 1) zero38) ∧ Hid (Bx wr w.heap.size 61 (.slice A n c) (.slice D n d)) ∧ Hid (∀ k t, mapTx[k]? = some t → wr.cell? ⟨g2, k, none⟩ = some (.string ⟨t.toArray⟩)) ∧ Hid (Mat wr B A m) ∧ Hid (Row wr B' D (ints b)) ∧ Hid (Below w.heap.size w wr)) (fun i _ => 37 - (intOf i).toNat)
  case atStart => exact ⟨0, by omega, rfl, FX2, FZ2, FBX2, FT, FM2, FR2, FB2⟩
  case round =>
    obtain ⟨k, hk, rfl, HX, HZ, HBX, HT, HM, HR, HB⟩ := hrel
    by_cases hlt : k < 37
    · obtain ⟨t, ht⟩ := at_lt (show k < (treesTo 6).length by rw [to_len]; exact hlt)
      have hlv := charTo_lv ht
      have hct := HT.out (k + 1) _ (charTx_tree ht)
      have hs1 := HB.out.size
      have C1 := weight_any (Tr.txt t) A D n c d B B' m b wr (Tr.tx_txt hlv) HL.out HL'.out hn1 hn HQ.out HN.out HNB.out (by omega) (by omega) HM.out HR.out
      have TA : (charL m b n)[k + 1]? = some (wtT m b n (Tr.txt t)) := charL_at ht
      have k0 : (0 : Int) ≤ (k : Int) + 1 := by omega
      have k1 : (k : Int) + 1 < 38 := by omega
      have kk0 : (0 : Int) ≤ (k : Int) := Int.natCast_nonneg _
      have kk1 : (k : Int) < 37 := by omega
      have ew : IntKind.i64.wrap ((k : Int) + 1) = (k : Int) + 1 := IntWalk.i64_in _ (by omega)
      have en : ((k : Int) + 1).toNat = k + 1 := by omega
      have ek : 1 + k = k + 1 := by omega
      obtain ⟨X, hX⟩ : ∃ X : ByteArray, X = ⟨(Tr.txt t).toArray⟩ := ⟨_, rfl⟩
      rw [← hX] at hct C1
      obtain ⟨V, hV⟩ : ∃ V : Int, V = wtT m b n (Tr.txt t) := ⟨_, rfl⟩
      rw [← hV] at TA C1
      have HGX : Hid (∀ W : World, ArrM W (w.heap.size + 1 + 1) ((charL m b n).take (k + 1) ++ unitL.drop (k + 1)) → ArrM (W.setCell ⟨w.heap.size + 1 + 1, k + 1, none⟩ (.int .i64 V)) (w.heap.size + 1 + 1) ((charL m b n).take (k + 1 + 1) ++ unitL.drop (k + 1 + 1))) := fun W hW => by
        have := hW.store (k := k + 1) V
        rw [mixP_step (by rw [UL.out]; omega) (by rw [EL.out, UL.out]) TA] at this
        exact this
      have hsg : g2 < wr.heap.size := by
        have h9 := hct
        rcases Nat.lt_or_ge g2 wr.heap.size with h8 | h8
        · exact h8
        · exfalso
          unfold World.cell? at h9
          simp [Array.getElem?_eq_none h8] at h9
      have q0 := HBX.out.c0
      have q1 := HBX.out.c1
      clear ht hlv hX hV TA FX2 FZ2 FBX2 FT FB2 FM2 FR2
      go_wp2_with fail
      refine C1.mono ?_
      rintro e w3 ⟨rfl, bel3⟩
      have hz3 := bel3.size
      have HX3 := HX.out.below bel3 (by omega)
      have HZ3 := Lib.hid (HZ.out.below bel3 (by omega))
      have HBX3 := Lib.hid (HBX.out.next bel3)
      have HT3 : Hid (∀ k t, mapTx[k]? = some t → w3.cell? ⟨g2, k, none⟩ = some (.string ⟨t.toArray⟩)) := fun j u hu => (bel3.cell (p := ⟨g2, j, none⟩) hsg).trans (HT.out j u hu)
      have HM3 := Lib.hid (HM.out.below bel3 (by omega))
      have HR3 := Lib.hid (HR.out.below bel3 (by omega))
      have HB3 := Lib.hid (HB.out.trans (bel3.mono hs1))
      obtain ⟨v9, hc3⟩ : ∃ v, w3.cell? ⟨w.heap.size + 1 + 1, k + 1, none⟩ = some v := ⟨_, HX3.cell (mixP_at (us := charL m b n) (by rw [EL.out, UL.out]) (charU_at hlt))⟩
      have hf3 := HX3.free (k + 1)
      have GX := Lib.hid (HGX.out w3 HX3)
      have GZ : Hid (ArrM (w3.setCell ⟨w.heap.size + 1 + 1, k + 1, none⟩ (.int .i64 V)) (w.heap.size + 1) zero38) := HZ3.out.other (by omega) _
      have GBX : Hid (Bx (w3.setCell ⟨w.heap.size + 1 + 1, k + 1, none⟩ (.int .i64 V)) w.heap.size 61 (.slice A n c) (.slice D n d)) := by
        unfold Hid Bx
        rw [Below.heap_setCell _ _ _ _ (by show w.heap.size ≠ w.heap.size + 1 + 1; omega)]; exact HBX3.out
      have GT : Hid (∀ j t, mapTx[j]? = some t → (w3.setCell ⟨w.heap.size + 1 + 1, k + 1, none⟩ (.int .i64 V)).cell? ⟨g2, j, none⟩ = some (.string ⟨t.toArray⟩)) := fun j t ht => cell_other (HT3.out j t ht) (by omega)
      have hbs : Below w.heap.size w3 (w3.setCell ⟨w.heap.size + 1 + 1, k + 1, none⟩ (.int .i64 V)) := below_set (Below.refl _ _) (by omega) _
      have GM := Lib.hid (HM3.out.below hbs hB)
      have GR := Lib.hid (HR3.out.below hbs hB')
      have GB : Hid (Below w.heap.size w (w3.setCell ⟨w.heap.size + 1 + 1, k + 1, none⟩ (.int .i64 V))) := HB3.out.trans hbs
      clear HX HZ HBX HT HM HR HB HX3 HZ3 HBX3 HT3 HM3 HR3 HB3 bel3 hct C1 HGX q0 q1 hbs
      go_wp2
      go_roundw
      case rel => exact ⟨k + 1, by omega, by go_num, GX, GZ, GBX, GT, GM, GR, GB⟩
      case measure => simp [intOf]; omega
    · obtain rfl : k = 37 := by omega
      have GX : Hid (ArrM wr (w.heap.size + 1 + 1) (charL m b n)) := by
        have := HX.out
        rw [mixP_end EL.out UL.out] at this
        exact this
      clear HX FX2 FZ2 FBX2 FT FB2 FM2 FR2 HT HM HR HBX
      obtain ⟨CL, hCL⟩ : ∃ C, C = charL m b n := ⟨_, rfl⟩
      have HCL := Lib.hid hCL
      rw [← hCL] at GX EL
      clear hCL
      go_wp2_with (first
        | (refine wpList_load_row rfl 56 (.tmp 3) rfl (w.heap.size + 1 + 1) rfl 56 (arrM CL) (0, 0) _ GX.out Tryz.underlying56 rfl (by rw [arrM_size EL.out]; exact info_arrM) ?_)
        | (refine wpList_store_row rfl 56 (.tmp 2) (.tmp 22) rfl (w.heap.size + 1) (arrM CL) rfl rfl 56 (arrM zero38) HZ.out (by rw [arrM_size EL.out]; exact info_arrM) (by rw [arrM_size EL.out]; rfl) (arrM_cells _) ?_))
      refine bodyPost_ret (v := .agg (arrM CL)) ?_ rfl ⟨by rw [HCL.out], below_setRow HB.out (by omega) _⟩
      exact results_cell_row rfl _ _ (w.heap.size + 1) 56 _ (0, 0) _ rfl (setRow_heap _ _ _ _ _ _ HZ.out) Tryz.underlying56 rfl (by rw [arrM_size EL.out]; exact info_arrM)
/-- what CharacterOf answers -/
def characterA (m : List (List Int)) (b : List Int) : List Int × Int := if isTabB m b = true then (charL m b b.length, 0) else ([], 1)
end Go.Proofs.YtolkbbbbahhfaaaGreat
/-
  A number that a call hands back.
-/
namespace Go.Proofs.YtolkbbbbahhfaaaGreat
open Go.RowKit
/-- one number, with memory made -/
def Res1 (r : Int) (w : World) (e : Ending) (w' : World) : Prop := e = .returned (.int .i64 r) ∧ Below w.heap.size w w'
theorem Res1.of {r x : Int} {w w' : World} (h : r = x) (hb : Below w.heap.size w w') : Res1 r w (.returned (.int .i64 x)) w' := by subst h; exact ⟨rfl, hb⟩
end Go.Proofs.YtolkbbbbahhfaaaGreat
/-
  Densities.
-/
namespace Go.Proofs.YtolkbbbbahhfaaaGreat
open Go.RowKit Fld
set_option linter.unusedVariables false
set_option linter.unusedSimpArgs false
set_option maxRecDepth 100000

def PDen (d : Nat) : Prop := ∀ (x : List UInt8) (w : World), x.length ≤ d → Tr.isTx x = true → Calls Tryz.prog 72 #[.string ⟨x.toArray⟩] w (Res1 (Tr.den x) w)
theorem pDen_succ (d : Nat) (IH : PDen d) : PDen (d + 1) := by
  intro x w hxd hx
  obtain ⟨⟨h2, h16⟩, HB, h7⟩ := Tr.br_parts hx
  obtain ⟨hD, hK⟩ := Tr.den_parts hx
  have C1 := fun w => branches_any x w hx
  have C0 := nodes_any x w (by omega)
  have HD := Lib.hid hD
  have HK := Lib.hid hK
  have HBR := Lib.hid HB
  obtain ⟨P, hP⟩ : ∃ P, P = (Tr.brT x).length := ⟨_, rfl⟩
  have HP : Hid ((Tr.brT x).length = P) := hP.symm
  have hP7 : P ≤ 7 := by rw [hP]; exact h7
  have HXD := Lib.hid hxd
  obtain ⟨S, hS⟩ : ∃ S : ByteArray, S = ⟨x.toArray⟩ := ⟨_, rfl⟩
  rw [← hS] at C0 C1 ⊢
  clear hD hK HB h7 hP hxd hx hS
  go_enter Tryz.func72, Tryz.ntmps72
  go_wp2_with fail
  refine C0.mono ?_
  rintro e w0 ⟨rfl, rfl⟩
  have hw0 : IntKind.i64.wrap ((x.length / 2 : Nat) : Int) = ((x.length / 2 : Nat) : Int) := IntWalk.i64_in _ (by omega)
  go_wp2_with fail
  refine (C1 _).mono ?_
  rintro e w1 ⟨A, q, c, rfl, hq, own1, bel1⟩
  have hqP : q = P := by rw [hq]; exact HP.out
  subst hqP
  have hs1 := bel1.size
  have HROW : Hid (Row w1 w1.heap.size A (strs (Tr.brT x))) := row_of_own own1
  have HB1 := Lib.hid bel1
  clear hq own1 bel1 C0 C1
  go_wp2_with fail
  go_loopw [3, 11] (fun v i wr => ∃ k : Nat, k ≤ q ∧ v = .int .i64 (Tr.mulK Tr.den ((x.length / 2 : Nat) : Int) (Tr.brT x) k) ∧ i = .int .i64 k ∧ Below w1.heap.size w1 wr) (fun _ i _ => q - (intOf i).toNat)
  case atStart => exact ⟨0, Nat.zero_le _, by simp [Tr.mulK_zero], rfl, Below.refl _ _⟩
  case round =>
    obtain ⟨k, hk, rfl, rfl, HBw⟩ := hrel
    have hsz := HBw.size
    by_cases hlt : k < q
    · obtain ⟨y, hy⟩ := at_lt (show k < (Tr.brT x).length by rw [HP.out]; exact hlt)
      obtain ⟨hyt, hyl⟩ := HBR.out y (List.mem_of_getElem? hy)
      obtain ⟨b, o, rfl, _, hc⟩ := (HROW.out.below HBw (Nat.le_refl _)) k _ (strs_at hy)
      have C2 := fun w => IH y w (by have := HXD.out; omega) hyt
      have hk1 := HK.out k (by rw [HP.out]; omega)
      have hk2 := HK.out (k + 1) (by rw [HP.out]; omega)
      have hstep := Tr.mulK_step (f := Tr.den) (a := ((x.length / 2 : Nat) : Int)) hy
      obtain ⟨a, ha⟩ : ∃ a, a = Tr.mulK Tr.den ((x.length / 2 : Nat) : Int) (Tr.brT x) k := ⟨_, rfl⟩
      rw [hstep] at hk2
      rw [← ha] at hk1 hk2 ⊢
      have HST : Hid (Tr.mulK Tr.den ((x.length / 2 : Nat) : Int) (Tr.brT x) (k + 1) = a * Tr.den y) := by rw [ha]; exact hstep
      obtain ⟨z, hz⟩ : ∃ z, z = Tr.den y := ⟨_, rfl⟩
      rw [← hz] at hk2 HST C2
      obtain ⟨Y, hY⟩ : ∃ Y : ByteArray, Y = ⟨y.toArray⟩ := ⟨_, rfl⟩
      rw [← hY] at C2 hc
      have hmw : IntKind.i64.wrap (a * z) = a * z := IntWalk.i64_in _ (by omega)
      have HBW := Lib.hid HBw
      clear hy hyt hyl hstep ha hz hY HBw hk1
      go_wp2_with fail
      refine (C2 _).mono ?_
      rintro e w2 ⟨rfl, bel2⟩
      have HB2 : Hid (Below w1.heap.size w1 w2) := HBW.out.trans (bel2.mono hsz)
      clear bel2 hk2
      go_wp2
      go_roundw
      case rel => exact ⟨k + 1, by omega, by rw [HST.out], by go_num, HB2.out⟩
      case measure => simp [intOf]; omega
    · obtain rfl : k = q := by omega
      have G : Hid (Res1 (Tr.den x) w (.returned (.int .i64 (Tr.mulK Tr.den ((x.length / 2 : Nat) : Int) (Tr.brT x) k))) wr) :=
        Res1.of (by rw [HD.out, HP.out]) (HB1.out.trans (HBw.mono hs1))
      clear HBw
      go_wp2
      go_ret
      exact G.out
theorem density_any (x : List UInt8) (w : World) (hx : Tr.isTx x = true) : Calls Tryz.prog 72 #[.string ⟨x.toArray⟩] w (Res1 (Tr.den x) w) := by
  have key : ∀ d, PDen d := fun d => by
    induction d with
    | zero => intro y w hy ht; have := (Tr.br_parts ht).1.1; omega
    | succ d ih => exact pDen_succ d ih
  exact key x.length x w (Nat.le_refl _) hx
def densityA (t : List Int) : Int × Int := if Tr.isLv t = true then (Tr.denM t, 0) else (0, 1)
theorem densityA_yes {t : List Int} (h : Tr.isLv t = true) : densityA t = (Tr.denM t, 0) := if_pos h
theorem densityA_no {t : List Int} (h : Tr.isLv t = false) : densityA t = (0, 1) := if_neg (by rw [h]; simp)
def SDen (d : Nat) : Prop := ∀ (A : Option Addr) (n c B : Nat) (t : List Int) (w : World), t.length = n → n ≤ d → Tr.isLv t = true → B ≤ w.heap.size → Row w B A (ints t) → Calls Tryz.prog 79 #[.slice A n c] w (Res1 (Tr.denM t) w)
theorem sDen_succ (d : Nat) (IH : SDen d) : SDen (d + 1) := by
  intro A n c B t w hl hnd hlv hB h
  have n8 : n ≤ 8 := by have := (Tr.isLv_iff.1 hlv).2.1; omega
  obtain ⟨_, PS, P7⟩ := Tr.can_parts hlv
  obtain ⟨⟨hD, hK⟩, _⟩ := Tr.denM_parts hlv
  rw [hl] at hD hK
  have HD := Lib.hid hD
  have HK := Lib.hid hK
  have HPS := Lib.hid PS
  have HL := Lib.hid hl
  obtain ⟨P, hP⟩ : ∃ P, P = (Tr.partsL t).length := ⟨_, rfl⟩
  have HP : Hid ((Tr.partsL t).length = P) := hP.symm
  have C0 := l03Parts_any A n c B t w hl hlv hB h
  rw [HP.out] at C0
  have hP7 : P ≤ 7 := by rw [hP]; exact P7
  clear hl hlv PS P7 hP hD hK
  go_enter Tryz.func79, Tryz.ntmps79
  have hw0 : IntKind.i64.wrap (n : Int) = (n : Int) := IntWalk.i64_in _ (by omega)
  go_wp2_with fail
  refine C0.mono ?_
  rintro e w1 ⟨Ap, cp, pvs, rfl, ownp, belp⟩
  have HMP : Hid (Mat w1 w1.heap.size Ap (Tr.partsL t)) := ownp.mat
  have HB1 := Lib.hid belp
  have hs1 := belp.size
  clear ownp belp C0
  go_wp2_with fail
  go_loopw [3, 5] (fun v i wr => ∃ k : Nat, k ≤ P ∧ v = .int .i64 (Tr.mulK Tr.denM (n : Int) (Tr.partsL t) k) ∧ i = .int .i64 k ∧ Below w1.heap.size w1 wr) (fun _ i _ => P - (intOf i).toNat)
  case atStart => exact ⟨0, Nat.zero_le _, by simp [Tr.mulK_zero], rfl, Below.refl _ _⟩
  case round =>
    obtain ⟨k, hk, rfl, rfl, HBw⟩ := hrel
    have hsz := HBw.size
    by_cases hlt : k < P
    · obtain ⟨p, hp⟩ := at_lt (show k < (Tr.partsL t).length by rw [HP.out]; exact hlt)
      obtain ⟨bp, op, Ak, ck, rfl, hbp, hcp, hlc, hcm, hrp⟩ := HMP.out.below HBw (Nat.le_refl _) k p hp
      obtain ⟨hpl, hpt⟩ := HPS.out p (List.mem_of_getElem? hp)
      have C2 := fun w' (hw' : w1.heap.size ≤ w'.heap.size) hr => IH Ak p.length ck w1.heap.size p w' rfl (by have := HL.out; omega) hpl hw' hr
      have hk2 := HK.out (k + 1) (by rw [HP.out]; omega)
      have hstep := Tr.mulK_step (f := Tr.denM) (a := (n : Int)) hp
      obtain ⟨a, ha⟩ : ∃ a, a = Tr.mulK Tr.denM (n : Int) (Tr.partsL t) k := ⟨_, rfl⟩
      rw [hstep] at hk2
      rw [← ha] at hk2 ⊢
      have HST : Hid (Tr.mulK Tr.denM (n : Int) (Tr.partsL t) (k + 1) = a * Tr.denM p) := by rw [ha]; exact hstep
      obtain ⟨z, hz⟩ : ∃ z, z = Tr.denM p := ⟨_, rfl⟩
      rw [← hz] at hk2 HST C2
      have hmw : IntKind.i64.wrap (a * z) = a * z := IntWalk.i64_in _ (by omega)
      have HBW := Lib.hid HBw
      clear hp hpl hpt hstep ha hz HBw
      go_wp2_with fail
      refine (C2 _ (by exact hsz) (by exact hrp)).mono ?_
      rintro e w2 ⟨rfl, bel2⟩
      have HB2 : Hid (Below w1.heap.size w1 w2) := HBW.out.trans (bel2.mono hsz)
      clear bel2 hk2 hcp
      go_wp2
      go_roundw
      case rel => exact ⟨k + 1, by omega, by rw [HST.out], by go_num, HB2.out⟩
      case measure => simp [intOf]; omega
    · obtain rfl : k = P := by omega
      have G : Hid (Res1 (Tr.denM t) w (.returned (.int .i64 (Tr.mulK Tr.denM (n : Int) (Tr.partsL t) k))) wr) :=
        Res1.of (by rw [HD.out, HP.out]) (HB1.out.trans (HBw.mono hs1))
      clear HBw
      go_wp2
      go_ret
      exact G.out
theorem l03Density_any (A : Option Addr) (n c B : Nat) (t : List Int) (w : World) (hl : t.length = n) (hlv : Tr.isLv t = true) (hB : B ≤ w.heap.size) (h : Row w B A (ints t)) : Calls Tryz.prog 79 #[.slice A n c] w (Res1 (Tr.denM t) w) := by
  have key : ∀ d, SDen d := fun d => by
    induction d with
    | zero => intro A n c B t w hl hn hlv; have := (Tr.isLv_iff.1 hlv).1; omega
    | succ d ih => exact sDen_succ d ih
  exact key n A n c B t w hl (Nat.le_refl _) hlv hB h
end Go.Proofs.YtolkbbbbahhfaaaGreat
