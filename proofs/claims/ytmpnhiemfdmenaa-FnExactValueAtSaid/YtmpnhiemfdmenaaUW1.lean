/-
  Texts of this seat, joined: what several laws lean on.
-/
import Derived.Test.YtmpnhiemfdmenaaGrow
import Derived.Laws.AppendOwnNone
import Derived.Test.YtmpnhiemfdmenaaLev
import Derived.Test.YtmpnhiemfdmenaaTreeN
import Derived.Test.YtmpnhiemfdmenaaNestc
import Derived.Test.YtmpnhiemfdmenaaMark1
import Derived.Test.YtmpnhiemfdmenaaPush
import Derived.Lib.SliceRun
import Derived.Test.YtmpnhiemfdmenaaTreeX
import Derived.Test.YtmpnhiemfdmenaaTests
import Derived.Test.YtmpnhiemfdmenaaCan
import Derived.Test.YtmpnhiemfdmenaaSrt
import Derived.Test.YtmpnhiemfdmenaaTreeOf
import Derived.Test.YtmpnhiemfdmenaaForestS
import Derived.Test.YtmpnhiemfdmenaaTreeC8
import Derived.Test.YtmpnhiemfdmenaaSlices
import Derived.Test.YtmpnhiemfdmenaaRes1
import Derived.Test.YtmpnhiemfdmenaaNum
import Derived.Maps.OwnSet
import Derived.Deep.RegionHeld3
import Derived.Test.YtmpnhiemfdmenaaSCan
/-
  The model's copy of a list.
-/
namespace Go.Proofs.Ytmpnhiemfdmenaa
open Go.RowKit Fld
set_option linter.unusedVariables false
set_option linter.unusedSimpArgs false
set_option maxRecDepth 100000

theorem Row.news {w : World} {B : Nat} {ad : Addr} {vs : List Value} (h : Row w B (some ad) vs) : ∀ j u, vs[j]? = some u → w.cell? (ad.add j) = some u := by
  intro j u hu
  obtain ⟨b, o, e, _, hc⟩ := h j u hu
  cases e
  have : (⟨b, o, none⟩ : Addr).add j = ⟨b, o + j, none⟩ := by unfold Addr.add; split <;> simp_all
  rw [this]; exact hc
theorem NewRow.own {w w' : World} {T : TypeId} {v : Value} {n : Nat} {vs : List Value} (h : w'.ownsRow w.heap.size T 1 v n vs) (hb : Below w.heap.size w w') : NewRow T n vs w (.returned v) w' := by
  rcases h.2 with ⟨rfl, rfl⟩ | ⟨g, cap, cur, rfl, _⟩
  · exact ⟨_, _, rfl, h, hb⟩
  · exact ⟨_, _, rfl, h, hb⟩
theorem l01Own_any (ad : Addr) (n c B : Nat) (xs : List Int) (w : World) (hl : xs.length = n) (hn : n ≤ 1048576) (hB : B ≤ w.heap.size) (h : Row w B (some ad) (ints xs)) :
    Calls Try.prog 25 #[.slice (some ad) n c] w (NewRow 2 n (ints xs) w) := by
  obtain ⟨i0, hi, hz0, hz1, hz2⟩ := info_parts info_i64
  have hnews := (h.alloc hB (.cells #[] 2)).news
  have hlen : (ints xs).length = n * 1 := by rw [ints_length, hl, Nat.mul_one]
  have h1 := ints_cells xs
  have hown0 := (Growing.start w 2).1
  have hbel0 := (Growing.start w 2).2
  go_enter Try.func25, Try.ntmps25
  go_wp2_with (at_builtin; refine wpList_append_own _ rfl (.tmp 3) (.tmp 4) 24 rfl w.heap.size 2 i0 _ 1 8 Try.underlying24 hi hz0 hz1 hz2 rfl (by omega) (.slice (some ⟨w.heap.size, 0, none⟩) 0 0) 0 [] rfl hown0 ad n c (ints xs) rfl hlen hnews h1 (by simp only [maxLen]; omega) (by omega) (by simp) ?_; intro v' w' hown hgrow _)
  go_ret
  rw [Nat.zero_add] at hown
  exact NewRow.own hown (hbel0.grown hgrow (by simp) (fun k hk => (hown0.lt k hk).1))
end Go.Proofs.Ytmpnhiemfdmenaa
/-
  The next lower list of a tree, in place.
-/
namespace Go.Proofs.Ytmpnhiemfdmenaa
open Go.RowKit Fld
set_option linter.unusedVariables false
set_option linter.unusedSimpArgs false
set_option maxRecDepth 100000

theorem last_le (t : List Int) : ∀ k, Tr.lastF t k ≤ k
  | 0 => Nat.le_refl _
  | k+1 => by rw [Tr.lastF]; split; · have := last_le t k; omega
              · exact Nat.le_refl _
theorem par_le (t : List Int) (x : Int) : ∀ k, Tr.parF t x k ≤ k
  | 0 => Nat.le_refl _
  | k+1 => by rw [Tr.parF]; split; · have := par_le t x k; omega
              · exact Nat.le_refl _
/-- what lower leaves -/
def Lowered (base g n cap : Nat) (t : List Int) (w : World) (e : Ending) (w' : World) : Prop :=
  (Tr.lowerL t = none ∧ e = .returned (.bool false) ∧ w = w') ∨ (∃ u, Tr.lowerL t = some u ∧ e = .returned (.bool true) ∧ w'.ownsRow base 2 1 (.slice (some ⟨g, 0, none⟩) n cap) n (ints u) ∧ w.grownBy w' (some g))
theorem cpy_step {d f i : Nat} {t : List Int} {x : Int} (hx : t[i - d]? = some x) : Tr.cpyF d (f + 1) i t = Tr.cpyF d f (i + 1) (t.set i x) := by
  rw [Tr.cpyF, lv_at hx]
def Cpd (base g n cap : Nat) (w : World) (T : List Int) (wr : World) : Prop := wr.ownsRow base 2 1 (.slice (some ⟨g, 0, none⟩) n cap) n (ints T) ∧ w.grownBy wr (some g)
theorem Cpd.step {base g n cap i : Nat} {w wr : World} {T : List Int} {x : Int} (h : Cpd base g n cap w T wr) : Cpd base g n cap w (T.set i x) (wr.setCell ⟨g, i, none⟩ (.int .i64 x)) := by
  obtain ⟨h1, h2⟩ := h.1.stored i (.int .i64 x)
  have e : (ints T).set i (.int .i64 x) = ints (T.set i x) := by unfold ints intsK; rw [List.map_set]
  rw [e] at h1
  exact ⟨h1, grownBy_trans h.2 h2⟩
theorem Cpd.start {base g n cap : Nat} {w : World} {t : List Int} (h : w.ownsRow base 2 1 (.slice (some ⟨g, 0, none⟩) n cap) n (ints t)) (M : Nat) : Cpd base g n cap (w.drewN M) t (w.drewN M) := ⟨h, World.grownBy.refl _ _⟩
set_option maxHeartbeats 1000000 in
theorem lower_any (base g n cap : Nat) (t : List Int) (w : World) (hl : t.length = n) (hlv : Tr.isLv t = true) (h : w.ownsRow base 2 1 (.slice (some ⟨g, 0, none⟩) n cap) n (ints t)) :
    Calls Try.prog 83 #[.slice (some ⟨g, 0, none⟩) n cap] w fun e w' => ∃ m, Lowered base g n cap t (w.drewN m) e w' := by
  have h3 := Tr.isLv_iff.1 hlv
  have n1 : 1 ≤ n := by have := h3.1; omega
  have n8 : n ≤ 8 := by have := h3.2.1; omega
  have HST : Hid (StepsTo t n) := by rw [Hid, ← hl]; exact h3.2.2.2
  have HZ : Hid (t.getD 0 0 = 0) := h3.2.2.1
  have HL := Lib.hid hl
  have HO := Lib.hid h
  have HLAST : Hid (Tr.lastF t (t.length - 1) = Tr.lastF t (n - 1)) := by rw [Hid, hl]
  clear hl hlv h3 h
  go_enter Try.func83, Try.ntmps83
  go_wp2_with fail
  go_loop [3] (fun l => ∃ k : Nat, k < n ∧ l = .int .i64 k ∧ Hid (Tr.lastF t (n - 1) = Tr.lastF t k)) (fun l => (intOf l).toNat)
  case atStart => exact ⟨n - 1, by omega, by go_num, rfl⟩
  case round =>
    obtain ⟨k, hk, rfl, HK⟩ := hrel
    obtain ⟨x, hx⟩ := at_lt (show k < t.length by rw [HL.out]; exact hk)
    have hcx := HO.out.cellAt k (by omega)
    rw [ints_at hx] at hcx
    have HX := Lib.hid hx
    rcases Nat.eq_zero_or_pos k with k0 | k0
    · subst k0
      have G : Hid (Tr.lowerL t = none) := by
        rw [Hid, Tr.lowerL]
        simp only [HLAST.out, HK.out]
        rfl
      clear hx HK
      go_wp2
      go_ret
      exact ⟨0, .inl ⟨G.out, rfl, rfl⟩⟩
    · obtain ⟨j, rfl⟩ : ∃ j, k = j + 1 := ⟨k - 1, by omega⟩
      by_cases hx1 : x = 1
      · have G : Hid (Tr.lastF t (n - 1) = Tr.lastF t j) := by
          rw [Hid, HK.out, Tr.lastF, lv_at hx, if_pos hx1]
        subst hx1
        clear hx HK
        go_wp2
        go_round
        case rel => exact ⟨j, by omega, by go_num, G⟩
        case measure => simp [intOf]
      · have tx := beq_f hx1
        have HLL : Hid (Tr.lastF t (n - 1) = j + 1) := by
          rw [Hid, HK.out, Tr.lastF, lv_at hx, if_neg hx1]
        have hxp : 1 ≤ x := by have := (HST.out (j + 1) hk (by omega)).1; rw [lv_at hx] at this; exact this
        clear hx HK
        have tz : ((j : Int) + 1 == 0) = false := beq_f (by omega)
        go_wp2_with fail
        go_loopw [4] (fun pp wr => ∃ p m : Nat, p ≤ j ∧ pp = .int .i64 p ∧ wr = w.drewN m ∧ Hid (Tr.parF t x j = Tr.parF t x p)) (fun pp _ => (intOf pp).toNat)
        case atStart => exact ⟨j, 0, Nat.le_refl _, by go_num, rfl, rfl⟩
        case round =>
          obtain ⟨p, m, hp, rfl, rfl, HP⟩ := hrel
          obtain ⟨y, hy⟩ := at_lt (show p < t.length by rw [HL.out]; omega)
          have hcy := HO.out.cellAt p (by omega)
          rw [ints_at hy] at hcy
          have hcx' : (w.drewN m).cell? ⟨g, j + 1, none⟩ = some (.int .i64 x) := hcx
          have hcy' : (w.drewN m).cell? ⟨g, p, none⟩ = some (.int .i64 y) := hcy
          by_cases hxy : x ≤ y
          · have hd : decide (x ≤ y) = true := decide_eq_true hxy
            obtain ⟨q, rfl⟩ : ∃ q, p = q + 1 := ⟨p - 1, by
              rcases Nat.eq_zero_or_pos p with e | e
              · subst e; have h9 := HZ.out; rw [lv_at hy] at h9; omega
              · omega⟩
            have G : Hid (Tr.parF t x j = Tr.parF t x q) := by
              rw [Hid, HP.out, Tr.parF, lv_at hy, if_pos hxy]
            clear hy HP
            go_wp2_with fail
            go_quiet (fail)
            go_wp2
            go_roundw
            case rel => exact ⟨q, _, by omega, by go_num, rfl, G⟩
            case measure => simp [intOf]
          · have hd : decide (x ≤ y) = false := decide_eq_false hxy
            have HPP : Hid (Tr.parF t x j = p) := by
              rw [Hid, HP.out]
              match p, hy with
              | 0, _ => rfl
              | q+1, hy => rw [Tr.parF, lv_at hy, if_neg hxy]
            have HLO : Hid (Tr.lowerL t = some (Tr.cpyF (j + 1 - p) (n - (j + 1)) (j + 1) t)) := by
              rw [Hid, Tr.lowerL]
              simp only [HL.out, HLL.out, lv_at HX.out, Nat.add_sub_cancel, HPP.out]
              rfl
            clear hy HP HLL
            go_wp2_with fail
            go_quiet (fail)
            go_wp2_with fail
            go_loopw [5] (fun ii wr => ∃ (e : Nat) (T : List Int), j + 1 + e ≤ n ∧ ii = .int .i64 ((j + 1 + e : Nat) : Int) ∧ Hid (Tr.cpyF (j + 1 - p) (n - (j + 1)) (j + 1) t = Tr.cpyF (j + 1 - p) (n - (j + 1 + e)) (j + 1 + e) T) ∧ Hid (T.length = n) ∧ ∃ M, Cpd base g n cap (w.drewN M) T wr) (fun ii _ => n - (intOf ii).toNat)
            case atStart => exact ⟨0, t, by omega, by go_num, rfl, HL.out, _, by rw [World.drewN_drewN]; exact Cpd.start HO.out _⟩
            case round =>
              obtain ⟨e, T, he, rfl, HC, HT, M, HD⟩ := hrel
              by_cases hlt : j + 1 + e < n
              · have hep : e + p < j + 1 + e := by omega
                obtain ⟨z, hz⟩ := at_lt (show e + p < T.length by rw [HT.out]; omega)
                have hcz := HD.1.cellAt (e + p) (by omega)
                rw [ints_at hz] at hcz
                obtain ⟨old, hold⟩ := at_lt (show j + 1 + e < T.length by rw [HT.out]; exact hlt)
                have hco := HD.1.cellAt (j + 1 + e) (by omega)
                rw [ints_at hold] at hco
                have hfo := HD.1.frozenAt (j + 1 + e)
                have HC2 : Hid (Tr.cpyF (j + 1 - p) (n - (j + 1)) (j + 1) t = Tr.cpyF (j + 1 - p) (n - (j + 1 + (e + 1))) (j + 1 + (e + 1)) (T.set (j + 1 + e) z)) := by
                  rw [Hid, HC.out, show n - (j + 1 + e) = n - (j + 1 + (e + 1)) + 1 from by omega, cpy_step (x := z) (by rw [show j + 1 + e - (j + 1 - p) = e + p from by omega]; exact hz)]
                  rfl
                have HT2 : Hid ((T.set (j + 1 + e) z).length = n) := by rw [Hid, List.length_set]; exact HT.out
                have G := Lib.hid (HD.step (i := j + 1 + e) (x := z))
                have ew1 : ((j + 1 + e : Nat) : Int) - ((j : Int) + 1) = (e : Int) := by omega
                clear hz hold HD HC
                go_wp2
                go_roundw
                case rel => exact ⟨e + 1, T.set (j + 1 + e) z, by omega, by go_num, HC2, HT2, M, G.out⟩
                case measure => simp [intOf]; omega
              · have hne : n = j + 1 + e := by omega
                have G : Hid (∃ m, Lowered base g n cap t (w.drewN m) (.returned (.bool true)) wr) := by
                  have hc := HC.out
                  rw [show n - (j + 1 + e) = 0 from by omega, Tr.cpyF] at hc
                  exact ⟨M, .inr ⟨T, by rw [HLO.out, hc], rfl, HD.1, HD.2⟩⟩
                clear HD HC
                go_wp2
                go_ret
                exact G.out
end Go.Proofs.Ytmpnhiemfdmenaa
/-
  Marks that the laws write into lists of the call's own, and their reading.
-/
namespace Go.Proofs.Ytmpnhiemfdmenaa
open Go.RowKit Fld
set_option linter.unusedVariables false
set_option linter.unusedSimpArgs false
set_option maxRecDepth 100000

def MarkedM (lo hi n : Nat) (v : Value) (k : Int) (m : List (List Int)) (vs : List Value) (w : World) (e : Ending) (w' : World) : Prop :=
  e = .returned (.int .i64 (k + (total m : Nat))) ∧ OwnMat w' lo hi v n (marksM k m) vs ∧ Within lo hi w w'
def MarkingM (lo hi n : Nat) (v : Value) (k : Int) (m : List (List Int)) (vs : List Value) (r : Nat) (w wr : World) : Prop :=
  OwnMat wr lo hi v n ((marksM k m).take r ++ m.drop r) vs ∧ Within lo hi w wr
theorem MarkingM.step {lo hi n r c : Nat} {v : Value} {A : Option Addr} {k : Int} {m : List (List Int)} {vs : List Value} {row : List Int} {w wr w2 : World} {e : Ending} (h : MarkingM lo hi n v k m vs r w wr) (hr : m[r]? = some row) (hv : vs[r]? = some (.slice A row.length c))
    (hm : Marked lo row.length c A (k + (total (m.take r) : Nat)) wr e w2) : MarkingM lo hi n v k m vs (r + 1) w w2 := by
  obtain ⟨h1, h2⟩ := h
  obtain ⟨_, h3, h4⟩ := hm
  have hrl : r < m.length := by
    rcases Nat.lt_or_ge r m.length with g | g
    · exact g
    · rw [List.getElem?_eq_none g] at hr; cases hr
  have h5 := h1.set_row hv (marks_length _ _) h3 h4
  rw [markM_step hrl (marksM_length _ _) (marksM_at m k r row hr)] at h5
  refine ⟨h5, h2.trans (Within.grown h4 fun g hg => ?_)⟩
  have hat : ((marksM k m).take r ++ m.drop r)[r]? = some row := by
    have e1 : ((marksM k m).take r).length = r := by simp [marksM_length]; omega
    rw [List.getElem?_append_right (by omega), e1, Nat.sub_self, List.getElem?_drop, Nat.add_zero]; exact hr
  obtain ⟨A2, c2, e2, o2⟩ := h1.inner r row hat
  rw [hv] at e2
  injection e2 with e2
  rw [e2] at hg
  exact ⟨(o2.1.lt g hg).1, o2.2 g hg⟩
theorem MarkingM.done {lo hi n : Nat} {v : Value} {k : Int} {m : List (List Int)} {vs : List Value} {w wr : World} (h : MarkingM lo hi n v k m vs n w wr) (hl : m.length = n) : MarkedM lo hi n v k m vs w (.returned (.int .i64 (k + (total m : Nat)))) wr := by
  obtain ⟨h1, h2⟩ := h
  rw [List.take_of_length_le (by rw [marksM_length]; omega), List.drop_eq_nil_of_le (by omega), List.append_nil] at h1
  exact ⟨rfl, h1, h2⟩
theorem MarkingM.at_ {lo hi n r : Nat} {v : Value} {k : Int} {m : List (List Int)} {vs : List Value} {row : List Int} {w wr : World} (h : MarkingM lo hi n v k m vs r w wr) (hr : m[r]? = some row) :
    ∃ A c, vs[r]? = some (.slice A row.length c) ∧ OwnR wr lo hi 2 (.slice A row.length c) row.length (ints row) := by
  have hrl : r < m.length := by
    rcases Nat.lt_or_ge r m.length with g | g
    · exact g
    · rw [List.getElem?_eq_none g] at hr; cases hr
  have hat : ((marksM k m).take r ++ m.drop r)[r]? = some row := by
    have e1 : ((marksM k m).take r).length = r := by simp [marksM_length]; omega
    rw [List.getElem?_append_right (by omega), e1, Nat.sub_self, List.getElem?_drop, Nat.add_zero]; exact hr
  exact h.1.inner r row hat
end Go.Proofs.Ytmpnhiemfdmenaa
/-
  All trees with so many nodes, the program's.
-/
namespace Go.Proofs.Ytmpnhiemfdmenaa
open Go.RowKit Fld
set_option linter.unusedVariables false
set_option linter.unusedSimpArgs false
set_option maxRecDepth 100000

theorem slicesClone_any (ad : Addr) (n c B : Nat) (xs : List Int) (w : World) (hl : xs.length = n) (hn : n ≤ 1048576) (hB : B ≤ w.heap.size) (h : Row w B (some ad) (ints xs)) :
    Calls Try.prog 82 #[.slice (some ad) n c] w (NewRow 2 n (ints xs) w) := by
  obtain ⟨i0, hi, hz0, hz1, hz2⟩ := info_parts info_i64
  have hnews := (h.alloc hB (.cells #[] 2)).news
  have hlen : (ints xs).length = n * 1 := by rw [ints_length, hl, Nat.mul_one]
  have h1 := ints_cells xs
  have hown0 := (Growing.start w 2).1
  have hbel0 := (Growing.start w 2).2
  have q22 : ∀ (w : World) (a : Option Addr) (n c n' c' : Nat), (binOp .eql 24 (.slice a n c) (.slice none n' c')).run Try.prog w = .ok (.bool a.isNone) w := fun w a n c n' c' => Lib.run_eql_slice_nil w _ _ a n c n' c' Try.underlying24
  go_enter Try.func82, Try.ntmps82
  go_wp2_with (at_builtin; refine wpList_append_own _ rfl (.tmp 5) (.tmp 6) 24 rfl w.heap.size 2 i0 _ 1 8 Try.underlying24 hi hz0 hz1 hz2 rfl (by omega) (.slice (some ⟨w.heap.size, 0, none⟩) 0 0) 0 [] rfl hown0 ad n c (ints xs) rfl hlen hnews h1 (by simp only [maxLen]; omega) (by omega) (by simp) ?_; intro v' w' hown hgrow _)
  go_ret
  rw [Nat.zero_add] at hown
  exact NewRow.own hown (hbel0.grown hgrow (by simp) (fun k hk => (hown0.lt k hk).1))
def rangeL (n : Nat) : List Int := (List.range n).map fun k : Nat => (k : Int)
theorem rangeL_length (n : Nat) : (rangeL n).length = n := by simp [rangeL]
theorem rangeL_at {n k : Nat} (h : k < n) : (rangeL n)[k]? = some (k : Int) := by unfold rangeL; rw [List.getElem?_map, List.getElem?_range h]; rfl
def chkT (n : Nat) : Bool := (Tr.treesL (n + 1)).all (fun t => Tr.isLv t && decide (t.length = n + 1)) && decide ((Tr.treesL (n + 1)).length ≤ 115)
theorem chkT_all : (List.range 8).all chkT = true := by decide +kernel
theorem trees_all {n : Nat} (h1 : 1 ≤ n) (h8 : n ≤ 8) : (∀ t ∈ Tr.treesL n, Tr.isLv t = true ∧ t.length = n) ∧ (Tr.treesL n).length ≤ 115 := by
  have h := List.all_eq_true.1 chkT_all (n - 1) (by rw [List.mem_range]; omega)
  unfold chkT at h
  rw [show n - 1 + 1 = n from by omega] at h
  simp only [Bool.and_eq_true, List.all_eq_true, decide_eq_true_eq] at h
  exact h
/-- the trees so far, the last one of them as it stands in the levels -/
structure Listed (n : Nat) (m : List (List Int)) (T : List Int) : Prop where
  last : ∃ m', m = m' ++ [T] ∧ Tr.treesL n = m' ++ Tr.treesF (116 - m'.length) T
theorem Listed.bd {n : Nat} {m : List (List Int)} {T : List Int} (h : Listed n m T) (h1 : 1 ≤ n) (h8 : n ≤ 8) : Tr.isLv T = true ∧ T.length = n ∧ 1 ≤ m.length ∧ m.length ≤ 115 := by
  obtain ⟨m', rfl, e⟩ := h.last
  obtain ⟨hall, hlen⟩ := trees_all h1 h8
  rw [e, List.length_append] at hlen
  have hf : 116 - m'.length = (115 - m'.length) + 1 := by omega
  have hT : T ∈ Tr.treesL n := by rw [e, hf, Tr.treesF]; simp
  have h2 := hall T hT
  rw [hf, Tr.treesF, List.length_cons] at hlen
  exact ⟨h2.1, h2.2, by simp, by rw [List.length_append]; simp; omega⟩
theorem Listed.done {n : Nat} {m : List (List Int)} {T : List Int} (h : Listed n m T) (h1 : 1 ≤ n) (h8 : n ≤ 8) (hl : Tr.lowerL T = none) : m = Tr.treesL n := by
  have hb := h.bd h1 h8
  obtain ⟨m', rfl, e⟩ := h.last
  have hlen := hb.2.2.2
  rw [List.length_append] at hlen
  simp at hlen
  rw [e, show 116 - m'.length = (115 - m'.length) + 1 from by omega, Tr.treesF, hl]
theorem Listed.next {n : Nat} {m : List (List Int)} {T u : List Int} (h : Listed n m T) (h1 : 1 ≤ n) (h8 : n ≤ 8) (hl : Tr.lowerL T = some u) : Listed n (m ++ [u]) u := by
  have hb := h.bd h1 h8
  obtain ⟨m', rfl, e⟩ := h.last
  have hlen := hb.2.2.2
  rw [List.length_append] at hlen
  simp at hlen
  refine ⟨m' ++ [T], rfl, ?_⟩
  rw [e, show 116 - m'.length = (115 - m'.length) + 1 from by omega, Tr.treesF, hl, List.length_append]
  simp
theorem Listed.start (n : Nat) : Listed n [rangeL n] (rangeL n) := ⟨[], rfl, rfl⟩
set_option maxHeartbeats 2000000 in
theorem treesWith_any (n : Nat) (w : World) (h1 : 1 ≤ n) (h8 : n ≤ 8) :
    Calls Try.prog 59 #[.int .i64 n] w (NewMat (Tr.treesL n).length (Tr.treesL n) w) := by
  obtain ⟨i0, hi, hz0, hz1, hz2⟩ := info_parts info_i64
  obtain ⟨j0, hj, hy0, hy1, hy2⟩ := info_parts info_row
  go_enter Try.func59, Try.ntmps59
  go_wp2_with (at_make; refine wpList_make_full _ rfl (.tmp 6) (.tmp 6) 24 rfl w.heap.size 2 i0 _ 1 Try.underlying24 hi hz0 hz1 .i64 .i64 _ _ n rfl rfl rfl rfl (by rw [hz2]; omega) (by simp only [maxLen]; omega) (Nat.le_refl _) ?_; intro w1 hown hg)
  have F0 := Filling.start (xs := rangeL n) hown hg
  clear hown hg hz0 hz1 hz2 hi
  go_wp2_with fail
  go_loopw [10] (fun i wr => ∃ k : Nat, k ≤ n ∧ i = .int .i64 k ∧ Filling w 2 n (rangeL n) k wr) (fun i _ => n - (intOf i).toNat)
  case atStart => exact ⟨0, Nat.zero_le _, rfl, F0⟩
  case round =>
    obtain ⟨k, hk, rfl, HF⟩ := hrel
    by_cases hlt : k < n
    · have hf := HF.1.frozenAt k
      have ho := HF.1.cellAt k (by omega)
      rw [fill_at (by rw [ints_length]; exact rangeL_length n) hlt] at ho
      have G := Lib.hid (HF.step (rangeL_length n) (rangeL_at hlt))
      clear F0 HF
      go_wp2
      go_roundw
      case rel => exact ⟨k + 1, by omega, by go_num, G.out⟩
      case measure => simp [intOf]; omega
    · obtain rfl : k = n := by omega
      obtain ⟨A0, c0, e0, hown1, hbel1⟩ := HF.done (rangeL_length k)
      injection e0 with e0
      injection e0 with eA _ ec
      subst eA ec
      obtain ⟨wo, hwo⟩ : ∃ wo, wo = wr := ⟨wr, rfl⟩
      subst hwo
      have HLV := Lib.hid (OwnR.of hown1)
      have HB1 := Lib.hid hbel1
      have hs1 : w.heap.size < wo.heap.size := (hown1.lt w.heap.size rfl).2
      clear F0 HF hown1 hbel1
      go_wp2_with fail
      refine (slicesClone_any ⟨w.heap.size, 0, none⟩ k k wo.heap.size (rangeL k) _ (rangeL_length k) (by omega) (Nat.le_refl _) HLV.out.row).mono ?_
      rintro e w2 ⟨A2, c2, rfl, own2, bel2⟩
      have HO2 := Lib.hid own2
      have HB2 := Lib.hid bel2
      have hs2 := bel2.size
      clear own2 bel2
      go_wp2_with fail
      have HM0 : Hid (OwnMat (w2.alloc (.cells #[.slice A2 k c2] 24)) wo.heap.size (w2.alloc (.cells #[.slice A2 k c2] 24)).heap.size (.slice (some ⟨w2.heap.size, 0, none⟩) 1 1) 1 [rangeL k] [.slice A2 k c2]) := by
        have hal : Below w2.heap.size w2 (w2.alloc (.cells #[.slice A2 k c2] 24)) := (Below.refl _ _).alloc (Nat.le_refl _) _
        have hlit := World.ownsRow_lit (base := wo.heap.size) (size := 1) (e := 24) w2 #[.slice A2 k c2] 1 hs2 (by simp [maxLen]) rfl
        refine ⟨OwnR.of hlit, rfl, ?_, ?_⟩
        · intro r row hr
          match r, hr with
          | 0, hr =>
            simp only [List.getElem?_cons_zero, Option.some.injEq] at hr
            subst hr
            refine ⟨A2, c2, by rw [rangeL_length]; rfl, ?_⟩
            rw [rangeL_length]
            exact ((OwnR.of HO2.out).below hal (Nat.le_refl _)).more (Nat.le_refl _) hal.size
          | r+1, hr => simp at hr
        · intro r s u t g hne hu ht
          match r, s, hu, ht with
          | 0, 0, _, _ => exact absurd rfl hne
          | r+1, _, hu, _ => simp at hu
          | 0, s+1, _, ht => simp at ht
      have HL0 : Hid (OwnR (w2.alloc (.cells #[.slice A2 k c2] 24)) w.heap.size wo.heap.size 2 (.slice (some ⟨w.heap.size, 0, none⟩) k k) k (ints (rangeL k))) :=
        (HLV.out.below HB2.out (Nat.le_refl _)).below ((Below.refl w2.heap.size w2).alloc (Nat.le_refl _) _) hs2
      have HB0 : Hid (Below w.heap.size w (w2.alloc (.cells #[.slice A2 k c2] 24))) := (HB1.out.trans (HB2.out.mono (by omega))).alloc (by omega) _
      go_loopw [5] (fun v W => ∃ (g cap j : Nat) (m : List (List Int)) (vs : List Value) (T : List Int), v = .slice (some ⟨g, 0, none⟩) j cap ∧ 1 ≤ j ∧ j ≤ 115 ∧ Hid (Listed k m T) ∧ Hid (OwnMat W wo.heap.size W.heap.size (.slice (some ⟨g, 0, none⟩) j cap) j m vs) ∧ Hid (OwnR W w.heap.size wo.heap.size 2 (.slice (some ⟨w.heap.size, 0, none⟩) k k) k (ints T)) ∧ Below w.heap.size w W ∧ wo.heap.size ≤ W.heap.size) (fun v _ => 200 - (match v with | .slice _ n _ => n | _ => 0))
      case atStart => exact ⟨w2.heap.size, 1, 1, [rangeL k], [.slice A2 k c2], rangeL k, rfl, Nat.le_refl _, by omega, Listed.start k, HM0, HL0, HB0.out, by simp; omega⟩
      case round =>
        obtain ⟨g, cap, j, m, vs, T, rfl, j1, j115, HT, HM, HL, HB, hWo⟩ := hrel
        obtain ⟨tlv, tl, _, _⟩ := HT.out.bd h1 h8
        have HTL := Lib.hid tl
        have C0 := lower_any w.heap.size w.heap.size k k T wr tl tlv HL.out.1
        clear tl tlv
        go_wp2_with fail
        refine C0.mono ?_
        rintro e w3 ⟨md, ⟨hlo, rfl, rfl⟩ | ⟨u, hlo, rfl, hown3, hg3⟩⟩
        · have e := HT.out.done h1 h8 hlo
          have hjl : m.length = j := HM.out.size
          have G : Hid (NewMat (Tr.treesL k).length (Tr.treesL k) w (.returned (.slice (some ⟨g, 0, none⟩) j cap)) (wr.drewN md)) := by
            rw [Hid, ← e, hjl]
            exact ⟨_, _, vs, rfl, (HM.out.drewN md).more (by omega) (Nat.le_refl _), below_drewN HB md⟩
          clear hlo e hjl HB C0
          go_wp2
          go_ret
          exact G.out
        · have hsz3 : wr.heap.size ≤ w3.heap.size := hg3.size
          have hWI : Within w.heap.size wo.heap.size (wr.drewN md) w3 := Within.grown hg3 (fun g' e => by injection e with e; omega)
          have HM3 : Hid (OwnMat w3 wo.heap.size w3.heap.size (.slice (some ⟨g, 0, none⟩) j cap) j m vs) := ((HM.out.drewN md).within hWI (by show wr.heap.size ≤ wr.heap.size; omega) (.inr (Nat.le_refl _))).more (Nat.le_refl _) hsz3
          have HL3 : Hid (OwnR w3 w.heap.size wo.heap.size 2 (.slice (some ⟨w.heap.size, 0, none⟩) k k) k (ints u)) := ⟨hown3, fun g' e => by have : w.heap.size = g' := (by simpa [Value.ownBlock] using e); omega⟩
          have HB3 : Hid (Below w.heap.size w w3) := Below.then (below_drewN HB md) hWI (Nat.le_refl _) (by show w.heap.size ≤ wr.heap.size; omega)
          have HN := Lib.hid (HT.out.next h1 h8 hlo)
          have hul : u.length = k := (HN.out.bd h1 h8).2.1
          have huj : j + 1 ≤ 115 := by have := (HN.out.bd h1 h8).2.2.2; rw [List.length_append] at this; have := HM.out.size; simp at *; omega
          have HUL := Lib.hid hul
          have hW3 : wo.heap.size ≤ w3.heap.size := by omega
          clear hlo hown3 hg3 hWI HB C0 HM HL HT hul
          go_wp2_with fail
          refine (slicesClone_any ⟨w.heap.size, 0, none⟩ k k wo.heap.size u _ HUL.out (by omega) hW3 HL3.out.row).mono ?_
          rintro e w4 ⟨A4, c4, rfl, own4, bel4⟩
          have hs4 := bel4.size
          have HM4 := Lib.hid (HM3.out.below bel4 (Nat.le_refl _))
          have HL4 := Lib.hid (HL3.out.below bel4 hW3)
          have HB4 := Lib.hid (HB3.out.trans (bel4.mono (by omega)))
          have HO4 := Lib.hid own4
          have hownO := HM4.out.outer.1
          clear own4 bel4
          go_wp2_with (at_builtin; refine wpList_append_lies _ rfl (.tmp 23) (.tmp 26) 35 rfl wo.heap.size 24 j0 _ 1 24 Try.underlying35 hj hy0 hy1 hy2 rfl (by omega) (.slice (some ⟨g, 0, none⟩) j cap) j vs rfl (hownO.alloc _) ⟨w4.heap.size, 0, none⟩ 1 1 [.slice A4 k c4] rfl rfl (World.news_of_block (cs := #[.slice A4 k c4]) (heap_alloc_new _ _)) (by simp [Value.oneCell']) (by omega) (by simp only [maxLen]; omega) (by omega) (by simp; omega) (w4.heap.size + 1) (by simp) ?_; intro g5 cap5 w5 hown5 hgrow5 hat5 hlt5)
          have hs5 : w4.heap.size ≤ w5.heap.size := by have := hgrow5.size; simp at this; omega
          have GM : Hid (OwnMat w5 wo.heap.size w5.heap.size (.slice (some ⟨g5, 0, none⟩) (j + 1) cap5) (j + 1) (m ++ [u]) (vs ++ [.slice A4 k c4])) := HM4.out.push (row := u) hs4 HUL.out HO4.out hW3 hown5 hgrow5
          have GL : Hid (OwnR w5 w.heap.size wo.heap.size 2 (.slice (some ⟨w.heap.size, 0, none⟩) k k) k (ints u)) :=
            ((HL4.out.below ((Below.refl w4.heap.size w4).alloc (Nat.le_refl _) _) (by omega)).grown hgrow5 (own_types HL4.out.1 hownO (by decide)))
          have GB : Hid (Below w.heap.size w w5) := (HB4.out.alloc (by omega) _).grown hgrow5 (by simp; omega) (fun q hq => by have := (hownO.lt q hq).1; omega)
          clear hown5 hgrow5 hat5 hownO
          go_wp2
          go_roundw
          case rel => exact ⟨g5, cap5, j + 1, _, _, u, rfl, by omega, huj, HN, GM, GL, GB.out, by omega⟩
          case measure => simp; omega
end Go.Proofs.Ytmpnhiemfdmenaa
/-
  The model's list of all trees with n nodes, plainly.
-/
namespace Go.Proofs.Ytmpnhiemfdmenaa
set_option maxRecDepth 100000

theorem grow_trees {n : Nat} (h1 : 1 ≤ n) (h8 : n ≤ 8) : Tr.growF (n - 1) [0] [] = Tr.treesL n := by
  have h := List.all_eq_true.1 Tr.grow_eq (n - 1) (by rw [List.mem_range]; omega)
  rw [show n - 1 + 1 = n from by omega] at h
  exact eq_of_beq h
end Go.Proofs.Ytmpnhiemfdmenaa
/-
  All trees with so many nodes, the model's.
-/
namespace Go.Proofs.Ytmpnhiemfdmenaa
open Go.RowKit Fld
set_option linter.unusedVariables false
set_option linter.unusedSimpArgs false
set_option maxRecDepth 100000

theorem lv_last {t : List Int} (h : Tr.isLv t = true) : 0 ≤ t.getD (t.length - 1) 0 ∧ t.getD (t.length - 1) 0 ≤ (t.length : Int) - 1 := by
  have h1 := Tr.isLv_iff.1 h
  have h2 := StepsTo.bd (t := t) (n := t.length) (k := t.length - 1) h1.2.2.2 h1.2.2.1 (by have := h1.1; omega) rfl
  have := h1.1
  omega
theorem lv_push {t : List Int} {x : Int} (h : Tr.isLv t = true) (hl : t.length + 1 ≤ 8) (h1 : 1 ≤ x) (h2 : x ≤ t.getD (t.length - 1) 0 + 1) : Tr.isLv (t ++ [x]) = true := by
  have h3 := Tr.isLv_iff.1 h
  have hlt := h3.1
  have hg : ∀ i, i < t.length → (t ++ [x]).getD i 0 = t.getD i 0 := fun i hi => by
    rw [List.getD_eq_getElem?_getD, List.getElem?_append_left hi, ← List.getD_eq_getElem?_getD]
  have hx : (t ++ [x]).getD t.length 0 = x := by
    rw [List.getD_eq_getElem?_getD, List.getElem?_append_right (Nat.le_refl _), Nat.sub_self]; rfl
  refine Tr.isLv_iff.2 ⟨by simp, by simp; omega, by rw [hg 0 hlt]; exact h3.2.2.1, fun i hi h1' => ?_⟩
  rw [List.length_append, List.length_singleton] at hi
  by_cases e : i = t.length
  · subst e
    rw [hx, hg (t.length - 1) (by omega)]
    exact ⟨h1, h2⟩
  · rw [hg i (by omega), hg (i - 1) (by omega)]
    exact h3.2.2.2 i (by omega) h1'
def growTo (f : Nat) (t : List Int) (m : List (List Int)) (k : Nat) : List (List Int) := (List.range k).foldl (fun (o : List (List Int)) (j : Nat) => Tr.growF f (t ++ [t.getD (t.length - 1) 0 + 1 - (j : Int)]) o) m
theorem growTo_step (f : Nat) (t : List Int) (m : List (List Int)) (k : Nat) : growTo f t m (k + 1) = Tr.growF f (t ++ [t.getD (t.length - 1) 0 + 1 - (k : Int)]) (growTo f t m k) := by
  unfold growTo; rw [List.range_succ, List.foldl_append]; rfl
theorem growF_succ (f : Nat) (t : List Int) (m : List (List Int)) : Tr.growF (f + 1) t m = growTo f t m (t.getD (t.length - 1) 0 + 1).toNat := rfl
theorem grow_len : ∀ (f : Nat) (t : List Int) (m : List (List Int)), Tr.isLv t = true → t.length + f ≤ 8 → (Tr.growF f t m).length ≤ m.length + 9 ^ f
  | 0, t, m, _, _ => by
    rw [Tr.growF]; split
    · simp
    · simp
  | f+1, t, m, h, hl => by
    rw [growF_succ]
    have hb := lv_last h
    have key : ∀ k : Nat, (k : Int) ≤ t.getD (t.length - 1) 0 + 1 → (growTo f t m k).length ≤ m.length + k * 9 ^ f := by
      intro k
      induction k with
      | zero => intro _; simp [growTo]
      | succ k ih =>
        intro hk
        rw [growTo_step]
        have h1 := grow_len f (t ++ [t.getD (t.length - 1) 0 + 1 - (k : Int)]) (growTo f t m k) (lv_push h (by omega) (by omega) (by omega)) (by rw [List.length_append]; simp; omega)
        have h2 := ih (by omega)
        have e : (k + 1) * 9 ^ f = k * 9 ^ f + 9 ^ f := by rw [Nat.add_mul, Nat.one_mul]
        omega
    have h1 := key (t.getD (t.length - 1) 0 + 1).toNat (by omega)
    have h2 : (t.getD (t.length - 1) 0 + 1).toNat ≤ 9 := by omega
    have h3 : (t.getD (t.length - 1) 0 + 1).toNat * 9 ^ f ≤ 9 * 9 ^ f := Nat.mul_le_mul_right _ h2
    have e : 9 ^ (f + 1) = 9 * 9 ^ f := by rw [Nat.pow_succ, Nat.mul_comm]
    omega
/-- what was there stands, but for a row that grows -/
theorem grown_chain {a b c : World} {r r' : Option Nat} (h : a.grownBy b r) (k : b.grownBy c r') (hr : r' = r ∨ ∃ g, r' = some g ∧ a.heap.size ≤ g) : a.grownBy c r :=
  ⟨k.os.trans h.os, k.tape.trans h.tape, k.output.trans h.output, Nat.le_trans h.size k.size, fun i hi hne => by
    rw [k.block i (Nat.lt_of_lt_of_le hi h.size) (fun e => by
      rcases hr with hr | ⟨g, hr, hg⟩
      · exact hne (by rw [e, hr])
      · rw [hr] at e; injection e with e; omega)]
    exact h.block i hi hne⟩
theorem below_grown {a b : World} (h : Below a.heap.size a b) : a.grownBy b none := ⟨h.os, h.tape, h.output, h.size, fun i hi _ => h.block i hi⟩
theorem grown_any {a b : World} {r : Option Nat} (h : a.grownBy b none) : a.grownBy b r := ⟨h.os, h.tape, h.output, h.size, fun i hi _ => h.block i hi (by simp)⟩
/-- what l03Grow hands back -/
def Grown (lo : Nat) (v : Value) (m' : List (List Int)) (w : World) (e : Ending) (w' : World) : Prop :=
  ∃ A q c vs, e = .returned (.slice A q c) ∧ OwnMat w' lo w'.heap.size (.slice A q c) q m' vs ∧ w.grownBy w' v.ownBlock ∧ (Value.ownBlock (.slice A q c) = v.ownBlock ∨ ∃ g, Value.ownBlock (.slice A q c) = some g ∧ w.heap.size ≤ g)
def SGrow (f : Nat) : Prop := ∀ (At A : Option Addr) (ct q c n lo lot : Nat) (t : List Int) (m : List (List Int)) (vs : List Value) (w : World), t.length + f = n → n ≤ 8 → Tr.isLv t = true → q + 9 ^ f ≤ 100000000 → lo ≤ w.heap.size →
    w.ownsRow lot 2 1 (.slice At t.length ct) t.length (ints t) → OwnMat w lo w.heap.size (.slice A q c) q m vs →
    Calls Try.prog 90 #[.slice At t.length ct, .int .i64 n, .slice A q c] w (Grown lo (.slice A q c) (Tr.growF f t m) w)
set_option maxHeartbeats 1000000 in
theorem sGrow_zero : SGrow 0 := by
  obtain ⟨j0, hj, hy0, hy1, hy2⟩ := info_parts info_row
  intro At A ct q c n lo lot t m vs w hn hn8 hlv hq hlo ht hm
  have hnt : t.length = n := by omega
  obtain ⟨e1, e2⟩ := lv_can hlv
  have HE : Hid ((Tr.can t).length = n) := by rw [Hid, e2, hnt]
  have HT := Lib.hid ht
  have HM := Lib.hid hm
  have HLV := Lib.hid hlv
  have HN := Lib.hid hnt
  have h1 : 1 ≤ n := by have := (Tr.isLv_iff.1 hlv).1; omega
  have hq' : q ≤ 100000000 := by omega
  rw [hnt] at ht HT ⊢
  obtain ⟨gt, capt, hvt⟩ := own_form ht (by omega)
  injection hvt with hA _ hcap
  subst hA hcap
  clear hn hlv hq e1 e2 hnt hm
  go_enter Try.func90, Try.ntmps90
  go_wp2_with fail
  refine (l03Canon_any _ n ct w.heap.size t _ HN.out HLV.out (Nat.le_refl _) (row_of_own ht)).mono ?_
  rintro e w1 ⟨A1, c1, rfl, own1, bel1⟩
  have hs1 := bel1.size
  have HB1 := Lib.hid bel1
  have HT1 := Lib.hid ((OwnR.of HT.out).below bel1 (Nat.le_refl _))
  have C1 := l01Same_any A1 _ n n c1 ct _ _ (Tr.can t) t w1 HE.out HN.out (by omega) (by omega) (row_of_own own1) HT1.out.row
  clear own1 bel1 ht
  by_cases hct : Tr.can t = t
  · have G : Hid (Tr.growF 0 t m = m ++ [t]) := by rw [Hid, Tr.growF, if_pos hct]
    rw [hct, eqL_self] at C1
    clear hct
    go_wp2_with fail
    refine C1.mono ?_
    rintro e w2 ⟨rfl, m2, rfl⟩
    go_wp2_with fail
    refine (l01Own_any ⟨gt, 0, none⟩ n ct w1.heap.size t _ HN.out (by omega) (by show w1.heap.size ≤ w1.heap.size; omega) ((HT1.out.row.more hs1).drewN m2)).mono ?_
    rintro e w3 ⟨A3, c3, rfl, own3, bel3⟩
    have hs3 : w1.heap.size ≤ w3.heap.size := bel3.size
    have HM3 := Lib.hid ((((HM.out.below HB1.out (Nat.le_refl _)).more (Nat.le_refl _) hs1).drewN m2).below bel3 (Nat.le_refl _))
    have HB3 : Hid (Below w.heap.size w w3) := (below_drewN HB1.out m2).trans (bel3.mono (by show w.heap.size ≤ w1.heap.size; exact hs1))
    have HO3 : Hid (w3.ownsRow w1.heap.size 2 1 (.slice A3 n c3) n (ints t)) := own3
    have hownO := HM3.out.outer.1
    clear own3 bel3
    go_wp2_with (at_builtin; refine wpList_append_lies _ rfl (.tmp 16) (.tmp 19) 35 rfl lo 24 j0 _ 1 24 Try.underlying35 hj hy0 hy1 hy2 rfl (by omega) (.slice A q c) q vs rfl (hownO.alloc _) ⟨w3.heap.size, 0, none⟩ 1 1 [.slice A3 n c3] rfl rfl (World.news_of_block (cs := #[.slice A3 n c3]) (heap_alloc_new _ _)) (by simp [Value.oneCell']) (by omega) (by simp only [maxLen]; omega) (by omega) (by simp; omega) (w3.heap.size + 1) (by simp) ?_; intro g5 cap5 w5 hown5 hgrow5 hat5 hlt5)
    have hs5 : w3.heap.size ≤ w5.heap.size := by have := hgrow5.size; simp at this; omega
    have GG : Hid (Grown lo (.slice A q c) (Tr.growF 0 t m) w (.returned (.slice (some ⟨g5, 0, none⟩) (q + 1) cap5)) w5) := by
      rw [Hid, G.out]
      refine ⟨_, _, _, _, rfl, HM3.out.push (row := t) hs3 HN.out HO3.out (by omega) hown5 hgrow5, ?_, ?_⟩
      · have h1 : w.grownBy (w3.alloc (.cells #[.slice A3 n c3] 24)) none := below_grown (HB3.out.alloc (by omega) _)
        exact grown_chain (grown_any h1) hgrow5 (.inl rfl)
      · rcases hat5 with e | e
        · exact .inl e.symm
        · exact .inr ⟨g5, rfl, by omega⟩
    clear hown5 hgrow5 hat5 hownO
    go_wp2
    go_ret
    exact GG.out
  · have G : Hid (Tr.growF 0 t m = m) := by rw [Hid, Tr.growF, if_neg hct]
    have e : eqL (Tr.can t) t = false := by unfold eqL; exact decide_eq_false hct
    rw [e] at C1
    clear hct e
    go_wp2_with fail
    refine C1.mono ?_
    rintro e w2 ⟨rfl, m2, rfl⟩
    have GG : Hid (Grown lo (.slice A q c) (Tr.growF 0 t m) w (.returned (.slice A q c)) (w1.drewN m2)) := by
      rw [Hid, G.out]
      exact ⟨A, q, c, vs, rfl, ((HM.out.below HB1.out (Nat.le_refl _)).drewN m2).more (Nat.le_refl _) hs1, grown_any (below_grown (below_drewN HB1.out m2)), .inl rfl⟩
    go_wp2
    go_ret
    exact GG.out
set_option maxHeartbeats 2000000 in
theorem sGrow_succ (f : Nat) (IH : SGrow f) : SGrow (f + 1) := by
  obtain ⟨i0, hi, hz0, hz1, hz2⟩ := info_parts info_i64
  intro At A ct q c n lo lot t m vs w hn hn8 hlv hq hlo ht hm
  obtain ⟨nt, hnt⟩ : ∃ nt, nt = t.length := ⟨_, rfl⟩
  have h1 : 1 ≤ nt := by have := (Tr.isLv_iff.1 hlv).1; omega
  have HNT : Hid (t.length = nt) := hnt.symm
  rw [← hnt] at ht ⊢
  obtain ⟨gt, capt, hvt⟩ := own_form ht (by omega)
  injection hvt with hA _ hcap
  subst hA hcap
  obtain ⟨L, hL⟩ : ∃ L, L = t.getD (t.length - 1) 0 := ⟨_, rfl⟩
  have hLb := lv_last hlv
  rw [← hL, ← hnt] at hLb
  have hLc := ht.cellAt (nt - 1) (by omega)
  have hLx : t[nt - 1]? = some L := by
    obtain ⟨x, hx⟩ := at_lt (show nt - 1 < t.length by omega)
    rw [hx, hL, ← hnt, lv_at hx]
  rw [ints_at hLx] at hLc
  have hnlt : nt < n := by omega
  have HFN : Hid (nt + (f + 1) = n) := by rw [Hid, hnt]; exact hn
  have HT : Hid (OwnR w lot w.heap.size 2 (.slice (some ⟨gt, 0, none⟩) nt ct) nt (ints t)) := OwnR.of ht
  have HM := Lib.hid hm
  have HLV := Lib.hid hlv
  have HLL : Hid (t.getD (t.length - 1) 0 = L) := hL.symm
  have HG : Hid (Tr.growF (f + 1) t m = growTo f t m (L + 1).toNat) := by rw [Hid, growF_succ, ← hL]
  have hpow : 9 ^ (f + 1) = 9 * 9 ^ f := by rw [Nat.pow_succ, Nat.mul_comm]
  have HQ : Hid (q + 9 * 9 ^ f ≤ 100000000) := by rw [Hid, ← hpow]; exact hq
  have HML : Hid (m.length = q) := hm.size
  have tn := beq_f (show ¬ (nt : Int) = (n : Int) by omega)
  clear hn hlv hq hpow hL hLx ht hm hnt
  go_enter Try.func90, Try.ntmps90
  go_wp2_with fail
  go_loopw [2, 7] (fun v l wr => ∃ (k q' c' : Nat) (A' : Option Addr) (vs' : List Value), v = .slice A' q' c' ∧ l = .int .i64 (L + 1 - (k : Int)) ∧ (k : Int) ≤ L + 1 ∧ Hid (q' ≤ q + k * 9 ^ f) ∧ Hid (OwnMat wr lo wr.heap.size (.slice A' q' c') q' (growTo f t m k) vs') ∧ Hid (w.grownBy wr (Value.ownBlock (.slice A q c))) ∧ Hid (Value.ownBlock (.slice A' q' c') = Value.ownBlock (.slice A q c) ∨ ∃ g, Value.ownBlock (.slice A' q' c') = some g ∧ w.heap.size ≤ g) ∧ w.heap.size ≤ wr.heap.size) (fun _ l _ => (intOf l).toNat)
  case atStart => exact ⟨0, q, c, A, vs, rfl, by simp, by omega, by rw [Hid]; omega, HM.out, World.grownBy.refl _ _, .inl rfl, Nat.le_refl _⟩
  case round =>
    obtain ⟨k, q', c', A', vs', rfl, rfl, hk, HQ', HM', HGR, HOB, hsz⟩ := hrel
    by_cases hlt : (k : Int) < L + 1
    · have hlev : 1 ≤ L + 1 - (k : Int) := by omega
      obtain ⟨lev, hlv2⟩ : ∃ lev, lev = L + 1 - (k : Int) := ⟨_, rfl⟩
      have hl1 : 1 ≤ lev := by omega
      have hl8 : lev ≤ 9 := by omega
      have HS : Hid (growTo f t m (k + 1) = Tr.growF f (t ++ [lev]) (growTo f t m k)) := by rw [Hid, growTo_step, HLL.out, hlv2]
      have HPL : Hid (Tr.isLv (t ++ [lev]) = true) := lv_push HLV.out (by have := HNT.out; have := HFN.out; omega) hl1 (by rw [HLL.out]; omega)
      have HT' := Lib.hid (HT.out.grown HGR.out (own_types HT.out.1 HM.out.outer.1 (by decide)))
      have hk9 : k + 1 ≤ 9 := by omega
      have HQ2 : Hid (q' + 9 ^ f ≤ 100000000) := by
        have h2 := HQ'.out
        have h3 := HQ.out
        have h4 : (k + 1) * 9 ^ f ≤ 9 * 9 ^ f := Nat.mul_le_mul_right _ hk9
        rw [Nat.add_mul, Nat.one_mul] at h4
        rw [Hid]; omega
      have hrng : L + 1 - (k : Int) = lev := hlv2.symm
      rw [hrng]
      have hlm : lev - 1 = L + 1 - ((k + 1 : Nat) : Int) := by omega
      have HLM := Lib.hid hlm
      clear hrng hlm hlv2
      go_wp2_with fail
      refine (l01Own_any ⟨gt, 0, none⟩ nt ct w.heap.size t _ HNT.out (by omega) hsz HT'.out.row).mono ?_
      rintro e w1 ⟨A1, c1, rfl, own1, bel1⟩
      have hs1 := bel1.size
      have HB1 := Lib.hid bel1
      have HO1 := Lib.hid own1
      clear bel1
      go_wp2_with (at_builtin; refine wpList_append_lies _ rfl (.tmp 34) (.tmp 36) 24 rfl wr.heap.size 2 i0 _ 1 8 Try.underlying24 hi hz0 hz1 hz2 rfl (by omega) (.slice A1 nt c1) nt (ints t) rfl (own1.alloc _) ⟨w1.heap.size, 0, none⟩ 1 1 [.int .i64 lev] rfl rfl (World.news_of_block (cs := #[.int .i64 lev]) (heap_alloc_new _ _)) (by simp [Value.oneCell']) (by omega) (by simp only [maxLen]; omega) (by omega) (by simp; omega) (w1.heap.size + 1) (by simp) ?_; intro g2 c2 w2 hown2 hgrow2 hat2 hlt2)
      have BW2 : Hid (Below wr.heap.size wr w2) := (HB1.out.alloc hs1 _).grown hgrow2 (by simp; omega) (fun q hq => (HO1.out.lt q hq).1)
      have hs2 : wr.heap.size ≤ w2.heap.size := BW2.out.size
      have HLN : Hid ((t ++ [lev]).length = nt + 1) := by rw [Hid, List.length_append, HNT.out]; rfl
      have HM2 : Hid (OwnMat w2 lo w2.heap.size (.slice A' q' c') q' (growTo f t m k) vs') := (HM'.out.below BW2.out (Nat.le_refl _)).more (Nat.le_refl _) hs2
      have C1 := IH (some ⟨g2, 0, none⟩) A' c2 q' c' n lo wr.heap.size (t ++ [lev]) (growTo f t m k) vs' w2 (by rw [HLN.out]; have := HFN.out; omega) hn8 HPL.out HQ2.out (by omega) (by
        have e : ints t ++ [.int .i64 lev] = ints (t ++ [lev]) := by simp [ints, intsK]
        rw [e] at hown2
        rw [HLN.out]; exact hown2) HM2.out
      rw [HLN.out, ← HS.out] at C1
      clear hown2 hgrow2 hat2 own1
      go_wp2_with fail
      refine C1.mono ?_
      rintro e w3 ⟨A3, q3, c3, vs3, rfl, hm3, hg3, hb3⟩
      have HM3 := Lib.hid hm3
      have hs3 : w2.heap.size ≤ w3.heap.size := hg3.size
      have HGR3 : Hid (w.grownBy w3 (Value.ownBlock (.slice A q c))) := grown_chain (grown_chain HGR.out (grown_any (below_grown BW2.out)) (.inl rfl)) hg3 HOB.out
      have HOB3 : Hid (Value.ownBlock (.slice A3 q3 c3) = Value.ownBlock (.slice A q c) ∨ ∃ g, Value.ownBlock (.slice A3 q3 c3) = some g ∧ w.heap.size ≤ g) := by
        rcases hb3 with hb3 | ⟨g, hb3, hg⟩
        · rw [Hid, hb3]; exact HOB.out
        · exact .inr ⟨g, hb3, by omega⟩
      have HQ3 : Hid (q3 ≤ q + (k + 1) * 9 ^ f) := by
        have h1 := HM3.out.size
        rw [HS.out] at h1
        have h2 := grow_len f (t ++ [lev]) (growTo f t m k) HPL.out (by rw [HLN.out]; have := HFN.out; omega)
        have h3 := HM'.out.size
        have h4 := HQ'.out
        rw [Hid, Nat.add_mul, Nat.one_mul]; omega
      clear hm3 hg3 hb3 C1
      go_wp2
      go_roundw
      case rel => exact ⟨k + 1, q3, c3, A3, vs3, rfl, by rw [← HLM.out], by omega, HQ3, HM3, HGR3, HOB3, by omega⟩
      case measure => simp [intOf]; omega
    · have hk2 : (k : Int) = L + 1 := by omega
      have G : Hid (Grown lo (.slice A q c) (Tr.growF (f + 1) t m) w (.returned (.slice A' q' c')) wr) := by
        rw [Hid, HG.out, show (L + 1).toNat = k from by omega]
        exact ⟨A', q', c', vs', rfl, HM'.out, HGR.out, HOB.out⟩
      have e0 : L + 1 - (k : Int) = 0 := by omega
      rw [e0]
      clear hk2 e0
      go_wp2
      go_ret
      exact G.out
theorem sGrow_all : ∀ f, SGrow f
  | 0 => sGrow_zero
  | f+1 => sGrow_succ f (sGrow_all f)
theorem l03Trees_any (n : Nat) (w : World) (h1 : 1 ≤ n) (h8 : n ≤ 8) : Calls Try.prog 68 #[.int .i64 n] w (NewMat (Tr.treesL n).length (Tr.treesL n) w) := by
  have own1 := World.ownsRow_lit (base := w.heap.size) (size := 1) (e := 2) w #[.int .i64 0] 1 (Nat.le_refl _) (by simp [maxLen]) rfl
  have C1 := sGrow_all (n - 1) (some ⟨w.heap.size, 0, none⟩) none 1 0 0 n w.heap.size w.heap.size [0] [] [] (w.alloc (.cells #[.int .i64 0] 2)) (by simp; omega) h8 (by decide) (by
    have : n - 1 ≤ 7 := by omega
    have h2 : 9 ^ (n - 1) ≤ 9 ^ 7 := Nat.pow_le_pow_right (by omega) this
    omega) (by simp) own1 ⟨⟨World.ownsRow_nil _ _ _ _, fun g e => by simp [Value.ownBlock] at e⟩, rfl, fun r row hr => by simp at hr, fun r s u t g _ hu => by simp at hu⟩
  rw [grow_trees h1 h8] at C1
  go_enter Try.func68, Try.ntmps68
  go_wp2_with fail
  refine C1.mono ?_
  rintro e w3 ⟨A3, q3, c3, vs3, rfl, hm3, hg3, hb3⟩
  have e1 : (Tr.treesL n).length = q3 := hm3.size
  have G : Hid (NewMat (Tr.treesL n).length (Tr.treesL n) w (.returned (.slice A3 q3 c3)) w3) := by
    rw [Hid, e1]
    refine ⟨A3, c3, vs3, rfl, hm3, ?_⟩
    exact ((Below.refl _ _).alloc (Nat.le_refl _) _).grown hg3 (by simp) (fun b hb => by simp [Value.ownBlock] at hb)
  clear hm3 hg3 hb3 C1 e1
  go_wp2
  go_ret
  exact G.out
end Go.Proofs.Ytmpnhiemfdmenaa
/-
  A list of lists beside a code, as calls hand it back.
-/
namespace Go.Proofs.Ytmpnhiemfdmenaa
open Go.RowKit Fld
set_option linter.unusedVariables false
set_option linter.unusedSimpArgs false
set_option maxRecDepth 100000

/-- a list of lists that the call owns, beside a code -/
def ResM (r : List (List Int) × Int) (w : World) (e : Ending) (w' : World) : Prop :=
  r.1.length + total r.1 ≤ 1048576 ∧ ∃ A c vs, e = .returned (.tuple #[.slice A r.1.length c, .int .i64 r.2]) ∧ OwnMat w' w.heap.size w'.heap.size (.slice A r.1.length c) r.1.length r.1 vs ∧ Below w.heap.size w w'
theorem OwnMat.nil' (w : World) (lo hi : Nat) : OwnMat w lo hi (.slice none 0 0) 0 [] [] :=
  ⟨⟨World.ownsRow_nil _ _ _ _, fun g e => by simp [Value.ownBlock] at e⟩, rfl, fun r row hr => by simp at hr, fun r s u t g _ hu => by simp at hu⟩
theorem ResM.nil {r : List (List Int) × Int} {w w' : World} {k : Int} (h : r = ([], k)) (hb : Below w.heap.size w w') : ResM r w (.returned (.tuple #[.slice none 0 0, .int .i64 k])) w' := by
  subst h
  exact ⟨by simp [total], none, 0, [], rfl, OwnMat.nil' _ _ _, hb⟩
theorem ResM.of {r : List (List Int) × Int} {w w' : World} {A : Option Addr} {n c : Nat} {m : List (List Int)} {vs : List Value} {k : Int} (h : r = (m, k)) (hn : m.length + total m ≤ 1048576)
    (ho : OwnMat w' w.heap.size w'.heap.size (.slice A n c) n m vs) (hb : Below w.heap.size w w') : ResM r w (.returned (.tuple #[.slice A n c, .int .i64 k])) w' := by
  subst h
  have e := ho.size
  subst e
  exact ⟨hn, A, c, vs, rfl, ho, hb⟩
/-- lists in memory below a bound: the model's -/
def LowMat (w : World) (hi : Nat) (A : Option Addr) (m : List (List Int)) : Prop := Mat w hi A m
theorem LowMat.below {w w' : World} {hi B : Nat} {A : Option Addr} {m : List (List Int)} (h : LowMat w hi A m) (hb : Below B w w') (hB : hi ≤ B) : LowMat w' hi A m := Mat.below h hb hB
theorem LowMat.within {w w' : World} {hi lo' hi' : Nat} {A : Option Addr} {m : List (List Int)} (h : LowMat w hi A m) (hb : Within lo' hi' w w') (hs : hi ≤ w.heap.size) (hd : hi ≤ lo') : LowMat w' hi A m :=
  Mat.keep h fun b o hbb => World.cell?_of_block (hb.block b (by omega) (by omega))
theorem LowMat.mat {w : World} {hi : Nat} {A : Option Addr} {m : List (List Int)} (h : LowMat w hi A m) : Mat w hi A m := h
theorem LowMat.drewN {w : World} {hi : Nat} {A : Option Addr} {m : List (List Int)} (h : LowMat w hi A m) (k : Nat) : LowMat (w.drewN k) hi A m := h
def ResMl (r : List (List Int) × Int) (w : World) (e : Ending) (w' : World) : Prop :=
  r.1.length + total r.1 ≤ 1048576 ∧ ∃ A c, e = .returned (.tuple #[.slice A r.1.length c, .int .i64 r.2]) ∧ LowMat w' w'.heap.size A r.1 ∧ Below w.heap.size w w'
theorem ResMl.nil {r : List (List Int) × Int} {w w' : World} {k : Int} (h : r = ([], k)) (hb : Below w.heap.size w w') : ResMl r w (.returned (.tuple #[.slice none 0 0, .int .i64 k])) w' := by
  subst h
  exact ⟨by simp [total], none, 0, rfl, fun k r hr => by simp at hr, hb⟩
theorem ResMl.of {r : List (List Int) × Int} {w w' : World} {A : Option Addr} {n c : Nat} {m : List (List Int)} {k : Int} (h : r = (m, k)) (hl : m.length = n) (hn : m.length + total m ≤ 1048576)
    (ho : Mat w' w'.heap.size A m) (hb : Below w.heap.size w w') : ResMl r w (.returned (.tuple #[.slice A n c, .int .i64 k])) w' := by
  subst h hl
  exact ⟨hn, A, c, rfl, ho, hb⟩
end Go.Proofs.Ytmpnhiemfdmenaa
/-
  What TreesOf answers, the program's and the model's.
-/
namespace Go.Proofs.Ytmpnhiemfdmenaa
open Go.RowKit Fld
set_option linter.unusedVariables false
set_option linter.unusedSimpArgs false
set_option maxRecDepth 100000

theorem total_bd {q : Nat} : ∀ {m : List (List Int)}, (∀ t ∈ m, t.length ≤ q) → total m ≤ m.length * q
  | [], _ => by simp [total]
  | x :: r, h => by
    have h1 := h x (by simp)
    have h2 := total_bd (fun t ht => h t (by simp [ht]) : ∀ t ∈ r, t.length ≤ q)
    have e : total (x :: r) = x.length + total r := by simp [total]
    rw [e, List.length_cons, Nat.add_mul, Nat.one_mul]; omega
theorem trees_total {n : Nat} (h1 : 1 ≤ n) (h8 : n ≤ 8) : (Tr.treesL n).length + total (Tr.treesL n) ≤ 1048576 := by
  obtain ⟨ha, hl⟩ := trees_all h1 h8
  have := total_bd (q := 8) (m := Tr.treesL n) (fun t ht => by rw [(ha t ht).2]; exact h8)
  omega
def treesOfA (a : Int) : List (List Int) × Int := if 1 ≤ a ∧ a ≤ 8 then (Tr.treesL a.toNat, 0) else ([], 2)
theorem treesOfA_yes {n : Nat} (h1 : 1 ≤ n) (h8 : n ≤ 8) : treesOfA (n : Int) = (Tr.treesL n, 0) := by
  unfold treesOfA; rw [if_pos (by omega)]; rfl
theorem treesOfA_no {a : Int} (h : ¬ (1 ≤ a ∧ a ≤ 8)) : treesOfA a = ([], 2) := if_neg h
end Go.Proofs.Ytmpnhiemfdmenaa
/-
  The list of all trees; what TreeAt answers, the program's and the model's.
-/
namespace Go.Proofs.Ytmpnhiemfdmenaa
open Go.RowKit Fld
set_option linter.unusedVariables false
set_option linter.unusedSimpArgs false
set_option maxRecDepth 100000

/-- rows are added behind the last one -/
theorem OwnMat.pushAll {w w2 : World} {lo hi n n' g cap c' : Nat} {v : Value} {A' : Option Addr} {m m' : List (List Int)} {vs vs' : List Value} (h : OwnMat w lo hi v n m vs) (hs : hi ≤ w.heap.size) (h' : OwnMat w hi w.heap.size (.slice A' n' c') n' m' vs') (hl : lo ≤ hi)
    (h2 : w2.ownsRow lo 24 1 (.slice (some ⟨g, 0, none⟩) (n + n') cap) (n + n') (vs ++ vs')) (hg : w.grownBy w2 v.ownBlock) : OwnMat w2 lo w2.heap.size (.slice (some ⟨g, 0, none⟩) (n + n') cap) (n + n') (m ++ m') (vs ++ vs') := by
  have hz : w.heap.size ≤ w2.heap.size := hg.size
  have carry : ∀ (lo' hi' : Nat) (A2 : Option Addr) (c2 : Nat) (r2 : List Int), OwnR w lo' hi' 2 (.slice A2 r2.length c2) r2.length (ints r2) → OwnR w2 lo' hi' 2 (.slice A2 r2.length c2) r2.length (ints r2) := fun lo' hi' A2 c2 r2 o2 => o2.grown hg (own_types o2.1 h.outer.1 (by decide))
  have side : ∀ (r : Nat) (u : Value) (g' : Nat), (vs ++ vs')[r]? = some u → u.ownBlock = some g' → (r < vs.length ∧ vs[r]? = some u ∧ g' < hi) ∨ (vs.length ≤ r ∧ vs'[r - vs.length]? = some u ∧ hi ≤ g') := by
    intro r u g' hu hb
    rcases Nat.lt_or_ge r vs.length with x | x
    · rw [List.getElem?_append_left x] at hu
      obtain ⟨A2, c2, e2, o2⟩ := h.inner r _ (List.getElem?_eq_getElem (by rw [← h.len]; exact x))
      rw [hu] at e2
      injection e2 with e2
      subst e2
      exact .inl ⟨x, hu, o2.2 g' hb⟩
    · rw [List.getElem?_append_right x] at hu
      have hx : r - vs.length < vs'.length := by
        rcases Nat.lt_or_ge (r - vs.length) vs'.length with y | y
        · exact y
        · rw [List.getElem?_eq_none y] at hu; cases hu
      obtain ⟨A2, c2, e2, o2⟩ := h'.inner _ _ (List.getElem?_eq_getElem (by rw [← h'.len]; exact hx))
      have hu0 := hu
      rw [hu] at e2
      injection e2 with e2
      subst e2
      exact .inr ⟨x, hu0, (o2.1.lt g' hb).1⟩
  refine ⟨OwnR.of h2, by simp [h.len, h'.len], ?_, ?_⟩
  · intro r row hr
    rcases Nat.lt_or_ge r m.length with x | x
    · rw [List.getElem?_append_left x] at hr
      obtain ⟨A2, c2, e2, o2⟩ := h.inner r row hr
      exact ⟨A2, c2, by rw [List.getElem?_append_left (by rw [h.len]; exact x)]; exact e2, (carry _ _ _ _ _ o2).more (Nat.le_refl _) (by omega)⟩
    · rw [List.getElem?_append_right x] at hr
      obtain ⟨A2, c2, e2, o2⟩ := h'.inner _ row hr
      exact ⟨A2, c2, by rw [List.getElem?_append_right (by rw [h.len]; exact x), h.len]; exact e2, (carry _ _ _ _ _ o2).more hl hz⟩
  · intro r s u t g' hne hu ht hb hb'
    rcases side r u g' hu hb with ⟨a1, a2, a3⟩ | ⟨a1, a2, a3⟩ <;> rcases side s t g' ht hb' with ⟨b1, b2, b3⟩ | ⟨b1, b2, b3⟩
    · exact h.apart r s u t g' hne a2 b2 hb hb'
    · omega
    · omega
    · exact h'.apart _ _ u t g' (by omega) a2 b2 hb hb'
def treesTo (k : Nat) : List (List Int) := (List.range k).flatMap fun n => Tr.treesL (n + 1)
theorem treesTo_step (k : Nat) : treesTo (k + 1) = treesTo k ++ Tr.treesL (k + 1) := by
  unfold treesTo; rw [List.range_succ, List.flatMap_append]; simp
theorem treesTo_end : treesTo 8 = Tr.allL := rfl
theorem treesTo_len : ∀ k, k ≤ 8 → (treesTo k).length ≤ k * 115
  | 0, _ => by simp [treesTo]
  | k+1, h => by
    rw [treesTo_step, List.length_append]
    have := treesTo_len k (by omega)
    have := (trees_all (n := k + 1) (by omega) (by omega)).2
    omega
theorem own_addr {w : World} {lo : Nat} {T : TypeId} {A : Option Addr} {n c : Nat} {vs : List Value} (h : w.ownsRow lo T 1 (.slice A n c) n vs) (h1 : 0 < n) : ∃ g, A = some ⟨g, 0, none⟩ := by
  obtain ⟨g, cap, hv⟩ := own_form h h1
  injection hv with hA _ _
  exact ⟨g, hA⟩
theorem vals_one {w : World} {lo hi n : Nat} {v : Value} {m : List (List Int)} {vs : List Value} (h : OwnMat w lo hi v n m vs) : ∀ u ∈ vs, u.oneCell' = true := by
  intro u hu
  obtain ⟨k, hk⟩ := List.mem_iff_getElem?.1 hu
  have hkl : k < m.length := by
    rw [← h.len]
    rcases Nat.lt_or_ge k vs.length with y | y
    · exact y
    · rw [List.getElem?_eq_none y] at hk; cases hk
  obtain ⟨A, c, e, _⟩ := h.inner k _ (List.getElem?_eq_getElem hkl)
  rw [hk] at e
  injection e with e
  subst e
  rfl
theorem trees_pos {n : Nat} (h1 : 1 ≤ n) : 1 ≤ (Tr.treesL n).length := by
  unfold Tr.treesL
  rw [show (116 : Nat) = 115 + 1 from rfl, Tr.treesF]
  simp
set_option maxHeartbeats 1000000 in
theorem allTrees_any (w : World) : Calls Try.prog 76 #[] w (NewMat 200 Tr.allL w) := by
  obtain ⟨j0, hj, hy0, hy1, hy2⟩ := info_parts info_row
  go_enter Try.func76, Try.ntmps76
  go_wp2_with (at_make; refine wpList_make_own _ rfl _ _ 35 rfl w.heap.size 24 j0 (.slice none 0 0) 1 Try.underlying35 hj hy0 hy1 .i64 .i64 _ 200 rfl rfl rfl (by rw [hy2]; omega) (by unfold maxLen; omega) (Nat.le_refl _) ?_; intro w1 hown hg)
  have M0 : Hid (OwnMat w1 w.heap.size w1.heap.size (.slice (some ⟨w.heap.size, 0, none⟩) 0 200) 0 [] []) := ⟨OwnR.of hown, rfl, fun r row hr => by simp at hr, fun r s u t g _ hu => by simp at hu⟩
  have B0 : Hid (Below w.heap.size w w1) := (Below.refl _ _).grown hg (Nat.le_refl _) (fun k hk => by cases hk)
  have hs0 := hg.size
  clear hown hg
  go_wp2_with fail
  go_loopw [1, 2] (fun v i wr => ∃ (k q g cap : Nat) (vs : List Value), k ≤ 8 ∧ v = .slice (some ⟨g, 0, none⟩) q cap ∧ i = .int .i64 ((k : Int) + 1) ∧ Hid (OwnMat wr w.heap.size wr.heap.size (.slice (some ⟨g, 0, none⟩) q cap) q (treesTo k) vs) ∧ Below w.heap.size w wr ∧ w.heap.size ≤ wr.heap.size) (fun _ i _ => 9 - (intOf i).toNat)
  case atStart => exact ⟨0, 0, w.heap.size, 200, [], Nat.zero_le _, rfl, rfl, M0, B0.out, hs0⟩
  case round =>
    obtain ⟨k, q, g, cap, vs, hk, rfl, rfl, HM, HB, hsz⟩ := hrel
    by_cases hlt : k < 8
    · have hq : q ≤ 920 := by
        have h1 := HM.out.size
        have h2 := treesTo_len k hk
        omega
      have HBB := Lib.hid HB
      have C1 := treesWith_any (k + 1) wr (by omega) (by omega)
      have h115 := (trees_all (n := k + 1) (by omega) (by omega)).2
      have hpos := trees_pos (n := k + 1) (by omega)
      obtain ⟨T, hT⟩ : ∃ T, T = Tr.treesL (k + 1) := ⟨_, rfl⟩
      have HS : Hid (treesTo (k + 1) = treesTo k ++ T) := by rw [Hid, hT]; exact treesTo_step k
      rw [← hT] at C1 h115 hpos
      obtain ⟨N, hN⟩ : ∃ N, N = T.length := ⟨_, rfl⟩
      rw [← hN] at C1 h115 hpos
      clear HB hT hN
      go_wp2_with fail
      refine C1.mono ?_
      rintro e w2 ⟨A2, c2, vs2, rfl, own2, bel2⟩
      have hs2 := bel2.size
      have HM2 := Lib.hid (HM.out.below bel2 (Nat.le_refl _))
      have HO2 := Lib.hid own2
      have HB2 := Lib.hid (HBB.out.trans (bel2.mono hsz))
      have hownO := HM2.out.outer.1
      obtain ⟨g2, rfl⟩ := own_addr own2.outer.1 (by omega)
      have HLEN : Hid (vs2.length = N * 1) := by rw [Hid, HO2.out.len, HO2.out.size, Nat.mul_one]
      have HNEW : Hid (∀ j u, vs2[j]? = some u → w2.cell? ((⟨g2, 0, none⟩ : Addr).add j) = some u) := (row_of_own HO2.out.outer.1).news
      have HONE := Lib.hid (vals_one HO2.out)
      clear own2 bel2 C1
      go_wp2_with (at_builtin; refine wpList_append_lies _ rfl (.tmp 8) (.tmp 10) 35 rfl w.heap.size 24 j0 _ 1 24 Try.underlying35 hj hy0 hy1 hy2 rfl (by omega) (.slice (some ⟨g, 0, none⟩) q cap) q vs rfl hownO ⟨g2, 0, none⟩ N c2 vs2 rfl HLEN.out HNEW.out HONE.out (by omega) (by simp only [maxLen]; omega) (by omega) (by omega) w2.heap.size rfl ?_; intro g5 cap5 w5 hown5 hgrow5 hat5 hlt5)
      have GM : Hid (OwnMat w5 w.heap.size w5.heap.size (.slice (some ⟨g5, 0, none⟩) (q + N) cap5) (q + N) (treesTo (k + 1)) (vs ++ vs2)) := by
        rw [Hid, HS.out]
        exact HM2.out.pushAll hs2 HO2.out hsz hown5 hgrow5
      have GB : Hid (Below w.heap.size w w5) := HB2.out.grown hgrow5 (by omega) (fun z hz => (hownO.lt z hz).1)
      have hs5 : w2.heap.size ≤ w5.heap.size := hgrow5.size
      clear hown5 hgrow5 hat5 hownO
      go_wp2
      go_roundw
      case rel => exact ⟨k + 1, q + N, g5, cap5, _, by omega, rfl, by go_num, GM, GB.out, by omega⟩
      case measure => simp [intOf]; omega
    · obtain rfl : k = 8 := by omega
      have e : q = 200 := by have := HM.out.size; rw [treesTo_end, Tr.allL_len] at this; omega
      subst e
      have G : Hid (NewMat 200 Tr.allL w (.returned (.slice (some ⟨g, 0, none⟩) 200 cap)) wr) := ⟨_, _, vs, rfl, HM.out, HB⟩
      clear HB
      go_wp2
      go_ret
      exact G.out
theorem all_split : ∀ k, k ≤ 8 → ∃ rest, Tr.allL = treesTo k ++ rest := by
  intro k hk
  refine ⟨((List.range (8 - k)).map (· + k)).flatMap fun n => Tr.treesL (n + 1), ?_⟩
  rw [← treesTo_end]
  unfold treesTo
  rw [← List.flatMap_append]
  congr 1
  have : ∀ k, k ≤ 8 → List.range 8 = List.range k ++ (List.range (8 - k)).map (· + k) := by decide
  exact this k hk
def treeAtA (a : Int) : List Int × Int := if 0 ≤ a ∧ a ≤ 199 then (Tr.allL.getD a.toNat [], 0) else ([], 2)
theorem treeAtA_no {a : Int} (h : ¬ (0 ≤ a ∧ a ≤ 199)) : treeAtA a = ([], 2) := if_neg h
theorem treeAtA_yes {a : Nat} {t : List Int} (ht : Tr.allL[a]? = some t) (h : a ≤ 199) : treeAtA (a : Int) = (t, 0) := by
  unfold treeAtA
  rw [if_pos (by omega), Int.toNat_natCast, List.getD_eq_getElem?_getD, ht]; rfl
theorem all_len {a : Nat} {t : List Int} (ht : Tr.allL[a]? = some t) : t.length ≤ 8 := by
  have hm := List.mem_of_getElem? ht
  rw [← treesTo_end] at hm
  unfold treesTo at hm
  rw [List.mem_flatMap] at hm
  obtain ⟨n, hn, h⟩ := hm
  rw [List.mem_range] at hn
  rw [((trees_all (n := n + 1) (by omega) (by omega)).1 t h).2]; omega
end Go.Proofs.Ytmpnhiemfdmenaa
/-
  Which lists are maps, plainly.
-/
namespace Go.Proofs.Ytmpnhiemfdmenaa
open Go.RowKit Fld
set_option linter.unusedVariables false
set_option linter.unusedSimpArgs false
set_option maxRecDepth 100000

def isMp (a : List Int) : Bool := decide (a.length = 38) && allNum a
def isChr (a : List Int) : Bool := isMp a && decide (a.getD 0 0 = 1)
def isInf (a : List Int) : Bool := isMp a && decide (a.getD 0 0 = 0)
theorem isMp_num {a : List Int} (h : a.length = 38) : isMp a = allNum a := by unfold isMp; rw [decide_eq_true h, Bool.true_and]
theorem isMp_len {a : List Int} (h : a.length ≠ 38) : isMp a = false := by unfold isMp; rw [decide_eq_false h, Bool.false_and]
theorem isMp_iff {a : List Int} : isMp a = true ↔ a.length = 38 ∧ allNum a = true := by unfold isMp; simp
theorem isMp_parts {a : List Int} {n : Nat} (h : isMp a = true) (hl : a.length = n) : n = 38 ∧ allNum a = true := by
  obtain ⟨h1, h2⟩ := isMp_iff.1 h
  exact ⟨by omega, h2⟩
theorem isChr_no {a : List Int} (h : isMp a = false) : isChr a = false := by unfold isChr; rw [h, Bool.false_and]
theorem isInf_no {a : List Int} (h : isMp a = false) : isInf a = false := by unfold isInf; rw [h, Bool.false_and]
theorem isChr_at {a : List Int} {x : Int} (h : isMp a = true) (hx : a[0]? = some x) : isChr a = decide (x = 1) := by
  unfold isChr; rw [h, Bool.true_and, List.getD_eq_getElem?_getD, hx]; rfl
theorem isInf_at {a : List Int} {x : Int} (h : isMp a = true) (hx : a[0]? = some x) : isInf a = decide (x = 0) := by
  unfold isInf; rw [h, Bool.true_and, List.getD_eq_getElem?_getD, hx]; rfl
def unitL : List Int := 1 :: List.replicate 37 0
def zero38 : List Int := List.replicate 38 0
theorem zero38_at {k : Nat} (h : k < 38) : zero38[k]? = some 0 := by unfold zero38; rw [List.getElem?_replicate, if_pos h]
theorem unitL_length : unitL.length = 38 := rfl
end Go.Proofs.Ytmpnhiemfdmenaa
/-
  Maps of trees, plainly: which lists are maps, the numbers of nodes at their places, and what is made of them.
-/
namespace Go.Proofs.Ytmpnhiemfdmenaa
open Go.RowKit Fld
set_option linter.unusedVariables false
set_option linter.unusedSimpArgs false
set_option maxRecDepth 100000

/-- the numbers of nodes of the trees at the places of a map -/
def lens : List Nat := [0, 1, 2, 3, 3, 4, 4, 4, 4, 5, 5, 5, 5, 5, 5, 5, 5, 5, 6, 6, 6, 6, 6, 6, 6, 6, 6, 6, 6, 6, 6, 6, 6, 6, 6, 6, 6, 6]
theorem lens_len : lens.length = 38 := rfl
theorem lens_bd : ∀ l ∈ lens, l ≤ 6 := by decide
theorem lens_to : lens = 0 :: (treesTo 6).map List.length := by decide +kernel
theorem to_len : (treesTo 6).length = 37 := by
  have := congrArg List.length lens_to
  rw [List.length_cons, List.length_map, lens_len] at this; omega
theorem lens_at {k : Nat} (h : k < 38) : ∃ l, lens[k]? = some l ∧ l ≤ 6 := by
  have h2 : k < lens.length := by rw [lens_len]; exact h
  exact ⟨lens[k], List.getElem?_eq_getElem h2, lens_bd _ (List.getElem_mem h2)⟩
theorem to_at {k : Nat} {t : List Int} (h : (treesTo 6)[k]? = some t) : lens[k + 1]? = some t.length := by
  rw [lens_to, List.getElem?_cons_succ, List.getElem?_map, h]; rfl
/-- the texts of the trees at the places of a map -/
def mapTx : List (List UInt8) := [] :: (treesTo 6).map Tr.txt
theorem mapTx_len : mapTx.length = 38 := by unfold mapTx; rw [List.length_cons, List.length_map, to_len]
theorem mapTx_lens : mapTx.map List.length = lens.map (2 * ·) := by decide +kernel
theorem mapTx_at {k l : Nat} (h : lens[k]? = some l) : ∃ x, mapTx[k]? = some x ∧ x.length = 2 * l := by
  have e : (mapTx.map List.length)[k]? = some (2 * l) := by rw [mapTx_lens, List.getElem?_map, h]; rfl
  rw [List.getElem?_map] at e
  cases hx : mapTx[k]? with
  | none => rw [hx] at e; cases e
  | some x => rw [hx] at e; exact ⟨x, rfl, by simpa using e⟩
/-- up to which number of nodes two maps agree -/
def agrL : List Int → List Int → List Nat → Int
  | x :: xs, y :: ys, l :: ls => if x = y then agrL xs ys ls else (l : Int) - 1
  | _, _, _ => 6
def agrA (a b : List Int) : Int := agrL a b lens
theorem drop_at {α : Type} {L : List α} {k : Nat} {x : α} (h : L[k]? = some x) : L.drop k = x :: L.drop (k + 1) := by
  have hlt : k < L.length := by
    rcases Nat.lt_or_ge k L.length with g | g
    · exact g
    · rw [List.getElem?_eq_none g] at h; cases h
  rw [List.getElem?_eq_getElem hlt] at h
  injection h with h
  rw [List.drop_eq_getElem_cons hlt, h]
theorem agr_next {a b : List Int} {k : Nat} {x y : Int} {l : Nat} (hx : a[k]? = some x) (hy : b[k]? = some y) (hl : lens[k]? = some l) (e : x = y) : agrL (a.drop k) (b.drop k) (lens.drop k) = agrL (a.drop (k + 1)) (b.drop (k + 1)) (lens.drop (k + 1)) := by
  rw [drop_at hx, drop_at hy, drop_at hl, agrL, if_pos e]
theorem agr_stop {a b : List Int} {k : Nat} {x y : Int} {l : Nat} (hx : a[k]? = some x) (hy : b[k]? = some y) (hl : lens[k]? = some l) (e : x ≠ y) : agrL (a.drop k) (b.drop k) (lens.drop k) = (l : Int) - 1 := by
  rw [drop_at hx, drop_at hy, drop_at hl, agrL, if_neg e]
theorem agr_end {a b : List Int} : agrL (a.drop 38) (b.drop 38) (lens.drop 38) = 6 := by
  have e : lens.drop 38 = [] := rfl
  rw [e]
  cases a.drop 38 <;> cases b.drop 38 <;> rfl
theorem agr_start (a b : List Int) : agrA a b = agrL (a.drop 0) (b.drop 0) (lens.drop 0) := rfl
/-- a map with 0 at all trees with more than n nodes -/
def truncL (a : List Int) (n : Int) : List Int := List.zipWith (fun x (l : Nat) => if n < (l : Int) then 0 else x) a lens
theorem truncL_length {a : List Int} (h : a.length = 38) (n : Int) : (truncL a n).length = 38 := by unfold truncL; rw [List.length_zipWith, h, lens_len, Nat.min_self]
theorem truncL_at {a : List Int} {n : Int} {k l : Nat} {x : Int} (hx : a[k]? = some x) (hl : lens[k]? = some l) : (truncL a n)[k]? = some (if n < (l : Int) then 0 else x) := by
  unfold truncL; rw [List.getElem?_zipWith, hx, hl]
def scaleL (a : List Int) (y : Int) : List Int := List.zipWith (fun x l => x * pw y l % 10007) a lens
theorem scaleL_length {a : List Int} (h : a.length = 38) (y : Int) : (scaleL a y).length = 38 := by unfold scaleL; rw [List.length_zipWith, h, lens_len, Nat.min_self]
theorem scaleL_at {a : List Int} {y : Int} {k l : Nat} {x : Int} (hx : a[k]? = some x) (hl : lens[k]? = some l) : (scaleL a y)[k]? = some (x * pw y l % 10007) := by
  unfold scaleL; rw [List.getElem?_zipWith, hx, hl]
/-- the answers -/
def agreeA (a b : List Int) : Int × Int := if isMp a = true ∧ isMp b = true then (agrA a b, 0) else (0, 1)
theorem agreeA_no1 {a b : List Int} (h : isMp a = false) : agreeA a b = (0, 1) := if_neg (by rw [h]; simp)
theorem agreeA_no2 {a b : List Int} (h : isMp b = false) : agreeA a b = (0, 1) := if_neg (by rw [h]; simp)
theorem agreeA_yes {a b : List Int} (h : isMp a = true) (k : isMp b = true) : agreeA a b = (agrA a b, 0) := if_pos ⟨h, k⟩
def truncA (a : List Int) (y : Int) : List Int × Int := if isMp a = true then (if 0 ≤ y ∧ y ≤ 6 then (truncL a y, 0) else ([], 2)) else ([], 1)
theorem truncA_no {a : List Int} {y : Int} (h : isMp a = false) : truncA a y = ([], 1) := if_neg (by rw [h]; simp)
theorem truncA_out {a : List Int} {y : Int} (h : isMp a = true) (hy : ¬ (0 ≤ y ∧ y ≤ 6)) : truncA a y = ([], 2) := by unfold truncA; rw [if_pos h, if_neg hy]
theorem truncA_yes {a : List Int} {y : Int} (h : isMp a = true) (hy : 0 ≤ y ∧ y ≤ 6) : truncA a y = (truncL a y, 0) := by unfold truncA; rw [if_pos h, if_pos hy]
def scaleMA (a : List Int) (y : Int) : List Int × Int := if isMp a = true then (if 0 ≤ y ∧ y < 10007 then (scaleL a y, 0) else ([], 2)) else ([], 1)
theorem scaleMA_no {a : List Int} {y : Int} (h : isMp a = false) : scaleMA a y = ([], 1) := if_neg (by rw [h]; simp)
theorem scaleMA_out {a : List Int} {y : Int} (h : isMp a = true) (hy : ¬ (0 ≤ y ∧ y < 10007)) : scaleMA a y = ([], 2) := by unfold scaleMA; rw [if_pos h, if_neg hy]
theorem scaleMA_yes {a : List Int} {y : Int} (h : isMp a = true) (hy : 0 ≤ y ∧ y < 10007) : scaleMA a y = (scaleL a y, 0) := by unfold scaleMA; rw [if_pos h, if_pos hy]
end Go.Proofs.Ytmpnhiemfdmenaa
/-
  Texts filled in one after another.
-/
namespace Go.Proofs.Ytmpnhiemfdmenaa
open Go.RowKit Fld
set_option linter.unusedVariables false
set_option linter.unusedSimpArgs false
set_option maxRecDepth 100000

/-- texts filled in one after another -/
def FillT (w : World) (n : Nat) (ss : List (List UInt8)) (k : Nat) (wr : World) : Prop :=
  wr.ownsRow w.heap.size 57 1 (.slice (some ⟨w.heap.size, 0, none⟩) n n) n ((strs ss).take k ++ List.replicate (n - k) (.string ⟨#[]⟩)) ∧ Below w.heap.size w wr
theorem FillT.below {w wr w2 : World} {n k : Nat} {ss : List (List UInt8)} (h : FillT w n ss k wr) (hb : Below wr.heap.size wr w2) : FillT w n ss k w2 :=
  ⟨((OwnR.of h.1).below hb (Nat.le_refl _)).1, h.2.trans (hb.mono h.2.size)⟩
theorem FillT.step {w wr : World} {n k : Nat} {ss : List (List UInt8)} {s : List UInt8} (h : FillT w n ss k wr) (hl : ss.length = n) (hs : ss[k]? = some s) : FillT w n ss (k + 1) (wr.setCell ⟨w.heap.size, k, none⟩ (.string ⟨s.toArray⟩)) := by
  obtain ⟨h1, h2⟩ := h
  refine ⟨?_, below_set h2 (Nat.le_refl _) _⟩
  have := (h1.stored k (.string ⟨s.toArray⟩)).1
  rw [fill_step (by rw [strs_length]; exact hl) (strs_at hs)] at this
  exact this
theorem FillT.start {w w1 : World} {n : Nat} {ss : List (List UInt8)} (h : w1.ownsRow w.heap.size 57 1 (.slice (some ⟨w.heap.size, 0, none⟩) n n) n (madeCells (Value.string ⟨#[]⟩).cells (n * 1)).toList) (hg : w.grownBy w1 none) : FillT w n ss 0 w1 := by
  refine ⟨?_, (Below.refl _ _).grown hg (Nat.le_refl _) (fun k hk => by cases hk)⟩
  have e : (madeCells (Value.string ⟨#[]⟩).cells (n * 1)).toList = (strs ss).take 0 ++ List.replicate (n - 0) (.string ⟨#[]⟩) := by
    rw [← fill_start, Nat.mul_one]; exact toList_madeCells_one _ _
  rw [e] at h
  exact h
end Go.Proofs.Ytmpnhiemfdmenaa
/-
  The texts of the trees of a list of level lists: the walk.
-/
namespace Go.Proofs.Ytmpnhiemfdmenaa
open Go.RowKit Fld
set_option linter.unusedVariables false
set_option linter.unusedSimpArgs false
set_option maxRecDepth 100000

set_option maxHeartbeats 1000000 in
theorem treesOf_any (A : Option Addr) (n c B : Nat) (f : List (List Int)) (w : World) (hl : f.length = n) (hn : n ≤ 1048576) (hr : ∀ r ∈ f, Tr.isLv r = true) (hB : B ≤ w.heap.size) (h : Mat w B A f) :
    Calls Try.prog 51 #[.slice A n c] w fun e w' => e = .returned (.slice (some ⟨w.heap.size, 0, none⟩) n n) ∧ w'.ownsRow w.heap.size 57 1 (.slice (some ⟨w.heap.size, 0, none⟩) n n) n (strs (f.map Tr.txt)) ∧ Below w.heap.size w w' := by
  obtain ⟨i0, hi, hz0, hz1, hz2⟩ := info_parts info_tree
  have HL := Lib.hid hl
  have HR := Lib.hid hr
  have HSL : Hid ((f.map Tr.txt).length = n) := by rw [Hid, List.length_map]; exact hl
  clear hl hr
  go_enter Try.func51, Try.ntmps51
  go_wp2_with (at_make; refine wpList_make_full _ rfl (.tmp 7) (.tmp 7) 55 rfl w.heap.size 57 i0 _ 1 Try.underlying55 hi hz0 hz1 .i64 .i64 _ _ n rfl rfl rfl rfl (by rw [hz2]; omega) (by simp only [maxLen]; omega) (Nat.le_refl _) ?_; intro w1 hown hg)
  have F0 := FillT.start (ss := f.map Tr.txt) hown hg
  clear hown hg hz0 hz1 hz2 hi
  go_wp2_with fail
  go_loopw [11] (fun i wr => ∃ k : Nat, k ≤ n ∧ i = .int .i64 k ∧ FillT w n (f.map Tr.txt) k wr) (fun i _ => n - (intOf i).toNat)
  case atStart => exact ⟨0, Nat.zero_le _, rfl, F0⟩
  case round =>
    obtain ⟨k, hk, rfl, HF⟩ := hrel
    by_cases hlt : k < n
    · obtain ⟨r, hr⟩ := at_lt (show k < f.length by rw [HL.out]; exact hlt)
      obtain ⟨b, o, Ak, ck, rfl, hb, hc, hrc, hcm, hrow⟩ := (h.below HF.2 hB) k r hr
      obtain ⟨r1, r8⟩ := lv_bd (HR.out r (List.mem_of_getElem? hr))
      have hsz := HF.2.size
      have hst : (f.map Tr.txt)[k]? = some (Tr.txt r) := by rw [List.getElem?_map, hr]; rfl
      have HST := Lib.hid hst
      have HFF := Lib.hid HF
      clear hr hst F0 HF
      go_wp2_with fail
      refine (treeOf_any Ak r.length ck B r wr rfl r1 r8 hrc (by omega) hrow).mono ?_
      rintro e w2 ⟨rfl, bel2⟩
      have HF2 := HFF.out.below bel2
      have hf := HF2.1.frozenAt k
      have ho := HF2.1.cellAt k (by omega)
      rw [fill_at (by rw [strs_length]; exact HSL.out) hlt] at ho
      have G := Lib.hid (HF2.step HSL.out HST.out)
      obtain ⟨X, hX⟩ : ∃ X : ByteArray, X = ⟨(Tr.txt r).toArray⟩ := ⟨_, rfl⟩
      rw [← hX] at G ⊢
      clear bel2 HF2 hc hrow hX
      go_wp2
      go_roundw
      case rel => exact ⟨k + 1, by omega, by go_num, G.out⟩
      case measure => simp [intOf]; omega
    · obtain rfl : k = n := by omega
      have G : Hid (wr.ownsRow w.heap.size 57 1 (.slice (some ⟨w.heap.size, 0, none⟩) k k) k (strs (f.map Tr.txt)) ∧ Below w.heap.size w wr) := by
        obtain ⟨h1, h2⟩ := HF
        rw [fill_end _ (by rw [strs_length]; exact HSL.out)] at h1
        exact ⟨h1, h2⟩
      clear HF F0
      go_wp2
      go_ret
      exact ⟨rfl, G.out⟩
end Go.Proofs.Ytmpnhiemfdmenaa
/-
  The texts of the trees of a list of level lists.
-/
namespace Go.Proofs.Ytmpnhiemfdmenaa
open Go.RowKit Fld
set_option linter.unusedVariables false
set_option linter.unusedSimpArgs false
set_option maxRecDepth 100000

theorem for_rows {f : List (List Int)} (h : isFor f = true) : ∀ r ∈ f, isTr r = true := fun r hr => by
  unfold isFor at h
  rw [Bool.and_eq_true] at h
  obtain ⟨k, hk⟩ := List.mem_iff_getElem?.1 hr
  have hlt : k < f.length := by
    rcases Nat.lt_or_ge k f.length with g | g
    · exact g
    · rw [List.getElem?_eq_none g] at hk; cases hk
  exact okAt_tr (okTo_at h.1 hlt) hk
theorem for_total {f : List (List Int)} (h : isFor f = true) : total f ≤ 8 := by
  unfold isFor at h
  rw [Bool.and_eq_true] at h
  simpa using h.2
theorem total_cons (x : List Int) (f : List (List Int)) : total (x :: f) = x.length + total f := by simp [total]
theorem len_total : ∀ {f : List (List Int)}, (∀ r ∈ f, 1 ≤ r.length) → f.length ≤ total f
  | [], _ => Nat.zero_le _
  | x :: f, h => by
    have h1 := len_total (f := f) (fun r hr => h r (by simp [hr]))
    have h2 := h x (by simp)
    rw [total_cons, List.length_cons]; omega
theorem flat_txt : ∀ {f : List (List Int)}, (∀ r ∈ f, Tr.isLv r = true) → (f.map Tr.txt).flatten.length = 2 * total f
  | [], _ => by simp [total]
  | x :: f, h => by
    have h1 := flat_txt (f := f) (fun r hr => h r (by simp [hr]))
    have h2 := (lv_txt (h x (by simp))).2.2.2
    rw [total_cons, List.map_cons, List.flatten_cons, List.length_append, h1, h2]; omega
end Go.Proofs.Ytmpnhiemfdmenaa
/-
  Values of maps at forests, plainly.
-/
namespace Go.Proofs.Ytmpnhiemfdmenaa
open Go.RowKit Fld
set_option linter.unusedVariables false
set_option linter.unusedSimpArgs false
set_option maxRecDepth 100000

theorem idx_some {u : List Int} : ∀ {m : List (List Int)} (c : Int), u ∈ m → ∃ i : Nat, Tr.idxL u m c = c + i ∧ m[i]? = some u
  | [], c, h => by cases h
  | x :: r, c, h => by
    by_cases e : x = u
    · exact ⟨0, by unfold Tr.idxL; rw [if_pos e]; omega, by rw [e]; rfl⟩
    · rw [List.mem_cons] at h
      obtain ⟨i, h1, h2⟩ := idx_some (m := r) (c + 1) (h.resolve_left (fun q => e q.symm))
      exact ⟨i + 1, by unfold Tr.idxL; rw [if_neg e, h1]; omega, by rw [List.getElem?_cons_succ]; exact h2⟩
theorem idx_none {u : List Int} : ∀ {m : List (List Int)} (c : Int), u ∉ m → Tr.idxL u m c = -1
  | [], c, h => rfl
  | x :: r, c, h => by
    rw [List.mem_cons, not_or] at h
    unfold Tr.idxL
    rw [if_neg (fun q => h.1 q.symm)]
    exact idx_none (c + 1) h.2
theorem to_mem {r : List Int} : r ∈ treesTo 6 ↔ ∃ n, n < 6 ∧ r ∈ Tr.treesL (n + 1) := by
  unfold treesTo; rw [List.mem_flatMap]
  constructor
  · rintro ⟨n, hn, h⟩; exact ⟨n, List.mem_range.1 hn, h⟩
  · rintro ⟨n, hn, h⟩; exact ⟨n, List.mem_range.2 hn, h⟩
theorem can_mem9 {t : List Int} (h : Tr.isLv t = true) : Tr.can t ∈ Tr.treesL t.length := by
  obtain ⟨h1, h2⟩ := lv_can h
  have h3 := Tr.isLv_iff.1 h1
  have h4 := Tr.isLv_iff.1 h
  have p1 := h4.1
  rw [← grow_trees h4.1 h4.2.1]
  refine Tr.grow_all (t.length - 1) [0] [] (Tr.can t) (by simp) h3 (by show (Tr.can t).length = 1 + (t.length - 1); omega) ?_ (Tr.can_can h).1
  obtain ⟨x, hx⟩ := at_lt (show 0 < (Tr.can t).length by omega)
  have e := h3.2.2.1
  rw [lv_at hx] at e
  subst e
  show (Tr.can t).take 1 = [0]
  rw [List.take_add_one, hx]; rfl
theorem small_idx {r : List Int} (h : isTr r = true) (h6 : r.length ≤ 6) : ∃ i : Nat, i < 37 ∧ Tr.idxL r (treesTo 6) 0 = i ∧ (treesTo 6)[i]? = some r := by
  obtain ⟨hlv, hc⟩ := tr_lv h
  have h1 := (lv_bd hlv).1
  have hm : r ∈ treesTo 6 := to_mem.2 ⟨r.length - 1, by omega, by
    have := can_mem9 hlv
    rw [hc] at this
    rw [show r.length - 1 + 1 = r.length by omega]; exact this⟩
  obtain ⟨i, e1, e2⟩ := idx_some 0 hm
  refine ⟨i, ?_, by omega, e2⟩
  rcases Nat.lt_or_ge i 37 with g | g
  · exact g
  · rw [List.getElem?_eq_none (by rw [to_len]; exact g)] at e2; cases e2
theorem large_idx {r : List Int} (h6 : 6 < r.length) : Tr.idxL r (treesTo 6) 0 = -1 := by
  refine idx_none 0 fun hm => ?_
  obtain ⟨n, hn, h⟩ := to_mem.1 hm
  have := ((trees_all (n := n + 1) (by omega) (by omega)).1 r h).2
  omega
theorem mapTx_nodup : mapTx.Nodup := by decide +kernel
theorem mapTx_inj {i j : Nat} {t u : List Int} (hi : (treesTo 6)[i]? = some t) (hj : (treesTo 6)[j]? = some u) (e : Tr.txt t = Tr.txt u) : i = j := by
  have h1 : mapTx[i + 1]? = some (Tr.txt t) := by unfold mapTx; rw [List.getElem?_cons_succ, List.getElem?_map, hi]; rfl
  have h2 : mapTx[j + 1]? = some (Tr.txt t) := by rw [e]; unfold mapTx; rw [List.getElem?_cons_succ, List.getElem?_map, hj]; rfl
  have hl : i + 1 < mapTx.length := by
    rcases Nat.lt_or_ge (i + 1) mapTx.length with g | g
    · exact g
    · rw [List.getElem?_eq_none g] at h1; cases h1
  have := (List.getElem?_inj hl mapTx_nodup).1 (h1.trans h2.symm)
  omega
theorem all_to {k : Nat} (h : k < 37) : Tr.allL[k]? = (treesTo 6)[k]? := by
  obtain ⟨rest, e⟩ := all_split 6 (by omega)
  rw [e, List.getElem?_append_left (by rw [to_len]; exact h)]
/-- the numbers that stand at texts of trees, the first k of them -/
def valN (xs : List Int) : Nat → List UInt8 → Int
  | 0 => fun _ => 0
  | k+1 => fun y => if y = Tr.txt (Tr.allL.getD k []) then xs.getD k 0 else valN xs k y
theorem valN_at {xs : List Int} {i : Nat} {r : List Int} (hr : (treesTo 6)[i]? = some r) : ∀ k, k ≤ 37 → valN xs k (Tr.txt r) = if i < k then xs.getD i 0 else 0
  | 0, _ => by rw [if_neg (by omega)]; rfl
  | k+1, hk => by
    obtain ⟨t, ht⟩ := at_lt (show k < (treesTo 6).length by rw [to_len]; omega)
    have e : Tr.allL.getD k [] = t := by rw [List.getD_eq_getElem?_getD, all_to (by omega), ht]; rfl
    unfold valN
    rw [e]
    by_cases hik : i = k
    · subst hik
      rw [hr] at ht
      injection ht with ht
      rw [if_pos (by rw [ht]), if_pos (by omega)]
    · rw [if_neg (fun q => hik (mapTx_inj hr ht q)), valN_at hr k (by omega)]
      by_cases hlt : i < k
      · rw [if_pos hlt, if_pos (by omega)]
      · rw [if_neg hlt, if_neg (by omega)]
theorem valN_put {xs : List Int} {k : Nat} {t : List Int} {x : Int} (ht : Tr.allL[k]? = some t) (hx : xs[k]? = some x) : valN xs (k + 1) = fun y => if y = Tr.txt t then x else valN xs k y := by
  have e : Tr.allL.getD k [] = t := by rw [List.getD_eq_getElem?_getD, ht]; rfl
  have e2 : xs.getD k 0 = x := by rw [List.getD_eq_getElem?_getD, hx]; rfl
  funext y
  show (if y = Tr.txt (Tr.allL.getD k []) then xs.getD k 0 else valN xs k y) = _
  rw [e, e2]
/-- the value of a map at a tree, and at the trees of a forest -/
def valT (a : List Int) (r : List Int) : Int := a.getD (Tr.idxL r (treesTo 6) 0 + 1).toNat 0
def prodA (a : List Int) (f : List (List Int)) : Int := f.foldl (fun p r => p * valT a r % 10007) 1
def anyBig (f : List (List Int)) : Bool := f.any fun r => decide (6 < r.length)
theorem valT_drop {a r : List Int} (h : isTr r = true) (h6 : r.length ≤ 6) : valN (a.drop 1) 37 (Tr.txt r) = valT a r := by
  obtain ⟨i, i37, e1, e2⟩ := small_idx h h6
  rw [valN_at e2 37 (by omega), if_pos i37]
  unfold valT
  rw [e1, show ((i : Int) + 1).toNat = i + 1 by omega, List.getD_eq_getElem?_getD, List.getD_eq_getElem?_getD, List.getElem?_drop, Nat.add_comm]
theorem valT_num {a r : List Int} (ha : allNum a = true) : 0 ≤ valT a r ∧ valT a r < 10007 := by
  unfold valT
  rw [List.getD_eq_getElem?_getD]
  cases h : a[(Tr.idxL r (treesTo 6) 0 + 1).toNat]? with
  | none => simp
  | some x => exact allNum_iff.1 ha x (List.mem_of_getElem? h)
theorem prodA_step {a : List Int} {f : List (List Int)} {k : Nat} {r : List Int} (hr : f[k]? = some r) : prodA a (f.take (k + 1)) = prodA a (f.take k) * valT a r % 10007 := by
  unfold prodA
  rw [List.take_add_one, hr, Option.toList_some, List.foldl_append]; rfl
theorem prodA_bd (a : List Int) (f : List (List Int)) : 0 ≤ prodA a f ∧ prodA a f < 10007 := by
  unfold prodA
  have : ∀ (f : List (List Int)) (p : Int), 0 ≤ p ∧ p < 10007 → 0 ≤ f.foldl (fun p r => p * valT a r % 10007) p ∧ f.foldl (fun p r => p * valT a r % 10007) p < 10007 := by
    intro f
    induction f with
    | nil => intro p hp; exact hp
    | cons r f ih => intro p hp; exact ih (p * valT a r % 10007) ⟨Int.emod_nonneg _ (by omega), Int.emod_lt_of_pos _ (by omega)⟩
  exact this f 1 (by omega)
def valueA (a : List Int) (f : List (List Int)) : Int × Int := if isMp a = true ∧ isFor f = true then (if anyBig f = true then (0, 2) else (prodA a f, 0)) else (0, 1)
theorem valueA_no1 {a : List Int} {f : List (List Int)} (h : isMp a = false) : valueA a f = (0, 1) := if_neg (by rw [h]; simp)
theorem valueA_no2 {a : List Int} {f : List (List Int)} (h : isFor f = false) : valueA a f = (0, 1) := if_neg (by rw [h]; simp)
theorem valueA_big {a : List Int} {f : List (List Int)} (h : isMp a = true) (k : isFor f = true) (b : anyBig f = true) : valueA a f = (0, 2) := by unfold valueA; rw [if_pos ⟨h, k⟩, if_pos b]
theorem valueA_yes {a : List Int} {f : List (List Int)} (h : isMp a = true) (k : isFor f = true) (b : anyBig f = false) : valueA a f = (prodA a f, 0) := by unfold valueA; rw [if_pos ⟨h, k⟩, if_neg (by rw [b]; simp)]
theorem anyBig_at {f : List (List Int)} {k : Nat} {r : List Int} (hr : f[k]? = some r) (h : 6 < r.length) : anyBig f = true := by
  unfold anyBig; rw [List.any_eq_true]; exact ⟨r, List.mem_of_getElem? hr, decide_eq_true h⟩
theorem anyBig_no {f : List (List Int)} (h : anyBig f = false) : ∀ r ∈ f, r.length ≤ 6 := fun r hr => by
  unfold anyBig at h
  rw [List.any_eq_false] at h
  have := h r hr
  simp at this; omega
theorem anyBig_take {f : List (List Int)} {k : Nat} {r : List Int} (h : anyBig (f.take k) = false) (hr : f[k]? = some r) (h6 : ¬ 6 < r.length) : anyBig (f.take (k + 1)) = false := by
  unfold anyBig at *
  rw [List.take_add_one, hr, List.any_append, h]
  simp; omega
end Go.Proofs.Ytmpnhiemfdmenaa
/-
  What the tests on maps answer, the program's and the model's alike.
-/
namespace Go.Proofs.Ytmpnhiemfdmenaa
open Go.RowKit Fld
set_option linter.unusedVariables false
set_option linter.unusedSimpArgs false
set_option maxRecDepth 100000

theorem isMap_any (A : Option Addr) (n c B : Nat) (xs : List Int) (w : World) (hl : xs.length = n) (hn : n ≤ 9223372036854775807) (h : Row w B A (ints xs)) :
    Calls Try.prog 32 #[.slice A n c] w fun e w' => e = .returned (.bool (isMp xs)) ∧ w = w' := by
  have HL := Lib.hid hl
  by_cases h0 : n = 38
  · have H := Lib.hid (isMp_num (a := xs) (by omega))
    have t : ((n : Int) == 38) = true := beq_t (by omega)
    clear hl h0
    go_enter Try.func32, Try.ntmps32
    go_wp2_with (go_at_call 58; refine (areNumbers_any _ _ _ B xs _ HL.out hn h).mono ?_; rintro e w' ⟨rfl, rfl⟩)
    go_ret
    exact ⟨ret_bool H.out.symm, rfl⟩
  · have H := Lib.hid (isMp_len (a := xs) (by omega))
    have t : ((n : Int) == 38) = false := beq_f (by omega)
    clear hl h0
    go_enter Try.func32, Try.ntmps32
    go_wp2
    go_ret
    exact ⟨ret_bool H.out.symm, rfl⟩
theorem l07Is_any (A : Option Addr) (n c B : Nat) (xs : List Int) (w : World) (hl : xs.length = n) (hn : n ≤ 9223372036854775807) (h : Row w B A (ints xs)) :
    Calls Try.prog 30 #[.slice A n c] w fun e w' => e = .returned (.bool (isMp xs)) ∧ w = w' := by
  have HL := Lib.hid hl
  by_cases h0 : n = 38
  · have H := Lib.hid (isMp_num (a := xs) (by omega))
    have t : ((n : Int) == 38) = true := beq_t (by omega)
    clear hl h0
    go_enter Try.func30, Try.ntmps30
    go_wp2_with (go_at_call 57; refine (l01Numbers_any _ _ _ B xs _ HL.out hn h).mono ?_; rintro e w' ⟨rfl, rfl⟩)
    go_ret
    exact ⟨ret_bool H.out.symm, rfl⟩
  · have H := Lib.hid (isMp_len (a := xs) (by omega))
    have t : ((n : Int) == 38) = false := beq_f (by omega)
    clear hl h0
    go_enter Try.func30, Try.ntmps30
    go_wp2
    go_ret
    exact ⟨ret_bool H.out.symm, rfl⟩
theorem map_first {A : Option Addr} {n B : Nat} {a : List Int} {w : World} (hm : isMp a = true) (hl : a.length = n) (h : Row w B A (ints a)) : ∃ x b o, a[0]? = some x ∧ A = some ⟨b, o, none⟩ ∧ w.cell? ⟨b, o, none⟩ = some (.int .i64 x) ∧ 1 ≤ n ∧ 0 ≤ x ∧ x < 10007 := by
  obtain ⟨h1, h2⟩ := isMp_parts hm hl
  obtain ⟨x, hx⟩ := at_lt (show 0 < a.length by omega)
  obtain ⟨b, o, e, _, hc⟩ := h 0 _ (ints_at hx)
  rw [Nat.add_zero] at hc
  obtain ⟨x0, x1⟩ := num_at h2 hx
  exact ⟨x, b, o, hx, e, hc, by omega, x0, x1⟩
theorem isCharacter_any (A : Option Addr) (n c B : Nat) (xs : List Int) (w : World) (hl : xs.length = n) (hn : n ≤ 9223372036854775807) (h : Row w B A (ints xs)) :
    Calls Try.prog 37 #[.slice A n c] w fun e w' => e = .returned (.bool (isChr xs)) ∧ w = w' := by
  have C0 := isMap_any A n c B xs w hl hn h
  cases hm : isMp xs
  · have H := Lib.hid (isChr_no hm)
    rw [hm] at C0
    clear hl
    go_enter Try.func37, Try.ntmps37
    go_wp2_with fail
    refine C0.mono ?_
    rintro e w' ⟨rfl, rfl⟩
    go_wp2
    go_ret
    exact ⟨ret_bool H.out.symm, rfl⟩
  · obtain ⟨x, b, o, hx, rfl, hc, p1, x0, x1⟩ := map_first hm hl h
    have H := Lib.hid (isChr_at hm hx)
    rw [hm] at C0
    clear hl hx
    by_cases hx1 : x = 1
    · have t : (x == 1) = true := beq_t hx1
      have D : Hid (decide (x = 1) = true) := decide_eq_true hx1
      clear hx1
      go_enter Try.func37, Try.ntmps37
      go_wp2_with fail
      refine C0.mono ?_
      rintro e w' ⟨rfl, rfl⟩
      go_wp2
      go_ret
      exact ⟨ret_bool (H.out.trans D.out).symm, rfl⟩
    · have t : (x == 1) = false := beq_f hx1
      have D : Hid (decide (x = 1) = false) := decide_eq_false hx1
      clear hx1
      go_enter Try.func37, Try.ntmps37
      go_wp2_with fail
      refine C0.mono ?_
      rintro e w' ⟨rfl, rfl⟩
      go_wp2
      go_ret
      exact ⟨ret_bool (H.out.trans D.out).symm, rfl⟩
end Go.Proofs.Ytmpnhiemfdmenaa
/-
  The value of a map at a forest: the program's parts.
-/
namespace Go.Proofs.Ytmpnhiemfdmenaa
open Go.RowKit Fld Go.Maps
set_option linter.unusedVariables false
set_option linter.unusedSimpArgs false
set_option maxRecDepth 100000

theorem keyedV : Keyed Try.prog 57 := Maps.string_keyed Try.underlying57
theorem zeroNum (w : World) : (zeroValue 48).run Try.prog w = .ok (.int .i64 0) w := by kernel_rfl
theorem keyTxV {x : List UInt8} (h : x.length ≤ 1048576) : keyOf Try.prog 57 (.string ⟨x.toArray⟩) = some (.string x) := by
  have h1 := Go.WideMaps.keyOf_string_mk (P := Try.prog) (k := 57) Try.underlying57 (s := ⟨x.toArray⟩) (by simp [ByteArray.size, maxLen]; omega)
  simpa using h1
theorem keyLitV {x : List UInt8} : WideAt.IsKeyLit (.string x) := by simp [WideAt.IsKeyLit]
/-- block b is a map that holds the numbers f -/
def HoldsV (D : DataW Unit) (f : List UInt8 → Int) : Prop := ∀ x, D.atKey (.string x) (.lit (.int .i64 0)) = .lit (.int .i64 (f x))
def MapV (w : World) (b n : Nat) (f : List UInt8 → Int) : Prop :=
  ∃ D : DataW Unit, w.ownsMap Try.prog 57 (plainElem Try.prog 48) b n D ∧ HoldsV D f
theorem MapV.made (w : World) : MapV (w.alloc (.map #[] 0)) w.heap.size 0 (fun _ => 0) :=
  ⟨.map [], World.ownsMap_made _ _ _ _, fun x => by simp [DataW.atKey]⟩
theorem MapV.lt {w : World} {b n : Nat} {f : List UInt8 → Int} (h : MapV w b n f) : b < w.heap.size := by
  obtain ⟨D, h1, _⟩ := h
  exact h1.lt
theorem MapV.below {w w' : World} {b n B : Nat} {f : List UInt8 → Int} (h : MapV w b n f) (hb : Below B w w') (hB : b < B) : MapV w' b n f := by
  obtain ⟨D, ⟨es, clock, h1, r⟩, h2⟩ := h
  exact ⟨D, ⟨es, clock, (hb.block b hB).trans h1, r⟩, h2⟩
theorem ownsMap_below {w w' : World} {b n B : Nat} {D : DataW Unit} (h : w.ownsMap Try.prog 57 (plainElem Try.prog 48) b n D) (hb : Below B w w') (hB : b < B) : w'.ownsMap Try.prog 57 (plainElem Try.prog 48) b n D := by
  obtain ⟨es, clock, h1, r⟩ := h
  exact ⟨es, clock, (hb.block b hB).trans h1, r⟩
theorem MapV.next {w w' : World} {b n : Nat} {f : List UInt8 → Int} (h : MapV w b n f) (hb : Below w.heap.size w w') : MapV w' b n f := h.below hb h.lt
theorem HoldsV.put {D : DataW Unit} {f : List UInt8 → Int} {x : List UInt8} {c : Int} (h : HoldsV D f) (hm : IsMap D) : HoldsV (D.put (.string x) (.lit (.int .i64 c))) (fun y => if y = x then c else f y) := fun y => by
  show _ = DataW.lit (.int .i64 (if y = x then c else f y))
  by_cases e : y = x
  · subst e
    rw [if_pos rfl, Maps.atKey_put_same hm keyLitV]
  · rw [if_neg e, Maps.atKey_put_other (fun q => e (by injection q))]; exact h y
def ResV (n : Nat) (f : List UInt8 → Int) (w : World) (e : Ending) (w' : World) : Prop := ∃ b, e = .returned (.map (some b)) ∧ MapV w' b n f ∧ Below w.heap.size w w'
set_option maxHeartbeats 4000000 in
theorem valuesOf_any (A : Option Addr) (n c B : Nat) (xs : List Int) (w : World) (hl : xs.length = n) (hn : n ≤ 37) (ha : allNum xs = true) (hB : B ≤ w.heap.size) (h : Row w B A (ints xs)) :
    Calls Try.prog 48 #[.slice A n c] w (ResV n (valN xs n) w) := by
  have HL := Lib.hid hl
  have NA := Lib.hid ha
  have hB1 : B ≤ (w.alloc (.map #[] 0)).heap.size := by simp; omega
  have M0 := MapV.made w
  have B0 : Below w.heap.size w (w.alloc (.map #[] 0)) := (Below.refl _ _).alloc (Nat.le_refl _) _
  have hmm := @run_makeMap Try.prog
  clear hl ha
  go_enter Try.func48, Try.ntmps48
  go_wp2_with fail
  refine (allTrees_any _).mono ?_
  rintro e w1 ⟨A1, c1, vs1, rfl, own1, bel1⟩
  have M1 := Lib.hid (M0.next bel1)
  have B1 := Lib.hid (B0.trans (bel1.mono (by simp)))
  have O1 := Lib.hid own1
  have hcap := (own_cap own1.outer.1).1
  have hlo : (w.alloc (.map #[] 0)).heap.size = w.heap.size + 1 := by simp
  have hlo2 := Lib.hid hlo
  clear M0 B0 own1 bel1 hlo
  have hb0 := M1.out.lt
  have OWN : Hid (∃ lo, w.heap.size < lo ∧ OwnMat w1 lo w1.heap.size (.slice A1 200 c1) 200 Tr.allL vs1) := ⟨_, by rw [hlo2.out]; omega, O1.out⟩
  clear O1 hlo2
  go_wp2_with fail
  go_loopw [12] (fun i wr => ∃ k : Nat, k ≤ n ∧ i = .int .i64 k ∧ Hid (MapV wr w.heap.size k (valN xs k)) ∧ Hid (∃ lo, w.heap.size < lo ∧ OwnMat wr lo wr.heap.size (.slice A1 200 c1) 200 Tr.allL vs1) ∧ Hid (Below w.heap.size w wr)) (fun i _ => n - (intOf i).toNat)
  case atStart => exact ⟨0, Nat.zero_le _, rfl, M1, OWN, B1⟩
  case round =>
    clear M1 OWN B1
    obtain ⟨k, hk, rfl, HM, HO, HB⟩ := hrel
    have HR := Lib.hid (h.below HB.out hB)
    by_cases hlt : k < n
    · obtain ⟨x, hx⟩ := at_lt (show k < xs.length by rw [HL.out]; exact hlt)
      obtain ⟨t, ht⟩ := at_lt (show k < Tr.allL.length by rw [Tr.allL_len]; omega)
      obtain ⟨lo, hlo, hO⟩ := HO.out
      have hlv : Tr.isLv t = true := by
        obtain ⟨j, hj⟩ : ∃ j, (treesTo 6)[k]? = some j := ⟨t, by rw [← all_to (by omega)]; exact ht⟩
        have e : j = t := by rw [all_to (by omega), hj] at ht; injection ht
        subst e
        have hm := List.mem_of_getElem? hj
        obtain ⟨q, hq, h9⟩ := to_mem.1 hm
        exact ((trees_all (n := q + 1) (by omega) (by omega)).1 _ h9).1
      obtain ⟨r1, r8⟩ := lv_bd hlv
      obtain ⟨b1, o1, Ak, ck, eA, _, hct, hrc, hcm, hrow⟩ := hO.mat k t ht
      subst eA
      obtain ⟨bx, ox, rfl, hbx, hcx⟩ := HR.out k _ (ints_at hx)
      obtain ⟨x0, x1⟩ := num_at NA.out hx
      have hwf : (Lit.int .i64 x).wf = true := by simp [Lit.wf, IntKind.min, IntKind.max, IntKind.signed, IntKind.bits]; omega
      have hsz := HB.out.size
      obtain ⟨D, hown, hD⟩ := HM.out
      have hbw := hown.lt
      have hmap := hown.isMap
      have HDP := Lib.hid (HoldsV.put (x := Tr.txt t) (c := x) hD hmap)
      have HDW : Hid (∀ W' : World, Below wr.heap.size wr W' → W'.ownsMap Try.prog 57 (plainElem Try.prog 48) w.heap.size k D) := fun W' hb => ownsMap_below hown hb hbw
      have C1 := fun d => treeOf_any Ak t.length ck wr.heap.size t (wr.drewN d) rfl r1 r8 hrc (Nat.le_refl _) (hrow.drewN d)
      have htl := (lv_txt hlv).2.2.2
      have hkey := keyTxV (x := Tr.txt t) (by omega)
      have HPUT := Lib.hid (valN_put ht hx)
      obtain ⟨T, hT⟩ : ∃ T, T = Tr.txt t := ⟨_, rfl⟩
      rw [← hT] at C1 hkey HPUT HDP
      obtain ⟨X, hX⟩ : ∃ X : ByteArray, X = ⟨T.toArray⟩ := ⟨_, rfl⟩
      rw [← hX] at C1 hkey
      have HK : Hid (∀ W' : World, Below wr.heap.size wr W' → W'.cell? ⟨bx, ox + k, none⟩ = some (.int .i64 x)) := fun W' hb => (hb.cell (p := ⟨bx, ox + k, none⟩) (World.block_lt_of_cell? wr _ hcx)).trans hcx
      have HOO := Lib.hid hO
      have k0 : (0 : Int) ≤ (k : Int) := Int.natCast_nonneg _
      have k1 : (k : Int) < (n : Int) := by omega
      have HNE : Hid (some bx ≠ some w.heap.size) := fun e => by have := Option.some.inj e; omega
      clear hx ht hlv hT hX hrow htl hO HO hown hD hmap HM
      go_wp2_with fail
      go_region_held3 (fun w' => w'.cell? ⟨bx, ox + k, none⟩ = some (.int .i64 x)) (first | go_keep | exact HK.out _ (below_undrew' bel2) | exact World.grownBy.cell hgrow3 (HK.out _ (below_undrew' bel2)) HNE.out)
        (first
          | (go_at_call 73; refine (C1 1).mono ?_; rintro e w2 ⟨rfl, bel2⟩)
          | (obtain ⟨w3, hrun, hown3, hgrow3⟩ := World.ownsMap.update (HDW.out w2 (below_undrew' bel2)) keyedV Try.underlying66 (by unfold maxLen; omega) hkey (plainElem_int Try.underlying48 hwf); rw [hrun]; go_simp))
      have bel2' := below_undrew' bel2
      have hs2 := bel2'.size
      have hs3 := hgrow3.size
      have GM : Hid (MapV w3 w.heap.size (k + 1) (valN xs (k + 1))) := ⟨_, hown3, by rw [HPUT.out]; exact HDP.out⟩
      have hWI : Within w.heap.size (w.heap.size + 1) w2 w3 := Within.grown hgrow3 (fun g' e => by injection e with e; omega)
      have GO : Hid (∃ lo, w.heap.size < lo ∧ OwnMat w3 lo w3.heap.size (.slice (some ⟨b1, o1, none⟩) 200 c1) 200 Tr.allL vs1) := ⟨lo, hlo, ((HOO.out.below bel2' (Nat.le_refl _)).within hWI (by omega) (.inr (by omega))).more (Nat.le_refl _) (by omega)⟩
      have GB : Hid (Below w.heap.size w w3) := (HB.out.trans (bel2'.mono hsz)).grown hgrow3 (by omega) (fun z hz => by injection hz with hz; omega)
      clear hown3 hgrow3 hrun bel2 bel2' hWI HB HR HOO HDW HDP
      go_wp2
      go_roundw
      case rel => exact ⟨k + 1, by omega, by go_num, GM, GO, GB⟩
      case measure => simp [intOf]; omega
    · obtain rfl : k = n := by omega
      have HD : Hid (ResV k (valN xs k) w (.returned (.map (some w.heap.size))) wr) := ⟨_, rfl, HM.out, HB.out⟩
      clear HM HO HB HR
      go_wp2
      go_ret
      exact HD.out
theorem isLarge_any (A : Option Addr) (n c : Nat) (w : World) (hn : n ≤ 1048576) : Calls Try.prog 46 #[.slice A n c] w fun e w' => e = .returned (.bool (decide (6 < n))) ∧ w = w' := by
  by_cases h : 6 < n
  · have G : Hid (decide (6 < n) = true) := decide_eq_true h
    have h1 : (6 : Int) < (n : Int) := by omega
    go_enter Try.func46, Try.ntmps46
    go_wp2
    go_ret
    exact ⟨ret_bool G.out.symm, rfl⟩
  · have G : Hid (decide (6 < n) = false) := decide_eq_false h
    have h1 : ¬ (6 : Int) < (n : Int) := by omega
    clear h
    go_enter Try.func46, Try.ntmps46
    go_wp2
    go_ret
    exact ⟨ret_bool G.out.symm, rfl⟩
set_option maxHeartbeats 1000000 in
theorem indexBig_any (A : Option Addr) (n c B : Nat) (f : List (List Int)) (w : World) (hl : f.length = n) (hn : n + total f ≤ 1048576) (h : Mat w B A f) :
    Calls Try.prog 75 #[.slice A n c, .func (.func 46) #[] #[]] w fun e w' => (∃ j : Int, e = .returned (.int .i64 j) ∧ (0 ≤ j ↔ anyBig f = true)) ∧ w = w' := by
  have HL := Lib.hid hl
  have HRL : Hid (∀ r ∈ f, r.length ≤ 1048576) := fun r hr => by
    obtain ⟨k, hk⟩ := List.mem_iff_getElem?.1 hr
    have := row_total hk; omega
  clear hl
  go_enter Try.func75, Try.ntmps75
  go_wp2_with fail
  go_loop [8] (fun i => ∃ k : Nat, k ≤ n ∧ i = .int .i64 k ∧ Hid (anyBig (f.take k) = false)) (fun i => n - (intOf i).toNat)
  case atStart => exact ⟨0, Nat.zero_le _, rfl, rfl⟩
  case round =>
    obtain ⟨k, hk, rfl, HT⟩ := hrel
    by_cases hlt : k < n
    · obtain ⟨r, hr⟩ := at_lt (show k < f.length by rw [HL.out]; exact hlt)
      obtain ⟨b, o, Ak, ck, rfl, _, hca, _, _, _⟩ := h k r hr
      have hrl := HRL.out r (List.mem_of_getElem? hr)
      have C1 := fun w' => isLarge_any Ak r.length ck w' hrl
      by_cases h6 : 6 < r.length
      · have G := Lib.hid (anyBig_at hr h6)
        rw [decide_eq_true h6] at C1
        clear hr HT h6
        go_wp2_with (go_at_call 46; refine (C1 _).mono ?_; rintro e w' ⟨rfl, rfl⟩)
        go_ret
        exact ⟨⟨_, rfl, ⟨fun _ => G.out, fun _ => Int.natCast_nonneg _⟩⟩, rfl⟩
      · have G := Lib.hid (anyBig_take HT.out hr h6)
        rw [decide_eq_false h6] at C1
        clear hr HT h6
        go_wp2_with (go_at_call 46; refine (C1 _).mono ?_; rintro e w' ⟨rfl, rfl⟩)
        go_round
        case rel => exact ⟨k + 1, by omega, by go_num, G⟩
        case measure => simp [intOf]; omega
    · have G : Hid (anyBig f = false) := by
        have := HT.out
        rw [List.take_of_length_le (by rw [HL.out]; omega)] at this
        exact this
      clear HT
      go_wp2
      go_ret
      exact ⟨⟨_, rfl, ⟨fun h9 => by omega, fun h9 => by rw [G.out] at h9; cases h9⟩⟩, rfl⟩
theorem containsBig_any (A : Option Addr) (n c B : Nat) (f : List (List Int)) (w : World) (hl : f.length = n) (hn : n + total f ≤ 1048576) (h : Mat w B A f) :
    Calls Try.prog 47 #[.slice A n c, .func (.func 46) #[] #[]] w fun e w' => e = .returned (.bool (anyBig f)) ∧ w = w' := by
  have C0 := indexBig_any A n c B f w hl hn h
  cases hb : anyBig f
  · rw [hb] at C0
    go_enter Try.func47, Try.ntmps47
    go_wp2_with fail
    refine C0.mono ?_
    rintro e w' ⟨⟨j, rfl, hj⟩, rfl⟩
    have h1 : ¬ 0 ≤ j := fun h9 => by have := hj.1 h9; cases this
    have h2 : Hid (decide (0 ≤ j) = false) := decide_eq_false h1
    clear hj
    go_wp2
    go_ret
    exact ⟨ret_bool h2.out, rfl⟩
  · rw [hb] at C0
    go_enter Try.func47, Try.ntmps47
    go_wp2_with fail
    refine C0.mono ?_
    rintro e w' ⟨⟨j, rfl, hj⟩, rfl⟩
    have h1 : 0 ≤ j := hj.2 trivial
    clear hj
    go_wp2
    go_ret
    exact ⟨rfl, rfl⟩
theorem valueOf_any (cb b m : Nat) (f : List UInt8 → Int) (y : List UInt8) (w : World) (hc : w.cell? ⟨cb, 0, none⟩ = some (.map (some b))) (hM : MapV w b m f) (hy : y.length ≤ 1048576) :
    Calls Try.prog 49 #[.string ⟨y.toArray⟩, .pointer (some ⟨cb, 0, none⟩)] w fun e w' => e = .returned (.int .i64 (f y)) ∧ w = w' := by
  obtain ⟨D, hown, hD⟩ := hM
  have hkey := keyTxV hy
  obtain ⟨a, ha⟩ : ∃ a, a = f y := ⟨_, rfl⟩
  have HA := Lib.hid ha
  have hat0 : D.atKey (.string y) (.lit (.int .i64 0)) = .lit (.int .i64 a) := by rw [ha]; exact hD y
  have HAT := Lib.hid hat0
  obtain ⟨X, hX⟩ : ∃ X : ByteArray, X = ⟨y.toArray⟩ := ⟨_, rfl⟩
  rw [← hX] at hkey ⊢
  clear hD ha hat0 hX hy
  go_enter Try.func49, Try.ntmps49
  go_wp2_with (at_lookup; refine wpList_lookup_own_int _ rfl _ _ 66 rfl 57 48 .i64 keyedV Try.underlying66 Try.underlying48 (zeroNum _) b m D rfl hown _ _ rfl hkey ?_; intro c0 hat hwc; (have h9 := hat.symm.trans HAT.out); (obtain rfl : c0 = a := by injection h9 with h9; injection h9))
  go_ret
  exact ⟨ret_i64 HA.out, rfl⟩
set_option maxHeartbeats 1000000 in
theorem productOver_any (A : Option Addr) (n c B cb b m : Nat) (a : List Int) (f : List (List Int)) (w : World) (hl : f.length = n) (hn : n ≤ 8) (ha : allNum a = true) (hr : ∀ r ∈ f, isTr r = true ∧ r.length ≤ 6) (h : Row w B A (strs (f.map Tr.txt))) (hc : w.cell? ⟨cb, 0, none⟩ = some (.map (some b))) (hM : MapV w b m (valN (a.drop 1) 37)) :
    Calls Try.prog 50 #[.int .i64 1, .slice A n c, .func (.func 49) #[] #[.pointer (some ⟨cb, 0, none⟩)]] w fun e w' => e = .returned (.int .i64 (prodA a f)) ∧ w = w' := by
  have HL := Lib.hid hl
  have HR := Lib.hid hr
  have NA := Lib.hid ha
  have HMM := Lib.hid hM
  have hmt : ∀ (W : World) (p : Int), (method 258 48 (Value.int IntKind.i64 p) "loop.example/g01100/impl.times").run Try.prog W = .ok (101, .int .i64 p) W := fun _ _ => by kernel_rfl
  clear hl hr ha hM
  go_enter Try.func50, Try.ntmps50
  go_wp2_with fail
  go_loop [0, 11] (fun p i => ∃ k : Nat, k ≤ n ∧ p = .int .i64 (prodA a (f.take k)) ∧ i = .int .i64 k) (fun _ i => n - (intOf i).toNat)
  case atStart => exact ⟨0, Nat.zero_le _, rfl, rfl⟩
  case round =>
    obtain ⟨k, hk, rfl, rfl⟩ := hrel
    by_cases hlt : k < n
    · obtain ⟨r, hr⟩ := at_lt (show k < f.length by rw [HL.out]; exact hlt)
      obtain ⟨htr, h6⟩ := HR.out r (List.mem_of_getElem? hr)
      have hst : (f.map Tr.txt)[k]? = some (Tr.txt r) := by rw [List.getElem?_map, hr]; rfl
      obtain ⟨b0, o0, rfl, _, hcell⟩ := h k _ (strs_at hst)
      have htl := (lv_txt (tr_lv htr).1).2.2.2
      have C1 := valueOf_any cb b m _ (Tr.txt r) w hc HMM.out (by omega)
      rw [valT_drop htr h6] at C1
      obtain ⟨v0, v1⟩ := valT_num (r := r) NA.out
      obtain ⟨p0, p1⟩ := prodA_bd a (f.take k)
      have HS := Lib.hid (prodA_step (a := a) hr)
      obtain ⟨v, hv⟩ : ∃ v, v = valT a r := ⟨_, rfl⟩
      rw [← hv] at C1 v0 v1 HS
      obtain ⟨p, hp⟩ : ∃ p, p = prodA a (f.take k) := ⟨_, rfl⟩
      rw [← hp] at p0 p1 HS ⊢
      obtain ⟨X, hX⟩ : ∃ X : ByteArray, X = ⟨(Tr.txt r).toArray⟩ := ⟨_, rfl⟩
      rw [← hX] at C1 hcell
      clear hr htr h6 hst htl hv hp hX
      go_wp2_with (first
        | (go_at_call 49; refine C1.mono ?_; rintro e w' ⟨rfl, rfl⟩)
        | (go_at_call 101; refine (times_any _ _ _ p0 p1 v0 v1).mono ?_; rintro e w' ⟨rfl, rfl⟩))
      go_round
      case rel => exact ⟨k + 1, by omega, by rw [HS.out], by go_num⟩
      case measure => simp [intOf]; omega
    · obtain rfl : k = n := by omega
      have e : f.take k = f := List.take_of_length_le (by rw [HL.out]; exact Nat.le_refl _)
      rw [e]
      clear e
      go_wp2
      go_ret
      exact ⟨rfl, rfl⟩
end Go.Proofs.Ytmpnhiemfdmenaa
/-
  A result beside a code, handed back.
-/
namespace Go.Proofs.Ytmpnhiemfdmenaa
open Go.RowKit Fld
set_option linter.unusedVariables false

theorem ResI.of' {r : Int × Int} {w w' : World} {x k : Int} (h : r = (x, k)) (hb : Below w.heap.size w w') : ResI r w (.returned (.tuple #[.int .i64 x, .int .i64 k])) w' := by
  subst h; exact ⟨rfl, hb⟩
end Go.Proofs.Ytmpnhiemfdmenaa
/-
  The model's list of all trees with so many nodes and fewer.
-/
namespace Go.Proofs.Ytmpnhiemfdmenaa
open Go.RowKit Fld
set_option linter.unusedVariables false
set_option linter.unusedSimpArgs false
set_option maxRecDepth 100000

set_option maxHeartbeats 1000000 in
theorem l03All_any (n : Nat) (w : World) (h1 : 1 ≤ n) (h8 : n ≤ 8) : Calls Try.prog 42 #[.int .i64 n] w (NewMat (treesTo n).length (treesTo n) w) := by
  obtain ⟨j0, hj, hy0, hy1, hy2⟩ := info_parts info_row
  go_enter Try.func42, Try.ntmps42
  go_wp2_with fail
  go_loopw [3, 4] (fun v i wr => ∃ (k q g cap : Nat) (vs : List Value), k ≤ n ∧ v = .slice (some ⟨g, 0, none⟩) q cap ∧ i = .int .i64 ((k : Int) + 1) ∧ Hid (OwnMat wr w.heap.size wr.heap.size (.slice (some ⟨g, 0, none⟩) q cap) q (treesTo k) vs) ∧ Below w.heap.size w wr ∧ w.heap.size ≤ wr.heap.size) (fun _ i _ => 9 - (intOf i).toNat)
  case atStart => exact ⟨0, 0, w.heap.size, 0, [], Nat.zero_le _, rfl, rfl, by rw [Hid]; have := OwnMat.empty w; simpa [treesTo] using this, (Below.refl _ _).alloc (Nat.le_refl _) _, by simp⟩
  case round =>
    obtain ⟨k, q, g, cap, vs, hk, rfl, rfl, HM, HB, hsz⟩ := hrel
    by_cases hlt : k < n
    · have hq : q ≤ 920 := by
        have h1 := HM.out.size
        have h2 := treesTo_len k (by omega)
        omega
      have HBB := Lib.hid HB
      have C1 := l03Trees_any (k + 1) wr (by omega) (by omega)
      have h115 := (trees_all (n := k + 1) (by omega) (by omega)).2
      have hpos := trees_pos (n := k + 1) (by omega)
      obtain ⟨T, hT⟩ : ∃ T, T = Tr.treesL (k + 1) := ⟨_, rfl⟩
      have HS : Hid (treesTo (k + 1) = treesTo k ++ T) := by rw [Hid, hT]; exact treesTo_step k
      rw [← hT] at C1 h115 hpos
      obtain ⟨N, hN⟩ : ∃ N, N = T.length := ⟨_, rfl⟩
      rw [← hN] at C1 h115 hpos
      clear HB hT hN
      go_wp2_with fail
      refine C1.mono ?_
      rintro e w2 ⟨A2, c2, vs2, rfl, own2, bel2⟩
      have hs2 := bel2.size
      have HM2 := Lib.hid (HM.out.below bel2 (Nat.le_refl _))
      have HO2 := Lib.hid own2
      have HB2 := Lib.hid (HBB.out.trans (bel2.mono hsz))
      have hownO := HM2.out.outer.1
      obtain ⟨g2, rfl⟩ := own_addr own2.outer.1 (by omega)
      have HLEN : Hid (vs2.length = N * 1) := by rw [Hid, HO2.out.len, HO2.out.size, Nat.mul_one]
      have HNEW : Hid (∀ j u, vs2[j]? = some u → w2.cell? ((⟨g2, 0, none⟩ : Addr).add j) = some u) := (row_of_own HO2.out.outer.1).news
      have HONE := Lib.hid (vals_one HO2.out)
      clear own2 bel2 C1
      go_wp2_with (at_builtin; refine wpList_append_lies _ rfl (.tmp 11) (.tmp 13) 35 rfl w.heap.size 24 j0 _ 1 24 Try.underlying35 hj hy0 hy1 hy2 rfl (by omega) (.slice (some ⟨g, 0, none⟩) q cap) q vs rfl hownO ⟨g2, 0, none⟩ N c2 vs2 rfl HLEN.out HNEW.out HONE.out (by omega) (by simp only [maxLen]; omega) (by omega) (by omega) w2.heap.size rfl ?_; intro g5 cap5 w5 hown5 hgrow5 hat5 hlt5)
      have GM : Hid (OwnMat w5 w.heap.size w5.heap.size (.slice (some ⟨g5, 0, none⟩) (q + N) cap5) (q + N) (treesTo (k + 1)) (vs ++ vs2)) := by
        rw [Hid, HS.out]
        exact HM2.out.pushAll hs2 HO2.out hsz hown5 hgrow5
      have GB : Hid (Below w.heap.size w w5) := HB2.out.grown hgrow5 (by omega) (fun z hz => (hownO.lt z hz).1)
      have hs5 : w2.heap.size ≤ w5.heap.size := hgrow5.size
      clear hown5 hgrow5 hat5 hownO
      go_wp2
      go_roundw
      case rel => exact ⟨k + 1, q + N, g5, cap5, _, by omega, rfl, by go_num, GM, GB.out, by omega⟩
      case measure => simp [intOf]; omega
    · obtain rfl : k = n := by omega
      have e : (treesTo k).length = q := HM.out.size
      have G : Hid (NewMat (treesTo k).length (treesTo k) w (.returned (.slice (some ⟨g, 0, none⟩) q cap)) wr) := by
        rw [Hid, e]; exact ⟨_, _, vs, rfl, HM.out, HB⟩
      clear HB e
      go_wp2
      go_ret
      exact G.out
end Go.Proofs.Ytmpnhiemfdmenaa
/-
  The place of a list in a list of lists, the model's.
-/
namespace Go.Proofs.Ytmpnhiemfdmenaa
open Go.RowKit Fld
set_option linter.unusedVariables false
set_option linter.unusedSimpArgs false
set_option maxRecDepth 100000

set_option maxHeartbeats 1000000 in
theorem l03Find_any (A Au : Option Addr) (n c nu cu B Bu : Nat) (m : List (List Int)) (u : List Int) (w : World) (hl : m.length = n) (hn : n ≤ 1048576) (hr : ∀ r ∈ m, r.length ≤ 1048576) (hu : u.length = nu) (hnu : nu ≤ 1048576) (h : Mat w B A m) (h' : Row w Bu Au (ints u)) :
    Calls Try.prog 43 #[.slice A n c, .slice Au nu cu] w fun e w' => e = .returned (.int .i64 (Tr.idxL u m 0)) ∧ ∃ k, w' = w.drewN k := by
  have HL := Lib.hid hl
  have HR := Lib.hid hr
  clear hl hr
  go_enter Try.func43, Try.ntmps43
  go_wp2_with fail
  go_loopw [5] (fun i wr => ∃ k d : Nat, k ≤ n ∧ i = .int .i64 k ∧ wr = w.drewN d ∧ Hid (Tr.idxL u m 0 = Tr.idxL u (m.drop k) k)) (fun i _ => n - (intOf i).toNat)
  case atStart => exact ⟨0, 0, Nat.zero_le _, rfl, rfl, rfl⟩
  case round =>
    obtain ⟨k, d, hk, rfl, rfl, HI⟩ := hrel
    by_cases hlt : k < n
    · obtain ⟨r, hr⟩ := at_lt (show k < m.length by rw [HL.out]; exact hlt)
      obtain ⟨b, o, Ak, ck, rfl, _, hca, _, _, hrow⟩ := (Mat.drewN h d) k r hr
      have HRL : Hid (r.length ≤ 1048576) := HR.out r (List.mem_of_getElem? hr)
      obtain ⟨N1, N2⟩ := Tr.idx_next HI.out hr
      have C1 := l01Same_any Ak Au r.length nu ck cu B Bu r u (w.drewN d) rfl hu (by have := HRL.out; omega) (by omega) hrow (h'.drewN d)
      clear hr HI hrow
      by_cases hru : r = u
      · have G := Lib.hid (N1 hru)
        rw [hru, eqL_self, ← hru] at C1
        clear N1 N2 hru
        go_wp2_with (go_at_call 69; refine C1.mono ?_; rintro e w' ⟨rfl, d2, rfl⟩)
        go_ret
        exact ⟨by rw [G.out]; rfl, _, rfl⟩
      · have G := Lib.hid (N2 hru)
        have e : eqL r u = false := by unfold eqL; exact decide_eq_false hru
        rw [e] at C1
        clear N1 N2 hru e
        go_wp2_with (go_at_call 69; refine C1.mono ?_; rintro e w' ⟨rfl, d2, rfl⟩)
        go_roundw
        case rel => exact ⟨k + 1, _, by omega, by go_num, rfl, G⟩
        case measure => simp [intOf]; omega
    · have G := Lib.hid (Tr.idx_end HI.out (by rw [HL.out]; omega))
      clear HI
      go_wp2
      go_ret
      exact ⟨by rw [G.out]; rfl, _, rfl⟩
end Go.Proofs.Ytmpnhiemfdmenaa
/-
  What ValueAt answers, the program's and the model's.
-/
namespace Go.Proofs.Ytmpnhiemfdmenaa
open Go.RowKit Fld
set_option linter.unusedVariables false
set_option linter.unusedSimpArgs false
set_option maxRecDepth 100000

theorem to_rows : ∀ r ∈ treesTo 6, r.length ≤ 1048576 := fun r hr => by
  obtain ⟨n, hn, h⟩ := to_mem.1 hr
  have := ((trees_all (n := n + 1) (by omega) (by omega)).1 r h).2
  omega
set_option maxHeartbeats 2000000 in
theorem sValueAt_L (A A' : Option Addr) (n n' c c' B B' : Nat) (a : List Int) (f : List (List Int)) (w : World) (hl : a.length = n) (hl' : f.length = n') (hn : n ≤ 1048576) (hn' : n' + total f ≤ 1048576) (hB : B ≤ w.heap.size) (hB' : B' ≤ w.heap.size) (h : Row w B A (ints a)) (h' : Mat w B' A' f) :
    Calls Try.prog 16 #[.slice A n c, .slice A' n' c'] w (ResI (valueA a f) w) := by
  have C0 := l07Is_any A n c B a w hl (by omega) h
  cases ha : isMp a
  · have G := Lib.hid (valueA_no1 (f := f) ha)
    rw [ha] at C0
    clear hl hl'
    go_enter Try.func16, Try.ntmps16
    go_wp2_with fail
    refine C0.mono ?_
    rintro e w' ⟨rfl, rfl⟩
    go_wp2
    go_ret2
    exact ResI.of' G.out (Below.refl _ _)
  · rw [ha] at C0
    have C1 := l03Forest_any A' n' c' B' f w hl' hn' hB' h'
    cases hf : isFor f
    · have G := Lib.hid (valueA_no2 (a := a) hf)
      rw [hf] at C1
      clear hl hl'
      go_enter Try.func16, Try.ntmps16
      go_wp2_with fail
      refine C0.mono ?_
      rintro e w' ⟨rfl, rfl⟩
      go_wp2_with fail
      refine C1.mono ?_
      rintro e w1 ⟨rfl, bel1⟩
      have GB := Lib.hid bel1
      clear bel1
      go_wp2
      go_ret2
      exact ResI.of' G.out GB.out
    · rw [hf] at C1
      have GYES : Hid (anyBig f = false → valueA a f = (prodA a f, 0)) := fun b => valueA_yes ha hf b
      have GBIG : Hid (anyBig f = true → valueA a f = (0, 2)) := fun b => valueA_big ha hf b
      obtain ⟨e1, na⟩ := isMp_parts ha hl
      have HL0 := hl
      subst e1
      have HL := Lib.hid HL0
      have NA := Lib.hid na
      have HLF := Lib.hid hl'
      have HR := Lib.hid (for_rows hf)
      have h8 : n' ≤ 8 := by
        have q1 := for_total hf
        have q2 := len_total (f := f) (fun r hr => (lv_bd (tr_lv (HR.out r hr)).1).1)
        omega
      have C2 := fun w' => l03All_any 6 w' (by omega) (by omega)
      rw [to_len] at C2
      clear hl hl' ha hf na HL0
      go_enter Try.func16, Try.ntmps16
      go_wp2_with fail
      refine C0.mono ?_
      rintro e w' ⟨rfl, rfl⟩
      go_wp2_with fail
      refine C1.mono ?_
      rintro e w1 ⟨rfl, bel1⟩
      have hs1 := bel1.size
      have B1 := Lib.hid bel1
      clear C0 C1 bel1
      go_wp2_with fail
      refine (C2 _).mono ?_
      rintro e w2 ⟨A1, c1, vs1, rfl, own2, bel2⟩
      have FT : Hid (Mat w2 w2.heap.size A1 (treesTo 6)) := own2.mat
      have B2 := Lib.hid (B1.out.trans (bel2.mono hs1))
      have FA := Lib.hid (h.below B2.out hB)
      have FF := Lib.hid (h'.below B2.out hB')
      clear own2 bel2 C2 B1
      go_wp2_with fail
      go_loopw [7, 8] (fun v i wr => ∃ k d : Nat, k ≤ n' ∧ v = .int .i64 (prodA a (f.take k)) ∧ i = .int .i64 k ∧ wr = w2.drewN d ∧ Hid (anyBig (f.take k) = false)) (fun _ i _ => n' - (intOf i).toNat)
      case atStart => exact ⟨0, 0, Nat.zero_le _, rfl, rfl, rfl, rfl⟩
      case round =>
        obtain ⟨k, d, hk, rfl, rfl, rfl, HT⟩ := hrel
        by_cases hlt : k < n'
        · obtain ⟨r, hr⟩ := at_lt (show k < f.length by rw [HLF.out]; exact hlt)
          have htr := HR.out r (List.mem_of_getElem? hr)
          have hr8 := (lv_bd (tr_lv htr).1).2
          obtain ⟨b1, o1, Ak, ck, rfl, _, hct, _, _, hrow⟩ := FF.out k r hr
          have C3 := l03Find_any A1 Ak 37 c1 r.length ck w2.heap.size B' (treesTo 6) r (w2.drewN d) to_len (by omega) to_rows rfl (by omega) (Mat.drewN FT.out d) (hrow.drewN d)
          by_cases h6 : 6 < r.length
          · have G := Lib.hid (GBIG.out (anyBig_at hr h6))
            rw [large_idx h6] at C3
            clear hr htr HT
            go_wp2_with fail
            refine C3.mono ?_
            rintro e w3 ⟨rfl, d3, rfl⟩
            go_wp2
            go_ret2
            exact ResI.of' G.out (below_drewN B2.out _)
          · obtain ⟨i, i37, ei, e2⟩ := small_idx htr (by omega)
            obtain ⟨x, hx⟩ := at_lt (show i + 1 < a.length by rw [HL.out]; omega)
            obtain ⟨x0, x1⟩ := num_at NA.out hx
            obtain ⟨b2, o2, rfl, _, hcx⟩ := FA.out (i + 1) _ (ints_at hx)
            have hvt : valT a r = x := by
              unfold valT
              rw [ei, show ((i : Int) + 1).toNat = i + 1 by omega, List.getD_eq_getElem?_getD, hx]; rfl
            have HS := Lib.hid (prodA_step (a := a) hr)
            rw [hvt] at HS
            have GT := Lib.hid (anyBig_take HT.out hr h6)
            obtain ⟨p0, p1⟩ := prodA_bd a (f.take k)
            obtain ⟨p, hp⟩ : ∃ p, p = prodA a (f.take k) := ⟨_, rfl⟩
            rw [← hp] at p0 p1 HS ⊢
            rw [ei] at C3
            have t0 : ¬ (i : Int) < 0 := by omega
            have k0 : (0 : Int) ≤ (i : Int) + 1 := by omega
            have k1 : (i : Int) + 1 < 38 := by omega
            have ew : IntKind.i64.wrap ((i : Int) + 1) = (i : Int) + 1 := IntWalk.i64_in _ (by omega)
            have en : ((i : Int) + 1).toNat = i + 1 := by omega
            clear hr htr HT hx hvt ei e2 hp hrow
            go_wp2_with fail
            refine C3.mono ?_
            rintro e w3 ⟨rfl, d3, rfl⟩
            go_wp2_with fail
            refine (l01Mul_any _ _ _ p0 p1 x0 x1).mono ?_
            rintro e w3 ⟨rfl, rfl⟩
            go_wp2
            go_roundw
            case rel => exact ⟨k + 1, _, by omega, by rw [HS.out], by go_num, rfl, GT⟩
            case measure => simp [intOf]; omega
        · obtain rfl : k = n' := by omega
          have e : f.take k = f := List.take_of_length_le (by rw [HLF.out]; exact Nat.le_refl _)
          have G : Hid (valueA a f = (prodA a f, 0)) := by
            have := HT.out
            rw [e] at this
            exact GYES.out this
          rw [e]
          clear e HT
          go_wp2
          go_ret2
          exact ResI.of' G.out (below_drewN B2.out _)
set_option maxHeartbeats 2000000 in
theorem pValueAt_L (A A' : Option Addr) (n n' c c' B B' : Nat) (a : List Int) (f : List (List Int)) (w : World) (hl : a.length = n) (hl' : f.length = n') (hn : n ≤ 1048576) (hn' : n' + total f ≤ 1048576) (hB : B ≤ w.heap.size) (hB' : B' ≤ w.heap.size) (h : Row w B A (ints a)) (h' : Mat w B' A' f) (hc : n ≤ c) :
    Calls Try.prog 19 #[.slice A n c, .slice A' n' c'] w (ResI (valueA a f) w) := by
  have C0 := isMap_any A n c B a w hl (by omega) h
  cases ha : isMp a
  · have G := Lib.hid (valueA_no1 (f := f) ha)
    rw [ha] at C0
    clear hl hl'
    go_enter Try.func19, Try.ntmps19
    go_wp2_with fail
    refine C0.mono ?_
    rintro e w' ⟨rfl, rfl⟩
    go_wp2
    go_ret2
    exact ResI.of' G.out (Below.refl _ _)
  · rw [ha] at C0
    have C1 := isForest_any A' n' c' B' f w hl' hn' hB' h'
    cases hf : isFor f
    · have G := Lib.hid (valueA_no2 (a := a) hf)
      rw [hf] at C1
      clear hl hl'
      go_enter Try.func19, Try.ntmps19
      go_wp2_with fail
      refine C0.mono ?_
      rintro e w' ⟨rfl, rfl⟩
      go_wp2_with fail
      refine C1.mono ?_
      rintro e w1 ⟨rfl, bel1⟩
      have GB := Lib.hid bel1
      clear bel1
      go_wp2
      go_ret2
      exact ResI.of' G.out GB.out
    · rw [hf] at C1
      have C2 := fun w' hM => containsBig_any A' n' c' B' f w' hl' hn' hM
      cases hbg : anyBig f
      · have G := Lib.hid (valueA_yes ha hf hbg)
        simp only [hbg] at C2
        obtain ⟨e1, na⟩ := isMp_parts ha hl
        obtain ⟨x0, b0, o0, hx0, eA, _, _, _, _⟩ := map_first ha hl h
        subst eA
        have HL0 := hl
        subst e1
        have HL := Lib.hid HL0
        have NA := Lib.hid na
        have HLF := Lib.hid hl'
        have HR := Lib.hid (for_rows hf)
        have HR6 := Lib.hid (anyBig_no hbg)
        have h8 : n' ≤ 8 := by
          have q1 := for_total hf
          have q2 := len_total (f := f) (fun r hr => (lv_bd (tr_lv (HR.out r hr)).1).1)
          omega
        have HLV : Hid (∀ r ∈ f, Tr.isLv r = true) := fun r hr => (tr_lv (HR.out r hr)).1
        have HTR : Hid (∀ r ∈ f, isTr r = true ∧ r.length ≤ 6) := fun r hr => ⟨HR.out r hr, HR6.out r hr⟩
        have HL1 : Hid ((a.drop 1).length = 37) := by rw [Hid, List.length_drop, HL0]
        have NA1 : Hid (allNum (a.drop 1) = true) := by
          rw [Hid, allNum_iff]
          exact fun x hx => allNum_iff.1 na x (List.mem_of_mem_drop hx)
        have HROW1 : Hid (Row w B (some ⟨b0, o0 + 1, none⟩) (ints (a.drop 1))) := fun k v hv => by
          have e : ints (a.drop 1) = (ints a).drop 1 := by unfold ints intsK; rw [List.map_drop]
          rw [e, List.getElem?_drop] at hv
          obtain ⟨b, o, e', hb, hcell⟩ := h (1 + k) v hv
          injection e' with e'
          injection e' with e1 e2 _
          subst e1 e2
          exact ⟨b0, o0 + 1, rfl, hb, by rw [Nat.add_assoc]; exact hcell⟩
        have hc1 : ¬ c = 1 := by omega
        clear hl hl' ha hf na HL0 hbg hx0
        go_enter Try.func19, Try.ntmps19
        go_wp2_with fail
        refine C0.mono ?_
        rintro e w' ⟨rfl, rfl⟩
        go_wp2_with fail
        refine C1.mono ?_
        rintro e w1 ⟨rfl, bel1⟩
        have hs1 := bel1.size
        have B1 := Lib.hid bel1
        have FF := Lib.hid (h'.below bel1 hB')
        have FR := Lib.hid (HROW1.out.below bel1 hB)
        clear C0 C1 bel1
        go_wp2_with fail
        refine (C2 _ FF.out).mono ?_
        rintro e w' ⟨rfl, rfl⟩
        clear C2
        go_wp2_with fail
        refine (valuesOf_any (some ⟨b0, o0 + 1, none⟩) 37 (c - 1) B (a.drop 1) _ HL1.out (by omega) NA1.out (by omega) FR.out).mono ?_
        rintro e w2 ⟨mb, rfl, hM2, bel2⟩
        have hs2 := bel2.size
        have hal : Below w2.heap.size w2 (w2.alloc (.cells #[.map (some mb)] 66)) := (Below.refl _ _).alloc (Nat.le_refl _) _
        have FF2 := Lib.hid ((FF.out.below bel2 (by omega)).below hal (by omega))
        have M3 := hM2.next hal
        have B3 := Lib.hid ((B1.out.trans (bel2.mono hs1)).trans (hal.mono (by omega)))
        have HC3 : (w2.alloc (.cells #[.map (some mb)] 66)).cell? ⟨w2.heap.size, 0, none⟩ = some (.map (some mb)) := by
          rw [World.cell?_alloc_at (hn := by simp)]; rfl
        have hsz3 : (w2.alloc (.cells #[.map (some mb)] 66)).heap.size = w2.heap.size + 1 := by simp
        have M3' := Lib.hid M3
        have HC3' := Lib.hid HC3
        have HSZ := Lib.hid hsz3
        clear hM2 bel2 FF FR M3 HC3 hsz3 hal
        go_wp2_with fail
        refine (treesOf_any A' n' c' B' f _ HLF.out (by omega) HLV.out (by rw [HSZ.out]; omega) FF2.out).mono ?_
        rintro e w4 ⟨rfl, own4, bel4⟩
        rw [HSZ.out] at own4
        have M4 := M3'.out.next bel4
        have HC4 := (bel4.cell (p := ⟨w2.heap.size, 0, none⟩) (by rw [HSZ.out]; exact Nat.lt_succ_self _)).trans HC3'.out
        have B4 := Lib.hid (B3.out.trans (bel4.mono (by rw [HSZ.out]; omega)))
        have FR4 : Hid (Row w4 w4.heap.size (some ⟨w2.heap.size + 1, 0, none⟩) (strs (f.map Tr.txt))) := row_of_own own4
        have M4' := Lib.hid M4
        have HC4' := Lib.hid HC4
        clear own4 bel4 M4 HC4 M3' HC3' B3 FF2
        go_wp2_with fail
        refine (productOver_any (some ⟨w2.heap.size + 1, 0, none⟩) n' n' w4.heap.size w2.heap.size mb 37 a f _ HLF.out h8 NA.out HTR.out FR4.out HC4'.out M4'.out).mono ?_
        rintro e w5 ⟨rfl, rfl⟩
        go_wp2
        go_ret2
        exact ResI.of' G.out B4.out
      · have G := Lib.hid (valueA_big ha hf hbg)
        simp only [hbg] at C2
        clear hl hl'
        go_enter Try.func19, Try.ntmps19
        go_wp2_with fail
        refine C0.mono ?_
        rintro e w' ⟨rfl, rfl⟩
        go_wp2_with fail
        refine C1.mono ?_
        rintro e w1 ⟨rfl, bel1⟩
        have GB := Lib.hid bel1
        have FF := Lib.hid (h'.below bel1 hB')
        clear bel1
        go_wp2_with fail
        refine (C2 _ FF.out).mono ?_
        rintro e w' ⟨rfl, rfl⟩
        clear C2
        go_wp2
        go_ret2
        exact ResI.of' G.out GB.out
end Go.Proofs.Ytmpnhiemfdmenaa
