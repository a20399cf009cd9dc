/-
  The model's determinants: copies, minors.
-/
import Derived.Test.YtdgdanpkekcckaaPush
import Derived.Test.YtdgdanpkekcckaaOwn1
import Derived.Test.YtdgdanpkekcckaaDetMod
import Derived.Laws.AppendOwnNone
namespace Go.Proofs.Ytdgdanpkekcckaa
open Go.RowKit Fld
set_option linter.unusedVariables false
set_option linter.unusedSimpArgs false
set_option maxRecDepth 100000

/-- a row without its place k -/
def cutRow (k : Nat) (r : List Int) : List Int := r.take k ++ r.drop (k + 1)
theorem cutRow_length {k : Nat} {r : List Int} (h : k < r.length) : (cutRow k r).length + 1 = r.length := by simp [cutRow]; omega
def minorL (k : Nat) (m : List (List Int)) : List (List Int) := (m.drop 1).map (cutRow k)
theorem Row.drop {w : World} {B b o k : Nat} {vs us : List Value} (h : Row w B (some ⟨b, o, none⟩) (us ++ vs)) (hk : us.length = k) : Row w B (some ⟨b, o + k, none⟩) vs := fun j v hv => by
  obtain ⟨b', o', e, hb, hc⟩ := h (k + j) v (by rw [List.getElem?_append_right (by omega)]; rw [hk, Nat.add_sub_cancel_left]; exact hv)
  cases e
  exact ⟨b, o + k, rfl, hb, by rw [Nat.add_assoc]; exact hc⟩
theorem ints_split (r : List Int) (k : Nat) : ints r = ints (r.take k) ++ ints (r.drop k) := by
  rw [← List.take_append_drop k r]; simp [ints, intsK]
theorem own_shape {w : World} {base : Nat} {T : TypeId} {v : Value} {n : Nat} {vs : List Value} (h : w.ownsRow base T 1 v n vs) : ∃ A c, v = .slice A n c := by
  rcases h.2 with ⟨rfl, rfl⟩ | ⟨g, cap, cur, rfl, _⟩
  · exact ⟨_, _, rfl⟩
  · exact ⟨_, _, rfl⟩
theorem no_news {w : World} {p : Addr} {vs : List Value} (h : vs = []) : ∀ j u, vs[j]? = some u → w.cell? (p.add j) = some u := by
  subst h; intro j u hu; simp at hu
set_option maxHeartbeats 1000000 in
theorem l01Minor_any (A : Option Addr) (n c B q k : Nat) (m : List (List Int)) (w : World) (hl : m.length = n) (hn1 : 1 ≤ n) (hn : n ≤ 1048576) (hq : Wide m q) (hk : k < q) (hq1 : q ≤ 1048576) (hB : B ≤ w.heap.size) (h : Mat w B A m) :
    Calls Try.prog 37 #[.slice A n c, .int .i64 k] w (NewMat (n - 1) (minorL k m) w) := by
  obtain ⟨i0, hi, hz0, hz1, hz2⟩ := info_parts info_i64
  obtain ⟨j0, hj, hy0, hy1, hy2⟩ := info_parts info_row
  have HL := Lib.hid hl
  have HQ := Lib.hid hq
  clear hl hq
  go_enter Try.func37, Try.ntmps37
  go_wp2_with fail
  go_loopw [5, 6] (fun v i wr => ∃ j g cap : Nat, j + 1 ≤ n ∧ v = .slice (some ⟨g, 0, none⟩) j cap ∧ i = .int .i64 ((j : Int) + 1) ∧ GrowM w g j cap ((minorL k m).take j) wr) (fun _ i _ => n - (intOf i).toNat)
  case atStart => exact ⟨0, _, 0, hn1, rfl, rfl, GrowM.start ..⟩
  case round =>
    obtain ⟨i, g, cap, hi', rfl, rfl, vs, HM, HBel⟩ := hrel
    by_cases hlt : i + 1 < n
    · obtain ⟨r, hr⟩ := at_lt (show i + 1 < m.length by rw [HL.out]; exact hlt)
      have hrq := HQ.out.at_ hr
      obtain ⟨ba, oa, Ai, ci, rfl, hba, hca, hcap, hcm, hrowa⟩ := h.below HBel hB (i + 1) r hr
      obtain ⟨x, hx⟩ := at_lt (show 0 < r.length by omega)
      obtain ⟨br, orr, rfl, hbr, _⟩ := hrowa 0 _ (ints_at hx)
      rw [ints_split r k] at hrowa
      have hrow1 := hrowa.take
      rw [← ints_split r k, ints_split r (k + 1)] at hrowa
      have hrow2 := hrowa.drop (k := k + 1) (by rw [ints_length]; simp; omega)
      rw [hrq] at hca hcap
      have hsz := HBel.size
      have HM' := Lib.hid HM
      have HBel' := Lib.hid HBel
      have HR := Lib.hid hr
      have HRQ := Lib.hid hrq
      have HTL : Hid ((r.take k).length = k) := by rw [Hid, List.length_take]; omega
      have HDL : Hid ((r.drop (k + 1)).length = q - (k + 1)) := by rw [Hid, List.length_drop]; omega
      clear hr hrq HM HBel hx
      have HSUM : Hid (k + (q - (k + 1)) = q - 1) := by rw [Hid]; omega
      have HDI : Hid ((ints (r.drop (k + 1))).length = (q - (k + 1)) * 1) := by rw [Hid, ints_length, HDL.out, Nat.mul_one]
      have HROW : Hid (ints (r.take k) ++ ints (r.drop (k + 1)) = ints (cutRow k r)) := by simp [Hid, cutRow, ints, intsK]
      have HCL : Hid ((cutRow k r).length = q - 1) := by have := cutRow_length (k := k) (r := r) (by rw [HRQ.out]; exact hk); have := HRQ.out; rw [Hid]; omega
      have HMI : Hid ((minorL k m)[i]? = some (cutRow k r)) := by
        rw [Hid]; unfold minorL; rw [List.getElem?_map, List.getElem?_drop, Nat.add_comm 1 i, HR.out]; rfl
      by_cases hcc : ci = k + 1
      · have HZ : Hid (ints (r.drop (k + 1)) = []) := by
          apply List.length_eq_zero_iff.1
          rw [HDI.out]; omega
        have HDZ : Hid ((ints (r.drop (k + 1))).length = 0 * 1) := by rw [Hid, HZ.out]; rfl
        have HSZ : Hid (k + 0 = q - 1) := by rw [Hid]; omega
        subst hcc
        go_wp2_with (first | (go_at_call 43; refine (l01Own_any _ k _ B (r.take k) _ HTL.out (by omega) (by omega) (by assumption)).mono ?_; rintro e w1 ⟨A1, c1, rfl, own1, bel1⟩; have hca1 := (bel1.cell (p := ⟨ba, oa + (i + 1), none⟩) (by show ba < wr.heap.size; omega)).trans hca; have hnews := no_news (w := w1) (p := ⟨br, orr, none⟩) HZ.out; have hsz1 := bel1.size) | (at_builtin; refine wpList_append_own _ rfl (.tmp 23) (.tmp 30) 31 rfl wr.heap.size 2 i0 _ 1 8 Try.underlying31 hi hz0 hz1 hz2 rfl (by omega) (.slice A1 k c1) k (ints (r.take k)) rfl own1 ⟨br, orr, none⟩ 0 0 (ints (r.drop (k + 1))) rfl HDZ.out hnews (ints_cells _) (by simp only [maxLen]; omega) (by omega) (by omega) ?_; intro v2 w2 own2 hgrow2 _; obtain ⟨A2, c2, rfl⟩ := own_shape own2; rw [HSZ.out, HROW.out] at own2; have bel2 : Below wr.heap.size wr w2 := bel1.grown hgrow2 hsz1 (fun b hb => (own1.lt b hb).1); have hownO := (HM'.out.below bel2 (Nat.le_refl _)).outer.1; have hsz2 := bel2.size; rw [HSZ.out]) | (at_builtin; refine wpList_append_lies _ rfl (.tmp 22) (.tmp 32) 24 rfl w.heap.size 31 j0 _ 1 24 Try.underlying24 hj hy0 hy1 hy2 rfl (by omega) (.slice (some ⟨g, 0, none⟩) i cap) i vs rfl (hownO.alloc _) ⟨w2.heap.size, 0, none⟩ 1 1 [.slice A2 (q - 1) c2] rfl rfl (World.news_of_block (cs := #[.slice A2 (q - 1) c2]) (heap_alloc_new _ _)) (by simp [Value.oneCell']) (by omega) (by simp only [maxLen]; omega) (by omega) (by simp; omega) (w2.heap.size + 1) (by simp) ?_; intro g4 cap4 w4 hown4 hgrow4 hat4 hlt4))
        have G : Hid (GrowM w g4 (i + 1) cap4 ((minorL k m).take (i + 1)) w4) := by
          have h1 := (HM'.out.below bel2 (Nat.le_refl _)).push (row := cutRow k r) hsz2 HCL.out own2 hsz hown4 hgrow4
          have e2 : (minorL k m).take (i + 1) = (minorL k m).take i ++ [cutRow k r] := by rw [List.take_add_one, HMI.out]; rfl
          refine ⟨_, by rw [e2]; exact h1, ?_⟩
          refine ((HBel'.out.trans (bel2.mono hsz)).alloc (by omega) _).grown hgrow4 (by simp; omega) (fun q hq => (hownO.lt q hq).1)
        clear hown4 hgrow4 hat4 hownO own2 hgrow2 own1
        go_roundw
        case rel => exact ⟨i + 1, _, _, by omega, rfl, by go_num, G.out⟩
        case measure => simp [intOf]; omega
      · go_wp2_with (first | (go_at_call 43; refine (l01Own_any _ k _ B (r.take k) _ HTL.out (by omega) (by omega) (by assumption)).mono ?_; rintro e w1 ⟨A1, c1, rfl, own1, bel1⟩; have hca1 := (bel1.cell (p := ⟨ba, oa + (i + 1), none⟩) (by show ba < wr.heap.size; omega)).trans hca; have hnews := (hrow2.below bel1 (by omega)).news; have hsz1 := bel1.size) | (at_builtin; refine wpList_append_own _ rfl (.tmp 23) (.tmp 30) 31 rfl wr.heap.size 2 i0 _ 1 8 Try.underlying31 hi hz0 hz1 hz2 rfl (by omega) (.slice A1 k c1) k (ints (r.take k)) rfl own1 ⟨br, orr + (k + 1), none⟩ (q - (k + 1)) (ci - (k + 1)) (ints (r.drop (k + 1))) rfl HDI.out hnews (ints_cells _) (by simp only [maxLen]; omega) (by omega) (by omega) ?_; intro v2 w2 own2 hgrow2 _; obtain ⟨A2, c2, rfl⟩ := own_shape own2; rw [HSUM.out, HROW.out] at own2; have bel2 : Below wr.heap.size wr w2 := bel1.grown hgrow2 hsz1 (fun b hb => (own1.lt b hb).1); have hownO := (HM'.out.below bel2 (Nat.le_refl _)).outer.1; have hsz2 := bel2.size; rw [HSUM.out]) | (at_builtin; refine wpList_append_lies _ rfl (.tmp 22) (.tmp 32) 24 rfl w.heap.size 31 j0 _ 1 24 Try.underlying24 hj hy0 hy1 hy2 rfl (by omega) (.slice (some ⟨g, 0, none⟩) i cap) i vs rfl (hownO.alloc _) ⟨w2.heap.size, 0, none⟩ 1 1 [.slice A2 (q - 1) c2] rfl rfl (World.news_of_block (cs := #[.slice A2 (q - 1) c2]) (heap_alloc_new _ _)) (by simp [Value.oneCell']) (by omega) (by simp only [maxLen]; omega) (by omega) (by simp; omega) (w2.heap.size + 1) (by simp) ?_; intro g4 cap4 w4 hown4 hgrow4 hat4 hlt4))
        have G : Hid (GrowM w g4 (i + 1) cap4 ((minorL k m).take (i + 1)) w4) := by
          have h1 := (HM'.out.below bel2 (Nat.le_refl _)).push (row := cutRow k r) hsz2 HCL.out own2 hsz hown4 hgrow4
          have e2 : (minorL k m).take (i + 1) = (minorL k m).take i ++ [cutRow k r] := by rw [List.take_add_one, HMI.out]; rfl
          refine ⟨_, by rw [e2]; exact h1, ?_⟩
          refine ((HBel'.out.trans (bel2.mono hsz)).alloc (by omega) _).grown hgrow4 (by simp; omega) (fun q hq => (hownO.lt q hq).1)
        clear hown4 hgrow4 hat4 hownO own2 hgrow2 own1
        go_roundw
        case rel => exact ⟨i + 1, _, _, by omega, rfl, by go_num, G.out⟩
        case measure => simp [intOf]; omega
    · obtain rfl : n = i + 1 := by omega
      have e : (minorL k m).take i = minorL k m := List.take_of_length_le (by unfold minorL; rw [List.length_map, List.length_drop, HL.out]; omega)
      rw [e] at HM
      have G := Lib.hid (GrowM.done ⟨vs, HM, HBel⟩)
      clear HM HBel
      go_wp2
      go_ret
      exact G.out
end Go.Proofs.Ytdgdanpkekcckaa
