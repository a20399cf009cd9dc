/-
  The model's copy of a list of lists.
-/
import Derived.Test.YtgicbmfcojfjcaaSCan
import Derived.Test.YtgicbmfcojfjcaaForest
import Derived.Test.YtgicbmfcojfjcaaOwn1
import Derived.Test.YtgicbmfcojfjcaaPush
namespace Go.Proofs.Ytgicbmfcojfjcaa
open Go.RowKit Fld
set_option linter.unusedVariables false
set_option linter.unusedSimpArgs false
set_option maxRecDepth 100000

theorem Mat.vals {w : World} {B : Nat} {A : Option Addr} {m : List (List Int)} (h : Mat w B A m) : ∃ vs, Row w B A vs ∧ Vals w B m vs := by
  cases m with
  | nil => exact ⟨[], Row.nil _ _ _, Vals.nil _ _⟩
  | cons x m =>
    obtain ⟨b, o, _, _, rfl, hb, _⟩ := h 0 x rfl
    refine ⟨(List.range (x :: m).length).map fun k => (w.cell? ⟨b, o + k, none⟩).getD (.bool false), fun k v hv => ?_, ?_, fun k r hr => ?_⟩
    · rw [List.getElem?_map] at hv
      rcases Nat.lt_or_ge k (x :: m).length with hk | hk
      · rw [List.getElem?_range hk] at hv
        obtain ⟨r, hr⟩ := at_lt hk
        obtain ⟨b', o', Ak, ck, e, hb', hc, _⟩ := h k r hr
        cases e
        rw [Option.map_some, hc] at hv
        injection hv with hv
        exact ⟨b, o, rfl, hb, by rw [hc]; exact congrArg some hv⟩
      · rw [List.getElem?_eq_none (by simp only [List.length_range]; exact hk)] at hv
        cases hv
    · rw [List.length_map, List.length_range]
    · obtain ⟨b', o', Ak, ck, e, hb', hc, h1, h2, h3⟩ := h k r hr
      cases e
      have hk : k < (x :: m).length := by
        rcases Nat.lt_or_ge k (x :: m).length with y | y
        · exact y
        · rw [List.getElem?_eq_none y] at hr; cases hr
      refine ⟨Ak, ck, ?_, h1, h2, h3⟩
      rw [List.getElem?_map, List.getElem?_range hk, Option.map_some, hc]; rfl
theorem Vals.app {w : World} {B : Nat} {m m' : List (List Int)} {vs vs' : List Value} (h : Vals w B m vs) (h' : Vals w B m' vs') : Vals w B (m ++ m') (vs ++ vs') := by
  have hl := h.1
  refine ⟨by rw [List.length_append, List.length_append, h.1, h'.1], fun k r hr => ?_⟩
  rcases Nat.lt_or_ge k m.length with g | g
  · rw [List.getElem?_append_left g] at hr
    obtain ⟨A, c, q1, q2⟩ := h.2 k r hr
    exact ⟨A, c, by rw [List.getElem?_append_left (by omega)]; exact q1, q2⟩
  · rw [List.getElem?_append_right g] at hr
    obtain ⟨A, c, q1, q2⟩ := h'.2 _ r hr
    exact ⟨A, c, by rw [List.getElem?_append_right (by omega), hl]; exact q1, q2⟩
theorem OwnMat.vals {w : World} {lo hi n : Nat} {v : Value} {m : List (List Int)} {vs : List Value} (h : OwnMat w lo hi v n m vs) : Vals w hi m vs := by
  refine ⟨h.len, fun k r hr => ?_⟩
  obtain ⟨A, c, e, o⟩ := h.inner k r hr
  obtain ⟨h1, h2⟩ := own_cap o.1
  exact ⟨A, c, e, h1, h2, o.row⟩
set_option maxHeartbeats 1000000 in
theorem l01Own2_any (A : Option Addr) (n c B : Nat) (f : List (List Int)) (w : World) (hl : f.length = n) (hn : n + total f ≤ 1048576) (h1 : ∀ r ∈ f, 1 ≤ r.length) (hB : B ≤ w.heap.size) (h : Mat w B A f) :
    Calls Try.prog 133 #[.slice A n c] w (NewMat n f w) := by
  obtain ⟨j0, hj, hy0, hy1, hy2⟩ := info_parts info_row
  have HL := Lib.hid hl
  have HN := Lib.hid hn
  have H1 := Lib.hid h1
  have hn' : n ≤ 1048576 := by omega
  clear hl hn h1
  go_enter Try.func133, Try.ntmps133
  go_wp2_with fail
  go_loopw [3, 4] (fun v i wr => ∃ (k g cap : Nat), k ≤ n ∧ v = .slice (some ⟨g, 0, none⟩) k cap ∧ i = .int .i64 k ∧ GrowM w g k cap (f.take k) wr) (fun _ i _ => n - (intOf i).toNat)
  case atStart => exact ⟨0, _, 0, Nat.zero_le _, rfl, rfl, GrowM.start ..⟩
  case round =>
    obtain ⟨k, g, cap, hk, rfl, rfl, vs, HM, HBel⟩ := hrel
    have hsz := HBel.size
    by_cases hlt : k < n
    · obtain ⟨r, hr⟩ := at_lt (show k < f.length by rw [HL.out]; exact hlt)
      obtain ⟨b, o, Ak, ck, rfl, hb, hc, hrc, hcm, hrow⟩ := (h.below HBel hB) k r hr
      have hrl : r.length ≤ 1048576 := by have := row_total hr; have := HN.out; omega
      have hr1 := H1.out r (List.mem_of_getElem? hr)
      obtain ⟨x0, hx0⟩ := at_lt (show 0 < r.length by omega)
      obtain ⟨br, orr, rfl, _, _⟩ := hrow 0 _ (ints_at hx0)
      have HS : Hid (f.take (k + 1) = f.take k ++ [r]) := by
        rw [Hid, List.take_add_one, hr, Option.toList_some]
      have HM' := Lib.hid HM
      have HB1 := Lib.hid HBel
      have HRO := Lib.hid hrow
      clear hr HM HBel hrow hx0
      go_wp2_with fail
      refine (l01Own_any ⟨br, orr, none⟩ r.length ck B r _ rfl hrl (by omega) HRO.out).mono ?_
      rintro e w3 ⟨A3, c3, rfl, own3, bel3⟩
      have hs3 := bel3.size
      have HM3 := Lib.hid (HM'.out.below bel3 (Nat.le_refl _))
      have HB3 : Hid (Below w.heap.size w w3) := HB1.out.trans (bel3.mono hsz)
      have HO3 := Lib.hid own3
      have hownO := HM3.out.outer.1
      clear own3 bel3
      go_wp2_with (at_builtin; refine wpList_append_lies _ rfl (.tmp 12) (.tmp 18) 22 rfl w.heap.size 30 j0 _ 1 24 Try.underlying22 hj hy0 hy1 hy2 rfl (by omega) (.slice (some ⟨g, 0, none⟩) k cap) k vs rfl (hownO.alloc _) ⟨w3.heap.size, 0, none⟩ 1 1 [.slice A3 r.length c3] rfl rfl (World.news_of_block (cs := #[.slice A3 r.length c3]) (heap_alloc_new _ _)) (by simp [Value.oneCell']) (by omega) (by simp only [maxLen]; omega) (by omega) (by simp; omega) (w3.heap.size + 1) (by simp) ?_; intro g5 cap5 w5 hown5 hgrow5 hat5 hlt5)
      have hs5 : w3.heap.size ≤ w5.heap.size := by have := hgrow5.size; simp at this; omega
      have G : Hid (GrowM w g5 (k + 1) cap5 (f.take (k + 1)) w5) := by
        rw [Hid, HS.out]
        refine ⟨_, HM3.out.push (row := r) hs3 rfl HO3.out hsz hown5 hgrow5, ?_⟩
        exact (HB3.out.alloc (by omega) _).grown hgrow5 (by simp; omega) (fun q hq => (hownO.lt q hq).1)
      clear hown5 hgrow5 hat5 hownO
      go_wp2
      go_roundw
      case rel => exact ⟨k + 1, g5, cap5, by omega, rfl, by go_num, G.out⟩
      case measure => simp [intOf]; omega
    · obtain rfl : k = n := by omega
      rw [List.take_of_length_le (by rw [HL.out]; exact Nat.le_refl _)] at HM
      have G : Hid (NewMat k f w (.returned (.slice (some ⟨g, 0, none⟩) k cap)) wr) := GrowM.done ⟨vs, HM, HBel⟩
      clear HM HBel
      go_wp2
      go_ret
      exact G.out
end Go.Proofs.Ytgicbmfcojfjcaa
