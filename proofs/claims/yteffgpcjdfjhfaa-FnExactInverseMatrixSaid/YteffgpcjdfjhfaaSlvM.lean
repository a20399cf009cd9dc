/-
  The model's copy of a matrix and its rule of Cramer.
-/
import Derived.Test.YteffgpcjdfjhfaaInvL
import Derived.Test.YteffgpcjdfjhfaaOwn1
import Derived.Test.YteffgpcjdfjhfaaPush
import Derived.Deep.AppendLies
import Derived.Deep.RegionHeld3
namespace Go.Proofs.Yteffgpcjdfjhfaa
open Go.RowKit Fld
set_option linter.unusedVariables false
set_option linter.unusedSimpArgs false
set_option maxRecDepth 100000

theorem total_at {m : List (List Int)} {k : Nat} {r : List Int} (h : m[k]? = some r) : r.length ≤ total m := by
  have h1 := total_take h
  have h2 := total_le m (k + 1)
  omega
set_option maxHeartbeats 1000000 in
theorem l01Own2_mat (A : Option Addr) (n c B : Nat) (f : List (List Int)) (w : World) (hl : f.length = n) (hn : n + total f ≤ 1048576) (h1 : ∀ r ∈ f, 1 ≤ r.length) (hB : B ≤ w.heap.size) (h : Mat w B A f) :
    Calls Try.prog 37 #[.slice A n c] w (NewMat n f w) := by
  obtain ⟨j0, hj, hy0, hy1, hy2⟩ := info_parts info_row
  have HL := Lib.hid hl
  have HN := Lib.hid hn
  have H1 := Lib.hid h1
  have hn' : n ≤ 1048576 := by omega
  clear hl hn h1
  go_enter Try.func37, Try.ntmps37
  go_wp2_with fail
  go_loopw [3, 4] (fun v i wr => ∃ (k g cap : Nat), k ≤ n ∧ v = .slice (some ⟨g, 0, none⟩) k cap ∧ i = .int .i64 k ∧ GrowM w g k cap (f.take k) wr) (fun _ i _ => n - (intOf i).toNat)
  case atStart => exact ⟨0, _, 0, Nat.zero_le _, rfl, rfl, GrowM.start ..⟩
  case round =>
    obtain ⟨k, g, cap, hk, rfl, rfl, vs, HM, HBel⟩ := hrel
    have hsz := HBel.size
    by_cases hlt : k < n
    · obtain ⟨r, hr⟩ := at_lt (show k < f.length by rw [HL.out]; exact hlt)
      obtain ⟨b, o, Ak, ck, rfl, hb, hc, hrc, hcm, hrow⟩ := (h.below HBel hB) k r hr
      have hrl : r.length ≤ 1048576 := by have := total_at hr; have := HN.out; omega
      have hr1 := H1.out r (List.mem_of_getElem? hr)
      obtain ⟨x0, hx0⟩ := at_lt (show 0 < r.length by omega)
      obtain ⟨br, orr, rfl, _, _⟩ := hrow 0 _ (ints_at hx0)
      have HS : Hid (f.take (k + 1) = f.take k ++ [r]) := by
        rw [Hid, List.take_add_one, hr, Option.toList_some]
      have HM' := Lib.hid HM
      have HB1 := Lib.hid HBel
      have HRO := Lib.hid hrow
      clear hr HM HBel hrow hx0
      go_wp2_with fail
      refine (l01Own_any ⟨br, orr, none⟩ r.length ck B r _ rfl hrl (by omega) HRO.out).mono ?_
      rintro e w3 ⟨A3, c3, rfl, own3, bel3⟩
      have hs3 := bel3.size
      have HM3 := Lib.hid (HM'.out.below bel3 (Nat.le_refl _))
      have HB3 : Hid (Below w.heap.size w w3) := HB1.out.trans (bel3.mono hsz)
      have HO3 := Lib.hid own3
      have hownO := HM3.out.outer.1
      clear own3 bel3
      go_wp2_with (at_builtin; refine wpList_append_lies _ rfl (.tmp 12) (.tmp 18) 22 rfl w.heap.size 32 j0 _ 1 24 Try.underlying22 hj hy0 hy1 hy2 rfl (by omega) (.slice (some ⟨g, 0, none⟩) k cap) k vs rfl (hownO.alloc _) ⟨w3.heap.size, 0, none⟩ 1 1 [.slice A3 r.length c3] rfl rfl (World.news_of_block (cs := #[.slice A3 r.length c3]) (heap_alloc_new _ _)) (by simp [Value.oneCell']) (by omega) (by simp only [maxLen]; omega) (by omega) (by simp; omega) (w3.heap.size + 1) (by simp) ?_; intro g5 cap5 w5 hown5 hgrow5 hat5 hlt5)
      have hs5 : w3.heap.size ≤ w5.heap.size := by have := hgrow5.size; simp at this; omega
      have G : Hid (GrowM w g5 (k + 1) cap5 (f.take (k + 1)) w5) := by
        rw [Hid, HS.out]
        refine ⟨_, HM3.out.push (row := r) hs3 rfl HO3.out hsz hown5 hgrow5, ?_⟩
        exact (HB3.out.alloc (by omega) _).grown hgrow5 (by simp; omega) (fun q hq => (hownO.lt q hq).1)
      clear hown5 hgrow5 hat5 hownO
      go_wp2
      go_roundw
      case rel => exact ⟨k + 1, g5, cap5, by omega, rfl, by go_num, G.out⟩
      case measure => simp [intOf]; omega
    · obtain rfl : k = n := by omega
      rw [List.take_of_length_le (by rw [HL.out]; exact Nat.le_refl _)] at HM
      have G : Hid (NewMat k f w (.returned (.slice (some ⟨g, 0, none⟩) k cap)) wr) := GrowM.done ⟨vs, HM, HBel⟩
      clear HM HBel
      go_wp2
      go_ret
      exact G.out

/-- a column changed, in the rows up to i -/
def colPut (m : List (List Int)) (rs : List Int) (k i : Nat) : List (List Int) := (List.range m.length).map fun j => if j < i then (m.getD j []).set k (rs.getD j 0) else m.getD j []
theorem colPut_length (m : List (List Int)) (rs : List Int) (k i : Nat) : (colPut m rs k i).length = m.length := by simp [colPut]
theorem colPut_at {m : List (List Int)} {rs : List Int} {k i j : Nat} (hj : j < m.length) : (colPut m rs k i)[j]? = some (if j < i then (m.getD j []).set k (rs.getD j 0) else m.getD j []) := by
  unfold colPut; rw [List.getElem?_map, List.getElem?_range hj]; rfl
theorem colPut_zero (m : List (List Int)) (rs : List Int) (k : Nat) : colPut m rs k 0 = m := by
  apply List.ext_getElem?
  intro j
  by_cases hj : j < m.length
  · obtain ⟨r, hr⟩ := at_lt hj
    rw [colPut_at hj, if_neg (by omega), hr, getD_of hr]
  · rw [List.getElem?_eq_none (by rw [colPut_length]; omega), List.getElem?_eq_none (by omega)]
theorem colPut_step {m : List (List Int)} {rs : List Int} {k i : Nat} {x : Int} (hi : i < m.length) (hx : rs[i]? = some x) : (colPut m rs k i).set i ((m.getD i []).set k x) = colPut m rs k (i + 1) := by
  have ex : rs.getD i 0 = x := by rw [List.getD_eq_getElem?_getD, hx]; rfl
  apply List.ext_getElem?
  intro j
  by_cases hj : j < m.length
  · by_cases e : i = j
    · subst e
      rw [List.getElem?_set_self (by rw [colPut_length]; exact hi), colPut_at hj, if_pos (by omega), ex]
    · rw [List.getElem?_set_ne e, colPut_at hj, colPut_at hj]
      by_cases h : j < i
      · rw [if_pos h, if_pos (by omega)]
      · rw [if_neg h, if_neg (by omega)]
  · rw [List.getElem?_eq_none (by rw [List.length_set, colPut_length]; omega), List.getElem?_eq_none (by rw [colPut_length]; omega)]
theorem colPut_wide {m : List (List Int)} {rs : List Int} {q k i : Nat} (hw : Wide m q) : Wide (colPut m rs k i) q := by
  intro r hr
  unfold colPut at hr
  rw [List.mem_map] at hr
  obtain ⟨j, hj, rfl⟩ := hr
  rw [List.mem_range] at hj
  obtain ⟨r0, hr0⟩ := at_lt hj
  split
  · rw [List.length_set, getD_of hr0]; exact hw.at_ hr0
  · rw [getD_of hr0]; exact hw.at_ hr0
theorem colPut_num {m : List (List Int)} {rs : List Int} {k i : Nat} (hn : ∀ r ∈ m, allNum r = true) (hs : allNum rs = true) : ∀ r ∈ colPut m rs k i, allNum r = true := by
  intro r hr
  unfold colPut at hr
  rw [List.mem_map] at hr
  obtain ⟨j, hj, rfl⟩ := hr
  rw [List.mem_range] at hj
  obtain ⟨r0, hr0⟩ := at_lt hj
  have h0 := hn r0 (List.mem_of_getElem? hr0)
  rw [getD_of hr0]
  split
  · rw [allNum, List.all_eq_true] at h0 hs ⊢
    intro x hx
    rcases List.mem_or_eq_of_mem_set hx with h | h
    · exact h0 x h
    · rw [h, List.getD_eq_getElem?_getD]
      cases e : rs[j]? with
      | none => decide
      | some y => exact hs y (List.mem_of_getElem? e)
  · exact h0
theorem colPut_ent {m : List (List Int)} {rs : List Int} {n k i j : Nat} (hl : m.length = n) (hw : Wide m n) (hi : i < n) (hk : k < n) (hj : j < n) : ent (colPut m rs k n) i j = if j = k then rs.getD i 0 else ent m i j := by
  have him : i < m.length := by omega
  obtain ⟨r0, hr0⟩ := at_lt him
  have hrl := hw.at_ hr0
  by_cases e : j = k
  · rw [if_pos e]
    refine ent_at (colPut_at him) ?_
    rw [if_pos hi, getD_of hr0, e, List.getElem?_set_self (by omega)]
  · rw [if_neg e]
    obtain ⟨x, hx⟩ := at_lt (show j < r0.length by omega)
    rw [ent_at hr0 hx]
    refine ent_at (colPut_at him) ?_
    rw [if_pos hi, getD_of hr0, List.getElem?_set_ne (fun h => e h.symm)]
    exact hx
/-- what l01Solve answers -/
def solL (m : List (List Int)) (rs : List Int) (n : Nat) : List Int := (List.range n).map fun k => detL (colPut m rs k m.length) * inv (detL m) % 10007
theorem solL_length (m : List (List Int)) (rs : List Int) (n : Nat) : (solL m rs n).length = n := by simp [solL]
theorem solL_step (m : List (List Int)) (rs : List Int) (k : Nat) : solL m rs (k + 1) = solL m rs k ++ [detL (colPut m rs k m.length) * inv (detL m) % 10007] := by
  unfold solL; rw [List.range_succ, List.map_append]; rfl
/-- the unit list -/
def unitL (n l : Nat) : List Int := (List.replicate n 0).set l 1
theorem unitL_length (n l : Nat) : (unitL n l).length = n := by simp [unitL]
theorem unitL_getD {n l i : Nat} (hi : i < n) : (unitL n l).getD i 0 = if i = l then 1 else 0 := by
  unfold unitL
  rw [List.getD_eq_getElem?_getD]
  by_cases e : i = l
  · subst e; rw [if_pos rfl, List.getElem?_set_self (by simpa using hi)]; rfl
  · rw [if_neg e, List.getElem?_set_ne (fun h => e h.symm), List.getElem?_replicate, if_pos hi]; rfl
theorem unitL_num (n l : Nat) : allNum (unitL n l) = true := by
  rw [allNum, List.all_eq_true]
  intro x hx
  unfold unitL at hx
  rcases List.mem_or_eq_of_mem_set hx with h | h
  · rw [List.mem_replicate] at h; rw [h.2]; decide
  · rw [h]; decide
theorem solL_unit {m : List (List Int)} {n l k : Nat} (hl : m.length = n) (hw : Wide m n) (hk : k < n) : (solL m (unitL n l) n)[k]? = some (cramE m k l) := by
  unfold solL
  rw [List.getElem?_map, List.getElem?_range hk]
  show some (detL (colPut m (unitL n l) k m.length) * inv (detL m) % 10007) = some _
  unfold cramE
  rw [hl, ← detL_of ((colPut_length m (unitL n l) k n).trans hl)]
  rw [Det.det_ext (n := n) (fun i hi j hj => (colPut_ent (rs := unitL n l) hl hw hi hk hj).trans (by rw [unitL_getD hi]))]
end Go.Proofs.Yteffgpcjdfjhfaa
