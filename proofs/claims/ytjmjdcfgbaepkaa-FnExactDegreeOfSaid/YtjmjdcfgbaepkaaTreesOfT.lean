/-
  The texts of the trees of a list of level lists.
-/
import Derived.Test.YtjmjdcfgbaepkaaForestS
import Derived.Test.YtjmjdcfgbaepkaaFill
namespace Go.Proofs.Ytjmjdcfgbaepkaa
open Go.RowKit Fld
set_option linter.unusedVariables false
set_option linter.unusedSimpArgs false
set_option maxRecDepth 100000

theorem for_rows {f : List (List Int)} (h : isFor f = true) : ∀ r ∈ f, isTr r = true := fun r hr => by
  unfold isFor at h
  rw [Bool.and_eq_true] at h
  obtain ⟨k, hk⟩ := List.mem_iff_getElem?.1 hr
  have hlt : k < f.length := by
    rcases Nat.lt_or_ge k f.length with g | g
    · exact g
    · rw [List.getElem?_eq_none g] at hk; cases hk
  exact okAt_tr (okTo_at h.1 hlt) hk
theorem for_total {f : List (List Int)} (h : isFor f = true) : total f ≤ 8 := by
  unfold isFor at h
  rw [Bool.and_eq_true] at h
  simpa using h.2
theorem total_cons (x : List Int) (f : List (List Int)) : total (x :: f) = x.length + total f := by simp [total]
theorem len_total : ∀ {f : List (List Int)}, (∀ r ∈ f, 1 ≤ r.length) → f.length ≤ total f
  | [], _ => Nat.zero_le _
  | x :: f, h => by
    have h1 := len_total (f := f) (fun r hr => h r (by simp [hr]))
    have h2 := h x (by simp)
    rw [total_cons, List.length_cons]; omega
theorem flat_txt : ∀ {f : List (List Int)}, (∀ r ∈ f, Tr.isLv r = true) → (f.map Tr.txt).flatten.length = 2 * total f
  | [], _ => by simp [total]
  | x :: f, h => by
    have h1 := flat_txt (f := f) (fun r hr => h r (by simp [hr]))
    have h2 := (lv_txt (h x (by simp))).2.2.2
    rw [total_cons, List.map_cons, List.flatten_cons, List.length_append, h1, h2]; omega
set_option maxHeartbeats 1000000 in
theorem treesOf_any (A : Option Addr) (n c B : Nat) (f : List (List Int)) (w : World) (hl : f.length = n) (hn : n ≤ 1048576) (hr : ∀ r ∈ f, Tr.isLv r = true) (hB : B ≤ w.heap.size) (h : Mat w B A f) :
    Calls Try.prog 84 #[.slice A n c] w fun e w' => e = .returned (.slice (some ⟨w.heap.size, 0, none⟩) n n) ∧ w'.ownsRow w.heap.size 75 1 (.slice (some ⟨w.heap.size, 0, none⟩) n n) n (strs (f.map Tr.txt)) ∧ Below w.heap.size w w' := by
  obtain ⟨i0, hi, hz0, hz1, hz2⟩ := info_parts info_tree
  have HL := Lib.hid hl
  have HR := Lib.hid hr
  have HSL : Hid ((f.map Tr.txt).length = n) := by rw [Hid, List.length_map]; exact hl
  clear hl hr
  go_enter Try.func84, Try.ntmps84
  go_wp2_with (at_make; refine wpList_make_full _ rfl (.tmp 7) (.tmp 7) 96 rfl w.heap.size 75 i0 _ 1 Try.underlying96 hi hz0 hz1 .i64 .i64 _ _ n rfl rfl rfl rfl (by rw [hz2]; omega) (by simp only [maxLen]; omega) (Nat.le_refl _) ?_; intro w1 hown hg)
  have F0 := FillT.start (ss := f.map Tr.txt) hown hg
  clear hown hg hz0 hz1 hz2 hi
  go_wp2_with fail
  go_loopw [11] (fun i wr => ∃ k : Nat, k ≤ n ∧ i = .int .i64 k ∧ FillT w n (f.map Tr.txt) k wr) (fun i _ => n - (intOf i).toNat)
  case atStart => exact ⟨0, Nat.zero_le _, rfl, F0⟩
  case round =>
    obtain ⟨k, hk, rfl, HF⟩ := hrel
    by_cases hlt : k < n
    · obtain ⟨r, hr⟩ := at_lt (show k < f.length by rw [HL.out]; exact hlt)
      obtain ⟨b, o, Ak, ck, rfl, hb, hc, hrc, hcm, hrow⟩ := (h.below HF.2 hB) k r hr
      obtain ⟨r1, r8⟩ := lv_bd (HR.out r (List.mem_of_getElem? hr))
      have hsz := HF.2.size
      have hst : (f.map Tr.txt)[k]? = some (Tr.txt r) := by rw [List.getElem?_map, hr]; rfl
      have HST := Lib.hid hst
      have HFF := Lib.hid HF
      clear hr hst F0 HF
      go_wp2_with fail
      refine (treeOf_any Ak r.length ck B r wr rfl r1 r8 hrc (by omega) hrow).mono ?_
      rintro e w2 ⟨rfl, bel2⟩
      have HF2 := HFF.out.below bel2
      have hf := HF2.1.frozenAt k
      have ho := HF2.1.cellAt k (by omega)
      rw [fill_at (by rw [strs_length]; exact HSL.out) hlt] at ho
      have G := Lib.hid (HF2.step HSL.out HST.out)
      obtain ⟨X, hX⟩ : ∃ X : ByteArray, X = ⟨(Tr.txt r).toArray⟩ := ⟨_, rfl⟩
      rw [← hX] at G ⊢
      clear bel2 HF2 hc hrow hX
      go_wp2
      go_roundw
      case rel => exact ⟨k + 1, by omega, by go_num, G.out⟩
      case measure => simp [intOf]; omega
    · obtain rfl : k = n := by omega
      have G : Hid (wr.ownsRow w.heap.size 75 1 (.slice (some ⟨w.heap.size, 0, none⟩) k k) k (strs (f.map Tr.txt)) ∧ Below w.heap.size w wr) := by
        obtain ⟨h1, h2⟩ := HF
        rw [fill_end _ (by rw [strs_length]; exact HSL.out)] at h1
        exact ⟨h1, h2⟩
      clear HF F0
      go_wp2
      go_ret
      exact ⟨rfl, G.out⟩
end Go.Proofs.Ytjmjdcfgbaepkaa
