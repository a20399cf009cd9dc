/-
  The texts of the trees of a list of level lists: the walk.
-/
import Derived.Test.YtolkbbbbahhfaaaGreatTreeOf
import Derived.Test.YtolkbbbbahhfaaaGreatCan
import Derived.Test.YtolkbbbbahhfaaaGreatFill
namespace Go.Proofs.YtolkbbbbahhfaaaGreat
open Go.RowKit Fld
set_option linter.unusedVariables false
set_option linter.unusedSimpArgs false
set_option maxRecDepth 100000

set_option maxHeartbeats 1000000 in
theorem treesOf_any (A : Option Addr) (n c B : Nat) (f : List (List Int)) (w : World) (hl : f.length = n) (hn : n ≤ 1048576) (hr : ∀ r ∈ f, Tr.isLv r = true) (hB : B ≤ w.heap.size) (h : Mat w B A f) :
    Calls Tryz.prog 55 #[.slice A n c] w fun e w' => e = .returned (.slice (some ⟨w.heap.size, 0, none⟩) n n) ∧ w'.ownsRow w.heap.size 80 1 (.slice (some ⟨w.heap.size, 0, none⟩) n n) n (strs (f.map Tr.txt)) ∧ Below w.heap.size w w' := by
  obtain ⟨i0, hi, hz0, hz1, hz2⟩ := info_parts info_tree
  have HL := Lib.hid hl
  have HR := Lib.hid hr
  have HSL : Hid ((f.map Tr.txt).length = n) := by rw [Hid, List.length_map]; exact hl
  clear hl hr
  go_enter Tryz.func55, Tryz.ntmps55
  go_wp2_with (at_make; refine wpList_make_full _ rfl (.tmp 7) (.tmp 7) 76 rfl w.heap.size 80 i0 _ 1 Tryz.underlying76 hi hz0 hz1 .i64 .i64 _ _ n rfl rfl rfl rfl (by rw [hz2]; omega) (by simp only [maxLen]; omega) (Nat.le_refl _) ?_; intro w1 hown hg)
  have F0 := FillT.start (ss := f.map Tr.txt) hown hg
  clear hown hg hz0 hz1 hz2 hi
  go_wp2_with fail
  go_loopw [11] (fun i wr => ∃ k : Nat, k ≤ n ∧ i = .int .i64 k ∧ FillT w n (f.map Tr.txt) k wr) (fun i _ => n - (intOf i).toNat)
  case atStart => exact ⟨0, Nat.zero_le _, rfl, F0⟩
  case round =>
    obtain ⟨k, hk, rfl, HF⟩ := hrel
    by_cases hlt : k < n
    · obtain ⟨r, hr⟩ := at_lt (show k < f.length by rw [HL.out]; exact hlt)
      obtain ⟨b, o, Ak, ck, rfl, hb, hc, hrc, hcm, hrow⟩ := (h.below HF.2 hB) k r hr
      obtain ⟨r1, r8⟩ := lv_bd (HR.out r (List.mem_of_getElem? hr))
      have hsz := HF.2.size
      have hst : (f.map Tr.txt)[k]? = some (Tr.txt r) := by rw [List.getElem?_map, hr]; rfl
      have HST := Lib.hid hst
      have HFF := Lib.hid HF
      clear hr hst F0 HF
      go_wp2_with fail
      refine (treeOf_any Ak r.length ck B r wr rfl r1 r8 hrc (by omega) hrow).mono ?_
      rintro e w2 ⟨rfl, bel2⟩
      have HF2 := HFF.out.below bel2
      have hf := HF2.1.frozenAt k
      have ho := HF2.1.cellAt k (by omega)
      rw [fill_at (by rw [strs_length]; exact HSL.out) hlt] at ho
      have G := Lib.hid (HF2.step HSL.out HST.out)
      obtain ⟨X, hX⟩ : ∃ X : ByteArray, X = ⟨(Tr.txt r).toArray⟩ := ⟨_, rfl⟩
      rw [← hX] at G ⊢
      clear bel2 HF2 hc hrow hX
      go_wp2
      go_roundw
      case rel => exact ⟨k + 1, by omega, by go_num, G.out⟩
      case measure => simp [intOf]; omega
    · obtain rfl : k = n := by omega
      have G : Hid (wr.ownsRow w.heap.size 80 1 (.slice (some ⟨w.heap.size, 0, none⟩) k k) k (strs (f.map Tr.txt)) ∧ Below w.heap.size w wr) := by
        obtain ⟨h1, h2⟩ := HF
        rw [fill_end _ (by rw [strs_length]; exact HSL.out)] at h1
        exact ⟨h1, h2⟩
      clear HF F0
      go_wp2
      go_ret
      exact ⟨rfl, G.out⟩
end Go.Proofs.YtolkbbbbahhfaaaGreat
