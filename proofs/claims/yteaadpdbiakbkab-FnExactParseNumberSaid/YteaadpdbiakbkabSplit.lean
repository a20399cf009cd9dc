/-
  Texts parted at a byte, as the model parts them.
-/
import Derived.Test.YteaadpdbiakbkabText
import Derived.Test.YteaadpdbiakbkabMat
namespace Go.Proofs.Yteaadpdbiakbkab
open Go.RowKit Fld
set_option linter.unusedVariables false
set_option linter.unusedSimpArgs false

theorem info_str : (Try.prog.info? 9).map (fun i => (i.zero, i.size, i.bytes)) = some (some (.string ByteArray.empty), 1, 16) := by kernel_rfl

/-- the pieces up to a place, and where the next one begins -/
def piecesTo (s : ByteArray) (c : Int) : Nat → List (Nat × Nat) × Nat
  | 0 => ([], 0)
  | k+1 => if ((s.data.toList.getD k 0).toNat : Int) = c then ((piecesTo s c k).1 ++ [((piecesTo s c k).2, k)], k + 1) else piecesTo s c k
def pieces (s : ByteArray) (c : Int) : List (Nat × Nat) := (piecesTo s c s.size).1 ++ [((piecesTo s c s.size).2, s.size)]
def strsOf (s : ByteArray) (ps : List (Nat × Nat)) : List Value := ps.map fun p => .string (s.extract p.1 p.2)
theorem getD_at {s : ByteArray} {k : Nat} (h : k < s.size) : s.data.toList.getD k 0 = s[k] := by
  rw [List.getD_eq_getElem?_getD, List.getElem?_eq_getElem (by simpa using h)]; rfl
theorem pieces_yes {s : ByteArray} {c : Int} {k : Nat} (h : k < s.size) (hc : (s[k].toNat : Int) = c) : piecesTo s c (k + 1) = ((piecesTo s c k).1 ++ [((piecesTo s c k).2, k)], k + 1) := by
  rw [piecesTo, getD_at h]; exact if_pos hc
theorem pieces_no {s : ByteArray} {c : Int} {k : Nat} (h : k < s.size) (hc : (s[k].toNat : Int) ≠ c) : piecesTo s c (k + 1) = piecesTo s c k := by
  rw [piecesTo, getD_at h]; exact if_neg hc
theorem pieces_bd (s : ByteArray) (c : Int) (k : Nat) : (piecesTo s c k).2 ≤ k ∧ (piecesTo s c k).1.length ≤ k := by
  induction k with
  | zero => exact ⟨Nat.le_refl _, Nat.le_refl _⟩
  | succ k ih =>
    rw [piecesTo]
    split
    · refine ⟨Nat.le_refl _, ?_⟩
      simp; omega
    · omega

set_option maxRecDepth 100000 in
set_option maxHeartbeats 1000000 in
theorem l01Split_any (s : ByteArray) (c : Int) (w : World) (hm : s.size ≤ 1048576) (c0 : 0 ≤ c) (c1 : c ≤ 255) :
    Calls Try.prog 45 #[.string s, .int .u8 c] w (NewRow 9 (pieces s c).length (strsOf s (pieces s c)) w) := by
  obtain ⟨i0, hi, hz0, hz1, hz2⟩ := info_parts info_str
  go_enter Try.func45, Try.ntmps45
  go_wp2_with fail
  go_loopw [5, 6, 7] (fun v a i wr => ∃ k n g cap : Nat, k ≤ s.size ∧ v = .slice (some ⟨g, 0, none⟩) n cap ∧ a = .int .i64 (((piecesTo s c k).2 : Nat) : Int) ∧ i = .int .i64 k ∧ Hid (n = (piecesTo s c k).1.length) ∧ Growing w 9 g n cap (strsOf s (piecesTo s c k).1) wr) (fun _ _ i _ => s.size - (intOf i).toNat)
  case atStart => exact ⟨0, 0, _, 0, Nat.zero_le _, rfl, rfl, rfl, rfl, Growing.start ..⟩
  case round =>
    obtain ⟨k, n, g, cap, hk, rfl, rfl, rfl, HN, HF⟩ := hrel
    obtain ⟨p0, p1⟩ := pieces_bd s c k
    have hn1 : n ≤ k := by have := HN.out; omega
    by_cases hlt : k < s.size
    · by_cases hc : (s[k].toNat : Int) = c
      · have tc := beq_t hc
        have HP := Lib.hid (pieces_yes hlt hc)
        have HF' := Lib.hid HF
        have hown := HF.1
        have hsz := HF.2.size
        clear hc HF
        go_wp2_with (at_builtin; (refine wpList_append_lies _ rfl (.tmp 20) (.tmp 25) 53 rfl w.heap.size 9 i0 _ 1 16 Try.underlying53 hi hz0 hz1 hz2 rfl (by omega) (.slice (some ⟨g, 0, none⟩) n cap) n (strsOf s (piecesTo s c k).1) rfl (hown.alloc _) ⟨wr.heap.size, 0, none⟩ 1 1 [.string (s.extract (piecesTo s c k).2 k)] rfl rfl (World.news_of_block (cs := #[.string (s.extract (piecesTo s c k).2 k)]) (heap_alloc_new _ _)) (by simp [Value.oneCell']) (by omega) (by simp only [maxLen]; omega) (by omega) (by simp; omega) (wr.heap.size + 1) (by simp) ?_); intro g2 cap2 w2 hown2 hgrow2 hat2 hlt2)
        rw [show strsOf s (piecesTo s c k).1 ++ [.string (s.extract (piecesTo s c k).2 k)] = strsOf s (piecesTo s c (k + 1)).1 by rw [HP.out]; simp [strsOf]] at hown2
        have G := Lib.hid (HF'.out.step ((Below.refl _ _).alloc (Nat.le_refl _) _) hown2 hgrow2)
        clear hown2 hgrow2 hat2 hown
        go_roundw
        case rel => exact ⟨k + 1, n + 1, _, _, by omega, rfl, by rw [HP.out]; go_num, by go_num, by rw [Hid, HP.out]; simp; exact HN.out, G.out⟩
        case measure => simp [intOf]; omega
      · have tc := beq_f hc
        have HP := Lib.hid (pieces_no hlt hc)
        clear hc
        go_wp2
        go_roundw
        case rel => exact ⟨k + 1, n, g, cap, by omega, rfl, by rw [HP.out], by go_num, by rw [Hid, HP.out]; exact HN.out, by rw [HP.out]; exact HF⟩
        case measure => simp [intOf]; omega
    · obtain rfl : k = s.size := by omega
      have HF' := Lib.hid HF
      have hown := HF.1
      have hsz := HF.2.size
      clear HF
      go_wp2_with (at_builtin; go_loud (refine wpList_append_lies _ rfl (.tmp 29) (.tmp 33) 53 rfl w.heap.size 9 i0 _ 1 16 Try.underlying53 hi hz0 hz1 hz2 rfl (by omega) (.slice (some ⟨g, 0, none⟩) n cap) n (strsOf s (piecesTo s c s.size).1) rfl (hown.alloc _) ⟨wr.heap.size, 0, none⟩ 1 1 [.string (s.extract (piecesTo s c s.size).2 s.size)] rfl rfl (World.news_of_block (cs := #[.string (s.extract (piecesTo s c s.size).2 s.size)]) (heap_alloc_new _ _)) (by simp [Value.oneCell']) (by omega) (by simp only [maxLen]; omega) (by omega) (by simp; omega) (wr.heap.size + 1) (by simp) ?_); intro g2 cap2 w2 hown2 hgrow2 hat2 hlt2)
      rw [show strsOf s (piecesTo s c s.size).1 ++ [.string (s.extract (piecesTo s c s.size).2 s.size)] = strsOf s (pieces s c) by simp [strsOf, pieces]] at hown2
      have G := Lib.hid (HF'.out.step ((Below.refl _ _).alloc (Nat.le_refl _) _) hown2 hgrow2).done
      have e : (pieces s c).length = n + 1 := by have := HN.out; simp [pieces]; omega
      clear hown2 hgrow2 hat2 hown
      rw [e]
      go_ret
      exact G.out
end Go.Proofs.Yteaadpdbiakbkab
