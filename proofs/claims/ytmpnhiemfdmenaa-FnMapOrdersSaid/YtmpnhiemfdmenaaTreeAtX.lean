/-
  The list of all trees; what TreeAt answers, the program's and the model's.
-/
import Derived.Test.YtmpnhiemfdmenaaTreesX
namespace Go.Proofs.Ytmpnhiemfdmenaa
open Go.RowKit Fld
set_option linter.unusedVariables false
set_option linter.unusedSimpArgs false
set_option maxRecDepth 100000

/-- rows are added behind the last one -/
theorem OwnMat.pushAll {w w2 : World} {lo hi n n' g cap c' : Nat} {v : Value} {A' : Option Addr} {m m' : List (List Int)} {vs vs' : List Value} (h : OwnMat w lo hi v n m vs) (hs : hi ≤ w.heap.size) (h' : OwnMat w hi w.heap.size (.slice A' n' c') n' m' vs') (hl : lo ≤ hi)
    (h2 : w2.ownsRow lo 24 1 (.slice (some ⟨g, 0, none⟩) (n + n') cap) (n + n') (vs ++ vs')) (hg : w.grownBy w2 v.ownBlock) : OwnMat w2 lo w2.heap.size (.slice (some ⟨g, 0, none⟩) (n + n') cap) (n + n') (m ++ m') (vs ++ vs') := by
  have hz : w.heap.size ≤ w2.heap.size := hg.size
  have carry : ∀ (lo' hi' : Nat) (A2 : Option Addr) (c2 : Nat) (r2 : List Int), OwnR w lo' hi' 2 (.slice A2 r2.length c2) r2.length (ints r2) → OwnR w2 lo' hi' 2 (.slice A2 r2.length c2) r2.length (ints r2) := fun lo' hi' A2 c2 r2 o2 => o2.grown hg (own_types o2.1 h.outer.1 (by decide))
  have side : ∀ (r : Nat) (u : Value) (g' : Nat), (vs ++ vs')[r]? = some u → u.ownBlock = some g' → (r < vs.length ∧ vs[r]? = some u ∧ g' < hi) ∨ (vs.length ≤ r ∧ vs'[r - vs.length]? = some u ∧ hi ≤ g') := by
    intro r u g' hu hb
    rcases Nat.lt_or_ge r vs.length with x | x
    · rw [List.getElem?_append_left x] at hu
      obtain ⟨A2, c2, e2, o2⟩ := h.inner r _ (List.getElem?_eq_getElem (by rw [← h.len]; exact x))
      rw [hu] at e2
      injection e2 with e2
      subst e2
      exact .inl ⟨x, hu, o2.2 g' hb⟩
    · rw [List.getElem?_append_right x] at hu
      have hx : r - vs.length < vs'.length := by
        rcases Nat.lt_or_ge (r - vs.length) vs'.length with y | y
        · exact y
        · rw [List.getElem?_eq_none y] at hu; cases hu
      obtain ⟨A2, c2, e2, o2⟩ := h'.inner _ _ (List.getElem?_eq_getElem (by rw [← h'.len]; exact hx))
      have hu0 := hu
      rw [hu] at e2
      injection e2 with e2
      subst e2
      exact .inr ⟨x, hu0, (o2.1.lt g' hb).1⟩
  refine ⟨OwnR.of h2, by simp [h.len, h'.len], ?_, ?_⟩
  · intro r row hr
    rcases Nat.lt_or_ge r m.length with x | x
    · rw [List.getElem?_append_left x] at hr
      obtain ⟨A2, c2, e2, o2⟩ := h.inner r row hr
      exact ⟨A2, c2, by rw [List.getElem?_append_left (by rw [h.len]; exact x)]; exact e2, (carry _ _ _ _ _ o2).more (Nat.le_refl _) (by omega)⟩
    · rw [List.getElem?_append_right x] at hr
      obtain ⟨A2, c2, e2, o2⟩ := h'.inner _ row hr
      exact ⟨A2, c2, by rw [List.getElem?_append_right (by rw [h.len]; exact x), h.len]; exact e2, (carry _ _ _ _ _ o2).more hl hz⟩
  · intro r s u t g' hne hu ht hb hb'
    rcases side r u g' hu hb with ⟨a1, a2, a3⟩ | ⟨a1, a2, a3⟩ <;> rcases side s t g' ht hb' with ⟨b1, b2, b3⟩ | ⟨b1, b2, b3⟩
    · exact h.apart r s u t g' hne a2 b2 hb hb'
    · omega
    · omega
    · exact h'.apart _ _ u t g' (by omega) a2 b2 hb hb'
def treesTo (k : Nat) : List (List Int) := (List.range k).flatMap fun n => Tr.treesL (n + 1)
theorem treesTo_step (k : Nat) : treesTo (k + 1) = treesTo k ++ Tr.treesL (k + 1) := by
  unfold treesTo; rw [List.range_succ, List.flatMap_append]; simp
theorem treesTo_end : treesTo 8 = Tr.allL := rfl
theorem treesTo_len : ∀ k, k ≤ 8 → (treesTo k).length ≤ k * 115
  | 0, _ => by simp [treesTo]
  | k+1, h => by
    rw [treesTo_step, List.length_append]
    have := treesTo_len k (by omega)
    have := (trees_all (n := k + 1) (by omega) (by omega)).2
    omega
theorem own_addr {w : World} {lo : Nat} {T : TypeId} {A : Option Addr} {n c : Nat} {vs : List Value} (h : w.ownsRow lo T 1 (.slice A n c) n vs) (h1 : 0 < n) : ∃ g, A = some ⟨g, 0, none⟩ := by
  obtain ⟨g, cap, hv⟩ := own_form h h1
  injection hv with hA _ _
  exact ⟨g, hA⟩
theorem vals_one {w : World} {lo hi n : Nat} {v : Value} {m : List (List Int)} {vs : List Value} (h : OwnMat w lo hi v n m vs) : ∀ u ∈ vs, u.oneCell' = true := by
  intro u hu
  obtain ⟨k, hk⟩ := List.mem_iff_getElem?.1 hu
  have hkl : k < m.length := by
    rw [← h.len]
    rcases Nat.lt_or_ge k vs.length with y | y
    · exact y
    · rw [List.getElem?_eq_none y] at hk; cases hk
  obtain ⟨A, c, e, _⟩ := h.inner k _ (List.getElem?_eq_getElem hkl)
  rw [hk] at e
  injection e with e
  subst e
  rfl
theorem trees_pos {n : Nat} (h1 : 1 ≤ n) : 1 ≤ (Tr.treesL n).length := by
  unfold Tr.treesL
  rw [show (116 : Nat) = 115 + 1 from rfl, Tr.treesF]
  simp
set_option maxHeartbeats 1000000 in
theorem allTrees_any (w : World) : Calls Try.prog 76 #[] w (NewMat 200 Tr.allL w) := by
  obtain ⟨j0, hj, hy0, hy1, hy2⟩ := info_parts info_row
  go_enter Try.func76, Try.ntmps76
  go_wp2_with (at_make; refine wpList_make_own _ rfl _ _ 35 rfl w.heap.size 24 j0 (.slice none 0 0) 1 Try.underlying35 hj hy0 hy1 .i64 .i64 _ 200 rfl rfl rfl (by rw [hy2]; omega) (by unfold maxLen; omega) (Nat.le_refl _) ?_; intro w1 hown hg)
  have M0 : Hid (OwnMat w1 w.heap.size w1.heap.size (.slice (some ⟨w.heap.size, 0, none⟩) 0 200) 0 [] []) := ⟨OwnR.of hown, rfl, fun r row hr => by simp at hr, fun r s u t g _ hu => by simp at hu⟩
  have B0 : Hid (Below w.heap.size w w1) := (Below.refl _ _).grown hg (Nat.le_refl _) (fun k hk => by cases hk)
  have hs0 := hg.size
  clear hown hg
  go_wp2_with fail
  go_loopw [1, 2] (fun v i wr => ∃ (k q g cap : Nat) (vs : List Value), k ≤ 8 ∧ v = .slice (some ⟨g, 0, none⟩) q cap ∧ i = .int .i64 ((k : Int) + 1) ∧ Hid (OwnMat wr w.heap.size wr.heap.size (.slice (some ⟨g, 0, none⟩) q cap) q (treesTo k) vs) ∧ Below w.heap.size w wr ∧ w.heap.size ≤ wr.heap.size) (fun _ i _ => 9 - (intOf i).toNat)
  case atStart => exact ⟨0, 0, w.heap.size, 200, [], Nat.zero_le _, rfl, rfl, M0, B0.out, hs0⟩
  case round =>
    obtain ⟨k, q, g, cap, vs, hk, rfl, rfl, HM, HB, hsz⟩ := hrel
    by_cases hlt : k < 8
    · have hq : q ≤ 920 := by
        have h1 := HM.out.size
        have h2 := treesTo_len k hk
        omega
      have HBB := Lib.hid HB
      have C1 := treesWith_any (k + 1) wr (by omega) (by omega)
      have h115 := (trees_all (n := k + 1) (by omega) (by omega)).2
      have hpos := trees_pos (n := k + 1) (by omega)
      obtain ⟨T, hT⟩ : ∃ T, T = Tr.treesL (k + 1) := ⟨_, rfl⟩
      have HS : Hid (treesTo (k + 1) = treesTo k ++ T) := by rw [Hid, hT]; exact treesTo_step k
      rw [← hT] at C1 h115 hpos
      obtain ⟨N, hN⟩ : ∃ N, N = T.length := ⟨_, rfl⟩
      rw [← hN] at C1 h115 hpos
      clear HB hT hN
      go_wp2_with fail
      refine C1.mono ?_
      rintro e w2 ⟨A2, c2, vs2, rfl, own2, bel2⟩
      have hs2 := bel2.size
      have HM2 := Lib.hid (HM.out.below bel2 (Nat.le_refl _))
      have HO2 := Lib.hid own2
      have HB2 := Lib.hid (HBB.out.trans (bel2.mono hsz))
      have hownO := HM2.out.outer.1
      obtain ⟨g2, rfl⟩ := own_addr own2.outer.1 (by omega)
      have HLEN : Hid (vs2.length = N * 1) := by rw [Hid, HO2.out.len, HO2.out.size, Nat.mul_one]
      have HNEW : Hid (∀ j u, vs2[j]? = some u → w2.cell? ((⟨g2, 0, none⟩ : Addr).add j) = some u) := (row_of_own HO2.out.outer.1).news
      have HONE := Lib.hid (vals_one HO2.out)
      clear own2 bel2 C1
      go_wp2_with (at_builtin; refine wpList_append_lies _ rfl (.tmp 8) (.tmp 10) 35 rfl w.heap.size 24 j0 _ 1 24 Try.underlying35 hj hy0 hy1 hy2 rfl (by omega) (.slice (some ⟨g, 0, none⟩) q cap) q vs rfl hownO ⟨g2, 0, none⟩ N c2 vs2 rfl HLEN.out HNEW.out HONE.out (by omega) (by simp only [maxLen]; omega) (by omega) (by omega) w2.heap.size rfl ?_; intro g5 cap5 w5 hown5 hgrow5 hat5 hlt5)
      have GM : Hid (OwnMat w5 w.heap.size w5.heap.size (.slice (some ⟨g5, 0, none⟩) (q + N) cap5) (q + N) (treesTo (k + 1)) (vs ++ vs2)) := by
        rw [Hid, HS.out]
        exact HM2.out.pushAll hs2 HO2.out hsz hown5 hgrow5
      have GB : Hid (Below w.heap.size w w5) := HB2.out.grown hgrow5 (by omega) (fun z hz => (hownO.lt z hz).1)
      have hs5 : w2.heap.size ≤ w5.heap.size := hgrow5.size
      clear hown5 hgrow5 hat5 hownO
      go_wp2
      go_roundw
      case rel => exact ⟨k + 1, q + N, g5, cap5, _, by omega, rfl, by go_num, GM, GB.out, by omega⟩
      case measure => simp [intOf]; omega
    · obtain rfl : k = 8 := by omega
      have e : q = 200 := by have := HM.out.size; rw [treesTo_end, Tr.allL_len] at this; omega
      subst e
      have G : Hid (NewMat 200 Tr.allL w (.returned (.slice (some ⟨g, 0, none⟩) 200 cap)) wr) := ⟨_, _, vs, rfl, HM.out, HB⟩
      clear HB
      go_wp2
      go_ret
      exact G.out
theorem all_split : ∀ k, k ≤ 8 → ∃ rest, Tr.allL = treesTo k ++ rest := by
  intro k hk
  refine ⟨((List.range (8 - k)).map (· + k)).flatMap fun n => Tr.treesL (n + 1), ?_⟩
  rw [← treesTo_end]
  unfold treesTo
  rw [← List.flatMap_append]
  congr 1
  have : ∀ k, k ≤ 8 → List.range 8 = List.range k ++ (List.range (8 - k)).map (· + k) := by decide
  exact this k hk
def treeAtA (a : Int) : List Int × Int := if 0 ≤ a ∧ a ≤ 199 then (Tr.allL.getD a.toNat [], 0) else ([], 2)
theorem treeAtA_no {a : Int} (h : ¬ (0 ≤ a ∧ a ≤ 199)) : treeAtA a = ([], 2) := if_neg h
theorem treeAtA_yes {a : Nat} {t : List Int} (ht : Tr.allL[a]? = some t) (h : a ≤ 199) : treeAtA (a : Int) = (t, 0) := by
  unfold treeAtA
  rw [if_pos (by omega), Int.toNat_natCast, List.getD_eq_getElem?_getD, ht]; rfl
theorem all_len {a : Nat} {t : List Int} (ht : Tr.allL[a]? = some t) : t.length ≤ 8 := by
  have hm := List.mem_of_getElem? ht
  rw [← treesTo_end] at hm
  unfold treesTo at hm
  rw [List.mem_flatMap] at hm
  obtain ⟨n, hn, h⟩ := hm
  rw [List.mem_range] at hn
  rw [((trees_all (n := n + 1) (by omega) (by omega)).1 t h).2]; omega
end Go.Proofs.Ytmpnhiemfdmenaa
