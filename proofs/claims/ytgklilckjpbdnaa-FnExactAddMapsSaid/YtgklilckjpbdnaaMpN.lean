/-
  The trees at the places of maps: the program's texts and the model's lists.
-/
import Derived.Test.YtgklilckjpbdnaaMpP
import Derived.Test.YtgklilckjpbdnaaTreesOfU
import Derived.Test.YtgklilckjpbdnaaAllX
import Derived.Test.YtgklilckjpbdnaaSrt
import Derived.Laws.AppendOwnNone
namespace Go.Proofs.Ytgklilckjpbdnaa
open Go.RowKit Fld
set_option linter.unusedVariables false
set_option linter.unusedSimpArgs false
set_option maxRecDepth 100000

def mapTo (k : Nat) : List (List UInt8) := [] :: (treesTo k).map Tr.txt
theorem mapTo_step (k : Nat) : mapTo (k + 1) = mapTo k ++ (Tr.treesL (k + 1)).map Tr.txt := by
  unfold mapTo; rw [treesTo_step, List.map_append, List.cons_append]
theorem mapTo_len (k : Nat) : (mapTo k).length = 1 + (treesTo k).length := by unfold mapTo; rw [List.length_cons, List.length_map]; omega
theorem strs_app9 (a b : List (List UInt8)) : strs a ++ strs b = strs (a ++ b) := by simp [strs]
theorem strs_one9 (l : List (List UInt8)) : ∀ u ∈ strs l, u.oneCell' = true := fun u hu => by
  unfold strs at hu
  rw [List.mem_map] at hu
  obtain ⟨x, _, rfl⟩ := hu
  rfl
set_option maxHeartbeats 2000000 in
theorem mapTrees_any (w : World) : Calls Try.prog 36 #[] w (NewRow 40 38 (strs mapTx) w) := by
  obtain ⟨i0, hi, hz0, hz1, hz2⟩ := info_parts info_tree
  go_enter Try.func36, Try.ntmps36
  go_wp2_with fail
  go_loopw [1, 2] (fun v i wr => ∃ (k q g cap : Nat), k ≤ 6 ∧ v = .slice (some ⟨g, 0, none⟩) q cap ∧ i = .int .i64 ((k : Int) + 1) ∧ Hid (q = (mapTo k).length) ∧ Hid (wr.ownsRow w.heap.size 40 1 (.slice (some ⟨g, 0, none⟩) q cap) q (strs (mapTo k))) ∧ Below w.heap.size w wr ∧ w.heap.size ≤ wr.heap.size) (fun _ i _ => 7 - (intOf i).toNat)
  case atStart => exact ⟨0, 1, w.heap.size, 1, Nat.zero_le _, rfl, rfl, rfl, World.ownsRow_lit (base := w.heap.size) (size := 1) (e := 40) w #[.string ⟨#[]⟩] 1 (Nat.le_refl _) (by simp [maxLen]) rfl, (Below.refl _ _).alloc (Nat.le_refl _) _, by simp⟩
  case round =>
    obtain ⟨k, q, g, cap, hk, rfl, rfl, HQ, HO, HB, hsz⟩ := hrel
    by_cases hlt : k < 6
    · have hq : q ≤ 921 := by
        have h1 := HQ.out
        have h2 := treesTo_len k (by omega)
        rw [mapTo_len] at h1
        omega
      have HBB := Lib.hid HB
      have C1 := treesWith_any (k + 1) wr (by omega) (by omega)
      obtain ⟨ha, h115⟩ := trees_all (n := k + 1) (by omega) (by omega)
      obtain ⟨T, hT⟩ : ∃ T, T = Tr.treesL (k + 1) := ⟨_, rfl⟩
      have HS : Hid (mapTo (k + 1) = mapTo k ++ T.map Tr.txt) := by rw [Hid, hT]; exact mapTo_step k
      rw [← hT] at C1 h115 ha
      have HLV : Hid (∀ r ∈ T, Tr.isLv r = true) := fun r hr => (ha r hr).1
      obtain ⟨N, hN⟩ : ∃ N, N = T.length := ⟨_, rfl⟩
      rw [← hN] at C1 h115
      have HN : Hid (T.length = N) := hN.symm
      have HSL : Hid ((strs (T.map Tr.txt)).length = N * 1) := by rw [Hid, strs_length, List.length_map, Nat.mul_one]; exact hN.symm
      have HQ2 : Hid (q + N = (mapTo (k + 1)).length) := by rw [Hid, HS.out, List.length_append, List.length_map, ← HQ.out, hN]
      clear HB hT hN ha HQ
      go_wp2_with fail
      refine C1.mono ?_
      rintro e w2 ⟨A2, c2, vs2, rfl, own2, bel2⟩
      have hs2 := bel2.size
      have HO2 : Hid (w2.ownsRow w.heap.size 40 1 (.slice (some ⟨g, 0, none⟩) q cap) q (strs (mapTo k))) := ((OwnR.of HO.out).below bel2 (Nat.le_refl _)).1
      have HM2 : Hid (Mat w2 w2.heap.size A2 T) := own2.mat
      have HB2 := Lib.hid (HBB.out.trans (bel2.mono hsz))
      clear own2 bel2 C1 HO
      go_wp2_with fail
      refine (treesOf_any A2 N c2 w2.heap.size T _ HN.out (by omega) HLV.out (Nat.le_refl _) HM2.out).mono ?_
      rintro e w3 ⟨rfl, own3, bel3⟩
      have hs3 := bel3.size
      have hown : w3.ownsRow w.heap.size 40 1 (.slice (some ⟨g, 0, none⟩) q cap) q (strs (mapTo k)) := ((OwnR.of HO2.out).below bel3 (Nat.le_refl _)).1
      have HB3 := Lib.hid (HB2.out.trans (bel3.mono (by omega)))
      have HNEW : Hid (∀ j u, (strs (T.map Tr.txt))[j]? = some u → w3.cell? ((⟨w2.heap.size, 0, none⟩ : Addr).add j) = some u) := row_news (row_of_own own3)
      have HONE := Lib.hid (strs_one9 (T.map Tr.txt))
      obtain ⟨vs, hvs⟩ : ∃ vs, vs = strs (T.map Tr.txt) := ⟨_, rfl⟩
      have HVS := Lib.hid hvs
      rw [← hvs] at HNEW HONE HSL
      clear own3 bel3 HO2 HM2 HB2 hvs
      go_wp2_with (at_builtin; refine wpList_append_own _ rfl (.tmp 8) (.tmp 11) 55 rfl w.heap.size 40 i0 _ 1 16 Try.underlying55 hi hz0 hz1 hz2 rfl (by omega) (.slice (some ⟨g, 0, none⟩) q cap) q (strs (mapTo k)) rfl hown ⟨w2.heap.size, 0, none⟩ N N vs rfl HSL.out HNEW.out HONE.out (by simp only [maxLen]; omega) (by omega) (by omega) ?_; intro v5 w5 own5 hgrow5 _; obtain ⟨g5, c5, rfl⟩ := own_form own5 (by have := HQ2.out; have := mapTo_len (k + 1); omega))
      have e1 : strs (mapTo k) ++ vs = strs (mapTo (k + 1)) := by rw [HVS.out, strs_app9, HS.out]
      rw [e1] at own5
      have GO := Lib.hid own5
      have GB : Hid (Below w.heap.size w w5) := HB3.out.grown hgrow5 (by omega) (fun z hz => (hown.lt z hz).1)
      have hs5 : w.heap.size ≤ w5.heap.size := by have := hgrow5.size; omega
      clear own5 hgrow5 hown e1
      go_wp2
      go_roundw
      case rel => exact ⟨k + 1, q + N, g5, c5, by omega, rfl, by go_num, HQ2, GO, GB.out, hs5⟩
      case measure => simp [intOf]; omega
    · obtain rfl : k = 6 := by omega
      have e : q = 38 := by have := HQ.out; rw [mapTo_len, to_len] at this; exact this
      subst e
      have G : Hid (NewRow 40 38 (strs mapTx) w (.returned (.slice (some ⟨g, 0, none⟩) 38 cap)) wr) := ⟨_, _, rfl, HO.out, HB⟩
      clear HB HQ
      go_wp2
      go_ret
      exact G.out
theorem strs_cell {w : World} {B b : Nat} {l : List (List UInt8)} (h : Row w B (some ⟨b, 0, none⟩) (strs l)) : ∀ k t, l[k]? = some t → w.cell? ⟨b, k, none⟩ = some (.string ⟨t.toArray⟩) := fun k t ht => by
  obtain ⟨b', o', e, _, hc⟩ := h k _ (strs_at ht)
  injection e with e
  injection e with e1 e2 _
  subst e1 e2
  rw [Nat.zero_add] at hc
  exact hc
end Go.Proofs.Ytgklilckjpbdnaa
