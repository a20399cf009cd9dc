/-
  What IndexOf answers, the program's and the model's.
-/
import Derived.Test.YtegigeoeoioolabTreeAtX
import Derived.Test.YtegigeoeoioolabTreeC8
import Derived.Test.YtegigeoeoioolabCan
import Derived.Test.YtegigeoeoioolabHgt
namespace Go.Proofs.Ytegigeoeoioolab
open Go.RowKit Fld
set_option linter.unusedVariables false
set_option linter.unusedSimpArgs false
set_option maxRecDepth 100000

def indexA (t : List Int) : Int × Int := if Tr.isLv t = true then (Tr.idxL (Tr.can t) Tr.allL 0, 0) else (0, 1)
theorem indexA_yes {t : List Int} (h : Tr.isLv t = true) : indexA t = (Tr.idxL (Tr.can t) Tr.allL 0, 0) := if_pos h
theorem indexA_no {t : List Int} (h : Tr.isLv t = false) : indexA t = (0, 1) := if_neg (by rw [h]; simp)
theorem isSame_any (A Au : Option Addr) (n c nu cu B Bu bb : Nat) (xs u : List Int) (w : World) (hl : xs.length = n) (hn : n ≤ 1048576) (hu : u.length = nu) (hnu : nu ≤ 1048576) (h : Row w B A (ints xs)) (h' : Row w Bu Au (ints u)) (hc : w.cell? ⟨bb, 0, none⟩ = some (.slice Au nu cu)) :
    Calls Try.prog 80 #[.slice A n c, .pointer (some ⟨bb, 0, none⟩)] w fun e w' => e = .returned (.bool (eqL xs u)) ∧ ∃ m, w' = w.drewN m := by
  go_enter Try.func80, Try.ntmps80
  go_wp2_with fail
  refine (slicesEqual_any A Au n nu c cu B Bu xs u _ hl hu (by omega) (by omega) h h').mono ?_
  rintro e w' ⟨rfl, m, rfl⟩
  go_wp2
  go_ret
  exact ⟨rfl, m, rfl⟩
set_option maxHeartbeats 1000000 in
theorem indexFunc_any (A Au : Option Addr) (n c nu cu B Bu bb : Nat) (m : List (List Int)) (u : List Int) (w : World) (hl : m.length = n) (hn : n ≤ 1048576) (hr : ∀ r ∈ m, r.length ≤ 1048576) (hu : u.length = nu) (hnu : nu ≤ 1048576) (h : Mat w B A m) (h' : Row w Bu Au (ints u)) (hc : w.cell? ⟨bb, 0, none⟩ = some (.slice Au nu cu)) :
    Calls Try.prog 82 #[.slice A n c, .func (.func 80) #[] #[.pointer (some ⟨bb, 0, none⟩)]] w fun e w' => e = .returned (.int .i64 (Tr.idxL u m 0)) ∧ ∃ k, w' = w.drewN k := by
  have HL := Lib.hid hl
  have HR := Lib.hid hr
  clear hl hr
  go_enter Try.func82, Try.ntmps82
  go_wp2_with fail
  go_loopw [8] (fun i wr => ∃ k d : Nat, k ≤ n ∧ i = .int .i64 k ∧ wr = w.drewN d ∧ Hid (Tr.idxL u m 0 = Tr.idxL u (m.drop k) k)) (fun i _ => n - (intOf i).toNat)
  case atStart => exact ⟨0, 0, Nat.zero_le _, rfl, rfl, rfl⟩
  case round =>
    obtain ⟨k, d, hk, rfl, rfl, HI⟩ := hrel
    by_cases hlt : k < n
    · obtain ⟨r, hr⟩ := at_lt (show k < m.length by rw [HL.out]; exact hlt)
      obtain ⟨b, o, Ak, ck, rfl, _, hca, _, _, hrow⟩ := (Mat.drewN h d) k r hr
      have HRL : Hid (r.length ≤ 1048576) := HR.out r (List.mem_of_getElem? hr)
      obtain ⟨N1, N2⟩ := Tr.idx_next HI.out hr
      have C1 := isSame_any Ak Au r.length ck nu cu B Bu bb r u (w.drewN d) rfl HRL.out hu hnu hrow (h'.drewN d) hc
      clear hr HI hrow
      by_cases hru : r = u
      · have G := Lib.hid (N1 hru)
        rw [hru, eqL_self, ← hru] at C1
        clear N1 N2 hru
        go_wp2_with (go_at_call 80; refine C1.mono ?_; rintro e w' ⟨rfl, d2, rfl⟩)
        go_ret
        exact ⟨by rw [G.out]; rfl, _, rfl⟩
      · have G := Lib.hid (N2 hru)
        have e : eqL r u = false := by unfold eqL; exact decide_eq_false hru
        rw [e] at C1
        clear N1 N2 hru e
        go_wp2_with (go_at_call 80; refine C1.mono ?_; rintro e w' ⟨rfl, d2, rfl⟩)
        go_roundw
        case rel => exact ⟨k + 1, _, by omega, by go_num, rfl, G⟩
        case measure => simp [intOf]; omega
    · have G := Lib.hid (Tr.idx_end HI.out (by rw [HL.out]; omega))
      clear HI
      go_wp2
      go_ret
      exact ⟨by rw [G.out]; rfl, _, rfl⟩
theorem can_mem {t : List Int} (h : Tr.isLv t = true) : Tr.can t ∈ Tr.treesL t.length := by
  obtain ⟨h1, h2⟩ := lv_can h
  have h3 := Tr.isLv_iff.1 h1
  have h4 := Tr.isLv_iff.1 h
  have p1 := h4.1
  rw [← grow_trees h4.1 h4.2.1]
  refine Tr.grow_all (t.length - 1) [0] [] (Tr.can t) (by simp) h3 (by show (Tr.can t).length = 1 + (t.length - 1); omega) ?_ (Tr.can_can h).1
  obtain ⟨x, hx⟩ := at_lt (show 0 < (Tr.can t).length by omega)
  have e := h3.2.2.1
  rw [lv_at hx] at e
  subst e
  show (Tr.can t).take 1 = [0]
  rw [List.take_add_one, hx]; rfl
theorem idx_to {t : List Int} (h : Tr.isLv t = true) : Tr.idxL (Tr.can t) Tr.allL 0 = Tr.idxL (Tr.can t) (treesTo t.length) 0 := by
  have h4 := Tr.isLv_iff.1 h
  obtain ⟨rest, hr⟩ := all_split t.length h4.2.1
  rw [hr]
  refine Tr.idx_append rest 0 ?_
  have hm := can_mem h
  obtain ⟨k, hk⟩ : ∃ k, t.length = k + 1 := ⟨t.length - 1, by have := h4.1; omega⟩
  rw [hk] at hm ⊢
  rw [treesTo_step, List.mem_append]
  exact .inr hm
set_option maxHeartbeats 1000000 in
theorem pIndexOf_L (A : Option Addr) (n c B : Nat) (t : List Int) (w : World) (hl : t.length = n) (hn : n ≤ 1048576) (hB : B ≤ w.heap.size) (h : Row w B A (ints t)) (hc : n ≤ c) :
    Calls Try.prog 43 #[.slice A n c] w (ResI (indexA t) w) := by
  have C0 := isLevels_any A n c B t w hl (by omega) h
  cases hlv : Tr.isLv t
  · have G := Lib.hid (indexA_no hlv)
    rw [hlv] at C0
    go_enter Try.func43, Try.ntmps43
    go_wp2_with fail
    refine C0.mono ?_
    rintro e w' ⟨rfl, m, rfl⟩
    go_wp2
    go_ret2
    exact ResI.of' G.out (below_drewN (Below.refl _ _) _)
  · have G := Lib.hid (indexA_yes hlv)
    rw [hlv] at C0
    obtain ⟨b1, b8⟩ := lv_bd hlv
    rw [hl] at b1 b8
    have HL := Lib.hid hl
    have HLV := Lib.hid hlv
    have HE : Hid ((Tr.can t).length = n) := by rw [Hid, (lv_can hlv).2, hl]
    clear hl hlv
    go_enter Try.func43, Try.ntmps43
    go_wp2_with fail
    refine C0.mono ?_
    rintro e w' ⟨rfl, m, rfl⟩
    go_wp2_with fail
    refine (treeOf_any A n c B t _ HL.out b1 b8 hc (by exact hB) (h.drewN m)).mono ?_
    rintro e w2 ⟨rfl, bel2⟩
    go_wp2_with fail
    refine (levelsOf_any t _ HLV.out).mono ?_
    rintro e w3 ⟨A3, c3, rfl, own3, bel3⟩
    rw [HL.out] at own3 ⊢
    have hs2 : w.heap.size ≤ w2.heap.size := bel2.size
    have HB3 : Hid (Below w.heap.size w w3) := (below_undrew' bel2).trans (bel3.mono hs2)
    have HO3 : Hid (Row w3 w3.heap.size A3 (ints (Tr.can t))) := row_of_own own3
    have hs3 : w2.heap.size ≤ w3.heap.size := bel3.size
    clear own3 bel2 bel3
    go_wp2_with fail
    refine (allTrees_any _).mono ?_
    rintro e w5 ⟨A5, c5, vs5, rfl, own5, bel5⟩
    have hal : Below w3.heap.size w3 (w3.alloc (.cells #[.slice A3 n c3] 24)) := (Below.refl _ _).alloc (Nat.le_refl _) _
    have hs5 : w3.heap.size + 1 ≤ w5.heap.size := by have := bel5.size; simp at this; exact this
    have B5 : Hid (Below w3.heap.size w3 w5) := hal.trans (bel5.mono (by simp))
    have HB5 : Hid (Below w.heap.size w w5) := HB3.out.trans (B5.out.mono (by omega))
    have HU5 : Hid (Row w5 w3.heap.size A3 (ints (Tr.can t))) := Row.below HO3.out B5.out (Nat.le_refl _)
    have HC5 : Hid (w5.cell? ⟨w3.heap.size, 0, none⟩ = some (.slice A3 n c3)) := by
      rw [Hid, bel5.cell (p := ⟨w3.heap.size, 0, none⟩) (by simp)]
      rw [World.cell?_alloc_at (hn := by simp)]
      rfl
    have HM5 : Hid (Mat w5 w5.heap.size A5 Tr.allL) := own5.mat
    clear own5 bel5 hal
    go_wp2_with fail
    refine (indexFunc_any A5 A3 200 c5 n c3 w5.heap.size w3.heap.size w3.heap.size Tr.allL (Tr.can t) _ Tr.allL_len (by omega) (fun r hr => by
      obtain ⟨k, hk⟩ := List.mem_iff_getElem?.1 hr
      have := all_len hk; omega) HE.out (by omega) HM5.out HU5.out HC5.out).mono ?_
    rintro e w6 ⟨rfl, m6, rfl⟩
    go_wp2
    go_ret2
    exact ResI.of' G.out (below_drewN HB5.out _)
set_option maxHeartbeats 1000000 in
theorem l03All_any (n : Nat) (w : World) (h1 : 1 ≤ n) (h8 : n ≤ 8) : Calls Try.prog 78 #[.int .i64 n] w (NewMat (treesTo n).length (treesTo n) w) := by
  obtain ⟨j0, hj, hy0, hy1, hy2⟩ := info_parts info_row
  go_enter Try.func78, Try.ntmps78
  go_wp2_with fail
  go_loopw [3, 4] (fun v i wr => ∃ (k q g cap : Nat) (vs : List Value), k ≤ n ∧ v = .slice (some ⟨g, 0, none⟩) q cap ∧ i = .int .i64 ((k : Int) + 1) ∧ Hid (OwnMat wr w.heap.size wr.heap.size (.slice (some ⟨g, 0, none⟩) q cap) q (treesTo k) vs) ∧ Below w.heap.size w wr ∧ w.heap.size ≤ wr.heap.size) (fun _ i _ => 9 - (intOf i).toNat)
  case atStart => exact ⟨0, 0, w.heap.size, 0, [], Nat.zero_le _, rfl, rfl, by rw [Hid]; have := OwnMat.empty w; simpa [treesTo] using this, (Below.refl _ _).alloc (Nat.le_refl _) _, by simp⟩
  case round =>
    obtain ⟨k, q, g, cap, vs, hk, rfl, rfl, HM, HB, hsz⟩ := hrel
    by_cases hlt : k < n
    · have hq : q ≤ 920 := by
        have h1 := HM.out.size
        have h2 := treesTo_len k (by omega)
        omega
      have HBB := Lib.hid HB
      have C1 := l03Trees_any (k + 1) wr (by omega) (by omega)
      have h115 := (trees_all (n := k + 1) (by omega) (by omega)).2
      have hpos := trees_pos (n := k + 1) (by omega)
      obtain ⟨T, hT⟩ : ∃ T, T = Tr.treesL (k + 1) := ⟨_, rfl⟩
      have HS : Hid (treesTo (k + 1) = treesTo k ++ T) := by rw [Hid, hT]; exact treesTo_step k
      rw [← hT] at C1 h115 hpos
      obtain ⟨N, hN⟩ : ∃ N, N = T.length := ⟨_, rfl⟩
      rw [← hN] at C1 h115 hpos
      clear HB hT hN
      go_wp2_with fail
      refine C1.mono ?_
      rintro e w2 ⟨A2, c2, vs2, rfl, own2, bel2⟩
      have hs2 := bel2.size
      have HM2 := Lib.hid (HM.out.below bel2 (Nat.le_refl _))
      have HO2 := Lib.hid own2
      have HB2 := Lib.hid (HBB.out.trans (bel2.mono hsz))
      have hownO := HM2.out.outer.1
      obtain ⟨g2, rfl⟩ := own_addr own2.outer.1 (by omega)
      have HLEN : Hid (vs2.length = N * 1) := by rw [Hid, HO2.out.len, HO2.out.size, Nat.mul_one]
      have HNEW : Hid (∀ j u, vs2[j]? = some u → w2.cell? ((⟨g2, 0, none⟩ : Addr).add j) = some u) := (row_of_own HO2.out.outer.1).news
      have HONE := Lib.hid (vals_one HO2.out)
      clear own2 bel2 C1
      go_wp2_with (at_builtin; refine wpList_append_lies _ rfl (.tmp 11) (.tmp 13) 22 rfl w.heap.size 24 j0 _ 1 24 Try.underlying22 hj hy0 hy1 hy2 rfl (by omega) (.slice (some ⟨g, 0, none⟩) q cap) q vs rfl hownO ⟨g2, 0, none⟩ N c2 vs2 rfl HLEN.out HNEW.out HONE.out (by omega) (by simp only [maxLen]; omega) (by omega) (by omega) w2.heap.size rfl ?_; intro g5 cap5 w5 hown5 hgrow5 hat5 hlt5)
      have GM : Hid (OwnMat w5 w.heap.size w5.heap.size (.slice (some ⟨g5, 0, none⟩) (q + N) cap5) (q + N) (treesTo (k + 1)) (vs ++ vs2)) := by
        rw [Hid, HS.out]
        exact HM2.out.pushAll hs2 HO2.out hsz hown5 hgrow5
      have GB : Hid (Below w.heap.size w w5) := HB2.out.grown hgrow5 (by omega) (fun z hz => (hownO.lt z hz).1)
      have hs5 : w2.heap.size ≤ w5.heap.size := hgrow5.size
      clear hown5 hgrow5 hat5 hownO
      go_wp2
      go_roundw
      case rel => exact ⟨k + 1, q + N, g5, cap5, _, by omega, rfl, by go_num, GM, GB.out, by omega⟩
      case measure => simp [intOf]; omega
    · obtain rfl : k = n := by omega
      have e : (treesTo k).length = q := HM.out.size
      have G : Hid (NewMat (treesTo k).length (treesTo k) w (.returned (.slice (some ⟨g, 0, none⟩) q cap)) wr) := by
        rw [Hid, e]; exact ⟨_, _, vs, rfl, HM.out, HB⟩
      clear HB e
      go_wp2
      go_ret
      exact G.out
set_option maxHeartbeats 1000000 in
theorem l03Find_any (A Au : Option Addr) (n c nu cu B Bu : Nat) (m : List (List Int)) (u : List Int) (w : World) (hl : m.length = n) (hn : n ≤ 1048576) (hr : ∀ r ∈ m, r.length ≤ 1048576) (hu : u.length = nu) (hnu : nu ≤ 1048576) (h : Mat w B A m) (h' : Row w Bu Au (ints u)) :
    Calls Try.prog 77 #[.slice A n c, .slice Au nu cu] w fun e w' => e = .returned (.int .i64 (Tr.idxL u m 0)) ∧ ∃ k, w' = w.drewN k := by
  have HL := Lib.hid hl
  have HR := Lib.hid hr
  clear hl hr
  go_enter Try.func77, Try.ntmps77
  go_wp2_with fail
  go_loopw [5] (fun i wr => ∃ k d : Nat, k ≤ n ∧ i = .int .i64 k ∧ wr = w.drewN d ∧ Hid (Tr.idxL u m 0 = Tr.idxL u (m.drop k) k)) (fun i _ => n - (intOf i).toNat)
  case atStart => exact ⟨0, 0, Nat.zero_le _, rfl, rfl, rfl⟩
  case round =>
    obtain ⟨k, d, hk, rfl, rfl, HI⟩ := hrel
    by_cases hlt : k < n
    · obtain ⟨r, hr⟩ := at_lt (show k < m.length by rw [HL.out]; exact hlt)
      obtain ⟨b, o, Ak, ck, rfl, _, hca, _, _, hrow⟩ := (Mat.drewN h d) k r hr
      have HRL : Hid (r.length ≤ 1048576) := HR.out r (List.mem_of_getElem? hr)
      obtain ⟨N1, N2⟩ := Tr.idx_next HI.out hr
      have C1 := l01Same_any Ak Au r.length nu ck cu B Bu r u (w.drewN d) rfl hu (by have := HRL.out; omega) (by omega) hrow (h'.drewN d)
      clear hr HI hrow
      by_cases hru : r = u
      · have G := Lib.hid (N1 hru)
        rw [hru, eqL_self, ← hru] at C1
        clear N1 N2 hru
        go_wp2_with (go_at_call 101; refine C1.mono ?_; rintro e w' ⟨rfl, d2, rfl⟩)
        go_ret
        exact ⟨by rw [G.out]; rfl, _, rfl⟩
      · have G := Lib.hid (N2 hru)
        have e : eqL r u = false := by unfold eqL; exact decide_eq_false hru
        rw [e] at C1
        clear N1 N2 hru e
        go_wp2_with (go_at_call 101; refine C1.mono ?_; rintro e w' ⟨rfl, d2, rfl⟩)
        go_roundw
        case rel => exact ⟨k + 1, _, by omega, by go_num, rfl, G⟩
        case measure => simp [intOf]; omega
    · have G := Lib.hid (Tr.idx_end HI.out (by rw [HL.out]; omega))
      clear HI
      go_wp2
      go_ret
      exact ⟨by rw [G.out]; rfl, _, rfl⟩
set_option maxHeartbeats 1000000 in
theorem sIndexOf_L (A : Option Addr) (n c B : Nat) (t : List Int) (w : World) (hl : t.length = n) (hn : n ≤ 1048576) (hB : B ≤ w.heap.size) (h : Row w B A (ints t)) :
    Calls Try.prog 42 #[.slice A n c] w (ResI (indexA t) w) := by
  have C0 := l03Is_any A n c B t w hl hn h
  cases hlv : Tr.isLv t
  · have G := Lib.hid (indexA_no hlv)
    rw [hlv] at C0
    go_enter Try.func42, Try.ntmps42
    go_wp2_with fail
    refine C0.mono ?_
    rintro e w' ⟨rfl, m, rfl⟩
    go_wp2
    go_ret2
    exact ResI.of' G.out (below_drewN (Below.refl _ _) _)
  · rw [hlv] at C0
    obtain ⟨b1, b8⟩ := lv_bd hlv
    have G := Lib.hid (indexA_yes hlv)
    rw [idx_to hlv] at G
    rw [hl] at b1 b8 G
    have HL := Lib.hid hl
    have HLV := Lib.hid hlv
    have HE : Hid ((Tr.can t).length = n) := by rw [Hid, (lv_can hlv).2, hl]
    clear hl hlv
    go_enter Try.func42, Try.ntmps42
    go_wp2_with fail
    refine C0.mono ?_
    rintro e w' ⟨rfl, m, rfl⟩
    go_wp2_with fail
    refine (l03All_any n _ b1 b8).mono ?_
    rintro e w2 ⟨A2, c2, vs2, rfl, own2, bel2⟩
    have hs2 : w.heap.size ≤ w2.heap.size := bel2.size
    have B2 : Hid (Below w.heap.size w w2) := below_undrew' bel2
    have HM2 : Hid (Mat w2 w2.heap.size A2 (treesTo n)) := own2.mat
    have HT2 : Hid (Row w2 B A (ints t)) := Row.below h B2.out hB
    clear own2 bel2
    go_wp2_with fail
    refine (l03Canon_any A n c B t _ HL.out HLV.out (by omega) HT2.out).mono ?_
    rintro e w3 ⟨A3, c3, rfl, own3, bel3⟩
    have hs3 := bel3.size
    have B3 : Hid (Below w.heap.size w w3) := B2.out.trans (bel3.mono hs2)
    have HM3 : Hid (Mat w3 w2.heap.size A2 (treesTo n)) := HM2.out.below bel3 (Nat.le_refl _)
    have HO3 : Hid (Row w3 w3.heap.size A3 (ints (Tr.can t))) := row_of_own own3
    have hlen := treesTo_len n b8
    clear own3 bel3
    go_wp2_with fail
    refine (l03Find_any A2 A3 (treesTo n).length c2 n c3 w2.heap.size w3.heap.size (treesTo n) (Tr.can t) _ rfl (by omega) (fun r hr => by
      have : r ∈ Tr.allL := by
        obtain ⟨rest, e⟩ := all_split n b8
        rw [e, List.mem_append]; exact .inl hr
      obtain ⟨k, hk⟩ := List.mem_iff_getElem?.1 this
      have := all_len hk; omega) HE.out (by omega) HM3.out HO3.out).mono ?_
    rintro e w6 ⟨rfl, m6, rfl⟩
    go_wp2
    go_ret2
    exact ResI.of' G.out (below_drewN B3.out _)
end Go.Proofs.Ytegigeoeoioolab
