/-
  Texts of this seat, joined: what several laws lean on.
-/
import Derived.Test.YtolkbbbbahhfaaaGreatUO1
/-
  Residuals of trees, the program's and the model's.
-/
namespace Go.Proofs.YtolkbbbbahhfaaaGreat
open Go.RowKit Fld
set_option linter.unusedVariables false
set_option linter.unusedSimpArgs false
set_option maxRecDepth 100000

/-- what the weight of a tree has more than it should -/
def resT (m : List (List Int)) (b : List Int) (n : Nat) (t : List Int) : Int := (wtT m b n (Tr.txt t) - inv (Tr.denM t % 10007)) % 10007
def resL (m : List (List Int)) (b : List Int) (n k : Nat) : List Int := (Tr.treesL k).map (resT m b n)
theorem resL_len (m : List (List Int)) (b : List Int) (n k : Nat) : (resL m b n k).length = (Tr.treesL k).length := by simp [resL]
theorem resL_at {m : List (List Int)} {b : List Int} {n k j : Nat} {t : List Int} (h : (Tr.treesL k)[j]? = some t) : (resL m b n k)[j]? = some (resT m b n t) := by
  unfold resL; rw [List.getElem?_map, h]; rfl
theorem wtT_bd (m : List (List Int)) (b : List Int) (n : Nat) (x : List UInt8) : 0 ≤ wtT m b n x ∧ wtT m b n x < 10007 := dotK_bd _ _ _
set_option maxHeartbeats 4000000 in
theorem residuals_any (A D : Option Addr) (n c d B B' k : Nat) (m : List (List Int)) (b : List Int) (w : World) (hl : m.length = n) (hl' : b.length = n) (hn1 : 1 ≤ n) (hn : n ≤ 8) (hq : Wide m n) (hnum : ∀ r ∈ m, allNum r = true) (hnb : allNum b = true) (hk1 : 1 ≤ k) (hk6 : k ≤ 6) (hB : B ≤ w.heap.size) (hB' : B' ≤ w.heap.size) (h : Mat w B A m) (r : Row w B' D (ints b)) :
    Calls Tryz.prog 44 #[.agg #[.slice A n c, .slice D n d], .int .i64 (k : Int)] w (NewRow 54 (Tr.treesL k).length (ints (resL m b n k)) w) := by
  obtain ⟨i0, hi, hz0, hz1, hz2⟩ := info_parts info_numR
  have HL := Lib.hid hl
  have HL' := Lib.hid hl'
  have HQ := Lib.hid hq
  have HN := Lib.hid hnum
  have HNB := Lib.hid hnb
  obtain ⟨W0, hW0⟩ : ∃ W0, W0 = w.alloc (.cells #[.slice A n c, .slice D n d] 61) := ⟨_, rfl⟩
  have HB0 : Hid (Below w.heap.size w W0) := by rw [hW0]; exact (Below.refl _ _).alloc (Nat.le_refl _) _
  have HX0 : Hid (Bx W0 w.heap.size 61 (.slice A n c) (.slice D n d)) := by rw [hW0]; exact Bx.new _ _ _ _
  have hz0' : w.heap.size < W0.heap.size := HX0.out.lt
  have HM0 := Lib.hid (h.below HB0.out hB)
  have HR0 := Lib.hid (r.below HB0.out hB')
  have C1 := treesWith_any k W0 (by omega) (by omega)
  obtain ⟨ha, h115⟩ := trees_all (n := k) (by omega) (by omega)
  have HRL := Lib.hid (resL_len m b n k)
  have HRA : Hid (∀ j t, (Tr.treesL k)[j]? = some t → (resL m b n k)[j]? = some (resT m b n t)) := fun j t h => resL_at h
  obtain ⟨T, hT⟩ : ∃ T, T = Tr.treesL k := ⟨_, rfl⟩
  rw [← hT] at C1 h115 ha HRL HRA
  have HLV : Hid (∀ r ∈ T, Tr.isLv r = true) := fun r hr => (ha r hr).1
  have GT : Hid ((Tr.treesL k).length = T.length) := by rw [Hid, hT]
  rw [GT.out]
  obtain ⟨N, hN⟩ : ∃ N, N = T.length := ⟨_, rfl⟩
  rw [← hN] at C1 h115 HRL ⊢
  have HNN : Hid (T.length = N) := hN.symm
  clear hl hl' hq hnum hnb h r hT hN ha GT
  go_enter Tryz.func44, Tryz.ntmps44
  go_wp2_with fail
  rw [← hW0]
  clear hW0
  refine C1.mono ?_
  rintro e w1 ⟨A1, c1, vs1, rfl, own1, bel1⟩
  have hs1 := bel1.size
  have HM1 : Hid (Mat w1 w1.heap.size A1 T) := own1.mat
  have HB1 := Lib.hid bel1
  clear own1 bel1 C1
  go_wp2_with fail
  refine (treesOf_any A1 N c1 w1.heap.size T _ HNN.out (by omega) HLV.out (Nat.le_refl _) HM1.out).mono ?_
  rintro e w2 ⟨rfl, own2, bel2⟩
  have hs2 := bel2.size
  have HROW := Lib.hid (row_of_own own2)
  have HB2 := Lib.hid (HB1.out.trans (bel2.mono hs1))
  have HBW := Lib.hid (HB0.out.trans (HB2.out.mono (Nat.le_of_lt hz0')))
  have HX2 := Lib.hid (HX0.out.next HB2.out)
  have HM2 := Lib.hid (HM0.out.below HB2.out (by omega))
  have HR2 := Lib.hid (HR0.out.below HB2.out (by omega))
  clear own2 bel2 HM1 HB1 HB0 HX0 HM0 HR0
  go_wp2_with fail
  go_loopw [5, 12] (fun v i wr => ∃ (j c5 : Nat) (A5 : Option Addr), j ≤ N ∧ v = .slice A5 j c5 ∧ i = .int .i64 j ∧ Hid (wr.ownsRow w2.heap.size 54 1 (.slice A5 j c5) j (ints ((resL m b n k).take j))) ∧ Hid (Below w2.heap.size w2 wr)) (fun _ i _ => N - (intOf i).toNat)
  case atStart => exact ⟨0, 0, none, Nat.zero_le _, rfl, rfl, World.ownsRow_nil .., Below.refl _ _⟩
  case round =>
    obtain ⟨j, c5, A5, hj, rfl, rfl, HO, HB⟩ := hrel
    by_cases hlt : j < N
    · obtain ⟨t, ht⟩ := at_lt (show j < T.length by rw [HNN.out]; exact hlt)
      have hlv := HLV.out t (List.mem_of_getElem? ht)
      have hsz := HB.out.size
      have hbt : (T.map Tr.txt)[j]? = some (Tr.txt t) := by rw [List.getElem?_map, ht]; rfl
      obtain ⟨b3, o3, e3, _, hcb⟩ := (HROW.out.below HB.out (Nat.le_refl _)) j _ (strs_at hbt)
      injection e3 with e3
      injection e3 with e4 e5
      subst e4 e5
      rw [Nat.zero_add] at hcb
      have hbx := HX2.out.next HB.out
      have q0 := hbx.c0
      have q1 := hbx.c1
      have C1 := weight_any (Tr.txt t) A D n c d B B' m b wr (Tr.tx_txt hlv) HL.out HL'.out hn1 hn HQ.out HN.out HNB.out (by have := HBW.out.size; omega) (by have := HBW.out.size; omega) (HM2.out.below HB.out (by have := HBW.out.size; omega)) (HR2.out.below HB.out (by have := HBW.out.size; omega))
      have C2 := fun w' => density_any (Tr.txt t) w' (Tr.tx_txt hlv)
      rw [(Tr.denM_parts hlv).2] at C2
      obtain ⟨d1, d2⟩ := Tr.denM_bd hlv
      have TA := HRA.out j t ht
      obtain ⟨x0, x1⟩ := wtT_bd m b n (Tr.txt t)
      have ER : resT m b n t = (wtT m b n (Tr.txt t) - inv (Tr.denM t % 10007)) % 10007 := rfl
      rw [ER] at TA
      have y0 := inv_lo (Tr.denM t % 10007)
      have y1 := inv_hi (Tr.denM t % 10007)
      have C3 := fun w' => inverse_any (Tr.denM t % 10007) w' (by omega) (by omega)
      obtain ⟨X, hX⟩ : ∃ X : ByteArray, X = ⟨(Tr.txt t).toArray⟩ := ⟨_, rfl⟩
      rw [← hX] at hcb C1 C2
      obtain ⟨U, hU⟩ : ∃ U : Int, U = wtT m b n (Tr.txt t) := ⟨_, rfl⟩
      obtain ⟨DD, hD⟩ : ∃ D : Int, D = Tr.denM t := ⟨_, rfl⟩
      rw [← hU] at C1 TA x0 x1
      rw [← hD] at C2 C3 TA y0 y1 d1 d2
      obtain ⟨Y, hY⟩ : ∃ Y : Int, Y = inv (DD % 10007) := ⟨_, rfl⟩
      rw [← hY] at TA y0 y1
      simp only [← hY] at C3
      obtain ⟨Z, hZ⟩ : ∃ Z : Int, Z = (U - Y) % 10007 := ⟨_, rfl⟩
      rw [← hZ] at TA
      have C4 : Hid (∀ w', Calls Tryz.prog 81 #[.int .i64 U, .int .i64 Y] w' fun e w'' => e = .returned (.int .i64 Z) ∧ w' = w'') := fun w' => by rw [hZ]; exact minus_any U Y w' x0 x1 y0 y1
      have HE : Hid (ints ((resL m b n k).take j) ++ [.int .i64 Z] = ints ((resL m b n k).take (j + 1))) := grow_ints TA
      have j0 : (0 : Int) ≤ (j : Int) := Int.natCast_nonneg _
      clear ht hbt hlv hX hU hD hY hZ TA hbx ER x0 x1 y0 y1
      go_wp2_with fail
      refine C1.mono ?_
      rintro e w3 ⟨rfl, be3⟩
      have hs3 := be3.size
      have HB3 := Lib.hid (HB.out.trans (be3.mono hsz))
      have HO3 := Lib.hid ((OwnR.of HO.out).below be3 (Nat.le_refl _)).1
      clear be3 C1 q0 q1 hcb HB HO
      go_wp2_with fail
      refine (C2 _).mono ?_
      rintro e w4 ⟨rfl, be4⟩
      have hs4 := be4.size
      have HB4 := Lib.hid (HB3.out.trans (be4.mono (by omega)))
      have hown := ((OwnR.of HO3.out).below be4 (Nat.le_refl _)).1
      clear be4 C2 HB3 HO3
      go_wp2_with fail
      refine (reduced_any DD _).mono ?_
      rintro e w' ⟨rfl, rfl⟩
      go_wp2_with fail
      refine (C3 _).mono ?_
      rintro e w' ⟨rfl, rfl⟩
      go_wp2_with fail
      refine (C4.out _).mono ?_
      rintro e w' ⟨rfl, rfl⟩
      clear C3
      go_wp2_with (at_builtin; refine wpList_append_lies _ rfl (.tmp 16) (.tmp 25) 59 rfl w2.heap.size 54 i0 _ 1 8 Tryz.underlying59 hi hz0 hz1 hz2 rfl (by omega) (.slice A5 j c5) j (ints ((resL m b n k).take j)) rfl (hown.alloc _) ⟨w4.heap.size, 0, none⟩ 1 1 [.int .i64 Z] rfl rfl (World.news_of_block (cs := #[.int .i64 Z]) (heap_alloc_new _ _)) (by simp [Value.oneCell']) (by omega) (by simp only [maxLen]; omega) (by omega) (by simp; omega) (w4.heap.size + 1) (by simp) ?_; intro g5 cap5 w5 hown5 hgrow5 hat5 hlt5)
      have hown5' := hown5
      rw [HE.out] at hown5'
      have GO := Lib.hid hown5'
      have GB : Hid (Below w2.heap.size w2 w5) := (HB4.out.alloc (by omega) _).grown hgrow5 (by simp; omega) (fun z hz => (hown.lt z hz).1)
      clear hown5 hown5' hgrow5 hat5 hown
      go_wp2
      go_roundw
      case rel => exact ⟨j + 1, cap5, _, by omega, rfl, by go_num, GO, GB⟩
      case measure => simp [intOf]; omega
    · obtain rfl : j = N := by omega
      have GO : Hid (NewRow 54 j (ints (resL m b n k)) w (.returned (.slice A5 j c5)) wr) := by
        have := HO.out
        rw [List.take_of_length_le (by rw [HRL.out]; exact Nat.le_refl _)] at this
        exact ⟨_, _, rfl, ((OwnR.of this).more HBW.out.size (Nat.le_refl _)).1, HBW.out.trans (HB.out.mono HBW.out.size)⟩
      clear HO HB
      go_wp2
      go_ret
      exact GO.out
set_option maxHeartbeats 2000000 in
theorem l09Residual_any (t : List Int) (A D A2 : Option Addr) (n c d n2 c2 B B' B2 : Nat) (m : List (List Int)) (b : List Int) (w : World) (hlv : Tr.isLv t = true) (hl2 : t.length = n2) (hl : m.length = n) (hl' : b.length = n) (hn1 : 1 ≤ n) (hn : n ≤ 8) (hq : Wide m n) (hnum : ∀ r ∈ m, allNum r = true) (hnb : allNum b = true) (hB : B ≤ w.heap.size) (hB' : B' ≤ w.heap.size) (hB2 : B2 ≤ w.heap.size) (h : Mat w B A m) (r : Row w B' D (ints b)) (h2 : Row w B2 A2 (ints t)) :
    Calls Tryz.prog 42 #[.agg #[.slice A n c, .slice D n d], .slice A2 n2 c2] w fun e w' => e = .returned (.int .i64 (resT m b n t)) ∧ Below w.heap.size w w' := by
  obtain ⟨W0, hW0⟩ : ∃ W0, W0 = w.alloc (.cells #[.slice A n c, .slice D n d] 29) := ⟨_, rfl⟩
  have HB : Hid (Below w.heap.size w W0) := by rw [hW0]; exact (Below.refl _ _).alloc (Nat.le_refl _) _
  have hz := HB.out.size
  have HT := Lib.hid (h2.below HB.out hB2)
  have C1 := l09Weight_any t A D A2 n c d n2 c2 B B' B2 m b W0 hlv hl2 hl hl' hn1 hn hq hnum hnb (by omega) (by omega) (by omega) (h.below HB.out hB) (r.below HB.out hB') HT.out
  have C2 := fun W (hW : Below W0.heap.size W0 W) => l03Density_any A2 n2 c2 B2 t W hl2 hlv (by have := hW.size; omega) (HT.out.below hW (by omega))
  obtain ⟨d1, d2⟩ := Tr.denM_bd hlv
  obtain ⟨x0, x1⟩ := wtT_bd m b n (Tr.txt t)
  have HER : Hid (resT m b n t = (wtT m b n (Tr.txt t) - inv (Tr.denM t % 10007)) % 10007) := rfl
  have y0 := inv_lo (Tr.denM t % 10007)
  have y1 := inv_hi (Tr.denM t % 10007)
  obtain ⟨U, hU⟩ : ∃ U : Int, U = wtT m b n (Tr.txt t) := ⟨_, rfl⟩
  obtain ⟨DD, hD⟩ : ∃ D : Int, D = Tr.denM t := ⟨_, rfl⟩
  rw [← hU] at C1 HER x0 x1
  rw [← hD] at HER y0 y1 d1 d2
  simp only [← hD] at C2
  have C3 := fun w' => l01Frac_any 1 DD w'
  obtain ⟨Y, hY⟩ : ∃ Y : Int, Y = inv (DD % 10007) := ⟨_, rfl⟩
  rw [← hY] at HER y0 y1
  simp only [← hY] at C3
  have ev : 1 % 10007 * Y % 10007 = Y := by omega
  rw [ev] at C3
  have C4 := fun w' => l01Sub_any U Y w' x0 x1 y0 y1
  clear hlv hl2 hl hl' hq hnum hnb h r h2 hU hD hY ev
  go_enter Tryz.func42, Tryz.ntmps42
  go_wp2_with fail
  rw [← hW0]
  clear hW0
  refine C1.mono ?_
  rintro e w1 ⟨rfl, b1⟩
  have HB1 := Lib.hid (HB.out.trans (b1.mono hz))
  have C2' := C2 w1 b1
  have hz1 := b1.size
  clear b1 C1 C2
  go_wp2_with fail
  refine C2'.mono ?_
  rintro e w2 ⟨rfl, b2⟩
  have HB2 := Lib.hid (HB1.out.trans (b2.mono HB1.out.size))
  clear b2 C2'
  go_wp2_with fail
  refine (C3 _).mono ?_
  rintro e w' ⟨rfl, rfl⟩
  go_wp2_with fail
  refine (C4 _).mono ?_
  rintro e w' ⟨rfl, rfl⟩
  clear C3 C4
  go_wp2
  go_ret
  exact ⟨ret_i64 HER.out.symm, HB2.out⟩
/-- the code of a tableau and a number of nodes -/
def codeTN (m : List (List Int)) (b : List Int) (k : Int) : Int := if isTabB m b = true then (if 1 ≤ k ∧ k ≤ 6 then 0 else 2) else 1
def residualsA (m : List (List Int)) (b : List Int) (k : Int) : List Int × Int := if isTabB m b = true then (if 1 ≤ k ∧ k ≤ 6 then (resL m b b.length k.toNat, 0) else ([], 2)) else ([], 1)
set_option maxHeartbeats 2000000 in
theorem l09Nodes_any (A D : Option Addr) (n c n' d B B' : Nat) (m : List (List Int)) (b : List Int) (k : Int) (w : World) (hl : m.length = n) (hl' : b.length = n') (hn : n ≤ 9223372036854775807) (hn' : n' ≤ 9223372036854775807) (hB : B ≤ w.heap.size) (hB' : B' ≤ w.heap.size) (h : Mat w B A m) (r : Row w B' D (ints b)) (hk : -9223372036854775808 ≤ k ∧ k ≤ 9223372036854775807) :
    Calls Tryz.prog 40 #[.agg #[.slice A n c, .slice D n' d], .int .i64 k] w fun e w' => e = .returned (.int .i64 (codeTN m b k)) ∧ Below w.heap.size w w' := by
  have HL := Lib.hid hl
  have HL' := Lib.hid hl'
  obtain ⟨k0, k1⟩ := hk
  obtain ⟨W0, hW0⟩ : ∃ W0, W0 = w.alloc (.cells #[.slice A n c, .slice D n' d] 29) := ⟨_, rfl⟩
  have HB : Hid (Below w.heap.size w W0) := by rw [hW0]; exact (Below.refl _ _).alloc (Nat.le_refl _) _
  have HM : Hid (Mat W0 B A m) := h.below HB.out hB
  have HR : Hid (Row W0 B' D (ints b)) := r.below HB.out hB'
  have HX : Hid (Bx W0 w.heap.size 29 (.slice A n c) (.slice D n' d)) := by rw [hW0]; exact Bx.new _ _ _ _
  have hz := HB.out.size
  clear hl hl' h r
  cases ht : isTabB m b
  · have G : Hid (codeTN m b k = 1) := by unfold codeTN; rw [Hid, if_neg (by rw [ht]; simp)]
    go_enter Tryz.func40, Tryz.ntmps40
    go_wp2_with fail
    rw [← hW0]
    refine (l09Is_any A D n c n' d B B' m b W0 HL.out HL'.out hn hn' (by omega) (by omega) HM.out HR.out).mono ?_
    rintro e w2 ⟨rfl, b2⟩
    rw [ht]
    have HB2 := Lib.hid (HB.out.trans (b2.mono HB.out.size))
    clear b2 hW0 ht
    go_wp2
    go_ret
    exact ⟨ret_i64 G.out.symm, HB2.out⟩
  · have K : Hid (codeTN m b k = if 1 ≤ k ∧ k ≤ 6 then 0 else 2) := if_pos ht
    go_enter Tryz.func40, Tryz.ntmps40
    go_wp2_with fail
    rw [← hW0]
    refine (l09Is_any A D n c n' d B B' m b W0 HL.out HL'.out hn hn' (by omega) (by omega) HM.out HR.out).mono ?_
    rintro e w2 ⟨rfl, b2⟩
    rw [ht]
    have HB2 := Lib.hid (HB.out.trans (b2.mono HB.out.size))
    clear b2 hW0 ht
    go_wp2_with fail
    refine (l01In_any k 1 6 _).mono ?_
    rintro e w3 ⟨rfl, rfl⟩
    by_cases hr : 1 ≤ k ∧ k ≤ 6
    · have G : Hid (codeTN m b k = 0) := by rw [Hid, K.out, if_pos hr]
      rw [isIn_yes hr.1 hr.2]
      go_wp2
      go_ret
      exact ⟨ret_i64 G.out.symm, HB2.out⟩
    · have G : Hid (codeTN m b k = 2) := by rw [Hid, K.out, if_neg hr]
      rw [isIn_no (show k < 1 ∨ 6 < k by omega)]
      go_wp2
      go_ret
      exact ⟨ret_i64 G.out.symm, HB2.out⟩
set_option maxHeartbeats 4000000 in
theorem pResidualsOf_L (A D : Option Addr) (n c n' d B B' : Nat) (m : List (List Int)) (b : List Int) (k : Int) (w : World) (hl : m.length = n) (hl' : b.length = n') (hn : n ≤ 9223372036854775807) (hn' : n' ≤ 9223372036854775807) (hB : B ≤ w.heap.size) (hB' : B' ≤ w.heap.size) (h : Mat w B A m) (r : Row w B' D (ints b)) (hk : -9223372036854775808 ≤ k ∧ k ≤ 9223372036854775807) :
    Calls Tryz.prog 14 #[.agg #[.slice A n c, .slice D n' d], .int .i64 k] w (ResL (residualsA m b k) w) := by
  have HL := Lib.hid hl
  have HL' := Lib.hid hl'
  obtain ⟨k0, k1⟩ := hk
  obtain ⟨W0, hW0⟩ : ∃ W0, W0 = w.alloc (.cells #[.slice A n c, .slice D n' d] 29) := ⟨_, rfl⟩
  have HB : Hid (Below w.heap.size w W0) := by rw [hW0]; exact (Below.refl _ _).alloc (Nat.le_refl _) _
  have HM : Hid (Mat W0 B A m) := h.below HB.out hB
  have HR : Hid (Row W0 B' D (ints b)) := r.below HB.out hB'
  have HX : Hid (Bx W0 w.heap.size 29 (.slice A n c) (.slice D n' d)) := by rw [hW0]; exact Bx.new _ _ _ _
  have hz := HB.out.size
  clear hl hl' h r
  cases ht : isTabB m b
  · have G : Hid (residualsA m b k = ([], 1)) := by unfold residualsA; rw [Hid, if_neg (by rw [ht]; simp)]
    go_enter Tryz.func14, Tryz.ntmps14
    go_wp2_with fail
    rw [← hW0]
    refine (isTableau_any A D n c n' d B B' m b W0 HL.out HL'.out hn hn' (by omega) (by omega) HM.out HR.out).mono ?_
    rintro e w2 ⟨rfl, b2⟩
    rw [ht]
    have HB2 := Lib.hid (HB.out.trans (b2.mono HB.out.size))
    clear b2 hW0 ht
    go_wp2
    go_ret2
    exact ResL.nil G.out HB2.out
  · by_cases hr : 1 ≤ k ∧ k ≤ 6
    · obtain ⟨q, rfl⟩ : ∃ q : Nat, k = (q : Int) := ⟨k.toNat, by omega⟩
      have hq1 : 1 ≤ q ∧ q ≤ 6 := by omega
      have G : Hid (residualsA m b (q : Int) = (resL m b n' q, 0)) := by unfold residualsA; rw [Hid, if_pos ht, if_pos hr, HL'.out]; rfl
      obtain ⟨t1, t2, t3, t4, t5, t6⟩ := isTabB_parts ht
      rw [HL'.out] at t1 t2 t3 t5
      have hnn : n' = n := by rw [← t3]; exact HL.out
      subst hnn
      have HW := Lib.hid t5
      have HNB := Lib.hid t4
      have HN := Lib.hid t6
      have tk0 : ¬ ((q : Int) < 1) := by omega
      clear t3 t4 t5 t6 hr
      go_enter Tryz.func14, Tryz.ntmps14
      go_wp2_with fail
      rw [← hW0]
      refine (isTableau_any A D n' c n' d B B' m b W0 HL.out HL'.out hn hn' (by omega) (by omega) HM.out HR.out).mono ?_
      rintro e w2 ⟨rfl, b2⟩
      rw [ht]
      have HB2 := Lib.hid (HB.out.trans (b2.mono HB.out.size))
      have HM2 := Lib.hid (HM.out.below b2 (by omega))
      have HR2 := Lib.hid (HR.out.below b2 (by omega))
      have q0 := (HX.out.next b2).c0
      have q1 := (HX.out.next b2).c1
      have hz2 := b2.size
      clear b2 hW0 ht
      go_wp2_with fail
      refine (schemeOf_any A D n' c n' d B B' n' m b w2 HL.out HL'.out t2 HW.out (by omega) (by omega) (by omega) (by omega) HM2.out HR2.out).mono ?_
      rintro e w3 ⟨A3, c3, D3, d3, rfl, hc3, hd3, m3, r3, b3⟩
      have HB3 := Lib.hid (HB2.out.trans (b3.mono HB2.out.size))
      have HM3 := Lib.hid m3
      have HR3 := Lib.hid r3
      clear b3 q0 q1 m3 r3
      go_wp2_with fail
      refine (residuals_any A3 D3 n' c3 d3 w3.heap.size w3.heap.size q m b w3 HL.out HL'.out t1 t2 HW.out HN.out HNB.out hq1.1 hq1.2 (Nat.le_refl _) (Nat.le_refl _) HM3.out HR3.out).mono ?_
      rintro e w4 ⟨A4, c4, rfl, own4, b4⟩
      have HB4 := Lib.hid (HB3.out.trans (b4.mono HB3.out.size))
      have HR4 := Lib.hid (row_of_own own4)
      have HRL := Lib.hid (resL_len m b n' q)
      have h115 := (trees_all (n := q) (by omega) (by omega)).2
      obtain ⟨N, hN⟩ : ∃ N, N = (Tr.treesL q).length := ⟨_, rfl⟩
      rw [← hN] at HRL h115 ⊢
      clear b4 own4 hN
      go_wp2_with fail
      refine (integersOf_any A4 N c4 w4.heap.size (resL m b n' q) w4 HRL.out (by omega) (Nat.le_refl _) HR4.out).mono ?_
      rintro e w5 ⟨A5, c5, rfl, own5, b5⟩
      have HB5 := Lib.hid (HB4.out.trans (b5.mono HB4.out.size))
      have GR : Hid (ResL (residualsA m b (q : Int)) w (.returned (.tuple #[.slice A5 N c5, .int .i64 0])) w5) := ResL.of G.out HRL.out (by omega) ((OwnR.of own5).more HB4.out.size (Nat.le_refl _)).1 HB5.out
      clear b5 own5
      go_wp2
      go_ret2
      exact GR.out
    · have G : Hid (residualsA m b k = ([], 2)) := by unfold residualsA; rw [Hid, if_pos ht, if_neg hr]
      by_cases hlo : k < 1
      · go_enter Tryz.func14, Tryz.ntmps14
        go_wp2_with fail
        rw [← hW0]
        refine (isTableau_any A D n c n' d B B' m b W0 HL.out HL'.out hn hn' (by omega) (by omega) HM.out HR.out).mono ?_
        rintro e w2 ⟨rfl, b2⟩
        rw [ht]
        have HB2 := Lib.hid (HB.out.trans (b2.mono HB.out.size))
        clear b2 hW0 ht
        go_wp2
        go_ret2
        exact ResL.nil G.out HB2.out
      · have hhi : 6 < k := by omega
        go_enter Tryz.func14, Tryz.ntmps14
        go_wp2_with fail
        rw [← hW0]
        refine (isTableau_any A D n c n' d B B' m b W0 HL.out HL'.out hn hn' (by omega) (by omega) HM.out HR.out).mono ?_
        rintro e w2 ⟨rfl, b2⟩
        rw [ht]
        have HB2 := Lib.hid (HB.out.trans (b2.mono HB.out.size))
        clear b2 hW0 ht
        go_wp2
        go_ret2
        exact ResL.nil G.out HB2.out
set_option maxHeartbeats 4000000 in
theorem sResidualsOf_L (A D : Option Addr) (n c n' d B B' : Nat) (m : List (List Int)) (b : List Int) (k : Int) (w : World) (hl : m.length = n) (hl' : b.length = n') (hn : n ≤ 9223372036854775807) (hn' : n' ≤ 9223372036854775807) (hB : B ≤ w.heap.size) (hB' : B' ≤ w.heap.size) (h : Mat w B A m) (r : Row w B' D (ints b)) (hk : -9223372036854775808 ≤ k ∧ k ≤ 9223372036854775807) :
    Calls Tryz.prog 13 #[.agg #[.slice A n c, .slice D n' d], .int .i64 k] w (ResL (residualsA m b k) w) := by
  obtain ⟨i0, hi, hz0, hz1, hz2⟩ := info_parts info_i64
  have hk' := hk
  have HL := Lib.hid hl
  have HL' := Lib.hid hl'
  obtain ⟨k0, k1⟩ := hk
  obtain ⟨W0, hW0⟩ : ∃ W0, W0 = w.alloc (.cells #[.slice A n c, .slice D n' d] 29) := ⟨_, rfl⟩
  have HB : Hid (Below w.heap.size w W0) := by rw [hW0]; exact (Below.refl _ _).alloc (Nat.le_refl _) _
  have HM : Hid (Mat W0 B A m) := h.below HB.out hB
  have HR : Hid (Row W0 B' D (ints b)) := r.below HB.out hB'
  have HX : Hid (Bx W0 w.heap.size 29 (.slice A n c) (.slice D n' d)) := by rw [hW0]; exact Bx.new _ _ _ _
  have hz := HB.out.size
  clear hl hl' h r
  by_cases hok : isTabB m b = true ∧ 1 ≤ k ∧ k ≤ 6
  · obtain ⟨ht, hr⟩ := hok
    obtain ⟨q, rfl⟩ : ∃ q : Nat, k = (q : Int) := ⟨k.toNat, by omega⟩
    have hq1 : 1 ≤ q ∧ q ≤ 6 := by omega
    have G : Hid (residualsA m b (q : Int) = (resL m b n' q, 0)) := by unfold residualsA; rw [Hid, if_pos ht, if_pos hr, HL'.out]; rfl
    have K : Hid (codeTN m b (q : Int) = 0) := by unfold codeTN; rw [Hid, if_pos ht, if_pos hr]
    obtain ⟨t1, t2, t3, t4, t5, t6⟩ := isTabB_parts ht
    rw [HL'.out] at t1 t2 t3 t5
    have hnn : n' = n := by rw [← t3]; exact HL.out
    subst hnn
    have HW := Lib.hid t5
    have HNB := Lib.hid t4
    have HN := Lib.hid t6
    obtain ⟨ha, h115⟩ := trees_all (n := q) (by omega) (by omega)
    have C3 := fun V => l03Trees_any q V (by omega) (by omega)
    have HRL := Lib.hid (resL_len m b n' q)
    have HRA : Hid (∀ j t, (Tr.treesL q)[j]? = some t → (resL m b n' q)[j]? = some (resT m b n' t)) := fun j t h => resL_at h
    obtain ⟨T, hT⟩ : ∃ T, T = Tr.treesL q := ⟨_, rfl⟩
    simp only [← hT] at C3
    rw [← hT] at h115 ha HRL HRA
    have HLV : Hid (∀ r ∈ T, Tr.isLv r = true) := fun r hr => (ha r hr).1
    obtain ⟨N, hN⟩ : ∃ N, N = T.length := ⟨_, rfl⟩
    simp only [← hN] at C3
    rw [← hN] at h115 HRL
    have HNN : Hid (T.length = N) := hN.symm
    clear t3 t4 t5 t6 hT hN ha
    go_enter Tryz.func13, Tryz.ntmps13
    go_wp2_with fail
    rw [← hW0]
    refine (l09Nodes_any A D n' c n' d B B' m b (q : Int) W0 HL.out HL'.out hn hn' (by omega) (by omega) HM.out HR.out hk').mono ?_
    rintro e w2 ⟨rfl, b2⟩
    rw [K.out]
    have HB2 := Lib.hid (HB.out.trans (b2.mono HB.out.size))
    have HM2 := Lib.hid (HM.out.below b2 (by omega))
    have HR2 := Lib.hid (HR.out.below b2 (by omega))
    have HX2 := Lib.hid (HX.out.next b2)
    have hz3 := b2.size
    clear b2 hW0 ht hk' hr
    go_wp2_with fail
    refine (C3 w2).mono ?_
    rintro e w1 ⟨A1, c1, vs1, rfl, own1, b1⟩
    have hs1 := b1.size
    have FM : Hid (Mat w1 w1.heap.size A1 T) := own1.mat
    have HB1 := Lib.hid (HB2.out.trans (b1.mono HB2.out.size))
    have HM1 := Lib.hid (HM2.out.below b1 (by omega))
    have HR1 := Lib.hid (HR2.out.below b1 (by omega))
    have HX1 := Lib.hid (HX2.out.next b1)
    have hxlt := HX1.out.lt
    clear own1 b1 C3 HM2 HR2 HX2 HB2
    go_wp2_with fail
    go_loopw [8, 9] (fun v i wr => ∃ (j g cap : Nat), j ≤ N ∧ v = .slice (some ⟨g, 0, none⟩) j cap ∧ i = .int .i64 j ∧ Hid (Growing w1 2 g j cap (ints ((resL m b n' q).take j)) wr)) (fun _ i _ => N - (intOf i).toNat)
    case atStart => exact ⟨0, w1.heap.size, 0, Nat.zero_le _, rfl, rfl, Growing.start ..⟩
    case round =>
      obtain ⟨j, g, cap, hj, rfl, rfl, HG⟩ := hrel
      by_cases hlt : j < N
      · obtain ⟨t, ht⟩ := at_lt (show j < T.length by rw [HNN.out]; exact hlt)
        have hlv := HLV.out t (List.mem_of_getElem? ht)
        obtain ⟨q1, q8⟩ := lv_bd hlv
        have hsz := HG.out.2.size
        obtain ⟨b1, o1, Ak, ck, rfl, hb1, hct, hlc, hcm, hrow⟩ := (FM.out.below HG.out.2 (Nat.le_refl _)) j t ht
        have hbx := HX1.out.next HG.out.2
        have hmm := HM1.out.below HG.out.2 (by omega)
        have hrr := HR1.out.below HG.out.2 (by omega)
        have C1 := fun V (hV : Below wr.heap.size wr V) => l09Residual_any t A D Ak n' c d t.length ck B B' w1.heap.size m b V hlv rfl HL.out HL'.out t1 t2 HW.out HN.out HNB.out (by have := hV.size; omega) (by have := hV.size; omega) (by have := hV.size; omega) (hmm.below hV (by omega)) (hrr.below hV (by omega)) (hrow.below hV (by omega))
        have TA := HRA.out j t ht
        obtain ⟨V9, hV9⟩ : ∃ V : Int, V = resT m b n' t := ⟨_, rfl⟩
        rw [← hV9] at TA
        simp only [← hV9] at C1
        have HE : Hid (ints ((resL m b n' q).take j) ++ [.int .i64 V9] = ints ((resL m b n' q).take (j + 1))) := grow_ints TA
        have hglt := HG.out.1.lt g rfl
        have KK : Hid (∀ V, Below wr.heap.size wr V → V.cell? ⟨w.heap.size, 0, none⟩ = some (.slice A n' c) ∧ V.cell? ⟨w.heap.size, 1, none⟩ = some (.slice D n' d) ∧ V.cell? ⟨b1, o1 + j, none⟩ = some (.slice Ak t.length ck)) := fun V hV => ⟨(hbx.next hV).c0, (hbx.next hV).c1, (hV.cell (p := ⟨b1, o1 + j, none⟩) (show b1 < _ by omega)).trans hct⟩
        have KO : Hid (∀ V, Below wr.heap.size wr V → V.ownsRow w1.heap.size 2 1 (.slice (some ⟨g, 0, none⟩) j cap) j (ints ((resL m b n' q).take j))) := fun V hV => ((OwnR.of HG.out.1).below hV (Nat.le_refl _)).1
        have NE1 : Hid (some w.heap.size ≠ Value.ownBlock (.slice (some ⟨g, 0, none⟩) j cap)) := fun e => absurd (show w.heap.size = g by simpa [Value.ownBlock] using e) (by omega)
        have NE2 : Hid (some b1 ≠ Value.ownBlock (.slice (some ⟨g, 0, none⟩) j cap)) := fun e => absurd (show b1 = g by simpa [Value.ownBlock] using e) (by omega)
        have j0 : (0 : Int) ≤ (j : Int) := Int.natCast_nonneg _
        have j1 : (j : Int) < (N : Int) := by omega
        clear ht hlv hV9 TA hrow hmm hrr hbx hct
        go_wp2_with fail
        go_region_held3 (fun V => V.cell? ⟨w.heap.size, 0, none⟩ = some (.slice A n' c) ∧ V.cell? ⟨w.heap.size, 1, none⟩ = some (.slice D n' d) ∧ V.cell? ⟨b1, o1 + j, none⟩ = some (.slice Ak t.length ck))
          (first | exact KK.out _ (Below.refl _ _) | exact KK.out _ (Below.refl _ _).drew | exact KK.out _ (below_drewN (Below.refl _ _) _) | exact KK.out _ (below_undrawn (a := 1) be3) | exact KK.out _ ((below_undrawn (a := 1) be3).alloc (show wr.heap.size ≤ w3.heap.size from (below_undrawn (a := 1) be3).size) _) | (have hz := KK.out _ ((below_undrawn (a := 1) be3).alloc (show wr.heap.size ≤ w3.heap.size from (below_undrawn (a := 1) be3).size) (.cells #[.int .i64 V9] 2)); exact ⟨World.grownBy.cell hgrow5 hz.1 NE1.out, World.grownBy.cell hgrow5 hz.2.1 NE1.out, World.grownBy.cell hgrow5 hz.2.2 NE2.out⟩))
          (first
            | (go_at_call 42; refine (C1 _ (by first | exact (Below.refl _ _).drew | exact below_drewN (Below.refl _ _) _)).mono ?_; clear C1; rintro e w3 ⟨rfl, be3⟩)
            | (have tok := be3; refine step_append_lies _ (by rfl) _ _ _ (by rfl) w1.heap.size 2 i0 _ 1 8 Tryz.underlying23 hi hz0 hz1 hz2 rfl (by omega) (.slice (some ⟨g, 0, none⟩) j cap) j (ints ((resL m b n' q).take j)) (by rfl) (KO.out _ (by exact (below_undrawn (a := 1) be3).alloc (show wr.heap.size ≤ w3.heap.size from (below_undrawn (a := 1) be3).size) _)) ⟨w3.heap.size, 0, none⟩ 1 1 [.int .i64 V9] (by rfl) (by rfl) (World.news_of_block (cs := #[.int .i64 V9]) (heap_alloc_new _ _)) (by simp [Value.oneCell']) (by omega) (by simp only [maxLen]; omega) (by omega) (by have hh : wr.heap.size ≤ w3.heap.size := (below_undrawn (a := 1) be3).size; simp; omega) (w3.heap.size + 1) (by simp) ?_; intro g5 cap5 w5 hown5 hgrow5 hat5 hlt5))
        have hb3 : Below wr.heap.size wr w3 := below_undrawn (a := 1) be3
        rw [HE.out] at hown5
        have HG5 := Lib.hid (HG.out.step (hb3.alloc hb3.size _) hown5 hgrow5)
        clear hown5 hgrow5 hat5 be3 hb3 KK KO HG
        go_wp2
        go_roundw
        case rel => exact ⟨j + 1, g5, cap5, by omega, rfl, by go_num, HG5.out⟩
        case measure => simp [intOf]; omega
      · obtain rfl : j = N := by omega
        have GR : Hid (ResL (residualsA m b (q : Int)) w (.returned (.tuple #[.slice (some ⟨g, 0, none⟩) j cap, .int .i64 0])) wr) := by
          have := HG.out.1
          rw [List.take_of_length_le (by rw [HRL.out]; exact Nat.le_refl _)] at this
          exact ResL.of G.out HRL.out (by omega) ((OwnR.of this).more HB1.out.size (Nat.le_refl _)).1 (HB1.out.trans (HG.out.2.mono HB1.out.size))
        clear HG
        go_wp2
        go_ret2
        exact GR.out
  · have K1 : codeTN m b k = 1 ∧ residualsA m b k = ([], 1) ∨ codeTN m b k = 2 ∧ residualsA m b k = ([], 2) := by
      unfold codeTN residualsA
      by_cases ht : isTabB m b = true
      · rw [if_pos ht, if_pos ht, if_neg (fun h => hok ⟨ht, h⟩), if_neg (fun h => hok ⟨ht, h⟩)]; exact .inr ⟨rfl, rfl⟩
      · rw [if_neg ht, if_neg ht]; exact .inl ⟨rfl, rfl⟩
    clear hok
    rcases K1 with ⟨K, G⟩ | ⟨K, G⟩
    all_goals
      have HK := Lib.hid K
      have HG := Lib.hid G
      clear K G
      go_enter Tryz.func13, Tryz.ntmps13
      go_wp2_with fail
      rw [← hW0]
      refine (l09Nodes_any A D n c n' d B B' m b k W0 HL.out HL'.out hn hn' (by omega) (by omega) HM.out HR.out hk').mono ?_
      rintro e w2 ⟨rfl, b2⟩
      rw [HK.out]
      have HB2 := Lib.hid (HB.out.trans (b2.mono HB.out.size))
      clear b2 hW0 hk'
      go_wp2
      go_ret2
      exact ResL.nil HG.out HB2.out
end Go.Proofs.YtolkbbbbahhfaaaGreat
/-
  The first fault of a tableau, the program's and the model's.
-/
namespace Go.Proofs.YtolkbbbbahhfaaaGreat
open Go.RowKit Fld
set_option linter.unusedVariables false
set_option linter.unusedSimpArgs false
set_option maxRecDepth 100000

/-- where the first number that is not 0 stands, or -1 -/
def fnz : List Int → Int → Int
  | [], _ => -1
  | x :: L, i => if x = 0 then fnz L (i + 1) else i
theorem drop_atF {L : List Int} {j : Nat} {x : Int} (h : L[j]? = some x) : L.drop j = x :: L.drop (j + 1) := by
  have hlt := (List.getElem?_eq_some_iff.1 h).1
  rw [List.getElem?_eq_getElem hlt] at h
  injection h with h
  rw [List.drop_eq_getElem_cons hlt, h]
theorem fnz_next {L : List Int} {j : Nat} {i : Int} (h : L[j]? = some 0) : fnz (L.drop j) i = fnz (L.drop (j + 1)) (i + 1) := by
  rw [drop_atF h, fnz, if_pos rfl]
theorem fnz_stop {L : List Int} {j : Nat} {x i : Int} (h : L[j]? = some x) (hx : x ≠ 0) : fnz (L.drop j) i = i := by
  rw [drop_atF h, fnz, if_neg hx]
theorem fnz_end {L : List Int} {j : Nat} {i : Int} (h : L.length ≤ j) : fnz (L.drop j) i = -1 := by
  rw [List.drop_of_length_le h]; rfl
theorem treesTo_pre : ∀ (d i : Nat), ∃ X, treesTo (i + d) = treesTo i ++ X
  | 0, i => ⟨[], by simp⟩
  | d + 1, i => by
    obtain ⟨X, hX⟩ := treesTo_pre d i
    exact ⟨X ++ Tr.treesL (i + d + 1), by rw [← Nat.add_assoc, treesTo_step, hX, List.append_assoc]⟩
theorem treesTo_at {q i j : Nat} {t : List Int} (hi : i < q) (h : (Tr.treesL (i + 1))[j]? = some t) : (treesTo q)[(treesTo i).length + j]? = some t := by
  obtain ⟨X, hX⟩ := treesTo_pre (q - (i + 1)) (i + 1)
  rw [show i + 1 + (q - (i + 1)) = q by omega, treesTo_step] at hX
  have hj := (List.getElem?_eq_some_iff.1 h).1
  rw [hX, List.append_assoc, List.getElem?_append_right (by omega), Nat.add_sub_cancel_left, List.getElem?_append_left hj]; exact h
def resAll (m : List (List Int)) (b : List Int) (n k : Nat) : List Int := (treesTo k).map (resT m b n)
theorem resAll_at {m : List (List Int)} {b : List Int} {n k j : Nat} {t : List Int} (h : (treesTo k)[j]? = some t) : (resAll m b n k)[j]? = some (resT m b n t) := by
  unfold resAll; rw [List.getElem?_map, h]; rfl
theorem resAll_len (m : List (List Int)) (b : List Int) (n k : Nat) : (resAll m b n k).length = (treesTo k).length := by simp [resAll]
def faultP (m : List (List Int)) (b : List Int) (n k : Nat) : Int := fnz (resAll m b n k) 0
theorem lv_to {k : Nat} (hk : k ≤ 8) {t : List Int} (h : t ∈ treesTo k) : Tr.isLv t = true := by
  unfold treesTo at h
  rw [List.mem_flatMap] at h
  obtain ⟨n, hn, ht⟩ := h
  rw [List.mem_range] at hn
  exact ((trees_all (n := n + 1) (by omega) (by omega)).1 t ht).1
set_option maxHeartbeats 4000000 in
theorem l09Fault_any (A D : Option Addr) (n c d B B' k : Nat) (m : List (List Int)) (b : List Int) (w : World) (hl : m.length = n) (hl' : b.length = n) (hn1 : 1 ≤ n) (hn : n ≤ 8) (hq : Wide m n) (hnum : ∀ r ∈ m, allNum r = true) (hnb : allNum b = true) (hk1 : 1 ≤ k) (hk6 : k ≤ 6) (hB : B ≤ w.heap.size) (hB' : B' ≤ w.heap.size) (h : Mat w B A m) (r : Row w B' D (ints b)) :
    Calls Tryz.prog 34 #[.agg #[.slice A n c, .slice D n d], .int .i64 (k : Int)] w fun e w' => e = .returned (.int .i64 (faultP m b n k)) ∧ Below w.heap.size w w' := by
  have HL := Lib.hid hl
  have HL' := Lib.hid hl'
  have HQ := Lib.hid hq
  have HN := Lib.hid hnum
  have HNB := Lib.hid hnb
  have C1 := fun w' => l03All_any k w' (by omega) (by omega)
  have hlen := treesTo_len k (by omega)
  have HLV : Hid (∀ t ∈ treesTo k, Tr.isLv t = true) := fun t ht => lv_to (by omega) ht
  have HRA : Hid (∀ j t, (treesTo k)[j]? = some t → (resAll m b n k)[j]? = some (resT m b n t)) := fun j t h => resAll_at h
  have HRL := Lib.hid (resAll_len m b n k)
  have HF : Hid (faultP m b n k = fnz ((resAll m b n k).drop 0) (0 : Nat)) := rfl
  obtain ⟨T, hT⟩ : ∃ T, T = treesTo k := ⟨_, rfl⟩
  simp only [← hT] at C1
  rw [← hT] at hlen HLV HRA HRL
  obtain ⟨N, hN⟩ : ∃ N, N = T.length := ⟨_, rfl⟩
  have HNN : Hid (T.length = N) := hN.symm
  simp only [← hN] at C1
  rw [← hN] at hlen HRL
  obtain ⟨FP, hFP⟩ : ∃ F, F = faultP m b n k := ⟨_, rfl⟩
  have HFP := Lib.hid hFP
  rw [← hFP] at HF
  obtain ⟨RA, hRA⟩ : ∃ R, R = resAll m b n k := ⟨_, rfl⟩
  rw [← hRA] at HF HRA HRL
  obtain ⟨W0, hW0⟩ : ∃ W0, W0 = w.alloc (.cells #[.slice A n c, .slice D n d] 29) := ⟨_, rfl⟩
  have HB0 : Hid (Below w.heap.size w W0) := by rw [hW0]; exact (Below.refl _ _).alloc (Nat.le_refl _) _
  have HX0 : Hid (Bx W0 w.heap.size 29 (.slice A n c) (.slice D n d)) := by rw [hW0]; exact Bx.new _ _ _ _
  have hz0' : w.heap.size < W0.heap.size := HX0.out.lt
  have HM0 := Lib.hid (h.below HB0.out hB)
  have HR0 := Lib.hid (r.below HB0.out hB')
  clear hl hl' hq hnum hnb h r hT hN hFP hRA
  go_enter Tryz.func34, Tryz.ntmps34
  go_wp2_with fail
  rw [← hW0]
  clear hW0
  refine (C1 W0).mono ?_
  rintro e w1 ⟨A1, c1, vs1, rfl, own1, b1⟩
  have hs1 := b1.size
  have FM : Hid (Mat w1 w1.heap.size A1 T) := own1.mat
  have HB1 := Lib.hid (HB0.out.trans (b1.mono HB0.out.size))
  have HM1 := Lib.hid (HM0.out.below b1 (by omega))
  have HR1 := Lib.hid (HR0.out.below b1 (by omega))
  have HX1 := Lib.hid (HX0.out.next b1)
  clear own1 b1 C1 HM0 HR0 HX0 HB0
  go_wp2_with fail
  go_loopw [6] (fun i wr => ∃ j : Nat, j ≤ N ∧ i = .int .i64 j ∧ Hid (Below w1.heap.size w1 wr) ∧ Hid (FP = fnz (RA.drop j) (j : Int))) (fun i _ => N - (intOf i).toNat)
  case atStart => exact ⟨0, Nat.zero_le _, rfl, Below.refl _ _, HF⟩
  case round =>
    obtain ⟨j, hj, rfl, HG, HI⟩ := hrel
    by_cases hlt : j < N
    · obtain ⟨t, ht⟩ := at_lt (show j < T.length by rw [HNN.out]; exact hlt)
      have hlv := HLV.out t (List.mem_of_getElem? ht)
      obtain ⟨q1, q8⟩ := lv_bd hlv
      have hsz := HG.out.size
      obtain ⟨b1, o1, Ak, ck, rfl, hb1, hct, hlc, hcm, hrow⟩ := (FM.out.below HG.out (Nat.le_refl _)) j t ht
      have hbx := HX1.out.next HG.out
      have hmm := HM1.out.below HG.out (by omega)
      have hrr := HR1.out.below HG.out (by omega)
      have C1 := fun V (hV : Below wr.heap.size wr V) => l09Residual_any t A D Ak n c d t.length ck B B' w1.heap.size m b V hlv rfl HL.out HL'.out hn1 hn HQ.out HN.out HNB.out (by have := hV.size; omega) (by have := hV.size; omega) (by have := hV.size; omega) (hmm.below hV (by omega)) (hrr.below hV (by omega)) (hrow.below hV (by omega))
      have TA := HRA.out j t ht
      obtain ⟨V9, hV9⟩ : ∃ V : Int, V = resT m b n t := ⟨_, rfl⟩
      rw [← hV9] at TA
      simp only [← hV9] at C1
      have KK : Hid (∀ V, Below wr.heap.size wr V → V.cell? ⟨w.heap.size, 0, none⟩ = some (.slice A n c) ∧ V.cell? ⟨w.heap.size, 1, none⟩ = some (.slice D n d) ∧ V.cell? ⟨b1, o1 + j, none⟩ = some (.slice Ak t.length ck)) := fun V hV => ⟨(hbx.next hV).c0, (hbx.next hV).c1, (hV.cell (p := ⟨b1, o1 + j, none⟩) (show b1 < _ by omega)).trans hct⟩
      have j0 : (0 : Int) ≤ (j : Int) := Int.natCast_nonneg _
      have j1 : (j : Int) < (N : Int) := by omega
      have HTA := Lib.hid TA
      clear ht hlv hV9 TA hrow hmm hrr hbx hct
      go_wp2_with fail
      go_region_held3 (fun V => V.cell? ⟨w.heap.size, 0, none⟩ = some (.slice A n c) ∧ V.cell? ⟨w.heap.size, 1, none⟩ = some (.slice D n d) ∧ V.cell? ⟨b1, o1 + j, none⟩ = some (.slice Ak t.length ck))
        (first | exact KK.out _ (Below.refl _ _) | exact KK.out _ (Below.refl _ _).drew | exact KK.out _ (below_drewN (Below.refl _ _) _) | exact KK.out _ (below_undrawn (a := 1) be3))
        (first
          | (go_at_call 42; refine (C1 _ (by first | exact (Below.refl _ _).drew | exact below_drewN (Below.refl _ _) _)).mono ?_; clear C1; rintro e w3 ⟨rfl, be3⟩))
      have HB3 := Lib.hid (HG.out.trans ((show Below wr.heap.size wr w3 from below_undrawn (a := 1) be3).mono hsz))
      clear be3 KK HG
      by_cases hv : V9 = 0
      · have HI2 : Hid (FP = fnz (RA.drop (j + 1)) ((j + 1 : Nat) : Int)) := by
          rw [Hid, HI.out, fnz_next (by rw [HTA.out, hv]), Int.natCast_add, Int.natCast_one]
        subst hv
        clear HI HTA
        go_wp2
        go_roundw
        case rel => exact ⟨j + 1, by omega, by go_num, HB3, HI2⟩
        case measure => simp [intOf]; omega
      · have tv := bne_t hv
        have HI2 : Hid (FP = (j : Int)) := HI.out.trans (fnz_stop HTA.out hv)
        clear HI HTA hv
        go_wp2
        go_ret
        exact ⟨ret_i64 (by rw [← HFP.out, HI2.out]), HB1.out.trans (HB3.out.mono HB1.out.size)⟩
    · obtain rfl : j = N := by omega
      have HI2 : Hid (FP = -1) := HI.out.trans (fnz_end (by rw [HRL.out]; exact Nat.le_refl _))
      have HB3 := Lib.hid (HB1.out.trans (HG.out.mono HB1.out.size))
      clear HI HG
      go_wp2
      go_ret
      exact ⟨ret_i64 (by rw [← HFP.out, HI2.out]), HB3.out⟩
/-- what FirstFault answers -/
def faultA (m : List (List Int)) (b : List Int) (k : Int) : Int × Int := if isTabB m b = true then (if 1 ≤ k ∧ k ≤ 6 then (if faultP m b b.length k.toNat < 0 then (0, 4) else (faultP m b b.length k.toNat, 0)) else (0, 2)) else (0, 1)
theorem fnz_bd : ∀ (L : List Int) (i : Int), 0 ≤ i → -1 ≤ fnz L i ∧ fnz L i ≤ i + L.length
  | [], i, h => by simp [fnz]; omega
  | x :: L, i, h => by
    unfold fnz
    have := fnz_bd L (i + 1) (by omega)
    rw [List.length_cons]
    split <;> omega
set_option maxHeartbeats 4000000 in
theorem sFirstFault_L (A D : Option Addr) (n c n' d B B' : Nat) (m : List (List Int)) (b : List Int) (k : Int) (w : World) (hl : m.length = n) (hl' : b.length = n') (hn : n ≤ 9223372036854775807) (hn' : n' ≤ 9223372036854775807) (hB : B ≤ w.heap.size) (hB' : B' ≤ w.heap.size) (h : Mat w B A m) (r : Row w B' D (ints b)) (hk : -9223372036854775808 ≤ k ∧ k ≤ 9223372036854775807) :
    Calls Tryz.prog 19 #[.agg #[.slice A n c, .slice D n' d], .int .i64 k] w (ResI (faultA m b k) w) := by
  have hk' := hk
  have HL := Lib.hid hl
  have HL' := Lib.hid hl'
  obtain ⟨k0, k1⟩ := hk
  obtain ⟨W0, hW0⟩ : ∃ W0, W0 = w.alloc (.cells #[.slice A n c, .slice D n' d] 29) := ⟨_, rfl⟩
  have HB : Hid (Below w.heap.size w W0) := by rw [hW0]; exact (Below.refl _ _).alloc (Nat.le_refl _) _
  have HM : Hid (Mat W0 B A m) := h.below HB.out hB
  have HR : Hid (Row W0 B' D (ints b)) := r.below HB.out hB'
  have HX : Hid (Bx W0 w.heap.size 29 (.slice A n c) (.slice D n' d)) := by rw [hW0]; exact Bx.new _ _ _ _
  have hz := HB.out.size
  clear hl hl' h r
  by_cases hok : isTabB m b = true ∧ 1 ≤ k ∧ k ≤ 6
  · obtain ⟨ht, hr⟩ := hok
    obtain ⟨q, rfl⟩ : ∃ q : Nat, k = (q : Int) := ⟨k.toNat, by omega⟩
    have hq1 : 1 ≤ q ∧ q ≤ 6 := by omega
    have G : Hid (faultA m b (q : Int) = if faultP m b n' q < 0 then (0, 4) else (faultP m b n' q, 0)) := by unfold faultA; rw [Hid, if_pos ht, if_pos hr, HL'.out]; rfl
    have K : Hid (codeTN m b (q : Int) = 0) := by unfold codeTN; rw [Hid, if_pos ht, if_pos hr]
    obtain ⟨t1, t2, t3, t4, t5, t6⟩ := isTabB_parts ht
    rw [HL'.out] at t1 t2 t3 t5
    have hnn : n' = n := by rw [← t3]; exact HL.out
    subst hnn
    have HW := Lib.hid t5
    have HNB := Lib.hid t4
    have HN := Lib.hid t6
    have hbd := fnz_bd (resAll m b n' q) 0 (by omega)
    rw [resAll_len] at hbd
    have hlen := treesTo_len q (by omega)
    have C9 := fun w2 => l09Fault_any A D n' c d B B' q m b w2 HL.out HL'.out t1 t2 HW.out HN.out HNB.out hq1.1 hq1.2
    obtain ⟨FP, hFP⟩ : ∃ F, F = faultP m b n' q := ⟨_, rfl⟩
    have hbd2 : -1 ≤ FP ∧ FP ≤ 690 := by rw [hFP]; unfold faultP; omega
    rw [← hFP] at G
    simp only [← hFP] at C9
    clear t3 t4 t5 t6 hbd hlen hFP
    go_enter Tryz.func19, Tryz.ntmps19
    go_wp2_with fail
    rw [← hW0]
    refine (l09Nodes_any A D n' c n' d B B' m b (q : Int) W0 HL.out HL'.out hn hn' (by omega) (by omega) HM.out HR.out hk').mono ?_
    rintro e w2 ⟨rfl, b2⟩
    rw [K.out]
    have HB2 := Lib.hid (HB.out.trans (b2.mono HB.out.size))
    have hz3 := b2.size
    have C0 := C9 w2 (by omega) (by omega) (HM.out.below b2 (by omega)) (HR.out.below b2 (by omega))
    have q0 := (HX.out.next b2).c0
    have q1 := (HX.out.next b2).c1
    clear b2 hW0 ht hk' hr C9
    go_wp2_with fail
    refine C0.mono ?_
    rintro e w3 ⟨rfl, b3⟩
    have HB3 := Lib.hid (HB2.out.trans (b3.mono HB2.out.size))
    clear b3 C0 q0 q1
    by_cases hneg : FP < 0
    · have GR : Hid (faultA m b (q : Int) = (0, 4)) := G.out.trans (if_pos hneg)
      go_wp2
      go_ret2
      exact ResI.of' GR.out HB3.out
    · have GR : Hid (faultA m b (q : Int) = (FP, 0)) := G.out.trans (if_neg hneg)
      have hpos : 0 ≤ FP := by omega
      go_wp2
      go_ret2
      exact ResI.of' GR.out HB3.out
  · have K1 : codeTN m b k = 1 ∧ faultA m b k = (0, 1) ∨ codeTN m b k = 2 ∧ faultA m b k = (0, 2) := by
      unfold codeTN faultA
      by_cases ht : isTabB m b = true
      · rw [if_pos ht, if_pos ht, if_neg (fun h => hok ⟨ht, h⟩), if_neg (fun h => hok ⟨ht, h⟩)]; exact .inr ⟨rfl, rfl⟩
      · rw [if_neg ht, if_neg ht]; exact .inl ⟨rfl, rfl⟩
    clear hok
    rcases K1 with ⟨K, G⟩ | ⟨K, G⟩
    all_goals
      have HK := Lib.hid K
      have HG := Lib.hid G
      clear K G
      go_enter Tryz.func19, Tryz.ntmps19
      go_wp2_with fail
      rw [← hW0]
      refine (l09Nodes_any A D n c n' d B B' m b k W0 HL.out HL'.out hn hn' (by omega) (by omega) HM.out HR.out hk').mono ?_
      rintro e w2 ⟨rfl, b2⟩
      rw [HK.out]
      have HB2 := Lib.hid (HB.out.trans (b2.mono HB.out.size))
      clear b2 hW0 hk'
      go_wp2
      go_ret2
      exact ResI.of' HG.out HB2.out
set_option maxHeartbeats 4000000 in
theorem pFirstFault_L (A D : Option Addr) (n c n' d B B' : Nat) (m : List (List Int)) (b : List Int) (k : Int) (w : World) (hl : m.length = n) (hl' : b.length = n') (hn : n ≤ 9223372036854775807) (hn' : n' ≤ 9223372036854775807) (hB : B ≤ w.heap.size) (hB' : B' ≤ w.heap.size) (h : Mat w B A m) (r : Row w B' D (ints b)) (hk : -9223372036854775808 ≤ k ∧ k ≤ 9223372036854775807) :
    Calls Tryz.prog 20 #[.agg #[.slice A n c, .slice D n' d], .int .i64 k] w (ResI (faultA m b k) w) := by
  have HL := Lib.hid hl
  have HL' := Lib.hid hl'
  obtain ⟨k0, k1⟩ := hk
  obtain ⟨W0, hW0⟩ : ∃ W0, W0 = w.alloc (.cells #[.slice A n c, .slice D n' d] 29) := ⟨_, rfl⟩
  have HB : Hid (Below w.heap.size w W0) := by rw [hW0]; exact (Below.refl _ _).alloc (Nat.le_refl _) _
  have HM : Hid (Mat W0 B A m) := h.below HB.out hB
  have HR : Hid (Row W0 B' D (ints b)) := r.below HB.out hB'
  have HX : Hid (Bx W0 w.heap.size 29 (.slice A n c) (.slice D n' d)) := by rw [hW0]; exact Bx.new _ _ _ _
  have hz := HB.out.size
  clear hl hl' h r
  cases ht : isTabB m b
  · have G : Hid (faultA m b k = (0, 1)) := by unfold faultA; rw [Hid, if_neg (by rw [ht]; simp)]
    go_enter Tryz.func20, Tryz.ntmps20
    go_wp2_with fail
    rw [← hW0]
    refine (isTableau_any A D n c n' d B B' m b W0 HL.out HL'.out hn hn' (by omega) (by omega) HM.out HR.out).mono ?_
    rintro e w2 ⟨rfl, b2⟩
    rw [ht]
    have HB2 := Lib.hid (HB.out.trans (b2.mono HB.out.size))
    clear b2 hW0 ht
    go_wp2
    go_ret2
    exact ResI.of' G.out HB2.out
  · by_cases hr : 1 ≤ k ∧ k ≤ 6
    · obtain ⟨q, rfl⟩ : ∃ q : Nat, k = (q : Int) := ⟨k.toNat, by omega⟩
      have hq1 : 1 ≤ q ∧ q ≤ 6 := by omega
      have G : Hid (faultA m b (q : Int) = if faultP m b n' q < 0 then (0, 4) else (faultP m b n' q, 0)) := by unfold faultA; rw [Hid, if_pos ht, if_pos hr, HL'.out]; rfl
      obtain ⟨t1, t2, t3, t4, t5, t6⟩ := isTabB_parts ht
      rw [HL'.out] at t1 t2 t3 t5
      have hnn : n' = n := by rw [← t3]; exact HL.out
      subst hnn
      have HW := Lib.hid t5
      have HNB := Lib.hid t4
      have HN := Lib.hid t6
      have tk0 : ¬ ((q : Int) < 1) := by omega
      have HRA : Hid (∀ i j t, i < q → (Tr.treesL (i + 1))[j]? = some t → (resAll m b n' q)[(treesTo i).length + j]? = some (resT m b n' t)) := fun i j t hi h => resAll_at (treesTo_at hi h)
      have HRL := Lib.hid (resAll_len m b n' q)
      have HF : Hid (faultP m b n' q = fnz ((resAll m b n' q).drop (treesTo 0).length) (((treesTo 0).length : Nat) : Int)) := rfl
      have HL8 : Hid (∀ i, i ≤ q → (treesTo i).length ≤ 690) := fun i hi => by have := treesTo_len i (by omega); omega
      have HST : Hid (∀ i, (treesTo (i + 1)).length = (treesTo i).length + (Tr.treesL (i + 1)).length) := fun i => by rw [treesTo_step, List.length_append]
      obtain ⟨FP, hFP⟩ : ∃ F, F = faultP m b n' q := ⟨_, rfl⟩
      obtain ⟨RA, hRA⟩ : ∃ R, R = resAll m b n' q := ⟨_, rfl⟩
      rw [← hFP] at G HF
      rw [← hRA] at HF HRA HRL
      clear t3 t4 t5 t6 hr hFP hRA
      go_enter Tryz.func20, Tryz.ntmps20
      go_wp2_with fail
      rw [← hW0]
      refine (isTableau_any A D n' c n' d B B' m b W0 HL.out HL'.out hn hn' (by omega) (by omega) HM.out HR.out).mono ?_
      rintro e w2 ⟨rfl, b2⟩
      rw [ht]
      have HB2 := Lib.hid (HB.out.trans (b2.mono HB.out.size))
      have HM2 := Lib.hid (HM.out.below b2 (by omega))
      have HR2 := Lib.hid (HR.out.below b2 (by omega))
      have q0 := (HX.out.next b2).c0
      have q1 := (HX.out.next b2).c1
      have hz2 := b2.size
      clear b2 hW0 ht
      go_wp2_with fail
      refine (schemeOf_any A D n' c n' d B B' n' m b w2 HL.out HL'.out t2 HW.out (by omega) (by omega) (by omega) (by omega) HM2.out HR2.out).mono ?_
      rintro e w3 ⟨A3, c3, D3, d3, rfl, hc3, hd3, m3, r3, b3⟩
      have HB3 := Lib.hid (HB2.out.trans (b3.mono HB2.out.size))
      obtain ⟨W4, hW4⟩ : ∃ W, W = w3.alloc (.cells #[.slice A3 n' c3, .slice D3 n' d3] 61) := ⟨_, rfl⟩
      have hb4 : Below w3.heap.size w3 W4 := by rw [hW4]; exact (Below.refl _ _).alloc (Nat.le_refl _) _
      have HX4 : Hid (Bx W4 w3.heap.size 61 (.slice A3 n' c3) (.slice D3 n' d3)) := by rw [hW4]; exact Bx.new _ _ _ _
      have HB4 := Lib.hid (HB3.out.trans (hb4.mono HB3.out.size))
      have HM4 := Lib.hid (m3.below hb4 (Nat.le_refl _))
      have HR4 := Lib.hid (r3.below hb4 (Nat.le_refl _))
      have hz4 := hb4.size
      clear b3 q0 q1 m3 r3 hb4
      go_wp2_with fail
      rw [← hW4]
      clear hW4
      go_loopw [7, 8] (fun v i wr => ∃ (j : Nat), j ≤ q ∧ v = .int .i64 (((treesTo j).length : Nat) : Int) ∧ i = .int .i64 ((j : Int) + 1) ∧ Hid (FP = fnz (RA.drop (treesTo j).length) (((treesTo j).length : Nat) : Int)) ∧ Hid (Below W4.heap.size W4 wr)) (fun _ i _ => q + 1 - (intOf i).toNat)
      case atStart => exact ⟨0, Nat.zero_le _, rfl, rfl, HF, Below.refl _ _⟩
      case round =>
        obtain ⟨j, hj, rfl, rfl, HI, HBB⟩ := hrel
        by_cases hlt : j < q
        · have hsz := HBB.out.size
          have hbx := HX4.out.next HBB.out
          have p0 := hbx.c0
          have p1 := hbx.c1
          have C1 := residuals_any A3 D3 n' c3 d3 w3.heap.size w3.heap.size (j + 1) m b wr HL.out HL'.out t1 t2 HW.out HN.out HNB.out (by omega) (by omega) (by omega) (by omega) (HM4.out.below HBB.out (by omega)) (HR4.out.below HBB.out (by omega))
          rw [Int.natCast_add, Int.natCast_one] at C1
          have h690 := HL8.out j (by omega)
          have h691 := HL8.out (j + 1) (by omega)
          have hst := HST.out j
          have HRAj : Hid (∀ x y, (resL m b n' (j + 1))[x]? = some y → RA[(treesTo j).length + x]? = some y) := fun x y hy => by
            unfold resL at hy
            rw [List.getElem?_map, Option.map_eq_some_iff] at hy
            obtain ⟨t, ht, rfl⟩ := hy
            exact HRA.out j x t hlt ht
          have HRLj : Hid ((resL m b n' (j + 1)).length = (Tr.treesL (j + 1)).length) := resL_len m b n' (j + 1)
          have HST1 : Hid ((treesTo (j + 1)).length = (treesTo j).length + (Tr.treesL (j + 1)).length) := hst
          obtain ⟨N5, hN5⟩ : ∃ N, N = (Tr.treesL (j + 1)).length := ⟨_, rfl⟩
          obtain ⟨K5, hK5⟩ : ∃ N, N = (treesTo j).length := ⟨_, rfl⟩
          obtain ⟨R5, hR5⟩ : ∃ R, R = resL m b n' (j + 1) := ⟨_, rfl⟩
          rw [← hN5] at C1 HRLj HST1 hst
          rw [← hK5] at HST1 hst HRAj HI h690 ⊢
          rw [← hR5] at C1 HRAj HRLj
          clear hN5 hK5 hR5 hbx
          have le1 : (j : Int) + 1 ≤ (q : Int) := by omega
          go_wp2_with fail
          refine C1.mono ?_
          rintro e w5 ⟨A5, c5, rfl, own5, b5⟩
          have HR5 := Lib.hid (row_of_own own5)
          have HB5 := Lib.hid (HBB.out.trans (b5.mono hsz))
          clear own5 b5 C1 p0 p1 HBB
          go_wp2_with fail
          go_loop [7, 31] (fun v i => ∃ x : Nat, x ≤ N5 ∧ v = .int .i64 ((K5 + x : Nat) : Int) ∧ i = .int .i64 x ∧ Hid (FP = fnz (RA.drop (K5 + x)) ((K5 + x : Nat) : Int))) (fun _ i => N5 - (intOf i).toNat)
          case atStart => exact ⟨0, Nat.zero_le _, rfl, rfl, HI⟩
          case round =>
            obtain ⟨x, hx, rfl, rfl, HJ⟩ := hrel
            by_cases hxl : x < N5
            · obtain ⟨y, hy⟩ := at_lt (show x < R5.length by rw [HRLj.out]; exact hxl)
              obtain ⟨b6, o6, rfl, _, hc6⟩ := HR5.out x _ (ints_at hy)
              have HY := Lib.hid (HRAj.out x y hy)
              have x0 : (0 : Int) ≤ (x : Int) := Int.natCast_nonneg _
              by_cases hv : y = 0
              · have HI2 : Hid (FP = fnz (RA.drop (K5 + (x + 1))) ((K5 + (x + 1) : Nat) : Int)) := by
                  rw [Hid, HJ.out, fnz_next (by rw [HY.out, hv]), ← Nat.add_assoc, Int.natCast_add (K5 + x) 1, Int.natCast_one]
                have hwr : IntKind.i64.wrap (((K5 + x : Nat) : Int) + 1) = ((K5 + (x + 1) : Nat) : Int) := by rw [IntWalk.i64_in _ (by omega)]; omega
                subst hv
                clear HJ HY hy
                go_wp2
                go_round
                case rel => exact ⟨x + 1, by omega, by go_num, by go_num, HI2⟩
                case measure => simp [intOf]; omega
              · have tv := bne_t hv
                have HI2 : Hid (FP = ((K5 + x : Nat) : Int)) := HJ.out.trans (fnz_stop HY.out hv)
                have GR : Hid (faultA m b (q : Int) = (((K5 + x : Nat) : Int), 0)) := by rw [Hid, G.out, HI2.out, if_neg (by omega)]
                clear HJ HY hy hv
                go_wp2
                go_ret2
                exact ResI.of' GR.out (HB4.out.trans (HB5.out.mono HB4.out.size))
            · obtain rfl : x = N5 := by omega
              have HJ2 : Hid (FP = fnz (RA.drop (treesTo (j + 1)).length) (((treesTo (j + 1)).length : Nat) : Int)) := by rw [HST1.out]; exact HJ.out
              have HEQ : Hid (((K5 + x : Nat) : Int) = (((treesTo (j + 1)).length : Nat) : Int)) := by rw [HST1.out]; rfl
              clear HJ
              go_wp2
              go_roundw
              case rel => exact ⟨j + 1, by omega, by rw [← HEQ.out], by go_num, HJ2, HB5⟩
              case measure => simp [intOf]; omega
        · obtain rfl : j = q := by omega
          have HI2 : Hid (FP = -1) := HI.out.trans (fnz_end (by rw [HRL.out]; exact Nat.le_refl _))
          have GR : Hid (faultA m b (j : Int) = (0, 4)) := by rw [Hid, G.out, HI2.out]; rfl
          have HBF := Lib.hid (HB4.out.trans (HBB.out.mono HB4.out.size))
          have le1 : ¬ (j : Int) + 1 ≤ (j : Int) := by omega
          clear HI HBB
          go_wp2
          go_ret2
          exact ResI.of' GR.out HBF.out
    · have G : Hid (faultA m b k = (0, 2)) := by unfold faultA; rw [Hid, if_pos ht, if_neg hr]
      by_cases hlo : k < 1
      · go_enter Tryz.func20, Tryz.ntmps20
        go_wp2_with fail
        rw [← hW0]
        refine (isTableau_any A D n c n' d B B' m b W0 HL.out HL'.out hn hn' (by omega) (by omega) HM.out HR.out).mono ?_
        rintro e w2 ⟨rfl, b2⟩
        rw [ht]
        have HB2 := Lib.hid (HB.out.trans (b2.mono HB.out.size))
        clear b2 hW0 ht
        go_wp2
        go_ret2
        exact ResI.of' G.out HB2.out
      · have hhi : 6 < k := by omega
        go_enter Tryz.func20, Tryz.ntmps20
        go_wp2_with fail
        rw [← hW0]
        refine (isTableau_any A D n c n' d B B' m b W0 HL.out HL'.out hn hn' (by omega) (by omega) HM.out HR.out).mono ?_
        rintro e w2 ⟨rfl, b2⟩
        rw [ht]
        have HB2 := Lib.hid (HB.out.trans (b2.mono HB.out.size))
        clear b2 hW0 ht
        go_wp2
        go_ret2
        exact ResI.of' G.out HB2.out
end Go.Proofs.YtolkbbbbahhfaaaGreat
/-
  The exact map, the program's and the model's.
-/
namespace Go.Proofs.YtolkbbbbahhfaaaGreat
open Go.RowKit Fld
set_option linter.unusedVariables false
set_option linter.unusedSimpArgs false
set_option maxRecDepth 100000

def exactV (t : List Int) : Int := inv (Tr.denM t % 10007)
def exactL : List Int := 1 :: (treesTo 6).map exactV
theorem exactL_length : exactL.length = 38 := by unfold exactL; rw [List.length_cons, List.length_map, to_len]
theorem exactL_num : allNum exactL = true := by
  rw [allNum_iff]
  intro x hx
  unfold exactL at hx
  rw [List.mem_cons, List.mem_map] at hx
  rcases hx with rfl | ⟨t, _, rfl⟩
  · omega
  · exact ⟨inv_lo _, inv_hi _⟩
theorem exactL_at {k : Nat} {t : List Int} (h : (treesTo 6)[k]? = some t) : exactL[k + 1]? = some (exactV t) := by
  unfold exactL; rw [List.getElem?_cons_succ, List.getElem?_map, h]; rfl
theorem mapTx_tree {k : Nat} {t : List Int} (h : (treesTo 6)[k]? = some t) : mapTx[k + 1]? = some (Tr.txt t) := by
  unfold mapTx; rw [List.getElem?_cons_succ, List.getElem?_map, h]; rfl
theorem to_lv {k : Nat} {t : List Int} (h : (treesTo 6)[k]? = some t) : Tr.isLv t = true := by
  have hm := List.mem_of_getElem? h
  unfold treesTo at hm
  rw [List.mem_flatMap] at hm
  obtain ⟨n, hn, ht⟩ := hm
  rw [List.mem_range] at hn
  exact ((trees_all (n := n + 1) (by omega) (by omega)).1 t ht).1
theorem unit_mix : unitL = exactL.take (0 + 1) ++ unitL.drop (0 + 1) := rfl
theorem unitL_at {k : Nat} (h : k < 37) : unitL[k + 1]? = some 0 := by
  unfold unitL; rw [List.getElem?_cons_succ, List.getElem?_replicate, if_pos h]
set_option maxHeartbeats 2000000 in
theorem exactMap_any (w : World) : Calls Tryz.prog 39 #[] w fun e w' => e = .returned (.agg (arrM exactL)) ∧ Below w.heap.size w w' := by
  have EL := Lib.hid exactL_length
  have UL := Lib.hid unitL_length
  go_enter Tryz.func39, Tryz.ntmps39
  go_wp2_with (refine wpList_store_row rfl 56 (.tmp 1) (.tmp 4) rfl (w.heap.size + 1) (arrM unitL) rfl rfl 56 (arrM zero38) (arrM_two w zero38 zero38).2.1 (by rw [arrM_size UL.out]; exact info_arrM) (by rw [arrM_size UL.out]; rfl) (arrM_cells _) ?_)
  refine (mapTrees_any _).mono ?_
  rintro e w2 ⟨A2, c2, rfl, own2, bel2⟩
  have FX0 : ArrM (((w.alloc (.cells (arrM zero38) 56)).alloc (.cells (arrM zero38) 56)).setRow (w.heap.size + 1) (arrM unitL)) (w.heap.size + 1) unitL := setRow_heap _ _ _ _ _ _ (arrM_two w zero38 zero38).2.1
  have FZ0 : ArrM (((w.alloc (.cells (arrM zero38) 56)).alloc (.cells (arrM zero38) 56)).setRow (w.heap.size + 1) (arrM unitL)) w.heap.size zero38 := (setRow_other _ _ _ _ (by omega)).trans (arrM_two w zero38 zero38).1
  have FX : Hid (ArrM w2 (w.heap.size + 1) (exactL.take (0 + 1) ++ unitL.drop (0 + 1))) := FX0.below bel2 (by simp [World.setRow])
  have FZ : Hid (ArrM w2 w.heap.size zero38) := FZ0.below bel2 (by simp [World.setRow]; omega)
  have FB : Hid (Below w.heap.size w w2) := (below_setRow (arrM_two w zero38 zero38).2.2 (by omega) (arrM unitL)).trans (bel2.mono (by simp [World.setRow]; omega))
  obtain ⟨g2, rfl⟩ := own_addr own2 (by omega)
  have hg2 : w.heap.size + 1 < g2 := by have := (own2.lt g2 rfl).1; simp [World.setRow] at this; omega
  have FT := Lib.hid (strs_cell (row_of_own own2))
  have hcap := (own_cap own2).1
  have hc1 : ¬ c2 = 1 := by omega
  clear own2 bel2 FX0 FZ0
  go_wp2_with fail
  go_loopw [8] (fun i wr => ∃ k : Nat, k ≤ 37 ∧ i = .int .i64 k ∧ Hid (ArrM wr (w.heap.size + 1) (exactL.take (k + 1) ++ unitL.drop (k + 1))) ∧ Hid (ArrM wr w.heap.size zero38) ∧ Hid (∀ k t, mapTx[k]? = some t → wr.cell? ⟨g2, k, none⟩ = some (.string ⟨t.toArray⟩)) ∧ Hid (Below w.heap.size w wr)) (fun i _ => 37 - (intOf i).toNat)
  case atStart => exact ⟨0, by omega, rfl, FX, FZ, FT, FB⟩
  case round =>
    obtain ⟨k, hk, rfl, HX, HZ, HT, HB⟩ := hrel
    by_cases hlt : k < 37
    · obtain ⟨t, ht⟩ := at_lt (show k < (treesTo 6).length by rw [to_len]; exact hlt)
      have hlv := to_lv ht
      have hct := HT.out (k + 1) _ (mapTx_tree ht)
      have hc := HX.out.cell (mixP_at (us := exactL) (by rw [EL.out, UL.out]) (unitL_at hlt))
      have hf := HX.out.free (k + 1)
      have C1 := fun w' => density_any (Tr.txt t) w' (Tr.tx_txt hlv)
      rw [(Tr.denM_parts hlv).2] at C1
      obtain ⟨d1, d2⟩ := Tr.denM_bd hlv
      have TA : exactL[k + 1]? = some (inv (Tr.denM t % 10007)) := exactL_at ht
      have k0 : (0 : Int) ≤ (k : Int) + 1 := by omega
      have k1 : (k : Int) + 1 < 38 := by omega
      have kk0 : (0 : Int) ≤ (k : Int) := Int.natCast_nonneg _
      have kk1 : (k : Int) < 37 := by omega
      have ew : IntKind.i64.wrap ((k : Int) + 1) = (k : Int) + 1 := IntWalk.i64_in _ (by omega)
      have en : ((k : Int) + 1).toNat = k + 1 := by omega
      have ek : 1 + k = k + 1 := by omega
      obtain ⟨X, hX⟩ : ∃ X : ByteArray, X = ⟨(Tr.txt t).toArray⟩ := ⟨_, rfl⟩
      rw [← hX] at hct C1
      obtain ⟨D, hD⟩ : ∃ D : Int, D = Tr.denM t := ⟨_, rfl⟩
      rw [← hD] at C1 TA d1 d2
      obtain ⟨V, hV⟩ : ∃ V : Int, V = inv (D % 10007) := ⟨_, rfl⟩
      rw [← hV] at TA
      have C3 := fun w' => inverse_any (D % 10007) w' (by omega) (by omega)
      rw [← hV] at C3
      have HGX : Hid (∀ W : World, ArrM W (w.heap.size + 1) (exactL.take (k + 1) ++ unitL.drop (k + 1)) → ArrM (W.setCell ⟨w.heap.size + 1, k + 1, none⟩ (.int .i64 V)) (w.heap.size + 1) (exactL.take (k + 1 + 1) ++ unitL.drop (k + 1 + 1))) := fun W hW => by
        have := hW.store (k := k + 1) V
        rw [mixP_step (by rw [UL.out]; omega) (by rw [EL.out, UL.out]) TA] at this
        exact this
      have hs1 := HB.out.size
      have hsg : g2 < wr.heap.size := by
        have h9 := hct
        rcases Nat.lt_or_ge g2 wr.heap.size with h8 | h8
        · exact h8
        · exfalso
          unfold World.cell? at h9
          simp [Array.getElem?_eq_none h8] at h9
      clear ht hlv hX hD hV TA FX FZ FT FB hc hf
      go_wp2_with fail
      refine (C1 _).mono ?_
      rintro e w3 ⟨rfl, bel3⟩
      have hx1 : w.heap.size + 1 < wr.heap.size := by omega
      have HX3 := HX.out.below bel3 hx1
      have HZ3 := Lib.hid (HZ.out.below bel3 (by omega))
      have HT3 : Hid (∀ k t, mapTx[k]? = some t → w3.cell? ⟨g2, k, none⟩ = some (.string ⟨t.toArray⟩)) := fun j u hu => (bel3.cell (p := ⟨g2, j, none⟩) hsg).trans (HT.out j u hu)
      have HB3 := Lib.hid (HB.out.trans (bel3.mono hs1))
      have hc3 : ∃ v, w3.cell? ⟨w.heap.size + 1, k + 1, none⟩ = some v := ⟨_, HX3.cell (mixP_at (us := exactL) (by rw [EL.out, UL.out]) (unitL_at hlt))⟩
      obtain ⟨v9, hc3⟩ := hc3
      have hf3 := HX3.free (k + 1)
      have GX := Lib.hid (HGX.out w3 HX3)
      have GZ : Hid (ArrM (w3.setCell ⟨w.heap.size + 1, k + 1, none⟩ (.int .i64 V)) w.heap.size zero38) := HZ3.out.other (by omega) _
      have GT : Hid (∀ j t, mapTx[j]? = some t → (w3.setCell ⟨w.heap.size + 1, k + 1, none⟩ (.int .i64 V)).cell? ⟨g2, j, none⟩ = some (.string ⟨t.toArray⟩)) := fun j t ht => cell_other (HT3.out j t ht) (by omega)
      have GB : Hid (Below w.heap.size w (w3.setCell ⟨w.heap.size + 1, k + 1, none⟩ (.int .i64 V))) := below_set HB3.out (by omega) _
      clear HX HZ HT HB HX3 HZ3 HT3 HB3 bel3 hct C1 HGX
      go_wp2_with fail
      refine (reduced_any D _).mono ?_
      rintro e w' ⟨rfl, rfl⟩
      go_wp2_with fail
      refine (C3 _).mono ?_
      rintro e w' ⟨rfl, rfl⟩
      go_wp2
      go_roundw
      case rel => exact ⟨k + 1, by omega, by go_num, GX, GZ, GT, GB⟩
      case measure => simp [intOf]; omega
    · obtain rfl : k = 37 := by omega
      have GX : Hid (ArrM wr (w.heap.size + 1) exactL) := by
        have := HX.out
        rw [mixP_end EL.out UL.out] at this
        exact this
      clear HX FX FZ FT FB HT
      go_wp2_with (first
        | (refine wpList_load_row rfl 56 (.tmp 1) rfl (w.heap.size + 1) rfl 56 (arrM exactL) (0, 0) _ GX.out Tryz.underlying56 rfl (by rw [arrM_size EL.out]; exact info_arrM) ?_)
        | (refine wpList_store_row rfl 56 (.tmp 0) (.tmp 21) rfl w.heap.size (arrM exactL) rfl rfl 56 (arrM zero38) HZ.out (by rw [arrM_size EL.out]; exact info_arrM) (by rw [arrM_size EL.out]; rfl) (arrM_cells _) ?_))
      refine bodyPost_ret (v := .agg (arrM exactL)) ?_ rfl ⟨rfl, below_setRow HB.out (Nat.le_refl _) _⟩
      exact results_cell_row rfl _ _ w.heap.size 56 _ (0, 0) _ rfl (setRow_heap _ _ _ _ _ _ HZ.out) Tryz.underlying56 rfl (by rw [arrM_size EL.out]; exact info_arrM)
end Go.Proofs.YtolkbbbbahhfaaaGreat
/-
  Up to which number of nodes maps agree: the program's.
-/
namespace Go.Proofs.YtolkbbbbahhfaaaGreat
open Go.RowKit Fld
set_option linter.unusedVariables false
set_option linter.unusedSimpArgs false
set_option maxRecDepth 100000

/-- an integer, and only new memory -/
def ResN1 (x : Int) (w : World) (e : Ending) (w' : World) : Prop := e = .returned (.int .i64 x) ∧ Below w.heap.size w w'
set_option maxHeartbeats 1000000 in
theorem agreesTo_any (xs ys : List Int) (w : World) (hl : xs.length = 38) (hl' : ys.length = 38) :
    Calls Tryz.prog 38 #[.agg (arrM xs), .agg (arrM ys)] w (ResN1 (agrA xs ys) w) := by
  have HL := Lib.hid hl
  have HL' := Lib.hid hl'
  have HIF := Lib.hid info_arrM
  clear hl hl'
  have F := Lib.hid (arrM_two w xs ys)
  go_enter Tryz.func38, Tryz.ntmps38
  go_wp2_with fail
  refine (mapTrees_any _).mono ?_
  rintro e w1 ⟨A1, c1, rfl, own1, bel1⟩
  have B1 : Hid (Below w.heap.size w w1) := F.out.2.2.trans (bel1.mono (by simp; omega))
  have FX : Hid (ArrM w1 w.heap.size xs) := F.out.1.below bel1 (by simp; omega)
  have FY : Hid (ArrM w1 (w.heap.size + 1) ys) := F.out.2.1.below bel1 (by simp)
  have FT : Hid (Row w1 w1.heap.size A1 (strs mapTx)) := row_of_own own1
  clear own1 bel1 F
  go_wp2_with fail
  go_loopw [9] (fun i wr => ∃ k d : Nat, k ≤ 38 ∧ i = .int .i64 k ∧ wr = w1.drewN d ∧ Hid (agrA xs ys = agrL (xs.drop k) (ys.drop k) (lens.drop k))) (fun i _ => 38 - (intOf i).toNat)
  case atStart => exact ⟨0, 0, by omega, rfl, rfl, agr_start xs ys⟩
  case round =>
    obtain ⟨k, d, hk, rfl, rfl, HI⟩ := hrel
    by_cases hlt : k < 38
    · obtain ⟨x, hx⟩ := at_lt (show k < xs.length by rw [HL.out]; exact hlt)
      obtain ⟨y, hy⟩ := at_lt (show k < ys.length by rw [HL'.out]; exact hlt)
      obtain ⟨l, hll, l6⟩ := lens_at hlt
      obtain ⟨t, ht, htl⟩ := mapTx_at hll
      obtain ⟨b, o, rfl, hb, hc⟩ := FT.out k _ (strs_at ht)
      have hcx : w1.cell? ⟨w.heap.size, k, none⟩ = some (.int .i64 x) := FX.out.cell hx
      have hcy : w1.cell? ⟨w.heap.size + 1, k, none⟩ = some (.int .i64 y) := FY.out.cell hy
      have hct : w1.cell? ⟨b, o + k, none⟩ = some (.string ⟨t.toArray⟩) := hc
      have k0 : (0 : Int) ≤ (k : Int) := Int.natCast_nonneg _
      have k1 : (k : Int) < 38 := by omega
      by_cases hxy : x = y
      · have G := Lib.hid (HI.out.trans (agr_next hx hy hll hxy))
        have tt : (x != y) = false := bne_f hxy
        obtain ⟨X, hX⟩ : ∃ X : ByteArray, X = ⟨t.toArray⟩ := ⟨_, rfl⟩
        rw [← hX] at hct
        clear hx hy hll ht htl hc HI hxy hX
        go_wp2_with fail
        go_quiet (fail)
        go_wp2
        go_roundw
        case rel => exact ⟨k + 1, _, by omega, by go_num, rfl, G⟩
        case measure => simp [intOf]; omega
      · have G := Lib.hid (HI.out.trans (agr_stop hx hy hll hxy))
        have tt : (x != y) = true := bne_t hxy
        have htl2 : t.length / 2 = l := by omega
        have C1 := fun w' => nodes_any t w' (by omega)
        rw [htl2] at C1
        obtain ⟨X, hX⟩ : ∃ X : ByteArray, X = ⟨t.toArray⟩ := ⟨_, rfl⟩
        rw [← hX] at hct C1
        clear hx hy hll ht htl htl2 hc HI hxy hX
        go_wp2_with fail
        go_quiet (fail)
        go_wp2_with fail
        refine (C1 _).mono ?_
        rintro e w' ⟨rfl, rfl⟩
        go_wp2
        go_ret
        exact ⟨ret_i64 G.out.symm, below_drewN B1.out _⟩
    · obtain rfl : k = 38 := by omega
      have G := Lib.hid (HI.out.trans agr_end)
      clear HI
      go_wp2
      go_ret
      exact ⟨ret_i64 G.out.symm, below_drewN B1.out _⟩
end Go.Proofs.YtolkbbbbahhfaaaGreat
/-
  The order of a tableau, the program's and the model's.
-/
namespace Go.Proofs.YtolkbbbbahhfaaaGreat
open Go.RowKit Fld
set_option linter.unusedVariables false
set_option linter.unusedSimpArgs false
set_option maxRecDepth 100000

theorem fnz_neg : ∀ (L : List Int) (i : Int), 0 ≤ i → (fnz L i < 0 ↔ ∀ x ∈ L, x = 0)
  | [], i, h => by simp [fnz]
  | x :: L, i, h => by
    unfold fnz
    split
    · rename_i h0
      rw [fnz_neg L (i + 1) (by omega)]
      simp [h0]
    · rename_i h0
      constructor
      · intro h1; omega
      · intro h1; exact absurd (h1 x (by simp)) h0
theorem agr_map (f g : List Int → Int) (q : Nat) (hq : q ≤ 6) : ∀ T : List (List Int), (T.map List.length).Pairwise (· ≤ ·) → ((q : Int) ≤ agrL (T.map f) (T.map g) (T.map List.length) ↔ ∀ t ∈ T, t.length ≤ q → f t = g t)
  | [], _ => by simp [agrL]; omega
  | t :: T, hp => by
    rw [List.map_cons, List.pairwise_cons] at hp
    have ih := agr_map f g q hq T hp.2
    rw [List.map_cons, List.map_cons, List.map_cons, agrL]
    split
    · rename_i h0
      rw [ih]
      constructor
      · intro h t' ht'
        rw [List.mem_cons] at ht'
        rcases ht' with rfl | ht'
        · exact fun _ => h0
        · exact h t' ht'
      · intro h t' ht'; exact h t' (by simp [ht'])
    · rename_i h0
      constructor
      · intro h t' ht' hl
        rw [List.mem_cons] at ht'
        rcases ht' with rfl | ht'
        · omega
        · have := hp.1 t'.length (List.mem_map.2 ⟨t', ht', rfl⟩); omega
      · intro h
        have := fun hl => h0 (h t (by simp) hl)
        have h1 : ¬ t.length ≤ q := this
        omega
theorem agr_hi6 (f g : List Int → Int) : ∀ T : List (List Int), (∀ t ∈ T, t.length ≤ 7) → agrL (T.map f) (T.map g) (T.map List.length) ≤ 6
  | [], _ => by simp [agrL]
  | t :: T, h => by
    rw [List.map_cons, List.map_cons, List.map_cons, agrL]
    split
    · exact agr_hi6 f g T (fun t' ht' => h t' (by simp [ht']))
    · have := h t (by simp); omega
theorem lens_sorted : ((treesTo 6).map List.length).Pairwise (· ≤ ·) := by
  have h : lens.Pairwise (· ≤ ·) := by decide
  rw [lens_to, List.pairwise_cons] at h
  exact h.2
theorem ord_eq (m : List (List Int)) (b : List Int) (n : Nat) : agrA (charL m b n) exactL = agrL ((treesTo 6).map fun t => wtT m b n (Tr.txt t)) ((treesTo 6).map exactV) ((treesTo 6).map List.length) := by
  unfold agrA charL exactL
  rw [lens_to, agrL, if_pos rfl]
theorem len_to {k : Nat} (hk : k ≤ 8) {t : List Int} (h : t ∈ treesTo k) : 1 ≤ t.length ∧ t.length ≤ k := by
  unfold treesTo at h
  rw [List.mem_flatMap] at h
  obtain ⟨n, hn, ht⟩ := h
  rw [List.mem_range] at hn
  have := ((trees_all (n := n + 1) (by omega) (by omega)).1 t ht).2
  omega
theorem mem_to {q : Nat} (hq : q ≤ 6) {t : List Int} : t ∈ treesTo q ↔ t ∈ treesTo 6 ∧ t.length ≤ q := by
  constructor
  · intro h
    refine ⟨?_, (len_to (by omega) h).2⟩
    obtain ⟨X, hX⟩ := treesTo_pre (6 - q) q
    rw [show q + (6 - q) = 6 by omega] at hX
    rw [hX]; simp [h]
  · rintro ⟨h, hl⟩
    unfold treesTo at h ⊢
    rw [List.mem_flatMap] at h ⊢
    obtain ⟨n, hn, ht⟩ := h
    rw [List.mem_range] at hn
    have := ((trees_all (n := n + 1) (by omega) (by omega)).1 t ht).2
    exact ⟨n, List.mem_range.2 (by omega), ht⟩
theorem res_zero (m : List (List Int)) (b : List Int) (n : Nat) (t : List Int) : resT m b n t = 0 ↔ wtT m b n (Tr.txt t) = exactV t := by
  unfold resT exactV
  have h := wtT_bd m b n (Tr.txt t)
  have y0 := inv_lo (Tr.denM t % 10007)
  have y1 := inv_hi (Tr.denM t % 10007)
  omega
theorem fault_iff (m : List (List Int)) (b : List Int) (n q : Nat) (h6 : q ≤ 6) : faultP m b n q < 0 ↔ (q : Int) ≤ agrA (charL m b n) exactL := by
  unfold faultP resAll
  rw [fnz_neg _ 0 (by omega), ord_eq, agr_map _ _ q h6 _ lens_sorted]
  constructor
  · intro h t ht hl
    exact (res_zero m b n t).1 (h _ (List.mem_map.2 ⟨t, (mem_to h6).2 ⟨ht, hl⟩, rfl⟩))
  · intro h x hx
    obtain ⟨t, ht, rfl⟩ := List.mem_map.1 hx
    obtain ⟨h1, h2⟩ := (mem_to h6).1 ht
    exact (res_zero m b n t).2 (h t h1 h2)
theorem ord_lo (m : List (List Int)) (b : List Int) (n : Nat) : ((0 : Nat) : Int) ≤ agrA (charL m b n) exactL := by
  rw [ord_eq, agr_map _ _ 0 (by omega) _ lens_sorted]
  intro t ht hl
  have := len_to (by omega) ht
  omega
theorem ord_hi (m : List (List Int)) (b : List Int) (n : Nat) : agrA (charL m b n) exactL ≤ 6 := by
  rw [ord_eq]
  exact agr_hi6 _ _ _ (fun t ht => by have := len_to (by omega) ht; omega)
/-- what OrderOf answers -/
def orderTA (m : List (List Int)) (b : List Int) : Int × Int := if isTabB m b = true then (agrA (charL m b b.length) exactL, 0) else (0, 1)
set_option maxHeartbeats 2000000 in
theorem pOrderOf_L (A D : Option Addr) (n c n' d B B' : Nat) (m : List (List Int)) (b : List Int) (w : World) (hl : m.length = n) (hl' : b.length = n') (hn : n ≤ 9223372036854775807) (hn' : n' ≤ 9223372036854775807) (hB : B ≤ w.heap.size) (hB' : B' ≤ w.heap.size) (h : Mat w B A m) (r : Row w B' D (ints b)) :
    Calls Tryz.prog 11 #[.agg #[.slice A n c, .slice D n' d]] w (ResI (orderTA m b) w) := by
  have HL := Lib.hid hl
  have HL' := Lib.hid hl'
  obtain ⟨W0, hW0⟩ : ∃ W0, W0 = w.alloc (.cells #[.slice A n c, .slice D n' d] 29) := ⟨_, rfl⟩
  have HB : Hid (Below w.heap.size w W0) := by rw [hW0]; exact (Below.refl _ _).alloc (Nat.le_refl _) _
  have HM : Hid (Mat W0 B A m) := h.below HB.out hB
  have HR : Hid (Row W0 B' D (ints b)) := r.below HB.out hB'
  have HX : Hid (Bx W0 w.heap.size 29 (.slice A n c) (.slice D n' d)) := by rw [hW0]; exact Bx.new _ _ _ _
  have hz := HB.out.size
  clear hl hl' h r
  cases ht : isTabB m b
  · have G : Hid (orderTA m b = (0, 1)) := by unfold orderTA; rw [Hid, ht]; rfl
    go_enter Tryz.func11, Tryz.ntmps11
    go_wp2_with fail
    rw [← hW0]
    refine (isTableau_any A D n c n' d B B' m b W0 HL.out HL'.out hn hn' (by omega) (by omega) HM.out HR.out).mono ?_
    rintro e w2 ⟨rfl, b2⟩
    rw [ht]
    have HB2 := Lib.hid (HB.out.trans (b2.mono HB.out.size))
    clear b2 hW0 ht
    go_wp2
    go_ret2
    exact ResI.of' G.out HB2.out
  · obtain ⟨t1, t2, t3, t4, t5, t6⟩ := isTabB_parts ht
    rw [HL'.out] at t1 t2 t3 t5
    have hnn : n' = n := by rw [← t3]; exact HL.out
    subst hnn
    have G : Hid (orderTA m b = (agrA (charL m b n') exactL, 0)) := by unfold orderTA; rw [Hid, ht, HL'.out]; rfl
    have HW := Lib.hid t5
    have HNB := Lib.hid t4
    have HN := Lib.hid t6
    clear t3 t4 t5 t6
    go_enter Tryz.func11, Tryz.ntmps11
    go_wp2_with fail
    rw [← hW0]
    refine (isTableau_any A D n' c n' d B B' m b W0 HL.out HL'.out hn hn' (by omega) (by omega) HM.out HR.out).mono ?_
    rintro e w2 ⟨rfl, b2⟩
    rw [ht]
    have HB2 := Lib.hid (HB.out.trans (b2.mono HB.out.size))
    have HM2 := Lib.hid (HM.out.below b2 (by omega))
    have HR2 := Lib.hid (HR.out.below b2 (by omega))
    have HX2 := HX.out.next b2
    have q0 := HX2.c0
    have q1 := HX2.c1
    have hz2 := b2.size
    clear b2 hW0 ht HX2
    go_wp2_with fail
    refine (schemeOf_any A D n' c n' d B B' n' m b w2 HL.out HL'.out t2 HW.out (by omega) (by omega) (by omega) (by omega) HM2.out HR2.out).mono ?_
    rintro e w3 ⟨A3, c3, D3, d3, rfl, hc3, hd3, m3, r3, b3⟩
    have HB3 := Lib.hid (HB2.out.trans (b3.mono HB2.out.size))
    have HM3 := Lib.hid m3
    have HR3 := Lib.hid r3
    clear b3 q0 q1 m3 r3
    go_wp2_with fail
    refine (character_any A3 D3 n' c3 d3 w3.heap.size w3.heap.size m b w3 HL.out HL'.out t1 t2 HW.out HN.out HNB.out (Nat.le_refl _) (Nat.le_refl _) HM3.out HR3.out).mono ?_
    rintro e w4 ⟨rfl, b4⟩
    have HB4 := Lib.hid (HB3.out.trans (b4.mono HB3.out.size))
    have HLA := Lib.hid (charL_length m b n')
    obtain ⟨CL, hCL⟩ : ∃ C, C = charL m b n' := ⟨_, rfl⟩
    rw [← hCL] at HLA G ⊢
    clear b4 hCL
    go_wp2_with fail
    refine (exactMap_any w4).mono ?_
    rintro e w5 ⟨rfl, b5⟩
    have HB5 := Lib.hid (HB4.out.trans (b5.mono HB4.out.size))
    have HEL := Lib.hid exactL_length
    obtain ⟨EL, hEL⟩ : ∃ C, C = exactL := ⟨_, rfl⟩
    rw [← hEL] at HEL G ⊢
    clear b5 hEL
    go_wp2_with fail
    refine (agreesTo_any CL EL w5 HLA.out HEL.out).mono ?_
    rintro e w6 ⟨rfl, b6⟩
    have HB6 := Lib.hid (HB5.out.trans (b6.mono HB5.out.size))
    clear b6
    go_wp2
    go_ret2
    exact ResI.of' G.out HB6.out
set_option maxHeartbeats 2000000 in
theorem sOrderOf_L (A D : Option Addr) (n c n' d B B' : Nat) (m : List (List Int)) (b : List Int) (w : World) (hl : m.length = n) (hl' : b.length = n') (hn : n ≤ 9223372036854775807) (hn' : n' ≤ 9223372036854775807) (hB : B ≤ w.heap.size) (hB' : B' ≤ w.heap.size) (h : Mat w B A m) (r : Row w B' D (ints b)) :
    Calls Tryz.prog 9 #[.agg #[.slice A n c, .slice D n' d]] w (ResI (orderTA m b) w) := by
  have HL := Lib.hid hl
  have HL' := Lib.hid hl'
  obtain ⟨W0, hW0⟩ : ∃ W0, W0 = w.alloc (.cells #[.slice A n c, .slice D n' d] 29) := ⟨_, rfl⟩
  have HB : Hid (Below w.heap.size w W0) := by rw [hW0]; exact (Below.refl _ _).alloc (Nat.le_refl _) _
  have HM : Hid (Mat W0 B A m) := h.below HB.out hB
  have HR : Hid (Row W0 B' D (ints b)) := r.below HB.out hB'
  have HX : Hid (Bx W0 w.heap.size 29 (.slice A n c) (.slice D n' d)) := by rw [hW0]; exact Bx.new _ _ _ _
  have hz := HB.out.size
  clear hl hl' h r
  cases ht : isTabB m b
  · have G : Hid (orderTA m b = (0, 1)) := by unfold orderTA; rw [Hid, ht]; rfl
    go_enter Tryz.func9, Tryz.ntmps9
    go_wp2_with fail
    rw [← hW0]
    refine (l09Is_any A D n c n' d B B' m b W0 HL.out HL'.out hn hn' (by omega) (by omega) HM.out HR.out).mono ?_
    rintro e w2 ⟨rfl, b2⟩
    rw [ht]
    have HB2 := Lib.hid (HB.out.trans (b2.mono HB.out.size))
    clear b2 hW0 ht
    go_wp2
    go_ret2
    exact ResI.of' G.out HB2.out
  · obtain ⟨t1, t2, t3, t4, t5, t6⟩ := isTabB_parts ht
    rw [HL'.out] at t1 t2 t3 t5
    have hnn : n' = n := by rw [← t3]; exact HL.out
    subst hnn
    have G : Hid (orderTA m b = (agrA (charL m b n') exactL, 0)) := by unfold orderTA; rw [Hid, ht, HL'.out]; rfl
    have HW := Lib.hid t5
    have HNB := Lib.hid t4
    have HN := Lib.hid t6
    clear t3 t4 t5 t6
    go_enter Tryz.func9, Tryz.ntmps9
    go_wp2_with fail
    rw [← hW0]
    refine (l09Is_any A D n' c n' d B B' m b W0 HL.out HL'.out hn hn' (by omega) (by omega) HM.out HR.out).mono ?_
    rintro e w2 ⟨rfl, b2⟩
    rw [ht]
    have HB2 := Lib.hid (HB.out.trans (b2.mono HB.out.size))
    have HM2 := Lib.hid (HM.out.below b2 (by omega))
    have HR2 := Lib.hid (HR.out.below b2 (by omega))
    have HX2 := HX.out.next b2
    have q0 := HX2.c0
    have q1 := HX2.c1
    have hz2 := b2.size
    have HST : Hid (∀ q : Nat, 1 ≤ q → q ≤ 6 → (faultP m b n' q < 0 ↔ (q : Int) ≤ agrA (charL m b n') exactL)) := fun q h1 h6 => fault_iff m b n' q h6
    have hlo := ord_lo m b n'
    have hhi := ord_hi m b n'
    obtain ⟨OA, hOA⟩ : ∃ C, C = agrA (charL m b n') exactL := ⟨_, rfl⟩
    rw [← hOA] at G HST hlo hhi
    clear b2 hW0 ht q0 q1 hOA
    have HX2' := Lib.hid HX2
    clear HX2
    go_wp2_with fail
    go_loopw [4] (fun i wr => ∃ p : Nat, p ≤ 6 ∧ i = .int .i64 p ∧ (p : Int) ≤ OA ∧ Hid (Below w2.heap.size w2 wr)) (fun i _ => 6 - (intOf i).toNat)
    case atStart => exact ⟨0, Nat.zero_le _, rfl, hlo, Below.refl _ _⟩
    case round =>
      obtain ⟨p, hp, rfl, hpo, HBB⟩ := hrel
      by_cases hlt : p < 6
      · have hsz := HBB.out.size
        have hbx := HX2'.out.next HBB.out
        have q0 := hbx.c0
        have q1 := hbx.c1
        have C1 := l09Fault_any A D n' c d B B' (p + 1) m b wr HL.out HL'.out t1 t2 HW.out HN.out HNB.out (by omega) (by omega) (by omega) (by omega) (HM2.out.below HBB.out (by omega)) (HR2.out.below HBB.out (by omega))
        have hiff := HST.out (p + 1) (by omega) (by omega)
        obtain ⟨FP, hFP⟩ : ∃ F, F = faultP m b n' (p + 1) := ⟨_, rfl⟩
        rw [← hFP] at C1 hiff
        rw [Int.natCast_add, Int.natCast_one] at C1 hiff
        have tp : (p : Int) < 6 := by omega
        clear hFP hbx
        go_wp2_with fail
        refine C1.mono ?_
        rintro e w3 ⟨rfl, b3⟩
        have HB3 := Lib.hid (HBB.out.trans (b3.mono hsz))
        clear C1 b3 q0 q1 HBB
        by_cases hneg : FP < 0
        · have hp1 := hiff.1 hneg
          clear hiff
          go_wp2
          go_roundw
          case rel => exact ⟨p + 1, by omega, by go_num, by push_cast; omega, HB3⟩
          case measure => simp [intOf]; omega
        · have hp1 : ¬ ((p : Int) + 1 ≤ OA) := fun h => hneg (hiff.2 h)
          have HEQ : Hid (OA = (p : Int)) := by rw [Hid]; omega
          have hnn : ¬ FP < 0 := hneg
          have GR : Hid (orderTA m b = ((p : Int), 0)) := by rw [Hid, G.out, HEQ.out]
          have HBF := Lib.hid (HB2.out.trans (HB3.out.mono HB2.out.size))
          clear hiff HB3
          go_wp2
          go_ret2
          exact ResI.of' GR.out HBF.out
      · obtain rfl : p = 6 := by omega
        have HEQ : Hid (OA = 6) := by rw [Hid]; omega
        have GR : Hid (orderTA m b = (6, 0)) := by rw [Hid, G.out, HEQ.out]
        have HBF := Lib.hid (HB2.out.trans (HBB.out.mono HB2.out.size))
        clear HBB
        go_wp2
        go_ret2
        exact ResI.of' GR.out HBF.out
end Go.Proofs.YtolkbbbbahhfaaaGreat
