/-
  Forests: the test, the program's and the model's.
-/
import Derived.Test.YtolkbbbbahhfaaaGreatCmpX
import Derived.Test.YtolkbbbbahhfaaaGreatForTr
namespace Go.Proofs.YtolkbbbbahhfaaaGreat
open Go.RowKit Fld
set_option linter.unusedVariables false
set_option linter.unusedSimpArgs false
set_option maxRecDepth 100000

/-- tree k stands where it may -/
def okAt (f : List (List Int)) (k : Nat) : Bool := isTr (f.getD k []) && (decide (k = 0) || !Tr.beforeL (f.getD k []) (f.getD (k - 1) []))
def okTo (f : List (List Int)) (k : Nat) : Bool := (List.range k).all (okAt f)
theorem okTo_step (f : List (List Int)) (k : Nat) : okTo f (k + 1) = (okTo f k && okAt f k) := by
  unfold okTo; rw [List.range_succ, List.all_append]; simp
theorem okTo_no {f : List (List Int)} {k : Nat} (h : okAt f k = false) (hk : k < f.length) : okTo f f.length = false := by
  unfold okTo
  rw [List.all_eq_false]
  exact ⟨k, by rw [List.mem_range]; exact hk, by rw [h]; simp⟩
theorem okTo_at {f : List (List Int)} {k j : Nat} (h : okTo f k = true) (hj : j < k) : okAt f j = true := by
  unfold okTo at h
  exact List.all_eq_true.1 h j (by rw [List.mem_range]; exact hj)
theorem okAt_tr {f : List (List Int)} {k : Nat} {r : List Int} (h : okAt f k = true) (hr : f[k]? = some r) : isTr r = true := by
  unfold okAt at h
  rw [Bool.and_eq_true, List.getD_eq_getElem?_getD, hr] at h
  exact h.1
theorem okAt_false {f : List (List Int)} {k : Nat} {r : List Int} (hr : f[k]? = some r) (h : isTr r = false) : okAt f k = false := by
  unfold okAt
  rw [List.getD_eq_getElem?_getD, hr]
  simp [h]
theorem okAt_zero {f : List (List Int)} {r : List Int} (hr : f[0]? = some r) (h : isTr r = true) : okAt f 0 = true := by
  unfold okAt
  rw [List.getD_eq_getElem?_getD, hr]
  simp [h]
theorem okAt_succ {f : List (List Int)} {k : Nat} {p r : List Int} (hr : f[k + 1]? = some r) (hp : f[k]? = some p) (h : isTr r = true) : okAt f (k + 1) = !Tr.beforeL r p := by
  unfold okAt
  rw [List.getD_eq_getElem?_getD, List.getD_eq_getElem?_getD, hr, Nat.add_sub_cancel, hp]
  simp [h]
def isFor (f : List (List Int)) : Bool := okTo f f.length && decide (total f ≤ 8)
theorem isFor_big {f : List (List Int)} (h : 8 < total f) : isFor f = false := by
  unfold isFor; rw [decide_eq_false (by omega), Bool.and_false]
theorem isFor_no {f : List (List Int)} (h : okTo f f.length = false) : isFor f = false := by
  unfold isFor; rw [h]; rfl
theorem row_total {f : List (List Int)} {k : Nat} {r : List Int} (h : f[k]? = some r) : r.length ≤ total f := by
  have h1 := total_take h
  have h2 := total_le f (k + 1)
  omega
theorem nodesOf_any (A : Option Addr) (n c B : Nat) (f : List (List Int)) (w : World) (hl : f.length = n) (hn : n + total f ≤ 1048576) (h : Mat w B A f) :
    Calls Tryz.prog 90 #[.slice A n c] w fun e w' => e = .returned (.int .i64 ((total f : Nat) : Int)) ∧ w = w' := by
  have HL := Lib.hid hl
  have HT := Lib.hid hn
  have hn' : n ≤ 1048576 := by omega
  clear hl hn
  go_enter Tryz.func90, Tryz.ntmps90
  go_wp2_with fail
  go_loop [3, 8] (fun s i => ∃ k : Nat, k ≤ n ∧ s = .int .i64 ((total (f.take k) : Nat) : Int) ∧ i = .int .i64 k) (fun _ i => n - (intOf i).toNat)
  case atStart => exact ⟨0, Nat.zero_le _, rfl, rfl⟩
  case round =>
    obtain ⟨k, hk, rfl, rfl⟩ := hrel
    by_cases hlt : k < n
    · obtain ⟨r, hr⟩ := at_lt (show k < f.length by rw [HL.out]; exact hlt)
      obtain ⟨b, o, Ak, ck, rfl, _, hc, _, _, _⟩ := h k r hr
      have G := Lib.hid (total_take hr)
      have h1 := total_le f (k + 1)
      rw [G.out] at h1
      have hb1 : total (f.take k) + r.length ≤ 1048576 := by have := HT.out; omega
      obtain ⟨s, hs⟩ : ∃ s, s = total (f.take k) := ⟨_, rfl⟩
      rw [← hs] at G hb1 ⊢
      clear hr hs h1
      go_wp2
      go_round
      case rel => exact ⟨k + 1, by omega, by rw [G.out]; go_num, by go_num⟩
      case measure => simp [intOf]; omega
    · obtain rfl : k = n := by omega
      have e : f.take k = f := List.take_of_length_le (by rw [HL.out]; exact Nat.le_refl _)
      rw [e]
      go_wp2
      go_ret
      exact ⟨rfl, rfl⟩
theorem l03Nodes_any (A : Option Addr) (n c B : Nat) (f : List (List Int)) (w : World) (hl : f.length = n) (hn : n + total f ≤ 1048576) (h : Mat w B A f) :
    Calls Tryz.prog 84 #[.slice A n c] w fun e w' => e = .returned (.int .i64 ((total f : Nat) : Int)) ∧ w = w' := by
  have HL := Lib.hid hl
  have HT := Lib.hid hn
  have hn' : n ≤ 1048576 := by omega
  clear hl hn
  go_enter Tryz.func84, Tryz.ntmps84
  go_wp2_with fail
  go_loop [3, 4] (fun s i => ∃ k : Nat, k ≤ n ∧ s = .int .i64 ((total (f.take k) : Nat) : Int) ∧ i = .int .i64 k) (fun _ i => n - (intOf i).toNat)
  case atStart => exact ⟨0, Nat.zero_le _, rfl, rfl⟩
  case round =>
    obtain ⟨k, hk, rfl, rfl⟩ := hrel
    by_cases hlt : k < n
    · obtain ⟨r, hr⟩ := at_lt (show k < f.length by rw [HL.out]; exact hlt)
      obtain ⟨b, o, Ak, ck, rfl, _, hc, _, _, _⟩ := h k r hr
      have G := Lib.hid (total_take hr)
      have h1 := total_le f (k + 1)
      rw [G.out] at h1
      have hb1 : total (f.take k) + r.length ≤ 1048576 := by have := HT.out; omega
      obtain ⟨s, hs⟩ : ∃ s, s = total (f.take k) := ⟨_, rfl⟩
      rw [← hs] at G hb1 ⊢
      clear hr hs h1
      go_wp2
      go_round
      case rel => exact ⟨k + 1, by omega, by rw [G.out]; go_num, by go_num⟩
      case measure => simp [intOf]; omega
    · obtain rfl : k = n := by omega
      have e : f.take k = f := List.take_of_length_le (by rw [HL.out]; exact Nat.le_refl _)
      rw [e]
      go_wp2
      go_ret
      exact ⟨rfl, rfl⟩
set_option maxHeartbeats 1000000 in
theorem isForest_any (A : Option Addr) (n c B : Nat) (f : List (List Int)) (w : World) (hl : f.length = n) (hn : n + total f ≤ 1048576) (hB : B ≤ w.heap.size) (h : Mat w B A f) :
    Calls Tryz.prog 53 #[.slice A n c] w (ResB (isFor f) w) := by
  have C0 := nodesOf_any A n c B f w hl hn h
  have HL := Lib.hid hl
  have HT := Lib.hid hn
  have hn' : n ≤ 1048576 := by omega
  by_cases h8 : 8 < total f
  · have G := Lib.hid (isFor_big h8)
    have ht : total f ≤ 1048576 := by omega
    obtain ⟨s, hs⟩ : ∃ s, s = total f := ⟨_, rfl⟩
    rw [← hs] at C0 h8 ht
    clear hl hn hs
    go_enter Tryz.func53, Tryz.ntmps53
    go_wp2_with fail
    refine C0.mono ?_
    rintro e w' ⟨rfl, rfl⟩
    go_wp2
    go_ret
    exact ⟨ret_bool G.out.symm, Below.refl _ _⟩
  · have H8 : Hid (total f ≤ 8) := by rw [Hid]; omega
    have hs8 : total f ≤ 8 := by omega
    obtain ⟨s, hs⟩ : ∃ s, s = total f := ⟨_, rfl⟩
    rw [← hs] at C0 h8 hs8
    clear hl hn hs
    go_enter Tryz.func53, Tryz.ntmps53
    go_wp2_with fail
    refine C0.mono ?_
    rintro e w' ⟨rfl, rfl⟩
    go_wp2_with fail
    go_loopw [10] (fun i wr => ∃ k : Nat, k ≤ n ∧ i = .int .i64 k ∧ Hid (okTo f k = true) ∧ Below w.heap.size w wr) (fun i _ => n - (intOf i).toNat)
    case atStart => exact ⟨0, Nat.zero_le _, rfl, rfl, Below.refl _ _⟩
    case round =>
      obtain ⟨k, hk, rfl, HK, HBw⟩ := hrel
      have hsz := HBw.size
      by_cases hlt : k < n
      · obtain ⟨r, hr⟩ := at_lt (show k < f.length by rw [HL.out]; exact hlt)
        obtain ⟨b, o, Ak, ck, rfl, hb, hc, hrc, hcm, hrow⟩ := (h.below HBw hB) k r hr
        have hr8 : r.length ≤ 8 := by have := row_total hr; have := H8.out; omega
        have C1 := isTree_any Ak r.length ck B r wr rfl (by omega) hrc (by omega) hrow
        have HBW := Lib.hid HBw
        have HRR := Lib.hid hr
        cases htr : isTr r
        · have G := Lib.hid (isFor_no (okTo_no (okAt_false hr htr) (by rw [HL.out]; exact hlt)))
          rw [htr] at C1
          clear hr hrow HBw htr
          go_wp2_with fail
          refine C1.mono ?_
          rintro e w2 ⟨rfl, bel2⟩
          have GB : Hid (Below w.heap.size w w2) := HBW.out.trans (bel2.mono hsz)
          clear bel2 hc
          go_wp2
          go_ret
          exact ⟨ret_bool G.out.symm, GB.out⟩
        · rw [htr] at C1
          have HTR := Lib.hid htr
          rcases Nat.eq_zero_or_pos k with rfl | hk1
          · rw [Nat.add_zero] at hc
            have HS : Hid (okTo f 1 = true) := by rw [Hid, okTo_step, HK.out, okAt_zero hr htr]; rfl
            clear hr hrow HBw htr
            go_wp2_with fail
            refine C1.mono ?_
            rintro e w2 ⟨rfl, bel2⟩
            have GB : Hid (Below w.heap.size w w2) := HBW.out.trans (bel2.mono hsz)
            clear bel2 hc
            go_wp2
            go_roundw
            case rel => exact ⟨1, by omega, by go_num, HS, GB.out⟩
            case measure => simp [intOf]; omega
          · obtain ⟨j, rfl⟩ : ∃ j, k = j + 1 := ⟨k - 1, by omega⟩
            obtain ⟨p, hp⟩ := at_lt (show j < f.length by rw [HL.out]; omega)
            have hptr := okAt_tr (okTo_at HK.out (show j < j + 1 by omega)) hp
            have hcmp := cmp_tr hptr htr
            have hstep := okAt_succ hr hp htr
            have lp := (tr_lv hptr).1
            have lr := (tr_lv htr).1
            have z1 := (lv_txt lp).2.2.2
            have z2 := (lv_txt lr).2.2.2
            obtain ⟨p1, p8⟩ := lv_bd lp
            obtain ⟨r1, r8⟩ := lv_bd lr
            have C4 := fun w => compare_any (Tr.txt p) (Tr.txt r) w (by omega) (by omega)
            obtain ⟨X, hX⟩ : ∃ X : ByteArray, X = ⟨(Tr.txt p).toArray⟩ := ⟨_, rfl⟩
            obtain ⟨Y, hY⟩ : ∃ Y : ByteArray, Y = ⟨(Tr.txt r).toArray⟩ := ⟨_, rfl⟩
            obtain ⟨v, hv⟩ : ∃ v, v = Tr.cmpT (Tr.txt p) (Tr.txt r) := ⟨_, rfl⟩
            rw [← hX, ← hY, ← hv] at C4
            rw [← hv] at hcmp
            have HX : Hid (⟨(Tr.txt p).toArray⟩ = X) := hX.symm
            have HY : Hid (⟨(Tr.txt r).toArray⟩ = Y) := hY.symm
            have HC := Lib.hid hcmp
            have HST := Lib.hid hstep
            have HPP := Lib.hid hp
            have ek : (((j + 1 : Nat)) : Int) = (j : Int) + 1 := by omega
            rw [ek]
            have HRW := Lib.hid hrow
            clear hr hp hrow HBw htr hptr hcmp hstep lp lr z1 z2 hX hY hv ek
            go_wp2_with fail
            refine C1.mono ?_
            rintro e w2 ⟨rfl, bel2⟩
            have GB2 : Below w.heap.size w w2 := HBW.out.trans (bel2.mono hsz)
            have hs2 := GB2.size
            have hM2 := h.below GB2 hB
            obtain ⟨_, _, Ap, cp, e1, _, hcp, hpc, hpm, hprow⟩ := hM2 j p HPP.out
            cases e1
            have HB2 := Lib.hid GB2
            have HRW2 := Lib.hid (HRW.out.below bel2 (by omega))
            clear bel2 hc hM2 GB2 HRW
            go_wp2_with fail
            refine (treeOf_any Ap p.length cp B p w2 rfl p1 p8 hpc (by omega) hprow).mono ?_
            rintro e w3 ⟨rfl, bel3⟩
            have GB3 : Below w.heap.size w w3 := HB2.out.trans (bel3.mono hs2)
            have hs3 := GB3.size
            have hrrow := HRW2.out.below bel3 (by omega)
            have HB3 := Lib.hid GB3
            clear bel3 hcp GB3 hprow
            rw [HX.out]
            go_wp2_with fail
            refine (treeOf_any Ak r.length ck B r w3 rfl r1 r8 hrc (by omega) hrrow).mono ?_
            rintro e w4 ⟨rfl, bel4⟩
            have GB4 : Below w.heap.size w w4 := HB3.out.trans (bel4.mono hs3)
            have hs4 := GB4.size
            have HB4 := Lib.hid GB4
            clear bel4 GB4 hrrow
            rw [HY.out]
            go_wp2_with fail
            refine (C4 w4).mono ?_
            rintro e w5 ⟨rfl, bel5⟩
            have GB5 : Hid (Below w.heap.size w w5) := HB4.out.trans (bel5.mono hs4)
            clear bel5
            cases hbf : Tr.beforeL r p
            · have hd : decide (0 < v) = false := by rw [HC.out]; exact hbf
              have HS : Hid (okTo f (j + 1 + 1) = true) := by rw [Hid, okTo_step, HK.out, HST.out, hbf]; rfl
              have hv0 : ¬ 0 < v := of_decide_eq_false hd
              clear hbf hd
              go_wp2
              go_roundw
              case rel => exact ⟨j + 1 + 1, by omega, by go_num, HS, GB5.out⟩
              case measure => simp [intOf]; omega
            · have hd : decide (0 < v) = true := by rw [HC.out]; exact hbf
              have G : Hid (isFor f = false) := isFor_no (okTo_no (by rw [HST.out, hbf]; rfl) (by rw [HL.out]; exact hlt))
              have hv0 : 0 < v := of_decide_eq_true hd
              clear hbf hd
              go_wp2
              go_ret
              exact ⟨ret_bool G.out.symm, GB5.out⟩
      · obtain rfl : k = n := by omega
        have G : Hid (isFor f = true) := by
          have e := HK.out
          rw [Hid, isFor, HL.out, e, decide_eq_true H8.out]; rfl
        have HBW := Lib.hid HBw
        clear HBw HK
        go_wp2
        go_ret
        exact ⟨ret_bool G.out.symm, HBW.out⟩
end Go.Proofs.YtolkbbbbahhfaaaGreat
