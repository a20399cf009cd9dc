/-
  Up to which number of nodes maps agree: AgreeTo, the program's and the model's.
-/
import Derived.Test.YtignimaimflenaaMpA
import Derived.Test.YtignimaimflenaaMpN
import Derived.Test.YtignimaimflenaaLvl
import Derived.Test.YtignimaimflenaaResO
namespace Go.Proofs.Ytignimaimflenaa
open Go.RowKit Fld
set_option linter.unusedVariables false
set_option linter.unusedSimpArgs false
set_option maxRecDepth 100000

/-- lists that stand side by side in memory -/
def ListsM (w : World) (B : Nat) (A : Option Addr) (m : List (List Int)) : Prop :=
  ∀ k r, m[k]? = some r → ∃ b o Ak ck, A = some ⟨b, o, none⟩ ∧ w.cell? ⟨b, o + k, none⟩ = some (.slice Ak r.length ck) ∧ Row w B Ak (ints r)
def mapsM (m : List (List Int)) : Bool := m.all isMp
theorem mapsM_no {m : List (List Int)} {k : Nat} {r : List Int} (h : m[k]? = some r) (hr : isMp r = false) : mapsM m = false := by
  unfold mapsM
  rw [List.all_eq_false]
  exact ⟨r, List.mem_of_getElem? h, by rw [hr]; simp⟩
theorem mapsM_two (xs ys : List Int) : mapsM [xs, ys] = (isMp xs && isMp ys) := by simp [mapsM]
set_option maxHeartbeats 400000 in
theorem areMaps_any (A : Option Addr) (n c B : Nat) (m : List (List Int)) (w : World) (hl : m.length = n) (hn : n ≤ 1048576) (hq : ∀ r ∈ m, r.length ≤ 1048576) (h : ListsM w B A m) :
    Calls Try.prog 52 #[.slice A n c] w fun e w' => e = .returned (.bool (mapsM m)) ∧ w = w' := by
  have HL := Lib.hid hl
  have HQ := Lib.hid hq
  clear hl hq
  go_enter Try.func52, Try.ntmps52
  go_wp2_with fail
  go_loop [7] (fun i => ∃ k : Nat, k ≤ n ∧ i = .int .i64 k ∧ Hid ((m.take k).all isMp = true)) (fun i => n - (intOf i).toNat)
  case atStart => exact ⟨0, Nat.zero_le _, rfl, rfl⟩
  case round =>
    obtain ⟨k, hk, rfl, HT⟩ := hrel
    by_cases hlt : k < n
    · obtain ⟨r, hr⟩ := at_lt (show k < m.length by rw [HL.out]; exact hlt)
      obtain ⟨b, o, Ak, ck, rfl, hc, hrow⟩ := h k r hr
      have hrl := HQ.out r (List.mem_of_getElem? hr)
      cases hs : isMp r
      · have G := Lib.hid (mapsM_no hr hs)
        have C0 := fun w' => isMap_any Ak r.length ck B r w' rfl (by omega)
        rw [hs] at C0
        clear hr HT
        go_wp2_with (go_at_call 15; refine (C0 _ hrow).mono ?_; rintro e w' ⟨rfl, rfl⟩)
        go_ret
        exact ⟨ret_bool G.out.symm, rfl⟩
      · have G : Hid ((m.take (k + 1)).all isMp = true) := by
          unfold Hid
          rw [List.take_add_one, hr, List.all_append, HT.out]
          simp [hs]
        have C0 := fun w' => isMap_any Ak r.length ck B r w' rfl (by omega)
        rw [hs] at C0
        clear hr HT
        go_wp2_with (go_at_call 15; refine (C0 _ hrow).mono ?_; rintro e w' ⟨rfl, rfl⟩)
        go_round
        case rel => exact ⟨k + 1, by omega, by go_num, G⟩
        case measure => simp [intOf]; omega
    · have G : Hid (mapsM m = true) := by
        have := HT.out
        rw [List.take_of_length_le (by rw [HL.out]; omega)] at this
        exact this
      clear HT
      go_wp2
      go_ret
      exact ⟨ret_bool G.out.symm, rfl⟩
theorem ListsM.two {w : World} {A A' : Option Addr} {n n' c c' B : Nat} {xs ys : List Int} (T : TypeId) (hl : xs.length = n) (hl' : ys.length = n') (hB : B ≤ w.heap.size) (h : Row w B A (ints xs)) (h' : Row w B A' (ints ys)) : ListsM (w.alloc (.cells #[.slice A n c, .slice A' n' c'] T)) B (some ⟨w.heap.size, 0, none⟩) [xs, ys] := by
  intro k r hr
  match k, hr with
  | 0, hr =>
    obtain rfl : xs = r := by simpa using hr
    exact ⟨_, 0, A, c, rfl, by rw [World.cell?_alloc_at (hn := by simp)]; rw [hl]; rfl, h.alloc hB _⟩
  | 1, hr =>
    obtain rfl : ys = r := by simpa using hr
    exact ⟨_, 0, A', c', rfl, by rw [World.cell?_alloc_at (hn := by simp)]; rw [hl']; rfl, h'.alloc hB _⟩
  | k+2, hr => simp at hr

/-- an integer, and only new memory -/
def ResN1 (x : Int) (w : World) (e : Ending) (w' : World) : Prop := e = .returned (.int .i64 x) ∧ Below w.heap.size w w'
set_option maxHeartbeats 1000000 in
theorem agreesTo_any (xs ys : List Int) (w : World) (hl : xs.length = 38) (hl' : ys.length = 38) :
    Calls Try.prog 54 #[.agg (arrM xs), .agg (arrM ys)] w (ResN1 (agrA xs ys) w) := by
  have HL := Lib.hid hl
  have HL' := Lib.hid hl'
  have HIF := Lib.hid info_arrM
  clear hl hl'
  have F := Lib.hid (arrM_two w xs ys)
  go_enter Try.func54, Try.ntmps54
  go_wp2_with fail
  refine (mapTrees_any _).mono ?_
  rintro e w1 ⟨A1, c1, rfl, own1, bel1⟩
  have B1 : Hid (Below w.heap.size w w1) := F.out.2.2.trans (bel1.mono (by simp; omega))
  have FX : Hid (ArrM w1 w.heap.size xs) := F.out.1.below bel1 (by simp; omega)
  have FY : Hid (ArrM w1 (w.heap.size + 1) ys) := F.out.2.1.below bel1 (by simp)
  have FT : Hid (Row w1 w1.heap.size A1 (strs mapTx)) := row_of_own own1
  clear own1 bel1 F
  go_wp2_with fail
  go_loopw [9] (fun i wr => ∃ k d : Nat, k ≤ 38 ∧ i = .int .i64 k ∧ wr = w1.drewN d ∧ Hid (agrA xs ys = agrL (xs.drop k) (ys.drop k) (lens.drop k))) (fun i _ => 38 - (intOf i).toNat)
  case atStart => exact ⟨0, 0, by omega, rfl, rfl, agr_start xs ys⟩
  case round =>
    obtain ⟨k, d, hk, rfl, rfl, HI⟩ := hrel
    by_cases hlt : k < 38
    · obtain ⟨x, hx⟩ := at_lt (show k < xs.length by rw [HL.out]; exact hlt)
      obtain ⟨y, hy⟩ := at_lt (show k < ys.length by rw [HL'.out]; exact hlt)
      obtain ⟨l, hll, l6⟩ := lens_at hlt
      obtain ⟨t, ht, htl⟩ := mapTx_at hll
      obtain ⟨b, o, rfl, hb, hc⟩ := FT.out k _ (strs_at ht)
      have hcx : w1.cell? ⟨w.heap.size, k, none⟩ = some (.int .i64 x) := FX.out.cell hx
      have hcy : w1.cell? ⟨w.heap.size + 1, k, none⟩ = some (.int .i64 y) := FY.out.cell hy
      have hct : w1.cell? ⟨b, o + k, none⟩ = some (.string ⟨t.toArray⟩) := hc
      have k0 : (0 : Int) ≤ (k : Int) := Int.natCast_nonneg _
      have k1 : (k : Int) < 38 := by omega
      by_cases hxy : x = y
      · have G := Lib.hid (HI.out.trans (agr_next hx hy hll hxy))
        have tt : (x != y) = false := bne_f hxy
        obtain ⟨X, hX⟩ : ∃ X : ByteArray, X = ⟨t.toArray⟩ := ⟨_, rfl⟩
        rw [← hX] at hct
        clear hx hy hll ht htl hc HI hxy hX
        go_wp2_with fail
        go_quiet (fail)
        go_wp2
        go_roundw
        case rel => exact ⟨k + 1, _, by omega, by go_num, rfl, G⟩
        case measure => simp [intOf]; omega
      · have G := Lib.hid (HI.out.trans (agr_stop hx hy hll hxy))
        have tt : (x != y) = true := bne_t hxy
        have htl2 : t.length / 2 = l := by omega
        have C1 := fun w' => nodes_any t w' (by omega)
        rw [htl2] at C1
        obtain ⟨X, hX⟩ : ∃ X : ByteArray, X = ⟨t.toArray⟩ := ⟨_, rfl⟩
        rw [← hX] at hct C1
        clear hx hy hll ht htl htl2 hc HI hxy hX
        go_wp2_with fail
        go_quiet (fail)
        go_wp2_with fail
        refine (C1 _).mono ?_
        rintro e w' ⟨rfl, rfl⟩
        go_wp2
        go_ret
        exact ⟨ret_i64 G.out.symm, below_drewN B1.out _⟩
    · obtain rfl : k = 38 := by omega
      have G := Lib.hid (HI.out.trans agr_end)
      clear HI
      go_wp2
      go_ret
      exact ⟨ret_i64 G.out.symm, below_drewN B1.out _⟩
set_option maxHeartbeats 1000000 in
theorem l07Agree_any (A A' : Option Addr) (c c' B B' : Nat) (xs ys : List Int) (w : World) (hl : xs.length = 38) (hl' : ys.length = 38) (hB : B ≤ w.heap.size) (hB' : B' ≤ w.heap.size) (h : Row w B A (ints xs)) (h' : Row w B' A' (ints ys)) :
    Calls Try.prog 51 #[.slice A 38 c, .slice A' 38 c'] w (ResN1 (agrA xs ys) w) := by
  have HL := Lib.hid hl
  have HL' := Lib.hid hl'
  clear hl hl'
  obtain ⟨x, hx⟩ := at_lt (show 0 < xs.length by rw [HL.out]; omega)
  obtain ⟨y, hy⟩ := at_lt (show 0 < ys.length by rw [HL'.out]; omega)
  obtain ⟨b, o, rfl, hb, hc⟩ := h 0 _ (ints_at hx)
  obtain ⟨b', o', rfl, hb', hc'⟩ := h' 0 _ (ints_at hy)
  rw [Nat.add_zero] at hc hc'
  have hl0 : lens[0]? = some 0 := rfl
  by_cases hxy : x = y
  · have G := Lib.hid ((agr_start xs ys).trans (agr_next hx hy hl0 hxy))
    have tt : (x != y) = false := bne_f hxy
    have C1 := fun w' => l03All_any 6 w' (by omega) (by omega)
    rw [to_len] at C1
    clear hx hy hl0 hxy
    go_enter Try.func51, Try.ntmps51
    go_wp2_with fail
    go_quiet (fail)
    go_wp2_with fail
    refine (C1 _).mono ?_
    rintro e w1 ⟨A1, c1, vs1, rfl, own1, bel1⟩
    have B1 : Hid (Below w.heap.size w w1) := below_undrew' bel1
    have FM : Hid (Mat w1 w1.heap.size A1 (treesTo 6)) := own1.mat
    have FX : Hid (Row w1 B (some ⟨b, o, none⟩) (ints xs)) := h.below B1.out hB
    have FY : Hid (Row w1 B' (some ⟨b', o', none⟩) (ints ys)) := h'.below B1.out hB'
    clear own1 bel1 C1 hc hc'
    go_wp2_with fail
    go_loopw [6] (fun i wr => ∃ k d : Nat, k ≤ 37 ∧ i = .int .i64 k ∧ wr = w1.drewN d ∧ Hid (agrA xs ys = agrL (xs.drop (k + 1)) (ys.drop (k + 1)) (lens.drop (k + 1)))) (fun i _ => 37 - (intOf i).toNat)
    case atStart => exact ⟨0, 0, by omega, rfl, rfl, G⟩
    case round =>
      obtain ⟨k, d, hk, rfl, rfl, HI⟩ := hrel
      by_cases hlt : k < 37
      · obtain ⟨x, hx⟩ := at_lt (show k + 1 < xs.length by rw [HL.out]; omega)
        obtain ⟨y, hy⟩ := at_lt (show k + 1 < ys.length by rw [HL'.out]; omega)
        obtain ⟨t, ht⟩ := at_lt (show k < (treesTo 6).length by rw [to_len]; exact hlt)
        have hll := to_at ht
        obtain ⟨b1, o1, Ak, ck, rfl, _, hct, _, hcm, hrow⟩ := FM.out k t ht
        obtain ⟨b2, o2, e2, _, hcx⟩ := FX.out (k + 1) _ (ints_at hx)
        obtain ⟨b3, o3, e3, _, hcy⟩ := FY.out (k + 1) _ (ints_at hy)
        injection e2 with e2
        injection e2 with e4 e5 _
        injection e3 with e3
        injection e3 with e6 e7 _
        subst e4 e5 e6 e7
        have k0 : (0 : Int) ≤ (k : Int) + 1 := by omega
        have k1 : (k : Int) + 1 < 38 := by omega
        have ew : IntKind.i64.wrap ((k : Int) + 1) = (k : Int) + 1 := IntWalk.i64_in _ (by omega)
        have en : ((k : Int) + 1).toNat = k + 1 := by omega
        have l6 := lens_bd _ (List.mem_of_getElem? hll)
        have ewt : IntKind.i64.wrap ((t.length : Int) - 1) = (t.length : Int) - 1 := IntWalk.i64_in _ (by omega)
        by_cases hxy : x = y
        · have G := Lib.hid (HI.out.trans (agr_next hx hy hll hxy))
          have tt : (x != y) = false := bne_f hxy
          clear hx hy hll ht HI hxy
          go_wp2_with fail
          go_quiet (fail)
          go_wp2
          go_roundw
          case rel => exact ⟨k + 1, _, by omega, by go_num, rfl, G⟩
          case measure => simp [intOf]; omega
        · have G := Lib.hid (HI.out.trans (agr_stop hx hy hll hxy))
          have tt : (x != y) = true := bne_t hxy
          clear hx hy hll ht HI hxy
          go_wp2_with fail
          go_quiet (fail)
          go_wp2
          go_ret
          exact ⟨ret_i64 G.out.symm, below_drewN B1.out _⟩
      · obtain rfl : k = 37 := by omega
        have G := Lib.hid (HI.out.trans agr_end)
        clear HI
        go_wp2
        go_ret
        exact ⟨ret_i64 G.out.symm, below_drewN B1.out _⟩
  · have G := Lib.hid ((agr_start xs ys).trans (agr_stop hx hy hl0 hxy))
    have tt : (x != y) = true := bne_t hxy
    clear hx hy hl0 hxy
    go_enter Try.func51, Try.ntmps51
    go_wp2_with fail
    go_quiet (fail)
    go_wp2
    go_ret
    exact ⟨ret_i64 G.out.symm, below_drewN (Below.refl _ _) _⟩
set_option maxHeartbeats 1000000 in
theorem sAgreeTo_L (A A' : Option Addr) (n n' c c' B B' : Nat) (a b : List Int) (w : World) (hl : a.length = n) (hl' : b.length = n') (hn : n ≤ 1048576) (hn' : n' ≤ 1048576) (hB : B ≤ w.heap.size) (hB' : B' ≤ w.heap.size) (h : Row w B A (ints a)) (h' : Row w B' A' (ints b)) :
    Calls Try.prog 25 #[.slice A n c, .slice A' n' c'] w (ResI (agreeA a b) w) := by
  have C0 := l07Is_any A n c B a w hl (by omega) h
  have C1 := l07Is_any A' n' c' B' b w hl' (by omega) h'
  cases ha : isMp a
  · have G := Lib.hid (agreeA_no1 (b := b) ha)
    rw [ha] at C0
    clear hl hl' C1
    go_enter Try.func25, Try.ntmps25
    go_wp2_with fail
    refine C0.mono ?_
    rintro e w' ⟨rfl, rfl⟩
    go_wp2
    go_ret2
    exact ResI.of' G.out (Below.refl _ _)
  · rw [ha] at C0
    cases hb : isMp b
    · have G := Lib.hid (agreeA_no2 (a := a) hb)
      rw [hb] at C1
      clear hl hl'
      go_enter Try.func25, Try.ntmps25
      go_wp2_with fail
      refine C0.mono ?_
      rintro e w' ⟨rfl, rfl⟩
      go_wp2_with fail
      refine C1.mono ?_
      rintro e w' ⟨rfl, rfl⟩
      go_wp2
      go_ret2
      exact ResI.of' G.out (Below.refl _ _)
    · have G := Lib.hid (agreeA_yes ha hb)
      rw [hb] at C1
      have HP := Lib.hid (isMp_parts ha hl)
      have HP' := Lib.hid (isMp_parts hb hl')
      have HL := Lib.hid hl
      have HL' := Lib.hid hl'
      obtain ⟨e1, _⟩ := isMp_parts ha hl
      obtain ⟨e2, _⟩ := isMp_parts hb hl'
      clear hl hl' ha hb
      subst e1 e2
      go_enter Try.func25, Try.ntmps25
      go_wp2_with fail
      refine C0.mono ?_
      rintro e w' ⟨rfl, rfl⟩
      go_wp2_with fail
      refine C1.mono ?_
      rintro e w' ⟨rfl, rfl⟩
      go_wp2_with fail
      refine (l07Agree_any A A' c c' B B' a b _ HL.out HL'.out hB hB' h h').mono ?_
      rintro e w1 ⟨rfl, b1⟩
      have GB := Lib.hid b1
      clear b1
      go_wp2
      go_ret2
      exact ResI.of' G.out GB.out
set_option maxHeartbeats 1000000 in
theorem pAgreeTo_L (A A' : Option Addr) (n n' c c' B B' : Nat) (a b : List Int) (w : World) (hl : a.length = n) (hl' : b.length = n') (hn : n ≤ 1048576) (hn' : n' ≤ 1048576) (hB : B ≤ w.heap.size) (hB' : B' ≤ w.heap.size) (h : Row w B A (ints a)) (h' : Row w B' A' (ints b)) :
    Calls Try.prog 26 #[.slice A n c, .slice A' n' c'] w (ResI (agreeA a b) w) := by
  have HM : Hid (ListsM (w.alloc (.cells #[.slice A n c, .slice A' n' c'] 22)) w.heap.size (some ⟨w.heap.size, 0, none⟩) [a, b]) := ListsM.two _ hl hl' (Nat.le_refl _) (h.more hB) (h'.more hB')
  have HQ : Hid (∀ r ∈ [a, b], r.length ≤ 1048576) := by intro r hr; simp at hr; rcases hr with rfl | rfl <;> omega
  have HT := mapsM_two a b
  cases hs : (isMp a && isMp b)
  · have G : Hid (agreeA a b = (0, 1)) := by
      cases ha : isMp a
      · exact agreeA_no1 ha
      · rw [ha, Bool.true_and] at hs
        exact agreeA_no2 hs
    rw [hs] at HT
    have HT' := Lib.hid HT
    clear HT hl hl' hs
    go_enter Try.func26, Try.ntmps26
    go_wp2_with (go_at_call 52; refine (areMaps_any _ 2 _ w.heap.size [a, b] _ rfl (by omega) HQ.out (by exact HM.out)).mono ?_; rintro e w' ⟨rfl, rfl⟩; rw [HT'.out])
    go_ret2
    exact ResI.of' G.out ((Below.refl _ _).alloc (Nat.le_refl _) _)
  · obtain ⟨ha, hb⟩ := (Bool.and_eq_true _ _ ▸ hs : isMp a = true ∧ isMp b = true)
    have G := Lib.hid (agreeA_yes ha hb)
    rw [hs] at HT
    have HT' := Lib.hid HT
    obtain ⟨e1, na⟩ := isMp_parts ha hl
    obtain ⟨e2, nb⟩ := isMp_parts hb hl'
    subst e1 e2
    have HL := Lib.hid hl
    have HL' := Lib.hid hl'
    have NA := Lib.hid na
    have NB := Lib.hid nb
    clear HT hl hl' ha hb hs na nb
    go_enter Try.func26, Try.ntmps26
    go_wp2_with fail
    refine (areMaps_any _ 2 _ w.heap.size [a, b] _ rfl (by omega) HQ.out (by exact HM.out)).mono ?_
    rintro e w' ⟨rfl, rfl⟩
    rw [HT'.out]
    have B1 : Below w.heap.size w (w.alloc (.cells #[.slice A 38 c, .slice A' 38 c'] 22)) := (Below.refl _ _).alloc (Nat.le_refl _) _
    go_wp2_with fail
    refine (treeMapOf_any _ _ B a _ HL.out NA.out (by simp; omega) (by exact h.below B1 hB)).mono ?_
    rintro e w1 ⟨rfl, b1⟩
    have B2 := B1.trans (b1.mono B1.size)
    clear b1
    go_wp2_with fail
    refine (treeMapOf_any _ _ B' b _ HL'.out NB.out (Nat.le_trans hB' B2.size) (by exact h'.below B2 hB')).mono ?_
    rintro e w2 ⟨rfl, b2⟩
    have B3 := B2.trans (b2.mono B2.size)
    clear b2
    go_wp2_with fail
    refine (agreesTo_any a b _ HL.out HL'.out).mono ?_
    rintro e w3 ⟨rfl, b3⟩
    have B4 := Lib.hid (B3.trans (b3.mono B3.size))
    clear b3
    go_wp2
    go_ret2
    exact ResI.of' G.out B4.out
end Go.Proofs.Ytignimaimflenaa
