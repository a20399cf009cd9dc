/-
  Stage weights: the program's walk.
-/
import Derived.Test.YtolkbbbbahhfaaaTabP
import Derived.Test.YtolkbbbbahhfaaaCan
import Derived.Test.YtolkbbbbahhfaaaResO
import Derived.Test.YtolkbbbbahhfaaaLev
import Derived.Test.YtolkbbbbahhfaaaTreeOf
namespace Go.Proofs.Ytolkbbbbahhfaaa
open Go.RowKit Fld
set_option linter.unusedVariables false
set_option linter.unusedSimpArgs false
set_option maxRecDepth 100000

theorem mix_stepW {U V : List Int} {j : Nat} {u : Int} (hu : U[j]? = some u) (hl : V.length = U.length) : (U.take j ++ V.drop j).set j u = U.take (j + 1) ++ V.drop (j + 1) := by
  have hj : j < U.length := (List.getElem?_eq_some_iff.1 hu).1
  exact mark_step (by omega) (by omega) hu
theorem mix_atW {U V : List Int} {j : Nat} {v : Int} (hv : V[j]? = some v) (hl : V.length = U.length) : (U.take j ++ V.drop j)[j]? = some v := by
  have hj : j < V.length := (List.getElem?_eq_some_iff.1 hv).1
  rw [List.getElem?_append_right (by rw [List.length_take]; omega), List.length_take, Nat.min_eq_left (by omega), Nat.sub_self, List.getElem?_drop, Nat.add_zero]; exact hv
theorem mix_lenW (U V : List Int) (j : Nat) (hl : V.length = U.length) (hj : j ≤ U.length) : (U.take j ++ V.drop j).length = U.length := by simp; omega
/-- the weights so far, in block g: nothing else of what was there has turned -/
def WState (w w2 : World) (T : TypeId) (g n c : Nat) (xs : List Int) (wr : World) : Prop :=
  wr.ownsRow w.heap.size T 1 (.slice (some ⟨g, 0, none⟩) n c) n (ints xs) ∧ Within g (g + 1) w2 wr
theorem WState.below {w w2 wr w3 : World} {T : TypeId} {g n c : Nat} {xs : List Int} (h : WState w w2 T g n c xs wr) (hb : Below wr.heap.size wr w3) : WState w w2 T g n c xs w3 := by
  refine ⟨?_, h.2.trans (Within.of_below hb)⟩
  exact (OwnR.below (OwnR.of h.1) hb (Nat.le_refl _)).1
theorem WState.put {w w2 wr : World} {T : TypeId} {g n c j : Nat} {xs : List Int} {u : Int} (h : WState w w2 T g n c xs wr) (hj : j < n) : WState w w2 T g n c (xs.set j u) (wr.setCell ⟨g, j, none⟩ (.int .i64 u)) := by
  have hs := h.1.stored j (.int .i64 u)
  refine ⟨?_, h.2.trans (Within.grown hs.2 (fun g' e => by injection e with e; subst e; exact ⟨Nat.le_refl _, Nat.lt_succ_self _⟩))⟩
  have := hs.1
  unfold ints intsK at this ⊢
  rw [List.map_set]; exact this
theorem WState.drewN {w w2 wr : World} {T : TypeId} {g n c : Nat} {xs : List Int} (h : WState w w2 T g n c xs wr) (j : Nat) : WState w w2 T g n c xs (wr.drewN j) := h.below (below_drewN (Below.refl _ _) j)
theorem own_block {w : World} {base : Nat} {T : TypeId} {A : Option Addr} {n c : Nat} {vs : List Value} (h : w.ownsRow base T 1 (.slice A n c) n vs) (hn : 1 ≤ n) : ∃ g, A = some ⟨g, 0, none⟩ ∧ base ≤ g ∧ g < w.heap.size := by
  rcases h.2 with ⟨_, h0⟩ | ⟨g, cap, cur, e, hb, hg, _⟩
  · omega
  · injection e with e1 _ e3
    exact ⟨g, e1, hb, (Array.getElem?_eq_some_iff.1 hg).1⟩
def StageW (d : Nat) : Prop := ∀ (x : List UInt8) (A D : Option Addr) (n c dd B : Nat) (m : List (List Int)) (w : World), Tr.isTx x = true → x.length ≤ d → m.length = n → 1 ≤ n → n ≤ 8 → Wide m n → (∀ r ∈ m, allNum r = true) → B ≤ w.heap.size → Mat w B A m →
  Calls Try.prog 49 #[.agg #[.slice A n c, .slice D n dd], .string ⟨x.toArray⟩] w (NewRow 66 n (ints (sw m n x)) w)
set_option maxHeartbeats 4000000 in
theorem stageW_succ (d : Nat) (IH : StageW d) : StageW (d + 1) := by
  intro x A D n c dd B m w hx hxd hl hn1 hn hq hnum hB h
  have hbr := Tr.br_parts hx
  have HX := Lib.hid hx
  have HL := Lib.hid hl
  have HQ := Lib.hid hq
  have HN := Lib.hid hnum
  obtain ⟨W0, hW0⟩ : ∃ W0, W0 = w.alloc (.cells #[.slice A n c, .slice D n dd] 55) := ⟨_, rfl⟩
  have HB : Hid (Below w.heap.size w W0) := by rw [hW0]; exact (Below.refl _ _).alloc (Nat.le_refl _) _
  have HBX : Hid (Bx W0 w.heap.size 55 (.slice A n c) (.slice D n dd)) := by rw [hW0]; exact Bx.new _ _ _ _
  have zA : w.heap.size < W0.heap.size := HBX.out.lt
  have HM := Lib.hid (h.below HB.out hB)
  have IHb : Hid (∀ b ∈ Tr.brT x, ∀ (V : World), Below W0.heap.size W0 V ∨ Mat V B A m → B ≤ V.heap.size → Mat V B A m → Calls Try.prog 49 #[.agg #[.slice A n c, .slice D n dd], .string ⟨b.toArray⟩] V (NewRow 66 n (ints (sw m n b)) V)) := fun b hb V _ h1 h2 =>
    IH b A D n c dd B m V (hbr.2.1 b hb).1 (by have := (hbr.2.1 b hb).2; omega) HL.out hn1 hn HQ.out HN.out h1 h2
  have CB := fun V => branches_any x V hx
  obtain ⟨L, hL⟩ : ∃ L, L = Tr.brT x := ⟨_, rfl⟩
  have HLL := Lib.hid hL
  have hq7 : L.length ≤ 7 := by rw [hL]; exact hbr.2.2
  have HTX : Hid (∀ b ∈ L, Tr.isTx b = true) := fun b hb => (hbr.2.1 b (by rw [← hL]; exact hb)).1
  rw [← hL] at IHb
  simp only [← hL] at CB
  obtain ⟨X, hX⟩ : ∃ X : ByteArray, X = ⟨x.toArray⟩ := ⟨_, rfl⟩
  rw [← hX] at CB ⊢
  clear hl hq hnum h hbr hx hL hX hxd IH
  go_enter Try.func49, Try.ntmps49
  go_wp2_with fail
  rw [← hW0]
  clear hW0
  refine (ones_any A D n c n dd W0 hn1 hn).mono ?_
  rintro e w1 ⟨A1, c1, rfl, own1, b1⟩
  obtain ⟨g1, rfl, hg0, hg1⟩ := own_block own1 hn1
  have hc1 := own_cap own1
  have hz1 := b1.size
  have HO1 := Lib.hid own1
  have HB1 := Lib.hid b1
  clear own1 b1
  go_wp2_with fail
  refine (CB w1).mono ?_
  rintro e w2 ⟨A2, q, c2, rfl, hq, own2, b2⟩
  have hz2 := b2.size
  have HQL := Lib.hid hq
  have hq7' : q ≤ 7 := by omega
  have HO2 := Lib.hid (OwnR.of own2)
  have S0 : Hid (WState w w2 66 g1 n c1 (swTo m n L 0) w2) := by
    refine ⟨?_, Within.refl _ _ _⟩
    exact ((((OwnR.of HO1.out).below b2 (Nat.le_refl _)).more (Nat.le_of_lt zA) (Nat.le_refl _))).1
  have HB2 := Lib.hid (HB1.out.trans (b2.mono hz1))
  have HBX2 := Lib.hid (HBX.out.next HB2.out)
  have HM2 := Lib.hid (HM.out.below HB2.out (by omega))
  have HBW := Lib.hid (HB.out.trans (HB2.out.mono (Nat.le_of_lt zA)))
  have FR : Hid (∀ xs wr, WState w w2 66 g1 n c1 xs wr → Row wr w2.heap.size A2 (strs L) ∧ Bx wr w.heap.size 55 (.slice A n c) (.slice D n dd) ∧ Mat wr B A m ∧ Below w.heap.size w wr ∧ w2.heap.size ≤ wr.heap.size) := fun xs wr hs =>
    ⟨(HO2.out.within hs.2 (Nat.le_refl _) (by omega)).row, HBX2.out.within hs.2 (by omega), HM2.out.below (hs.2.below (B := B) (by omega) (by omega)) (Nat.le_refl _), Below.then HBW.out hs.2 (by omega) (by omega), hs.2.size⟩
  clear hq own2 b2 HO1 HB1 CB HM HB HBX HB2
  go_wp2_with fail
  go_loopw [15] (fun i wr => ∃ k : Nat, k ≤ q ∧ i = .int .i64 k ∧ WState w w2 66 g1 n c1 (swTo m n L k) wr) (fun i _ => q - (intOf i).toNat)
  case atStart => exact ⟨0, Nat.zero_le _, rfl, S0.out⟩
  case round =>
    obtain ⟨k, hk, rfl, HS⟩ := hrel
    by_cases hlt : k < q
    · obtain ⟨b, hb⟩ := at_lt (show k < L.length by have := HQL.out; omega)
      obtain ⟨hrow, hbx, hmat, hbw, hzr⟩ := FR.out _ _ HS
      obtain ⟨b3, o3, rfl, _, hcb⟩ := hrow k _ (strs_at hb)
      have hbm := List.mem_of_getElem? hb
      have hbt := HTX.out b hbm
      have KK : Hid (∀ V, Below wr.heap.size wr V → V.cell? ⟨w.heap.size, 0, none⟩ = some (.slice A n c) ∧ V.cell? ⟨w.heap.size, 1, none⟩ = some (.slice D n dd)) := fun V hV => ⟨(hbx.next hV).c0, (hbx.next hV).c1⟩
      have C1 := fun V (hV : Below wr.heap.size wr V) => IHb.out b hbm V (.inr (hmat.below hV (by omega))) (by have := hV.size; omega) (hmat.below hV (by omega))
      have C2 := fun V (hV : Below wr.heap.size wr V) A3 c3 (h3 : Row V V.heap.size A3 (ints (sw m n b))) => applied_any A D A3 n c n dd c3 B V.heap.size m (sw m n b) V HL.out hn HQ.out HN.out (sw_len HL.out hbt) (sw_num hbt) (by have := hV.size; omega) (Nat.le_refl _) (hmat.below hV (by omega)) h3
      obtain ⟨Y, hY⟩ : ∃ Y : ByteArray, Y = ⟨b.toArray⟩ := ⟨_, rfl⟩
      rw [← hY] at hcb
      simp only [← hY] at C1
      have HSB := Lib.hid HS
      have HE := Lib.hid (swTo_succ (m := m) (n := n) hb)
      have hPl : Hid ((appL m (sw m n b)).length = n) := (appL_length _ _).trans HL.out
      have hPn : Hid (allNum (appL m (sw m n b)) = true) := appL_num _ _
      have hVl : Hid ((swTo m n L k).length = n) := swTo_len HL.out _ _
      have hVn : Hid (allNum (swTo m n L k) = true) := swTo_num _ _ _ _
      obtain ⟨P, hP⟩ : ∃ P, P = appL m (sw m n b) := ⟨_, rfl⟩
      obtain ⟨V0, hV0⟩ : ∃ V, V = swTo m n L k := ⟨_, rfl⟩
      rw [← hP] at HE hPl hPn
      simp only [← hP] at C2
      rw [← hV0] at HE HSB hVl hVn
      clear hb hrow hbx hmat hbm hbt hY HS hP hV0
      go_wp2_with fail
      go_region_held3 (fun V => V.cell? ⟨w.heap.size, 0, none⟩ = some (.slice A n c) ∧ V.cell? ⟨w.heap.size, 1, none⟩ = some (.slice D n dd))
        (first | exact KK.out _ (Below.refl _ _) | exact KK.out _ (Below.refl _ _).drew | exact KK.out _ (below_drewN (Below.refl _ _) _) | exact KK.out _ (below_undrawn (a := 1) be3) | exact KK.out _ ((below_undrawn (a := 1) be3).trans (be4.mono (below_undrawn (a := 1) be3).size)))
        (first
          | (go_at_call 49; refine (C1 _ (by first | exact (Below.refl _ _).drew | exact below_drewN (Below.refl _ _) _)).mono ?_; clear C1; rintro e w3 ⟨A3, c3, rfl, own3, be3⟩)
          | (go_at_call 61; refine (C2 _ (by exact below_undrawn (a := 1) be3) A3 c3 (by exact row_of_own own3)).mono ?_; clear C2; rintro e w4 ⟨A4, c4, rfl, own4, be4⟩))
      have hb34 : Below wr.heap.size wr w4 := (below_undrawn (a := 1) be3).trans (be4.mono (below_undrawn (a := 1) be3).size)
      have hz3 : wr.heap.size ≤ w3.heap.size := (below_undrawn (a := 1) be3).size
      have hz4 := be4.size
      have HS4 := Lib.hid (HSB.out.below hb34)
      have HO4 := Lib.hid (OwnR.of own4)
      have hzw := HSB.out.2.size
      clear own3 own4 be3 be4 hb34 KK hcb
      go_wp2_with fail
      go_loopw [25] (fun i wj => ∃ j : Nat, j ≤ n ∧ i = .int .i64 j ∧ WState w w2 66 g1 n c1 ((mulL V0 P).take j ++ V0.drop j) wj ∧ Within g1 (g1 + 1) w4 wj) (fun i _ => n - (intOf i).toNat)
      case atStart => exact ⟨0, Nat.zero_le _, rfl, by simpa using HS4.out, Within.refl _ _ _⟩
      case round =>
        obtain ⟨j, hj, rfl, HJ, HW4⟩ := hrel
        have hUl : Hid ((mulL V0 P).length = n) := mulL_length hVl.out hPl.out
        by_cases hjl : j < n
        · obtain ⟨p, hp⟩ := at_lt (show j < P.length by rw [hPl.out]; exact hjl)
          obtain ⟨v, hv⟩ := at_lt (show j < V0.length by rw [hVl.out]; exact hjl)
          obtain ⟨p0, p1⟩ := num_at hPn.out hp
          obtain ⟨v0, v1⟩ := num_at hVn.out hv
          obtain ⟨b5, o5, rfl, _, hcp⟩ := (HO4.out.within HW4 (Nat.le_refl _) (by omega)).row j _ (ints_at hp)
          have hcv := HJ.1.cellAt j (by omega)
          rw [ints_at (mix_atW hv (by rw [hVl.out, hUl.out]))] at hcv
          have hfv := HJ.1.frozenAt j
          have HU := mulL_at hv hp
          obtain ⟨u, hu⟩ : ∃ u, u = v * p % 10007 := ⟨_, rfl⟩
          have C5 : Hid (∀ w : World, Calls Try.prog 67 #[.int .i64 v, .int .i64 p] w fun e w' => e = .returned (.int .i64 u) ∧ w = w') := fun w => by rw [hu]; exact times_any _ _ _ v0 v1 p0 p1
          rw [← hu] at HU
          have G1 := HJ.put (u := u) hjl
          rw [mix_stepW HU (by rw [hVl.out, hUl.out])] at G1
          have HG1 := Lib.hid G1
          have HG2 : Hid (Within g1 (g1 + 1) w4 (wr.setCell ⟨g1, j, none⟩ (.int .i64 u))) := HW4.trans (Within.grown (HJ.1.stored j (.int .i64 u)).2 (fun g' e => by injection e with e; subst e; exact ⟨Nat.le_refl _, Nat.lt_succ_self _⟩))
          have j0 : (0 : Int) ≤ (j : Int) := Int.natCast_nonneg _
          have j1 : (j : Int) < (n : Int) := by omega
          clear hp hv HJ HW4 HU G1 hu
          go_wp2_with fail
          refine (C5.out _).mono ?_
          rintro e w6 ⟨rfl, rfl⟩
          go_wp2
          go_roundw
          case rel => exact ⟨j + 1, by omega, by go_num, HG1.out, HG2.out⟩
          case measure => simp [intOf]; omega
        · obtain rfl : j = n := by omega
          rw [List.take_of_length_le (by rw [hUl.out]; exact Nat.le_refl _), List.drop_of_length_le (by rw [hVl.out]; exact Nat.le_refl _), List.append_nil, ← HE.out] at HJ
          have HJH := Lib.hid HJ
          clear HJ HW4
          go_wp2
          go_roundw
          case rel => exact ⟨k + 1, by omega, by go_num, HJH.out⟩
          case measure => simp [intOf]; omega
    · obtain rfl : k = q := by omega
      have e : swTo m n L k = sw m n x := by rw [HLL.out]; exact swTo_br HX.out (by rw [← HLL.out]; exact HQL.out.symm)
      rw [e] at HS
      have G : Hid (NewRow 66 n (ints (sw m n x)) w (.returned (.slice (some ⟨g1, 0, none⟩) n c1)) wr) := ⟨_, _, rfl, HS.1, (FR.out _ _ HS).2.2.2.1⟩
      clear HS
      go_wp2
      go_ret
      exact G.out
theorem stageW_upto : ∀ d, StageW d
  | 0 => fun x A D n c dd B m w hx hxd => by have := (Tr.br_parts hx).1.1; omega
  | d + 1 => stageW_succ d (stageW_upto d)
theorem stageWeights_any (x : List UInt8) (A D : Option Addr) (n c dd B : Nat) (m : List (List Int)) (w : World) (hx : Tr.isTx x = true) (hl : m.length = n) (hn1 : 1 ≤ n) (hn : n ≤ 8) (hq : Wide m n) (hnum : ∀ r ∈ m, allNum r = true) (hB : B ≤ w.heap.size) (h : Mat w B A m) :
    Calls Try.prog 49 #[.agg #[.slice A n c, .slice D n dd], .string ⟨x.toArray⟩] w (NewRow 66 n (ints (sw m n x)) w) := stageW_upto x.length x A D n c dd B m w hx (Nat.le_refl _) hl hn1 hn hq hnum hB h
/-- the weight of a text -/
def wtT (m : List (List Int)) (b : List Int) (n : Nat) (x : List UInt8) : Int := dotK b (sw m n x) n
set_option maxHeartbeats 2000000 in
theorem weight_any (x : List UInt8) (A D : Option Addr) (n c d B B' : Nat) (m : List (List Int)) (b : List Int) (w : World) (hx : Tr.isTx x = true) (hl : m.length = n) (hl' : b.length = n) (hn1 : 1 ≤ n) (hn : n ≤ 8) (hq : Wide m n) (hnum : ∀ r ∈ m, allNum r = true) (hnb : allNum b = true) (hB : B ≤ w.heap.size) (hB' : B' ≤ w.heap.size) (h : Mat w B A m) (r : Row w B' D (ints b)) :
    Calls Try.prog 52 #[.agg #[.slice A n c, .slice D n d], .string ⟨x.toArray⟩] w fun e w' => e = .returned (.int .i64 (wtT m b n x)) ∧ Below w.heap.size w w' := by
  have HL := Lib.hid hl
  have HL' := Lib.hid hl'
  have HQ := Lib.hid hq
  have HN := Lib.hid hnum
  obtain ⟨W0, hW0⟩ : ∃ W0, W0 = w.alloc (.cells #[.slice A n c, .slice D n d] 55) := ⟨_, rfl⟩
  have HB : Hid (Below w.heap.size w W0) := by rw [hW0]; exact (Below.refl _ _).alloc (Nat.le_refl _) _
  have HX : Bx W0 w.heap.size 55 (.slice A n c) (.slice D n d) := by rw [hW0]; exact Bx.new _ _ _ _
  have hz := HB.out.size
  have HM := Lib.hid (h.below HB.out hB)
  have HR := Lib.hid (r.below HB.out hB')
  have KK : Hid (∀ V, Below W0.heap.size W0 V → V.cell? ⟨w.heap.size, 0, none⟩ = some (.slice A n c) ∧ V.cell? ⟨w.heap.size, 1, none⟩ = some (.slice D n d)) := fun V hV => ⟨(HX.next hV).c0, (HX.next hV).c1⟩
  have C1 := fun V (hV : Below W0.heap.size W0 V) => stageWeights_any x A D n c d B m V hx HL.out hn1 hn HQ.out HN.out (by have := hV.size; omega) (HM.out.below hV (by omega))
  have C2 := fun V (hV : Below W0.heap.size W0 V) A3 c3 (h3 : Row V V.heap.size A3 (ints (sw m n x))) => dotOf_any D A3 n d c3 B' V.heap.size b (sw m n x) V HL'.out (sw_len HL.out hx) (by omega) (HR.out.below hV (by omega)) h3 hnb (sw_num hx)
  have HW : Hid (wtT m b n x = dotK b (sw m n x) n) := rfl
  rw [HW.out]
  obtain ⟨X, hX⟩ : ∃ X : ByteArray, X = ⟨x.toArray⟩ := ⟨_, rfl⟩
  simp only [← hX] at C1
  rw [← hX]
  clear hl hl' hq hnum h r HX hX HW
  go_enter Try.func52, Try.ntmps52
  go_wp2_with fail
  change Code.wp _ _ _ _ (w.alloc (.cells #[.slice A n c, .slice D n d] 55))
  rw [← hW0]
  clear hW0
  go_region_held3 (fun V => V.cell? ⟨w.heap.size, 0, none⟩ = some (.slice A n c) ∧ V.cell? ⟨w.heap.size, 1, none⟩ = some (.slice D n d))
    (first | exact KK.out _ (Below.refl _ _) | exact KK.out _ (Below.refl _ _).drew | exact KK.out _ (below_drewN (Below.refl _ _) _) | exact KK.out _ (below_undrawn (a := 1) b2) | exact KK.out _ (below_drewN (below_undrawn (a := 1) b2) _))
    (first
      | (go_at_call 49; refine (C1 _ (by first | exact (Below.refl _ _).drew | exact below_drewN (Below.refl _ _) _)).mono ?_; clear C1; rintro e w2 ⟨A2, c2, rfl, own2, b2⟩)
      | (go_at_call 69; refine (C2 _ (by exact below_undrawn (a := 1) b2) A2 c2 (by exact row_of_own own2)).mono ?_; clear C2; rintro e w3 ⟨rfl, j3, rfl⟩))
  have hb2 : Below W0.heap.size W0 w2 := below_undrawn (a := 1) b2
  have G : Hid (Below w.heap.size w (w2.drewN j3)) := below_drewN (HB.out.trans (hb2.mono HB.out.size)) _
  clear own2 b2 hb2 KK
  go_wp2
  go_ret
  exact ⟨rfl, G.out⟩
/-- what StageWeights and WeightOf answer -/
def stageWA (m : List (List Int)) (b t : List Int) : List Int × Int := if isTabB m b = true ∧ Tr.isLv t = true then (sw m b.length (Tr.txt t), 0) else ([], 1)
def weightA (m : List (List Int)) (b t : List Int) : Int × Int := if isTabB m b = true ∧ Tr.isLv t = true then (wtT m b b.length (Tr.txt t), 0) else (0, 1)
set_option maxHeartbeats 4000000 in
theorem pStageWeights_L (A D : Option Addr) (n c n' d B B' : Nat) (m : List (List Int)) (b : List Int) (w : World) (hl : m.length = n) (hl' : b.length = n') (hn : n ≤ 9223372036854775807) (hn' : n' ≤ 9223372036854775807) (hB : B ≤ w.heap.size) (hB' : B' ≤ w.heap.size) (h : Mat w B A m) (r : Row w B' D (ints b)) (A2 : Option Addr) (n2 c2 B2 : Nat) (t : List Int) (hl2 : t.length = n2) (hn2 : n2 ≤ 1048576) (hB2 : B2 ≤ w.heap.size) (h2 : Row w B2 A2 (ints t)) (hc2 : n2 ≤ c2) :
    Calls Try.prog 27 #[.agg #[.slice A n c, .slice D n' d], .slice A2 n2 c2] w (ResL (stageWA m b t) w) := by
  have HL := Lib.hid hl
  have HL' := Lib.hid hl'
  have HL2 := Lib.hid hl2
  obtain ⟨W0, hW0⟩ : ∃ W0, W0 = w.alloc (.cells #[.slice A n c, .slice D n' d] 28) := ⟨_, rfl⟩
  have HB : Hid (Below w.heap.size w W0) := by rw [hW0]; exact (Below.refl _ _).alloc (Nat.le_refl _) _
  have HM : Hid (Mat W0 B A m) := h.below HB.out hB
  have HR : Hid (Row W0 B' D (ints b)) := r.below HB.out hB'
  have HT : Hid (Row W0 B2 A2 (ints t)) := h2.below HB.out hB2
  have HX : Hid (Bx W0 w.heap.size 28 (.slice A n c) (.slice D n' d)) := by rw [hW0]; exact Bx.new _ _ _ _
  have hz := HB.out.size
  clear hl hl' hl2 h r h2
  cases ht : isTabB m b
  · have G : Hid (stageWA m b t = ([], 1)) := by unfold stageWA; rw [Hid, if_neg (by rw [ht]; simp)]
    go_enter Try.func27, Try.ntmps27
    go_wp2_with fail
    rw [← hW0]
    refine (isTableau_any A D n c n' d B B' m b W0 HL.out HL'.out hn hn' (by omega) (by omega) HM.out HR.out).mono ?_
    rintro e w2 ⟨rfl, b2⟩
    rw [ht]
    have HB2 := Lib.hid (HB.out.trans (b2.mono HB.out.size))
    clear b2 hW0 ht
    go_wp2
    go_ret2
    exact ResL.nil G.out HB2.out
  · go_enter Try.func27, Try.ntmps27
    go_wp2_with fail
    rw [← hW0]
    refine (isTableau_any A D n c n' d B B' m b W0 HL.out HL'.out hn hn' (by omega) (by omega) HM.out HR.out).mono ?_
    rintro e w2 ⟨rfl, b2⟩
    rw [ht]
    have hz2 := b2.size
    have C0 := isLevels_any A2 n2 c2 B2 t w2 HL2.out (by omega) (HT.out.below b2 (by omega))
    have HB2 := Lib.hid (HB.out.trans (b2.mono HB.out.size))
    cases hlv : Tr.isLv t
    · have G : Hid (stageWA m b t = ([], 1)) := by unfold stageWA; rw [Hid, if_neg (by rw [hlv]; simp)]
      rw [hlv] at C0
      clear b2 hW0 ht
      go_wp2_with fail
      refine C0.mono ?_
      rintro e w3 ⟨rfl, j3, rfl⟩
      have HB3 := Lib.hid (below_drewN HB2.out j3)
      clear C0
      go_wp2
      go_ret2
      exact ResL.nil G.out HB3.out
    · rw [hlv] at C0
      obtain ⟨t1, t2, t3, t4, t5, t6⟩ := isTabB_parts ht
      rw [HL'.out] at t1 t2 t3 t5
      have hnn : n' = n := by rw [← t3]; exact HL.out
      subst hnn
      have HW := Lib.hid t5
      have HNB := Lib.hid t4
      have HN := Lib.hid t6
      have hx := Tr.tx_txt hlv
      obtain ⟨l1, l8⟩ := lv_bd hlv
      rw [HL2.out] at l1 l8
      have HM2 := Lib.hid (HM.out.below b2 (by omega))
      have HR2 := Lib.hid (HR.out.below b2 (by omega))
      have HT2 := Lib.hid (HT.out.below b2 (by omega))
      have HX2 := HX.out.next b2
      clear b2 hW0 t3 t4 t5 t6
      go_wp2_with fail
      refine C0.mono ?_
      rintro e w3 ⟨rfl, j3, rfl⟩
      have q0 : ∀ j, (w2.drewN j).cell? ⟨w.heap.size, 0, none⟩ = some (.slice A n' c) := fun j => HX2.c0
      have q1 : ∀ j, (w2.drewN j).cell? ⟨w.heap.size, 1, none⟩ = some (.slice D n' d) := fun j => HX2.c1
      have p0 := q0 j3
      have p1 := q1 j3
      have HTX := Lib.hid hx
      have G : Hid (stageWA m b t = (sw m n' (Tr.txt t), 0)) := by unfold stageWA; rw [Hid, if_pos ⟨ht, hlv⟩, HL'.out]
      clear C0 HX2 hlv ht hx
      go_wp2_with fail
      refine (schemeOf_any A D n' c n' d B B' n' m b (w2.drewN j3) HL.out HL'.out t2 HW.out (by omega) (by omega) (by show B ≤ w2.heap.size; omega) (by show B' ≤ w2.heap.size; omega) (HM2.out.drewN _) (HR2.out.drewN _)).mono ?_
      rintro e w4 ⟨A4, c4, D4, d4, rfl, hc4, hd4, m4, r4, b4⟩
      have hz4 : w2.heap.size ≤ w4.heap.size := b4.size
      have hb4 : Below w2.heap.size w2 w4 := ⟨b4.os, b4.tape, b4.output, b4.size, b4.block⟩
      have HB4 := Lib.hid (HB2.out.trans (hb4.mono HB2.out.size))
      have HM4 := Lib.hid m4
      have HR4 := Lib.hid r4
      have HT4 := Lib.hid (HT2.out.below hb4 (by omega))
      clear b4 hb4 m4 r4 q0 q1 p0 p1
      go_wp2_with fail
      refine (treeOf_any A2 n2 c2 B2 t w4 HL2.out l1 l8 hc2 (by omega) HT4.out).mono ?_
      rintro e w5 ⟨rfl, b5⟩
      have hz5 := b5.size
      have HB5 := Lib.hid (HB4.out.trans (b5.mono HB4.out.size))
      have HM5 := Lib.hid (HM4.out.below b5 (Nat.le_refl _))
      have HR5 := Lib.hid (HR4.out.below b5 (Nat.le_refl _))
      have HSL := Lib.hid (sw_len HL.out HTX.out)
      clear b5
      go_wp2_with fail
      refine (stageWeights_any (Tr.txt t) A4 D4 n' c4 d4 w4.heap.size m w5 HTX.out HL.out t1 t2 HW.out HN.out hz5 HM5.out).mono ?_
      rintro e w6 ⟨A6, c6, rfl, own6, b6⟩
      have HB6 := Lib.hid (HB5.out.trans (b6.mono HB5.out.size))
      have HR6 := Lib.hid (row_of_own own6)
      clear b6 own6
      go_wp2_with fail
      refine (integersOf_any A6 n' c6 w6.heap.size (sw m n' (Tr.txt t)) w6 HSL.out (by omega) (Nat.le_refl _) HR6.out).mono ?_
      rintro e w7 ⟨A7, c7, rfl, own7, b7⟩
      have HB7 := Lib.hid (HB6.out.trans (b7.mono HB6.out.size))
      have GR : Hid (ResL (stageWA m b t) w (.returned (.tuple #[.slice A7 n' c7, .int .i64 0])) w7) := ResL.of G.out HSL.out (by omega) ((OwnR.of own7).more HB6.out.size (Nat.le_refl _)).1 HB7.out
      clear b7 own7
      go_wp2
      go_ret2
      exact GR.out
set_option maxHeartbeats 4000000 in
theorem pWeightOf_L (A D : Option Addr) (n c n' d B B' : Nat) (m : List (List Int)) (b : List Int) (w : World) (hl : m.length = n) (hl' : b.length = n') (hn : n ≤ 9223372036854775807) (hn' : n' ≤ 9223372036854775807) (hB : B ≤ w.heap.size) (hB' : B' ≤ w.heap.size) (h : Mat w B A m) (r : Row w B' D (ints b)) (A2 : Option Addr) (n2 c2 B2 : Nat) (t : List Int) (hl2 : t.length = n2) (hn2 : n2 ≤ 1048576) (hB2 : B2 ≤ w.heap.size) (h2 : Row w B2 A2 (ints t)) (hc2 : n2 ≤ c2) :
    Calls Try.prog 29 #[.agg #[.slice A n c, .slice D n' d], .slice A2 n2 c2] w (ResI (weightA m b t) w) := by
  have HL := Lib.hid hl
  have HL' := Lib.hid hl'
  have HL2 := Lib.hid hl2
  obtain ⟨W0, hW0⟩ : ∃ W0, W0 = w.alloc (.cells #[.slice A n c, .slice D n' d] 28) := ⟨_, rfl⟩
  have HB : Hid (Below w.heap.size w W0) := by rw [hW0]; exact (Below.refl _ _).alloc (Nat.le_refl _) _
  have HM : Hid (Mat W0 B A m) := h.below HB.out hB
  have HR : Hid (Row W0 B' D (ints b)) := r.below HB.out hB'
  have HT : Hid (Row W0 B2 A2 (ints t)) := h2.below HB.out hB2
  have HX : Hid (Bx W0 w.heap.size 28 (.slice A n c) (.slice D n' d)) := by rw [hW0]; exact Bx.new _ _ _ _
  have hz := HB.out.size
  clear hl hl' hl2 h r h2
  cases ht : isTabB m b
  · have G : Hid (weightA m b t = (0, 1)) := by unfold weightA; rw [Hid, if_neg (by rw [ht]; simp)]
    go_enter Try.func29, Try.ntmps29
    go_wp2_with fail
    rw [← hW0]
    refine (isTableau_any A D n c n' d B B' m b W0 HL.out HL'.out hn hn' (by omega) (by omega) HM.out HR.out).mono ?_
    rintro e w2 ⟨rfl, b2⟩
    rw [ht]
    have HB2 := Lib.hid (HB.out.trans (b2.mono HB.out.size))
    clear b2 hW0 ht
    go_wp2
    go_ret2
    exact ResI.of' G.out HB2.out
  · go_enter Try.func29, Try.ntmps29
    go_wp2_with fail
    rw [← hW0]
    refine (isTableau_any A D n c n' d B B' m b W0 HL.out HL'.out hn hn' (by omega) (by omega) HM.out HR.out).mono ?_
    rintro e w2 ⟨rfl, b2⟩
    rw [ht]
    have hz2 := b2.size
    have C0 := isLevels_any A2 n2 c2 B2 t w2 HL2.out (by omega) (HT.out.below b2 (by omega))
    have HB2 := Lib.hid (HB.out.trans (b2.mono HB.out.size))
    cases hlv : Tr.isLv t
    · have G : Hid (weightA m b t = (0, 1)) := by unfold weightA; rw [Hid, if_neg (by rw [hlv]; simp)]
      rw [hlv] at C0
      clear b2 hW0 ht
      go_wp2_with fail
      refine C0.mono ?_
      rintro e w3 ⟨rfl, j3, rfl⟩
      have HB3 := Lib.hid (below_drewN HB2.out j3)
      clear C0
      go_wp2
      go_ret2
      exact ResI.of' G.out HB3.out
    · rw [hlv] at C0
      obtain ⟨t1, t2, t3, t4, t5, t6⟩ := isTabB_parts ht
      rw [HL'.out] at t1 t2 t3 t5
      have hnn : n' = n := by rw [← t3]; exact HL.out
      subst hnn
      have HW := Lib.hid t5
      have HNB := Lib.hid t4
      have HN := Lib.hid t6
      have hx := Tr.tx_txt hlv
      obtain ⟨l1, l8⟩ := lv_bd hlv
      rw [HL2.out] at l1 l8
      have HM2 := Lib.hid (HM.out.below b2 (by omega))
      have HR2 := Lib.hid (HR.out.below b2 (by omega))
      have HT2 := Lib.hid (HT.out.below b2 (by omega))
      have HX2 := HX.out.next b2
      clear b2 hW0 t3 t4 t5 t6
      go_wp2_with fail
      refine C0.mono ?_
      rintro e w3 ⟨rfl, j3, rfl⟩
      have q0 : ∀ j, (w2.drewN j).cell? ⟨w.heap.size, 0, none⟩ = some (.slice A n' c) := fun j => HX2.c0
      have q1 : ∀ j, (w2.drewN j).cell? ⟨w.heap.size, 1, none⟩ = some (.slice D n' d) := fun j => HX2.c1
      have p0 := q0 j3
      have p1 := q1 j3
      have HTX := Lib.hid hx
      have G : Hid (weightA m b t = (wtT m b n' (Tr.txt t), 0)) := by unfold weightA; rw [Hid, if_pos ⟨ht, hlv⟩, HL'.out]
      clear C0 HX2 hlv ht hx
      go_wp2_with fail
      refine (schemeOf_any A D n' c n' d B B' n' m b (w2.drewN j3) HL.out HL'.out t2 HW.out (by omega) (by omega) (by show B ≤ w2.heap.size; omega) (by show B' ≤ w2.heap.size; omega) (HM2.out.drewN _) (HR2.out.drewN _)).mono ?_
      rintro e w4 ⟨A4, c4, D4, d4, rfl, hc4, hd4, m4, r4, b4⟩
      have hz4 : w2.heap.size ≤ w4.heap.size := b4.size
      have hb4 : Below w2.heap.size w2 w4 := ⟨b4.os, b4.tape, b4.output, b4.size, b4.block⟩
      have HB4 := Lib.hid (HB2.out.trans (hb4.mono HB2.out.size))
      have HM4 := Lib.hid m4
      have HR4 := Lib.hid r4
      have HT4 := Lib.hid (HT2.out.below hb4 (by omega))
      clear b4 hb4 m4 r4 q0 q1 p0 p1
      go_wp2_with fail
      refine (treeOf_any A2 n2 c2 B2 t w4 HL2.out l1 l8 hc2 (by omega) HT4.out).mono ?_
      rintro e w5 ⟨rfl, b5⟩
      have hz5 := b5.size
      have HB5 := Lib.hid (HB4.out.trans (b5.mono HB4.out.size))
      have HM5 := Lib.hid (HM4.out.below b5 (Nat.le_refl _))
      have HR5 := Lib.hid (HR4.out.below b5 (Nat.le_refl _))
      clear b5
      go_wp2_with fail
      refine (weight_any (Tr.txt t) A4 D4 n' c4 d4 w4.heap.size w4.heap.size m b w5 HTX.out HL.out HL'.out t1 t2 HW.out HN.out HNB.out hz5 hz5 HM5.out HR5.out).mono ?_
      rintro e w6 ⟨rfl, b6⟩
      have HB6 := Lib.hid (HB5.out.trans (b6.mono HB5.out.size))
      clear b6
      go_wp2
      go_ret2
      exact ResI.of' G.out HB6.out
end Go.Proofs.Ytolkbbbbahhfaaa
