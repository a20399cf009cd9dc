/-
  Stage weights: the model's walk.
-/
import Derived.Test.YtolkbbbbahhfaaaTabW
import Derived.Test.YtolkbbbbahhfaaaParts
import Derived.StillTailTactics
namespace Go.Proofs.Ytolkbbbbahhfaaa
open Go.RowKit Fld
set_option linter.unusedVariables false
set_option linter.unusedSimpArgs false
set_option maxRecDepth 100000

theorem stillW {P : Program} {f : FuncId} {args : Array Value} {w : World} {v : Value} (h : Calls P f args w fun e w' => e = .returned v ∧ w = w') : Calls P f args w fun e w' => e = .returned v ∧ w' = w :=
  h.mono fun _ _ ⟨h1, h2⟩ => ⟨h1, h2.symm⟩
def StageM (d : Nat) : Prop := ∀ (t : List Int) (A D A2 : Option Addr) (n c dd n2 c2 B B2 : Nat) (m : List (List Int)) (w : World), Tr.isLv t = true → t.length ≤ d → t.length = n2 → m.length = n → 1 ≤ n → n ≤ 8 → Wide m n → (∀ r ∈ m, allNum r = true) → B ≤ w.heap.size → B2 ≤ w.heap.size → Mat w B A m → Row w B2 A2 (ints t) →
  Calls Try.prog 47 #[.agg #[.slice A n c, .slice D n dd], .slice A2 n2 c2] w (NewRow 2 n (ints (sw m n (Tr.txt t))) w)
set_option maxHeartbeats 4000000 in
theorem stageM_succ (d : Nat) (IH : StageM d) : StageM (d + 1) := by
  intro t A D A2 n c dd n2 c2 B B2 m w hlv htd hl2 hl hn1 hn hq hnum hB hB2 h h2
  obtain ⟨_, hpt, hq7⟩ := Tr.can_parts hlv
  have HLV := Lib.hid hlv
  have HL := Lib.hid hl
  have HL2 := Lib.hid hl2
  have HQ := Lib.hid hq
  have HN := Lib.hid hnum
  have hn2 : n2 ≤ 8 := by rw [← hl2]; exact (lv_bd hlv).2
  obtain ⟨W0, hW0⟩ : ∃ W0, W0 = w.alloc (.cells #[.slice A n c, .slice D n dd] 28) := ⟨_, rfl⟩
  have HB : Hid (Below w.heap.size w W0) := by rw [hW0]; exact (Below.refl _ _).alloc (Nat.le_refl _) _
  have HBX : Hid (Bx W0 w.heap.size 28 (.slice A n c) (.slice D n dd)) := by rw [hW0]; exact Bx.new _ _ _ _
  have zA : w.heap.size < W0.heap.size := HBX.out.lt
  have HM := Lib.hid (h.below HB.out hB)
  have HT := Lib.hid (h2.below HB.out hB2)
  have IHb : Hid (∀ b ∈ Tr.partsL t, ∀ (V : World) (A3 : Option Addr) (c3 B3 : Nat), B ≤ V.heap.size → B3 ≤ V.heap.size → Mat V B A m → Row V B3 A3 (ints b) → Calls Try.prog 47 #[.agg #[.slice A n c, .slice D n dd], .slice A3 b.length c3] V (NewRow 2 n (ints (sw m n (Tr.txt b))) V)) := fun b hb V A3 c3 B3 h1 h2 h3 h4 =>
    IH b A D A3 n c dd b.length c3 B B3 m V (hpt b hb).1 (by have := (hpt b hb).2; omega) rfl HL.out hn1 hn HQ.out HN.out h1 h2 h3 h4
  have HPT : Hid (∀ b ∈ Tr.partsL t, Tr.isLv b = true) := fun b hb => (hpt b hb).1
  have hq7' : (Tr.partsL t).length ≤ 7 := hq7
  have HALL : Hid (swTo m n ((Tr.partsL t).map Tr.txt) (Tr.partsL t).length = sw m n (Tr.txt t)) := swTo_parts hlv rfl
  have CB := fun V (hV : Below W0.heap.size W0 V) => l03Parts_any A2 n2 c2 B2 t V HL2.out HLV.out (by have := hV.size; omega) (HT.out.below hV (by omega))
  obtain ⟨L, hL⟩ : ∃ L, L = Tr.partsL t := ⟨_, rfl⟩
  rw [← hL] at IHb HPT HALL hq7'
  simp only [← hL] at CB
  obtain ⟨q, hqq⟩ : ∃ q, q = L.length := ⟨_, rfl⟩
  have HQL := Lib.hid hqq
  rw [← hqq] at hq7' HALL
  simp only [← hqq] at CB
  clear hl hl2 hq hnum h h2 hpt hL hqq htd IH hlv hq7
  go_enter Try.func47, Try.ntmps47
  go_wp2_with fail
  rw [← hW0]
  clear hW0
  refine (l09Ones_any n W0 hn).mono ?_
  rintro e w1 ⟨A1, c1, rfl, own1, b1⟩
  obtain ⟨g1, rfl, hg0, hg1⟩ := own_block own1 hn1
  have hc1 := own_cap own1
  have hz1 := b1.size
  have HO1 := Lib.hid own1
  have HB1 := Lib.hid b1
  clear own1 b1
  go_wp2_with fail
  refine (CB w1 HB1.out).mono ?_
  rintro e w2 ⟨A3, c3, vs, rfl, own2, b2⟩
  have hz2 := b2.size
  have HO2 := Lib.hid own2
  have S0 : Hid (WState w w2 2 g1 n c1 (swTo m n (L.map Tr.txt) 0) w2) := by
    refine ⟨?_, Within.refl _ _ _⟩
    exact ((((OwnR.of HO1.out).below b2 (Nat.le_refl _)).more (Nat.le_of_lt zA) (Nat.le_refl _))).1
  have HB2 := Lib.hid (HB1.out.trans (b2.mono hz1))
  have HBX2 := Lib.hid (HBX.out.next HB2.out)
  have HM2 := Lib.hid (HM.out.below HB2.out (by omega))
  have HBW := Lib.hid (HB.out.trans (HB2.out.mono (Nat.le_of_lt zA)))
  have FR : Hid (∀ xs wr, WState w w2 2 g1 n c1 xs wr → Mat wr w2.heap.size A3 L ∧ Bx wr w.heap.size 28 (.slice A n c) (.slice D n dd) ∧ Mat wr B A m ∧ Below w.heap.size w wr ∧ w2.heap.size ≤ wr.heap.size) := fun xs wr hs =>
    ⟨(HO2.out.within hs.2 (Nat.le_refl _) (by omega)).mat, HBX2.out.within hs.2 (by omega), HM2.out.below (hs.2.below (B := B) (by omega) (by omega)) (Nat.le_refl _), Below.then HBW.out hs.2 (by omega) (by omega), hs.2.size⟩
  clear own2 b2 HO1 HB1 CB HM HB HBX HB2 HT
  go_wp2_with fail
  go_loopw [7] (fun i wr => ∃ k : Nat, k ≤ q ∧ i = .int .i64 k ∧ WState w w2 2 g1 n c1 (swTo m n (L.map Tr.txt) k) wr) (fun i _ => q - (intOf i).toNat)
  case atStart => exact ⟨0, Nat.zero_le _, rfl, S0.out⟩
  case round =>
    obtain ⟨k, hk, rfl, HS⟩ := hrel
    by_cases hlt : k < q
    · obtain ⟨b, hb⟩ := at_lt (show k < L.length by have := HQL.out; omega)
      obtain ⟨hbr, hbx, hmat, hbw, hzr⟩ := FR.out _ _ HS
      obtain ⟨b3, o3, Ak, ck, rfl, hb3, hcb, hbl, hbm2, hbrow⟩ := hbr k b hb
      unfold maxLen at hbm2
      have hbm := List.mem_of_getElem? hb
      have hbt := Tr.tx_txt (HPT.out b hbm)
      have KK : Hid (∀ V, Below wr.heap.size wr V → V.cell? ⟨w.heap.size, 0, none⟩ = some (.slice A n c) ∧ V.cell? ⟨w.heap.size, 1, none⟩ = some (.slice D n dd) ∧ V.cell? ⟨b3, o3 + k, none⟩ = some (.slice Ak b.length ck)) := fun V hV => ⟨(hbx.next hV).c0, (hbx.next hV).c1, (hV.cell (p := ⟨b3, o3 + k, none⟩) (show b3 < _ by omega)).trans hcb⟩
      have C1 := fun V (hV : Below wr.heap.size wr V) => IHb.out b hbm V Ak ck w2.heap.size (by have := hV.size; omega) (by have := hV.size; omega) (hmat.below hV (by omega)) (hbrow.below hV (by omega))
      have C2 := fun V (hV : Below wr.heap.size wr V) A4 c4 (h3 : Row V V.heap.size A4 (ints (sw m n (Tr.txt b)))) => l09Times_any A A4 n c c4 B V.heap.size m (sw m n (Tr.txt b)) V HL.out hn HQ.out HN.out (sw_len HL.out hbt) (sw_num hbt) (by have := hV.size; omega) (Nat.le_refl _) (hmat.below hV (by omega)) h3
      have HSB := Lib.hid HS
      have HE := Lib.hid (swTo_succ (m := m) (n := n) (L := L.map Tr.txt) (k := k) (b := Tr.txt b) (by rw [List.getElem?_map, hb]; rfl))
      have hPl : Hid ((appL m (sw m n (Tr.txt b))).length = n) := (appL_length _ _).trans HL.out
      have hPn : Hid (allNum (appL m (sw m n (Tr.txt b))) = true) := appL_num _ _
      have hVl : Hid ((swTo m n (L.map Tr.txt) k).length = n) := swTo_len HL.out _ _
      have hVn : Hid (allNum (swTo m n (L.map Tr.txt) k) = true) := swTo_num _ _ _ _
      obtain ⟨P, hP⟩ : ∃ P, P = appL m (sw m n (Tr.txt b)) := ⟨_, rfl⟩
      obtain ⟨V0, hV0⟩ : ∃ V, V = swTo m n (L.map Tr.txt) k := ⟨_, rfl⟩
      rw [← hP] at HE hPl hPn
      simp only [← hP] at C2
      rw [← hV0] at HE HSB hVl hVn
      have k0 : (0 : Int) ≤ (k : Int) := Int.natCast_nonneg _
      have k1 : (k : Int) < (q : Int) := by omega
      clear hb hbr hbx hmat hbm hbt HS hP hV0 hbrow
      go_wp2_with fail
      go_region_held3 (fun V => V.cell? ⟨w.heap.size, 0, none⟩ = some (.slice A n c) ∧ V.cell? ⟨w.heap.size, 1, none⟩ = some (.slice D n dd) ∧ V.cell? ⟨b3, o3 + k, none⟩ = some (.slice Ak b.length ck))
        (first | exact KK.out _ (Below.refl _ _) | exact KK.out _ (Below.refl _ _).drew | exact KK.out _ (below_drewN (Below.refl _ _) _) | exact KK.out _ (below_undrawn (a := 1) be3) | exact KK.out _ ((below_undrawn (a := 1) be3).trans (be4.mono (below_undrawn (a := 1) be3).size)))
        (first
          | (go_at_call 47; refine (C1 _ (by first | exact (Below.refl _ _).drew | exact below_drewN (Below.refl _ _) _)).mono ?_; clear C1; rintro e w3 ⟨A4, c4, rfl, own3, be3⟩)
          | (go_at_call 38; refine (C2 _ (by exact below_undrawn (a := 1) be3) A4 c4 (by exact row_of_own own3)).mono ?_; clear C2; rintro e w4 ⟨A5, c5, rfl, own4, be4⟩))
      have hb34 : Below wr.heap.size wr w4 := (below_undrawn (a := 1) be3).trans (be4.mono (below_undrawn (a := 1) be3).size)
      have hz3 : wr.heap.size ≤ w3.heap.size := (below_undrawn (a := 1) be3).size
      have hz4 := be4.size
      have HS4 := Lib.hid (HSB.out.below hb34)
      have HO4 := Lib.hid (OwnR.of own4)
      have hzw := HSB.out.2.size
      clear own3 own4 be3 be4 hb34 KK hcb
      go_wp2_with fail
      go_loopw [9] (fun i wj => ∃ j : Nat, j ≤ n ∧ i = .int .i64 j ∧ WState w w2 2 g1 n c1 ((mulL V0 P).take j ++ V0.drop j) wj ∧ Within g1 (g1 + 1) w4 wj) (fun i _ => n - (intOf i).toNat)
      case atStart => exact ⟨0, Nat.zero_le _, rfl, by simpa using HS4.out, Within.refl _ _ _⟩
      case round =>
        obtain ⟨j, hj, rfl, HJ, HW4⟩ := hrel
        have hUl : Hid ((mulL V0 P).length = n) := mulL_length hVl.out hPl.out
        by_cases hjl : j < n
        · obtain ⟨p, hp⟩ := at_lt (show j < P.length by rw [hPl.out]; exact hjl)
          obtain ⟨v, hv⟩ := at_lt (show j < V0.length by rw [hVl.out]; exact hjl)
          obtain ⟨p0, p1⟩ := num_at hPn.out hp
          obtain ⟨v0, v1⟩ := num_at hVn.out hv
          obtain ⟨b5, o5, rfl, _, hcp⟩ := (HO4.out.within HW4 (Nat.le_refl _) (by omega)).row j _ (ints_at hp)
          have hcv := HJ.1.cellAt j (by omega)
          rw [ints_at (mix_atW hv (by rw [hVl.out, hUl.out]))] at hcv
          have hfv := HJ.1.frozenAt j
          have HU := mulL_at hv hp
          obtain ⟨u, hu⟩ : ∃ u, u = v * p % 10007 := ⟨_, rfl⟩
          have C5 : Hid (∀ w : World, Calls Try.prog 65 #[.int .i64 v, .int .i64 p] w fun e w' => e = .returned (.int .i64 u) ∧ w = w') := fun w => by rw [hu]; exact l01Mul_any _ _ _ v0 v1 p0 p1
          rw [← hu] at HU
          have HJd := HJ.drewN 1
          have G1 := HJd.put (u := u) hjl
          rw [mix_stepW HU (by rw [hVl.out, hUl.out])] at G1
          have HG1 : Hid (WState w w2 2 g1 n c1 ((mulL V0 P).take (j + 1) ++ V0.drop (j + 1)) (wr.drew.setCell ⟨g1, j, none⟩ (.int .i64 u))) := G1
          have HG2 : Hid (Within g1 (g1 + 1) w4 (wr.drew.setCell ⟨g1, j, none⟩ (.int .i64 u))) := (HW4.trans (Within.of_below (below_drewN (Below.refl _ _) 1))).trans (Within.grown (HJd.1.stored j (.int .i64 u)).2 (fun g' e => by injection e with e; subst e; exact ⟨Nat.le_refl _, Nat.lt_succ_self _⟩))
          have j0 : (0 : Int) ≤ (j : Int) := Int.natCast_nonneg _
          have j1 : (j : Int) < (n : Int) := by omega
          have hcv' : wr.drew.cell? ⟨g1, j, none⟩ = some (.int .i64 v) := hcv
          have hfv' : wr.drew.frozen? ⟨g1, j, none⟩ = false := hfv
          have hcp' : wr.drew.cell? ⟨b5, o5 + j, none⟩ = some (.int .i64 p) := hcp
          clear hp hv HJ HW4 HU G1 hu HJd
          go_wp2_with fail
          refine wp_region_still_tail 12 (by kernel_rfl) (by kernel_rfl) ?_
          simp only [List.take_succ_cons, List.take_zero, List.drop_succ_cons, List.drop_zero]
          repeat still_step
          refine wpStill_step (fun K hK => ?_)
          go_simp
          refine ⟨_, stillW (C5.out _), hK _ ?_⟩
          clear hK K
          repeat still_step
          refine wpStill_nil ?_
          change wpList _ _ _ _ _ wr.drew
          go_wp2
          go_roundw
          case rel => exact ⟨j + 1, by omega, by go_num, by exact HG1.out, by exact HG2.out⟩
          case measure => simp [intOf]; omega
        · obtain rfl : j = n := by omega
          rw [List.take_of_length_le (by rw [hUl.out]; exact Nat.le_refl _), List.drop_of_length_le (by rw [hVl.out]; exact Nat.le_refl _), List.append_nil, ← HE.out] at HJ
          have HJH := Lib.hid HJ
          clear HJ HW4
          go_wp2
          go_roundw
          case rel => exact ⟨k + 1, by omega, by go_num, HJH.out⟩
          case measure => simp [intOf]; omega
    · obtain rfl : k = q := by omega
      rw [HALL.out] at HS
      have G : Hid (NewRow 2 n (ints (sw m n (Tr.txt t))) w (.returned (.slice (some ⟨g1, 0, none⟩) n c1)) wr) := ⟨_, _, rfl, HS.1, (FR.out _ _ HS).2.2.2.1⟩
      clear HS
      go_wp2
      go_ret
      exact G.out
theorem stageM_upto : ∀ d, StageM d
  | 0 => fun t A D A2 n c dd n2 c2 B B2 m w hlv htd => by have := (lv_bd hlv).1; omega
  | d + 1 => stageM_succ d (stageM_upto d)
theorem l09Stages_any (t : List Int) (A D A2 : Option Addr) (n c dd n2 c2 B B2 : Nat) (m : List (List Int)) (w : World) (hlv : Tr.isLv t = true) (hl2 : t.length = n2) (hl : m.length = n) (hn1 : 1 ≤ n) (hn : n ≤ 8) (hq : Wide m n) (hnum : ∀ r ∈ m, allNum r = true) (hB : B ≤ w.heap.size) (hB2 : B2 ≤ w.heap.size) (h : Mat w B A m) (h2 : Row w B2 A2 (ints t)) :
    Calls Try.prog 47 #[.agg #[.slice A n c, .slice D n dd], .slice A2 n2 c2] w (NewRow 2 n (ints (sw m n (Tr.txt t))) w) := stageM_upto t.length t A D A2 n c dd n2 c2 B B2 m w hlv (Nat.le_refl _) hl2 hl hn1 hn hq hnum hB hB2 h h2
set_option maxHeartbeats 2000000 in
theorem l09Weight_any (t : List Int) (A D A2 : Option Addr) (n c d n2 c2 B B' B2 : Nat) (m : List (List Int)) (b : List Int) (w : World) (hlv : Tr.isLv t = true) (hl2 : t.length = n2) (hl : m.length = n) (hl' : b.length = n) (hn1 : 1 ≤ n) (hn : n ≤ 8) (hq : Wide m n) (hnum : ∀ r ∈ m, allNum r = true) (hnb : allNum b = true) (hB : B ≤ w.heap.size) (hB' : B' ≤ w.heap.size) (hB2 : B2 ≤ w.heap.size) (h : Mat w B A m) (r : Row w B' D (ints b)) (h2 : Row w B2 A2 (ints t)) :
    Calls Try.prog 51 #[.agg #[.slice A n c, .slice D n d], .slice A2 n2 c2] w fun e w' => e = .returned (.int .i64 (wtT m b n (Tr.txt t))) ∧ Below w.heap.size w w' := by
  have HL := Lib.hid hl
  have HL' := Lib.hid hl'
  have HL2 := Lib.hid hl2
  have HQ := Lib.hid hq
  have HN := Lib.hid hnum
  have HLV := Lib.hid hlv
  obtain ⟨W0, hW0⟩ : ∃ W0, W0 = w.alloc (.cells #[.slice A n c, .slice D n d] 28) := ⟨_, rfl⟩
  have HB : Hid (Below w.heap.size w W0) := by rw [hW0]; exact (Below.refl _ _).alloc (Nat.le_refl _) _
  have HX : Bx W0 w.heap.size 28 (.slice A n c) (.slice D n d) := by rw [hW0]; exact Bx.new _ _ _ _
  have hz := HB.out.size
  have HM := Lib.hid (h.below HB.out hB)
  have HR := Lib.hid (r.below HB.out hB')
  have HT := Lib.hid (h2.below HB.out hB2)
  have hx := Tr.tx_txt hlv
  have KK : Hid (∀ V, Below W0.heap.size W0 V → V.cell? ⟨w.heap.size, 0, none⟩ = some (.slice A n c) ∧ V.cell? ⟨w.heap.size, 1, none⟩ = some (.slice D n d)) := fun V hV => ⟨(HX.next hV).c0, (HX.next hV).c1⟩
  have C1 := fun V (hV : Below W0.heap.size W0 V) => l09Stages_any t A D A2 n c d n2 c2 B B2 m V HLV.out HL2.out HL.out hn1 hn HQ.out HN.out (by have := hV.size; omega) (by have := hV.size; omega) (HM.out.below hV (by omega)) (HT.out.below hV (by omega))
  have C2 := fun V (hV : Below W0.heap.size W0 V) A3 c3 (h3 : Row V V.heap.size A3 (ints (sw m n (Tr.txt t)))) => l01Dot_any D A3 n d c3 B' V.heap.size b (sw m n (Tr.txt t)) V HL'.out (sw_len HL.out hx) (by omega) (HR.out.below hV (by omega)) h3 hnb (sw_num hx)
  have HW : Hid (wtT m b n (Tr.txt t) = dotK b (sw m n (Tr.txt t)) n) := rfl
  rw [HW.out]
  clear hl hl' hl2 hq hnum h r h2 HX HW hlv hx
  go_enter Try.func51, Try.ntmps51
  go_wp2_with fail
  change Code.wp _ _ _ _ (w.alloc (.cells #[.slice A n c, .slice D n d] 28))
  rw [← hW0]
  clear hW0
  go_region_held3 (fun V => V.cell? ⟨w.heap.size, 0, none⟩ = some (.slice A n c) ∧ V.cell? ⟨w.heap.size, 1, none⟩ = some (.slice D n d))
    (first | exact KK.out _ (Below.refl _ _) | exact KK.out _ (Below.refl _ _).drew | exact KK.out _ (below_drewN (Below.refl _ _) _) | exact KK.out _ (below_undrawn (a := 1) b2) | exact KK.out _ (below_drewN (below_undrawn (a := 1) b2) _))
    (first
      | (go_at_call 47; refine (C1 _ (by first | exact (Below.refl _ _).drew | exact below_drewN (Below.refl _ _) _)).mono ?_; clear C1; rintro e w2 ⟨A4, c4, rfl, own2, b2⟩)
      | (go_at_call 58; refine (C2 _ (by exact below_undrawn (a := 1) b2) A4 c4 (by exact row_of_own own2)).mono ?_; clear C2; rintro e w3 ⟨rfl, j3, rfl⟩))
  have hb2 : Below W0.heap.size W0 w2 := below_undrawn (a := 1) b2
  have G : Hid (Below w.heap.size w (w2.drewN j3)) := below_drewN (HB.out.trans (hb2.mono HB.out.size)) _
  clear own2 b2 hb2 KK
  go_wp2
  go_ret
  exact ⟨rfl, G.out⟩
/-- the code of a tableau and a tree -/
def codeTT (m : List (List Int)) (b t : List Int) : Int := if isTabB m b = true ∧ Tr.isLv t = true then 0 else 1
set_option maxHeartbeats 2000000 in
theorem l09Code_any (A D : Option Addr) (n c n' d B B' : Nat) (m : List (List Int)) (b : List Int) (w : World) (hl : m.length = n) (hl' : b.length = n') (hn : n ≤ 9223372036854775807) (hn' : n' ≤ 9223372036854775807) (hB : B ≤ w.heap.size) (hB' : B' ≤ w.heap.size) (h : Mat w B A m) (r : Row w B' D (ints b)) (A2 : Option Addr) (n2 c2 B2 : Nat) (t : List Int) (hl2 : t.length = n2) (hn2 : n2 ≤ 1048576) (hB2 : B2 ≤ w.heap.size) (h2 : Row w B2 A2 (ints t)) :
    Calls Try.prog 46 #[.agg #[.slice A n c, .slice D n' d], .slice A2 n2 c2] w fun e w' => e = .returned (.int .i64 (codeTT m b t)) ∧ Below w.heap.size w w' := by
  have HL := Lib.hid hl
  have HL' := Lib.hid hl'
  have HL2 := Lib.hid hl2
  obtain ⟨W0, hW0⟩ : ∃ W0, W0 = w.alloc (.cells #[.slice A n c, .slice D n' d] 28) := ⟨_, rfl⟩
  have HB : Hid (Below w.heap.size w W0) := by rw [hW0]; exact (Below.refl _ _).alloc (Nat.le_refl _) _
  have HM : Hid (Mat W0 B A m) := h.below HB.out hB
  have HR : Hid (Row W0 B' D (ints b)) := r.below HB.out hB'
  have HT : Hid (Row W0 B2 A2 (ints t)) := h2.below HB.out hB2
  have HX : Hid (Bx W0 w.heap.size 28 (.slice A n c) (.slice D n' d)) := by rw [hW0]; exact Bx.new _ _ _ _
  have hz := HB.out.size
  clear hl hl' hl2 h r h2
  cases ht : isTabB m b
  · have G : Hid (codeTT m b t = 1) := by unfold codeTT; rw [Hid, if_neg (by rw [ht]; simp)]
    go_enter Try.func46, Try.ntmps46
    go_wp2_with fail
    rw [← hW0]
    refine (l09Is_any A D n c n' d B B' m b W0 HL.out HL'.out hn hn' (by omega) (by omega) HM.out HR.out).mono ?_
    rintro e w2 ⟨rfl, b2⟩
    rw [ht]
    have HB2 := Lib.hid (HB.out.trans (b2.mono HB.out.size))
    clear b2 hW0 ht
    go_wp2
    go_ret
    exact ⟨ret_i64 G.out.symm, HB2.out⟩
  · go_enter Try.func46, Try.ntmps46
    go_wp2_with fail
    rw [← hW0]
    refine (l09Is_any A D n c n' d B B' m b W0 HL.out HL'.out hn hn' (by omega) (by omega) HM.out HR.out).mono ?_
    rintro e w2 ⟨rfl, b2⟩
    rw [ht]
    have hz2 := b2.size
    have C0 := l03Is_any A2 n2 c2 B2 t w2 HL2.out hn2 (HT.out.below b2 (by omega))
    have HB2 := Lib.hid (HB.out.trans (b2.mono HB.out.size))
    cases hlv : Tr.isLv t
    · have G : Hid (codeTT m b t = 1) := by unfold codeTT; rw [Hid, if_neg (by rw [hlv]; simp)]
      rw [hlv] at C0
      clear b2 hW0 ht
      go_wp2_with fail
      refine C0.mono ?_
      rintro e w3 ⟨rfl, j3, rfl⟩
      have HB3 := Lib.hid (below_drewN HB2.out j3)
      clear C0
      go_wp2
      go_ret
      exact ⟨ret_i64 G.out.symm, HB3.out⟩
    · have G : Hid (codeTT m b t = 0) := by unfold codeTT; rw [Hid, if_pos ⟨ht, hlv⟩]
      rw [hlv] at C0
      clear b2 hW0 ht
      go_wp2_with fail
      refine C0.mono ?_
      rintro e w3 ⟨rfl, j3, rfl⟩
      have HB3 := Lib.hid (below_drewN HB2.out j3)
      clear C0
      go_wp2
      go_ret
      exact ⟨ret_i64 G.out.symm, HB3.out⟩
set_option maxHeartbeats 4000000 in
theorem sStageWeights_L (A D : Option Addr) (n c n' d B B' : Nat) (m : List (List Int)) (b : List Int) (w : World) (hl : m.length = n) (hl' : b.length = n') (hn : n ≤ 9223372036854775807) (hn' : n' ≤ 9223372036854775807) (hB : B ≤ w.heap.size) (hB' : B' ≤ w.heap.size) (h : Mat w B A m) (r : Row w B' D (ints b)) (A2 : Option Addr) (n2 c2 B2 : Nat) (t : List Int) (hl2 : t.length = n2) (hn2 : n2 ≤ 1048576) (hB2 : B2 ≤ w.heap.size) (h2 : Row w B2 A2 (ints t)) :
    Calls Try.prog 25 #[.agg #[.slice A n c, .slice D n' d], .slice A2 n2 c2] w (ResL (stageWA m b t) w) := by
  have HL := Lib.hid hl
  have HL' := Lib.hid hl'
  have HL2 := Lib.hid hl2
  obtain ⟨W0, hW0⟩ : ∃ W0, W0 = w.alloc (.cells #[.slice A n c, .slice D n' d] 28) := ⟨_, rfl⟩
  have HB : Hid (Below w.heap.size w W0) := by rw [hW0]; exact (Below.refl _ _).alloc (Nat.le_refl _) _
  have HM : Hid (Mat W0 B A m) := h.below HB.out hB
  have HR : Hid (Row W0 B' D (ints b)) := r.below HB.out hB'
  have HT : Hid (Row W0 B2 A2 (ints t)) := h2.below HB.out hB2
  have HX : Hid (Bx W0 w.heap.size 28 (.slice A n c) (.slice D n' d)) := by rw [hW0]; exact Bx.new _ _ _ _
  have hz := HB.out.size
  clear hl hl' hl2 h r h2
  by_cases hok : isTabB m b = true ∧ Tr.isLv t = true
  · have G : Hid (stageWA m b t = (sw m n' (Tr.txt t), 0)) := by unfold stageWA; rw [Hid, if_pos hok, HL'.out]
    have K : Hid (codeTT m b t = 0) := if_pos hok
    obtain ⟨ht, hlv⟩ := hok
    obtain ⟨t1, t2, t3, t4, t5, t6⟩ := isTabB_parts ht
    rw [HL'.out] at t1 t2 t3 t5
    have hnn : n' = n := by rw [← t3]; exact HL.out
    subst hnn
    have HW := Lib.hid t5
    have HNB := Lib.hid t4
    have HN := Lib.hid t6
    have HLV := Lib.hid hlv
    have HTX := Lib.hid (Tr.tx_txt hlv)
    clear t3 t4 t5 t6 ht hlv
    go_enter Try.func25, Try.ntmps25
    go_wp2_with fail
    rw [← hW0]
    refine (l09Code_any A D n' c n' d B B' m b W0 HL.out HL'.out hn hn' (by omega) (by omega) HM.out HR.out A2 n2 c2 B2 t HL2.out hn2 (by omega) HT.out).mono ?_
    rintro e w2 ⟨rfl, b2⟩
    rw [K.out]
    have hz2 := b2.size
    have HB2 := Lib.hid (HB.out.trans (b2.mono HB.out.size))
    have HM2 := Lib.hid (HM.out.below b2 (by omega))
    have HR2 := Lib.hid (HR.out.below b2 (by omega))
    have HT2 := Lib.hid (HT.out.below b2 (by omega))
    have q0 := (HX.out.next b2).c0
    have q1 := (HX.out.next b2).c1
    have HSL := Lib.hid (sw_len HL.out HTX.out)
    clear b2 hW0
    go_wp2_with fail
    refine (l09Stages_any t A D A2 n' c d n2 c2 B B2 m w2 HLV.out HL2.out HL.out t1 t2 HW.out HN.out (by omega) (by omega) HM2.out HT2.out).mono ?_
    rintro e w3 ⟨A3, c3, rfl, own3, b3⟩
    have HB3 := Lib.hid (HB2.out.trans (b3.mono HB2.out.size))
    have GR : Hid (ResL (stageWA m b t) w (.returned (.tuple #[.slice A3 n' c3, .int .i64 0])) w3) := ResL.of G.out HSL.out (by omega) ((OwnR.of own3).more HB2.out.size (Nat.le_refl _)).1 HB3.out
    clear own3 b3 q0 q1
    go_wp2
    go_ret2
    exact GR.out
  · have G : Hid (stageWA m b t = ([], 1)) := by unfold stageWA; rw [Hid, if_neg hok]
    have K : Hid (codeTT m b t = 1) := if_neg hok
    clear hok
    go_enter Try.func25, Try.ntmps25
    go_wp2_with fail
    rw [← hW0]
    refine (l09Code_any A D n c n' d B B' m b W0 HL.out HL'.out hn hn' (by omega) (by omega) HM.out HR.out A2 n2 c2 B2 t HL2.out hn2 (by omega) HT.out).mono ?_
    rintro e w2 ⟨rfl, b2⟩
    rw [K.out]
    have HB2 := Lib.hid (HB.out.trans (b2.mono HB.out.size))
    clear b2 hW0
    go_wp2
    go_ret2
    exact ResL.nil G.out HB2.out
set_option maxHeartbeats 4000000 in
theorem sWeightOf_L (A D : Option Addr) (n c n' d B B' : Nat) (m : List (List Int)) (b : List Int) (w : World) (hl : m.length = n) (hl' : b.length = n') (hn : n ≤ 9223372036854775807) (hn' : n' ≤ 9223372036854775807) (hB : B ≤ w.heap.size) (hB' : B' ≤ w.heap.size) (h : Mat w B A m) (r : Row w B' D (ints b)) (A2 : Option Addr) (n2 c2 B2 : Nat) (t : List Int) (hl2 : t.length = n2) (hn2 : n2 ≤ 1048576) (hB2 : B2 ≤ w.heap.size) (h2 : Row w B2 A2 (ints t)) :
    Calls Try.prog 28 #[.agg #[.slice A n c, .slice D n' d], .slice A2 n2 c2] w (ResI (weightA m b t) w) := by
  have HL := Lib.hid hl
  have HL' := Lib.hid hl'
  have HL2 := Lib.hid hl2
  obtain ⟨W0, hW0⟩ : ∃ W0, W0 = w.alloc (.cells #[.slice A n c, .slice D n' d] 28) := ⟨_, rfl⟩
  have HB : Hid (Below w.heap.size w W0) := by rw [hW0]; exact (Below.refl _ _).alloc (Nat.le_refl _) _
  have HM : Hid (Mat W0 B A m) := h.below HB.out hB
  have HR : Hid (Row W0 B' D (ints b)) := r.below HB.out hB'
  have HT : Hid (Row W0 B2 A2 (ints t)) := h2.below HB.out hB2
  have HX : Hid (Bx W0 w.heap.size 28 (.slice A n c) (.slice D n' d)) := by rw [hW0]; exact Bx.new _ _ _ _
  have hz := HB.out.size
  clear hl hl' hl2 h r h2
  by_cases hok : isTabB m b = true ∧ Tr.isLv t = true
  · have G : Hid (weightA m b t = (wtT m b n' (Tr.txt t), 0)) := by unfold weightA; rw [Hid, if_pos hok, HL'.out]
    have K : Hid (codeTT m b t = 0) := if_pos hok
    obtain ⟨ht, hlv⟩ := hok
    obtain ⟨t1, t2, t3, t4, t5, t6⟩ := isTabB_parts ht
    rw [HL'.out] at t1 t2 t3 t5
    have hnn : n' = n := by rw [← t3]; exact HL.out
    subst hnn
    have HW := Lib.hid t5
    have HNB := Lib.hid t4
    have HN := Lib.hid t6
    have HLV := Lib.hid hlv
    have HTX := Lib.hid (Tr.tx_txt hlv)
    clear t3 t4 t5 t6 ht hlv
    go_enter Try.func28, Try.ntmps28
    go_wp2_with fail
    rw [← hW0]
    refine (l09Code_any A D n' c n' d B B' m b W0 HL.out HL'.out hn hn' (by omega) (by omega) HM.out HR.out A2 n2 c2 B2 t HL2.out hn2 (by omega) HT.out).mono ?_
    rintro e w2 ⟨rfl, b2⟩
    rw [K.out]
    have hz2 := b2.size
    have HB2 := Lib.hid (HB.out.trans (b2.mono HB.out.size))
    have HM2 := Lib.hid (HM.out.below b2 (by omega))
    have HR2 := Lib.hid (HR.out.below b2 (by omega))
    have HT2 := Lib.hid (HT.out.below b2 (by omega))
    have q0 := (HX.out.next b2).c0
    have q1 := (HX.out.next b2).c1
    have HSL := Lib.hid (sw_len HL.out HTX.out)
    clear b2 hW0
    go_wp2_with fail
    refine (l09Weight_any t A D A2 n' c d n2 c2 B B' B2 m b w2 HLV.out HL2.out HL.out HL'.out t1 t2 HW.out HN.out HNB.out (by omega) (by omega) (by omega) HM2.out HR2.out HT2.out).mono ?_
    rintro e w3 ⟨rfl, b3⟩
    have HB3 := Lib.hid (HB2.out.trans (b3.mono HB2.out.size))
    clear b3 q0 q1
    go_wp2
    go_ret2
    exact ResI.of' G.out HB3.out
  · have G : Hid (weightA m b t = (0, 1)) := by unfold weightA; rw [Hid, if_neg hok]
    have K : Hid (codeTT m b t = 1) := if_neg hok
    clear hok
    go_enter Try.func28, Try.ntmps28
    go_wp2_with fail
    rw [← hW0]
    refine (l09Code_any A D n c n' d B B' m b W0 HL.out HL'.out hn hn' (by omega) (by omega) HM.out HR.out A2 n2 c2 B2 t HL2.out hn2 (by omega) HT.out).mono ?_
    rintro e w2 ⟨rfl, b2⟩
    rw [K.out]
    have HB2 := Lib.hid (HB.out.trans (b2.mono HB.out.size))
    clear b2 hW0
    go_wp2
    go_ret2
    exact ResI.of' G.out HB2.out
end Go.Proofs.Ytolkbbbbahhfaaa
