/-
  PROVED: for every code the law FnStageWeights returns true: the stage weights of a tree are the products, over its branches, of the matrix times the stage weights of the branch, and the weight is the product of the numbers of B with them.
  CONDITIONS: none; every slice of bytes.
-/
import Derived.Test.YtpngohklicgbjaaGreatUW1
import Derived.Test.YtpngohklicgbjaaGreatFFnStageWeights
namespace Go.Proofs.YtpngohklicgbjaaGreat.fnStageWeights
open Go.ChangeShapes Go.WideShapes Go.ChangeAt Go.RowKit Fld
set_option linter.unusedVariables false
set_option linter.unusedSimpArgs false
set_option maxRecDepth 100000

theorem resL_out {q : List Int} {k : Int} {r : List Int × Int} {w w' : World} {e : Ending} {n : Nat} (h : ResL r w e w') (hr : r = (q, k)) (hq : q.length = n) : ∃ A c, e = .returned (.tuple #[.slice A n c, .int .i64 k]) ∧ w'.ownsRow w.heap.size 2 1 (.slice A n c) n (ints q) ∧ Below w.heap.size w w' := by
  subst hr hq
  obtain ⟨_, A, c, rfl, o, b⟩ := h
  exact ⟨A, c, rfl, o, b⟩
theorem resI_outW {a k : Int} {r : Int × Int} {w w' : World} {e : Ending} (h : ResI r w e w') (hr : r = (a, k)) : e = .returned (.tuple #[.int .i64 a, .int .i64 k]) ∧ Below w.heap.size w w' := by
  subst hr; exact h
theorem resM_out {M : List (List Int)} {k : Int} {r : List (List Int) × Int} {w w' : World} {e : Ending} {n : Nat} (h : ResM r w e w') (hr : r = (M, k)) (hq : M.length = n) : ∃ A c vs, e = .returned (.tuple #[.slice A n c, .int .i64 k]) ∧ OwnMat w' w.heap.size w'.heap.size (.slice A n c) n M vs ∧ Below w.heap.size w w' := by
  subst hr hq
  obtain ⟨_, A, c, vs, rfl, o, b⟩ := h
  exact ⟨A, c, vs, rfl, o, b⟩
theorem dotA_yes {n : Nat} {xs ys : List Int} (h : n ≤ 64) (hx : allNum xs = true) (hy : allNum ys = true) : dotA n n xs ys = (dotK xs ys n, 0) := if_pos ⟨h, rfl, hx, hy⟩
theorem grow_one (j : Nat) : ints (List.replicate j 1) ++ [.int .i64 1] = ints (List.replicate (j + 1) 1) := by simp [ints, intsK, List.replicate_succ']

set_option maxHeartbeats 16000000 in
theorem walk (w : World) (a0 : Option Addr) (len0 cap0 : Nat) (z0 : List Int) (w0 : IsRow .u8 w a0 len0 cap0 z0) : Calls Tryz.prog 3 #[.slice a0 len0 cap0] w fun e w' => e = .returned (.bool true) ∧ Below w.heap.size w w' := by
  obtain ⟨i0, hi, hi0, hi1, hi2⟩ := info_parts info_i64
  have hcode := isCode_of w0
  have hcm := w0.2.2.1
  have hlc := w0.2.1
  unfold maxLen at hcm
  have HC := Lib.hid hcode
  clear hcode w0
  by_cases hn : len0 ≤ 4096
  · have t0 : decide ((4096 : Int) < len0) = false := decide_eq_false (by omega)
    go_enter Tryz.func3, Tryz.ntmps3
    go_wp2_with fail
    refine (big_any _ _ _ _ (by omega)).mono ?_
    rintro e w' ⟨rfl, rfl⟩
    go_wp2_with fail
    refine (drawStageWeights_any _ _ _ _ _ hn HC.out).mono ?_
    rintro e u1 ⟨A, n, c, D, n', d, g2, n2, c2, m, b, t, rfl, ⟨hml, hbl⟩, ⟨h8, h9⟩, ⟨hc, hd⟩, ⟨htl, ht9, hct⟩, M1, R1, T1, b1⟩
    obtain ⟨W1, hW1⟩ : ∃ W1, W1 = u1.alloc (.cells #[.slice A n c, .slice D n' d] 27) := ⟨_, rfl⟩
    have bW : Below u1.heap.size u1 W1 := by rw [hW1]; exact (Below.refl _ _).alloc (Nat.le_refl _) _
    obtain ⟨xb, hxb⟩ : ∃ xb, xb = u1.heap.size := ⟨_, rfl⟩
    have HX : Hid (Bx W1 xb 27 (.slice A n c) (.slice D n' d)) := by rw [hW1, hxb]; exact Bx.new _ _ _ _
    have hxl := HX.out.lt
    have HM := Lib.hid ((M1.below bW (Nat.le_refl _)).more bW.size)
    have HR := Lib.hid ((R1.below bW (Nat.le_refl _)).more bW.size)
    have HT := Lib.hid ((T1.below bW (Nat.le_refl _)).more bW.size)
    have HB := Lib.hid (b1.trans (bW.mono b1.size))
    have HL := Lib.hid hml
    have HL' := Lib.hid hbl
    have HTL := Lib.hid htl
    have hbz := HB.out.size
    clear M1 R1 T1 b1 bW hml hbl htl
    go_wp2_with fail
    rw [← hW1]
    rw [← hxb]
    clear hW1 hxb
    by_cases hv : isTabB m b = true ∧ Tr.isLv t = true
    · obtain ⟨v1, v2⟩ := hv
      obtain ⟨t1, t2, t3, t4, t5, t6⟩ := isTabB_parts v1
      rw [HL'.out] at t1 t2 t3 t5
      have hnn : n' = n := by rw [← t3]; exact HL.out
      subst hnn
      have HV : Hid (stageWA m b t = (sw m n' (Tr.txt t), 0)) := by unfold stageWA; rw [Hid, if_pos ⟨v1, v2⟩, HL'.out]
      have HVW : Hid (weightA m b t = (wtT m b n' (Tr.txt t), 0)) := by unfold weightA; rw [Hid, if_pos ⟨v1, v2⟩, HL'.out]
      have HVr : Hid (∀ r, Tr.isLv r = true → stageWA m b r = (sw m n' (Tr.txt r), 0)) := fun r hr => by unfold stageWA; rw [if_pos ⟨v1, hr⟩, HL'.out]
      have HBr : Hid (branchesA t = (Tr.branL t, 0)) := by unfold branchesA; rw [Hid, if_pos v2]
      obtain ⟨f1, f2, f3⟩ := branL_facts v2
      have HSW := fun q (hq : (Tr.branL t).length = q) => swTo_bran (m := m) (n := n') v2 hq
      have HWl : Hid ((sw m n' (Tr.txt t)).length = n') := sw_len HL.out (Tr.tx_txt v2)
      have HWn : Hid (allNum (sw m n' (Tr.txt t)) = true) := sw_num (Tr.tx_txt v2)
      have HWT : Hid (wtT m b n' (Tr.txt t) = dotK b (sw m n' (Tr.txt t)) n') := rfl
      obtain ⟨V, hV⟩ : ∃ V, V = sw m n' (Tr.txt t) := ⟨_, rfl⟩
      obtain ⟨L, hL⟩ : ∃ L, L = Tr.branL t := ⟨_, rfl⟩
      obtain ⟨q, hq⟩ : ∃ q, L.length = q := ⟨_, rfl⟩
      rw [← hL] at HSW f2 f3 HBr
      rw [← hV] at HV HWl HWn HWT
      have HSQ : Hid (swTo m n' (L.map Tr.txt) q = V) := by rw [hV]; exact HSW q hq
      have HLL := Lib.hid f2
      have HQL := Lib.hid hq
      have hq8 : q ≤ 8 := by omega
      have HW := Lib.hid t5
      have HN := Lib.hid t6
      have HNB := Lib.hid t4
      clear v1 v2 t3 t4 t5 t6 f1 f2 f3 HSW hV hL hq
      have q0 := HX.out.c0
      have q1 := HX.out.c1
      refine (pStageWeights_L A D n' c n' d W1.heap.size W1.heap.size m b W1 HL.out HL'.out (by omega) (by omega) (Nat.le_refl _) (Nat.le_refl _) HM.out HR.out _ n2 c2 W1.heap.size t HTL.out (by omega) (Nat.le_refl _) HT.out hct).mono ?_
      rintro e u2 hN
      obtain ⟨A2, c2', rfl, o2, y⟩ := resL_out hN HV.out HWl.out
      have hz2 := y.size
      have HO2 := Lib.hid (OwnR.of o2)
      have HX2 := Lib.hid (HX.out.next y)
      have HM2 := Lib.hid ((HM.out.below y (Nat.le_refl _)).more hz2)
      have HR2 := Lib.hid ((HR.out.below y (Nat.le_refl _)).more hz2)
      have HT2 := Lib.hid ((HT.out.below y (Nat.le_refl _)).more hz2)
      have HB2 := Lib.hid (HB.out.trans (y.mono hbz))
      clear hN o2 y q0 q1 HX HM HR HT HB
      have q0 := HX2.out.c0
      have q1 := HX2.out.c1
      go_wp2_with fail
      refine (sStageWeights_L A D n' c n' d u2.heap.size u2.heap.size m b u2 HL.out HL'.out (by omega) (by omega) (Nat.le_refl _) (Nat.le_refl _) HM2.out HR2.out _ n2 c2 u2.heap.size t HTL.out (by omega) (Nat.le_refl _) HT2.out).mono ?_
      rintro e u3 hN
      obtain ⟨A3, c3, rfl, o3, y⟩ := resL_out hN HV.out HWl.out
      have hz3 := y.size
      have HO3 := Lib.hid (row_of_own o3)
      have HO32 := Lib.hid (((HO2.out.below y (Nat.le_refl _)).row).more hz3)
      have HX3 := Lib.hid (HX2.out.next y)
      have HM3 := Lib.hid ((HM2.out.below y (Nat.le_refl _)).more hz3)
      have HR3 := Lib.hid ((HR2.out.below y (Nat.le_refl _)).more hz3)
      have HT3 := Lib.hid ((HT2.out.below y (Nat.le_refl _)).more hz3)
      have hb2z := HB2.out.size
      have HB3 := Lib.hid (HB2.out.trans (y.mono hb2z))
      clear hN o3 y q0 q1 HX2 HM2 HR2 HT2 HB2 HO2
      go_wp2_with fail
      refine (likeInts_yes A2 A3 n' n' _ _ V V u3 rfl HWl.out HWl.out (by omega) HO32.out HO3.out).mono ?_
      rintro e w' ⟨rfl, md, rfl⟩
      obtain ⟨U, hU⟩ : ∃ U, U = u3.drewN md := ⟨_, rfl⟩
      have hUz1 : U.heap.size ≤ u3.heap.size := by rw [hU]; exact Nat.le_refl _
      have hUz2 : u3.heap.size ≤ U.heap.size := by rw [hU]; exact Nat.le_refl _
      have HXU : Hid (Bx U xb 27 (.slice A n' c) (.slice D n' d)) := by rw [hU]; exact HX3.out
      have HMU : Hid (Mat U U.heap.size A m) := by rw [hU]; exact HM3.out
      have HRU : Hid (Row U U.heap.size D (ints b)) := by rw [hU]; exact HR3.out
      have HTU : Hid (Row U U.heap.size (some ⟨g2, 0, none⟩) (ints t)) := by rw [hU]; exact HT3.out
      have HWU : Hid (Row U U.heap.size A2 (ints V)) := by rw [hU]; exact HO32.out
      have HBU : Hid (Below w.heap.size w U) := by rw [hU]; exact below_drewN HB3.out _
      have hbz3 := HB3.out.size
      have hxU : xb < U.heap.size := HXU.out.lt
      rw [← hU]
      clear hU HX3 HM3 HR3 HT3 HO3 HO32 HB3
      have F0 := Growing.start U 2
      go_wp2_with fail
      go_loopw [9, 10] (fun v i wr => ∃ j g cap : Nat, j ≤ n' ∧ v = .slice (some ⟨g, 0, none⟩) j cap ∧ i = .int .i64 j ∧ Growing U 2 g j cap (ints (List.replicate j 1)) wr) (fun _ i _ => n' - (intOf i).toNat)
      case atStart => exact ⟨0, _, 0, Nat.zero_le _, rfl, rfl, F0⟩
      case round =>
        clear F0
        obtain ⟨j, g, cap, hj, rfl, rfl, HF⟩ := hrel
        have q1 := (HXU.out.next HF.2).c1
        by_cases hlt : j < n'
        · have HF' := Lib.hid HF
          have hown := HF.1
          have hsz := HF.2.size
          have HG1 := Lib.hid (grow_one j)
          clear HF
          go_wp2_with (at_builtin; refine (wpList_append_lies _ rfl (.tmp 61) (.tmp 62) 25 rfl U.heap.size 2 i0 _ 1 8 Tryz.underlying25 hi hi0 hi1 hi2 rfl (by omega) (.slice (some ⟨g, 0, none⟩) j cap) j (ints (List.replicate j 1)) rfl (hown.alloc _) ⟨wr.heap.size, 0, none⟩ 1 1 [.int .i64 1] rfl rfl (World.news_of_block (cs := #[.int .i64 1]) (heap_alloc_new _ _)) (by simp [Value.oneCell']) (by omega) (by simp only [maxLen]; omega) (by omega) (by simp; omega) (wr.heap.size + 1) (by simp) ?_); intro g9 cap9 w9 hown9 hgrow9 hat9 hlt9)
          rw [HG1.out] at hown9
          have G := Lib.hid (HF'.out.step ((Below.refl _ _).alloc (Nat.le_refl _) _) hown9 hgrow9)
          clear hown9 hgrow9 hat9 hown q1
          go_wp2
          go_roundw
          case rel => exact ⟨j + 1, _, _, by omega, rfl, by go_num, G.out⟩
          case measure => simp [intOf]; omega
        · obtain rfl : j = n' := by omega
          have HP := Lib.hid (OwnR.of HF.1)
          have hbl := HF.2
          have hgl := HF.1.lt g rfl
          have hz4 := hbl.size
          have HX5 := Lib.hid (HXU.out.next hbl)
          have HM5 := Lib.hid (HMU.out.below hbl (Nat.le_refl _))
          have HR5 := Lib.hid (HRU.out.below hbl (Nat.le_refl _))
          have HT5 := Lib.hid (HTU.out.below hbl (Nat.le_refl _))
          have HW5 := Lib.hid (HWU.out.below hbl (Nat.le_refl _))
          have HB5 := Lib.hid (HBU.out.trans (hbl.mono (by omega)))
          clear HF hbl HXU HMU HRU HTU HWU HBU
          go_wp2_with fail
          clear q1
          refine (pBranchesOf_L (some ⟨g2, 0, none⟩) n2 c2 U.heap.size t wr HTL.out (by omega) (by omega) HT5.out hct).mono ?_
          rintro e w6 hN
          obtain ⟨A6, c6, vs6, rfl, o6, y⟩ := resM_out hN HBr.out HQL.out
          have hz6 := y.size
          have HO6 := Lib.hid o6
          have HP6 := Lib.hid (HP.out.below y (Nat.le_refl _))
          have HX6 := Lib.hid (HX5.out.next y)
          have HM6 := Lib.hid (HM5.out.below y (by omega))
          have HR6 := Lib.hid (HR5.out.below y (by omega))
          have HT6 := Lib.hid (HT5.out.below y (by omega))
          have HW6 := Lib.hid (HW5.out.below y (by omega))
          have hb5z := HB5.out.size
          have HB6 := Lib.hid (HB5.out.trans (y.mono hb5z))
          have S0 : Hid (WState U w6 2 g j cap (swTo m j (L.map Tr.txt) 0) w6) := by
            refine ⟨?_, Within.refl _ _ _⟩
            exact (HP6.out.more (Nat.le_refl _) (by omega)).1
          have FR : Hid (∀ xs wr, WState U w6 2 g j cap xs wr → Bx wr xb 27 (.slice A j c) (.slice D j d) ∧ Mat wr U.heap.size A m ∧ Row wr U.heap.size D (ints b) ∧ Row wr U.heap.size (some ⟨g2, 0, none⟩) (ints t) ∧ Row wr U.heap.size A2 (ints V) ∧ Mat wr w6.heap.size A6 L ∧ Below w.heap.size w wr ∧ w6.heap.size ≤ wr.heap.size) := fun xs wr hs => by
            have hb : Below U.heap.size w6 wr := hs.2.below (by omega) (by omega)
            exact ⟨HX6.out.within hs.2 (by omega), HM6.out.below hb (Nat.le_refl _), HR6.out.below hb (Nat.le_refl _), HT6.out.below hb (Nat.le_refl _), HW6.out.below hb (Nat.le_refl _), (HO6.out.within hs.2 (Nat.le_refl _) (by omega)).mat, HB6.out.trans (hb.mono (by omega)), hs.2.size⟩
          clear hN o6 y HP HX5 HM5 HR5 HT5 HW5 HB5 HP6 HX6 HM6 HR6 HT6 HW6 HB6 HO6
          go_wp2_with fail
          go_loopw [13] (fun i wr => ∃ k : Nat, k ≤ q ∧ i = .int .i64 k ∧ WState U w6 2 g j cap (swTo m j (L.map Tr.txt) k) wr) (fun i _ => q - (intOf i).toNat)
          case atStart => exact ⟨0, Nat.zero_le _, rfl, S0.out⟩
          case round =>
            clear S0
            obtain ⟨k, hk, rfl, HS⟩ := hrel
            obtain ⟨x9, m9, r9, t9, v9, l9, b9, z9⟩ := FR.out _ _ HS
            by_cases hlt : k < q
            · obtain ⟨r, hr⟩ := at_lt (show k < L.length by have := HQL.out; omega)
              obtain ⟨b3, o3, Ak, ck, rfl, hb3, hcb, hbl, hbm2, hbrow⟩ := l9 k r hr
              unfold maxLen at hbm2
              have hrl := HLL.out r (List.mem_of_getElem? hr)
              obtain ⟨hr1, hr8⟩ := lv_bd hrl
              have KK : Hid (∀ V, Below wr.heap.size wr V → V.cell? ⟨xb, 0, none⟩ = some (.slice A j c) ∧ V.cell? ⟨xb, 1, none⟩ = some (.slice D j d) ∧ V.cell? ⟨b3, o3 + k, none⟩ = some (.slice Ak r.length ck)) := fun V hV => ⟨(x9.next hV).c0, (x9.next hV).c1, (hV.cell (p := ⟨b3, o3 + k, none⟩) (show b3 < _ by omega)).trans hcb⟩
              have C1 := fun Z (hZ : Below wr.heap.size wr Z) => pStageWeights_L A D j c j d U.heap.size U.heap.size m b Z HL.out HL'.out (by omega) (by omega) (by have := hZ.size; omega) (by have := hZ.size; omega) (m9.below hZ (by omega)) (r9.below hZ (by omega)) Ak r.length ck w6.heap.size r rfl (by omega) (by have := hZ.size; omega) (hbrow.below hZ (by omega)) hbl
              have HSr := Lib.hid (HVr.out r hrl)
              have hSl : Hid ((sw m j (Tr.txt r)).length = j) := sw_len HL.out (Tr.tx_txt hrl)
              have hSn : Hid (allNum (sw m j (Tr.txt r)) = true) := sw_num (Tr.tx_txt hrl)
              have HE := Lib.hid (swTo_succ (m := m) (n := j) (L := L.map Tr.txt) (k := k) (b := Tr.txt r) (by rw [List.getElem?_map, hr]; rfl))
              have hVl : Hid ((swTo m j (L.map Tr.txt) k).length = j) := swTo_len HL.out _ _
              have hVn : Hid (allNum (swTo m j (L.map Tr.txt) k) = true) := swTo_num _ _ _ _
              obtain ⟨S, hS⟩ : ∃ S, S = sw m j (Tr.txt r) := ⟨_, rfl⟩
              rw [← hS] at HE hSl hSn HSr
              have hPl : Hid ((appL m S).length = j) := (appL_length _ _).trans HL.out
              obtain ⟨P, hP⟩ : ∃ P, P = appL m S := ⟨_, rfl⟩
              have HPA := Lib.hid hP
              rw [← hP] at HE hPl
              obtain ⟨V0, hV0⟩ : ∃ V, V = swTo m j (L.map Tr.txt) k := ⟨_, rfl⟩
              have HSB := Lib.hid HS
              rw [← hV0] at HE HSB hVl hVn
              have hkI : (k : Int) < (q : Int) := by omega
              clear hr hrl hS hP hV0 HS x9 m9 r9 t9 v9 l9 b9 hbrow
              go_wp2_with fail
              go_region_held3 (fun V => V.cell? ⟨xb, 0, none⟩ = some (.slice A j c) ∧ V.cell? ⟨xb, 1, none⟩ = some (.slice D j d) ∧ V.cell? ⟨b3, o3 + k, none⟩ = some (.slice Ak r.length ck))
                (first | exact KK.out _ (Below.refl _ _) | exact KK.out _ (Below.refl _ _).drew | exact KK.out _ (below_drewN (Below.refl _ _) _) | exact KK.out _ (below_undrawn (a := 1) be3))
                ((go_at_call 7; refine (C1 _ (by first | exact (Below.refl _ _).drew | exact below_drewN (Below.refl _ _) _)).mono ?_; clear C1; rintro e w7 hN; obtain ⟨A7, c7, rfl, o7, be3⟩ := resL_out hN HSr.out hSl.out))
              have hb7 : Below wr.heap.size wr w7 := below_undrawn (a := 1) be3
              have hz7 := hb7.size
              have HO7 := Lib.hid (show OwnR w7 wr.heap.size w7.heap.size 2 (.slice A7 j c7) j (ints S) from OwnR.of o7)
              have HS7 := Lib.hid (HSB.out.below hb7)
              have hzw := HSB.out.2.size
              clear o7 be3 hN KK hcb hb7 HSB
              go_wp2_with fail
              go_loopw [16] (fun i wj => ∃ l : Nat, l ≤ j ∧ i = .int .i64 l ∧ WState U w6 2 g j cap ((mulL V0 P).take l ++ V0.drop l) wj ∧ Within g (g + 1) w7 wj) (fun i _ => j - (intOf i).toNat)
              case atStart => exact ⟨0, Nat.zero_le _, rfl, by simpa using HS7.out, Within.refl _ _ _⟩
              case round =>
                obtain ⟨l, hl, rfl, HJ, HW4⟩ := hrel
                obtain ⟨x9, m9, r9, t9, v9, l9, b9, z9⟩ := FR.out _ _ HJ
                have hUl : Hid ((mulL V0 P).length = j) := mulL_length hVl.out hPl.out
                have y1 := x9.c1
                by_cases hjl : l < j
                · obtain ⟨rw_, hrw⟩ := at_lt (show l < m.length by rw [HL.out]; exact hjl)
                  obtain ⟨v, hv⟩ := at_lt (show l < V0.length by rw [hVl.out]; exact hjl)
                  obtain ⟨v0, v1⟩ := num_at hVn.out hv
                  have hrq := HW.out.at_ hrw
                  have hrn := HN.out rw_ (List.mem_of_getElem? hrw)
                  obtain ⟨b5, o5, A8, c8, rfl, _, hcr, _, _, hrow8⟩ := m9 l rw_ hrw
                  rw [hrq] at hcr
                  have y0 := x9.c0
                  have hP9 : P[l]? = some (dotK rw_ S j) := by rw [HPA.out]; exact appL_at hrw hSl.out
                  have C2 := dotOf_any' A8 A7 j j c8 c7 U.heap.size w7.heap.size rw_ S wr hrq hSl.out (by omega) (by omega) (by omega) (by have := HW4.size; omega) hrow8 ((HO7.out.within HW4 (Nat.le_refl _) (by omega)).row)
                  rw [dotA_yes (by omega) hrn hSn.out] at C2
                  have HU := mulL_at hv hP9
                  obtain ⟨p0, p1⟩ := dotK_bd rw_ S j
                  obtain ⟨p, hp⟩ : ∃ p, p = dotK rw_ S j := ⟨_, rfl⟩
                  rw [← hp] at C2 HU p0 p1
                  have hmul := mul_bd v0 v1 p0 p1
                  have hwv : IntKind.i64.wrap (v * p) = v * p := IntWalk.i64_in _ (by omega)
                  obtain ⟨u, hu⟩ : ∃ u, u = v * p % 10007 := ⟨_, rfl⟩
                  have C5 : ∀ w : World, Calls Tryz.prog 12 #[.int .i64 (v * p)] w fun e w' => e = .returned (.int .i64 u) ∧ w = w' := fun w => by rw [hu]; exact mod5_any _ _
                  rw [← hu] at HU
                  have HJ2 := Lib.hid HJ
                  have HW42 := Lib.hid HW4
                  have HUU := Lib.hid HU
                  have HV0 := Lib.hid hv
                  have hlI : (l : Int) < (j : Int) := by omega
                  have hz9 := HW4.size
                  clear hrw hrq hrn hrow8 hP9 hp hu HJ HW4 HU hv x9 m9 r9 t9 v9 l9 b9
                  go_wp2_with fail
                  refine C2.mono ?_
                  rintro e w8 ⟨rfl, be8⟩
                  have hz8 := be8.size
                  have HJ3 := HJ2.out.below be8
                  have hcv := HJ3.1.cellAt l (by omega)
                  rw [ints_at (mix_atW HV0.out (by rw [hVl.out, hUl.out]))] at hcv
                  have hfv := HJ3.1.frozenAt l
                  have G1 := HJ3.put (u := u) hjl
                  rw [mix_stepW HUU.out (by rw [hVl.out, hUl.out])] at G1
                  have HG1 := Lib.hid G1
                  have HG2 := Lib.hid ((HW42.out.trans (Within.of_below be8)).trans (Within.grown (HJ3.1.stored l (.int .i64 u)).2 (fun g' e => by injection e with e; subst e; exact ⟨Nat.le_refl _, Nat.lt_succ_self _⟩)))
                  clear HJ3 G1 be8 C2 HJ2 HW42 y0 y1 hcr
                  go_wp2_with fail
                  refine (C5 _).mono ?_
                  rintro e w' ⟨rfl, rfl⟩
                  clear C5
                  go_wp2
                  go_roundw
                  case rel => exact ⟨l + 1, by omega, by go_num, HG1.out, HG2.out⟩
                  case measure => simp [intOf]; omega
                · obtain rfl : l = j := by omega
                  rw [List.take_of_length_le (by rw [hUl.out]; exact Nat.le_refl _), List.drop_of_length_le (by rw [hVl.out]; exact Nat.le_refl _), List.append_nil, ← HE.out] at HJ
                  have HJH := Lib.hid HJ
                  clear HJ HW4 x9 m9 r9 t9 v9 l9 b9 HS7
                  go_wp2
                  go_roundw
                  case rel => exact ⟨k + 1, by omega, by go_num, HJH.out⟩
                  case measure => simp [intOf]; omega
            · obtain rfl : k = q := by omega
              rw [HSQ.out] at HS
              obtain ⟨x9, m9, r9, t9, v9, l9, b9, z9⟩ := FR.out _ _ HS
              have y0 := x9.c0
              have y1 := x9.c1
              have HX9 := Lib.hid x9
              have HM9 := Lib.hid m9
              have HR9 := Lib.hid r9
              have HT9 := Lib.hid t9
              have HV9 := Lib.hid v9
              have HB9 := Lib.hid b9
              have HP9 := Lib.hid (row_of_own HS.1)
              have C2 := dotOf_any' D A2 j j d c2' U.heap.size U.heap.size b V wr HL'.out HWl.out (by omega) (by omega) (by omega) (by omega) r9 v9
              rw [dotA_yes (by omega) HNB.out HWn.out] at C2
              clear HS x9 m9 r9 t9 v9 l9 b9
              go_wp2_with fail
              refine C2.mono ?_
              rintro e w8 ⟨rfl, be8⟩
              have hz8 := be8.size
              have HX8 := HX9.out.next be8
              have u0 := HX8.c0
              have u1_ := HX8.c1
              have HM8 := Lib.hid (HM9.out.below be8 (by omega))
              have HR8 := Lib.hid (HR9.out.below be8 (by omega))
              have HT8 := Lib.hid (HT9.out.below be8 (by omega))
              have HV8 := Lib.hid (HV9.out.below be8 (by omega))
              have HP8 := Lib.hid (HP9.out.below be8 (Nat.le_refl _))
              have hbz9 := HB9.out.size
              have HB8 := Lib.hid (HB9.out.trans (be8.mono hbz9))
              clear be8 HX8 C2 y0 y1
              go_wp2_with fail
              refine (pWeightOf_L A D j c j d U.heap.size U.heap.size m b w8 HL.out HL'.out (by omega) (by omega) (by omega) (by omega) HM8.out HR8.out _ n2 c2 U.heap.size t HTL.out (by omega) (by omega) HT8.out hct).mono ?_
              rintro e w10 hN
              obtain ⟨rfl, y⟩ := resI_outW hN HVW.out
              rw [HWT.out]
              have hz10 := y.size
              have HV10 : Hid (Lst w10 A2 V) := (HV8.out.below y (by omega)).more (by omega)
              have HP10 : Hid (Lst w10 (some ⟨g, 0, none⟩) V) := (HP8.out.below y (by omega)).more (by omega)
              have hbz8 := HB8.out.size
              have HB10 := Lib.hid (HB8.out.trans (y.mono hbz8))
              clear hN y u0 u1_
              go_wp2_with fail
              refine (likeInts_yes (some ⟨g, 0, none⟩) A2 j j cap c2' V V w10 rfl HWl.out HWl.out (by omega) HP10.out HV10.out).mono ?_
              rintro e w' ⟨rfl, md2, rfl⟩
              have BE := Lib.hid (below_drewN HB10.out md2)
              go_wp2
              go_ret
              exact ⟨by simp, BE.out⟩
    · have HV : Hid (stageWA m b t = ([], 1)) := by unfold stageWA; rw [Hid, if_neg hv]
      have q0 := HX.out.c0
      have q1 := HX.out.c1
      clear hv
      refine (pStageWeights_L A D n c n' d W1.heap.size W1.heap.size m b W1 HL.out HL'.out (by omega) (by omega) (Nat.le_refl _) (Nat.le_refl _) HM.out HR.out _ n2 c2 W1.heap.size t HTL.out (by omega) (Nat.le_refl _) HT.out hct).mono ?_
      rintro e u2 hN
      obtain ⟨A2, c2', rfl, o2, y⟩ := resL_out (n := 0) hN HV.out rfl
      have hz2 := y.size
      have HX2 := Lib.hid (HX.out.next y)
      have HM2 := Lib.hid ((HM.out.below y (Nat.le_refl _)).more hz2)
      have HR2 := Lib.hid ((HR.out.below y (Nat.le_refl _)).more hz2)
      have HT2 := Lib.hid ((HT.out.below y (Nat.le_refl _)).more hz2)
      have HB2 := Lib.hid (HB.out.trans (y.mono hbz))
      clear hN o2 y q0 q1 HX HM HR HT HB
      have q0 := HX2.out.c0
      have q1 := HX2.out.c1
      go_wp2_with fail
      refine (sStageWeights_L A D n c n' d u2.heap.size u2.heap.size m b u2 HL.out HL'.out (by omega) (by omega) (Nat.le_refl _) (Nat.le_refl _) HM2.out HR2.out _ n2 c2 u2.heap.size t HTL.out (by omega) (Nat.le_refl _) HT2.out).mono ?_
      rintro e u3 hN
      obtain ⟨A3, c3, rfl, o3, y⟩ := resL_out (n := 0) hN HV.out rfl
      have hb2z := HB2.out.size
      have HB3 := Lib.hid (HB2.out.trans (y.mono hb2z))
      clear hN o3 y q0 q1 HX2 HM2 HR2 HT2 HB2
      go_wp2_with fail
      refine (likeInts_yes A2 A3 0 0 _ _ [] [] u3 rfl rfl rfl (by omega) (Row.nil _ _ _) (Row.nil _ _ _)).mono ?_
      rintro e w' ⟨rfl, md, rfl⟩
      have BE := Lib.hid (below_drewN HB3.out md)
      go_wp2
      go_ret
      exact ⟨rfl, BE.out⟩
  · have t0 : decide ((4096 : Int) < len0) = true := decide_eq_true (by omega)
    go_enter Tryz.func3, Tryz.ntmps3
    go_wp2_with fail
    refine (big_any _ _ _ _ (by omega)).mono ?_
    rintro e w' ⟨rfl, rfl⟩
    go_wp2
    go_ret
    exact ⟨rfl, Below.refl _ _⟩
/-- the statement -/
theorem holds : Rows.FnStageWeightsSaid := of_walk walk
end Go.Proofs.YtpngohklicgbjaaGreat.fnStageWeights
