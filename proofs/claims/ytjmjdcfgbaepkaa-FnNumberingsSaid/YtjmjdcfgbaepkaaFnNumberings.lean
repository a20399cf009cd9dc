/-
  PROVED: for every code the law FnNumberings returns true: the numbers of rising numberings are those of a polynomial, whose values at -1 and -2 are, up to their signs, the numbers of strict ones.
  CONDITIONS: none; every slice of bytes.
-/
import Derived.Test.YtjmjdcfgbaepkaaNmbF
import Derived.Test.YtjmjdcfgbaepkaaNmbX
import Derived.Test.YtjmjdcfgbaepkaaOuts
import Derived.Test.YtjmjdcfgbaepkaaDrawT
import Derived.Test.YtjmjdcfgbaepkaaFFnNumberings
namespace Go.Proofs.Ytjmjdcfgbaepkaa.fnNumberings
open Go.ChangeShapes Go.WideShapes Go.ChangeAt Go.RowKit Fld
set_option linter.unusedVariables false
set_option linter.unusedSimpArgs false
set_option maxRecDepth 100000

/-- what the calls of the law answer at a level list -/
theorem num_facts {t : List Int} (h : Tr.isLv t = true) : ∃ x : List UInt8, Tr.isTx x = true ∧ x.length / 2 = t.length ∧ (1 ≤ t.length ∧ t.length ≤ 8) ∧
    ∀ k : Nat, k ≤ 10 → countRisingA t (k : Int) = ((Tr.nm 0 x).getD k 0, 0) ∧ countStrictA t (k : Int) = ((Tr.nm 1 x).getD k 0, 0) ∧ (0 ≤ (Tr.nm 0 x).getD k 0 ∧ (Tr.nm 0 x).getD k 0 ≤ 1000000000) ∧ (0 ≤ (Tr.nm 1 x).getD k 0 ∧ (Tr.nm 1 x).getD k 0 ≤ 1000000000) := by
  obtain ⟨h1, h8⟩ := lv_bd h
  have hx := Tr.tx_txt h
  have hl := (lv_txt h).2.2.2
  obtain ⟨_, l0, b0, _⟩ := Tr.nm_parts (g := 0) (by omega) hx
  obtain ⟨_, l1, b1, _⟩ := Tr.nm_parts (g := 1) (by omega) hx
  refine ⟨Tr.txt t, hx, by omega, ⟨h1, h8⟩, fun k hk => ⟨numA_yes h hk, numA_yes h hk, ?_, ?_⟩⟩
  · rw [List.getD_eq_getElem?_getD, List.getElem?_eq_getElem (by omega)]
    exact b0 _ (List.getElem_mem _)
  · rw [List.getD_eq_getElem?_getD, List.getElem?_eq_getElem (by omega)]
    exact b1 _ (List.getElem_mem _)
theorem own_past2 {w w1 : World} {base n k : Nat} {T : TypeId} {v : Value} {vs : List Value} (h : w.ownsRow base T k v n vs) (o : Below w.heap.size w w1) : w1.ownsRow base T k v n vs := ownsRow_keep' h (fun z hz => o.block z (h.lt z hz).2)
theorem ints_snoc' (ys : List Int) (r : Int) : ints ys ++ [.int .i64 r] = ints (ys ++ [r]) := by simp [ints, intsK]
theorem ints_set' (ys : List Int) (r : Int) (k : Nat) : (ints ys).set k (.int .i64 r) = ints (ys.set k r) := by simp [ints, intsK, List.map_set]
theorem rowK_length {x : List UInt8} {m : Nat} (h : (Tr.nm 0 x).length = 11) (hm : m ≤ 11) : (Tr.rowK x m).length = m + 2 := by
  unfold Tr.rowK
  simp only [List.length_cons, List.length_take]; omega

set_option maxHeartbeats 8000000 in
theorem walk (w : World) (a0 : Option Addr) (len0 cap0 : Nat) (z0 : List Int) (w0 : IsRow .u8 w a0 len0 cap0 z0) : Calls Try.prog 4 #[.slice a0 len0 cap0] w fun e w' => e = .returned (.bool true) ∧ Below w.heap.size w w' := by
  obtain ⟨i0, hi, hz0, hz1, hz2⟩ := info_parts info_i64
  have hcode := isCode_of w0
  have hcm := w0.2.2.1
  have hlc := w0.2.1
  unfold maxLen at hcm
  have HX := Lib.hid hcode
  clear hcode w0
  by_cases hn : len0 ≤ 4096
  · have t0 : decide ((4096 : Int) < len0) = false := decide_eq_false (by omega)
    go_enter Try.func4, Try.ntmps4
    go_wp2_with fail
    refine (big_any _ _ _ _ (by omega)).mono ?_
    rintro e w' ⟨rfl, rfl⟩
    go_wp2_with fail
    refine (drawCountRising_any _ _ _ _ _ hn HX.out).mono ?_
    rintro e u1 ⟨At, ct, n, t, k, rfl, lt, hn16, hct, rt, hk, b1⟩
    have Rt := Lib.hid (show Lst u1 At t from rt)
    have B := Lib.hid b1
    have Et := Lib.hid lt
    clear rt b1 lt
    by_cases hv : Tr.isLv t = true ∧ 0 ≤ k ∧ k ≤ 10
    · obtain ⟨v1, v2, v3⟩ := hv
      obtain ⟨kn, rfl⟩ : ∃ kn : Nat, k = (kn : Int) := ⟨k.toNat, by omega⟩
      obtain ⟨x, f1, f2, ⟨f3, f4⟩, f5⟩ := num_facts v1
      rw [Et.out] at f2 f3 f4
      obtain ⟨g1, g2, g3, g4, g5⟩ := Tr.v_parts f1 f2
      have h11 : (Tr.nm 0 x).length = 11 := (Tr.nm_parts (g := 0) (by omega) f1).2.1
      obtain ⟨a1, a2, a3, a4⟩ := f5 kn (by omega)
      obtain ⟨c1, c2, c3, c4⟩ := f5 1 (by omega)
      obtain ⟨d1, d2, d3, d4⟩ := f5 2 (by omega)
      have a5 := g5 kn (by omega)
      obtain ⟨R, hR⟩ : ∃ z, z = (Tr.nm 0 x).getD kn 0 := ⟨_, rfl⟩
      obtain ⟨S, hS⟩ : ∃ z, z = (Tr.nm 1 x).getD kn 0 := ⟨_, rfl⟩
      obtain ⟨S1, hS1⟩ : ∃ z, z = (Tr.nm 1 x).getD 1 0 := ⟨_, rfl⟩
      obtain ⟨S2, hS2⟩ : ∃ z, z = (Tr.nm 1 x).getD 2 0 := ⟨_, rfl⟩
      rw [← hR] at a1 a3 a5
      rw [← hS] at a2 a4 a5
      rw [← hS1] at c2 c4 g3
      rw [← hS2] at d2 d4 g4
      have A1 := Lib.hid a1
      have A2 := Lib.hid a2
      have C2 := Lib.hid (show countStrictA t 1 = (S1, 0) from c2)
      have D2 := Lib.hid (show countStrictA t 2 = (S2, 0) from d2)
      have F5 := Lib.hid f5
      have G1 := Lib.hid g1
      have G2 := Lib.hid g2
      have G3 := Lib.hid g3
      have G4 := Lib.hid g4
      have H11 := Lib.hid h11
      have hsr : decide (R < S) = false := decide_eq_false (by omega)
      clear f5 g1 g2 g3 g4 g5 a1 a2 c1 c2 c3 d1 d2 d3 hR hS hS1 hS2 h11 f1 f2 v1
      go_wp2_with fail
      refine (pCountRising_L _ n _ _ t _ _ Et.out (by omega) (Nat.le_refl _) Rt.out (by omega) hct).mono ?_
      rintro e u2 hN
      obtain ⟨rfl, y⟩ := resI_out hN A1.out
      replace Rt := Lib.hid (Rt.out.next y)
      replace B := Lib.hid (below_step B.out B.out.size y)
      clear hN y
      go_wp2_with fail
      refine (sCountRising_L _ n _ _ t _ _ Et.out (by omega) (Nat.le_refl _) Rt.out (by omega)).mono ?_
      rintro e u3 hN
      obtain ⟨rfl, y⟩ := resI_out hN A1.out
      replace Rt := Lib.hid (Rt.out.next y)
      replace B := Lib.hid (below_step B.out B.out.size y)
      have z0 : (R != R) = false := bne_f rfl
      clear hN y
      go_wp2_with fail
      refine (pCountStrict_L _ n _ _ t _ _ Et.out (by omega) (Nat.le_refl _) Rt.out (by omega) hct).mono ?_
      rintro e u4 hN
      obtain ⟨rfl, y⟩ := resI_out hN A2.out
      replace Rt := Lib.hid (Rt.out.next y)
      replace B := Lib.hid (below_step B.out B.out.size y)
      have hsz4 := B.out.size
      have O0 : Hid ((u4.alloc (.cells #[.int .i64 0, .int .i64 0] 2)).ownsRow u4.heap.size 2 1 (.slice (some ⟨u4.heap.size, 0, none⟩) 2 2) 2 (ints (Tr.rowK x 0))) := World.ownsRow_lit u4 #[.int .i64 0, .int .i64 0] 2 (Nat.le_refl _) (by decide) rfl
      have R0 : Hid (Row (u4.alloc (.cells #[.int .i64 0, .int .i64 0] 2)) u4.heap.size At (ints t)) := Row.alloc Rt.out (Nat.le_refl _) _
      have B0 : Hid (Below w.heap.size w (u4.alloc (.cells #[.int .i64 0, .int .i64 0] 2))) := B.out.alloc B.out.size _
      clear hN y Rt B
      go_wp2_with fail
      go_loopw [12, 13] (fun v q wr => ∃ m g cap : Nat, m ≤ n + 1 ∧ v = .slice (some ⟨g, 0, none⟩) (m + 2) cap ∧ q = .int .i64 m ∧ Hid (wr.ownsRow u4.heap.size 2 1 (.slice (some ⟨g, 0, none⟩) (m + 2) cap) (m + 2) (ints (Tr.rowK x m))) ∧ Hid (Row wr u4.heap.size At (ints t)) ∧ Hid (Below w.heap.size w wr) ∧ u4.heap.size ≤ wr.heap.size) (fun _ q _ => n + 1 - (intOf q).toNat)
      case atStart => exact ⟨0, _, _, by omega, rfl, rfl, O0, R0, B0, by simp⟩
      case round =>
        clear O0 R0 B0
        obtain ⟨m, g, cap, hm, rfl, rfl, HO, HRW, B, hsz⟩ := hrel
        by_cases hlt : m ≤ n
        · have hle : decide ((m : Int) ≤ (n : Int)) = true := decide_eq_true (by omega)
          obtain ⟨p1, _, p3, _⟩ := F5.out m (by omega)
          have HSN := Lib.hid (Tr.rowK_step (x := x) (k := m) (by rw [H11.out]; omega))
          obtain ⟨r, hr⟩ : ∃ z, z = (Tr.nm 0 x).getD m 0 := ⟨_, rfl⟩
          rw [← hr] at p1 p3 HSN
          have P1 := Lib.hid p1
          clear p1 hr
          go_wp2_with fail
          refine (pCountRising_L _ n _ u4.heap.size t _ _ Et.out (by omega) hsz HRW.out (by omega) hct).mono ?_
          rintro e w1 hN
          obtain ⟨rfl, y⟩ := resI_out hN P1.out
          have own1 := own_past2 HO.out y
          have HRW1 := Lib.hid ((HRW.out.below y hsz))
          replace B := Lib.hid (below_step B.out B.out.size y)
          have hsz1 : u4.heap.size ≤ w1.heap.size := Nat.le_trans hsz y.size
          have hgb := own1.lt g rfl
          clear hN y HO HRW
          go_wp2_with (at_builtin; refine wpList_append_lies _ rfl (.tmp 90) (.tmp 92) 24 rfl u4.heap.size 2 i0 _ 1 8 Try.underlying24 hi hz0 hz1 hz2 rfl (by omega) (.slice (some ⟨g, 0, none⟩) (m + 2) cap) (m + 2) (ints (Tr.rowK x m)) rfl (own1.alloc _) ⟨w1.heap.size, 0, none⟩ 1 1 [.int .i64 r] rfl rfl (World.news_of_block (cs := #[.int .i64 r]) (heap_alloc_new _ _)) (by simp [Value.oneCell']) (by omega) (by simp only [maxLen]; omega) (by omega) (by simp; omega) (w1.heap.size + 1) (by simp) ?_; intro g2 cap2 w2 hown2 hgrow2 hat2 hlt2)
          rw [ints_snoc', HSN.out] at hown2
          have HRW2 : Hid (Row w2 u4.heap.size At (ints t)) := Row.only (Row.alloc HRW1.out hsz1 _) hgrow2 hgb.1
          have B2 : Hid (Below w.heap.size w w2) := (B.out.alloc B.out.size _).grown hgrow2 (by have := B.out.size; simp; omega) (fun k hk => by cases hk; show w.heap.size ≤ g; omega)
          have hsz2 : u4.heap.size ≤ w2.heap.size := Nat.le_trans (by simp; omega) hgrow2.size
          have OW2 := Lib.hid hown2
          clear hown2 hgrow2 hat2 own1
          go_wp2
          go_roundw
          case rel => exact ⟨m + 1, _, _, by omega, rfl, by go_num, OW2, HRW2, B2, hsz2⟩
          case measure => simp [intOf]; omega
        · obtain rfl : m = n + 1 := by omega
          have hle : decide (((n + 1 : Nat) : Int) ≤ (n : Int)) = false := decide_eq_false (by omega)
          rw [Tr.rowK_end] at HO
          have hg := (HO.out.lt g rfl)
          have HLEN := fun a => Lib.hid (Tr.stV_length n x G2.out a)
          go_wp2_with fail
          go_loopw [16] (fun q W => ∃ a : Nat, a ≤ 2 ∧ q = .int .i64 ((a : Int) - 1) ∧ Hid (W.ownsRow u4.heap.size 2 1 (.slice (some ⟨g, 0, none⟩) (n + 1 + 2) cap) (n + 1 + 2) (ints (Tr.stV n x a))) ∧ Hid (Row W u4.heap.size At (ints t)) ∧ Hid (Below w.heap.size w W) ∧ u4.heap.size ≤ W.heap.size) (fun q _ => (intOf q + 1).toNat)
          case atStart => exact ⟨2, by omega, rfl, HO, HRW, B, hsz⟩
          case round =>
            clear HO HRW B hsz
            obtain ⟨a, ha, rfl, HO, HRW, B, hsz⟩ := hrel
            rcases Nat.eq_zero_or_pos a with ha0 | ha0
            · subst ha0
              have h0 : decide ((0 : Int) ≤ ((0 : Nat) : Int) - 1) = false := by decide
              have hl0 := (HLEN 0).out
              have q0 := HO.out.cellAt 0 (by omega)
              have q1 := HO.out.cellAt 1 (by omega)
              obtain ⟨y0, e0⟩ := at_lt (show 0 < (Tr.stV n x 0).length by omega)
              obtain ⟨y1, e1⟩ := at_lt (show 1 < (Tr.stV n x 0).length by omega)
              rw [ints_at e0] at q0
              rw [ints_at e1] at q1
              have g3 := G3.out
              have g4 := G4.out
              rw [List.getD_eq_getElem?_getD, e1, Option.getD_some] at g3
              rw [List.getD_eq_getElem?_getD, e0, Option.getD_some] at g4
              have hgw := (HO.out.lt g rfl).2
              clear HO e0 e1 HLEN hl0 hg
              by_cases hod : n % 2 = 1
              · have em1 : ((n : Int)).tmod 2 = 1 := by rw [Int.tmod_eq_emod_of_nonneg (by omega)]; omega
                rw [if_pos hod] at g3 g4
                subst g3 g4
                clear hod
                go_wp2_with fail
                refine (pCountStrict_L _ n _ u4.heap.size t _ _ Et.out (by omega) hsz HRW.out (by omega) hct).mono ?_
                rintro e w5 hN
                obtain ⟨rfl, y⟩ := resI_out hN C2.out
                have HRW2 : Hid (Row w5 u4.heap.size At (ints t)) := HRW.out.below y hsz
                replace q0 := (y.cell (p := ⟨g, 0, none⟩) hgw).trans q0
                replace q1 := (y.cell (p := ⟨g, 1, none⟩) hgw).trans q1
                have hgw2 : g < w5.heap.size := Nat.lt_of_lt_of_le hgw y.size
                have hsz2 : u4.heap.size ≤ w5.heap.size := Nat.le_trans hsz y.size
                replace B := Lib.hid (below_step B.out B.out.size y)
                clear hN y HRW
                go_wp2_with fail
                refine (pCountStrict_L _ n _ u4.heap.size t _ _ Et.out (by omega) hsz2 HRW2.out (by omega) hct).mono ?_
                rintro e w6 hN
                obtain ⟨rfl, y⟩ := resI_out hN D2.out
                replace q0 := (y.cell (p := ⟨g, 0, none⟩) hgw2).trans q0
                replace q1 := (y.cell (p := ⟨g, 1, none⟩) hgw2).trans q1
                replace B := Lib.hid (below_step B.out B.out.size y)
                clear hN y HRW2
                go_wp2
                go_ret
                exact ⟨by simp, B.out⟩
              · have em1 : ((n : Int)).tmod 2 = 0 := by rw [Int.tmod_eq_emod_of_nonneg (by omega)]; omega
                rw [if_neg hod] at g3 g4
                subst g3 g4
                clear hod
                go_wp2_with fail
                refine (pCountStrict_L _ n _ u4.heap.size t _ _ Et.out (by omega) hsz HRW.out (by omega) hct).mono ?_
                rintro e w5 hN
                obtain ⟨rfl, y⟩ := resI_out hN C2.out
                have HRW2 : Hid (Row w5 u4.heap.size At (ints t)) := HRW.out.below y hsz
                replace q0 := (y.cell (p := ⟨g, 0, none⟩) hgw).trans q0
                replace q1 := (y.cell (p := ⟨g, 1, none⟩) hgw).trans q1
                have hgw2 : g < w5.heap.size := Nat.lt_of_lt_of_le hgw y.size
                have hsz2 : u4.heap.size ≤ w5.heap.size := Nat.le_trans hsz y.size
                replace B := Lib.hid (below_step B.out B.out.size y)
                clear hN y HRW
                go_wp2_with fail
                refine (pCountStrict_L _ n _ u4.heap.size t _ _ Et.out (by omega) hsz2 HRW2.out (by omega) hct).mono ?_
                rintro e w6 hN
                obtain ⟨rfl, y⟩ := resI_out hN D2.out
                replace q0 := (y.cell (p := ⟨g, 0, none⟩) hgw2).trans q0
                replace q1 := (y.cell (p := ⟨g, 1, none⟩) hgw2).trans q1
                replace B := Lib.hid (below_step B.out B.out.size y)
                clear hN y HRW2
                go_wp2
                go_ret
                exact ⟨by simp, B.out⟩
            · obtain ⟨p, rfl⟩ : ∃ p, a = p + 1 := ⟨a - 1, by omega⟩
              have hp1 : p ≤ 1 := by omega
              have ep : (((p + 1 : Nat) : Int) - 1) = (p : Int) := by omega
              have EP := Lib.hid ep
              have HV := fun j (hj : j ≤ n + 1) => Lib.hid (G1.out p j hp1 hj)
              have HBG := Lib.hid (Tr.stV_begin n x hp1)
              have HEN := Lib.hid (Tr.stV_end n x hp1)
              have hll := (HLEN (p + 1)).out
              obtain ⟨l, hl⟩ : ∃ l, l = Tr.stV n x (p + 1) := ⟨_, rfl⟩
              rw [← hl] at HBG HEN hll HO
              simp only [← hl] at HV
              have HO' : Hid (wr.ownsRow u4.heap.size 2 1 (.slice (some ⟨g, 0, none⟩) (n + 1 + 2) cap) (n + 1 + 2) (ints (l.set p (Tr.accTo n l p 0)))) := by rw [HBG.out]; exact HO.out
              have HLL := Lib.hid hll
              have hb0 : decide ((0 : Int) ≤ (p : Int)) = true := decide_eq_true (by omega)
              rw [ep]
              clear hl hll HO HBG HLEN ep
              go_wp2_with fail
              go_loopw [17, 18, 19] (fun c s q Y => ∃ i : Nat, i ≤ n + 1 ∧ c = .int .i64 (Tr.chsTo n i) ∧ s = .int .i64 (Tr.sgnTo i) ∧ q = .int .i64 ((i : Int) + 1) ∧ Hid (Y.ownsRow u4.heap.size 2 1 (.slice (some ⟨g, 0, none⟩) (n + 1 + 2) cap) (n + 1 + 2) (ints (l.set p (Tr.accTo n l p i)))) ∧ Hid (Row Y u4.heap.size At (ints t)) ∧ Hid (Below w.heap.size w Y) ∧ u4.heap.size ≤ Y.heap.size) (fun _ _ q _ => (n : Nat) + 2 - (intOf q).toNat)
              case atStart => exact ⟨0, by omega, rfl, rfl, rfl, HO', HRW, B, hsz⟩
              case round =>
                clear HO' HRW B hsz
                obtain ⟨i, hi9, rfl, rfl, rfl, HO, HRW, B, hsz⟩ := hrel
                by_cases hin : i ≤ n
                · have hle9 : decide ((i : Int) + 1 ≤ (n : Int) + 1) = true := decide_eq_true (by omega)
                  obtain ⟨⟨k1, k2⟩, ⟨k3, k4⟩, k5, k6, k7⟩ := Tr.chs_parts (n := n) (j := i) (by omega) hin
                  obtain ⟨⟨m1, m2⟩, ⟨m3, m4⟩, m5, m6⟩ := (HV i (by omega)).out
                  obtain ⟨⟨m7, m8⟩, _, _⟩ := (HV (i + 1) (by omega)).out
                  have HST : Hid (Tr.accTo n l p (i + 1) = Tr.accTo n l p i + Tr.sgnTo i * Tr.chsTo n (i + 1) * l.getD (p + (i + 1)) 0) := rfl
                  have HCS : (Tr.chsTo n i * ((n : Int) + 2 - ((i : Int) + 1))).tdiv ((i : Int) + 1) = Tr.chsTo n (i + 1) := rfl
                  have HSS : Hid (Tr.sgnTo (i + 1) = -Tr.sgnTo i) := rfl
                  obtain ⟨y, hy⟩ := at_lt (show p + (i + 1) < l.length by rw [HLL.out]; omega)
                  have hyd : l.getD (p + (i + 1)) 0 = y := by rw [List.getD_eq_getElem?_getD, hy]; rfl
                  rw [hyd] at m3 m4 m5 m6 HST
                  have hc1 := HO.out.cellAt p (by omega)
                  have hc2 := HO.out.cellAt (p + (i + 1)) (by omega)
                  have hf1 := HO.out.frozenAt p
                  have e1 : (l.set p (Tr.accTo n l p i))[p]? = some (Tr.accTo n l p i) := by rw [List.getElem?_set_self (by rw [HLL.out]; omega)]
                  have e2 : (l.set p (Tr.accTo n l p i))[p + (i + 1)]? = some y := by rw [List.getElem?_set_ne (by omega)]; exact hy
                  rw [ints_at e1] at hc1
                  rw [ints_at e2] at hc2
                  have HG : Hid ((wr.setCell ⟨g, p, none⟩ (.int .i64 (Tr.accTo n l p (i + 1)))).ownsRow u4.heap.size 2 1 (.slice (some ⟨g, 0, none⟩) (n + 1 + 2) cap) (n + 1 + 2) (ints (l.set p (Tr.accTo n l p (i + 1)))) ∧ wr.grownBy (wr.setCell ⟨g, p, none⟩ (.int .i64 (Tr.accTo n l p (i + 1)))) (some g)) := by
                    have h1 := HO.out.stored p (.int .i64 (Tr.accTo n l p (i + 1)))
                    rw [ints_set', List.set_set] at h1
                    exact h1
                  rw [HST.out] at m7 m8
                  obtain ⟨cc, hcc⟩ : ∃ z, z = Tr.chsTo n i := ⟨_, rfl⟩
                  obtain ⟨cn, hcn⟩ : ∃ z, z = Tr.chsTo n (i + 1) := ⟨_, rfl⟩
                  obtain ⟨sg, hsg⟩ : ∃ z, z = Tr.sgnTo i := ⟨_, rfl⟩
                  obtain ⟨va, hva⟩ : ∃ z, z = Tr.accTo n l p i := ⟨_, rfl⟩
                  rw [← hcc] at k3 k4 HCS
                  rw [← hcn] at k1 k2 k6 k7 m5 m6 m7 m8 HCS HST
                  rw [← hsg] at k5 k6 k7 m5 m6 m7 m8 HST HSS
                  rw [← hva] at m1 m2 m7 m8 hc1 HST
                  rw [HST.out] at HG
                  rw [← hcc, ← hsg]
                  have hw1 : IntKind.i64.wrap (cc * ((n : Int) + 2 - ((i : Int) + 1))) = cc * ((n : Int) + 2 - ((i : Int) + 1)) := IntWalk.i64_in _ (by omega)
                  have hw2 : IntKind.i64.wrap cn = cn := IntWalk.i64_in _ (by omega)
                  have hw3 : IntKind.i64.wrap (sg * cn) = sg * cn := IntWalk.i64_in _ (by omega)
                  have hw4 : IntKind.i64.wrap (sg * cn * y) = sg * cn * y := IntWalk.i64_in _ (by omega)
                  have hw5 : IntKind.i64.wrap (va + sg * cn * y) = va + sg * cn * y := IntWalk.i64_in _ (by omega)
                  have hw6 : IntKind.i64.wrap (-sg) = -sg := IntWalk.i64_in _ (by omega)
                  have HCN := Lib.hid hcn
                  have HGB := Lib.hid hg
                  clear hy hyd e1 e2 hcc hcn hsg hva HO
                  go_wp2_with fail
                  go_region
                  have HO2 := Lib.hid (World.ownsRow.drew HG.out.1)
                  have HR2 : Hid (Row (wr.setCell ⟨g, p, none⟩ (.int .i64 (va + sg * cn * y))).drew u4.heap.size At (ints t)) := (Row.only HRW.out HG.out.2 HGB.out.1).drewN 1
                  have HB2 : Hid (Below w.heap.size w (wr.setCell ⟨g, p, none⟩ (.int .i64 (va + sg * cn * y))).drew) := (B.out.grown HG.out.2 B.out.size (fun k hk => by cases hk; show w.heap.size ≤ g; have := HGB.out.1; omega)).drew
                  have hs2 : u4.heap.size ≤ (wr.setCell ⟨g, p, none⟩ (.int .i64 (va + sg * cn * y))).drew.heap.size := Nat.le_trans hsz HG.out.2.size
                  clear HG HRW B hsz hc1 hc2 hf1
                  go_wp2
                  go_roundw
                  case rel => exact ⟨i + 1, by omega, by rw [← HCN.out], by rw [HSS.out], by go_num, by rw [HST.out]; exact HO2, HR2, HB2, hs2⟩
                  case measure => simp [intOf]; omega
                · obtain rfl : i = n + 1 := by omega
                  have hle9 : decide (((n + 1 : Nat) : Int) + 1 ≤ (n : Int) + 1) = false := decide_eq_false (by omega)
                  have HO3 : Hid (wr.ownsRow u4.heap.size 2 1 (.slice (some ⟨g, 0, none⟩) (n + 1 + 2) cap) (n + 1 + 2) (ints (Tr.stV n x p))) := by rw [← HEN.out]; exact HO.out
                  clear HO HEN HV
                  go_wp2
                  go_roundw
                  case rel => exact ⟨p, by omega, by go_num, HO3, HRW, B, hsz⟩
                  case measure => simp [intOf]
    · obtain ⟨c, hc, hc', hc0⟩ : ∃ c : Int, countRisingA t k = (0, c) ∧ countStrictA t k = (0, c) ∧ c ≠ 0 := by
        cases h1 : Tr.isLv t
        · exact ⟨1, numA_no h1, numA_no h1, by decide⟩
        · exact ⟨2, numA_out h1 (fun e => hv ⟨h1, e.1, e.2⟩), numA_out h1 (fun e => hv ⟨h1, e.1, e.2⟩), by decide⟩
      have F1 := Lib.hid hc
      have F2 := Lib.hid hc'
      have z1 := bne_t hc0
      have z2 := beq_t (show c = c from rfl)
      have z3 : (c != c) = false := bne_f rfl
      clear hc hc' hc0 hv
      go_wp2_with fail
      refine (pCountRising_L _ n _ _ t _ _ Et.out (by omega) (Nat.le_refl _) Rt.out (by omega) hct).mono ?_
      rintro e u2 hN
      obtain ⟨rfl, y⟩ := resI_out hN F1.out
      replace Rt := Lib.hid (Rt.out.next y)
      replace B := Lib.hid (below_step B.out B.out.size y)
      clear hN y
      go_wp2_with fail
      refine (sCountRising_L _ n _ _ t _ _ Et.out (by omega) (Nat.le_refl _) Rt.out (by omega)).mono ?_
      rintro e u3 hN
      obtain ⟨rfl, y⟩ := resI_out hN F1.out
      replace Rt := Lib.hid (Rt.out.next y)
      replace B := Lib.hid (below_step B.out B.out.size y)
      clear hN y
      go_wp2_with fail
      refine (pCountStrict_L _ n _ _ t _ _ Et.out (by omega) (Nat.le_refl _) Rt.out (by omega) hct).mono ?_
      rintro e u4 hN
      obtain ⟨rfl, y⟩ := resI_out hN F2.out
      replace B := Lib.hid (below_step B.out B.out.size y)
      clear hN y Rt
      go_wp2
      go_ret
      exact ⟨rfl, B.out⟩
  · have t0 : decide ((4096 : Int) < len0) = true := decide_eq_true (by omega)
    go_enter Try.func4, Try.ntmps4
    go_wp2_with fail
    refine (big_any _ _ _ _ (by omega)).mono ?_
    rintro e w' ⟨rfl, rfl⟩
    go_wp2
    go_ret
    exact ⟨rfl, Below.refl _ _⟩
/-- the statement -/
theorem holds : Rows.FnNumberingsSaid := of_walk walk
end Go.Proofs.Ytjmjdcfgbaepkaa.fnNumberings
