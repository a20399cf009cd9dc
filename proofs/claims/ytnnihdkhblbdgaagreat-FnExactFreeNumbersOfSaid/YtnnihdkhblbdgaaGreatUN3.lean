/-
  Texts of this seat, joined: what several laws lean on.
-/
import Derived.Test.YtnnihdkhblbdgaaGreatUN2
import Derived.Test.YtnnihdkhblbdgaaGreatRes1
/-
  What FreeNumbersOf answers, the program's and the model's.
-/
namespace Go.Proofs.YtnnihdkhblbdgaaGreat
open Go.RowKit Fld
set_option linter.unusedVariables false
set_option linter.unusedSimpArgs false
set_option maxRecDepth 100000

theorem info_numF : (Tryz.prog.info? 37).map (fun i => (i.zero, i.size, i.bytes)) = some (some (.int .i64 0), 1, 8) := by kernel_rfl
def valF (b t : List Int) : Int := b.getD (Tr.idxL t (treesTo 6) 0 + 1).toNat 0
def fnTo (b : List Int) (k : Nat) : List Int := (((treesTo 6).take k).filter keepC).map (valF b)
def fnL (b : List Int) : List Int := conds.map (valF b)
theorem fnL_length (b : List Int) : (fnL b).length = 10 := by unfold fnL; rw [List.length_map, conds_len]
theorem fnTo_all (b : List Int) : fnTo b 37 = fnL b := by
  unfold fnTo fnL conds condTo
  rw [List.take_of_length_le (by rw [to_len]; exact Nat.le_refl _)]
theorem idx_toN {t : List Int} {k : Nat} (h : (treesTo 6)[k]? = some t) : Tr.idxL t (treesTo 6) 0 = (k : Int) := by
  obtain ⟨j, e1, e2⟩ := idx_some 0 (List.mem_of_getElem? h)
  obtain rfl := mapTx_inj e2 h rfl
  omega
theorem fnTo_yes {b t : List Int} {k : Nat} {x : Int} (h : (treesTo 6)[k]? = some t) (hk : keepC t = true) (hx : b[k + 1]? = some x) : ints (fnTo b k) ++ [.int .i64 x] = ints (fnTo b (k + 1)) := by
  have e : valF b t = x := by unfold valF; rw [idx_toN h, show ((k : Int) + 1).toNat = k + 1 by omega, List.getD_eq_getElem?_getD, hx]; rfl
  unfold fnTo
  rw [List.take_add_one, h, Option.toList_some, List.filter_append, List.map_append]
  simp [ints, intsK, hk, e]
theorem fnTo_no {b t : List Int} {k : Nat} (h : (treesTo 6)[k]? = some t) (hk : keepC t = false) : fnTo b (k + 1) = fnTo b k := by
  unfold fnTo
  rw [List.take_add_one, h, Option.toList_some, List.filter_append]
  simp [hk]
theorem fnTo_len (b : List Int) (k : Nat) : (fnTo b k).length ≤ 37 := by
  unfold fnTo
  rw [List.length_map]
  have h1 := List.length_filter_le keepC ((treesTo 6).take k)
  have h2 : ((treesTo 6).take k).length ≤ 37 := by rw [List.length_take, to_len]; omega
  omega
noncomputable def fnA (b : List Int) : List Int × Int := if (hamToA b).2 = 0 then (if (hamToA b).1 < 6 then ([], 5) else (fnL b, 0)) else ([], (hamToA b).2)
theorem condN_mem {k : Nat} {t : List Int} (h : conds[k]? = some t) : ∃ p : Nat, p < 37 ∧ (treesTo 6)[p]? = some t ∧ Tr.idxL t (treesTo 6) 0 = (p : Int) ∧ Tr.isLv t = true := by
  have hm := List.mem_of_getElem? h
  unfold conds condTo at hm
  obtain ⟨p, hp⟩ := List.mem_iff_getElem?.1 (List.mem_filter.1 hm).1
  have h37 : p < 37 := by
    rcases Nat.lt_or_ge p 37 with q | q
    · exact q
    · rw [List.getElem?_eq_none (by rw [to_len]; exact q)] at hp; cases hp
  exact ⟨p, h37, hp, idx_toN hp, to_lvT (List.mem_of_getElem? hp)⟩
theorem own_formN {w : World} {lo : Nat} {T : TypeId} {v : Value} {n : Nat} {vs : List Value} (h : w.ownsRow lo T 1 v n vs) (hn : 0 < n) : ∃ g cap, v = .slice (some ⟨g, 0, none⟩) n cap := by
  rcases h.2 with ⟨_, e⟩ | ⟨g, cap, cur, e, _⟩
  · omega
  · exact ⟨g, cap, e⟩
set_option maxHeartbeats 4000000 in
theorem freeNumbers_any (xs : List Int) (w : World) (hl : xs.length = 38) : Calls Tryz.prog 26 #[.agg (arrM xs)] w (NewRow 37 10 (ints (fnL xs)) w) := by
  obtain ⟨i0, hi, hz0, hz1, hz2⟩ := info_parts info_numF
  have HL := Lib.hid hl
  obtain ⟨W0, hW0⟩ : ∃ W0, W0 = w.alloc (.cells (arrM xs) 39) := ⟨_, rfl⟩
  have FB : Hid (Below w.heap.size w W0) := by rw [hW0]; exact (Below.refl _ _).alloc (Nat.le_refl _) _
  have F0 : Hid (ArrM W0 w.heap.size xs) := by rw [hW0]; exact ArrM.new _ _
  have S0 : Hid (W0.heap.size = w.heap.size + 1) := by rw [hW0]; simp [Hid]
  clear hl
  go_enter Tryz.func26, Tryz.ntmps26
  go_wp2_with fail
  refine (mapTrees_any _).mono ?_
  rintro e w2 ⟨A2, c2, rfl, own2, bel2⟩
  have B1 : Hid (Below W0.heap.size W0 w2) := by rw [Hid, hW0]; exact bel2
  have hs1 := B1.out.size
  have hs0 := S0.out
  obtain ⟨g2, rfl⟩ := own_addr own2 (by omega)
  have hcap := (own_cap own2).1
  have hc9 : ¬ c2 = 1 := by omega
  have hg2 : g2 < w2.heap.size := (own2.lt g2 rfl).2
  have FT : Hid (∀ k t, (treesTo 6)[k]? = some t → w2.cell? ⟨g2, 1 + k, none⟩ = some (.string ⟨(Tr.txt t).toArray⟩)) := fun k t ht => strs_cell (row_of_own own2) (1 + k) (Tr.txt t) (by rw [Nat.add_comm]; unfold mapTx; rw [List.getElem?_cons_succ, List.getElem?_map, ht]; rfl)
  have FX : Hid (ArrM w2 w.heap.size xs) := F0.out.below B1.out (by omega)
  have B3 : Hid (Below w.heap.size w w2) := FB.out.trans (B1.out.mono FB.out.size)
  have O0 : Hid (w2.ownsRow w2.heap.size 37 1 (.slice none 0 0) 0 (ints (fnTo xs 0))) := World.ownsRow_nil ..
  clear own2 bel2 F0 B1 hW0
  go_wp2_with fail
  go_loopw [3, 9] (fun v i wr => ∃ (k q : Nat), k ≤ 37 ∧ i = .int .i64 k ∧ Hid (q = (fnTo xs k).length) ∧ Hid (wr.ownsRow w2.heap.size 37 1 v q (ints (fnTo xs k))) ∧ Hid (Below w2.heap.size w2 wr)) (fun _ i _ => 37 - (intOf i).toNat)
  case atStart => exact ⟨0, 0, Nat.zero_le _, rfl, rfl, O0, Below.refl _ _⟩
  case round =>
    clear O0
    obtain ⟨k, q, hk, rfl, HQ, HO, HB⟩ := hrel
    have hwz := HB.out.size
    have hq37 : q ≤ 37 := by rw [HQ.out]; exact fnTo_len xs k
    by_cases hlt : k < 37
    · have hlti : (k : Int) < 37 := by omega
      have k0 : (0 : Int) ≤ (k : Int) := Int.natCast_nonneg _
      have k1 : (0 : Int) ≤ (k : Int) + 1 := by omega
      have k2 : (k : Int) + 1 < 38 := by omega
      have ew : IntKind.i64.wrap ((k : Int) + 1) = (k : Int) + 1 := IntWalk.i64_in _ (by omega)
      have en : ((k : Int) + 1).toNat = k + 1 := by omega
      obtain ⟨t, ht⟩ := at_lt (show k < (treesTo 6).length by rw [to_len]; exact hlt)
      have hct := (HB.out.cell (p := ⟨g2, 1 + k, none⟩) hg2).trans (FT.out k t ht)
      obtain ⟨y, hy⟩ := at_lt (show k + 1 < xs.length by rw [HL.out]; omega)
      have hlv : Tr.isLv t = true := to_lvT (List.mem_of_getElem? ht)
      have CF := fun V => isFree_any (Tr.txt t) V (Tr.tx_txt hlv)
      have EK : Hid (condT (Tr.txt t) = keepC t) := rfl
      obtain ⟨X, hX⟩ : ∃ X : ByteArray, X = ⟨(Tr.txt t).toArray⟩ := ⟨_, rfl⟩
      simp only [← hX, EK.out] at CF hct
      cases hkp : keepC t
      · rw [hkp] at CF
        have HN := Lib.hid (fnTo_no (b := xs) ht hkp)
        clear ht hy hlv hX hkp EK
        go_wp2_with fail
        refine (CF _).mono ?_
        rintro e w3 ⟨rfl, b3⟩
        have GO : Hid (w3.ownsRow w2.heap.size 37 1 u3 q (ints (fnTo xs (k + 1)))) := by rw [HN.out]; exact ((OwnR.of HO.out).below b3 (Nat.le_refl _)).1
        have GQ : Hid (q = (fnTo xs (k + 1)).length) := by rw [HN.out]; exact HQ.out
        have GB := Lib.hid (HB.out.trans (b3.mono hwz))
        clear HO HB HQ b3 CF hct HN
        go_wp2
        go_roundw
        case rel => exact ⟨k + 1, q, by omega, by go_num, GQ, GO, GB⟩
        case measure => simp [intOf]; omega
      · rw [hkp] at CF
        have HY := Lib.hid (fnTo_yes ht hkp hy)
        have HQ2 : Hid (q + 1 = (fnTo xs (k + 1)).length) := by
          have := congrArg List.length HY.out
          simp only [List.length_append, ints_length, List.length_cons, List.length_nil] at this
          rw [Hid, ← this, HQ.out]
        have HYY := Lib.hid hy
        clear ht hlv hX hkp EK hy
        go_wp2_with fail
        refine (CF _).mono ?_
        rintro e w3 ⟨rfl, b3⟩
        have hs3 := b3.size
        have HO3 : Hid (w3.ownsRow w2.heap.size 37 1 u3 q (ints (fnTo xs k))) := ((OwnR.of HO.out).below b3 (Nat.le_refl _)).1
        have HB3 := Lib.hid (HB.out.trans (b3.mono hwz))
        have hc1 := ((FX.out.below HB.out (by omega)).below b3 (by omega)).cell HYY.out
        have hgl : ∀ z, u3.ownBlock = some z → w2.heap.size ≤ z := fun z hz => (HO.out.lt z hz).1
        clear HO HB b3 CF hct HYY
        go_wp2_with (at_builtin; refine wpList_append_lies _ rfl (.tmp 16) (.tmp 21) 44 rfl w2.heap.size 37 i0 _ 1 8 Tryz.underlying44 hi hz0 hz1 hz2 rfl (by omega) u3 q (ints (fnTo xs k)) rfl (HO3.out.alloc _) ⟨w3.heap.size, 0, none⟩ 1 1 [.int .i64 y] rfl rfl (World.news_of_block (cs := #[.int .i64 y]) (heap_alloc_new _ _)) (by simp [Value.oneCell']) (by omega) (by simp only [maxLen]; omega) (by omega) (by simp; omega) (w3.heap.size + 1) (by simp) ?_; intro g5 cap5 w5 hown5 hgrow5 hat5 hlt5)
        rw [HY.out] at hown5
        have GB : Hid (Below w2.heap.size w2 w5) := (HB3.out.alloc (by omega) _).grown hgrow5 (by simp; omega) (fun z hz => hgl z hz)
        have GO := Lib.hid hown5
        clear hown5 hgrow5 hat5
        go_wp2
        go_roundw
        case rel => exact ⟨k + 1, q + 1, by omega, by go_num, HQ2, GO, GB⟩
        case measure => simp [intOf]; omega
    · obtain rfl : k = 37 := by omega
      have e10 : q = 10 := by rw [HQ.out, fnTo_all, fnL_length]
      subst e10
      have GO := HO.out
      rw [fnTo_all] at GO
      obtain ⟨g9, c9, hv9⟩ := own_formN GO (by omega)
      subst hv9
      have HG : Hid (wr.ownsRow w.heap.size 37 1 (.slice (some ⟨g9, 0, none⟩) 10 c9) 10 (ints (fnL xs))) := ((OwnR.of GO).more B3.out.size (Nat.le_refl _)).1
      have GB : Hid (Below w.heap.size w wr) := B3.out.trans (HB.out.mono B3.out.size)
      clear HO GO HQ
      go_wp2
      go_ret
      exact ⟨_, _, rfl, HG.out, GB.out⟩
theorem fnA_code {b : List Int} {k : Int} (h : (hamToA b).2 = k) (hk : k ≠ 0) : fnA b = ([], k) := by
  unfold fnA; rw [h, if_neg hk]
theorem fnA_low {b : List Int} {L : Int} (h : hamToA b = (L, 0)) (hL : L < 6) : fnA b = ([], 5) := by
  unfold fnA; rw [h]; simp [hL]
theorem fnA_yes {b : List Int} {L : Int} (h : hamToA b = (L, 0)) (hL : ¬ L < 6) : fnA b = (fnL b, 0) := by
  unfold fnA; rw [h]; simp [hL]
set_option maxHeartbeats 4000000 in
theorem sFreeNumbersOf_L (A : Option Addr) (n c B : Nat) (a : List Int) (w : World) (hl : a.length = n) (hn : n ≤ 1048576) (hB : B ≤ w.heap.size) (h : Row w B A (ints a)) :
    Calls Tryz.prog 9 #[.slice A n c] w (ResL (fnA a) w) := by
  obtain ⟨i0, hi, hz0, hz1, hz2⟩ := info_parts info_i64
  have C0 := l08Code_c A n c B a w hl hn h
  have done : ∀ k : Int, k ≠ 0 → hamToA a = (0, k) → Calls Tryz.prog 9 #[.slice A n c] w (ResL (fnA a) w) := by
    intro k hk e
    have G := Lib.hid (fnA_code (by rw [e]) hk)
    rw [e] at C0
    have t : (k != 0) = true := bne_t hk
    clear hl e
    go_enter Tryz.func9, Tryz.ntmps9
    go_wp2_with fail
    refine C0.mono ?_
    rintro e w' ⟨rfl, rfl⟩
    go_wp2
    go_ret2
    exact ResL.nil G.out (Below.refl _ _)
  cases ha : isMp a
  · exact done 1 (by omega) (hamToA_no ha)
  · obtain ⟨x, b, o, hx, rfl, hc, p1, x0, x1⟩ := map_first ha hl h
    by_cases hx1 : x = 0
    · have e := hamToA_one ha hx hx1
      have E := Lib.hid e
      rw [e] at C0
      obtain ⟨e1, na⟩ := isMp_parts ha hl
      have HL0 := hl
      subst e1
      have HL := Lib.hid HL0
      have NA := Lib.hid na
      have C1 := fun w' => l03All_any 6 w' (by omega) (by omega)
      rw [to_len] at C1
      have CT := l12To_any (some ⟨b, o, none⟩) c B a w HL0 na hB h
      obtain ⟨lm, hlm⟩ : ∃ lm, lm = limOf a := ⟨_, rfl⟩
      rw [← hlm] at E CT
      clear hl HL0 hx hx1 ha done e na hc hlm
      by_cases hlo : lm < 6
      · have G := Lib.hid (fnA_low E.out hlo)
        clear C1
        go_enter Tryz.func9, Tryz.ntmps9
        go_wp2_with fail
        refine C0.mono ?_
        rintro e w' ⟨rfl, rfl⟩
        go_wp2_with fail
        refine CT.mono ?_
        rintro e w1 ⟨rfl, b1⟩
        have B1 := Lib.hid b1
        clear b1 C0 CT
        go_wp2
        go_ret2
        exact ResL.nil G.out B1.out
      · have G := Lib.hid (fnA_yes E.out hlo)
        go_enter Tryz.func9, Tryz.ntmps9
        go_wp2_with fail
        refine C0.mono ?_
        rintro e w' ⟨rfl, rfl⟩
        go_wp2_with fail
        refine CT.mono ?_
        rintro e w0 ⟨rfl, b0⟩
        have B0 := Lib.hid b0
        have hs0 := b0.size
        clear b0 C0 CT
        go_wp2_with fail
        refine (C1 _).mono ?_
        rintro e w1 ⟨A1, c1, vs1, rfl, own1, bel1⟩
        have FM0 : Hid (Mat w1 w1.heap.size A1 (treesTo 6)) := own1.mat
        have B1 := Lib.hid (B0.out.trans (bel1.mono hs0))
        have hs1 := bel1.size
        clear own1 bel1 C1
        go_wp2_with fail
        refine (l12All_any _).mono ?_
        rintro e w3 ⟨gf, cf, rfl, hM3, bel3⟩
        have hs3 := bel3.size
        have FM : Hid (Mat w3 w1.heap.size A1 (treesTo 6)) := FM0.out.below bel3 (Nat.le_refl _)
        have FF := Lib.hid hM3
        have B3 := Lib.hid (B1.out.trans (bel3.mono (by omega)))
        have FX := Lib.hid (h.below B3.out hB)
        have O0 : Hid ((w3.alloc (.cells #[] 2)).ownsRow w3.heap.size 2 1 (.slice (some ⟨w3.heap.size, 0, none⟩) 0 0) 0 (ints ((fnL a).take 0))) := (Growing.start w3 2).1
        have BW0 : Hid (Below w3.heap.size w3 (w3.alloc (.cells #[] 2))) := (Growing.start w3 2).2
        clear hM3 bel3 FM0 h
        go_wp2_with fail
        go_loopw [7, 8] (fun v i wr => ∃ k g cap : Nat, v = .slice (some ⟨g, 0, none⟩) k cap ∧ i = .int .i64 k ∧ k ≤ 10 ∧ Hid (wr.ownsRow w3.heap.size 2 1 (.slice (some ⟨g, 0, none⟩) k cap) k (ints ((fnL a).take k))) ∧ Hid (Below w3.heap.size w3 wr)) (fun _ i _ => 10 - (intOf i).toNat)
        case atStart => exact ⟨0, _, 0, rfl, rfl, by omega, O0, BW0⟩
        case round =>
          clear O0 BW0
          obtain ⟨k, g, cap, rfl, rfl, hk, HO, HW⟩ := hrel
          have hwz := HW.out.size
          by_cases hlt : k < 10
          · have hlti : (k : Int) < 10 := by omega
            have k0 : (0 : Int) ≤ (k : Int) := Int.natCast_nonneg _
            obtain ⟨t, ht⟩ := at_lt (show k < conds.length by rw [conds_len]; exact hlt)
            obtain ⟨p, p37, hp, hix, hlv⟩ := condN_mem ht
            obtain ⟨t1, t8⟩ := lv_bd hlv
            obtain ⟨b2, o2, Ak, ck, eA, _, hct, hlc, _, hrow⟩ := (FF.out.below HW.out (Nat.le_refl _)) k t ht
            injection eA with eA
            injection eA with e1 e2
            subst e1 e2
            rw [Nat.zero_add] at hct
            have CF := l03Find_any A1 Ak 37 c1 t.length ck w1.heap.size w3.heap.size (treesTo 6) t wr to_len (by omega) (fun r hr => by have := (lv_bd (to_lvT hr)).2; omega) rfl (by omega) (FM.out.below HW.out (by omega)) hrow
            rw [hix] at CF
            obtain ⟨y, hy⟩ := at_lt (show p + 1 < a.length by rw [HL.out]; omega)
            obtain ⟨b3, o3, e3, _, hcy⟩ := (FX.out.below HW.out (by omega)) (p + 1) _ (ints_at hy)
            injection e3 with e3
            injection e3 with e4 e5
            subst e4 e5
            have wp : IntKind.i64.wrap ((p : Int) + 1) = ((p + 1 : Nat) : Int) := by rw [IntWalk.i64_in _ (by omega)]; omega
            have p0 : (0 : Int) ≤ ((p + 1 : Nat) : Int) := Int.natCast_nonneg _
            have p38 : ((p + 1 : Nat) : Int) < 38 := by omega
            have hv : (fnL a)[k]? = some y := by
              unfold fnL
              rw [List.getElem?_map, ht, Option.map_some]
              unfold valF
              rw [hix, show ((p : Int) + 1).toNat = p + 1 by omega, List.getD_eq_getElem?_getD, hy]; rfl
            have HTK := Lib.hid (grow_ints hv)
            have hgl := (HO.out.lt g rfl)
            obtain ⟨tn, htn⟩ : ∃ tn, tn = t.length := ⟨_, rfl⟩
            rw [← htn] at CF hct t1 t8
            clear ht hp hix hlv hy hrow hlc htn hv
            go_wp2_with fail
            refine CF.mono ?_
            rintro e w4 ⟨rfl, d4, rfl⟩
            have HO4 : Hid ((wr.drewN d4).ownsRow w3.heap.size 2 1 (.slice (some ⟨g, 0, none⟩) k cap) k (ints ((fnL a).take k))) := HO.out
            have HW4 := Lib.hid (below_drewN HW.out d4)
            have hcy4 : (wr.drewN d4).cell? ⟨b, o + (p + 1), none⟩ = some (.int .i64 y) := hcy
            have hz4 : w3.heap.size ≤ (wr.drewN d4).heap.size := hwz
            generalize wr.drewN d4 = W4 at HO4 HW4 hcy4 hz4 ⊢
            clear CF HO HW hcy
            go_wp2_with (at_builtin; refine wpList_append_lies _ rfl (.tmp 27) (.tmp 38) 22 rfl w3.heap.size 2 i0 _ 1 8 Tryz.underlying22 hi hz0 hz1 hz2 rfl (by omega) (.slice (some ⟨g, 0, none⟩) k cap) k (ints ((fnL a).take k)) rfl (HO4.out.alloc _) ⟨W4.heap.size, 0, none⟩ 1 1 [.int .i64 y] rfl rfl (World.news_of_block (cs := #[.int .i64 y]) (heap_alloc_new _ _)) (by simp [Value.oneCell']) (by omega) (by simp only [maxLen]; omega) (by omega) (by simp; omega) (W4.heap.size + 1) (by simp) ?_; intro g5 cap5 w5 hown5 hgrow5 hat5 hlt5)
            rw [HTK.out] at hown5
            have GB : Hid (Below w3.heap.size w3 w5) := (HW4.out.alloc (by omega) _).grown hgrow5 (by simp; omega) (fun z hz => by injection hz with hz; subst hz; exact hgl.1)
            have GO := Lib.hid hown5
            clear hown5 hgrow5 hat5
            go_wp2
            go_roundw
            case rel => exact ⟨k + 1, g5, cap5, rfl, by go_num, by omega, GO, GB⟩
            case measure => simp [intOf]; omega
          · obtain rfl : k = 10 := by omega
            have e9 : (fnL a).take 10 = fnL a := List.take_of_length_le (by rw [fnL_length]; exact Nat.le_refl _)
            have GO := HO.out
            rw [e9] at GO
            have HG : Hid (wr.ownsRow w.heap.size 2 1 (.slice (some ⟨g, 0, none⟩) 10 cap) 10 (ints (fnL a))) := ((OwnR.of GO).more B3.out.size (Nat.le_refl _)).1
            have GB : Hid (Below w.heap.size w wr) := B3.out.trans (HW.out.mono B3.out.size)
            clear HO GO
            go_wp2
            go_ret2
            exact ResL.of G.out (fnL_length a) (by omega) HG.out GB.out
    · exact done 5 (by omega) (hamToA_not ha hx hx1)
set_option maxHeartbeats 2000000 in
theorem pFreeNumbersOf_L (A : Option Addr) (n c B : Nat) (a : List Int) (w : World) (hl : a.length = n) (hn : n ≤ 1048576) (hB : B ≤ w.heap.size) (h : Row w B A (ints a)) (hcp : n ≤ c) :
    Calls Tryz.prog 10 #[.slice A n c] w (ResL (fnA a) w) := by
  have C0 := pHamiltonianTo_L A n c B a w hl hn hB h hcp
  have done : ∀ k : Int, k ≠ 0 → hamToA a = (0, k) → Calls Tryz.prog 10 #[.slice A n c] w (ResL (fnA a) w) := by
    intro k hk e
    have G := Lib.hid (fnA_code (by rw [e]) hk)
    rw [e] at C0
    have t : (k != 0) = true := bne_t hk
    clear hl e
    go_enter Tryz.func10, Tryz.ntmps10
    go_wp2_with fail
    refine C0.mono ?_
    rintro e w1 ⟨rfl, b1⟩
    have B1 := Lib.hid b1
    clear b1 C0
    go_wp2
    go_ret2
    exact ResL.nil G.out B1.out
  cases ha : isMp a
  · exact done 1 (by omega) (hamToA_no ha)
  · obtain ⟨x, b, o, hx, rfl, hc, p1, x0, x1⟩ := map_first ha hl h
    by_cases hx1 : x = 0
    · have e := hamToA_one ha hx hx1
      have E := Lib.hid e
      rw [e] at C0
      obtain ⟨e1, na⟩ := isMp_parts ha hl
      have HL0 := hl
      subst e1
      have HL := Lib.hid HL0
      have NA := Lib.hid na
      obtain ⟨lm, hlm⟩ : ∃ lm, lm = limOf a := ⟨_, rfl⟩
      rw [← hlm] at E C0
      clear hl HL0 hx hx1 ha done e na hc hlm
      by_cases hlo : lm < 6
      · have G := Lib.hid (fnA_low E.out hlo)
        go_enter Tryz.func10, Tryz.ntmps10
        go_wp2_with fail
        refine C0.mono ?_
        rintro e w1 ⟨rfl, b1⟩
        have B1 := Lib.hid b1
        clear b1 C0
        go_wp2
        go_ret2
        exact ResL.nil G.out B1.out
      · have G := Lib.hid (fnA_yes E.out hlo)
        go_enter Tryz.func10, Tryz.ntmps10
        go_wp2_with fail
        refine C0.mono ?_
        rintro e w1 ⟨rfl, b1⟩
        have B1 := Lib.hid b1
        have hs1 := b1.size
        have H1 := Lib.hid (h.below b1 hB)
        clear b1 C0
        go_wp2_with fail
        refine (treeMapOf_any _ c B a _ HL.out NA.out (by omega) H1.out).mono ?_
        rintro e w2 ⟨rfl, b2⟩
        have B2 := Lib.hid (B1.out.trans (b2.mono hs1))
        clear b2
        go_wp2_with fail
        refine (freeNumbers_any a _ HL.out).mono ?_
        rintro e w3 ⟨A3, c3, rfl, own3, b3⟩
        have B3 := Lib.hid (B2.out.trans (b3.mono B2.out.size))
        have H3 : Hid (Row w3 w3.heap.size A3 (ints (fnL a))) := row_of_own own3
        clear b3 own3
        go_wp2_with fail
        refine (integersOf_any A3 10 c3 w3.heap.size (fnL a) _ (fnL_length a) (by omega) (Nat.le_refl _) H3.out).mono ?_
        rintro e w4 ⟨A4, c4, rfl, own4, b4⟩
        have B4 := Lib.hid (B3.out.trans (b4.mono B3.out.size))
        have HO : Hid (w4.ownsRow w.heap.size 2 1 (.slice A4 10 c4) 10 (ints (fnL a))) := ((OwnR.of own4).more B3.out.size (Nat.le_refl _)).1
        clear b4 own4
        go_wp2
        go_ret2
        exact ResL.of G.out (fnL_length a) (by omega) HO.out B4.out
    · exact done 5 (by omega) (hamToA_not ha hx hx1)
end Go.Proofs.YtnnihdkhblbdgaaGreat
