/-
  The model's determinant above four rows, walked: the first column is cleared by the first row that can.
-/
import Derived.Test.YtdgdanpkekcckaaSDetL
namespace Go.Proofs.Ytdgdanpkekcckaa
open Go.RowKit Fld
open Det (det sm sgn sk)
set_option linter.unusedVariables false
set_option linter.unusedSimpArgs false
set_option maxRecDepth 100000

theorem own_ne1 {w wr : World} {T : TypeId} {g k cap b o : Nat} {vs : List Value} (h : wr.ownsRow w.heap.size T 1 (.slice (some ⟨g, 0, none⟩) k cap) k vs) (hb : b < w.heap.size) : some (Addr.block ⟨b, o, none⟩) ≠ Value.ownBlock (.slice (some ⟨g, 0, none⟩) k cap) := fun e => by
  have h1 := (h.lt g rfl).1
  have h2 : b = g := by simpa [Value.ownBlock] using e
  omega
/-- how many rows stand in the rest after q rows -/
def cnt (i q : Nat) : Nat := if q ≤ i then q else q - 1
theorem cnt_same (i : Nat) : cnt i (i + 1) = cnt i i := by unfold cnt; rw [if_neg (by omega), if_pos (by omega)]; omega
theorem cnt_next {i q : Nat} (h : q ≠ i) : cnt i (q + 1) = cnt i q + 1 := by unfold cnt; split <;> split <;> omega
theorem cnt_sk {i q : Nat} (h : q ≠ i) : sk i (cnt i q) = q := by unfold cnt sk; split <;> split <;> omega
theorem cnt_lt {i q n : Nat} (h : q ≠ i) (hq : q < n) (hi : i < n) : cnt i q < n - 1 := by unfold cnt; split <;> omega
theorem cnt_end {i n : Nat} (hi : i < n) : cnt i n = n - 1 := by unfold cnt; rw [if_neg (by omega)]
theorem rest_at {m : List (List Int)} {i q : Nat} {f : Int} (h : q ≠ i) (hq : q < m.length) (hi : i < m.length) : (restL m i f)[cnt i q]? = some (restRow m i q f) := by
  unfold restL
  rw [List.getElem?_map, List.getElem?_range (cnt_lt h hq hi)]
  show some (restRow m i (sk i (cnt i q)) f) = _
  rw [cnt_sk h]
theorem num_of {m : List (List Int)} {k j : Nat} {r : List Int} {x : Int} (h : ∀ r ∈ m, allNum r = true) (hr : m[k]? = some r) (hx : r[j]? = some x) : 0 ≤ x ∧ x < 10007 := by
  have := isNum_iff.1 (List.all_eq_true.1 (h r (List.mem_of_getElem? hr)) x (List.mem_of_getElem? hx))
  exact ⟨by omega, by omega⟩
theorem mod_bd (z : Int) : 0 ≤ z % 10007 ∧ z % 10007 < 10007 := by omega
set_option maxHeartbeats 2000000 in
theorem detOf_large (n : Nat) (h5 : 5 ≤ n) (h8 : n ≤ 8) (IH : DetOf (n - 1)) : DetOf n := by
  obtain ⟨i0, hi, hz0, hz1, hz2⟩ := info_parts info_i64
  obtain ⟨j0, hj, hy0, hy1, hy2⟩ := info_parts info_row
  intro A c B m w hl hw hnum hB h
  have HL := Lib.hid hl
  have HW := Lib.hid hw
  have HN := Lib.hid hnum
  have tn := beq_f (show ¬ (n : Int) = 0 by omega)
  clear hl hw hnum
  go_enter Try.func20, Try.ntmps20
  go_wp2_with fail
  rw [show decide ((n : Int) ≤ 4) = false from decide_eq_false (by omega)]
  go_loop [6] (fun i => ∃ k : Nat, k ≤ n ∧ i = .int .i64 k ∧ Hid (∀ j, j < k → ent m j 0 = 0)) (fun i => n - (intOf i).toNat)
  case atStart => exact ⟨0, Nat.zero_le _, rfl, fun j hj => by omega⟩
  case round =>
    obtain ⟨i, hi', rfl, HZ⟩ := hrel
    by_cases hlt : i < n
    · obtain ⟨r, hr⟩ := at_lt (show i < m.length by rw [HL.out]; exact hlt)
      have hrq := HW.out.at_ hr
      obtain ⟨ba, oa, Ai, ci, rfl, hba, hca, hcap, hcm, hrowa⟩ := h i r hr
      obtain ⟨x, hx⟩ := at_lt (show 0 < r.length by omega)
      obtain ⟨br, orr, rfl, hbr, hcx⟩ := hrowa 0 _ (ints_at hx)
      rw [Nat.add_zero] at hcx
      rw [hrq] at hca hcap
      have HE : Hid (ent m i 0 = x) := ent_at hr hx
      obtain ⟨x0, x1⟩ := num_of HN.out hr hx
      have HR := Lib.hid hr
      have HRQ := Lib.hid hrq
      have i0' : (0 : Int) ≤ (i : Int) := Int.natCast_nonneg _
      have i1' : (i : Int) < (n : Int) := by omega
      have n0' : (0 : Int) < (n : Int) := by omega
      have hbaw : ba < w.heap.size := by omega
      have hbrw : br < w.heap.size := by omega
      clear hr hrq hx
      by_cases hx0 : x = 0
      · have t := beq_t hx0
        have HZ2 : Hid (∀ j, j < i + 1 → ent m j 0 = 0) := fun j hj => by
          by_cases e : j = i
          · rw [e, HE.out, hx0]
          · exact HZ.out j (by omega)
        clear hx0 HZ
        go_wp2
        go_round
        case rel => exact ⟨i + 1, by omega, by go_num, HZ2⟩
        case measure => simp [intOf]; omega
      · have t := beq_f hx0
        obtain ⟨f, hf⟩ : ∃ f, f = inv x := ⟨_, rfl⟩
        have HF : Hid (ent m i 0 * f % 10007 = 1) := by
          have := inv_mul x (by omega) x1
          rw [Hid, HE.out, hf, Int.mul_comm]
          exact this
        obtain ⟨f0, f1⟩ : 0 ≤ f ∧ f < 10007 := by rw [hf]; exact ⟨inv_lo x, inv_hi x⟩
        have HFV := Lib.hid hf
        clear hx0 HZ hf
        go_wp2_with fail
        refine (l01Inv_any _ _ x0 x1).mono ?_
        rintro e w' ⟨rfl, rfl⟩
        rw [← HFV.out]
        go_wp2_with fail
        go_loopw [7, 9] (fun v q wr => ∃ q' c' g cap : Nat, q' ≤ n ∧ c' = cnt i q' ∧ v = .slice (some ⟨g, 0, none⟩) c' cap ∧ q = .int .i64 q' ∧ GrowM w g c' cap ((restL m i f).take c') wr) (fun _ q _ => n - (intOf q).toNat)
        case atStart => exact ⟨0, 0, _, 0, Nat.zero_le _, rfl, rfl, rfl, GrowM.start ..⟩
        case round =>
          obtain ⟨q, c', g, cap, hq', rfl, rfl, rfl, vs, HM, HBel⟩ := hrel
          by_cases hqn : q < n
          · have hsz := HBel.size
            by_cases hqi : q = i
            · have tq := bne_f (show (q : Int) = (i : Int) by omega)
              have HC : Hid (cnt i (q + 1) = cnt i q) := by rw [Hid, hqi, cnt_same]
              have G : Hid (GrowM w g (cnt i q) cap ((restL m i f).take (cnt i q)) wr) := ⟨vs, HM, HBel⟩
              clear HM HBel
              go_wp2
              go_roundw
              case rel => exact ⟨q + 1, _, g, cap, by omega, HC.out.symm, rfl, by go_num, G.out⟩
              case measure => simp [intOf]; omega
            · have tq := bne_t (show (q : Int) ≠ (i : Int) by omega)
              obtain ⟨rq, hrr⟩ := at_lt (show q < m.length by rw [HL.out]; exact hqn)
              have hrl := HW.out.at_ hrr
              have hmw := h.below HBel hB
              obtain ⟨_, _, Aq, cq, eA, _, hcq, _, _, hrowq⟩ := hmw q rq hrr
              cases eA
              obtain ⟨x2, hx2⟩ := at_lt (show 0 < rq.length by omega)
              obtain ⟨bq, oq, rfl, hbq, hcx2⟩ := hrowq 0 _ (ints_at hx2)
              rw [Nat.add_zero] at hcx2
              rw [hrl] at hcq
              have hci := (HBel.cell (p := ⟨ba, oa + i, none⟩) (by show ba < w.heap.size; exact hbaw)).trans hca
              have hrowi := hrowa.below HBel hB
              have HE2 : Hid (ent m q 0 = x2) := ent_at hrr hx2
              obtain ⟨y0, y1⟩ := num_of HN.out hrr hx2
              have HRR := Lib.hid hrr
              have HRL := Lib.hid hrl
              have HM' := Lib.hid HM
              have HBel' := Lib.hid HBel
              have hbqw : bq < wr.heap.size := by omega
              have hq0 : (0 : Int) ≤ (q : Int) := Int.natCast_nonneg _
              have hq1 : (q : Int) < (n : Int) := by omega
              have HC := Lib.hid (cnt_next hqi)
              have HQI := Lib.hid hqi
              have HRA := Lib.hid (rest_at (f := f) hqi (show q < m.length by rw [HL.out]; exact hqn) (show i < m.length by rw [HL.out]; exact hlt))
              obtain ⟨wo, hwo⟩ : ∃ wo : World, wo = wr := ⟨_, rfl⟩
              subst hwo
              clear hrr hrl hx2 HM HBel hqi
              go_wp2_with fail
              go_loopw [10, 11] (fun v j wr => ∃ k g2 cap2 : Nat, k + 1 ≤ n ∧ v = .slice (some ⟨g2, 0, none⟩) k cap2 ∧ j = .int .i64 ((k : Int) + 1) ∧ Growing wo 2 g2 k cap2 (ints ((restRow m i q f).take k)) wr) (fun _ j _ => n - (intOf j).toNat)
              case atStart => exact ⟨0, _, 0, by omega, rfl, rfl, Growing.start ..⟩
              case round =>
                obtain ⟨k, g2, cap2, hk, rfl, rfl, HG⟩ := hrel
                by_cases hkl : k + 1 < n
                · obtain ⟨z1, hz1'⟩ := at_lt (show k + 1 < rq.length by rw [HRL.out]; exact hkl)
                  obtain ⟨z3, hz3⟩ := at_lt (show k + 1 < r.length by rw [HRQ.out]; exact hkl)
                  obtain ⟨_, _, eA, _, hcz1⟩ := hrowq (k + 1) _ (ints_at hz1')
                  cases eA
                  obtain ⟨_, _, eA, _, hcz3⟩ := hrowi (k + 1) _ (ints_at hz3)
                  cases eA
                  obtain ⟨z10, z11⟩ := num_of HN.out HRR.out hz1'
                  obtain ⟨z30, z31⟩ := num_of HN.out HR.out hz3
                  obtain ⟨p1, hp1⟩ : ∃ p1, p1 = x2 * f % 10007 := ⟨_, rfl⟩
                  obtain ⟨p2, hp2⟩ : ∃ p2, p2 = p1 * z3 % 10007 := ⟨_, rfl⟩
                  obtain ⟨v, hv⟩ : ∃ v, v = (z1 - p2) % 10007 := ⟨_, rfl⟩
                  obtain ⟨p10, p11⟩ : 0 ≤ p1 ∧ p1 < 10007 := hp1 ▸ mod_bd _
                  obtain ⟨p20, p21⟩ : 0 ≤ p2 ∧ p2 < 10007 := hp2 ▸ mod_bd _
                  have C1 : Hid (∀ w : World, Calls Try.prog 36 #[.int .i64 x2, .int .i64 f] w fun e w' => e = .returned (.int .i64 p1) ∧ w = w') := fun w => by rw [hp1]; exact l01Mul_any _ _ _ y0 y1 f0 f1
                  have C2 : Hid (∀ w : World, Calls Try.prog 36 #[.int .i64 p1, .int .i64 z3] w fun e w' => e = .returned (.int .i64 p2) ∧ w = w') := fun w => by rw [hp2]; exact l01Mul_any _ _ _ p10 p11 z30 z31
                  have C3 : Hid (∀ w : World, Calls Try.prog 39 #[.int .i64 z1, .int .i64 p2] w fun e w' => e = .returned (.int .i64 v) ∧ w = w') := fun w => by rw [hv]; exact l01Sub_any _ _ _ z10 z11 p20 p21
                  have HD : Hid (ints ((restRow m i q f).take k) ++ [.int .i64 v] = ints ((restRow m i q f).take (k + 1))) := by
                    refine grow_ints ?_
                    unfold restRow
                    rw [List.getElem?_map, List.getElem?_range (show k < m.length - 1 by rw [HL.out]; omega)]
                    show some ((ent m q (k + 1) - ent m q 0 * f % 10007 * ent m i (k + 1) % 10007) % 10007) = _
                    rw [ent_at HRR.out hz1', ent_at HR.out hz3, HE2.out, ← hp1, ← hp2, ← hv]
                  have hsz2 := HG.2.size
                  have HK : Hid (∀ W' : World, Below wr.heap.size wr W' → W'.cell? ⟨ba, oa + q, none⟩ = some (.slice (some ⟨bq, oq, none⟩) n cq) ∧ W'.cell? ⟨bq, oq + (k + 1), none⟩ = some (.int .i64 z1) ∧ W'.cell? ⟨bq, oq, none⟩ = some (.int .i64 x2) ∧ W'.cell? ⟨ba, oa + i, none⟩ = some (.slice (some ⟨br, orr, none⟩) n ci) ∧ W'.cell? ⟨br, orr + (k + 1), none⟩ = some (.int .i64 z3)) := fun W' hb => by
                    have hb2 := HG.2.trans (hb.mono hsz2)
                    exact ⟨(hb2.cell (p := ⟨ba, oa + q, none⟩) (by show ba < wo.heap.size; omega)).trans hcq, (hb2.cell (p := ⟨bq, oq + (k + 1), none⟩) hbqw).trans hcz1, (hb2.cell (p := ⟨bq, oq, none⟩) hbqw).trans hcx2, (hb2.cell (p := ⟨ba, oa + i, none⟩) (by show ba < wo.heap.size; omega)).trans hci, (hb2.cell (p := ⟨br, orr + (k + 1), none⟩) (by show br < wo.heap.size; omega)).trans hcz3⟩
                  have HO : Hid (∀ W' : World, Below wr.heap.size wr W' → W'.ownsRow wo.heap.size 2 1 (.slice (some ⟨g2, 0, none⟩) k cap2) k (ints ((restRow m i q f).take k))) := fun W' hb => ((OwnR.of HG.1).below hb (Nat.le_refl _)).1
                  have N1 := Lib.hid (own_ne1 (o := oa + q) HG.1 (b := ba) (by omega))
                  have N2 := Lib.hid (own_ne1 (o := oq + (k + 1)) HG.1 (b := bq) (by omega))
                  have N3 := Lib.hid (own_ne1 (o := oq) HG.1 (b := bq) (by omega))
                  have N4 := Lib.hid (own_ne1 (o := oa + i) HG.1 (b := ba) (by omega))
                  have N5 := Lib.hid (own_ne1 (o := orr + (k + 1)) HG.1 (b := br) (by omega))
                  have HG' := Lib.hid HG
                  have k0 : (0 : Int) ≤ (k : Int) + 1 := by omega
                  have n0n : 0 < n := by omega
                  have k1 : (k : Int) + 1 < (n : Int) := by omega
                  obtain ⟨s1, s2, s3, s4, s5⟩ := HK.out wr (Below.refl _ _)
                  clear HG hz1' hz3 hcz1 hcz3 hp1 hp2 hv
                  go_wp2_with fail
                  go_region_held3 (fun w' => w'.cell? ⟨ba, oa + q, none⟩ = some (.slice (some ⟨bq, oq, none⟩) n cq) ∧ w'.cell? ⟨bq, oq + (k + 1), none⟩ = some (.int .i64 z1) ∧ w'.cell? ⟨bq, oq, none⟩ = some (.int .i64 x2) ∧ w'.cell? ⟨ba, oa + i, none⟩ = some (.slice (some ⟨br, orr, none⟩) n ci) ∧ w'.cell? ⟨br, orr + (k + 1), none⟩ = some (.int .i64 z3)) (first | go_keep | exact HK.out _ ((below_drewN (Below.refl _ _) _).alloc (Nat.le_refl _) _) | exact ⟨World.grownBy.cell hgrow3 (HK.out _ ((below_drewN (Below.refl _ _) _).alloc (Nat.le_refl _) _)).1 N1.out, World.grownBy.cell hgrow3 (HK.out _ ((below_drewN (Below.refl _ _) _).alloc (Nat.le_refl _) _)).2.1 N2.out, World.grownBy.cell hgrow3 (HK.out _ ((below_drewN (Below.refl _ _) _).alloc (Nat.le_refl _) _)).2.2.1 N3.out, World.grownBy.cell hgrow3 (HK.out _ ((below_drewN (Below.refl _ _) _).alloc (Nat.le_refl _) _)).2.2.2.1 N4.out, World.grownBy.cell hgrow3 (HK.out _ ((below_drewN (Below.refl _ _) _).alloc (Nat.le_refl _) _)).2.2.2.2 N5.out⟩)
                    (first
                      | (go_at_call 36; (first | refine (C1.out _).mono ?_ | refine (C2.out _).mono ?_); rintro e w2 ⟨rfl, rfl⟩)
                      | (go_at_call 39; refine (C3.out _).mono ?_; rintro e w2 ⟨rfl, rfl⟩)
                      | (refine step_append_lies _ (by rfl) _ _ _ (by rfl) wo.heap.size 2 i0 _ 1 8 Try.underlying31 hi hz0 hz1 hz2 rfl (by omega) (.slice (some ⟨g2, 0, none⟩) k cap2) k (ints ((restRow m i q f).take k)) (by rfl) (HO.out _ (by exact ((below_drewN (Below.refl _ _) _).alloc (Nat.le_refl _) _))) ⟨wr.heap.size, 0, none⟩ 1 1 [.int .i64 v] (by rfl) (by rfl) (World.news_of_block (cs := #[.int .i64 v]) (heap_alloc_new _ _)) (by simp [Value.oneCell']) (by omega) (by simp only [maxLen]; omega) (by omega) (by simp; omega) (wr.heap.size + 1) (by simp) ?_; intro g3 cap3 w3 hown3 hgrow3 hat3 hlt3))
                  rw [HD.out] at hown3
                  have G := Lib.hid (HG'.out.step ((below_drewN (Below.refl _ _) _).alloc (Nat.le_refl _) _) hown3 hgrow3)
                  clear hown3 hgrow3 hat3
                  go_wp2
                  go_roundw
                  case rel => exact ⟨k + 1, _, _, by omega, rfl, by go_num, G.out⟩
                  case measure => simp [intOf]; omega
                · have hkn : n = k + 1 := by omega
                  have hk2 : ¬ (k : Int) + 1 < (n : Int) := by omega
                  have e1 : (restRow m i q f).take k = restRow m i q f := List.take_of_length_le (by rw [restRow_length, HL.out]; omega)
                  have HPL : Hid ((restRow m i q f).length = k) := by rw [Hid, restRow_length, HL.out]; omega
                  rw [e1] at HG
                  have hown7 := HG.1
                  have hsz3 := HG.2.size
                  have HMo := Lib.hid (HM'.out.below HG.2 (Nat.le_refl _))
                  have HB2 := Lib.hid (HBel'.out.trans (HG.2.mono hsz))
                  have hownO := HMo.out.outer.1
                  have hc8 : cnt i q ≤ 8 := by unfold cnt; split <;> omega
                  go_wp2_with (at_builtin; refine wpList_append_lies _ rfl (.tmp 110) (.tmp 112) 24 rfl w.heap.size 31 j0 _ 1 24 Try.underlying24 hj hy0 hy1 hy2 rfl (by omega) (.slice (some ⟨g, 0, none⟩) (cnt i q) cap) (cnt i q) vs rfl (hownO.alloc _) ⟨wr.heap.size, 0, none⟩ 1 1 [.slice (some ⟨g2, 0, none⟩) k cap2] rfl rfl (World.news_of_block (cs := #[.slice (some ⟨g2, 0, none⟩) k cap2]) (heap_alloc_new _ _)) (by simp [Value.oneCell']) (by omega) (by simp only [maxLen]; omega) (by omega) (by simp; omega) (wr.heap.size + 1) (by simp) ?_; intro g4 cap4 w4 hown4 hgrow4 hat4 hlt4)
                  have G : Hid (GrowM w g4 (cnt i q + 1) cap4 ((restL m i f).take (cnt i q + 1)) w4) := by
                    have h1 := HMo.out.push (row := restRow m i q f) hsz3 HPL.out hown7 hsz hown4 hgrow4
                    have e2 : (restL m i f).take (cnt i q + 1) = (restL m i f).take (cnt i q) ++ [restRow m i q f] := by rw [List.take_add_one, HRA.out]; rfl
                    refine ⟨_, by rw [e2]; exact h1, ?_⟩
                    refine (HB2.out.alloc (by omega) _).grown hgrow4 (by simp; omega) (fun q hq => (hownO.lt q hq).1)
                  clear hown4 hgrow4 hat4 hownO hown7 HG
                  go_wp2
                  go_roundw
                  case rel => exact ⟨q + 1, by omega, g4, cap4, ⟨rfl, HC.out.symm, rfl⟩, by omega, by rw [HC.out]; exact G.out⟩
                  case measure => simp [intOf]; omega
          · obtain rfl : q = n := by omega
            have hc := cnt_end hlt
            rw [hc] at HM ⊢
            have e : (restL m i f).take (q - 1) = restL m i f := List.take_of_length_le (by rw [restL_length, HL.out]; exact Nat.le_refl _)
            rw [e] at HM
            have hmatR := HM.mat
            have hsz := HBel.size
            have hca' := (HBel.cell (p := ⟨ba, oa + i, none⟩) (by show ba < w.heap.size; exact hbaw)).trans hca
            have hcx' := (HBel.cell (p := ⟨br, orr, none⟩) (by show br < w.heap.size; exact hbrw)).trans hcx
            have hML : Hid ((restL m i f).length = q - 1) := by rw [Hid, restL_length, HL.out]
            have hMW : Hid (Wide (restL m i f) (q - 1)) := by have := restL_wide m i f; rw [HL.out] at this; exact this
            have hMN := Lib.hid (restL_num m i f)
            obtain ⟨d, hd⟩ : ∃ d, d = detL (restL m i f) := ⟨_, rfl⟩
            obtain ⟨d0, d1⟩ : 0 ≤ d ∧ d < 10007 := by rw [hd]; exact ⟨detL_lo _, detL_hi _⟩
            obtain ⟨o, ho⟩ : ∃ o, o = x * d % 10007 := ⟨_, rfl⟩
            obtain ⟨o0, o1⟩ : 0 ≤ o ∧ o < 10007 := ho ▸ mod_bd _
            obtain ⟨o2, ho2⟩ : ∃ o2, o2 = (0 - o) % 10007 := ⟨_, rfl⟩
            have C4 : Hid (∀ w : World, Calls Try.prog 36 #[.int .i64 x, .int .i64 d] w fun e w' => e = .returned (.int .i64 o) ∧ w = w') := fun w => by rw [ho]; exact l01Mul_any _ _ _ x0 x1 d0 d1
            have C5 : Hid (∀ w : World, Calls Try.prog 39 #[.int .i64 0, .int .i64 o] w fun e w' => e = .returned (.int .i64 o2) ∧ w = w') := fun w => by rw [ho2]; exact l01Sub_any _ _ _ (by omega) (by omega) o0 o1
            have C6 : Hid (∀ W : World, wr.heap.size ≤ W.heap.size → Mat W wr.heap.size (some ⟨g, 0, none⟩) (restL m i f) → Calls Try.prog 20 #[.slice (some ⟨g, 0, none⟩) (q - 1) cap] W fun e w' => e = .returned (.int .i64 d) ∧ Below W.heap.size W w') := fun W hW hM => by rw [hd]; exact IH _ _ _ _ _ hML.out hMW.out hMN.out hW hM
            have HDet : Hid (detL m = sgn i * (x * d) % 10007) := by
              have := detL_clear (m := m) (i := i) (f := f) (by rw [HL.out]; omega) (by rw [HL.out]; exact hlt) HF.out
              rw [HE.out, ← hd] at this
              exact this
            have HBel' := Lib.hid HBel
            have q0n : 0 < q := by omega
            have HVo : Hid (i % 2 = 1 → detL m = o2) := fun hev => by
              rw [HDet.out, ho2, ho]; unfold sgn; rw [if_neg (by omega)]
              generalize x * d = z; omega
            have HVe : Hid (¬ i % 2 = 1 → detL m = o) := fun hev => by
              rw [HDet.out, ho]; unfold sgn; rw [if_pos (by omega)]
              generalize x * d = z; omega
            clear ho ho2
            clear HM HBel hd e hc
            go_wp2_with fail
            go_region_held3 (fun w' => w'.cell? ⟨ba, oa + i, none⟩ = some (.slice (some ⟨br, orr, none⟩) q ci) ∧ w'.cell? ⟨br, orr, none⟩ = some (.int .i64 x)) (first | go_keep | exact ⟨hca', hcx'⟩ | exact ⟨(belD.cell (p := ⟨ba, oa + i, none⟩) (by show ba < wr.heap.size; omega)).trans hca', (belD.cell (p := ⟨br, orr, none⟩) (by show br < wr.heap.size; omega)).trans hcx'⟩)
              (first
                | (go_at_call 20; refine (C6.out _ (by show wr.heap.size ≤ wr.heap.size; omega) (by exact hmatR)).mono ?_; rintro e w2 ⟨rfl, bel2⟩; have belD : Below wr.heap.size wr w2 := ⟨bel2.os, bel2.tape, bel2.output, bel2.size, bel2.block⟩)
                | (go_at_call 36; refine (C4.out _).mono ?_; rintro e w3 ⟨rfl, rfl⟩))
            have HBk : Hid (Below w.heap.size w w2) := HBel'.out.trans (belD.mono hsz)
            by_cases hev : i % 2 = 1
            · have tk1 : ((i : Int) % 2 == 1) = true := beq_t (by omega)
              have tk2 : ((i : Int).tmod 2 == 1) = true := beq_t (by rw [Int.tmod_eq_emod]; split <;> omega)
              have HV := Lib.hid (HVo.out hev)
              clear hev
              go_wp2_with (go_at_call 39; refine (C5.out _).mono ?_; rintro e w3 ⟨rfl, rfl⟩)
              go_ret
              exact ⟨by rw [HV.out]; first | done | rfl, HBk.out⟩
            · have tk1 : ((i : Int) % 2 == 1) = false := beq_f (by omega)
              have tk2 : ((i : Int).tmod 2 == 1) = false := beq_f (by rw [Int.tmod_eq_emod]; split <;> omega)
              have HV := Lib.hid (HVe.out hev)
              clear hev
              go_wp2
              go_ret
              exact ⟨by rw [HV.out]; first | done | rfl, HBk.out⟩
    · obtain rfl : i = n := by omega
      have HD : Hid (detL m = 0) := detL_none (by rw [HL.out]; omega) (fun j hj => HZ.out j (by rw [HL.out] at hj; exact hj))
      clear HZ
      go_wp2
      go_ret
      exact ⟨by rw [HD.out]; first | done | rfl, Below.refl _ _⟩
end Go.Proofs.Ytdgdanpkekcckaa
