/-
  The model's way to put a tree into a sum.
-/
import Derived.Test.YtnnihdkhblbdgaaCnts
import Derived.Test.YtnnihdkhblbdgaaMarks
import Derived.Deep.AppendLies
namespace Go.Proofs.Ytnnihdkhblbdgaa
open Go.RowKit Fld
set_option linter.unusedVariables false
set_option linter.unusedSimpArgs false
set_option maxRecDepth 100000

set_option maxHeartbeats 8000000 in
theorem l04Put_any (A At : Option Addr) (n c nt ct : Nat) (S : Sum) (t : List Int) (x : Int) (w : World) (hl : S.length = n) (hn : n ≤ 1000) (hS : ∀ e ∈ S, e.1.length ≤ 8 ∧ -1000000 ≤ e.2 ∧ e.2 ≤ 1000000) (hx : -1000000 ≤ x ∧ x ≤ 1000000) (ht : t.length = nt) (h1 : 1 ≤ nt) (h8 : nt ≤ 8) (h : Sms w A S) (hr : Row w w.heap.size At (ints t)) :
    Calls Try.prog 112 #[.slice A n c, .slice At nt ct, .int .i64 x] w (NewSum (Tr.putL S t x).length (Tr.putL S t x) w) := by
  obtain ⟨i0, hi, hz0, hz1, hz2⟩ := info_parts info_cnt
  obtain ⟨bt, ot, rfl, hbt⟩ : ∃ bt ot, At = some ⟨bt, ot, none⟩ ∧ bt < w.heap.size := by
    obtain ⟨y, hy⟩ := at_lt (show 0 < t.length by omega)
    obtain ⟨b, o, e, hb, _⟩ := hr 0 _ (ints_at hy)
    exact ⟨b, o, e, hb⟩
  have HL := Lib.hid hl
  have HT := Lib.hid ht
  have HSB := Lib.hid hS
  have HS := Lib.hid h
  have HR := Lib.hid hr
  obtain ⟨hx0, hx1⟩ := hx
  clear hl ht hS h hr
  go_enter Try.func112, Try.ntmps112
  go_wp2_with fail
  go_loopw [7] (fun a wr => ∃ (q m : Nat), q ≤ n ∧ a = .int .i64 q ∧ wr = w.drewN m ∧ Hid (∀ j e, j < q → S[j]? = some e → Tr.beforeL e.1 t = true)) (fun a _ => n - (intOf a).toNat)
  case atStart => exact ⟨0, 0, Nat.zero_le _, rfl, rfl, fun j e hj => by omega⟩
  case round =>
    obtain ⟨q, m, hq, rfl, rfl, HQ⟩ := hrel
    by_cases hqn : q < n
    · obtain ⟨e, he⟩ := at_lt (show q < S.length by rw [HL.out]; exact hqn)
      obtain ⟨b, o, Ak, ck, rfl, hb, hc0, hc1, hlk, hck, hrow⟩ := (HS.out.drewN m).at he
      have he8 := (HSB.out e (List.mem_of_getElem? he)).1
      have C1 := l03Before_any Ak (some ⟨bt, ot, none⟩) e.1.length nt ck ct _ _ e.1 t (w.drewN m) rfl HT.out (by omega) (by omega) hrow.row (HR.out.drewN m)
      cases hbf : Tr.beforeL e.1 t
      · rw [hbf] at C1
        have HAT : Hid (Tr.atL t S = q) := atL_at HQ.out (.inr ⟨e, he, hbf⟩)
        clear hbf HQ he
        go_wp2_with fail
        refine C1.mono ?_
        rintro e' w3 ⟨rfl, m3, rfl⟩
        clear hc0 hc1 hrow C1 he8 hlk hck hb
        obtain ⟨W, hW⟩ : ∃ W, W = (w.drewN m).drewN m3 := ⟨_, rfl⟩
        have BW : Hid (Below w.heap.size w W) := by rw [hW]; exact below_drewN (below_drewN (Below.refl _ _) _) _
        rw [← hW]
        clear hW
        have hW1 : w.heap.size ≤ W.heap.size := BW.out.size
        have HSW : Hid (Sms W (some ⟨b, o, none⟩) S) := HS.out.next BW.out
        have HRW : Hid (Row W W.heap.size (some ⟨bt, ot, none⟩) (ints t)) := (HR.out.below BW.out (Nat.le_refl _)).more hW1
        have hbtW : bt < W.heap.size := by omega
        go_wp2_with fail
        go_loopw [8, 9] (fun v i wr => ∃ (k g q' cap : Nat), k ≤ n ∧ v = .slice (some ⟨g, 0, none⟩) q' cap ∧ i = .int .i64 k ∧ Hid (∃ vs, OutS W (Tr.putTo S t x q k) g q' cap vs wr)) (fun _ i _ => n - (intOf i).toNat)
        case atStart => exact ⟨0, W.heap.size, 0, 0, Nat.zero_le _, rfl, rfl, [], OutS.start W⟩
        case round =>
          obtain ⟨k, g, q', cap, hk, rfl, rfl, HV⟩ := hrel
          obtain ⟨vs, hv⟩ := HV.out
          have HO := Lib.hid hv
          have HB : Hid (Below W.heap.size W wr) := hv.2.2
          have hsz := HB.out.size
          have hq2 : q' ≤ 2000 := by
            have h1 := Tr.putTo_length S t x q k
            rw [hv.len] at h1
            split at h1 <;> omega
          clear hv HV
          by_cases hlt : k < n
          · obtain ⟨e, he⟩ := at_lt (show k < S.length by rw [HL.out]; exact hlt)
            obtain ⟨b, o, Ak, ck, e1, hb, hc0, hc1, hlk, hck, hrow⟩ := HSW.out.at he
            cases e1
            obtain ⟨he8, hy0, hy1⟩ := HSB.out e (List.mem_of_getElem? he)
            have HGD : Hid (S.getD k ([], 0) = e) := by rw [Hid, List.getD_eq_getElem?_getD, he]; rfl
            have HROWk := Lib.hid hrow
            have HST : Hid (Tr.putTo S t x q (k + 1) = Tr.putTo S t x q k ++ Tr.putE t x (decide (k = q)) e) := by rw [Hid, Tr.putTo, HGD.out]
            have HRWr : Hid (Row wr wr.heap.size (some ⟨bt, ot, none⟩) (ints t)) := (HRW.out.below HB.out (Nat.le_refl _)).more hsz
            have hbtr : bt < wr.heap.size := by omega
            have C0 := l01Same_any Ak (some ⟨bt, ot, none⟩) e.1.length nt ck ct _ _ e.1 t wr rfl HT.out (by omega) (by omega) (hrow.row.below HB.out (Nat.le_refl _)) HRWr.out
            have HC0 := Lib.hid hc0
            have HC1 := Lib.hid hc1
            have hc0' := (HB.out.cell (p := ⟨b, o + k * 2, none⟩) hb).trans hc0
            clear he hrow hc0 hc1
            by_cases hkq : k = q
            · obtain rfl : q = k := by omega
              by_cases hes : e.1 = t
              · rw [show eqL e.1 t = true by rw [hes]; exact eqL_self t] at C0
                have HPU : Hid (Tr.putTo S t x q (q + 1) = Tr.putTo S t x q q ++ [(e.1, if e.1 = t then e.2 + x else e.2)]) := by rw [Hid, HST.out]; unfold Tr.putE; rw [if_neg (by simp [hes])]; rfl
                clear hes
                go_wp2_with fail
                refine C0.mono ?_
                rintro e' w3 ⟨rfl, m3, rfl⟩
                obtain ⟨W2, hW2⟩ : ∃ W2, W2 = wr.drewN m3 := ⟨_, rfl⟩
                have HO2 : Hid (OutS W (Tr.putTo S t x q q) g q' cap vs W2) := by rw [hW2]; exact HO.out.below (below_drewN (Below.refl _ _) m3)
                rw [← hW2]
                have HBW : Hid (Below W.heap.size W W2) := HO2.out.2.2
                have hs2 : W.heap.size ≤ W2.heap.size := HBW.out.size
                have hd0 := (HBW.out.cell (p := ⟨b, o + q * 2, none⟩) hb).trans HC0.out
                have hd1 := (HBW.out.cell (p := ⟨b, o + q * 2 + 1, none⟩) hb).trans HC1.out
                have hbW : b < W2.heap.size := by omega
                have BA : Below W2.heap.size W2 (W2.alloc (Obj.cells #[.slice none 0 0, .int .i64 0] 97)) := (Below.refl _ _).alloc (Nat.le_refl _) _
                have hd2 := (BA.cell (p := ⟨b, o + q * 2, none⟩) hbW).trans hd0
                have hd3 := (BA.cell (p := ⟨b, o + q * 2 + 1, none⟩) hbW).trans hd1
                clear hW2 BA hc0'
                go_wp2_with fail
                go_region
                obtain ⟨W4, hW4⟩ : ∃ W4, W4 = (W2.alloc (Obj.cells #[.slice Ak e.1.length ck, .int .i64 e.2] 97)).drew := ⟨_, rfl⟩
                have HB4 : Hid (Below W2.heap.size W2 W4) := by rw [hW4]; exact ((Below.refl _ _).alloc (Nat.le_refl _) _).drew
                have hs4 : W4.heap.size = W2.heap.size + 1 := by rw [hW4]; show (W2.alloc _).heap.size = _; simp
                have hh4 : W4.heap[W2.heap.size]? = some (Obj.cells #[.slice Ak e.1.length ck, .int .i64 e.2] 97) := by rw [hW4]; exact heap_alloc_new _ _
                have hk0 : W4.cell? ⟨W2.heap.size, 0, none⟩ = some (.slice Ak e.1.length ck) := by rw [cell_of_row W4 _ 0 _ _ _ hh4]; rfl
                have hk1 : W4.cell? ⟨W2.heap.size, 1, none⟩ = some (.int .i64 e.2) := by rw [cell_of_row W4 _ 1 _ _ _ hh4]; rfl
                have hf1 : W4.frozen? ⟨W2.heap.size, 1, none⟩ = false := by unfold World.frozen?; simp [hh4]
                have hd4 := (HB4.out.cell (p := ⟨b, o + q * 2, none⟩) hbW).trans hd0
                rw [← hW4]
                clear hW4 hh4 hd0 hd1 hd2 hd3
                have HBW4 : Hid (Below W.heap.size W W4) := HBW.out.trans (HB4.out.mono hs2)
                have C5 := l01Same_any Ak (some ⟨bt, ot, none⟩) e.1.length nt ck ct _ _ e.1 t W4 rfl HT.out (by omega) (by omega) (HROWk.out.row.below HBW4.out (Nat.le_refl _)) (HRW.out.below HBW4.out (Nat.le_refl _))
                obtain ⟨Z, hZ⟩ : ∃ Z, Z = W2.heap.size := ⟨_, rfl⟩
                rw [← hZ] at hk0 hk1 hf1 hs4 HB4 ⊢
                have hWZ : W.heap.size ≤ Z := by omega
                by_cases hes : e.1 = t
                · rw [show eqL e.1 t = true by rw [hes]; exact eqL_self t] at C5
                  have HPV : Hid (Tr.putTo S t x q (q + 1) = Tr.putTo S t x q q ++ [(e.1, e.2 + x)]) := by rw [Hid, HPU.out, if_pos hes]
                  clear hes
                  go_wp2_with fail
                  refine C5.mono ?_
                  rintro e' w5 ⟨rfl, m5, rfl⟩
                  have HS5 : Hid (((W4.drewN m5).setCell ⟨Z, 1, none⟩ (.int .i64 (e.2 + x))).heap.size = Z + 1) := by
                    rw [Hid, ← hs4]; exact World.size_setCell _ _ _
                  have HO5 : Hid (OutS W (Tr.putTo S t x q q) g q' cap vs ((W4.drewN m5).setCell ⟨Z, 1, none⟩ (.int .i64 (e.2 + x)))) := HO2.out.below (by rw [← hZ]; exact (below_drewN HB4.out m5).setCell (p := ⟨Z, 1, none⟩) (Nat.le_refl _) _)
                  have hown5 := HO5.out.1
                  have HT5 : Hid (TRow ((W4.drewN m5).setCell ⟨Z, 1, none⟩ (.int .i64 (e.2 + x))) ((W4.drewN m5).setCell ⟨Z, 1, none⟩ (.int .i64 (e.2 + x))).heap.size Ak (ints e.1)) := (HROWk.out.below HO5.out.2.2 (Nat.le_refl _)).more HO5.out.2.2.size
                  clear hZ
                  go_wp2_with (at_builtin; refine wpList_append_lies _ rfl (.tmp 76) (.tmp 78) 98 rfl W.heap.size 97 i0 _ 2 32 Try.underlying98 hi hz0 hz1 hz2 rfl (by omega) (.slice (some ⟨g, 0, none⟩) q' cap) q' vs rfl (hown5.alloc _) ⟨Z + 1, 0, none⟩ 1 1 [.slice Ak e.1.length ck, .int .i64 (e.2 + x)] rfl rfl (by rw [← HS5.out]; exact World.news_of_block (cs := #[.slice Ak e.1.length ck, .int .i64 (e.2 + x)]) (heap_alloc_new _ _)) (by simp [Value.oneCell']) (by omega) (by simp only [maxLen]; omega) (by omega) (by simp; omega) _ rfl ?_; intro g7 cap7 w7 hown7 hgrow7 hat7 hlt7)
                  have HO7 : Hid (∃ vs, OutS W (Tr.putTo S t x q (q + 1)) g7 (q' + 1) cap7 vs w7) := by
                    rw [Hid, HPV.out]
                    exact ⟨_, HO5.out.push HT5.out hlk hck hown7 hgrow7⟩
                  clear hown7 hgrow7 hat7 hlt7 hown5
                  go_wp2
                  go_roundw
                  case rel => exact ⟨q + 1, g7, _, cap7, by omega, rfl, by go_num, HO7.out⟩
                  case measure => simp [intOf]; omega
                · rw [show eqL e.1 t = false by unfold eqL; exact decide_eq_false hes] at C5
                  have HPV : Hid (Tr.putTo S t x q (q + 1) = Tr.putTo S t x q q ++ [(e.1, e.2)]) := by rw [Hid, HPU.out, if_neg hes]
                  clear hes
                  go_wp2_with fail
                  refine C5.mono ?_
                  rintro e' w5 ⟨rfl, m5, rfl⟩
                  have HS5 : Hid ((W4.drewN m5).heap.size = Z + 1) := by
                    rw [Hid, ← hs4]; rfl
                  have HO5 : Hid (OutS W (Tr.putTo S t x q q) g q' cap vs (W4.drewN m5)) := HO2.out.below (by rw [← hZ]; exact below_drewN HB4.out m5)
                  have hown5 := HO5.out.1
                  have HT5 : Hid (TRow (W4.drewN m5) (W4.drewN m5).heap.size Ak (ints e.1)) := (HROWk.out.below HO5.out.2.2 (Nat.le_refl _)).more HO5.out.2.2.size
                  clear hZ
                  go_wp2_with (at_builtin; refine wpList_append_lies _ rfl (.tmp 76) (.tmp 78) 98 rfl W.heap.size 97 i0 _ 2 32 Try.underlying98 hi hz0 hz1 hz2 rfl (by omega) (.slice (some ⟨g, 0, none⟩) q' cap) q' vs rfl (hown5.alloc _) ⟨Z + 1, 0, none⟩ 1 1 [.slice Ak e.1.length ck, .int .i64 e.2] rfl rfl (by rw [← HS5.out]; exact World.news_of_block (cs := #[.slice Ak e.1.length ck, .int .i64 e.2]) (heap_alloc_new _ _)) (by simp [Value.oneCell']) (by omega) (by simp only [maxLen]; omega) (by omega) (by simp; omega) _ rfl ?_; intro g7 cap7 w7 hown7 hgrow7 hat7 hlt7)
                  have HO7 : Hid (∃ vs, OutS W (Tr.putTo S t x q (q + 1)) g7 (q' + 1) cap7 vs w7) := by
                    rw [Hid, HPV.out]
                    exact ⟨_, HO5.out.push HT5.out hlk hck hown7 hgrow7⟩
                  clear hown7 hgrow7 hat7 hlt7 hown5
                  go_wp2
                  go_roundw
                  case rel => exact ⟨q + 1, g7, _, cap7, by omega, rfl, by go_num, HO7.out⟩
                  case measure => simp [intOf]; omega
              · rw [show eqL e.1 t = false by unfold eqL; exact decide_eq_false hes] at C0
                have HPU : Hid (Tr.putTo S t x q (q + 1) = (Tr.putTo S t x q q ++ [(t, x)]) ++ [(e.1, if e.1 = t then e.2 + x else e.2)]) := by rw [Hid, HST.out]; unfold Tr.putE; rw [decide_eq_true rfl, decide_eq_false hes]; simp
                clear hes
                go_wp2_with fail
                refine C0.mono ?_
                rintro e' w3 ⟨rfl, m3, rfl⟩
                have HR3 : Hid (Row (wr.drewN m3) wr.heap.size (some ⟨bt, ot, none⟩) (ints t)) := HRWr.out.drewN m3
                go_wp2_with fail
                refine (l01Own_any ⟨bt, ot, none⟩ nt ct wr.heap.size t _ HT.out (by omega) (by show wr.heap.size ≤ wr.heap.size; omega) HR3.out).mono ?_
                rintro e' w3 ⟨A3, c3, rfl, own3, bel3⟩
                have HB3 : Hid (Below wr.heap.size wr w3) := (below_drewN (Below.refl _ _) m3).trans bel3
                have hs3 : wr.heap.size ≤ w3.heap.size := HB3.out.size
                have HO3 := HO.out.below HB3.out
                obtain ⟨hc3, hcm3⟩ := own_cap own3
                have HT3 := Lib.hid (TRow.own own3)
                have HO3' := Lib.hid HO3
                have hown := HO3.1
                clear bel3 own3 HO3
                go_wp2_with (at_builtin; refine wpList_append_lies _ rfl (.tmp 46) (.tmp 51) 98 rfl W.heap.size 97 i0 _ 2 32 Try.underlying98 hi hz0 hz1 hz2 rfl (by omega) (.slice (some ⟨g, 0, none⟩) q' cap) q' vs rfl (hown.alloc _) ⟨w3.heap.size, 0, none⟩ 1 1 [.slice A3 nt c3, .int .i64 x] rfl rfl (World.news_of_block (cs := #[.slice A3 nt c3, .int .i64 x]) (heap_alloc_new _ _)) (by simp [Value.oneCell']) (by omega) (by simp only [maxLen]; omega) (by omega) (by simp; omega) (w3.heap.size + 1) (by simp) ?_; intro g2 cap2 w4 hown4 hgrow4 hat4 hlt4)
                obtain ⟨vs2, hv2⟩ : ∃ vs, OutS W (Tr.putTo S t x q q ++ [(t, x)]) g2 (q' + 1) cap2 vs w4 := by
                  have e : nt = t.length := HT.out.symm
                  subst e
                  exact ⟨_, HO3'.out.push HT3.out (by omega) hcm3 hown4 hgrow4⟩
                obtain ⟨W2, hW2⟩ : ∃ W2, W2 = w4 := ⟨_, rfl⟩
                have HO2 : Hid (OutS W (Tr.putTo S t x q q ++ [(t, x)]) g2 (q' + 1) cap2 vs2 W2) := by rw [hW2]; exact hv2
                obtain ⟨q2, hq2e⟩ : ∃ q2, q2 = q' + 1 := ⟨_, rfl⟩
                have hq3 : q2 ≤ 2001 := by omega
                rw [← hW2, ← hq2e]
                rw [← hq2e] at HO2
                clear hown hown4 hgrow4 hat4 hlt4 hv2 hq2e
                have HBW : Hid (Below W.heap.size W W2) := HO2.out.2.2
                have hs2 : W.heap.size ≤ W2.heap.size := HBW.out.size
                have hd0 := (HBW.out.cell (p := ⟨b, o + q * 2, none⟩) hb).trans HC0.out
                have hd1 := (HBW.out.cell (p := ⟨b, o + q * 2 + 1, none⟩) hb).trans HC1.out
                have hbW : b < W2.heap.size := by omega
                have BA : Below W2.heap.size W2 (W2.alloc (Obj.cells #[.slice none 0 0, .int .i64 0] 97)) := (Below.refl _ _).alloc (Nat.le_refl _) _
                have hd2 := (BA.cell (p := ⟨b, o + q * 2, none⟩) hbW).trans hd0
                have hd3 := (BA.cell (p := ⟨b, o + q * 2 + 1, none⟩) hbW).trans hd1
                clear hW2 BA hc0'
                go_wp2_with fail
                go_region
                obtain ⟨W4, hW4⟩ : ∃ W4, W4 = (W2.alloc (Obj.cells #[.slice Ak e.1.length ck, .int .i64 e.2] 97)).drew := ⟨_, rfl⟩
                have HB4 : Hid (Below W2.heap.size W2 W4) := by rw [hW4]; exact ((Below.refl _ _).alloc (Nat.le_refl _) _).drew
                have hs4 : W4.heap.size = W2.heap.size + 1 := by rw [hW4]; show (W2.alloc _).heap.size = _; simp
                have hh4 : W4.heap[W2.heap.size]? = some (Obj.cells #[.slice Ak e.1.length ck, .int .i64 e.2] 97) := by rw [hW4]; exact heap_alloc_new _ _
                have hk0 : W4.cell? ⟨W2.heap.size, 0, none⟩ = some (.slice Ak e.1.length ck) := by rw [cell_of_row W4 _ 0 _ _ _ hh4]; rfl
                have hk1 : W4.cell? ⟨W2.heap.size, 1, none⟩ = some (.int .i64 e.2) := by rw [cell_of_row W4 _ 1 _ _ _ hh4]; rfl
                have hf1 : W4.frozen? ⟨W2.heap.size, 1, none⟩ = false := by unfold World.frozen?; simp [hh4]
                have hd4 := (HB4.out.cell (p := ⟨b, o + q * 2, none⟩) hbW).trans hd0
                rw [← hW4]
                clear hW4 hh4 hd0 hd1 hd2 hd3
                have HBW4 : Hid (Below W.heap.size W W4) := HBW.out.trans (HB4.out.mono hs2)
                have C5 := l01Same_any Ak (some ⟨bt, ot, none⟩) e.1.length nt ck ct _ _ e.1 t W4 rfl HT.out (by omega) (by omega) (HROWk.out.row.below HBW4.out (Nat.le_refl _)) (HRW.out.below HBW4.out (Nat.le_refl _))
                obtain ⟨Z, hZ⟩ : ∃ Z, Z = W2.heap.size := ⟨_, rfl⟩
                rw [← hZ] at hk0 hk1 hf1 hs4 HB4 ⊢
                have hWZ : W.heap.size ≤ Z := by omega
                by_cases hes : e.1 = t
                · rw [show eqL e.1 t = true by rw [hes]; exact eqL_self t] at C5
                  have HPV : Hid (Tr.putTo S t x q (q + 1) = (Tr.putTo S t x q q ++ [(t, x)]) ++ [(e.1, e.2 + x)]) := by rw [Hid, HPU.out, if_pos hes]
                  clear hes
                  go_wp2_with fail
                  refine C5.mono ?_
                  rintro e' w5 ⟨rfl, m5, rfl⟩
                  have HS5 : Hid (((W4.drewN m5).setCell ⟨Z, 1, none⟩ (.int .i64 (e.2 + x))).heap.size = Z + 1) := by
                    rw [Hid, ← hs4]; exact World.size_setCell _ _ _
                  have HO5 : Hid (OutS W ((Tr.putTo S t x q q ++ [(t, x)])) g2 q2 cap2 vs2 ((W4.drewN m5).setCell ⟨Z, 1, none⟩ (.int .i64 (e.2 + x)))) := HO2.out.below (by rw [← hZ]; exact (below_drewN HB4.out m5).setCell (p := ⟨Z, 1, none⟩) (Nat.le_refl _) _)
                  have hown5 := HO5.out.1
                  have HT5 : Hid (TRow ((W4.drewN m5).setCell ⟨Z, 1, none⟩ (.int .i64 (e.2 + x))) ((W4.drewN m5).setCell ⟨Z, 1, none⟩ (.int .i64 (e.2 + x))).heap.size Ak (ints e.1)) := (HROWk.out.below HO5.out.2.2 (Nat.le_refl _)).more HO5.out.2.2.size
                  clear hZ
                  go_wp2_with (at_builtin; refine wpList_append_lies _ rfl (.tmp 76) (.tmp 78) 98 rfl W.heap.size 97 i0 _ 2 32 Try.underlying98 hi hz0 hz1 hz2 rfl (by omega) (.slice (some ⟨g2, 0, none⟩) q2 cap2) q2 vs2 rfl (hown5.alloc _) ⟨Z + 1, 0, none⟩ 1 1 [.slice Ak e.1.length ck, .int .i64 (e.2 + x)] rfl rfl (by rw [← HS5.out]; exact World.news_of_block (cs := #[.slice Ak e.1.length ck, .int .i64 (e.2 + x)]) (heap_alloc_new _ _)) (by simp [Value.oneCell']) (by omega) (by simp only [maxLen]; omega) (by omega) (by simp; omega) _ rfl ?_; intro g7 cap7 w7 hown7 hgrow7 hat7 hlt7)
                  have HO7 : Hid (∃ vs, OutS W (Tr.putTo S t x q (q + 1)) g7 (q2 + 1) cap7 vs w7) := by
                    rw [Hid, HPV.out]
                    exact ⟨_, HO5.out.push HT5.out hlk hck hown7 hgrow7⟩
                  clear hown7 hgrow7 hat7 hlt7 hown5
                  go_wp2
                  go_roundw
                  case rel => exact ⟨q + 1, g7, _, cap7, by omega, rfl, by go_num, HO7.out⟩
                  case measure => simp [intOf]; omega
                · rw [show eqL e.1 t = false by unfold eqL; exact decide_eq_false hes] at C5
                  have HPV : Hid (Tr.putTo S t x q (q + 1) = (Tr.putTo S t x q q ++ [(t, x)]) ++ [(e.1, e.2)]) := by rw [Hid, HPU.out, if_neg hes]
                  clear hes
                  go_wp2_with fail
                  refine C5.mono ?_
                  rintro e' w5 ⟨rfl, m5, rfl⟩
                  have HS5 : Hid ((W4.drewN m5).heap.size = Z + 1) := by
                    rw [Hid, ← hs4]; rfl
                  have HO5 : Hid (OutS W ((Tr.putTo S t x q q ++ [(t, x)])) g2 q2 cap2 vs2 (W4.drewN m5)) := HO2.out.below (by rw [← hZ]; exact below_drewN HB4.out m5)
                  have hown5 := HO5.out.1
                  have HT5 : Hid (TRow (W4.drewN m5) (W4.drewN m5).heap.size Ak (ints e.1)) := (HROWk.out.below HO5.out.2.2 (Nat.le_refl _)).more HO5.out.2.2.size
                  clear hZ
                  go_wp2_with (at_builtin; refine wpList_append_lies _ rfl (.tmp 76) (.tmp 78) 98 rfl W.heap.size 97 i0 _ 2 32 Try.underlying98 hi hz0 hz1 hz2 rfl (by omega) (.slice (some ⟨g2, 0, none⟩) q2 cap2) q2 vs2 rfl (hown5.alloc _) ⟨Z + 1, 0, none⟩ 1 1 [.slice Ak e.1.length ck, .int .i64 e.2] rfl rfl (by rw [← HS5.out]; exact World.news_of_block (cs := #[.slice Ak e.1.length ck, .int .i64 e.2]) (heap_alloc_new _ _)) (by simp [Value.oneCell']) (by omega) (by simp only [maxLen]; omega) (by omega) (by simp; omega) _ rfl ?_; intro g7 cap7 w7 hown7 hgrow7 hat7 hlt7)
                  have HO7 : Hid (∃ vs, OutS W (Tr.putTo S t x q (q + 1)) g7 (q2 + 1) cap7 vs w7) := by
                    rw [Hid, HPV.out]
                    exact ⟨_, HO5.out.push HT5.out hlk hck hown7 hgrow7⟩
                  clear hown7 hgrow7 hat7 hlt7 hown5
                  go_wp2
                  go_roundw
                  case rel => exact ⟨q + 1, g7, _, cap7, by omega, rfl, by go_num, HO7.out⟩
                  case measure => simp [intOf]; omega
            · have HKQ := Lib.hid hkq
              have tkq := beq_f (show ¬ (k : Int) = (q : Int) by omega)
              have HPU : Hid (Tr.putTo S t x q (k + 1) = Tr.putTo S t x q k ++ [(e.1, if e.1 = t then e.2 + x else e.2)]) := by rw [Hid, HST.out]; unfold Tr.putE; rw [decide_eq_false hkq]; rfl
              obtain ⟨W2, hW2⟩ : ∃ W2, W2 = wr := ⟨_, rfl⟩
              have HO2 : Hid (OutS W (Tr.putTo S t x q k) g q' cap vs W2) := by rw [hW2]; exact HO.out
              clear hkq C0
              rw [← hW2]
              have HBW : Hid (Below W.heap.size W W2) := HO2.out.2.2
              have hs2 : W.heap.size ≤ W2.heap.size := HBW.out.size
              have hd0 := (HBW.out.cell (p := ⟨b, o + k * 2, none⟩) hb).trans HC0.out
              have hd1 := (HBW.out.cell (p := ⟨b, o + k * 2 + 1, none⟩) hb).trans HC1.out
              have hbW : b < W2.heap.size := by omega
              have BA : Below W2.heap.size W2 (W2.alloc (Obj.cells #[.slice none 0 0, .int .i64 0] 97)) := (Below.refl _ _).alloc (Nat.le_refl _) _
              have hd2 := (BA.cell (p := ⟨b, o + k * 2, none⟩) hbW).trans hd0
              have hd3 := (BA.cell (p := ⟨b, o + k * 2 + 1, none⟩) hbW).trans hd1
              clear hW2 BA hc0'
              go_wp2_with fail
              go_region
              obtain ⟨W4, hW4⟩ : ∃ W4, W4 = (W2.alloc (Obj.cells #[.slice Ak e.1.length ck, .int .i64 e.2] 97)).drew := ⟨_, rfl⟩
              have HB4 : Hid (Below W2.heap.size W2 W4) := by rw [hW4]; exact ((Below.refl _ _).alloc (Nat.le_refl _) _).drew
              have hs4 : W4.heap.size = W2.heap.size + 1 := by rw [hW4]; show (W2.alloc _).heap.size = _; simp
              have hh4 : W4.heap[W2.heap.size]? = some (Obj.cells #[.slice Ak e.1.length ck, .int .i64 e.2] 97) := by rw [hW4]; exact heap_alloc_new _ _
              have hk0 : W4.cell? ⟨W2.heap.size, 0, none⟩ = some (.slice Ak e.1.length ck) := by rw [cell_of_row W4 _ 0 _ _ _ hh4]; rfl
              have hk1 : W4.cell? ⟨W2.heap.size, 1, none⟩ = some (.int .i64 e.2) := by rw [cell_of_row W4 _ 1 _ _ _ hh4]; rfl
              have hf1 : W4.frozen? ⟨W2.heap.size, 1, none⟩ = false := by unfold World.frozen?; simp [hh4]
              have hd4 := (HB4.out.cell (p := ⟨b, o + k * 2, none⟩) hbW).trans hd0
              rw [← hW4]
              clear hW4 hh4 hd0 hd1 hd2 hd3
              have HBW4 : Hid (Below W.heap.size W W4) := HBW.out.trans (HB4.out.mono hs2)
              have C5 := l01Same_any Ak (some ⟨bt, ot, none⟩) e.1.length nt ck ct _ _ e.1 t W4 rfl HT.out (by omega) (by omega) (HROWk.out.row.below HBW4.out (Nat.le_refl _)) (HRW.out.below HBW4.out (Nat.le_refl _))
              obtain ⟨Z, hZ⟩ : ∃ Z, Z = W2.heap.size := ⟨_, rfl⟩
              rw [← hZ] at hk0 hk1 hf1 hs4 HB4 ⊢
              have hWZ : W.heap.size ≤ Z := by omega
              by_cases hes : e.1 = t
              · rw [show eqL e.1 t = true by rw [hes]; exact eqL_self t] at C5
                have HPV : Hid (Tr.putTo S t x q (k + 1) = Tr.putTo S t x q k ++ [(e.1, e.2 + x)]) := by rw [Hid, HPU.out, if_pos hes]
                clear hes
                go_wp2_with fail
                refine C5.mono ?_
                rintro e' w5 ⟨rfl, m5, rfl⟩
                have HS5 : Hid (((W4.drewN m5).setCell ⟨Z, 1, none⟩ (.int .i64 (e.2 + x))).heap.size = Z + 1) := by
                  rw [Hid, ← hs4]; exact World.size_setCell _ _ _
                have HO5 : Hid (OutS W (Tr.putTo S t x q k) g q' cap vs ((W4.drewN m5).setCell ⟨Z, 1, none⟩ (.int .i64 (e.2 + x)))) := HO2.out.below (by rw [← hZ]; exact (below_drewN HB4.out m5).setCell (p := ⟨Z, 1, none⟩) (Nat.le_refl _) _)
                have hown5 := HO5.out.1
                have HT5 : Hid (TRow ((W4.drewN m5).setCell ⟨Z, 1, none⟩ (.int .i64 (e.2 + x))) ((W4.drewN m5).setCell ⟨Z, 1, none⟩ (.int .i64 (e.2 + x))).heap.size Ak (ints e.1)) := (HROWk.out.below HO5.out.2.2 (Nat.le_refl _)).more HO5.out.2.2.size
                clear hZ
                go_wp2_with (at_builtin; refine wpList_append_lies _ rfl (.tmp 76) (.tmp 78) 98 rfl W.heap.size 97 i0 _ 2 32 Try.underlying98 hi hz0 hz1 hz2 rfl (by omega) (.slice (some ⟨g, 0, none⟩) q' cap) q' vs rfl (hown5.alloc _) ⟨Z + 1, 0, none⟩ 1 1 [.slice Ak e.1.length ck, .int .i64 (e.2 + x)] rfl rfl (by rw [← HS5.out]; exact World.news_of_block (cs := #[.slice Ak e.1.length ck, .int .i64 (e.2 + x)]) (heap_alloc_new _ _)) (by simp [Value.oneCell']) (by omega) (by simp only [maxLen]; omega) (by omega) (by simp; omega) _ rfl ?_; intro g7 cap7 w7 hown7 hgrow7 hat7 hlt7)
                have HO7 : Hid (∃ vs, OutS W (Tr.putTo S t x q (k + 1)) g7 (q' + 1) cap7 vs w7) := by
                  rw [Hid, HPV.out]
                  exact ⟨_, HO5.out.push HT5.out hlk hck hown7 hgrow7⟩
                clear hown7 hgrow7 hat7 hlt7 hown5
                go_wp2
                go_roundw
                case rel => exact ⟨k + 1, g7, _, cap7, by omega, rfl, by go_num, HO7.out⟩
                case measure => simp [intOf]; omega
              · rw [show eqL e.1 t = false by unfold eqL; exact decide_eq_false hes] at C5
                have HPV : Hid (Tr.putTo S t x q (k + 1) = Tr.putTo S t x q k ++ [(e.1, e.2)]) := by rw [Hid, HPU.out, if_neg hes]
                clear hes
                go_wp2_with fail
                refine C5.mono ?_
                rintro e' w5 ⟨rfl, m5, rfl⟩
                have HS5 : Hid ((W4.drewN m5).heap.size = Z + 1) := by
                  rw [Hid, ← hs4]; rfl
                have HO5 : Hid (OutS W (Tr.putTo S t x q k) g q' cap vs (W4.drewN m5)) := HO2.out.below (by rw [← hZ]; exact below_drewN HB4.out m5)
                have hown5 := HO5.out.1
                have HT5 : Hid (TRow (W4.drewN m5) (W4.drewN m5).heap.size Ak (ints e.1)) := (HROWk.out.below HO5.out.2.2 (Nat.le_refl _)).more HO5.out.2.2.size
                clear hZ
                go_wp2_with (at_builtin; refine wpList_append_lies _ rfl (.tmp 76) (.tmp 78) 98 rfl W.heap.size 97 i0 _ 2 32 Try.underlying98 hi hz0 hz1 hz2 rfl (by omega) (.slice (some ⟨g, 0, none⟩) q' cap) q' vs rfl (hown5.alloc _) ⟨Z + 1, 0, none⟩ 1 1 [.slice Ak e.1.length ck, .int .i64 e.2] rfl rfl (by rw [← HS5.out]; exact World.news_of_block (cs := #[.slice Ak e.1.length ck, .int .i64 e.2]) (heap_alloc_new _ _)) (by simp [Value.oneCell']) (by omega) (by simp only [maxLen]; omega) (by omega) (by simp; omega) _ rfl ?_; intro g7 cap7 w7 hown7 hgrow7 hat7 hlt7)
                have HO7 : Hid (∃ vs, OutS W (Tr.putTo S t x q (k + 1)) g7 (q' + 1) cap7 vs w7) := by
                  rw [Hid, HPV.out]
                  exact ⟨_, HO5.out.push HT5.out hlk hck hown7 hgrow7⟩
                clear hown7 hgrow7 hat7 hlt7 hown5
                go_wp2
                go_roundw
                case rel => exact ⟨k + 1, g7, _, cap7, by omega, rfl, by go_num, HO7.out⟩
                case measure => simp [intOf]; omega
          · have hkn : k = n := by omega
            have G : Hid (NewSum (Tr.putL S t x).length (Tr.putL S t x) w (.returned (.slice (some ⟨g, 0, none⟩) q' cap)) wr) := by
              have e : Tr.putL S t x = Tr.putTo S t x q k := by unfold Tr.putL; rw [HAT.out, HL.out, if_neg (by omega), List.append_nil, hkn]
              rw [Hid, e]
              exact HO.out.done BW.out
            have tqn := beq_f (show ¬ (q : Int) = (n : Int) by omega)
            clear hkn HO
            go_wp2
            go_ret
            exact G.out
      · rw [hbf] at C1
        have HQ2 : Hid (∀ j e, j < q + 1 → S[j]? = some e → Tr.beforeL e.1 t = true) := fun j e' hj he' => by
          by_cases hjq : j = q
          · subst hjq; rw [he] at he'; injection he' with he'; rw [← he']; exact hbf
          · exact HQ.out j e' (by omega) he'
        clear hbf HQ he
        go_wp2_with fail
        refine C1.mono ?_
        rintro e' w3 ⟨rfl, m3, rfl⟩
        go_wp2
        go_roundw
        case rel => exact ⟨q + 1, _, by omega, by go_num, rfl, HQ2⟩
        case measure => simp [intOf]; omega
    · have hqe : q = n := by omega
      have HQE := Lib.hid hqe
      have HAT : Hid (Tr.atL t S = q) := atL_at HQ.out (.inl (by rw [hqe]; exact HL.out.symm))
      obtain ⟨W, hW⟩ : ∃ W, W = w.drewN m := ⟨_, rfl⟩
      have BW : Hid (Below w.heap.size w W) := by rw [hW]; exact below_drewN (Below.refl _ _) _
      clear HQ hqe
      rw [← hW]
      clear hW
      have hW1 : w.heap.size ≤ W.heap.size := BW.out.size
      have HSW : Hid (Sms W A S) := HS.out.next BW.out
      have HRW : Hid (Row W W.heap.size (some ⟨bt, ot, none⟩) (ints t)) := (HR.out.below BW.out (Nat.le_refl _)).more hW1
      have hbtW : bt < W.heap.size := by omega
      go_wp2_with fail
      go_loopw [8, 9] (fun v i wr => ∃ (k g q' cap : Nat), k ≤ n ∧ v = .slice (some ⟨g, 0, none⟩) q' cap ∧ i = .int .i64 k ∧ Hid (∃ vs, OutS W (Tr.putTo S t x q k) g q' cap vs wr)) (fun _ i _ => n - (intOf i).toNat)
      case atStart => exact ⟨0, W.heap.size, 0, 0, Nat.zero_le _, rfl, rfl, [], OutS.start W⟩
      case round =>
        obtain ⟨k, g, q', cap, hk, rfl, rfl, HV⟩ := hrel
        obtain ⟨vs, hv⟩ := HV.out
        have HO := Lib.hid hv
        have HB : Hid (Below W.heap.size W wr) := hv.2.2
        have hsz := HB.out.size
        have hq2 : q' ≤ 2000 := by
          have h1 := Tr.putTo_length S t x q k
          rw [hv.len] at h1
          split at h1 <;> omega
        clear hv HV
        by_cases hlt : k < n
        · obtain ⟨e, he⟩ := at_lt (show k < S.length by rw [HL.out]; exact hlt)
          obtain ⟨b, o, Ak, ck, e1, hb, hc0, hc1, hlk, hck, hrow⟩ := HSW.out.at he
          subst e1
          obtain ⟨he8, hy0, hy1⟩ := HSB.out e (List.mem_of_getElem? he)
          have HGD : Hid (S.getD k ([], 0) = e) := by rw [Hid, List.getD_eq_getElem?_getD, he]; rfl
          have HROWk := Lib.hid hrow
          have HST : Hid (Tr.putTo S t x q (k + 1) = Tr.putTo S t x q k ++ Tr.putE t x (decide (k = q)) e) := by rw [Hid, Tr.putTo, HGD.out]
          have HRWr : Hid (Row wr wr.heap.size (some ⟨bt, ot, none⟩) (ints t)) := (HRW.out.below HB.out (Nat.le_refl _)).more hsz
          have hbtr : bt < wr.heap.size := by omega
          have C0 := l01Same_any Ak (some ⟨bt, ot, none⟩) e.1.length nt ck ct _ _ e.1 t wr rfl HT.out (by omega) (by omega) (hrow.row.below HB.out (Nat.le_refl _)) HRWr.out
          have HC0 := Lib.hid hc0
          have HC1 := Lib.hid hc1
          have hc0' := (HB.out.cell (p := ⟨b, o + k * 2, none⟩) hb).trans hc0
          clear he hrow hc0 hc1
          by_cases hkq : k = q
          · exfalso; have := HQE.out; omega
          · have HKQ := Lib.hid hkq
            have tkq := beq_f (show ¬ (k : Int) = (q : Int) by omega)
            have HPU : Hid (Tr.putTo S t x q (k + 1) = Tr.putTo S t x q k ++ [(e.1, if e.1 = t then e.2 + x else e.2)]) := by rw [Hid, HST.out]; unfold Tr.putE; rw [decide_eq_false hkq]; rfl
            obtain ⟨W2, hW2⟩ : ∃ W2, W2 = wr := ⟨_, rfl⟩
            have HO2 : Hid (OutS W (Tr.putTo S t x q k) g q' cap vs W2) := by rw [hW2]; exact HO.out
            clear hkq C0
            rw [← hW2]
            have HBW : Hid (Below W.heap.size W W2) := HO2.out.2.2
            have hs2 : W.heap.size ≤ W2.heap.size := HBW.out.size
            have hd0 := (HBW.out.cell (p := ⟨b, o + k * 2, none⟩) hb).trans HC0.out
            have hd1 := (HBW.out.cell (p := ⟨b, o + k * 2 + 1, none⟩) hb).trans HC1.out
            have hbW : b < W2.heap.size := by omega
            have BA : Below W2.heap.size W2 (W2.alloc (Obj.cells #[.slice none 0 0, .int .i64 0] 97)) := (Below.refl _ _).alloc (Nat.le_refl _) _
            have hd2 := (BA.cell (p := ⟨b, o + k * 2, none⟩) hbW).trans hd0
            have hd3 := (BA.cell (p := ⟨b, o + k * 2 + 1, none⟩) hbW).trans hd1
            clear hW2 BA hc0'
            go_wp2_with fail
            go_region
            obtain ⟨W4, hW4⟩ : ∃ W4, W4 = (W2.alloc (Obj.cells #[.slice Ak e.1.length ck, .int .i64 e.2] 97)).drew := ⟨_, rfl⟩
            have HB4 : Hid (Below W2.heap.size W2 W4) := by rw [hW4]; exact ((Below.refl _ _).alloc (Nat.le_refl _) _).drew
            have hs4 : W4.heap.size = W2.heap.size + 1 := by rw [hW4]; show (W2.alloc _).heap.size = _; simp
            have hh4 : W4.heap[W2.heap.size]? = some (Obj.cells #[.slice Ak e.1.length ck, .int .i64 e.2] 97) := by rw [hW4]; exact heap_alloc_new _ _
            have hk0 : W4.cell? ⟨W2.heap.size, 0, none⟩ = some (.slice Ak e.1.length ck) := by rw [cell_of_row W4 _ 0 _ _ _ hh4]; rfl
            have hk1 : W4.cell? ⟨W2.heap.size, 1, none⟩ = some (.int .i64 e.2) := by rw [cell_of_row W4 _ 1 _ _ _ hh4]; rfl
            have hf1 : W4.frozen? ⟨W2.heap.size, 1, none⟩ = false := by unfold World.frozen?; simp [hh4]
            have hd4 := (HB4.out.cell (p := ⟨b, o + k * 2, none⟩) hbW).trans hd0
            rw [← hW4]
            clear hW4 hh4 hd0 hd1 hd2 hd3
            have HBW4 : Hid (Below W.heap.size W W4) := HBW.out.trans (HB4.out.mono hs2)
            have C5 := l01Same_any Ak (some ⟨bt, ot, none⟩) e.1.length nt ck ct _ _ e.1 t W4 rfl HT.out (by omega) (by omega) (HROWk.out.row.below HBW4.out (Nat.le_refl _)) (HRW.out.below HBW4.out (Nat.le_refl _))
            obtain ⟨Z, hZ⟩ : ∃ Z, Z = W2.heap.size := ⟨_, rfl⟩
            rw [← hZ] at hk0 hk1 hf1 hs4 HB4 ⊢
            have hWZ : W.heap.size ≤ Z := by omega
            by_cases hes : e.1 = t
            · rw [show eqL e.1 t = true by rw [hes]; exact eqL_self t] at C5
              have HPV : Hid (Tr.putTo S t x q (k + 1) = Tr.putTo S t x q k ++ [(e.1, e.2 + x)]) := by rw [Hid, HPU.out, if_pos hes]
              clear hes
              go_wp2_with fail
              refine C5.mono ?_
              rintro e' w5 ⟨rfl, m5, rfl⟩
              have HS5 : Hid (((W4.drewN m5).setCell ⟨Z, 1, none⟩ (.int .i64 (e.2 + x))).heap.size = Z + 1) := by
                rw [Hid, ← hs4]; exact World.size_setCell _ _ _
              have HO5 : Hid (OutS W (Tr.putTo S t x q k) g q' cap vs ((W4.drewN m5).setCell ⟨Z, 1, none⟩ (.int .i64 (e.2 + x)))) := HO2.out.below (by rw [← hZ]; exact (below_drewN HB4.out m5).setCell (p := ⟨Z, 1, none⟩) (Nat.le_refl _) _)
              have hown5 := HO5.out.1
              have HT5 : Hid (TRow ((W4.drewN m5).setCell ⟨Z, 1, none⟩ (.int .i64 (e.2 + x))) ((W4.drewN m5).setCell ⟨Z, 1, none⟩ (.int .i64 (e.2 + x))).heap.size Ak (ints e.1)) := (HROWk.out.below HO5.out.2.2 (Nat.le_refl _)).more HO5.out.2.2.size
              clear hZ
              go_wp2_with (at_builtin; refine wpList_append_lies _ rfl (.tmp 76) (.tmp 78) 98 rfl W.heap.size 97 i0 _ 2 32 Try.underlying98 hi hz0 hz1 hz2 rfl (by omega) (.slice (some ⟨g, 0, none⟩) q' cap) q' vs rfl (hown5.alloc _) ⟨Z + 1, 0, none⟩ 1 1 [.slice Ak e.1.length ck, .int .i64 (e.2 + x)] rfl rfl (by rw [← HS5.out]; exact World.news_of_block (cs := #[.slice Ak e.1.length ck, .int .i64 (e.2 + x)]) (heap_alloc_new _ _)) (by simp [Value.oneCell']) (by omega) (by simp only [maxLen]; omega) (by omega) (by simp; omega) _ rfl ?_; intro g7 cap7 w7 hown7 hgrow7 hat7 hlt7)
              have HO7 : Hid (∃ vs, OutS W (Tr.putTo S t x q (k + 1)) g7 (q' + 1) cap7 vs w7) := by
                rw [Hid, HPV.out]
                exact ⟨_, HO5.out.push HT5.out hlk hck hown7 hgrow7⟩
              clear hown7 hgrow7 hat7 hlt7 hown5
              go_wp2
              go_roundw
              case rel => exact ⟨k + 1, g7, _, cap7, by omega, rfl, by go_num, HO7.out⟩
              case measure => simp [intOf]; omega
            · rw [show eqL e.1 t = false by unfold eqL; exact decide_eq_false hes] at C5
              have HPV : Hid (Tr.putTo S t x q (k + 1) = Tr.putTo S t x q k ++ [(e.1, e.2)]) := by rw [Hid, HPU.out, if_neg hes]
              clear hes
              go_wp2_with fail
              refine C5.mono ?_
              rintro e' w5 ⟨rfl, m5, rfl⟩
              have HS5 : Hid ((W4.drewN m5).heap.size = Z + 1) := by
                rw [Hid, ← hs4]; rfl
              have HO5 : Hid (OutS W (Tr.putTo S t x q k) g q' cap vs (W4.drewN m5)) := HO2.out.below (by rw [← hZ]; exact below_drewN HB4.out m5)
              have hown5 := HO5.out.1
              have HT5 : Hid (TRow (W4.drewN m5) (W4.drewN m5).heap.size Ak (ints e.1)) := (HROWk.out.below HO5.out.2.2 (Nat.le_refl _)).more HO5.out.2.2.size
              clear hZ
              go_wp2_with (at_builtin; refine wpList_append_lies _ rfl (.tmp 76) (.tmp 78) 98 rfl W.heap.size 97 i0 _ 2 32 Try.underlying98 hi hz0 hz1 hz2 rfl (by omega) (.slice (some ⟨g, 0, none⟩) q' cap) q' vs rfl (hown5.alloc _) ⟨Z + 1, 0, none⟩ 1 1 [.slice Ak e.1.length ck, .int .i64 e.2] rfl rfl (by rw [← HS5.out]; exact World.news_of_block (cs := #[.slice Ak e.1.length ck, .int .i64 e.2]) (heap_alloc_new _ _)) (by simp [Value.oneCell']) (by omega) (by simp only [maxLen]; omega) (by omega) (by simp; omega) _ rfl ?_; intro g7 cap7 w7 hown7 hgrow7 hat7 hlt7)
              have HO7 : Hid (∃ vs, OutS W (Tr.putTo S t x q (k + 1)) g7 (q' + 1) cap7 vs w7) := by
                rw [Hid, HPV.out]
                exact ⟨_, HO5.out.push HT5.out hlk hck hown7 hgrow7⟩
              clear hown7 hgrow7 hat7 hlt7 hown5
              go_wp2
              go_roundw
              case rel => exact ⟨k + 1, g7, _, cap7, by omega, rfl, by go_num, HO7.out⟩
              case measure => simp [intOf]; omega
        · have hkn : k = n := by omega
          have e : Tr.putL S t x = Tr.putTo S t x q k ++ [(t, x)] := by unfold Tr.putL; rw [HAT.out, HL.out, if_pos HQE.out, hkn]
          have HE := Lib.hid e
          have tqn := beq_t (show (q : Int) = (n : Int) by have := HQE.out; omega)
          have HRWr : Hid (Row wr wr.heap.size (some ⟨bt, ot, none⟩) (ints t)) := (HRW.out.below HB.out (Nat.le_refl _)).more hsz
          have hbtr : bt < wr.heap.size := by omega
          clear hkn e
          go_wp2_with fail
          refine (l01Own_any ⟨bt, ot, none⟩ nt ct wr.heap.size t _ HT.out (by omega) (Nat.le_refl _) HRWr.out).mono ?_
          rintro e' w3 ⟨A3, c3, rfl, own3, bel3⟩
          have hs3 : wr.heap.size ≤ w3.heap.size := bel3.size
          have HO3 := HO.out.below bel3
          obtain ⟨hc3, hcm3⟩ := own_cap own3
          have HT3 := Lib.hid (TRow.own own3)
          have HO3' := Lib.hid HO3
          have hown := HO3.1
          clear bel3 own3 HO3
          go_wp2_with (at_builtin; refine wpList_append_lies _ rfl (.tmp 84) (.tmp 89) 98 rfl W.heap.size 97 i0 _ 2 32 Try.underlying98 hi hz0 hz1 hz2 rfl (by omega) (.slice (some ⟨g, 0, none⟩) q' cap) q' vs rfl (hown.alloc _) ⟨w3.heap.size, 0, none⟩ 1 1 [.slice A3 nt c3, .int .i64 x] rfl rfl (World.news_of_block (cs := #[.slice A3 nt c3, .int .i64 x]) (heap_alloc_new _ _)) (by simp [Value.oneCell']) (by omega) (by simp only [maxLen]; omega) (by omega) (by simp; omega) (w3.heap.size + 1) (by simp) ?_; intro g2 cap2 w4 hown4 hgrow4 hat4 hlt4)
          have G : Hid (NewSum (Tr.putL S t x).length (Tr.putL S t x) w (.returned (.slice (some ⟨g2, 0, none⟩) (q' + 1) cap2)) w4) := by
            rw [Hid, HE.out]
            have e : nt = t.length := HT.out.symm
            subst e
            exact (HO3'.out.push HT3.out (by omega) hcm3 hown4 hgrow4).done BW.out
          clear hown hown4 hgrow4 hat4 hlt4
          go_wp2
          go_ret
          exact G.out
end Go.Proofs.Ytnnihdkhblbdgaa
