/-
  Products of matrices, the program's and the model's alike.
-/
import Derived.Test.YtdgdanpkekcckaaPush
import Derived.Test.YtdgdanpkekcckaaSlices
namespace Go.Proofs.Ytdgdanpkekcckaa
open Go.RowKit Fld
set_option linter.unusedVariables false
set_option linter.unusedSimpArgs false
set_option maxRecDepth 100000

def prodRow (r : List Int) (b : List (List Int)) : List Int := (List.range (b.getD 0 []).length).map fun k : Nat => dotK r (colAt b k) r.length
def prodM (a b : List (List Int)) : List (List Int) := a.map fun r => prodRow r b
theorem prodRow_length (r : List Int) (b : List (List Int)) : (prodRow r b).length = (b.getD 0 []).length := by simp [prodRow]
theorem prodRow_at (r : List Int) (b : List (List Int)) {k : Nat} (h : k < (b.getD 0 []).length) : (prodRow r b)[k]? = some (dotK r (colAt b k) r.length) := by
  unfold prodRow; rw [List.getElem?_map, List.getElem?_range h]; rfl
theorem prodM_at {a b : List (List Int)} {i : Nat} {r : List Int} (h : a[i]? = some r) : (prodM a b)[i]? = some (prodRow r b) := by unfold prodM; rw [List.getElem?_map, h]; rfl
theorem prodM_length (a b : List (List Int)) : (prodM a b).length = a.length := by simp [prodM]
theorem colAt_num {b : List (List Int)} {k q : Nat} (hw : Wide b q) (hk : k < q) (h : ∀ r ∈ b, allNum r = true) : allNum (colAt b k) = true := by
  rw [allNum_iff]
  intro x hx
  unfold colAt at hx
  rw [List.mem_map] at hx
  obtain ⟨r, hr, rfl⟩ := hx
  have hl := hw r hr
  rw [List.getD_eq_getElem?_getD, List.getElem?_eq_getElem (by omega), Option.getD_some]
  exact allNum_iff.1 (h r hr) _ (List.getElem_mem _)

def mulA (a b : List (List Int)) : List (List Int) × Int := if isMatB a = true ∧ isMatB b = true then (if (a.getD 0 []).length = b.length then (prodM a b, 0) else ([], 5)) else ([], 1)
theorem mulA_no1 {a b : List (List Int)} (h : isMatB a = false) : mulA a b = ([], 1) := if_neg (by rw [h]; simp)
theorem mulA_no2 {a b : List (List Int)} (h : isMatB b = false) : mulA a b = ([], 1) := if_neg (by rw [h]; simp)
theorem mulA_no5 {a b : List (List Int)} (ha : isMatB a = true) (hb : isMatB b = true) (h : (a.getD 0 []).length ≠ b.length) : mulA a b = ([], 5) := (if_pos ⟨ha, hb⟩).trans (if_neg h)
theorem mulA_yes {a b : List (List Int)} (ha : isMatB a = true) (hb : isMatB b = true) (h : (a.getD 0 []).length = b.length) : mulA a b = (prodM a b, 0) := (if_pos ⟨ha, hb⟩).trans (if_pos h)
/-- a list of lists beside a code -/
def MatEnd (r : List (List Int) × Int) (w : World) (e : Ending) (w' : World) : Prop :=
  ∃ A n c vs, e = .returned (.tuple #[.slice A n c, .int .i64 r.2]) ∧ OwnMat w' w.heap.size w'.heap.size (.slice A n c) n r.1 vs ∧ Below w.heap.size w w'
theorem OwnMat.nil (w : World) (lo hi : Nat) : OwnMat w lo hi (.slice none 0 0) 0 [] [] :=
  ⟨⟨World.ownsRow_nil _ _ _ _, fun g hg => by simp [Value.ownBlock] at hg⟩, rfl, fun r row hr => by simp at hr, fun r s u t g _ hu => by simp at hu⟩
theorem MatEnd.err {r : List (List Int) × Int} {w w' : World} {k : Int} (h : r = ([], k)) (hb : Below w.heap.size w w') : MatEnd r w (.returned (.tuple #[.slice none 0 0, .int .i64 k])) w' := by
  subst h; exact ⟨_, _, _, [], rfl, OwnMat.nil _ _ _, hb⟩
theorem MatEnd.ok {r : List (List Int) × Int} {w w' : World} {k : Int} {m : List (List Int)} {A : Option Addr} {n c : Nat} {vs : List Value} (h : r = (m, k)) (ho : OwnMat w' w.heap.size w'.heap.size (.slice A n c) n m vs) (hb : Below w.heap.size w w') : MatEnd r w (.returned (.tuple #[.slice A n c, .int .i64 k])) w' := by
  subst h; exact ⟨_, _, _, vs, rfl, ho, hb⟩
theorem below_undrew {w w' : World} {a : Nat} (h : Below (w.drewN a).heap.size (w.drewN a) w') : Below w.heap.size w w' := ⟨h.os, h.tape, h.output, h.size, h.block⟩
theorem Filling.below {w wr W : World} {T : TypeId} {n k : Nat} {xs : List Int} (h : Filling w T n xs k wr) (hb : Below wr.heap.size wr W) : Filling w T n xs k W :=
  ⟨((OwnR.of h.1).below hb (Nat.le_refl _)).1, h.2.trans (hb.mono h.2.size)⟩
set_option maxRecDepth 100000 in
set_option maxHeartbeats 1000000 in
theorem multiplyMatrices_any (A A' : Option Addr) (n n' c c' B : Nat) (a b : List (List Int)) (w : World) (hl : a.length = n) (hl' : b.length = n') (hn : n ≤ 1048576) (hn' : n' ≤ 1048576) (hB : B ≤ w.heap.size) (h : Mat w B A a) (h' : Mat w B A' b) :
    Calls Try.prog 10 #[.slice A n c, .slice A' n' c'] w (MatEnd (mulA a b) w) := by
  have HL := Lib.hid hl
  have HL' := Lib.hid hl'
  clear hl hl'
  cases ha : isMatB a
  · have H := Lib.hid (mulA_no1 (b := b) ha)
    go_enter Try.func10, Try.ntmps10
    go_wp2_with fail
    refine (isMatrix_any _ n _ B a _ HL.out (by omega) h).mono ?_
    rintro e w' ⟨rfl, rfl⟩
    go_wp2
    go_ret2
    exact MatEnd.err H.out (Below.refl _ _)
  · cases hb : isMatB b
    · have H := Lib.hid (mulA_no2 (a := a) hb)
      go_enter Try.func10, Try.ntmps10
      go_wp2_with fail
      refine (isMatrix_any _ n _ B a _ HL.out (by omega) h).mono ?_
      rintro e w' ⟨rfl, rfl⟩
      go_wp2_with fail
      refine (isMatrix_any _ n' _ B b _ HL'.out (by omega) h').mono ?_
      rintro e w' ⟨rfl, rfl⟩
      go_wp2
      go_ret2
      exact MatEnd.err H.out (Below.refl _ _)
    · obtain ⟨a1, a2, a3, a4, aw, an⟩ := isMatB_parts ha
      obtain ⟨b1, b2, b3, b4, bw, bn⟩ := isMatB_parts hb
      rw [HL.out] at a1 a2
      rw [HL'.out] at b1 b2
      obtain ⟨ra, hra⟩ := at_lt (show 0 < a.length by rw [HL.out]; omega)
      obtain ⟨ba, oa, Aa, ca, rfl, hba, hca, _, _, _⟩ := h 0 ra hra
      rw [Nat.add_zero] at hca
      have ea : a.getD 0 [] = ra := getD_of hra
      obtain ⟨rb, hrb⟩ := at_lt (show 0 < b.length by rw [HL'.out]; omega)
      obtain ⟨bb, ob, Ab, cb, rfl, hbb, hcb, _, _, _⟩ := h' 0 rb hrb
      rw [Nat.add_zero] at hcb
      have eb : b.getD 0 [] = rb := getD_of hrb
      rw [ea] at a3 a4
      rw [eb] at b3 b4
      by_cases hab : ra.length = n'
      · have tab : ((ra.length : Int) != n') = false := bne_f (by omega)
        have tab2 : ((n' : Int) != ra.length) = false := bne_f (by omega)
        have hab2 : (a.getD 0 []).length = n' := by rw [ea]; exact hab
        have H := Lib.hid (mulA_yes ha hb (by rw [hab2, HL'.out]))
        have HEB := Lib.hid eb
        have HW : Hid (Wide b rb.length) := by rw [eb] at bw; exact bw
        rw [hab2] at aw
        have HAW := Lib.hid aw
        have HAN := Lib.hid an
        have HBN := Lib.hid bn
        have HPL := Lib.hid (show (prodM a b).length = n by rw [prodM_length, HL.out])
        have hbw : bb < w.heap.size := lt_of_cell hcb
        obtain ⟨j0, hj, hy0, hy1, hy2⟩ := info_parts info_row
        obtain ⟨i0, hi, hz0, hz1, hz2⟩ := info_parts columnOf_any_info
        clear hab hab2 ea eb hra hrb aw an bw bn
        go_enter Try.func10, Try.ntmps10
        go_wp2_with fail
        refine (isMatrix_any _ n _ B a _ HL.out (by omega) h).mono ?_
        rintro e w' ⟨rfl, rfl⟩
        go_wp2_with fail
        refine (isMatrix_any _ n' _ B b _ HL'.out (by omega) h').mono ?_
        rintro e w' ⟨rfl, rfl⟩
        go_wp2_with (at_make; refine wpList_make_full _ rfl (.tmp 26) (.tmp 26) 24 rfl w.heap.size 31 j0 _ 1 Try.underlying24 hj hy0 hy1 .i64 .i64 _ _ n rfl rfl rfl rfl (by rw [hy2]; omega) (by simp only [maxLen]; omega) (Nat.le_refl _) ?_; intro w1 hown hg)
        have F0 := FillM.start (m := prodM a b) hown hg
        clear hown hg hy0 hy1 hy2 hj ha hb
        go_loopw [30] (fun i wr => ∃ k : Nat, k ≤ n ∧ i = .int .i64 k ∧ FillM w n (prodM a b) k wr) (fun i _ => n - (intOf i).toNat)
        case atStart => exact ⟨0, Nat.zero_le _, rfl, F0⟩
        case round =>
          obtain ⟨i, hi', rfl, HF⟩ := hrel
          by_cases hlt : i < n
          · obtain ⟨r, hr⟩ := at_lt (show i < a.length by rw [HL.out]; exact hlt)
            have hrq := HAW.out.at_ hr
            obtain ⟨vs, hvs, hbel, hsz0⟩ := id HF
            obtain ⟨ba2, oa2, Ai, ci, e1, _, hci, _, _, hrowa⟩ := h.below hbel hB i r hr
            injection e1 with e1
            injection e1 with e2 e3
            subst e2 e3
            rw [hrq] at hci
            have hbi : ba < wr.heap.size := lt_of_cell hci
            have HR := Lib.hid hr
            have HRQ := Lib.hid hrq
            have HRN := Lib.hid (HAN.out r (List.mem_of_getElem? hr))
            have hcb2 : wr.cell? ⟨bb, ob, none⟩ = some (.slice Ab rb.length cb) := (hbel.cell (p := ⟨bb, ob, none⟩) hbw).trans hcb
            have hmb := h'.below hbel hB
            have hwz := hbel.size
            have HF' := Lib.hid HF
            have HPR := Lib.hid ((prodRow_length r b).trans (congrArg List.length HEB.out))
            clear hr hrq HF hvs hbel F0
            obtain ⟨wo, hwo⟩ : ∃ wo : World, wo = wr := ⟨_, rfl⟩
            subst hwo
            go_wp2_with (at_make; refine wpList_make_full _ rfl (.tmp 36) (.tmp 36) 51 rfl wo.heap.size 42 i0 _ 1 Try.underlying51 hi hz0 hz1 .i64 .i64 _ _ rb.length rfl rfl rfl rfl (by rw [hz2]; omega) (by simp only [maxLen]; omega) (Nat.le_refl _) ?_; intro w1 hown hg)
            have F1 := Filling.start (xs := prodRow r b) hown hg
            clear hown hg
            go_loopw [40] (fun k2 wr => ∃ k : Nat, k ≤ rb.length ∧ k2 = .int .i64 k ∧ Filling wo 42 rb.length (prodRow r b) k wr) (fun k2 _ => rb.length - (intOf k2).toNat)
            case atStart => exact ⟨0, Nat.zero_le _, rfl, F1⟩
            case round =>
              obtain ⟨k, hk, rfl, HG⟩ := hrel
              have HG' := Lib.hid HG
              have hgz := HG.2.size
              by_cases hkl : k < rb.length
              · have hrow1 := hrowa.below HG.2 (by omega)
                have hmb1 := hmb.below HG.2 (by omega)
                have hci1 : wr.cell? ⟨ba, oa + i, none⟩ = some (.slice Ai n' ci) := (HG.2.cell (p := ⟨ba, oa + i, none⟩) hbi).trans hci
                have HCN := Lib.hid (colAt_num HW.out hkl HBN.out)
                have HCL := Lib.hid ((colAt_length b k).trans HL'.out)
                have HD : Hid ((prodRow r b)[k]? = some (dotK r (colAt b k) n')) := by
                  have e := prodRow_at r b (k := k) (by rw [HEB.out]; exact hkl)
                  rw [HRQ.out] at e
                  exact e
                clear HG F1
                go_wp2_with fail
                refine (numbersOf_any Ai n' ci B r _ HRQ.out (by omega) (by show B ≤ wr.heap.size; omega) (by exact hrow1)).mono ?_
                rintro e w2 ⟨A2, c2, rfl, own2, bel2⟩
                have hmb2 := hmb1.below bel2 (by omega)
                have r2 := row_of_own own2
                go_wp2_with fail
                refine (columnOf_any _ n' _ B rb.length k b _ HL'.out (by omega) HW.out hkl (by omega) (by have := bel2.size; omega) (by exact hmb2)).mono ?_
                rintro e w3 ⟨A3, c3, rfl, own3, bel3⟩
                have r3 := row_of_own own3
                have r2' := r2.below bel3 (Nat.le_refl _)
                go_wp2_with fail
                refine (dotOf_any _ _ n' _ _ _ _ r (colAt b k) _ HRQ.out HCL.out (by omega) (by exact r2') (by exact r3) HRN.out HCN.out).mono ?_
                rintro e w4 ⟨rfl, m4, rfl⟩
                have bb4 : Below wr.heap.size wr (w3.drewN m4) := below_drewN (bel2.trans (bel3.mono bel2.size)) _
                have HG2 := Lib.hid (HG'.out.below bb4)
                have hf := HG2.out.1.frozenAt k
                have ho := fill_at' HG2.out HPR.out hkl
                have G := Lib.hid (HG2.out.step HPR.out HD.out)
                clear own2 own3 r2 r3 r2' bel2 bel3 bb4
                go_wp2
                go_roundw
                case rel => exact ⟨k + 1, by omega, by go_num, G.out⟩
                case measure => simp [intOf]; omega
              · obtain rfl : k = rb.length := by omega
                obtain ⟨A5, c5, hv5, own5, bel5⟩ := HG.done HPR.out
                injection hv5 with hv5
                injection hv5 with hA5 _ hc5
                subst hA5 hc5
                have r5 := row_of_own own5
                clear F1 HG
                go_wp2_with fail
                refine (integersOf_any _ rb.length _ _ (prodRow r b) _ HPR.out (by omega) (Nat.le_refl _) (by exact r5)).mono ?_
                rintro e w6 ⟨A6, c6, rfl, own6, bel6⟩
                have bel7 : Below wo.heap.size wo w6 := bel5.trans (bel6.mono bel5.size)
                have own7 : w6.ownsRow wo.heap.size 2 1 (.slice A6 (prodRow r b).length c6) (prodRow r b).length (ints (prodRow r b)) := by
                  rw [HPR.out]; exact ((OwnR.of own6).more bel5.size (Nat.le_refl _)).1
                obtain ⟨⟨u, hu⟩, hf⟩ := HF'.out.cell HPL.out hlt bel7
                have G0 := HF'.out.step HPL.out (prodM_at (b := b) HR.out) own7 bel7
                rw [HPR.out] at G0
                have G := Lib.hid G0
                clear own5 own6 own7 bel5 bel6 G0 r5
                go_wp2
                go_roundw
                case rel => exact ⟨i + 1, by omega, by go_num, G.out⟩
                case measure => simp [intOf]; omega
          · obtain rfl : i = n := by omega
            obtain ⟨A8, c8, vs8, hv8, own8, bel8⟩ := HF.done HPL.out
            injection hv8 with hv8
            injection hv8 with hA8 _ hc8
            subst hA8 hc8
            have G := Lib.hid own8
            have G2 := Lib.hid bel8
            clear HF F0 own8 bel8
            go_wp2
            go_ret2
            exact MatEnd.ok H.out G.out G2.out
      · have tab : ((ra.length : Int) != n') = true := bne_t (by omega)
        have tab2 : ((n' : Int) != ra.length) = true := bne_t (by omega)
        have H := Lib.hid (mulA_no5 ha hb (by rw [ea, HL'.out]; exact hab))
        clear hab ea eb hra hrb aw an bw bn
        go_enter Try.func10, Try.ntmps10
        go_wp2_with fail
        refine (isMatrix_any _ n _ B a _ HL.out (by omega) h).mono ?_
        rintro e w' ⟨rfl, rfl⟩
        go_wp2_with fail
        refine (isMatrix_any _ n' _ B b _ HL'.out (by omega) h').mono ?_
        rintro e w' ⟨rfl, rfl⟩
        go_wp2
        go_ret2
        exact MatEnd.err H.out (Below.refl _ _)
end Go.Proofs.Ytdgdanpkekcckaa
