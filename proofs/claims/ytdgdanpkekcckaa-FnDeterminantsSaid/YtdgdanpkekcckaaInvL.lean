/-
  The program's InverseMatrix.
-/
import Derived.Test.YtdgdanpkekcckaaInvP
import Derived.Test.YtdgdanpkekcckaaResM
namespace Go.Proofs.Ytdgdanpkekcckaa
open Go.RowKit Fld
set_option linter.unusedVariables false
set_option linter.unusedSimpArgs false
set_option maxRecDepth 100000

def invRow (m : List (List Int)) (i : Nat) : List Int := (List.range m.length).map fun l => cramE m i l
def invL (m : List (List Int)) : List (List Int) := (List.range m.length).map fun i => invRow m i
def invA (m : List (List Int)) : List (List Int) × Int := if isMatB m = true then (if m.length = (m.getD 0 []).length ∧ detL m ≠ 0 then (invL m, 0) else ([], 5)) else ([], 1)
theorem invA_no1 {m : List (List Int)} (h : isMatB m = false) : invA m = ([], 1) := if_neg (by rw [h]; simp)
theorem invA_no5 {m : List (List Int)} (h : isMatB m = true) (h5 : m.length ≠ (m.getD 0 []).length ∨ detL m = 0) : invA m = ([], 5) := (if_pos h).trans (if_neg fun ⟨a, b⟩ => by rcases h5 with h | h; exact h a; exact b h)
theorem invA_yes {m : List (List Int)} (h : isMatB m = true) (h5 : m.length = (m.getD 0 []).length) (hd : detL m ≠ 0) : invA m = (invL m, 0) := (if_pos h).trans (if_pos ⟨h5, hd⟩)
theorem invL_length (m : List (List Int)) : (invL m).length = m.length := by simp [invL]
theorem invRow_length (m : List (List Int)) (i : Nat) : (invRow m i).length = m.length := by simp [invRow]
theorem invL_at {m : List (List Int)} {i : Nat} (h : i < m.length) : (invL m)[i]? = some (invRow m i) := by unfold invL; rw [List.getElem?_map, List.getElem?_range h]; rfl
theorem total_wide {q : Nat} : ∀ {m : List (List Int)}, Wide m q → total m = m.length * q
  | [], _ => by simp [total]
  | r :: m, h => by
    have h1 := total_wide (m := m) (fun x hx => h x (List.mem_cons_of_mem _ hx))
    have h2 := h r List.mem_cons_self
    unfold total at h1 ⊢
    rw [List.map_cons, List.sum_cons, h1, h2, List.length_cons, Nat.succ_mul, Nat.add_comm]
theorem invL_wide (m : List (List Int)) : Wide (invL m) m.length := by
  intro r hr
  unfold invL at hr
  rw [List.mem_map] at hr
  obtain ⟨i, _, rfl⟩ := hr
  exact invRow_length m i
theorem invL_small {m : List (List Int)} {n : Nat} (hl : m.length = n) (h8 : n ≤ 8) : (invL m).length + total (invL m) ≤ 1048576 := by
  rw [total_wide (invL_wide m), invL_length, hl]
  have : n * n ≤ 8 * 8 := Nat.mul_le_mul h8 h8
  omega
theorem right_row {w : World} {lo hi n cap g i : Nat} {m M : List (List Int)} {vs : List Value} {r : List Int} (hl : m.length = n) (hw : Wide m n) (hd : detL m ≠ 0)
    (R : Reduced w lo hi n cap g (n + n) (augL m n n) M vs) (hr : M[i]? = some r) (hi' : i < n) : r.drop n = invRow m i := by
  have hrl := R.wide.at_ hr
  apply List.ext_getElem?
  intro l
  rw [List.getElem?_drop]
  by_cases hlt : l < n
  · obtain ⟨x, hx⟩ := at_lt (show n + l < r.length by omega)
    have e := inv_ent hl hw hd R hi' hlt
    rw [ent_at hr hx] at e
    unfold invRow
    rw [List.getElem?_map, List.getElem?_range (by omega), hx, e]
    rfl
  · rw [List.getElem?_eq_none (by omega), List.getElem?_eq_none (by rw [invRow_length]; omega)]
theorem row_drop {w : World} {B b n : Nat} {r : List Int} (h : Row w B (some ⟨b, 0, none⟩) (ints r)) : Row w B (some ⟨b, n, none⟩) (ints (r.drop n)) := by
  intro k v hv
  have e : (ints r)[n + k]? = some v := by
    have : ints (r.drop n) = (ints r).drop n := by unfold ints intsK; rw [List.map_drop]
    rw [this, List.getElem?_drop] at hv
    exact hv
  obtain ⟨b', o', e1, hb, hc⟩ := h (n + k) v e
  injection e1 with e1
  injection e1 with e2 e3 _
  subst e2 e3
  exact ⟨_, _, rfl, hb, by rw [Nat.zero_add] at hc; exact hc⟩
theorem det_aug {m : List (List Int)} {n : Nat} (hl : m.length = n) (hw : Wide m n) : Det.det n (ent (augL m n n)) % 10007 = detL m := by
  rw [Det.det_ext (B := ent m) (fun i hi j hj => augL_left hw (by omega) hj), detL_of hl]
/-- the right side so far -/
structure AugS (w wr : World) (hi n cap g : Nat) (m : List (List Int)) (vs : List Value) (k : Nat) : Prop where
  own : OwnSys wr w.heap.size hi (.slice (some ⟨g, 0, none⟩) n cap) n (augL m n k) vs
  below : Below w.heap.size w wr
  size : hi ≤ wr.heap.size
theorem AugS.step {w wr : World} {hi n cap g k b c : Nat} {m : List (List Int)} {vs : List Value} (h : AugS w wr hi n cap g m vs k) (hl : m.length = n) (hw : Wide m n) (hk : k < n) (hv : vs[k]? = some (.slice (some ⟨b, 0, none⟩) (n + n) c)) (hb : w.heap.size ≤ b) :
    AugS w (wr.setCell ⟨b, n + k, none⟩ (.int .i64 1)) hi n cap g m vs (k + 1) := by
  have hkm : k < m.length := by omega
  have hr := augL_at (n := n) (k := k) hkm
  rw [if_neg (by omega)] at hr
  have hv' : vs[k]? = some (.slice (some ⟨b, 0, none⟩) (augRow m n k).length c) := by rw [augRow_length hw hkm]; exact hv
  refine ⟨?_, below_set h.below hb _, by have := h.size; simpa [World.setCell] using this⟩
  rw [← augL_step hkm]
  exact h.own.put hr hv'
set_option maxHeartbeats 4000000 in
theorem pInverseMatrix_L (A : Option Addr) (n c B : Nat) (m : List (List Int)) (w : World) (hl : m.length = n) (hn : n + total m ≤ 1048576) (hB : B ≤ w.heap.size) (h : Mat w B A m) :
    Calls Try.prog 11 #[.slice A n c] w (ResM (invA m) w) := by
  cases hm : isMatB m
  · have H := Lib.hid (invA_no1 hm)
    have HL := Lib.hid hl
    have HM := Lib.hid hm
    clear hl hm
    go_enter Try.func11, Try.ntmps11
    go_wp2_with fail
    refine (isMatrix_any _ _ _ B m _ HL.out (by omega) h).mono ?_
    rintro e w' ⟨rfl, rfl⟩
    rw [HM.out]
    go_wp2
    go_ret2
    exact ResM.nil H.out (Below.refl _ _)
  · obtain ⟨m1, m8, q1, q8, mw, mn⟩ := isMatB_parts hm
    obtain ⟨r, hr⟩ := at_lt (show 0 < m.length by omega)
    have er : m.getD 0 [] = r := getD_of hr
    obtain ⟨ba, oa, Ak, ck, rfl, hba, hca, _, _, _⟩ := h 0 r hr
    rw [Nat.add_zero] at hca
    have n0 : (0 : Int) < (n : Int) := by omega
    have HL := Lib.hid hl
    have HM := Lib.hid hm
    by_cases hq : n = r.length
    · have H5 : Hid (detL m = 0 → invA m = ([], 5)) := fun hd => invA_no5 hm (.inr hd)
      have H0 : Hid (detL m ≠ 0 → invA m = (invL m, 0)) := fun hd => invA_yes hm (by rw [er, hl]; exact hq) hd
      have tq := bne_f (show (n : Int) = (r.length : Int) by omega)
      have HW : Hid (Wide m n) := by rw [Hid, hq, ← er]; exact mw
      have HN := Lib.hid mn
      have n8 : n ≤ 8 := by omega
      have n1 : 0 < n := by omega
      have hB' := Lib.hid hB
      clear hl hm hr er mw mn hq
      go_enter Try.func11, Try.ntmps11
      go_wp2_with fail
      refine (isMatrix_any _ _ _ B m _ HL.out (by omega) h).mono ?_
      rintro e w' ⟨rfl, rfl⟩
      rw [HM.out]
      go_wp2_with fail
      refine (systemOf_more _ n _ B n n m _ HL.out n8 HW.out n8 n1 n8 hB h).mono ?_
      rintro e w2 hN
      obtain ⟨A5, c5, vs, rfl, own, b5⟩ := hN
      rcases own.outer.1.2 with ⟨_, e2⟩ | ⟨g, cap, cur, hv, hg1, _⟩
      · omega
      · injection hv with e1 e2 e3
        subst e1 e3
        have hg2 : g < w2.heap.size := own.outer.2 g rfl
        obtain ⟨hi, hhi⟩ : ∃ hi, hi = w2.heap.size := ⟨_, rfl⟩
        rw [← hhi] at own hg2
        have S0 : Hid (AugS w w2 hi n c5 g m vs 0) := ⟨by rw [augL_zero]; exact own, b5, by omega⟩
        clear own b5 hhi
        go_wp2_with fail
        go_loopw [26] (fun i wr => ∃ k : Nat, k ≤ n ∧ i = .int .i64 k ∧ Hid (AugS w wr hi n c5 g m vs k)) (fun i _ => n - (intOf i).toNat)
        case atStart => exact ⟨0, Nat.zero_le _, rfl, S0⟩
        case round =>
          obtain ⟨k, hk, rfl, HS⟩ := hrel
          clear S0
          by_cases hlt : k < n
          · have hkm : k < m.length := by rw [HL.out]; exact hlt
            have hrow := augL_at (n := n) (k := k) hkm
            rw [if_neg (by omega)] at hrow
            have hlen := augRow_length HW.out hkm
            obtain ⟨b, cc, hva, hb0, hb1, hoa⟩ := HS.out.own.row_at hrow (by omega)
            have hout := HS.out.own.outer.1.cellAt k (by omega)
            rw [hlen] at hva
            rw [hva] at hout
            have hcl := hoa.cellAt (n + k) (by omega)
            have hfr := hoa.frozenAt (n + k)
            have hcl2 : ∃ u, (ints (augRow m n k))[n + k]? = some u := at_lt (by rw [ints_length, hlen]; omega)
            obtain ⟨u, hu⟩ := hcl2
            rw [hu] at hcl
            have G := Lib.hid (HS.out.step HL.out HW.out hlt hva hb0)
            have k0 : (0 : Int) ≤ (k : Int) := Int.natCast_nonneg _
            have k1 : (k : Int) < (n : Int) := by omega
            have ek : IntKind.i64.wrap ((n : Int) + (k : Int)) = ((n + k : Nat) : Int) := by rw [show (n : Int) + (k : Int) = ((n + k : Nat) : Int) by omega]; exact IntWalk.i64_in _ (by omega)
            have ek0 : (0 : Int) ≤ ((n + k : Nat) : Int) := Int.natCast_nonneg _
            have ek1 : ((n + k : Nat) : Int) < ((n + n : Nat) : Int) := by omega
            clear hrow hlen hva hoa hu
            go_wp2
            go_roundw
            case rel => exact ⟨k + 1, by omega, by go_num, G⟩
            case measure => simp [intOf]; omega
          · obtain rfl : k = n := by omega
            have hsz := HS.out.size
            have hwz := HS.out.below.size
            go_wp2_with fail
            refine (reduce_sys g k c5 w.heap.size hi (k + k) (augL m k k) vs _ (augL_wide HW.out) (augL_num HN.out) n8 (by omega) (by omega) hsz ⟨hg1, hg2⟩ HS.out.own).mono ?_
            rintro e w3 ⟨rfl, hw3, hred⟩
            rw [det_aug HL.out HW.out] at hred ⊢
            have hz3 := hw3.size
            have B6 := Lib.hid (HS.out.below.trans (hw3.below (Nat.le_refl _) hwz))
            have HRED := Lib.hid hred
            clear hw3 hred HS
            by_cases hd : detL m = 0
            · rw [hd]
              go_wp2
              go_ret2
              exact ResM.nil (H5.out hd) B6.out
            · have td := beq_f hd
              obtain ⟨M, us, R⟩ := HRED.out hd
              have RH := Lib.hid R
              have HM0 := Lib.hid (H0.out hd)
              have HIL : Hid ((invL m).length = k) := (invL_length m).trans HL.out
              have HSM := Lib.hid (invL_small HL.out n8)
              have HDR : Hid (∀ l rl, M[l]? = some rl → l < k → rl.drop k = invRow m l) := fun l rl h1 h2 => right_row HL.out HW.out hd RH.out h1 h2
              have hmk : Hid (M.length = k) := RH.out.own.size
              have hi3 : hi ≤ w3.heap.size := by omega
              obtain ⟨j0, hj, hy0, hy1, hy2⟩ := info_parts info_row
              clear R HRED H0 H5 hd
              go_wp2_with (at_make; refine wpList_make_full _ rfl (.tmp 42) (.tmp 42) 24 rfl w3.heap.size 31 j0 _ 1 Try.underlying24 hj hy0 hy1 .i64 .i64 _ _ k rfl rfl rfl rfl (by rw [hy2]; omega) (by simp only [maxLen]; omega) (Nat.le_refl _) ?_; intro w4 hown hg)
              have F0 := Lib.hid (FillM.start (m := invL m) hown hg)
              clear hown hg hj hy0 hy1 hy2
              go_loopw [46] (fun i wr => ∃ l : Nat, l ≤ k ∧ i = .int .i64 l ∧ Hid (FillM w3 k (invL m) l wr)) (fun i _ => k - (intOf i).toNat)
              case atStart => exact ⟨0, Nat.zero_le _, rfl, F0⟩
              case round =>
                obtain ⟨l, hl, rfl, HF⟩ := hrel
                clear F0
                by_cases hlt2 : l < k
                · obtain ⟨vs', _, bel, sz⟩ := id HF.out
                  obtain ⟨rl, hrl⟩ := at_lt (show l < M.length by rw [hmk.out]; exact hlt2)
                  have hlen := RH.out.wide.at_ hrl
                  have own4 := RH.out.own.below bel hi3
                  obtain ⟨b, cc, hva, hb0, hb1, hoa⟩ := own4.row_at hrl (by omega)
                  have hout := own4.outer.1.cellAt l (by omega)
                  rw [hva, hlen] at hout
                  have hcap := own_cap hoa
                  rw [hlen] at hcap
                  have hrow := row_drop (n := k) (OwnR.of hoa).row
                  have HE := Lib.hid (HDR.out l rl hrl hlt2)
                  have HRL : Hid ((rl.drop k).length = k) := by rw [Hid, List.length_drop, hlen]; omega
                  have l0 : (0 : Int) ≤ (l : Int) := Int.natCast_nonneg _
                  have l1 : (l : Int) < (k : Int) := by omega
                  have lm : l < m.length := by rw [HL.out]; exact hlt2
                  have k0 : (0 : Int) ≤ (k : Int) := Int.natCast_nonneg _
                  have kk : (k : Int) ≤ ((k + k : Nat) : Int) := by omega
                  have ck1 : ¬ cc = k := by omega
                  have ck2 : k ≤ cc := by omega
                  clear hrl hlen hva hoa own4 bel
                  go_wp2_with fail
                  refine (integersOf_any (some ⟨b, k, none⟩) k (cc - k) _ (rl.drop k) _ HRL.out (by omega) (Nat.le_refl _) hrow).mono ?_
                  rintro e w6 ⟨A2, c2, rfl, own2, be2⟩
                  obtain ⟨⟨u, hu⟩, hf⟩ := HF.out.cell HIL.out hlt2 be2
                  have G : Hid (FillM w3 k (invL m) (l + 1) (w6.setCell ⟨w3.heap.size, l, none⟩ (.slice A2 k c2))) := by
                    rw [HE.out] at own2
                    have hq : (invRow m l).length = k := (invRow_length m l).trans HL.out
                    have := HF.out.step HIL.out (invL_at lm) (c := c2) (A := A2) (by rw [hq]; exact own2) be2
                    rw [hq] at this
                    exact this
                  clear own2 HF hrow
                  go_wp2
                  go_roundw
                  case rel => exact ⟨l + 1, by omega, by go_num, G⟩
                  case measure => simp [intOf]; omega
                · obtain rfl : l = k := by omega
                  have G := Lib.hid (HF.out.done HIL.out)
                  clear HF
                  go_wp2
                  go_ret2
                  obtain ⟨A9, c9, vs9, e9, o9, b9⟩ := G.out
                  cases e9
                  exact ResM.of HM0.out HSM.out (o9.more B6.out.size (Nat.le_refl _)) (B6.out.trans (b9.mono B6.out.size))
    · have H := Lib.hid (invA_no5 hm (.inl (by rw [er, hl]; exact hq)))
      have tq := bne_t (show (n : Int) ≠ (r.length : Int) by omega)
      clear hl hm hr er mw mn hq
      go_enter Try.func11, Try.ntmps11
      go_wp2_with fail
      refine (isMatrix_any _ _ _ B m _ HL.out (by omega) h).mono ?_
      rintro e w' ⟨rfl, rfl⟩
      rw [HM.out]
      go_wp2
      go_ret2
      exact ResM.nil H.out (Below.refl _ _)
end Go.Proofs.Ytdgdanpkekcckaa
