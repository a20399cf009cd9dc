/-
  Texts of this seat, joined: what several laws lean on.
-/
import Derived.Test.YtpngohklicgbjaaGreatUT2
import Derived.Test.YtpngohklicgbjaaGreatSlices
import Derived.Test.YtpngohklicgbjaaGreatDraws
/-
  The order of a tableau, the program's and the model's.
-/
namespace Go.Proofs.YtpngohklicgbjaaGreat
open Go.RowKit Fld
set_option linter.unusedVariables false
set_option linter.unusedSimpArgs false
set_option maxRecDepth 100000

theorem fnz_neg : ∀ (L : List Int) (i : Int), 0 ≤ i → (fnz L i < 0 ↔ ∀ x ∈ L, x = 0)
  | [], i, h => by simp [fnz]
  | x :: L, i, h => by
    unfold fnz
    split
    · rename_i h0
      rw [fnz_neg L (i + 1) (by omega)]
      simp [h0]
    · rename_i h0
      constructor
      · intro h1; omega
      · intro h1; exact absurd (h1 x (by simp)) h0
theorem agr_map (f g : List Int → Int) (q : Nat) (hq : q ≤ 6) : ∀ T : List (List Int), (T.map List.length).Pairwise (· ≤ ·) → ((q : Int) ≤ agrL (T.map f) (T.map g) (T.map List.length) ↔ ∀ t ∈ T, t.length ≤ q → f t = g t)
  | [], _ => by simp [agrL]; omega
  | t :: T, hp => by
    rw [List.map_cons, List.pairwise_cons] at hp
    have ih := agr_map f g q hq T hp.2
    rw [List.map_cons, List.map_cons, List.map_cons, agrL]
    split
    · rename_i h0
      rw [ih]
      constructor
      · intro h t' ht'
        rw [List.mem_cons] at ht'
        rcases ht' with rfl | ht'
        · exact fun _ => h0
        · exact h t' ht'
      · intro h t' ht'; exact h t' (by simp [ht'])
    · rename_i h0
      constructor
      · intro h t' ht' hl
        rw [List.mem_cons] at ht'
        rcases ht' with rfl | ht'
        · omega
        · have := hp.1 t'.length (List.mem_map.2 ⟨t', ht', rfl⟩); omega
      · intro h
        have := fun hl => h0 (h t (by simp) hl)
        have h1 : ¬ t.length ≤ q := this
        omega
theorem agr_hi6 (f g : List Int → Int) : ∀ T : List (List Int), (∀ t ∈ T, t.length ≤ 7) → agrL (T.map f) (T.map g) (T.map List.length) ≤ 6
  | [], _ => by simp [agrL]
  | t :: T, h => by
    rw [List.map_cons, List.map_cons, List.map_cons, agrL]
    split
    · exact agr_hi6 f g T (fun t' ht' => h t' (by simp [ht']))
    · have := h t (by simp); omega
theorem lens_sorted : ((treesTo 6).map List.length).Pairwise (· ≤ ·) := by
  have h : lens.Pairwise (· ≤ ·) := by decide
  rw [lens_to, List.pairwise_cons] at h
  exact h.2
theorem ord_eq (m : List (List Int)) (b : List Int) (n : Nat) : agrA (charL m b n) exactL = agrL ((treesTo 6).map fun t => wtT m b n (Tr.txt t)) ((treesTo 6).map exactV) ((treesTo 6).map List.length) := by
  unfold agrA charL exactL
  rw [lens_to, agrL, if_pos rfl]
theorem len_to {k : Nat} (hk : k ≤ 8) {t : List Int} (h : t ∈ treesTo k) : 1 ≤ t.length ∧ t.length ≤ k := by
  unfold treesTo at h
  rw [List.mem_flatMap] at h
  obtain ⟨n, hn, ht⟩ := h
  rw [List.mem_range] at hn
  have := ((trees_all (n := n + 1) (by omega) (by omega)).1 t ht).2
  omega
theorem mem_to {q : Nat} (hq : q ≤ 6) {t : List Int} : t ∈ treesTo q ↔ t ∈ treesTo 6 ∧ t.length ≤ q := by
  constructor
  · intro h
    refine ⟨?_, (len_to (by omega) h).2⟩
    obtain ⟨X, hX⟩ := treesTo_pre (6 - q) q
    rw [show q + (6 - q) = 6 by omega] at hX
    rw [hX]; simp [h]
  · rintro ⟨h, hl⟩
    unfold treesTo at h ⊢
    rw [List.mem_flatMap] at h ⊢
    obtain ⟨n, hn, ht⟩ := h
    rw [List.mem_range] at hn
    have := ((trees_all (n := n + 1) (by omega) (by omega)).1 t ht).2
    exact ⟨n, List.mem_range.2 (by omega), ht⟩
theorem res_zero (m : List (List Int)) (b : List Int) (n : Nat) (t : List Int) : resT m b n t = 0 ↔ wtT m b n (Tr.txt t) = exactV t := by
  unfold resT exactV
  have h := wtT_bd m b n (Tr.txt t)
  have y0 := inv_lo (Tr.denM t % 10007)
  have y1 := inv_hi (Tr.denM t % 10007)
  omega
theorem fault_iff (m : List (List Int)) (b : List Int) (n q : Nat) (h6 : q ≤ 6) : faultP m b n q < 0 ↔ (q : Int) ≤ agrA (charL m b n) exactL := by
  unfold faultP resAll
  rw [fnz_neg _ 0 (by omega), ord_eq, agr_map _ _ q h6 _ lens_sorted]
  constructor
  · intro h t ht hl
    exact (res_zero m b n t).1 (h _ (List.mem_map.2 ⟨t, (mem_to h6).2 ⟨ht, hl⟩, rfl⟩))
  · intro h x hx
    obtain ⟨t, ht, rfl⟩ := List.mem_map.1 hx
    obtain ⟨h1, h2⟩ := (mem_to h6).1 ht
    exact (res_zero m b n t).2 (h t h1 h2)
theorem ord_lo (m : List (List Int)) (b : List Int) (n : Nat) : ((0 : Nat) : Int) ≤ agrA (charL m b n) exactL := by
  rw [ord_eq, agr_map _ _ 0 (by omega) _ lens_sorted]
  intro t ht hl
  have := len_to (by omega) ht
  omega
theorem ord_hi (m : List (List Int)) (b : List Int) (n : Nat) : agrA (charL m b n) exactL ≤ 6 := by
  rw [ord_eq]
  exact agr_hi6 _ _ _ (fun t ht => by have := len_to (by omega) ht; omega)
/-- what OrderOf answers -/
def orderTA (m : List (List Int)) (b : List Int) : Int × Int := if isTabB m b = true then (agrA (charL m b b.length) exactL, 0) else (0, 1)
set_option maxHeartbeats 2000000 in
theorem pOrderOf_L (A D : Option Addr) (n c n' d B B' : Nat) (m : List (List Int)) (b : List Int) (w : World) (hl : m.length = n) (hl' : b.length = n') (hn : n ≤ 9223372036854775807) (hn' : n' ≤ 9223372036854775807) (hB : B ≤ w.heap.size) (hB' : B' ≤ w.heap.size) (h : Mat w B A m) (r : Row w B' D (ints b)) :
    Calls Tryz.prog 15 #[.agg #[.slice A n c, .slice D n' d]] w (ResI (orderTA m b) w) := by
  have HL := Lib.hid hl
  have HL' := Lib.hid hl'
  obtain ⟨W0, hW0⟩ : ∃ W0, W0 = w.alloc (.cells #[.slice A n c, .slice D n' d] 27) := ⟨_, rfl⟩
  have HB : Hid (Below w.heap.size w W0) := by rw [hW0]; exact (Below.refl _ _).alloc (Nat.le_refl _) _
  have HM : Hid (Mat W0 B A m) := h.below HB.out hB
  have HR : Hid (Row W0 B' D (ints b)) := r.below HB.out hB'
  have HX : Hid (Bx W0 w.heap.size 27 (.slice A n c) (.slice D n' d)) := by rw [hW0]; exact Bx.new _ _ _ _
  have hz := HB.out.size
  clear hl hl' h r
  cases ht : isTabB m b
  · have G : Hid (orderTA m b = (0, 1)) := by unfold orderTA; rw [Hid, ht]; rfl
    go_enter Tryz.func15, Tryz.ntmps15
    go_wp2_with fail
    rw [← hW0]
    refine (isTableau_any A D n c n' d B B' m b W0 HL.out HL'.out hn hn' (by omega) (by omega) HM.out HR.out).mono ?_
    rintro e w2 ⟨rfl, b2⟩
    rw [ht]
    have HB2 := Lib.hid (HB.out.trans (b2.mono HB.out.size))
    clear b2 hW0 ht
    go_wp2
    go_ret2
    exact ResI.of' G.out HB2.out
  · obtain ⟨t1, t2, t3, t4, t5, t6⟩ := isTabB_parts ht
    rw [HL'.out] at t1 t2 t3 t5
    have hnn : n' = n := by rw [← t3]; exact HL.out
    subst hnn
    have G : Hid (orderTA m b = (agrA (charL m b n') exactL, 0)) := by unfold orderTA; rw [Hid, ht, HL'.out]; rfl
    have HW := Lib.hid t5
    have HNB := Lib.hid t4
    have HN := Lib.hid t6
    clear t3 t4 t5 t6
    go_enter Tryz.func15, Tryz.ntmps15
    go_wp2_with fail
    rw [← hW0]
    refine (isTableau_any A D n' c n' d B B' m b W0 HL.out HL'.out hn hn' (by omega) (by omega) HM.out HR.out).mono ?_
    rintro e w2 ⟨rfl, b2⟩
    rw [ht]
    have HB2 := Lib.hid (HB.out.trans (b2.mono HB.out.size))
    have HM2 := Lib.hid (HM.out.below b2 (by omega))
    have HR2 := Lib.hid (HR.out.below b2 (by omega))
    have HX2 := HX.out.next b2
    have q0 := HX2.c0
    have q1 := HX2.c1
    have hz2 := b2.size
    clear b2 hW0 ht HX2
    go_wp2_with fail
    refine (schemeOf_any A D n' c n' d B B' n' m b w2 HL.out HL'.out t2 HW.out (by omega) (by omega) (by omega) (by omega) HM2.out HR2.out).mono ?_
    rintro e w3 ⟨A3, c3, D3, d3, rfl, hc3, hd3, m3, r3, b3⟩
    have HB3 := Lib.hid (HB2.out.trans (b3.mono HB2.out.size))
    have HM3 := Lib.hid m3
    have HR3 := Lib.hid r3
    clear b3 q0 q1 m3 r3
    go_wp2_with fail
    refine (character_any A3 D3 n' c3 d3 w3.heap.size w3.heap.size m b w3 HL.out HL'.out t1 t2 HW.out HN.out HNB.out (Nat.le_refl _) (Nat.le_refl _) HM3.out HR3.out).mono ?_
    rintro e w4 ⟨rfl, b4⟩
    have HB4 := Lib.hid (HB3.out.trans (b4.mono HB3.out.size))
    have HLA := Lib.hid (charL_length m b n')
    obtain ⟨CL, hCL⟩ : ∃ C, C = charL m b n' := ⟨_, rfl⟩
    rw [← hCL] at HLA G ⊢
    clear b4 hCL
    go_wp2_with fail
    refine (exactMap_any w4).mono ?_
    rintro e w5 ⟨rfl, b5⟩
    have HB5 := Lib.hid (HB4.out.trans (b5.mono HB4.out.size))
    have HEL := Lib.hid exactL_length
    obtain ⟨EL, hEL⟩ : ∃ C, C = exactL := ⟨_, rfl⟩
    rw [← hEL] at HEL G ⊢
    clear b5 hEL
    go_wp2_with fail
    refine (agreesTo_any CL EL w5 HLA.out HEL.out).mono ?_
    rintro e w6 ⟨rfl, b6⟩
    have HB6 := Lib.hid (HB5.out.trans (b6.mono HB5.out.size))
    clear b6
    go_wp2
    go_ret2
    exact ResI.of' G.out HB6.out
set_option maxHeartbeats 2000000 in
theorem sOrderOf_L (A D : Option Addr) (n c n' d B B' : Nat) (m : List (List Int)) (b : List Int) (w : World) (hl : m.length = n) (hl' : b.length = n') (hn : n ≤ 9223372036854775807) (hn' : n' ≤ 9223372036854775807) (hB : B ≤ w.heap.size) (hB' : B' ≤ w.heap.size) (h : Mat w B A m) (r : Row w B' D (ints b)) :
    Calls Tryz.prog 16 #[.agg #[.slice A n c, .slice D n' d]] w (ResI (orderTA m b) w) := by
  have HL := Lib.hid hl
  have HL' := Lib.hid hl'
  obtain ⟨W0, hW0⟩ : ∃ W0, W0 = w.alloc (.cells #[.slice A n c, .slice D n' d] 27) := ⟨_, rfl⟩
  have HB : Hid (Below w.heap.size w W0) := by rw [hW0]; exact (Below.refl _ _).alloc (Nat.le_refl _) _
  have HM : Hid (Mat W0 B A m) := h.below HB.out hB
  have HR : Hid (Row W0 B' D (ints b)) := r.below HB.out hB'
  have HX : Hid (Bx W0 w.heap.size 27 (.slice A n c) (.slice D n' d)) := by rw [hW0]; exact Bx.new _ _ _ _
  have hz := HB.out.size
  clear hl hl' h r
  cases ht : isTabB m b
  · have G : Hid (orderTA m b = (0, 1)) := by unfold orderTA; rw [Hid, ht]; rfl
    go_enter Tryz.func16, Tryz.ntmps16
    go_wp2_with fail
    rw [← hW0]
    refine (l09Is_any A D n c n' d B B' m b W0 HL.out HL'.out hn hn' (by omega) (by omega) HM.out HR.out).mono ?_
    rintro e w2 ⟨rfl, b2⟩
    rw [ht]
    have HB2 := Lib.hid (HB.out.trans (b2.mono HB.out.size))
    clear b2 hW0 ht
    go_wp2
    go_ret2
    exact ResI.of' G.out HB2.out
  · obtain ⟨t1, t2, t3, t4, t5, t6⟩ := isTabB_parts ht
    rw [HL'.out] at t1 t2 t3 t5
    have hnn : n' = n := by rw [← t3]; exact HL.out
    subst hnn
    have G : Hid (orderTA m b = (agrA (charL m b n') exactL, 0)) := by unfold orderTA; rw [Hid, ht, HL'.out]; rfl
    have HW := Lib.hid t5
    have HNB := Lib.hid t4
    have HN := Lib.hid t6
    clear t3 t4 t5 t6
    go_enter Tryz.func16, Tryz.ntmps16
    go_wp2_with fail
    rw [← hW0]
    refine (l09Is_any A D n' c n' d B B' m b W0 HL.out HL'.out hn hn' (by omega) (by omega) HM.out HR.out).mono ?_
    rintro e w2 ⟨rfl, b2⟩
    rw [ht]
    have HB2 := Lib.hid (HB.out.trans (b2.mono HB.out.size))
    have HM2 := Lib.hid (HM.out.below b2 (by omega))
    have HR2 := Lib.hid (HR.out.below b2 (by omega))
    have HX2 := HX.out.next b2
    have q0 := HX2.c0
    have q1 := HX2.c1
    have hz2 := b2.size
    have HST : Hid (∀ q : Nat, 1 ≤ q → q ≤ 6 → (faultP m b n' q < 0 ↔ (q : Int) ≤ agrA (charL m b n') exactL)) := fun q h1 h6 => fault_iff m b n' q h6
    have hlo := ord_lo m b n'
    have hhi := ord_hi m b n'
    obtain ⟨OA, hOA⟩ : ∃ C, C = agrA (charL m b n') exactL := ⟨_, rfl⟩
    rw [← hOA] at G HST hlo hhi
    clear b2 hW0 ht q0 q1 hOA
    have HX2' := Lib.hid HX2
    clear HX2
    go_wp2_with fail
    go_loopw [4] (fun i wr => ∃ p : Nat, p ≤ 6 ∧ i = .int .i64 p ∧ (p : Int) ≤ OA ∧ Hid (Below w2.heap.size w2 wr)) (fun i _ => 6 - (intOf i).toNat)
    case atStart => exact ⟨0, Nat.zero_le _, rfl, hlo, Below.refl _ _⟩
    case round =>
      obtain ⟨p, hp, rfl, hpo, HBB⟩ := hrel
      by_cases hlt : p < 6
      · have hsz := HBB.out.size
        have hbx := HX2'.out.next HBB.out
        have q0 := hbx.c0
        have q1 := hbx.c1
        have C1 := l09Fault_any A D n' c d B B' (p + 1) m b wr HL.out HL'.out t1 t2 HW.out HN.out HNB.out (by omega) (by omega) (by omega) (by omega) (HM2.out.below HBB.out (by omega)) (HR2.out.below HBB.out (by omega))
        have hiff := HST.out (p + 1) (by omega) (by omega)
        obtain ⟨FP, hFP⟩ : ∃ F, F = faultP m b n' (p + 1) := ⟨_, rfl⟩
        rw [← hFP] at C1 hiff
        rw [Int.natCast_add, Int.natCast_one] at C1 hiff
        have tp : (p : Int) < 6 := by omega
        clear hFP hbx
        go_wp2_with fail
        refine C1.mono ?_
        rintro e w3 ⟨rfl, b3⟩
        have HB3 := Lib.hid (HBB.out.trans (b3.mono hsz))
        clear C1 b3 q0 q1 HBB
        by_cases hneg : FP < 0
        · have hp1 := hiff.1 hneg
          clear hiff
          go_wp2
          go_roundw
          case rel => exact ⟨p + 1, by omega, by go_num, by push_cast; omega, HB3⟩
          case measure => simp [intOf]; omega
        · have hp1 : ¬ ((p : Int) + 1 ≤ OA) := fun h => hneg (hiff.2 h)
          have HEQ : Hid (OA = (p : Int)) := by rw [Hid]; omega
          have hnn : ¬ FP < 0 := hneg
          have GR : Hid (orderTA m b = ((p : Int), 0)) := by rw [Hid, G.out, HEQ.out]
          have HBF := Lib.hid (HB2.out.trans (HB3.out.mono HB2.out.size))
          clear hiff HB3
          go_wp2
          go_ret2
          exact ResI.of' GR.out HBF.out
      · obtain rfl : p = 6 := by omega
        have HEQ : Hid (OA = 6) := by rw [Hid]; omega
        have GR : Hid (orderTA m b = (6, 0)) := by rw [Hid, G.out, HEQ.out]
        have HBF := Lib.hid (HB2.out.trans (HBB.out.mono HB2.out.size))
        clear HBB
        go_wp2
        go_ret2
        exact ResI.of' GR.out HBF.out
end Go.Proofs.YtpngohklicgbjaaGreat
/-
  Orders, faults and residuals, plain: what the law of orders asks.
-/
namespace Go.Proofs.YtpngohklicgbjaaGreat
open Go.RowKit Fld
set_option linter.unusedVariables false
set_option linter.unusedSimpArgs false
set_option maxRecDepth 100000

theorem fnz_first : ∀ (L : List Int) (i : Int), 0 ≤ i → 0 ≤ fnz L i → ∃ (j : Nat) (x : Int), fnz L i = i + j ∧ L[j]? = some x ∧ x ≠ 0
  | [], i, h, h2 => by simp [fnz] at h2
  | x :: L, i, h, h2 => by
    unfold fnz at h2 ⊢
    by_cases hx : x = 0
    · rw [if_pos hx] at h2 ⊢
      obtain ⟨j, y, e, hy, hy0⟩ := fnz_first L (i + 1) (by omega) h2
      exact ⟨j + 1, y, by rw [e]; push_cast; omega, by rw [List.getElem?_cons_succ]; exact hy, hy0⟩
    · rw [if_neg hx]
      exact ⟨0, x, by simp, rfl, hx⟩
theorem treesL_to {k : Nat} {t : List Int} (h1 : 1 ≤ k) (h : t ∈ Tr.treesL k) : t ∈ treesTo k := by
  obtain ⟨j, rfl⟩ : ∃ j, k = j + 1 := ⟨k - 1, by omega⟩
  rw [treesTo_step]; exact List.mem_append_right _ h
theorem ord_facts {m : List (List Int)} {b : List Int} {n P k : Nat} (hP : agrA (charL m b n) exactL = (P : Int)) (h1 : 1 ≤ k) (h6 : k ≤ 6) :
    (k ≤ P → faultP m b n k < 0 ∧ ∀ t ∈ Tr.treesL k, resT m b n t = 0) ∧ (P < k → ∃ F : Nat, faultP m b n k = (F : Int) ∧ F ≤ 199 ∧ (k = P + 1 → (∃ t ∈ Tr.treesL k, resT m b n t ≠ 0) ∧ ∃ tt, Tr.allL[F]? = some tt ∧ tt.length = k)) := by
  have hf := fault_iff m b n k h6
  rw [hP] at hf
  have hz : ∀ q, q ≤ 6 → (faultP m b n q < 0 ↔ ∀ t ∈ treesTo q, resT m b n t = 0) := fun q hq => by
    have h := fnz_neg (resAll m b n q) 0 (by omega)
    unfold faultP
    rw [h]
    unfold resAll
    constructor
    · intro hx t ht; exact hx _ (List.mem_map_of_mem ht)
    · intro hx x hxm; obtain ⟨t, ht, rfl⟩ := List.mem_map.1 hxm; exact hx t ht
  refine ⟨fun hk => ?_, fun hk => ?_⟩
  · have h0 := hf.2 (by omega)
    exact ⟨h0, fun t ht => (hz k h6).1 h0 t (treesL_to h1 ht)⟩
  · have h0 : 0 ≤ faultP m b n k := by
      rcases Int.lt_or_le (faultP m b n k) 0 with h | h
      · have := hf.1 h; omega
      · exact h
    obtain ⟨j, x, e, hj, hx⟩ := fnz_first (resAll m b n k) 0 (by omega) h0
    unfold resAll at hj
    rw [List.getElem?_map, Option.map_eq_some_iff] at hj
    obtain ⟨tt, htt, hxt⟩ := hj
    have hall : Tr.allL[j]? = some tt := by
      obtain ⟨X, hX⟩ := treesTo_pre (8 - k) k
      rw [show k + (8 - k) = 8 by omega, treesTo_end] at hX
      rw [hX, List.getElem?_append_left (List.getElem?_eq_some_iff.1 htt).1]; exact htt
    have hjl : j < 200 := by rw [← Tr.allL_len]; exact (List.getElem?_eq_some_iff.1 hall).1
    refine ⟨j, by unfold faultP; rw [e]; simp, by omega, fun hkP => ?_⟩
    have hlow : ∀ t ∈ treesTo P, resT m b n t = 0 := by
      have hfP := fault_iff m b n P (by omega)
      rw [hP] at hfP
      exact (hz P (by omega)).1 (hfP.2 (Int.le_refl _))
    have hm : tt ∈ Tr.treesL k := by
      have := List.mem_of_getElem? htt
      rw [hkP, treesTo_step] at this
      rcases List.mem_append.1 this with h | h
      · exfalso; exact hx (by rw [← hxt]; exact hlow tt h)
      · rw [hkP]; exact h
    exact ⟨⟨tt, hm, by rw [hxt]; exact hx⟩, tt, hall, ((trees_all h1 (by omega)).1 tt hm).2⟩
theorem den_all : (treesTo 6).all (fun t => decide (0 < Tr.denM t ∧ Tr.denM t < 10007)) = true := by decide +kernel
theorem res_den {m : List (List Int)} {b : List Int} {n : Nat} {t : List Int} (ht : t ∈ treesTo 6) : (0 < Tr.denM t ∧ Tr.denM t < 10007) ∧ (wtT m b n (Tr.txt t) - resT m b n t) * Tr.denM t % 10007 = 1 := by
  have h := of_decide_eq_true (List.all_eq_true.1 den_all t ht)
  refine ⟨h, ?_⟩
  have hd : Tr.denM t % 10007 = Tr.denM t := Int.emod_eq_of_lt (by omega) h.2
  unfold resT
  rw [hd]
  have e1 : Eqm (wtT m b n (Tr.txt t) - (wtT m b n (Tr.txt t) - inv (Tr.denM t)) % 10007) (inv (Tr.denM t)) := by unfold Eqm; omega
  have e2 := (e1.mul (Eqm.refl (Tr.denM t))).trans (inv_mul _ h.1 h.2)
  exact e2
theorem treesL_six {k : Nat} {t : List Int} (h1 : 1 ≤ k) (h6 : k ≤ 6) (h : t ∈ Tr.treesL k) : t ∈ treesTo 6 := by
  obtain ⟨X, hX⟩ := treesTo_pre (6 - k) k
  rw [show k + (6 - k) = 6 by omega] at hX
  rw [hX]; exact List.mem_append_left _ (treesL_to h1 h)
end Go.Proofs.YtpngohklicgbjaaGreat
/-
  The laws' comparison of lists; lists in memory.
-/
namespace Go.Proofs.YtpngohklicgbjaaGreat
open Go.RowKit Fld
set_option linter.unusedVariables false
set_option linter.unusedSimpArgs false
set_option maxRecDepth 100000

set_option maxHeartbeats 400000 in
theorem likeInts_any (A A' : Option Addr) (n n' c c' B B' : Nat) (xs ys : List Int) (w : World) (hl : xs.length = n) (hl' : ys.length = n') (hn : n ≤ 9223372036854775807) (hn' : n' ≤ 9223372036854775807) (h : Row w B A (ints xs)) (h' : Row w B' A' (ints ys)) :
    Calls Tryz.prog 9 #[.slice A n c, .slice A' n' c'] w fun e w' => e = .returned (.bool (eqL xs ys)) ∧ ∃ m, w' = w.drewN m := by
  have HL := Lib.hid hl
  have HL' := Lib.hid hl'
  clear hl hl'
  by_cases hnn : n = n'
  · subst hnn
    go_enter Tryz.func9, Tryz.ntmps9
    go_wp2_with fail
    go_loopw [5] (fun i wr => ∃ k m : Nat, k ≤ n ∧ i = .int .i64 k ∧ wr = w.drewN m ∧ Hid (xs.take k = ys.take k)) (fun i _ => n - (intOf i).toNat)
    case atStart => exact ⟨0, 0, Nat.zero_le _, rfl, rfl, rfl⟩
    case round =>
      obtain ⟨k, m, hk, rfl, rfl, HT⟩ := hrel
      by_cases hlt : k < n
      · obtain ⟨x, hx⟩ := at_lt (show k < xs.length by rw [HL.out]; exact hlt)
        obtain ⟨y, hy⟩ := at_lt (show k < ys.length by rw [HL'.out]; exact hlt)
        obtain ⟨b, o, rfl, _, hc⟩ := h k _ (ints_at hx)
        obtain ⟨b', o', rfl, _, hc'⟩ := h' k _ (ints_at hy)
        by_cases hxy : x = y
        · subst hxy
          have G := Lib.hid (take_same HT.out hx hy)
          clear hx hy HT
          go_wp2_with fail
          go_quiet (fail)
          go_wp2
          go_roundw
          case rel => exact ⟨k + 1, _, by omega, by go_num, rfl, G⟩
          case measure => simp [intOf]; omega
        · have G := Lib.hid (eqL_at hx hy hxy)
          have t := bne_t hxy
          clear hx hy HT hxy
          go_wp2_with fail
          go_quiet (fail)
          go_wp2
          go_ret
          exact ⟨ret_bool G.out.symm, _, World.drewN_drewN ..⟩
      · obtain rfl : k = n := by omega
        have G := Lib.hid (eqL_end HT.out HL.out HL'.out)
        clear HT
        go_wp2
        go_ret
        exact ⟨ret_bool G.out.symm, _, rfl⟩
  · have G := Lib.hid (eqL_len (xs := xs) (ys := ys) (by rw [HL.out, HL'.out]; exact hnn))
    have t := bne_t (show (n : Int) ≠ (n' : Int) by omega)
    clear hnn
    go_enter Tryz.func9, Tryz.ntmps9
    go_wp2
    go_ret
    exact ⟨ret_bool G.out.symm, 0, rfl⟩

/-- a list in memory -/
def Lst (w : World) (A : Option Addr) (L : List Int) : Prop := Row w w.heap.size A (ints L)
theorem Lst.next {w w' : World} {A : Option Addr} {L : List Int} (h : Lst w A L) (b : Below w.heap.size w w') : Lst w' A L := (Row.below h b (Nat.le_refl _)).more b.size
theorem Lst.drew {w : World} {A : Option Addr} {L : List Int} (h : Lst w A L) (n : Nat) : Lst (w.drewN n) A L := h
theorem Lst.redrew {w : World} {A : Option Addr} {L : List Int} {a : Nat} (h : Lst (w.drewN a) A L) (n : Nat) : Lst (w.drewN (a + n)) A L := h
theorem below_redrewN {B : Nat} {a w : World} {m : Nat} (h : Below B a (w.drewN m)) (n : Nat) : Below B a (w.drewN (m + n)) := below_drewN (w := w) ⟨h.os, h.tape, h.output, h.size, h.block⟩ _
theorem Src.drew {w : World} {T : TypeId} {G B : Nat} {xs : List Int} (s : Src w T G B xs) (n : Nat) : Src (w.drewN n) T G B xs := s
theorem Src.redrew {w : World} {T : TypeId} {G B a : Nat} {xs : List Int} (s : Src (w.drewN a) T G B xs) (n : Nat) : Src (w.drewN (a + n)) T G B xs := s
theorem Lst.alloc {w : World} {A : Option Addr} {L : List Int} (h : Lst w A L) (o : Obj) : Lst (w.alloc o) A L := h.next ((Below.refl _ _).alloc (Nat.le_refl _) _)
theorem Lst.only {w w' : World} {A : Option Addr} {L : List Int} {G B : Nat} (h : Row w B A (ints L)) (hB : B ≤ w.heap.size) (k : w.grownBy w' (some G)) (hG : B ≤ G) : Lst w' A L := (Row.only h k hG).more (Nat.le_trans hB k.size)
theorem below_step {B : Nat} {a w w' : World} (h : Below B a w) (hB : B ≤ w.heap.size) (k : Below w.heap.size w w') : Below B a w' := h.trans (k.mono hB)
/-- a list in memory below B -/
def Low (w : World) (B : Nat) (A : Option Addr) (L : List Int) : Prop := Row w B A (ints L) ∧ B ≤ w.heap.size
theorem Low.of {w : World} {A : Option Addr} {L : List Int} (h : Lst w A L) : Low w w.heap.size A L := ⟨h, Nat.le_refl _⟩
theorem Low.next {w w' : World} {B : Nat} {A : Option Addr} {L : List Int} (h : Low w B A L) (b : Below w.heap.size w w') : Low w' B A L := ⟨Row.below h.1 b h.2, Nat.le_trans h.2 b.size⟩
theorem Low.drew {w : World} {B : Nat} {A : Option Addr} {L : List Int} (h : Low w B A L) (n : Nat) : Low (w.drewN n) B A L := h
theorem Low.redrew {w : World} {B a : Nat} {A : Option Addr} {L : List Int} (h : Low (w.drewN a) B A L) (n : Nat) : Low (w.drewN (a + n)) B A L := h
theorem Low.only {w w' : World} {B G : Nat} {A : Option Addr} {L : List Int} (h : Low w B A L) (k : w.grownBy w' (some G)) (hG : B ≤ G) : Low w' B A L := ⟨Row.only h.1 k hG, Nat.le_trans h.2 k.size⟩
theorem Low.lst {w : World} {B : Nat} {A : Option Addr} {L : List Int} (h : Low w B A L) : Lst w A L := Row.more h.1 h.2
theorem likeInts_yes (A A' : Option Addr) (n n' c c' : Nat) (xs ys : List Int) (w : World) (e : xs = ys) (hl : xs.length = n) (hl' : ys.length = n') (hn : n ≤ 1048576) (h : Lst w A xs) (h' : Lst w A' ys) :
    Calls Tryz.prog 9 #[.slice A n c, .slice A' n' c'] w fun e w' => e = .returned (.bool true) ∧ ∃ m, w' = w.drewN m := by
  subst e
  refine (likeInts_any A A' n n' c c' _ _ xs xs w hl hl' (by omega) (by omega) h h').mono ?_
  rintro e w' ⟨rfl, m, rfl⟩
  exact ⟨by rw [eqL_self], m, rfl⟩
end Go.Proofs.YtpngohklicgbjaaGreat
