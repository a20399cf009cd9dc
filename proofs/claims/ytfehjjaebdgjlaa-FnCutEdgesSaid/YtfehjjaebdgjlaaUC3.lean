/-
  Texts of this seat, joined: what several laws lean on.
-/
import Derived.Test.YtfehjjaebdgjlaaUC2
import Derived.Test.YtfehjjaebdgjlaaTurP
import Derived.Test.YtfehjjaebdgjlaaGrfS
import Derived.Test.YtfehjjaebdgjlaaCedP
/-
  The free form of a tree: the least one of its rerooted trees, the program's and the model's.
-/
namespace Go.Proofs.Ytfehjjaebdgjlaa
open Go.RowKit Fld
set_option linter.unusedVariables false
set_option linter.unusedSimpArgs false
set_option maxRecDepth 100000

/-- what minTo hands back is one of them, and no later than each -/
theorem minTo_least (ss : List (List UInt8)) : ∀ k, 1 ≤ k → k ≤ ss.length → (∃ j, j < k ∧ ss[j]? = some (minTo ss k)) ∧ ∀ i s, i < k → ss[i]? = some s → Tr.leT (minTo ss k) s = true
  | 0, h, _ => by omega
  | 1, _, h => by
    rw [minTo_one]
    have e : ss[0]? = some (ss.getD 0 []) := by rw [List.getD_eq_getElem?_getD, List.getElem?_eq_getElem (by omega)]; rfl
    exact ⟨⟨0, by omega, e⟩, fun i s hi hs => by
      rw [show i = 0 by omega, e] at hs; injection hs with hs; rw [← hs]; exact leT_self _⟩
  | k+2, _, h => by
    obtain ⟨⟨j, hj, ej⟩, hm⟩ := minTo_least ss (k + 1) (by omega) (by omega)
    obtain ⟨s, hs⟩ := at_lt (show k + 1 < ss.length by omega)
    rw [minTo_step (by omega) hs]
    split
    · rename_i hc
      have h1 : Tr.leT s (minTo ss (k + 1)) = true := decide_eq_true (by omega)
      exact ⟨⟨k + 1, by omega, hs⟩, fun i s' hi hs' => by
        by_cases e : i = k + 1
        · rw [e, hs] at hs'; injection hs' with hs'; rw [← hs']; exact leT_self _
        · exact Tr.leT_tr h1 (hm i s' (by omega) hs')⟩
    · rename_i hc
      have h1 : Tr.leT (minTo ss (k + 1)) s = true := decide_eq_true (cmpT_swap hc)
      exact ⟨⟨j, by omega, ej⟩, fun i s' hi hs' => by
        by_cases e : i = k + 1
        · rw [e, hs] at hs'; injection hs' with hs'; rw [← hs']; exact h1
        · exact hm i s' (by omega) hs'⟩
/-- the free form -/
def freeL (t : List Int) : List Int := ((rootsL t).getD 0 ([], 0)).1
theorem free_parts {t : List Int} (h : Tr.isLv t = true) : (∃ x, (rootsL t)[0]? = some (freeL t, x)) ∧ Tr.txt (freeL t) = minT (rootsT (Tr.txt t)) ∧ Tr.isLv (freeL t) = true ∧ Tr.can (freeL t) = freeL t ∧ (freeL t).length = t.length := by
  obtain ⟨c1, c2⟩ := lv_can h
  obtain ⟨c3, c4⟩ := Tr.can_can h
  have hn := (lv_txt h).2.2.2
  have h1 := (lv_bd h).1
  have hlen : (rootsT (Tr.txt t)).length = t.length := by rw [rootsT_len, hn]; omega
  have hat : ∀ k, k < t.length → (rootsT (Tr.txt t))[k]? = some (Tr.txt (Tr.turnF 9 (Tr.can t) k)) := fun k hk => by
    rw [rootsT_at (by rw [hn]; omega)]
    have := (Tr.turn_at c1 c3 (k := k) (by omega)).1
    rw [c4] at this
    rw [this]
  have hu := fun k (hk : k < t.length) => (Tr.turn_at c1 c3 (k := k) (by omega)).2
  obtain ⟨⟨j, hj, ej⟩, hm⟩ := minTo_least (rootsT (Tr.txt t)) t.length (by omega) (by omega)
  rw [hat j hj] at ej
  injection ej with ej
  have hmem := (Tr.turns_perm h).mem_iff (a := Tr.turnF 9 (Tr.can t) j)
  obtain ⟨k0, hk0, e0⟩ : ∃ k0, k0 < t.length ∧ Tr.turnF 9 t k0 = Tr.turnF 9 (Tr.can t) j := by
    have := hmem.2 (by unfold Tr.turnsL; rw [List.mem_map]; exact ⟨j, by rw [List.mem_range]; omega, rfl⟩)
    unfold Tr.turnsL at this
    rw [List.mem_map] at this
    obtain ⟨k0, q1, q2⟩ := this
    exact ⟨k0, by rw [List.mem_range] at q1; exact q1, q2⟩
  obtain ⟨x, hx⟩ := Tr.sumTo_first (f := Tr.turnF 9 t) hk0 (fun i hi hne => by
    have := (Tr.turns_perm h).mem_iff.1 (show Tr.turnF 9 t i ∈ Tr.turnsL t by unfold Tr.turnsL; rw [List.mem_map]; exact ⟨i, by rw [List.mem_range]; exact hi, rfl⟩)
    unfold Tr.turnsL at this
    rw [List.mem_map] at this
    obtain ⟨m, q1, q2⟩ := this
    rw [List.mem_range] at q1
    rw [e0] at hne ⊢
    rw [← q2] at hne ⊢
    have h3 := hm m _ (by omega) (hat m (by omega))
    rw [← ej] at h3
    rw [leT_txt (isTr_of (hu j hj).1 (hu j hj).2.1) (isTr_of (hu m (by omega)).1 (hu m (by omega)).2.1)] at h3
    rcases Tr.bf_cn hne with b | b
    · rw [b] at h3; simp at h3
    · exact b)
  have hf : freeL t = Tr.turnF 9 (Tr.can t) j := by
    unfold freeL rootsL
    rw [List.getD_eq_getElem?_getD, hx]; exact e0
  refine ⟨⟨x, ?_⟩, ?_, ?_, ?_, ?_⟩
  · rw [hf, ← e0]; exact hx
  · rw [hf, ej]; unfold minT; rw [hlen]
  · rw [hf]; exact (hu j hj).1
  · rw [hf]; exact (hu j hj).2.1
  · rw [hf, (hu j hj).2.2, c2]
def freeA (t : List Int) : List Int × Int := if Tr.isLv t = true then (freeL t, 0) else ([], 1)
theorem freeA_no {t : List Int} (h : Tr.isLv t = false) : freeA t = ([], 1) := if_neg (by rw [h]; simp)
theorem freeA_yes {t : List Int} (h : Tr.isLv t = true) : freeA t = (freeL t, 0) := if_pos h
set_option maxHeartbeats 2000000 in
theorem pFreeForm_L (A : Option Addr) (n c B : Nat) (t : List Int) (w : World) (hl : t.length = n) (hn : n ≤ 1048576) (hB : B ≤ w.heap.size) (h : Row w B A (ints t)) (hc : n ≤ c) :
    Calls Try.prog 32 #[.slice A n c] w (ResL (freeA t) w) := by
  have C0 := isLevels_any A n c B t w hl (by omega) h
  cases h1 : Tr.isLv t
  · have G := Lib.hid (freeA_no h1)
    rw [h1] at C0
    clear hl h1
    go_enter Try.func32, Try.ntmps32
    go_wp2_with fail
    refine C0.mono ?_
    rintro e w1 ⟨rfl, d, rfl⟩
    go_wp2
    go_ret2
    exact ResL.nil G.out (below_drewN (Below.refl _ _) _)
  · rw [h1] at C0
    obtain ⟨a1, a8⟩ := lv_bd h1
    rw [hl] at a1 a8
    have G := Lib.hid (freeA_yes h1)
    obtain ⟨_, p1, p2, p3, p4⟩ := free_parts h1
    have C2 := fun w => freeForm_any (Tr.txt t) w (Tr.tx_txt h1)
    rw [← p1] at C2
    rw [hl] at p4
    obtain ⟨T, hT⟩ : ∃ T, T = freeL t := ⟨_, rfl⟩
    simp only [← hT] at C2
    rw [← hT] at G p2 p3 p4
    have HTL := Lib.hid p4
    have HLV := Lib.hid p2
    have HCT := Lib.hid p3
    have HL := Lib.hid hl
    clear hl h1 p1 p2 p3 p4 hT
    go_enter Try.func32, Try.ntmps32
    go_wp2_with fail
    refine C0.mono ?_
    rintro e w1 ⟨rfl, d, rfl⟩
    have B1 : Hid (Below w.heap.size w (w.drewN d)) := below_drewN (Below.refl _ _) d
    generalize w.drewN d = W1 at *
    go_wp2_with fail
    refine (treeOf_any A n c B t _ HL.out a1 a8 hc (Nat.le_trans hB B1.out.size) (Row.below h B1.out hB)).mono ?_
    rintro e w2 ⟨rfl, bel2⟩
    have B2 : Hid (Below w.heap.size w w2) := B1.out.trans (bel2.mono B1.out.size)
    clear bel2
    go_wp2_with fail
    refine (C2 _).mono ?_
    rintro e w3 ⟨rfl, bel3⟩
    have B3 : Hid (Below w.heap.size w w3) := B2.out.trans (bel3.mono B2.out.size)
    clear bel3 C2
    go_wp2_with fail
    refine (levelsOf_any T _ HLV.out).mono ?_
    rintro e w4 ⟨A4, c4, rfl, own4, bel4⟩
    rw [HTL.out] at own4 ⊢
    rw [HCT.out] at own4
    have B4 : Hid (Below w.heap.size w w4) := B3.out.trans (bel4.mono B3.out.size)
    have GO : Hid (w4.ownsRow w.heap.size 2 1 (.slice A4 n c4) n (ints T)) := ((OwnR.of own4).more B3.out.size (Nat.le_refl _)).1
    clear own4 bel4
    go_wp2
    go_ret2
    exact ResL.of G.out HTL.out (by omega) GO.out B4.out
set_option maxHeartbeats 2000000 in
theorem sFreeForm_L (A : Option Addr) (n c B : Nat) (t : List Int) (w : World) (hl : t.length = n) (hn : n ≤ 1048576) (hB : B ≤ w.heap.size) (h : Row w B A (ints t)) (hc : n ≤ c) :
    Calls Try.prog 31 #[.slice A n c] w (ResLow (freeA t) w) := by
  have C0 := l03Is_any A n c B t w hl hn h
  cases h1 : Tr.isLv t
  · have G := Lib.hid (freeA_no h1)
    rw [h1] at C0
    clear hl h1
    go_enter Try.func31, Try.ntmps31
    go_wp2_with fail
    refine C0.mono ?_
    rintro e w1 ⟨rfl, d, rfl⟩
    go_wp2
    go_ret2
    exact ResLow.nil G.out (below_drewN (Below.refl _ _) _)
  · rw [h1] at C0
    obtain ⟨a1, a8⟩ := lv_bd h1
    rw [hl] at a1 a8
    have G := Lib.hid (freeA_yes h1)
    obtain ⟨⟨x, p0⟩, _, _, _, p4⟩ := free_parts h1
    rw [hl] at p4
    have HP := Lib.hid p0
    have HTL := Lib.hid p4
    have H1 := Lib.hid h1
    have HL := Lib.hid hl
    clear hl h1 p0 p4
    go_enter Try.func31, Try.ntmps31
    go_wp2_with fail
    refine C0.mono ?_
    rintro e w1 ⟨rfl, d, rfl⟩
    have B1 : Hid (Below w.heap.size w (w.drewN d)) := below_drewN (Below.refl _ _) d
    generalize w.drewN d = W1 at *
    have C1 := l04Roots_any A n c B t W1 HL.out H1.out hc (Nat.le_trans hB B1.out.size) (Row.below h B1.out hB)
    obtain ⟨R, hR⟩ : ∃ R, R = rootsL t := ⟨_, rfl⟩
    rw [← hR] at C1 HP
    have hR1 : 1 ≤ R.length := by
      rcases Nat.lt_or_ge 0 R.length with q | q
      · exact q
      · have := HP.out; rw [List.getElem?_eq_none q] at this; cases this
    obtain ⟨nr, hnr⟩ : ∃ nr, nr = R.length := ⟨_, rfl⟩
    rw [← hnr] at C1 hR1
    clear hR hnr
    go_wp2_with fail
    refine C1.mono ?_
    rintro e w2 ⟨A2, c2, rfl, hc2, hcm2, HS, bel2⟩
    obtain ⟨b, o, Ak, ck, rfl, hb, hc0, hc1, hlk, hck, hrow⟩ := HS.at HP.out
    rw [Nat.zero_mul, Nat.add_zero] at hc0
    simp only at hc0 hlk hrow
    rw [HTL.out] at hc0
    have B2 : Hid (Below w.heap.size w w2) := B1.out.trans (bel2.mono B1.out.size)
    have GR : Hid (Row w2 w2.heap.size Ak (ints (freeL t))) := hrow.row
    clear hrow hc1 HS bel2 C1 hlk
    go_wp2
    go_ret2
    exact ResLow.of G.out HTL.out (by omega) GR.out B2.out
end Go.Proofs.Ytfehjjaebdgjlaa
/-
  All trees of a free tree with their numbers, the program's and the model's.
-/
namespace Go.Proofs.Ytfehjjaebdgjlaa
open Go.RowKit Fld Go.Maps
set_option linter.unusedVariables false
set_option linter.unusedSimpArgs false
set_option maxRecDepth 100000

theorem tx_brk {y : List UInt8} (h : Tr.isTx y = true) : y.length ≤ 16 ∧ Brk y := by
  refine ⟨(Tr.br_parts h).1.2, ?_⟩
  unfold Tr.isTx at h
  simp only [Bool.and_eq_true, beq_iff_eq] at h
  rw [← h.2]; exact txt_brk _ _
/-- how often a text stands among the first ones -/
def cntF (R : List (List UInt8)) (k : Nat) : List UInt8 → Int := fun y => ((R.take k).count y : Int)
theorem cntF_zero (R : List (List UInt8)) : cntF R 0 = fun _ => 0 := by funext y; simp [cntF]
theorem cntF_step {R : List (List UInt8)} {k : Nat} {x : List UInt8} (h : R[k]? = some x) : bump (cntF R k) x 1 = cntF R (k + 1) := by
  funext y
  unfold bump cntF
  rw [List.take_add_one, h, Option.toList_some, List.count_append, List.count_singleton]
  by_cases e : y = x
  · subst e; simp
  · rw [if_neg e, if_neg (by simpa using fun q => e q.symm)]; simp
theorem cntF_le (R : List (List UInt8)) (k : Nat) (y : List UInt8) : 0 ≤ cntF R k y ∧ cntF R k y ≤ (k : Int) := by
  unfold cntF
  have h1 := List.count_le_length (a := y) (l := R.take k)
  rw [List.length_take] at h1
  omega
theorem cntF_all (R : List (List UInt8)) {n : Nat} (h : R.length = n) (y : List UInt8) : cntF R n y = (R.count y : Int) := by
  unfold cntF; rw [List.take_of_length_le (by omega)]
theorem sumTo_congr {f g : Nat → List Int} : ∀ n, (∀ k, k < n → f k = g k) → Tr.sumTo f n = Tr.sumTo g n
  | 0, _ => rfl
  | n+1, h => by rw [Tr.sumTo, Tr.sumTo, sumTo_congr n (fun k hk => h k (by omega)), h n (by omega)]
theorem roots_list {t : List Int} (h : Tr.isLv t = true) : (∀ u ∈ Tr.turnsL t, isTr u = true) ∧ (rootsT (Tr.txt t)).Perm ((Tr.turnsL t).map Tr.txt) ∧ Tr.sumTo (fun k => (Tr.turnsL t).getD k []) (Tr.turnsL t).length = rootsL t := by
  obtain ⟨c1, c2⟩ := lv_can h
  obtain ⟨c3, c4⟩ := Tr.can_can h
  have hn := (lv_txt h).2.2.2
  have hat : ∀ k, k < t.length → Tr.txt (Tr.turnF 9 (Tr.can t) k) = Tr.rerF 8 (Tr.txt t) k [] ∧ Tr.isLv (Tr.turnF 9 (Tr.can t) k) = true ∧ Tr.can (Tr.turnF 9 (Tr.can t) k) = Tr.turnF 9 (Tr.can t) k := fun k hk => by
    have h9 := Tr.turn_at c1 c3 (k := k) (by omega)
    rw [c4] at h9
    exact ⟨h9.1, h9.2.1, h9.2.2.1⟩
  have hp := Tr.turns_perm h
  refine ⟨fun u hu => ?_, ?_, ?_⟩
  · have h1 := hp.mem_iff.1 hu
    unfold Tr.turnsL at h1
    rw [List.mem_map] at h1
    obtain ⟨k, q1, q2⟩ := h1
    rw [List.mem_range, c2] at q1
    rw [← q2]
    exact isTr_of (hat k q1).2.1 (hat k q1).2.2
  · have e : rootsT (Tr.txt t) = (Tr.turnsL (Tr.can t)).map Tr.txt := by
      unfold rootsT Tr.turnsL
      rw [List.map_map, c2, show (Tr.txt t).length / 2 = t.length by omega]
      refine List.map_congr_left fun k hk => ?_
      rw [List.mem_range] at hk
      exact (hat k hk).1.symm
    rw [e]
    exact (hp.map Tr.txt).symm
  · have e : (Tr.turnsL t).length = t.length := by unfold Tr.turnsL; simp
    rw [e]
    refine sumTo_congr _ fun k hk => ?_
    unfold Tr.turnsL
    rw [List.getD_eq_getElem?_getD, List.getElem?_map, List.getElem?_range hk]; rfl
theorem sum_small {S : List (List Int × Int)} {m : Nat} (hl : S.length ≤ 8) (h : ∀ e ∈ S, e.1.length ≤ 8) : S.length ≤ 1048576 ∧ cntC S ≤ 1048576 := by
  refine ⟨by omega, ?_⟩
  have : ∀ (S : List (List Int × Int)), (∀ e ∈ S, e.1.length ≤ 8) → cntC S ≤ 9 * S.length := fun S => by
    induction S with
    | nil => intro _; exact Nat.zero_le _
    | cons e r ih =>
      intro h
      have h1 := ih (fun e he => h e (by simp [he]))
      have h2 : cntC (e :: r) = cntD ShP e + cntC r := by
        unfold cntC
        show ((e :: r).map (cntD ShP)).sum = _
        rw [List.map_cons, List.sum_cons]; rfl
      have h3 : cntD ShP e = e.1.length + 1 := cntD_pair e.1 e.2
      have h4 := h e (by simp)
      rw [h2, h3, List.length_cons]; omega
  have := this S h
  omega
theorem roots_small {t : List Int} (h : Tr.isLv t = true) : (rootsL t).length ≤ 1048576 ∧ cntC (rootsL t) ≤ 1048576 := by
  have h8 := (lv_bd h).2
  have h1 := Tr.sumTo_length (Tr.turnF 9 t) t.length
  refine sum_small (m := 0) (by unfold rootsL; omega) (fun e he => ?_)
  obtain ⟨k, hk, e1⟩ := Tr.sumTo_mem he
  have h2 := (roots_list h).1 (Tr.turnF 9 t k) (by unfold Tr.turnsL; rw [List.mem_map]; exact ⟨k, by rw [List.mem_range]; exact hk, rfl⟩)
  rw [e1]
  exact (lv_bd (tr_lv h2).1).2
def rootsA (t : List Int) : List (List Int × Int) × Int := if Tr.isLv t = true then (rootsL t, 0) else ([], 1)
theorem rootsA_no {t : List Int} (h : Tr.isLv t = false) : rootsA t = ([], 1) := if_neg (by rw [h]; simp)
theorem rootsA_yes {t : List Int} (h : Tr.isLv t = true) : rootsA t = (rootsL t, 0) := if_pos h
set_option maxHeartbeats 2000000 in
theorem pRootsOf_L (A : Option Addr) (n c B : Nat) (t : List Int) (w : World) (hl : t.length = n) (hn : n ≤ 1048576) (hB : B ≤ w.heap.size) (h : Row w B A (ints t)) (hc : n ≤ c) :
    Calls Try.prog 30 #[.slice A n c] w (ResC (rootsA t) w) := by
  have C0 := isLevels_any A n c B t w hl (by omega) h
  cases h1 : Tr.isLv t
  · have G := Lib.hid (rootsA_no h1)
    rw [h1] at C0
    clear hl h1
    go_enter Try.func30, Try.ntmps30
    go_wp2_with fail
    refine C0.mono ?_
    rintro e w1 ⟨rfl, d, rfl⟩
    go_wp2
    go_ret2
    exact ResC.nil G.out (below_drewN (Below.refl _ _) _)
  · rw [h1] at C0
    obtain ⟨a1, a8⟩ := lv_bd h1
    have hn2 := (lv_txt h1).2.2.2
    rw [hl] at a1 a8 hn2
    have G := Lib.hid (rootsA_yes h1)
    have HSM := Lib.hid (roots_small h1)
    have hx := Tr.tx_txt h1
    have HRT : Hid (∀ s ∈ rootsT (Tr.txt t), Tr.isTx s = true) := roots_tx hx
    have HRL : Hid ((rootsT (Tr.txt t)).length = n) := by rw [Hid, rootsT_len]; omega
    have HSL : Hid (∀ ss f m, (∀ y, f y = ((rootsT (Tr.txt t)).count y : Int)) → KeysF f m ss → listF f (Tr.sortT ss) = rootsL t) := fun ss f m hf hK => by
      obtain ⟨q1, q2, q3⟩ := roots_list h1
      rw [← q3]; exact sum_list q1 q2 hf hK
    have C2 := fun w => roots_any (Tr.txt t) w hx
    rw [show (Tr.txt t).length / 2 = n by omega] at C2
    have HL := Lib.hid hl
    have hmm := @run_makeMap Try.prog
    clear hl h1 hx hn2
    go_enter Try.func30, Try.ntmps30
    go_wp2_with fail
    refine C0.mono ?_
    rintro e w1 ⟨rfl, d, rfl⟩
    have B1 : Hid (Below w.heap.size w (w.drewN d)) := below_drewN (Below.refl _ _) d
    generalize w.drewN d = W1 at *
    have hW1 : w.heap.size ≤ W1.heap.size := B1.out.size
    have HM1 : Hid (MapF (W1.alloc (.map #[] 0)) W1.heap.size 0 (cntF (rootsT (Tr.txt t)) 0)) := by rw [cntF_zero]; exact MapF.made W1
    have BA : Below W1.heap.size W1 (W1.alloc (.map #[] 0)) := (Below.refl _ _).alloc (Nat.le_refl _) _
    have hsA : (W1.alloc (.map #[] 0)).heap.size = W1.heap.size + 1 := by simp
    obtain ⟨b, hb⟩ : ∃ b, b = W1.heap.size := ⟨_, rfl⟩
    have hRow : Row (W1.alloc (.map #[] 0)) B A (ints t) := (Row.below h B1.out hB).below BA (by omega)
    have B2 : Hid (Below w.heap.size w (W1.alloc (.map #[] 0))) := B1.out.trans (BA.mono hW1)
    clear h BA
    go_wp2_with fail
    have hbW : w.heap.size ≤ b := by omega
    obtain ⟨W2, hW2⟩ : ∃ W2, W2 = W1.alloc (.map #[] 0) := ⟨_, rfl⟩
    rw [← hW2] at HM1 hsA hRow B2 ⊢
    rw [← hb] at HM1 hsA ⊢
    clear hW2 B1 hb hmm
    refine (treeOf_any A n c B t _ HL.out a1 a8 hc (by omega) hRow).mono ?_
    rintro e w2 ⟨rfl, bel2⟩
    have B3 : Hid (Below w.heap.size w w2) := B2.out.trans (bel2.mono B2.out.size)
    have HM2 : Hid (MapF w2 b 0 (cntF (rootsT (Tr.txt t)) 0)) := HM1.out.next bel2
    have hs2 : b < w2.heap.size := by have := bel2.size; omega
    clear bel2 HM1 hRow B2
    go_wp2_with fail
    refine (C2 _).mono ?_
    rintro e w3 ⟨rfl, own3, bel3⟩
    have B4 : Hid (Below w.heap.size w w3) := B3.out.trans (bel3.mono B3.out.size)
    have HM3 : Hid (MapF w3 b 0 (cntF (rootsT (Tr.txt t)) 0)) := HM2.out.next bel3
    have HOR := Lib.hid (OwnR.of own3)
    have hs3 : b < w3.heap.size := by have := bel3.size; omega
    obtain ⟨R, hR⟩ : ∃ R, R = rootsT (Tr.txt t) := ⟨_, rfl⟩
    rw [← hR] at HM3 HOR HRT HRL HSL
    obtain ⟨z2, hz2⟩ : ∃ z, z = w2.heap.size := ⟨_, rfl⟩
    rw [← hz2] at HOR hs2 ⊢
    clear own3 bel3 HM2 B3 C2 hR hz2
    go_wp2_with fail
    go_loopw [15] (fun i wr => ∃ k : Nat, k ≤ n ∧ i = .int .i64 k ∧ Hid (MapF wr b k (cntF R k)) ∧ Hid (w3.grownBy wr (some b))) (fun i _ => n - (intOf i).toNat)
    case atStart => exact ⟨0, Nat.zero_le _, rfl, HM3.out, World.grownBy.refl _ _⟩
    case round =>
      obtain ⟨k, hk, rfl, HM, HG⟩ := hrel
      by_cases hlt : k < n
      · obtain ⟨x, hx⟩ := at_lt (show k < R.length by rw [HRL.out]; exact hlt)
        obtain ⟨b', o', e', hb', hc'⟩ := (HOR.out.grown HG.out (.inr (by simp only [Value.ownBlock]; intro e; injection e with e; omega))).row k _ (strs_at hx)
        injection e' with e'
        injection e' with e1 e2
        subst e1 e2
        rw [Nat.zero_add] at hc'
        have hxt := HRT.out x (List.mem_of_getElem? hx)
        have hx16 := (tx_brk hxt).1
        have hcb := cntF_le R k x
        have CA := add_any b k x 1 (cntF R k) wr HM.out (by omega) (by omega) (by omega) (by omega)
        rw [cntF_step hx] at CA
        have HGG := Lib.hid HG.out
        obtain ⟨X, hX⟩ : ∃ X : ByteArray, X = ⟨x.toArray⟩ := ⟨_, rfl⟩
        rw [← hX] at CA hc'
        clear hx hxt HM HG hX hcb HM3
        go_wp2_with fail
        refine CA.mono ?_
        rintro e w4 ⟨rfl, hm4, hg4⟩
        have G1 := Lib.hid hm4
        have G2 := Lib.hid (grownBy_trans HGG.out hg4)
        clear hm4 hg4 CA hc'
        go_wp2
        go_roundw
        case rel => exact ⟨k + 1, by omega, by go_num, G1, G2⟩
        case measure => simp [intOf]; omega
      · obtain rfl : k = n := by omega
        have hsz := HG.out.size
        have B5 : Hid (Below w.heap.size w wr) := B4.out.grown HG.out B4.out.size (fun q e => by injection e with e; omega)
        have CC := counted_any b k (cntF R k) wr HM.out (by omega) (fun y hy => by
          rw [cntF_all R HRL.out y] at hy
          have h2 : 0 < R.count y := by omega
          exact tx_brk (HRT.out y (List.count_pos_iff.1 h2)))
        clear HM HG HM3
        go_wp2_with fail
        refine CC.mono ?_
        rintro e w5 ⟨A5, c5, ss, rfl, hK, own5, bel5⟩
        have e5 := HSL.out ss (cntF R k) k (fun y => cntF_all R HRL.out y) hK
        rw [e5] at own5
        have hl5 : (rootsL t).length = ss.length := by rw [← e5]; unfold listF; rw [List.length_map, (sortT_perm ss).length_eq]
        have GO : Hid (OwnD ShC w.heap.size w5.heap.size [.slice A5 ss.length c5] (rootsL t) w5) := own5.more B5.out.size (Nat.le_refl _)
        have GB : Hid (Below w.heap.size w w5) := B5.out.trans (bel5.mono B5.out.size)
        clear own5 bel5 CC e5 hK
        have HL5 := Lib.hid hl5
        clear hl5
        go_wp2
        go_ret2
        exact ResC.of G.out HL5.out HSM.out GO.out GB.out
set_option maxHeartbeats 2000000 in
theorem sRootsOf_L (A : Option Addr) (n c B : Nat) (t : List Int) (w : World) (hl : t.length = n) (hn : n ≤ 1048576) (hB : B ≤ w.heap.size) (h : Row w B A (ints t)) (hc : n ≤ c) :
    Calls Try.prog 29 #[.slice A n c] w (ResCl (rootsA t) w) := by
  have C0 := l03Is_any A n c B t w hl hn h
  cases h1 : Tr.isLv t
  · have G := Lib.hid (rootsA_no h1)
    rw [h1] at C0
    clear hl h1
    go_enter Try.func29, Try.ntmps29
    go_wp2_with fail
    refine C0.mono ?_
    rintro e w1 ⟨rfl, d, rfl⟩
    go_wp2
    go_ret2
    exact ResCl.nil G.out (below_drewN (Below.refl _ _) _)
  · rw [h1] at C0
    have G := Lib.hid (rootsA_yes h1)
    have HSM := Lib.hid (roots_small h1)
    have H1 := Lib.hid h1
    have HL := Lib.hid hl
    clear hl h1
    go_enter Try.func29, Try.ntmps29
    go_wp2_with fail
    refine C0.mono ?_
    rintro e w1 ⟨rfl, d, rfl⟩
    have B1 : Hid (Below w.heap.size w (w.drewN d)) := below_drewN (Below.refl _ _) d
    generalize w.drewN d = W1 at *
    go_wp2_with fail
    refine (l04Roots_any A n c B t W1 HL.out H1.out hc (Nat.le_trans hB B1.out.size) (Row.below h B1.out hB)).mono ?_
    rintro e w2 ⟨A2, c2, rfl, hc2, hcm2, HS, bel2⟩
    have GH := Lib.hid (Sms.has HS hc2 hcm2)
    have GB : Hid (Below w.heap.size w w2) := B1.out.trans (bel2.mono B1.out.size)
    clear HS bel2
    go_wp2
    go_ret2
    exact ResCl.of G.out rfl HSM.out GH.out GB.out
end Go.Proofs.Ytfehjjaebdgjlaa
/-
  Graft sums, the program's and the model's.
-/
namespace Go.Proofs.Ytfehjjaebdgjlaa
open Go.RowKit Fld Go.Maps
set_option linter.unusedVariables false
set_option linter.unusedSimpArgs false
set_option maxRecDepth 100000

/-- a key and its value in a composite literal of a map -/
theorem wpList_insert_own {H : Type} {P : Program} (w : World) {ops : Array Oper} {rest : List Oper} {o : Oper} {a : Act} {Q : Exit → Act → World → Prop}
    (hg : o.guard = none) (m x v : Operand) (t : TypeId) (hop : o.op = Op.insert t m x v)
    (k e : TypeId) (K : Keyed P k) (ht : P.underlying t = some (.map k e)) (R : Value → Option (DataW H × List MemPlace)) (b n : Nat) (D : DataW H)
    (hm : a.eval m = .map (some b)) (hown : w.ownsMap P k R b n D) (hn : n < maxLen) (key val : Value) (kl : Lit) (hx : a.eval x = key) (hv : a.eval v = val) (hkey : keyOf P k key = some kl)
    (d : DataW H) (ps : List MemPlace) (hval : R val = some (d, ps))
    (hK : ∀ w', w'.ownsMap P k R b (n + 1) (D.put kl d) → w.grownBy w' (some b) → wpList P ops Q rest (a.put o.dst undef) w') :
    wpList P ops Q (o :: rest) a w := by
  refine wpList_plain hg fun K' hK' => ?_
  obtain ⟨w', hrun, r1, r2⟩ := hown.update K ht hn hkey hval
  unfold Oper.wp
  simp [execOp, hop, hm, hx, hv, hrun, Result.andThen]
  exact hK' _ _ (hK w' r1 r2)
/-- the sum of one tree -/
def oneF (x : List UInt8) : List UInt8 → Int := bump (fun _ => 0) x 1
theorem oneF_val (x y : List UInt8) : oneF x y = if y = x then 1 else 0 := by unfold oneF bump; rfl
theorem holds_one {x : List UInt8} : HoldsF ((DataW.map [] : DataW Unit).put (.string x) (.lit (.int .i64 1))) (oneF x) := by
  have h0 : HoldsF (DataW.map [] : DataW Unit) (fun _ => 0) := ⟨fun x => by simp [DataW.atKey], fun x => by simp [Maps.has]⟩
  have := h0.put (x := x) (c := 1) ⟨[], rfl⟩ (by omega)
  exact this
theorem gsum_one {x v : List UInt8} {ss : List (List UInt8)} {m : Nat} (hK : KeysF (oneF x) m ss) : gsum (oneF x) v ss = cntF (grafts x v) (grafts x v).length := by
  have hmem : ∀ y, y ∈ ss ↔ y = x := fun y => by
    rw [hK.2.1, oneF_val]
    by_cases e : y = x <;> simp [e]
  have he : ss = [x] := by
    have h1 := (hmem x).2 rfl
    have h2 := hK.1
    cases ss with
    | nil => cases h1
    | cons a r =>
      have ha := (hmem a).1 (by simp)
      subst ha
      cases r with
      | nil => rfl
      | cons c r =>
        have hc := (hmem c).1 (by simp)
        subst hc
        simp at h2
  rw [he]
  funext y
  unfold gsum cntF
  rw [List.take_length]
  simp [oneF_val]
def gsumA (u v : List Int) : List (List Int × Int) × Int := if Tr.isLv u = true ∧ Tr.isLv v = true then (if u.length + v.length ≤ 8 then (gsumL u v, 0) else ([], 3)) else ([], 1)
theorem gsumA_no1 {u v : List Int} (h : Tr.isLv u = false) : gsumA u v = ([], 1) := if_neg (by rw [h]; simp)
theorem gsumA_no2 {u v : List Int} (h : Tr.isLv v = false) : gsumA u v = ([], 1) := if_neg (by rw [h]; simp)
theorem gsumA_big {u v : List Int} (h : Tr.isLv u = true) (h' : Tr.isLv v = true) (h8 : ¬ u.length + v.length ≤ 8) : gsumA u v = ([], 3) := by unfold gsumA; rw [if_pos ⟨h, h'⟩, if_neg h8]
theorem gsumA_yes {u v : List Int} (h : Tr.isLv u = true) (h' : Tr.isLv v = true) (h8 : u.length + v.length ≤ 8) : gsumA u v = (gsumL u v, 0) := by unfold gsumA; rw [if_pos ⟨h, h'⟩, if_pos h8]
theorem gsum_small {u v : List Int} (h : Tr.isLv u = true) (h' : Tr.isLv v = true) (h8 : u.length + v.length ≤ 8) : (gsumL u v).length ≤ 1048576 ∧ cntC (gsumL u v) ≤ 1048576 := by
  have hu := (lv_bd h).2
  have h1 := Tr.sumTo_length (gAt u v) u.length
  refine sum_small (m := 0) (by unfold gsumL; omega) (fun e he => ?_)
  obtain ⟨k, hk, e1⟩ := Tr.sumTo_mem he
  rw [e1, (gAt_lv h h' h8 hk).2.2.1]; exact h8
/-- the program's list is the model's -/
theorem gsum_list {u v : List Int} (h : Tr.isLv u = true) (h' : Tr.isLv v = true) (h8 : u.length + v.length ≤ 8) {ss : List (List UInt8)} {f : List UInt8 → Int} {m : Nat} (hf : ∀ y, f y = ((grafts (Tr.txt u) (Tr.txt v)).count y : Int)) (hK : KeysF f m ss) : listF f (Tr.sortT ss) = gsumL u v := by
  have hn := (lv_txt h).2.2.2
  have e0 : ((List.range u.length).map (gAt u v)).length = u.length := by simp
  have q1 : ∀ t ∈ (List.range u.length).map (gAt u v), isTr t = true := fun t ht => by
    rw [List.mem_map] at ht
    obtain ⟨k, hk, e⟩ := ht
    rw [List.mem_range] at hk
    obtain ⟨r1, r2, _⟩ := gAt_lv h h' h8 hk
    rw [← e]; exact isTr_of r1 r2
  have q2 : (grafts (Tr.txt u) (Tr.txt v)).Perm (((List.range u.length).map (gAt u v)).map Tr.txt) := by
    have hp := (Tr.graft_perm h h' h8).1
    have e1 : ((List.range u.length).map (gAt u v)).map Tr.txt = (List.range u.length).map fun k => Tr.txt (Tr.gl u k v) := by
      rw [List.map_map]
      refine List.map_congr_left fun k hk => ?_
      rw [List.mem_range] at hk
      exact (gAt_lv h h' h8 hk).2.2.2
    rw [e1]
    unfold grafts
    rw [show (Tr.txt u).length / 2 = u.length by omega]
    exact hp.symm
  have h9 := sum_list q1 q2 hf hK
  rw [h9, e0]
  unfold gsumL
  refine sumTo_congr _ fun k hk => ?_
  rw [List.getD_eq_getElem?_getD, List.getElem?_map, List.getElem?_range hk]; rfl
/-- what is grafted are trees -/
theorem grafts_tx {u v : List Int} (h : Tr.isLv u = true) (h' : Tr.isLv v = true) (h8 : u.length + v.length ≤ 8) : ∀ y ∈ grafts (Tr.txt u) (Tr.txt v), Tr.isTx y = true := fun y hy => by
  have hn := (lv_txt h).2.2.2
  unfold grafts at hy
  rw [show (Tr.txt u).length / 2 = u.length by omega] at hy
  have h1 := (Tr.graft_perm h h' h8).1.mem_iff.2 hy
  rw [List.mem_map] at h1
  obtain ⟨k, hk, e⟩ := h1
  rw [List.mem_range] at hk
  rw [← e]
  exact Tr.tx_txt ((Tr.graft_perm h h' h8).2 k hk)
set_option maxHeartbeats 4000000 in
theorem pGraftSum_L (A A' : Option Addr) (n n' c c' B B' : Nat) (s t : List Int) (w : World) (hl : s.length = n) (hl' : t.length = n') (hn : n ≤ 1048576) (hn' : n' ≤ 1048576) (hB : B ≤ w.heap.size) (hB' : B' ≤ w.heap.size) (h : Row w B A (ints s)) (h' : Row w B' A' (ints t)) (hc : n ≤ c) (hc' : n' ≤ c') :
    Calls Try.prog 17 #[.slice A n c, .slice A' n' c'] w (ResC (gsumA s t) w) := by
  have hal : Below w.heap.size w (w.alloc (.cells #[.slice A n c, .slice A' n' c'] 24)) := (Below.refl _ _).alloc (Nat.le_refl _) _
  have C0 := areLevels_any (some ⟨w.heap.size, 0, none⟩) 2 2 w.heap.size [s, t] _ rfl (by omega) (fun r hr => by
    simp only [List.mem_cons, List.not_mem_nil, or_false] at hr
    rcases hr with rfl | rfl <;> omega) (two_lists (c := c) (c' := c') hl hl' hB hB' h h')
  have hb : allLvM [s, t] = (Tr.isLv s && Tr.isLv t) := by simp [allLvM]
  rw [hb] at C0
  by_cases hlv : Tr.isLv s = true ∧ Tr.isLv t = true
  · obtain ⟨h1, h2⟩ := hlv
    rw [h1, h2] at C0
    obtain ⟨a1, a8⟩ := lv_bd h1
    obtain ⟨b1, b8⟩ := lv_bd h2
    have z1 := (lv_txt h1).2.2.2
    have z2 := (lv_txt h2).2.2.2
    rw [hl] at a1 a8
    rw [hl'] at b1 b8
    by_cases h8 : s.length + t.length ≤ 8
    · have G := Lib.hid (gsumA_yes h1 h2 h8)
      have HSM := Lib.hid (gsum_small h1 h2 h8)
      have HGL : Hid (∀ ss f m, (∀ y, f y = ((grafts (Tr.txt s) (Tr.txt t)).count y : Int)) → KeysF f m ss → listF f (Tr.sortT ss) = gsumL s t) := fun ss f m hf hK => gsum_list h1 h2 h8 hf hK
      have HGT := Lib.hid (grafts_tx h1 h2 h8)
      have hx1 := Tr.tx_txt h1
      have hx2 : (Tr.txt t).length ≤ 16 := by omega
      have hx0 : (Tr.txt s).length ≤ 16 := by omega
      have hkey := keyTx (x := Tr.txt s) (by omega)
      have HX1 := Lib.hid hx1
      rw [hl, hl'] at h8
      have h8' : ¬ (8 : Int) < (n : Int) + (n' : Int) := by omega
      have HL := Lib.hid hl
      have HL' := Lib.hid hl'
      have hmm := @run_makeMap Try.prog
      obtain ⟨X, hX⟩ : ∃ X : ByteArray, X = ⟨(Tr.txt s).toArray⟩ := ⟨_, rfl⟩
      have HXX := Lib.hid hX
      rw [← hX] at hkey
      have HKEY := Lib.hid hkey
      clear hl hl' hb z1 z2 h1 h2 hX hx1 hkey
      go_enter Try.func17, Try.ntmps17
      go_wp2_with fail
      refine C0.mono ?_
      rintro e w1 ⟨rfl, d, rfl⟩
      have B1 : Hid (Below w.heap.size w ((w.alloc (.cells #[.slice A n c, .slice A' n' c'] 24)).drewN d)) := below_drewN hal d
      generalize (w.alloc (.cells #[.slice A n c, .slice A' n' c'] 24)).drewN d = W1 at *
      have hw1 : w.heap.size ≤ W1.heap.size := B1.out.size
      have BA : Below W1.heap.size W1 (W1.alloc (.map #[] 0)) := (Below.refl _ _).alloc (Nat.le_refl _) _
      have HOA : Hid ((W1.alloc (.map #[] 0)).ownsMap Try.prog 59 (plainElem Try.prog 2) W1.heap.size 0 (DataW.map [] : DataW Unit)) := World.ownsMap_made _ _ _ _
      have hsA : (W1.alloc (.map #[] 0)).heap.size = W1.heap.size + 1 := by simp
      have B2 : Hid (Below w.heap.size w (W1.alloc (.map #[] 0))) := B1.out.trans (BA.mono hw1)
      clear BA B1 C0
      go_wp2_with fail
      refine (treeOf_any A n c B s _ HL.out a1 a8 hc (by omega) (Row.below h B2.out hB)).mono ?_
      rintro e w2 ⟨rfl, bel2⟩
      have B3 : Hid (Below w.heap.size w w2) := B2.out.trans (bel2.mono B2.out.size)
      have HO2 : Hid (w2.ownsMap Try.prog 59 (plainElem Try.prog 2) W1.heap.size 0 (DataW.map [] : DataW Unit)) := ownsMap_below HOA.out bel2 (by omega)
      obtain ⟨b, hbb⟩ : ∃ b, b = W1.heap.size := ⟨_, rfl⟩
      rw [← hbb] at HO2 hw1 ⊢
      rw [← HXX.out]
      clear bel2 HOA hsA B2 hbb hmm
      have hins := HO2.out
      go_wp2_with (first
        | (refine wpList_insert_own _ rfl _ _ _ 69 rfl 59 2 keyed Try.underlying69 _ b 0 _ rfl hins (by unfold maxLen; omega) _ _ _ rfl rfl HKEY.out _ [] (plainElem_int Try.underlying2 (by decide)) ?_; intro w3 hown3 hgrow3)
        | fail)
      have HM3 : Hid (MapF w3 b 1 (oneF (Tr.txt s))) := ⟨_, hown3, holds_one⟩
      have B4 : Hid (Below w.heap.size w w3) := B3.out.grown hgrow3 B3.out.size (fun k e => by injection e with e; omega)
      clear hown3 hgrow3 hins HO2 B3
      go_wp2_with fail
      refine (treeOf_any A' n' c' B' t _ HL'.out b1 b8 hc' (Nat.le_trans hB' B4.out.size) (Row.below h' B4.out hB')).mono ?_
      rintro e w4 ⟨rfl, bel4⟩
      have HM4 := HM3.out.next bel4
      have B5 : Hid (Below w.heap.size w w4) := B4.out.trans (bel4.mono B4.out.size)
      have CG := graft_any b 1 (oneF (Tr.txt s)) (Tr.txt t) w4 HM4 (by omega) (fun x hx => by
        rw [oneF_val] at hx
        by_cases e : x = Tr.txt s
        · rw [e]; exact HX1.out
        · rw [if_neg e] at hx; exact absurd rfl hx) (fun x => by rw [oneF_val]; split <;> omega) hx2
      clear bel4 HM4 HM3 B4
      go_wp2_with fail
      refine CG.mono ?_
      rintro e w5 ⟨b2, m, ss, rfl, hK, hM5, hm, hb2, bel5⟩
      have B6 : Hid (Below w.heap.size w w5) := B5.out.trans (bel5.mono B5.out.size)
      have hss : ss.length ≤ 1 := hK.2.2
      rw [gsum_one hK] at hM5
      have CC := counted_any b2 m _ w5 hM5 (by omega) (fun y hy => by
        have h2 : 0 < (grafts (Tr.txt s) (Tr.txt t)).count y := by
          rw [cntF_all _ rfl] at hy; omega
        exact tx_brk (HGT.out y (List.count_pos_iff.1 h2)))
      clear CG bel5 B5 hM5 hK
      go_wp2_with fail
      refine CC.mono ?_
      rintro e w6 ⟨A6, c6, ss6, rfl, hK6, own6, bel6⟩
      have e6 := HGL.out ss6 _ _ (fun y => cntF_all _ rfl y) hK6
      rw [e6] at own6
      have hl6 : (gsumL s t).length = ss6.length := by rw [← e6]; unfold listF; rw [List.length_map, (sortT_perm ss6).length_eq]
      have GO : Hid (OwnD ShC w.heap.size w6.heap.size [.slice A6 ss6.length c6] (gsumL s t) w6) := own6.more B6.out.size (Nat.le_refl _)
      have GB : Hid (Below w.heap.size w w6) := B6.out.trans (bel6.mono B6.out.size)
      have HL6 := Lib.hid hl6
      clear own6 bel6 CC e6 hK6 hl6
      go_wp2
      go_ret2
      exact ResC.of G.out HL6.out HSM.out GO.out GB.out
    · have G := Lib.hid (gsumA_big h1 h2 h8)
      rw [hl, hl'] at h8
      have h8' : (8 : Int) < (n : Int) + (n' : Int) := by omega
      clear hl hl' hb z1 z2 h1 h2 h8
      go_enter Try.func17, Try.ntmps17
      go_wp2_with fail
      refine C0.mono ?_
      rintro e w1 ⟨rfl, d, rfl⟩
      go_wp2
      go_ret2
      exact ResC.nil G.out (below_drewN hal _)
  · have G : Hid (gsumA s t = ([], 1)) := if_neg hlv
    have e : (Tr.isLv s && Tr.isLv t) = false := by
      cases h1 : Tr.isLv s
      · rfl
      · cases h2 : Tr.isLv t
        · rfl
        · exact absurd ⟨h1, h2⟩ hlv
    rw [e] at C0
    clear hl hl' hb hlv e
    go_enter Try.func17, Try.ntmps17
    go_wp2_with fail
    refine C0.mono ?_
    rintro e w1 ⟨rfl, d, rfl⟩
    go_wp2
    go_ret2
    exact ResC.nil G.out (below_drewN hal _)
set_option maxHeartbeats 2000000 in
theorem sGraftSum_L (A A' : Option Addr) (n n' c c' B B' : Nat) (s t : List Int) (w : World) (hl : s.length = n) (hl' : t.length = n') (hn : n ≤ 1048576) (hn' : n' ≤ 1048576) (hB : B ≤ w.heap.size) (hB' : B' ≤ w.heap.size) (h : Row w B A (ints s)) (h' : Row w B' A' (ints t)) (hc : n ≤ c) (hc' : n' ≤ c') :
    Calls Try.prog 22 #[.slice A n c, .slice A' n' c'] w (ResCl (gsumA s t) w) := by
  have C0 := l03Is_any A n c B s w hl hn h
  cases h1 : Tr.isLv s
  · have G := Lib.hid (gsumA_no1 (v := t) h1)
    rw [h1] at C0
    clear hl hl' h1
    go_enter Try.func22, Try.ntmps22
    go_wp2_with fail
    refine C0.mono ?_
    rintro e w1 ⟨rfl, d, rfl⟩
    go_wp2
    go_ret2
    exact ResCl.nil G.out (below_drewN (Below.refl _ _) d)
  · rw [h1] at C0
    have C1 := fun d => l03Is_any A' n' c' B' t (w.drewN d) hl' hn' (h'.drewN d)
    cases h2 : Tr.isLv t
    · have G := Lib.hid (gsumA_no2 (u := s) h2)
      simp only [h2] at C1
      clear hl hl' h1 h2
      go_enter Try.func22, Try.ntmps22
      go_wp2_with fail
      refine C0.mono ?_
      rintro e w1 ⟨rfl, d, rfl⟩
      go_wp2_with fail
      refine (C1 _).mono ?_
      rintro e w1 ⟨rfl, d2, rfl⟩
      go_wp2
      go_ret2
      exact ResCl.nil G.out (below_drewN (Below.refl _ _) _)
    · simp only [h2] at C1
      obtain ⟨a1, a8⟩ := lv_bd h1
      obtain ⟨b1, b8⟩ := lv_bd h2
      rw [hl] at a1 a8
      rw [hl'] at b1 b8
      by_cases h8 : s.length + t.length ≤ 8
      · have G := Lib.hid (gsumA_yes h1 h2 h8)
        have HSM := Lib.hid (gsum_small h1 h2 h8)
        have HL := Lib.hid hl
        have HL' := Lib.hid hl'
        have H1 := Lib.hid h1
        have H2 := Lib.hid h2
        rw [hl, hl'] at h8
        have h8' : ¬ (8 : Int) < (n : Int) + (n' : Int) := by omega
        clear hl hl' h1 h2
        go_enter Try.func22, Try.ntmps22
        go_wp2_with fail
        refine C0.mono ?_
        rintro e w1 ⟨rfl, d, rfl⟩
        go_wp2_with fail
        refine (C1 _).mono ?_
        rintro e w1 ⟨rfl, d2, rfl⟩
        have B1 : Hid (Below w.heap.size w ((w.drewN d).drewN d2)) := below_drewN (below_drewN (Below.refl _ _) _) _
        generalize (w.drewN d).drewN d2 = W1 at *
        go_wp2_with fail
        refine (l04Sum_any A A' n n' c c' B B' s t W1 HL.out HL'.out H1.out H2.out h8 hc (Nat.le_trans hB B1.out.size) (Nat.le_trans hB' B1.out.size) (Row.below h B1.out hB) (Row.below h' B1.out hB')).mono ?_
        rintro e w3 ⟨A3, c3, rfl, hc3, hcm3, HS, bel3⟩
        have GH := Lib.hid (Sms.has HS hc3 hcm3)
        have GB : Hid (Below w.heap.size w w3) := B1.out.trans (bel3.mono B1.out.size)
        clear HS bel3
        go_wp2
        go_ret2
        exact ResCl.of G.out rfl HSM.out GH.out GB.out
      · have G := Lib.hid (gsumA_big h1 h2 h8)
        rw [hl, hl'] at h8
        have h8' : (8 : Int) < (n : Int) + (n' : Int) := by omega
        clear hl hl' h1 h2 h8
        go_enter Try.func22, Try.ntmps22
        go_wp2_with fail
        refine C0.mono ?_
        rintro e w1 ⟨rfl, d, rfl⟩
        go_wp2_with fail
        refine (C1 _).mono ?_
        rintro e w1 ⟨rfl, d2, rfl⟩
        go_wp2
        go_ret2
        exact ResCl.nil G.out (below_drewN (Below.refl _ _) _)
end Go.Proofs.Ytfehjjaebdgjlaa
/-
  Facts for a branch that is grafted back; what contracts give, taken out.
-/
namespace Go.Proofs.Ytfehjjaebdgjlaa
open Go.RowKit Fld
set_option linter.unusedVariables false
set_option linter.unusedSimpArgs false
set_option maxRecDepth 100000

theorem resP_out {a b : List Int} {k : Int} {r : List Int × List Int × Int} {w w' : World} {e : Ending} (h : ResP r w e w') (hr : r = (a, b, k)) : ∃ A c A' c', e = .returned (.tuple #[.slice A a.length c, .slice A' b.length c', .int .i64 k]) ∧ Lst w' A a ∧ Lst w' A' b ∧ a.length ≤ c ∧ b.length ≤ c' ∧ Below w.heap.size w w' := by
  subst hr
  obtain ⟨_, _, A, c, A', c', mid, rfl, h1, h2, o1, o2, hb⟩ := h
  exact ⟨A, c, A', c', rfl, o1.row.more h2, o2.row, (own_cap o1.1).1, (own_cap o2.1).1, hb⟩
theorem resPl_out {a b : List Int} {k : Int} {r : List Int × List Int × Int} {w w' : World} {e : Ending} (h : ResPl r w e w') (hr : r = (a, b, k)) : ∃ A c A' c', e = .returned (.tuple #[.slice A a.length c, .slice A' b.length c', .int .i64 k]) ∧ Below w.heap.size w w' := by
  subst hr
  obtain ⟨_, _, A, c, A', c', rfl, _, _, hb⟩ := h
  exact ⟨A, c, A', c', rfl, hb⟩
theorem resL_out {a : List Int} {k : Int} {r : List Int × Int} {w w' : World} {e : Ending} (h : ResL r w e w') (hr : r = (a, k)) : ∃ A c, e = .returned (.tuple #[.slice A a.length c, .int .i64 k]) ∧ Lst w' A a ∧ a.length ≤ c ∧ Below w.heap.size w w' := by
  subst hr
  obtain ⟨_, A, c, rfl, o1, hb⟩ := h
  exact ⟨A, c, rfl, row_of_own o1, (own_cap o1).1, hb⟩
theorem resC_out {S : List (List Int × Int)} {k : Int} {r : List (List Int × Int) × Int} {w w' : World} {e : Ending} (h : ResC r w e w') (hr : r = (S, k)) : ∃ A c, e = .returned (.tuple #[.slice A S.length c, .int .i64 k]) ∧ Has ShC [.slice A S.length c] S w'.heap.size w' ∧ Below w.heap.size w w' := by
  subst hr
  obtain ⟨_, A, c, rfl, o1, hb⟩ := h
  exact ⟨A, c, rfl, o1.has, hb⟩
theorem resI_out {x k : Int} {r : Int × Int} {w w' : World} {e : Ending} (h : ResI r w e w') (hr : r = (x, k)) : e = .returned (.tuple #[.int .i64 x, .int .i64 k]) ∧ Below w.heap.size w w' := by
  subst hr; exact h
theorem tms_pos {S : List (List Int × Int)} {t : List Int} (h : ∀ p ∈ S, 0 ≤ p.2 ∧ p.2 ≤ 1048576) {r : Nat} {x : Int} (hr : S[r]? = some (t, x)) (hx : 0 < x) : ∀ n, r < n → 0 < tmsTo S t n
  | 0, hn => by omega
  | n + 1, hn => by
    have hb := (tms_bd (t := t) h n).1
    by_cases e : r = n
    · subst e
      rw [tms_step hr, if_pos rfl]; omega
    · have ih := tms_pos h hr hx n (by omega)
      have e2 : 0 ≤ (S.getD n ([], 0)).2 := by
        rw [List.getD_eq_getElem?_getD]
        cases hn : S[n]? with
        | none => exact Int.le_refl _
        | some p => exact (h p (List.mem_of_getElem? hn)).1
      rw [tmsTo]
      split <;> omega
theorem cut_facts {t : List Int} {k : Nat} (h : Tr.isLv t = true) (h1 : 1 ≤ k) (hk : k < t.length) :
    ∃ T R : List Int, cutA t (k : Int) = (T, R, 0) ∧ T.length + R.length = t.length ∧ t.length ≤ 8 ∧ canA t = (Tr.can t, 0) ∧ (Tr.can t).length = t.length ∧
      gsumA T R = (gsumL T R, 0) ∧ (∀ p ∈ gsumL T R, (0 ≤ p.2 ∧ p.2 ≤ 1048576) ∧ p.1.length ≤ 1048576) ∧ (gsumL T R).length ≤ 1048576 ∧ 0 < tmsTo (gsumL T R) (Tr.can t) (gsumL T R).length ∧
      (∃ x : Int, 1 ≤ x ∧ cntA t T R = (x, 0)) ∧ (∃ f : Nat → List Int, (∀ j, j < T.length → graftAtA T (j : Int) R = (f j, 0) ∧ (f j).length ≤ 8) ∧ ∃ j, j < T.length ∧ f j = Tr.can t) := by
  obtain ⟨c1, c2⟩ := lv_can h
  obtain ⟨c3, c4⟩ := Tr.can_can h
  obtain ⟨a1, a8⟩ := lv_bd h
  obtain ⟨q1, q2, j, q3, q4⟩ := Tr.cut_back c1 c3 h1 (by rw [c2]; exact hk)
  obtain ⟨_, _, p3, p4⟩ := cut_parts h h1 hk
  obtain ⟨T, hT⟩ : ∃ T, T = Tr.can (Tr.trunkL (Tr.can t) k) := ⟨_, rfl⟩
  obtain ⟨R, hR⟩ : ∃ R, R = Tr.can (Tr.branchL (Tr.can t) k) := ⟨_, rfl⟩
  have hy := cutA_yes h h1 hk
  have lT : Tr.isLv T = true := by rw [hT]; exact (lv_can p3).1
  have lR : Tr.isLv R = true := by rw [hR]; exact (lv_can p4).1
  have cT : Tr.can T = T := by rw [hT]; exact (Tr.can_can p3).1
  rw [← hT] at q1 q2 q3 q4 hy
  rw [← hR] at q1 q2 q4 hy
  rw [c2] at q1 q2
  rw [c4] at q2
  have h8 : T.length + R.length ≤ 8 := by omega
  have hs := gsum_small lT lR h8
  have hp : ∀ p ∈ gsumL T R, (0 ≤ p.2 ∧ p.2 ≤ 1048576) ∧ p.1.length ≤ 1048576 := fun p hp => by
    have b1 := gsumTo_bd lT lR h8 (Nat.le_refl _) p hp
    have b2 := Tr.sumTo_pos _ _ p hp
    omega
  refine ⟨T, R, hy, q1, a8, canA_yes h, c2, gsumA_yes lT lR h8, hp, hs.1, ?_, ⟨_, ?_, cntA_yes h lT lR⟩, fun j => Tr.can (Tr.gl T j R), fun j hj => ⟨?_, ?_⟩, j, q3, q4⟩
  · obtain ⟨⟨u, x⟩, he, hu⟩ := Tr.sumTo_has (gAt T R) q3
    have hu' : u = Tr.can t := hu.trans q4
    subst hu'
    obtain ⟨r, hr⟩ := List.getElem?_of_mem he
    have hlt : r < (gsumL T R).length := (List.getElem?_eq_some_iff.1 hr).1
    exact tms_pos (fun p hp' => (hp p hp').1) hr (Tr.sumTo_pos _ _ _ he) _ hlt
  · omega
  · have := graftA_yes lT lR hj h8
    rw [cT] at this
    exact this
  · have := (gAt_lv lT lR h8 hj).2.2.1
    unfold gAt at this
    show (Tr.can (Tr.gl T j R)).length ≤ 8
    omega
end Go.Proofs.Ytfehjjaebdgjlaa
