/-
  What the reverse of a series is, the program's and the model's alike.
-/
import Derived.Test.YtjdanhjonjmccabArr6
import Derived.Test.YtjdanhjonjmccabSerV
import Derived.Test.YtjdanhjonjmccabSerTest
namespace Go.Proofs.Ytjdanhjonjmccab
open Go.RowKit Fld Ser
set_option linter.unusedVariables false
set_option linter.unusedSimpArgs false
set_option maxRecDepth 100000

theorem other_cell {w : World} {g k j : Nat} {v u : Value} (h : w.cell? ⟨g, j, none⟩ = some u) (hne : k ≠ j) : (w.setCell ⟨g, k, none⟩ v).cell? ⟨g, j, none⟩ = some u := by
  rw [World.cell?_setCell_other]
  · exact h
  · intro e
    injection e with _ e _
    exact hne e
/-- the reverse of a series with n coefficients -/
def rvS (n : Nat) (a : Nat → Int) : Nat → Int := lgr (ivS (n - 1) (fun k => a (k + 1)))
theorem lgr_cg {N : Nat} {q q' : Nat → Int} (h : Cg N q q') : Cg (N + 1) (lgr q) (lgr q') := fun k hk => by
  cases k with
  | zero => exact Eqm.refl _
  | succ m => exact (h.pwr (m + 1) m (by omega)).mul (Eqm.refl _)
def canRev (a : List Int) : Bool := decide (2 ≤ a.length) && (decide (co a 0 = 0) && decide (co a 1 ≠ 0))
def revSerA (a : List Int) : List Int × Int := if isSer a = true then (if canRev a = true then (cl a.length (rvS a.length (co a)), 0) else ([], 5)) else ([], 1)
theorem revSerA_no1 {a : List Int} (hs : isSer a = false) : revSerA a = ([], 1) := if_neg (by rw [hs]; simp)
theorem revSerA_no5 {a : List Int} (hs : isSer a = true) (h : ¬ (2 ≤ a.length ∧ co a 0 = 0 ∧ co a 1 ≠ 0)) : revSerA a = ([], 5) := (if_pos hs).trans (if_neg (fun g => h (by unfold canRev at g; simpa using g)))
theorem revSerA_yes {a : List Int} {n : Nat} (hs : isSer a = true) (hl : a.length = n) (h2 : 2 ≤ n) (h0 : co a 0 = 0) (h1 : co a 1 ≠ 0) : revSerA a = (cl n (rvS n (co a)), 0) := by
  subst hl; exact (if_pos hs).trans (if_pos (by unfold canRev; simp [h2, h0, h1]))
theorem rev_is {n : Nat} {a b : Nat → Int} (h2 : 2 ≤ n) (hn : n ≤ 64) (ha : a 0 = 0) (h0 : 0 < a 1) (h1 : a 1 < 10007) (hb : b 0 = 0) (h : Cg n (cmp a b) vr) : Cg n b (rvS n a) := by
  obtain ⟨N, rfl⟩ : ∃ N, n = N + 1 := ⟨n - 1, by omega⟩
  unfold rvS
  rw [Nat.add_sub_cancel]
  exact rev_lgr (by omega) (inv_mul (a 1) h0 h1) ha hb h (ivS_ok (b := fun k => a (k + 1)) (by omega) h0 h1)
theorem rev_same {n : Nat} {a q : Nat → Int} (h2 : 2 ≤ n) (hn : n ≤ 16) (h0 : 0 < a 1) (h1 : a 1 < 10007) (hq : Cg (n - 1) (cv q (fun k => a (k + 1))) one) : Cg n (lgr q) (rvS n a) := by
  obtain ⟨N, rfl⟩ : ∃ N, n = N + 1 := ⟨n - 1, by omega⟩
  rw [Nat.add_sub_cancel] at hq
  unfold rvS
  rw [Nat.add_sub_cancel]
  exact lgr_cg (quot_one (b := fun k => a (k + 1)) (inv_mul (a 1) h0 h1) (hq.trans (ivS_ok (b := fun k => a (k + 1)) (by omega) h0 h1).symm))
/-- a reverse as far as k coefficients, the others 0 -/
def RevTo (n k : Nat) (a L : List Int) (u : Int) : Prop :=
  L.length = n ∧ allNum L = true ∧ co L 0 = 0 ∧ co L 1 = u ∧ (∀ i, k ≤ i → co L i = 0) ∧ Cg k (cmp (co a) (co L)) vr
theorem co_set' {L : List Int} {k : Nat} (v : Int) (h : k < L.length) (i : Nat) : co (L.set k v) i = if i = k then v else co L i := by
  unfold co
  rw [List.getD_eq_getElem?_getD, List.getD_eq_getElem?_getD, List.getElem?_set]
  by_cases e : k = i
  · subst e; rw [if_pos rfl, if_pos h, if_pos rfl]; rfl
  · rw [if_neg e, if_neg (fun h => e h.symm)]
theorem allNum_set' {L : List Int} {k : Nat} {v : Int} (h : allNum L = true) (h0 : 0 ≤ v) (h1 : v < 10007) : allNum (L.set k v) = true := by
  rw [allNum_iff] at *
  intro x hx
  rcases List.mem_or_eq_of_mem_set hx with h2 | rfl
  · exact h x h2
  · exact ⟨h0, h1⟩
theorem RevTo.start {n : Nat} {a : List Int} {u : Int} (h2 : 2 ≤ n) (ha : co a 0 = 0) (u0 : 0 ≤ u) (u1 : u < 10007) (hu : Eqm (u * co a 1) 1) : RevTo n 2 a ((cl n (fun _ => 0)).set 1 u) u := by
  have hs := co_set' (L := cl n (fun _ => 0)) u (show 1 < _ by rw [cl_length]; omega)
  have hz : ∀ i, co (cl n (fun _ => 0)) i = 0 := fun i => by
    rcases Nat.lt_or_ge i n with g | g
    · rw [co_cl _ g]; rfl
    · exact co_out (by rw [cl_length]; exact g)
  have e0 : co ((cl n (fun _ => 0)).set 1 u) 0 = 0 := by rw [hs, if_neg (by omega), hz]
  refine ⟨by rw [List.length_set, cl_length], allNum_set' (cl_num _ _) u0 u1, e0, by rw [hs, if_pos rfl], fun i hi => by rw [hs, if_neg (by omega), hz], fun k hk => ?_⟩
  by_cases e : k = 0
  · subst e; rw [cmp_at0, ha]; exact Eqm.refl _
  · obtain rfl : k = 1 := by omega
    rw [cmp_two _ _ 1 (by omega)]
    have : sm (1 - 1) (fun n => co a (n + 2) * pwr (co ((cl n (fun _ => 0)).set 1 u)) (n + 2) 1) = 0 := rfl
    show Eqm (co a 1 * co ((cl n (fun _ => 0)).set 1 u) 1 + 0) 1
    rw [hs, if_pos rfl, Int.add_zero, Int.mul_comm]
    exact hu
theorem RevTo.step {n k : Nat} {a L : List Int} {u : Int} (h : RevTo n k a L u) (hk : 2 ≤ k) (hn : k < n) (hu : Eqm (u * co a 1) 1) : RevTo n (k + 1) a (L.set k (-(cmp (co a) (co L) k % 10007) % 10007 * u % 10007)) u := by
  obtain ⟨h1, h2, h3, h4, h5, h6⟩ := h
  have hs : ∀ i, co (L.set k (-(cmp (co a) (co L) k % 10007) % 10007 * u % 10007)) i = if i = k then -(cmp (co a) (co L) k % 10007) % 10007 * u % 10007 else co L i := co_set' _ (by omega)
  have e0 : co (L.set k (-(cmp (co a) (co L) k % 10007) % 10007 * u % 10007)) 0 = 0 := by rw [hs, if_neg (by omega), h3]
  refine ⟨by rw [List.length_set, h1], allNum_set' h2 (by omega) (by omega), e0, by rw [hs, if_neg (by omega), h4], fun i hi => by rw [hs, if_neg (by omega)]; exact h5 i (by omega), ?_⟩
  refine rev_step hk hu h3 e0 (h5 k (Nat.le_refl _)) h6 (fun i hi => ?_) ?_
  · rw [hs, if_neg (by omega)]; exact Eqm.refl _
  · rw [hs, if_pos rfl]
    refine (Eqm.mod _).trans (Eqm.mul ?_ (Eqm.refl _))
    exact (Eqm.mod _).trans (Eqm.neg (Eqm.mod _))
theorem cl_zero_ints_set {n : Nat} (u : Int) : (ints (cl n (fun _ => 0))).set 1 (.int .i64 u) = ints ((cl n (fun _ => 0)).set 1 u) := by unfold ints intsK; rw [List.map_set]
theorem ints_set (L : List Int) (k : Nat) (u : Int) : (ints L).set k (.int .i64 u) = ints (L.set k u) := by unfold ints intsK; rw [List.map_set]
set_option maxHeartbeats 2000000 in
theorem sReverseSeries_L (A : Option Addr) (n c B : Nat) (a : List Int) (w : World) (hl : a.length = n) (hn : n ≤ 1048576) (hB : B ≤ w.heap.size) (h : Row w B A (ints a)) :
    Calls Try.prog 32 #[.slice A n c] w (ResL (revSerA a) w) := by
  have HL := Lib.hid hl
  cases hs : isSer a
  · have H := Lib.hid (revSerA_no1 hs)
    clear hl
    go_enter Try.func32, Try.ntmps32
    go_wp2_with fail
    refine (l02Is_any _ _ _ B a _ HL.out (by omega) h).mono ?_
    rintro e w' ⟨rfl, rfl⟩
    rw [hs]
    go_wp2
    go_ret2
    exact ResL.nil H.out (Below.refl _ _)
  · obtain ⟨p1, p2, p4⟩ := isSer_iff.1 hs
    rw [hl] at p1 p2
    by_cases hlt : n < 2
    · have H := Lib.hid (revSerA_no5 hs (fun g => by omega))
      clear hl
      go_enter Try.func32, Try.ntmps32
      go_wp2_with fail
      refine (l02Is_any _ _ _ B a _ HL.out (by omega) h).mono ?_
      rintro e w' ⟨rfl, rfl⟩
      rw [hs]
      go_wp2
      go_ret2
      exact ResL.nil H.out (Below.refl _ _)
    · obtain ⟨z, hz⟩ := at_lt (show 0 < a.length by omega)
      obtain ⟨v, hv⟩ := at_lt (show 1 < a.length by omega)
      have ez := co_at hz
      have ev := co_at hv
      obtain ⟨v0, v1⟩ := num_at p4 hv
      obtain ⟨b0, o0, rfl, hb0, hc⟩ := h 0 _ (ints_at hz)
      obtain ⟨b1, o1, eA, _, hc1⟩ := h 1 _ (ints_at hv)
      injection eA with eA
      injection eA with eb eo _
      subst eb eo
      rw [Nat.add_zero] at hc
      by_cases hq : z = 0
      · by_cases hq1 : v = 0
        · have H := Lib.hid (revSerA_no5 hs (fun g => g.2.2 (by rw [ev]; exact hq1)))
          have t0 : (z != 0) = false := bne_f hq
          have t1 : (v == 0) = true := beq_t hq1
          clear hl hz hv ez ev hq hq1
          go_enter Try.func32, Try.ntmps32
          go_wp2_with fail
          refine (l02Is_any _ _ _ B a _ HL.out (by omega) h).mono ?_
          rintro e w' ⟨rfl, rfl⟩
          rw [hs]
          go_wp2
          go_ret2
          exact ResL.nil H.out (Below.refl _ _)
        · have e0 : co a 0 = 0 := by rw [ez]; exact hq
          have e1 : co a 1 ≠ 0 := by rw [ev]; exact hq1
          have H := Lib.hid (revSerA_yes hs hl (by omega) e0 e1)
          have t0 : (z != 0) = false := bne_f hq
          have t1 : (v == 0) = false := beq_f hq1
          have HE0 := Lib.hid e0
          have HEV := Lib.hid ev
          have hvp : 0 < v := by omega
          obtain ⟨u, hu⟩ : ∃ u, u = inv v := ⟨_, rfl⟩
          have HUU : Hid (Eqm (u * co a 1) 1) := by unfold Hid; rw [ev, hu]; exact inv_mul v hvp v1
          have u0 := inv_lo v
          have u1 := inv_hi v
          rw [← hu] at u0 u1
          have HU := Lib.hid hu
          have P4 := Lib.hid p4
          have HS := Lib.hid hs
          obtain ⟨i0, hi, hz0, hz1, hz2⟩ := info_parts info_i64
          have n1 : (1 : Int) < (n : Int) := by omega
          clear hl hz hv ez ev hq hq1 e0 e1 hu p4
          go_enter Try.func32, Try.ntmps32
          go_wp2_with fail
          refine (l02Is_any _ _ _ B a _ HL.out (by omega) h).mono ?_
          rintro e w' ⟨rfl, rfl⟩
          rw [hs]
          clear hs
          go_wp2_with (first | (go_at_call 83; refine (l01Inv_any _ _ v0 v1).mono ?_; rintro e w' ⟨rfl, rfl⟩; rw [← HU.out]) | (at_make; refine wpList_make_full _ rfl (.tmp 25) (.tmp 25) 24 rfl w.heap.size 2 i0 _ 1 Try.underlying24 hi hz0 hz1 .i64 .i64 _ _ n rfl rfl rfl rfl (by rw [hz2]; omega) (by simp only [maxLen]; omega) (Nat.le_refl _) ?_; intro w1 hown hg; have h1 := made_own hown; have hf := h1.frozenAt 1; have ho := h1.cellAt 1 (by omega); rw [cl_zero_get (show 1 < n by omega)] at ho; have h2 := Lib.hid (h1.stored 1 (.int .i64 u)).1; have hb := Lib.hid ((Below.refl w.heap.size w).grown hg (Nat.le_refl _) (fun k hk => by cases hk)); have hbb : w.heap.size < w1.heap.size := (h1.lt w.heap.size rfl).2; have hc1' := (hb.out.cell (p := ⟨b0, o0 + 1, none⟩) (by show b0 < w.heap.size; omega)).trans hc1; clear hown hg h1 hc1 hc))
          have J : Hid (∃ L : List Int, RevTo n 2 a L u ∧ (w1.setCell ⟨w.heap.size, 1, none⟩ (.int .i64 u)).ownsRow w.heap.size 2 1 (.slice (some ⟨w.heap.size, 0, none⟩) n n) n (ints L) ∧ Below w.heap.size w (w1.setCell ⟨w.heap.size, 1, none⟩ (.int .i64 u))) := by
            have h3 := h2.out
            rw [cl_zero_ints_set] at h3
            exact ⟨_, RevTo.start (by omega) HE0.out u0 u1 HUU.out, h3, below_set hb.out (Nat.le_refl _) _⟩
          clear h2 hb hf ho hc1' hbb
          go_loopw [5] (fun i wr => ∃ k : Nat, ∃ L : List Int, 2 ≤ k ∧ k ≤ n ∧ i = .int .i64 k ∧ RevTo n k a L u ∧ wr.ownsRow w.heap.size 2 1 (.slice (some ⟨w.heap.size, 0, none⟩) n n) n (ints L) ∧ Below w.heap.size w wr) (fun i _ => n - (intOf i).toNat)
          case atStart =>
            obtain ⟨L, q1, q2, q3⟩ := J.out
            exact ⟨2, L, by omega, by omega, rfl, q1, q2, q3⟩
          case round =>
            obtain ⟨k, L, hk2, hk, rfl, HRV, hown, hbel⟩ := hrel
            clear J
            by_cases hkn : k < n
            · have hrowL := row_of_own hown
              have hrowa := h.below hbel hB
              have hsz := hbel.size
              have hlt0 := hown.lt w.heap.size rfl
              have hg0 : w.heap.size < wr.heap.size := hlt0.2
              obtain ⟨l1, hl1⟩ := at_lt (show 1 < L.length by rw [HRV.1]; omega)
              have e1 : l1 = u := by rw [← HRV.2.2.2.1]; exact (co_at hl1).symm
              subst e1
              have hcu := hown.cellAt 1 (by omega)
              rw [ints_at hl1] at hcu
              have HK : Hid (∀ W' : World, Below wr.heap.size wr W' → W'.cell? ⟨w.heap.size, 1, none⟩ = some (.int .i64 l1)) := fun W' hb => (hb.cell (p := ⟨w.heap.size, 1, none⟩) hg0).trans hcu
              have HRV' := Lib.hid HRV
              have HOW := Lib.hid hown
              have HBL := Lib.hid hbel
              have m0 : 0 ≤ -(cmp (co a) (co L) k % 10007) % 10007 := by omega
              have m1 : -(cmp (co a) (co L) k % 10007) % 10007 < 10007 := by omega
              have c0 : 0 ≤ cmp (co a) (co L) k % 10007 := by omega
              have c1 : cmp (co a) (co L) k % 10007 < 10007 := by omega
              have HST := Lib.hid (HRV.step hk2 hkn HUU.out)
              obtain ⟨lk, hlk⟩ := at_lt (show k < L.length by rw [HRV.1]; exact hkn)
              have HLK := Lib.hid (ints_at hlk)
              have k0 : (0 : Int) ≤ (k : Int) := Int.natCast_nonneg _
              have k1 : (k : Int) < (n : Int) := by omega
              clear hl1 hown hbel HRV hlk
              go_wp2_with fail
              refine wp_region_held_drew (S := fun w' => w'.cell? ⟨w.heap.size, 1, none⟩ = some (.int .i64 l1) ∧ True) (by kernel_rfl) ⟨HK.out _ (below_drewN (Below.refl _ _) 1), trivial⟩ (fun hHeld => ?_)
              refine wpAnyH_take (i := 0) (v := ?_) rfl (by kernel_rfl) (by kernel_rfl) (by kernel_rfl) (fun _ _ _ h => h) (Or.inl ⟨by rfl, ?_⟩) hHeld ?_
              rotate_left
              · intro w hSw
                obtain ⟨hc1, hr1⟩ := hSw
                go_simp
                with_reducible rfl
              try simp only [Act.put, List.setIfInBounds_toArray, List.set_cons_zero, List.set_cons_succ]
              refine wpAnyH_take (i := 1) (v := ?_) rfl (by kernel_rfl) (by kernel_rfl) (by kernel_rfl) (fun _ _ _ h => h) (Or.inl ⟨by rfl, ?_⟩) hHeld ?_
              rotate_left
              · intro w hSw
                obtain ⟨hc1, hr1⟩ := hSw
                go_simp
                with_reducible rfl
              try simp only [Act.put, List.setIfInBounds_toArray, List.set_cons_zero, List.set_cons_succ]
              refine wpAnyH_take (i := 2) (v := ?_) rfl (by kernel_rfl) (by kernel_rfl) (by kernel_rfl) (fun _ _ _ h => h) (Or.inl ⟨by rfl, ?_⟩) hHeld ?_
              rotate_left
              · intro w hSw
                obtain ⟨hc1, hr1⟩ := hSw
                go_simp
                with_reducible rfl
              try simp only [Act.put, List.setIfInBounds_toArray, List.set_cons_zero, List.set_cons_succ]
              refine wpAnyH_take (i := 3) (v := ?_) rfl (by kernel_rfl) (by kernel_rfl) (by kernel_rfl) (fun _ _ _ h => h) (Or.inl ⟨by rfl, ?_⟩) hHeld ?_
              rotate_left
              · intro w hSw
                obtain ⟨hc1, hr1⟩ := hSw
                go_simp
                with_reducible rfl
              try simp only [Act.put, List.setIfInBounds_toArray, List.set_cons_zero, List.set_cons_succ]
              refine wpAnyH_take (i := 5) (v := ?_) rfl (by kernel_rfl) (by kernel_rfl) (by kernel_rfl) (fun _ _ _ h => h) (Or.inl ⟨by rfl, ?_⟩) hHeld ?_
              rotate_left
              · intro w hSw
                obtain ⟨hc1, hr1⟩ := hSw
                go_simp
                with_reducible rfl
              try simp only [Act.put, List.setIfInBounds_toArray, List.set_cons_zero, List.set_cons_succ]
              refine wpAnyH_take (i := 9) (v := ?_) rfl (by kernel_rfl) (by kernel_rfl) (by kernel_rfl) (fun _ _ _ h => h) (Or.inl ⟨by rfl, ?_⟩) hHeld ?_
              rotate_left
              · intro w hSw
                obtain ⟨hc1, hr1⟩ := hSw
                go_simp
                with_reducible rfl
              try simp only [Act.put, List.setIfInBounds_toArray, List.set_cons_zero, List.set_cons_succ]
              refine wpAnyH_take (i := 10) (v := ?_) rfl (by kernel_rfl) (by kernel_rfl) (by kernel_rfl) (fun _ _ _ h => h) (Or.inl ⟨by rfl, ?_⟩) hHeld ?_
              rotate_left
              · intro w hSw
                obtain ⟨hc1, hr1⟩ := hSw
                go_simp
                with_reducible rfl
              try simp only [Act.put, List.setIfInBounds_toArray, List.set_cons_zero, List.set_cons_succ]
              refine wpAnyH_take (i := 11) (v := ?_) rfl (by kernel_rfl) (by kernel_rfl) (by kernel_rfl) (fun _ _ _ h => h) (Or.inl ⟨by rfl, ?_⟩) hHeld ?_
              rotate_left
              · intro w hSw
                obtain ⟨hc1, hr1⟩ := hSw
                go_simp
                with_reducible rfl
              try simp only [Act.put, List.setIfInBounds_toArray, List.set_cons_zero, List.set_cons_succ]
              refine wpAnyH_ready (rs := [4]) (by kernel_rfl) (by simp) ?_
              refine AllReadyH.cons rfl (fun K hK => ?_) ?_
              · go_simp
                refine (l02Compose_any (some ⟨b0, o0, none⟩) (some ⟨w.heap.size, 0, none⟩) n c n B _ a L _ HL.out HRV'.out.1 (by omega) P4.out HRV'.out.2.1 HRV'.out.2.2.1 (by show B ≤ wr.heap.size; omega) (Nat.le_refl _) (by exact hrowa) (by exact hrowL)).mono ?_
                rintro e w5 ⟨A5, c5, rfl, own5, b5⟩
                have B5 : Below wr.heap.size wr w5 := ⟨b5.os, b5.tape, b5.output, b5.size, b5.block⟩
                obtain ⟨bq, oq, rfl, hbq, hcq⟩ := (row_of_own own5) k _ (ints_at (cl_at _ hkn))
                have O5 := Lib.hid (((OwnR.of HOW.out).below B5 (Nat.le_refl _)).1)
                have hf5 := O5.out.frozenAt k
                have ho5 := O5.out.cellAt k (by omega)
                rw [HLK.out] at ho5
                clear b5 own5
                go_wp2_with fail
                refine hK.out _ _ ⟨HK.out _ B5, trivial⟩ (fun hHeld => ?_)
                clear hK K
                try simp only [Act.put, List.setIfInBounds_toArray, List.set_cons_zero, List.set_cons_succ]
                refine wpAnyH_take (i := 6) (v := ?_) rfl (by kernel_rfl) (by kernel_rfl) (by kernel_rfl) (fun _ _ _ h => h) (Or.inl ⟨by rfl, ?_⟩) hHeld ?_
                rotate_left
                · intro w hSw
                  obtain ⟨hc1, hr1⟩ := hSw
                  go_simp
                  with_reducible rfl
                try simp only [Act.put, List.setIfInBounds_toArray, List.set_cons_zero, List.set_cons_succ]
                refine wpAnyH_ready (rs := [7]) (by kernel_rfl) (by simp) ?_
                refine AllReadyH.cons rfl (fun K hK => ?_) ?_
                · go_simp
                  refine hK.out _ _ hHeld (fun hHeld => ?_)
                  clear hK K
                  try simp only [Act.put, List.setIfInBounds_toArray, List.set_cons_zero, List.set_cons_succ]
                  refine wpAnyH_ready (rs := [8]) (by kernel_rfl) (by simp) ?_
                  refine AllReadyH.cons rfl (fun K hK => ?_) ?_
                  · go_simp
                    refine (l01Sub_any _ _ _ (by omega) (by omega) c0 c1).mono ?_
                    rintro e w2 ⟨rfl, rfl⟩
                    go_wp2_with fail
                    refine hK.out _ _ hHeld (fun hHeld => ?_)
                    clear hK K
                    try simp only [Act.put, List.setIfInBounds_toArray, List.set_cons_zero, List.set_cons_succ]
                    refine wpAnyH_ready (rs := [12]) (by kernel_rfl) (by simp) ?_
                    refine AllReadyH.cons rfl (fun K hK => ?_) ?_
                    · go_simp
                      refine (l01Mul_any _ _ _ m0 m1 u0 u1).mono ?_
                      rintro e w2 ⟨rfl, rfl⟩
                      go_wp2_with fail
                      refine hK.out _ _ hHeld (fun hHeld => ?_)
                      clear hK K
                      try simp only [Act.put, List.setIfInBounds_toArray, List.set_cons_zero, List.set_cons_succ]
                      refine wpAnyH_take (i := 13) (v := ?_) rfl (by kernel_rfl) (by kernel_rfl) (by kernel_rfl) (fun _ _ _ h => h) (Or.inl ⟨by rfl, ?_⟩) hHeld ?_
                      rotate_left
                      · intro w hSw
                        obtain ⟨hc1, hr1⟩ := hSw
                        go_simp
                        with_reducible rfl
                      try simp only [Act.put, List.setIfInBounds_toArray, List.set_cons_zero, List.set_cons_succ]
                      refine wpAnyH_ready (rs := [14]) (by kernel_rfl) (by simp) ?_
                      refine AllReadyH.cons rfl (fun K hK => ?_) ?_
                      · go_simp
                        refine hK.out _ _ ⟨other_cell (HK.out _ B5) (by omega), trivial⟩ (fun hHeld => ?_)
                        clear hK K
                        try simp only [Act.put, List.setIfInBounds_toArray, List.set_cons_zero, List.set_cons_succ]
                        refine wpAnyH_done (by kernel_rfl) ?_ _
                        have O6 := Lib.hid (O5.out.stored k (.int .i64 (-(cmp (co a) (co L) k % 10007) % 10007 * l1 % 10007))).1
                        have B6 := Lib.hid (below_set (HBL.out.trans (B5.mono hsz)) (g := w.heap.size) (k := k) (Nat.le_refl _) (.int .i64 (-(cmp (co a) (co L) k % 10007) % 10007 * l1 % 10007)))
                        clear B5 hf5 ho5 hcq
                        go_wp2
                        go_roundw
                        case rel => exact ⟨k + 1, _, by omega, by omega, by go_num, HST.out, by have := O6.out; rw [ints_set] at this; exact this, by exact B6.out⟩
                        case measure => simp [intOf]; omega
                      · exact AllReadyH.nil
                    · exact AllReadyH.nil
                  · exact AllReadyH.nil
                · exact AllReadyH.nil
              · exact AllReadyH.nil
            · obtain rfl : k = n := by omega
              have HF : Hid (cl k (co L) = cl k (rvS k (co a))) := cl_cg (rev_is (by omega) (by omega) HE0.out (by rw [HEV.out]; exact hvp) (by rw [HEV.out]; exact v1) HRV.2.2.1 HRV.2.2.2.2.2)
              have HLL := Lib.hid (cl_co HRV.1 HRV.2.1)
              have HOW := Lib.hid hown
              have HBL := Lib.hid hbel
              clear HRV hown hbel
              go_wp2
              go_ret2
              exact ResL.of H.out (cl_length _ _) (by omega) (by have := HOW.out; rw [← HLL.out, HF.out] at this; exact this) HBL.out
      · have H := Lib.hid (revSerA_no5 hs (fun g => hq (by rw [← ez]; exact g.2.1)))
        have t0 : (z != 0) = true := bne_t hq
        clear hl hz hv ez ev hq
        go_enter Try.func32, Try.ntmps32
        go_wp2_with fail
        refine (l02Is_any _ _ _ B a _ HL.out (by omega) h).mono ?_
        rintro e w' ⟨rfl, rfl⟩
        rw [hs]
        go_wp2
        go_ret2
        exact ResL.nil H.out (Below.refl _ _)
set_option maxHeartbeats 2000000 in
theorem pReverseSeries_L (A : Option Addr) (n c B : Nat) (a : List Int) (w : World) (hl : a.length = n) (hn : n ≤ 1048576) (hB : B ≤ w.heap.size) (h : Row w B A (ints a)) :
    Calls Try.prog 31 #[.slice A n c] w (ResL (revSerA a) w) := by
  have HL := Lib.hid hl
  have HM : Hid (Lists (w.alloc (.cells #[.slice A n c] 24)) w.heap.size (some ⟨w.heap.size, 0, none⟩) [a]) := Lists.one _ hl (Nat.le_refl _) (h.more hB)
  have HQQ : Hid (∀ r ∈ [a], r.length ≤ 1048576) := by intro r hr; simp at hr; subst hr; omega
  have HT := serM_one a
  cases hs : isSer a
  · have H := Lib.hid (revSerA_no1 hs)
    rw [hs] at HT
    have HT' := Lib.hid HT
    have B1 : Below w.heap.size w (w.alloc (.cells #[.slice A n c] 24)) := (Below.refl _ _).alloc (Nat.le_refl _) _
    clear HT hl
    go_enter Try.func31, Try.ntmps31
    go_wp2_with fail
    refine (areSeries_any _ 1 _ w.heap.size [a] _ rfl (by omega) HQQ.out (by exact HM.out)).mono ?_
    rintro e w' ⟨rfl, rfl⟩
    rw [HT'.out]
    go_wp2
    go_ret2
    exact ResL.nil H.out B1
  · obtain ⟨p1, p2, p4⟩ := isSer_iff.1 hs
    rw [hl] at p1 p2
    rw [hs] at HT
    have HT' := Lib.hid HT
    have HS := Lib.hid hs
    obtain ⟨z, hz⟩ := at_lt (show 0 < a.length by omega)
    have ez := co_at hz
    obtain ⟨b0, o0, rfl, hb0, hc⟩ := h 0 _ (ints_at hz)
    rw [Nat.add_zero] at hc
    have B1 : Below w.heap.size w (w.alloc (.cells #[.slice (some ⟨b0, o0, none⟩) n c] 24)) := (Below.refl _ _).alloc (Nat.le_refl _) _
    have hc2 : (w.alloc (.cells #[.slice (some ⟨b0, o0, none⟩) n c] 24)).cell? ⟨b0, o0, none⟩ = some (.int .i64 z) := (B1.cell (p := ⟨b0, o0, none⟩) (by show b0 < w.heap.size; omega)).trans hc
    by_cases hq : z = 0
    · have t0 : (z != 0) = false := bne_f hq
      by_cases hn1 : n = 1
      · have H := Lib.hid (revSerA_no5 hs (fun g => by omega))
        have t1 : ((n : Int) == 1) = true := beq_t (by omega)
        clear HT hl hs hz ez hq hn1 p4 hc
        go_enter Try.func31, Try.ntmps31
        go_wp2_with fail
        refine (areSeries_any _ 1 _ w.heap.size [a] _ rfl (by omega) HQQ.out (by exact HM.out)).mono ?_
        rintro e w' ⟨rfl, rfl⟩
        rw [HT'.out]
        go_wp2
        go_ret2
        exact ResL.nil H.out B1
      · have t1 : ((n : Int) == 1) = false := beq_f (by omega)
        obtain ⟨v, hv⟩ := at_lt (show 1 < a.length by omega)
        have ev := co_at hv
        obtain ⟨v0, v1⟩ := num_at p4 hv
        obtain ⟨b1, o1, eA, _, hc1⟩ := h 1 _ (ints_at hv)
        injection eA with eA
        injection eA with eb eo _
        subst eb eo
        have hc3 : (w.alloc (.cells #[.slice (some ⟨b0, o0, none⟩) n c] 24)).cell? ⟨b0, o0 + 1, none⟩ = some (.int .i64 v) := (B1.cell (p := ⟨b0, o0 + 1, none⟩) (by show b0 < w.heap.size; omega)).trans hc1
        have n2 : 2 ≤ n := by omega
        have n1 : (1 : Int) < (n : Int) := by omega
        by_cases hq1 : v = 0
        · have H := Lib.hid (revSerA_no5 hs (fun g => g.2.2 (by rw [ev]; exact hq1)))
          have t2 : (v == 0) = true := beq_t hq1
          clear HT hl hs hz ez hq hn1 p4 hc hc1 hv ev hq1
          go_enter Try.func31, Try.ntmps31
          go_wp2_with fail
          refine (areSeries_any _ 1 _ w.heap.size [a] _ rfl (by omega) HQQ.out (by exact HM.out)).mono ?_
          rintro e w' ⟨rfl, rfl⟩
          rw [HT'.out]
          go_wp2
          go_ret2
          exact ResL.nil H.out B1
        · have e0 : co a 0 = 0 := by rw [ez]; exact hq
          have e1 : co a 1 ≠ 0 := by rw [ev]; exact hq1
          have H := Lib.hid (revSerA_yes hs hl n2 e0 e1)
          have t2 : (v == 0) = false := beq_f hq1
          have HEV := Lib.hid ev
          have hvp : 0 < v := by omega
          have P4 := Lib.hid p4
          have HZZ : Hid (co (cl 16 (co a)) 1 ≠ 0) := by unfold Hid; rw [co_cl _ (by omega), ev, Int.emod_eq_of_lt v0 v1]; exact hq1
          clear HT hl hs hz ez hq hn1 p4 hc hc1 hv ev hq1 e0 e1
          go_enter Try.func31, Try.ntmps31
          go_wp2_with fail
          refine (areSeries_any _ 1 _ w.heap.size [a] _ rfl (by omega) HQQ.out (by exact HM.out)).mono ?_
          rintro e w' ⟨rfl, rfl⟩
          rw [HT'.out]
          go_wp2_with fail
          refine (seriesOf_any _ n _ B a _ HL.out p2 P4.out (Nat.le_trans hB B1.size) (by exact h.below B1 hB)).mono ?_
          rintro e w2 ⟨rfl, b2⟩
          have B2 := B1.trans (b2.mono B1.size)
          clear b2
          go_wp2_with fail
          refine (reverseS_any (cl 16 (co a)) _ (cl_length _ _) (cl_num _ _) HZZ.out).mono ?_
          rintro e w3 ⟨q, hqq, rfl, b3⟩
          have B3 := B2.trans (b3.mono B2.size)
          have HE : Hid (cl n (lgr q) = cl n (rvS n (co a))) := by
            refine cl_cg (rev_same n2 p2 (by rw [HEV.out]; exact hvp) (by rw [HEV.out]; exact v1) ?_)
            refine (Cg.cv (Cg.refl _ _) ?_).trans (hqq.less (by omega))
            exact fun k hk => ((co_cg 16 (co a)) (k + 1) (by omega)).symm
          clear b3 hqq
          go_wp2_with fail
          refine (listS_any (lgr q) n _ p2).mono ?_
          rintro e w4 hN
          rw [HE.out] at hN
          have N := Lib.hid (NewRow.after B3 hN)
          obtain ⟨A5, c5, rfl, _, _⟩ := hN
          go_wp2
          go_ret2
          obtain ⟨A6, c6, e6, own6, b6⟩ := N.out
          cases e6
          exact ResL.of H.out (cl_length _ _) (by omega) own6 b6
    · have H := Lib.hid (revSerA_no5 hs (fun g => hq (by rw [← ez]; exact g.2.1)))
      have t0 : (z != 0) = true := bne_t hq
      clear HT hl hs hz ez hq p4 hc
      go_enter Try.func31, Try.ntmps31
      go_wp2_with fail
      refine (areSeries_any _ 1 _ w.heap.size [a] _ rfl (by omega) HQQ.out (by exact HM.out)).mono ?_
      rintro e w' ⟨rfl, rfl⟩
      rw [HT'.out]
      go_wp2
      go_ret2
      exact ResL.nil H.out B1
end Go.Proofs.Ytjdanhjonjmccab
