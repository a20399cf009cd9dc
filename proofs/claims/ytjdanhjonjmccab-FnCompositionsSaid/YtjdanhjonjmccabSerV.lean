/-
  The model's operations on lists of numbers: inverses and logarithms.
-/
import Derived.Test.YtjdanhjonjmccabSerU
import Derived.Test.YtjdanhjonjmccabOwn1
namespace Go.Proofs.Ytjdanhjonjmccab
open Go.RowKit Fld Ser
set_option linter.unusedVariables false
set_option linter.unusedSimpArgs false
set_option maxRecDepth 100000

/-- what the inverse of a series is summed from, and the inverse -/
def ivR (n : Nat) (b : Nat → Int) : Nat → Int := co (cl n (ad one (sc (-(inv (b 0))) b)))
def ivS (n : Nat) (b : Nat → Int) : Nat → Int := sc (inv (b 0)) (gs (ivR n b) n)
theorem ivR_zero {n : Nat} {b : Nat → Int} (hn : 0 < n) (h0 : 0 < b 0) (h1 : b 0 < 10007) : ivR n b 0 = 0 := by
  unfold ivR
  rw [co_cl _ hn]
  have h := inv_mul (b 0) h0 h1
  show (one 0 + -(inv (b 0)) * b 0) % 10007 = 0
  have e : one 0 = 1 := rfl
  rw [e, Int.neg_mul]
  unfold Eqm at h
  generalize inv (b 0) * b 0 = y at *
  omega
theorem ivS_ok {n : Nat} {b : Nat → Int} (hn : 0 < n) (h0 : 0 < b 0) (h1 : b 0 < 10007) : Cg n (cv (ivS n b) b) one := iv_ok (ivR_zero hn h0 h1) (co_cg n _)
theorem ivR_list {n : Nat} (b : List Int) (u : Int) : cl n (ad (co (cl n (dl 0))) (co (cl n (sc (-u % 10007) (co b))))) = cl n (ad one (sc (-u) (co b))) := by
  refine cl_cg (Cg.ad ((co_cg n _).trans (Cg.of_eq rfl)) ((co_cg n _).trans (Cg.sc ?_ (Cg.refl _ _))))
  exact Eqm.mod _
theorem gs_step {n : Nat} (r : Nat → Int) (k : Nat) : cl n (ad (co (cl n (gs r k))) (co (cl n (pwr r k)))) = cl n (gs r (k + 1)) := cl_cg ((co_cg n _).ad (co_cg n _))
theorem pwr_step {n : Nat} (R : List Int) (k : Nat) : cl n (cv (co (cl n (pwr (co R) k))) (co R)) = cl n (pwr (co R) (k + 1)) := cl_cg ((co_cg n _).cv (Cg.refl _ _))
set_option maxHeartbeats 1000000 in
theorem l02Inverse_any (A : Option Addr) (n c B : Nat) (xs : List Int) (w : World) (hl : xs.length = n) (h1n : 1 ≤ n) (hn : n ≤ 64) (ha : allNum xs = true) (h0 : co xs 0 ≠ 0) (hB : B ≤ w.heap.size) (h : Row w B A (ints xs)) :
    Calls Try.prog 67 #[.slice A n c] w (NewRow 2 n (ints (cl n (ivS n (co xs)))) w) := by
  have hn' : n ≤ 1048576 := by omega
  obtain ⟨z, hz⟩ := at_lt (show 0 < xs.length by omega)
  have ez := co_at hz
  obtain ⟨z0, z1⟩ := num_at ha hz
  obtain ⟨b, o, rfl, hbb, hc⟩ := h 0 _ (ints_at hz)
  rw [Nat.add_zero] at hc
  have u0 := inv_lo z
  have u1 := inv_hi z
  obtain ⟨u, hu⟩ : ∃ u, u = inv z := ⟨_, rfl⟩
  have HRL := Lib.hid (ivR_list (n := n) xs u)
  have HR : Hid (ivR n (co xs) = co (cl n (ad one (sc (-u) (co xs))))) := by unfold Hid ivR; rw [ez, hu]
  have HS : Hid (ivS n (co xs) = sc u (gs (co (cl n (ad one (sc (-u) (co xs))))) n)) := by unfold Hid ivS; rw [HR.out, ez, hu]
  rw [← hu] at u0 u1
  have HU := Lib.hid hu
  have HL := Lib.hid hl
  have HA := Lib.hid ha
  have m0 : 0 ≤ -u % 10007 := by omega
  have m1 : -u % 10007 < 10007 := by omega
  clear hl ha h0 hz ez hu
  have hmk := run_zeros n hn'
  have n0 : (0 : Int) < (n : Int) := by omega
  go_enter Try.func67, Try.ntmps67
  go_wp2_with (go_at_call 83; refine (l01Inv_any _ _ z0 z1).mono ?_; rintro e w' ⟨rfl, rfl⟩; rw [← HU.out])
  refine (l02Unit_any n 0 _ hn' (by omega)).mono ?_
  rintro e w1 ⟨A1, c1, rfl, o1, b1⟩
  have r1 := row_of_own o1
  have hrow := h.below b1 hB
  have B1 := Lib.hid b1
  have hs1 := b1.size
  clear o1 b1 hc h
  go_wp2_with (go_at_call 85; refine (l01Sub_any _ _ _ (by omega) (by omega) u0 u1).mono ?_; rintro e w' ⟨rfl, rfl⟩)
  refine (l02Times_any _ n c B xs (-u % 10007) _ HL.out hn' HA.out m0 m1 (by omega) hrow).mono ?_
  rintro e w2 ⟨A2, c2, rfl, o2, b2⟩
  have r2 := row_of_own o2
  have r1' := r1.below b2 (Nat.le_refl _)
  have B2 := Lib.hid (B1.out.trans (b2.mono hs1))
  have hs2 := b2.size
  clear o2 b2 r1 hrow B1
  go_wp2_with fail
  refine (l02Add_any A1 A2 n c1 c2 _ _ (cl n (dl 0)) (cl n (sc (-u % 10007) (co xs))) _ (cl_length _ _) (cl_length _ _) hn' (cl_num _ _) (cl_num _ _) hs2 (Nat.le_refl _) r1' r2).mono ?_
  rintro e w3 ⟨A3, c3, rfl, o3, b3⟩
  rw [HRL.out] at o3
  have r3 := row_of_own o3
  have B3 := Lib.hid (B2.out.trans (b3.mono B2.out.size))
  have hs3 := B3.out.size
  clear o3 b3 r1' r2 B2
  obtain ⟨R, hR⟩ : ∃ R, R = cl n (ad one (sc (-u) (co xs))) := ⟨_, rfl⟩
  have HRlen : Hid (R.length = n) := by unfold Hid; rw [hR, cl_length]
  have HRnum : Hid (allNum R = true) := by unfold Hid; rw [hR]; exact cl_num _ _
  rw [← hR] at HS r3
  clear hR HR HRL
  go_upto_region 4 with fail
  go_cut [5, 6] (fun p s wx => TwoOwn w n (dl 0) (fun _ => 0) p s wx ∧ Row wx w3.heap.size A3 (ints R) ∧ w3.heap.size ≤ wx.heap.size)
  case first =>
    go_region_held3 (fun w' => True) (first | trivial)
      (first
        | (go_at_call 117; refine (l02Unit_any n 0 _ hn' (by omega)).mono ?_; rintro e w1 ⟨A1, c1, rfl, own1, bel1⟩))
    all_goals (go_wp2_with fail; go_meet; first | exact ⟨two_first hn' B3.out own1 (show Below w3.heap.size w3 w1 from ⟨bel1.os, bel1.tape, bel1.output, bel1.size, bel1.block⟩), (r3.below (show Below w3.heap.size w3 w1 from ⟨bel1.os, bel1.tape, bel1.output, bel1.size, bel1.block⟩) (Nat.le_refl _)).alloc (show w3.heap.size ≤ w1.heap.size from bel1.size) _, by have h1 : w3.heap.size ≤ w1.heap.size := bel1.size; simp; omega⟩ | exact ⟨two_last hn' B3.out own1 (show Below (w3.alloc (.cells (zcells n) 2)).heap.size (w3.alloc (.cells (zcells n) 2)) w1 from ⟨bel1.os, bel1.tape, bel1.output, bel1.size, bel1.block⟩), (r3.alloc (Nat.le_refl _) (.cells (zcells n) 2)).below (show Below (w3.alloc (.cells (zcells n) 2)).heap.size (w3.alloc (.cells (zcells n) 2)) w1 from ⟨bel1.os, bel1.tape, bel1.output, bel1.size, bel1.block⟩) (by simp), by have h1 : (w3.alloc (.cells (zcells n) 2)).heap.size ≤ w1.heap.size := bel1.size; simp at h1; omega⟩)
  case rest =>
    have HT := Lib.hid hcut
    clear hcut hmk
    go_wp2_with fail
    go_loopw [5, 6, 7] (fun p s i wr => ∃ k : Nat, k ≤ n ∧ i = .int .i64 k ∧ TwoOwn w n (pwr (co R) k) (gs (co R) k) p s wr ∧ Row wr w3.heap.size A3 (ints R) ∧ w3.heap.size ≤ wr.heap.size) (fun _ _ i _ => n - (intOf i).toNat)
    case atStart => exact ⟨0, by omega, rfl, HT.out⟩
    case round =>
      obtain ⟨k, hk, rfl, ⟨A1, c1, A2, c2, rfl, rfl, o1, o2, hbel⟩, hrow, hw3⟩ := hrel
      have r1 := row_of_own o1
      have r2 := row_of_own o2
      have hsz := hbel.size
      have O2 := Lib.hid o2
      have HB2 := Lib.hid hbel
      by_cases hlt : k < n
      · have HC := Lib.hid (gs_step (n := n) (co R) k)
        have HP := Lib.hid (pwr_step (n := n) R k)
        clear o1 o2 hbel HT r3
        go_wp2_with fail
        refine (l02Add_any A2 A1 n c2 c1 _ _ (cl n (gs (co R) k)) (cl n (pwr (co R) k)) _ (cl_length _ _) (cl_length _ _) hn' (cl_num _ _) (cl_num _ _) (Nat.le_refl _) (Nat.le_refl _) r2 r1).mono ?_
        rintro e w4 ⟨A4, c4, rfl, o4, b4⟩
        rw [HC.out] at o4
        have r1' := r1.below b4 (Nat.le_refl _)
        have hrow' := hrow.below b4 hw3
        have s4 := b4.size
        have O4 := Lib.hid o4
        have HB4 := Lib.hid (HB2.out.trans (b4.mono HB2.out.size))
        clear o4 b4 r1 r2 hrow
        go_wp2_with fail
        refine (l02Mul_any A1 A3 n c1 c3 _ _ (cl n (pwr (co R) k)) R _ (cl_length _ _) HRlen.out hn' (cl_num _ _) HRnum.out s4 (by omega) r1' hrow').mono ?_
        rintro e w5 ⟨A5, c5, rfl, o5, b5⟩
        rw [HP.out] at o5
        have HT5 : Hid (TwoOwn w n (pwr (co R) (k + 1)) (gs (co R) (k + 1)) (.slice A5 n c5) (.slice A4 n c4) w5) :=
          ⟨A5, c5, A4, c4, rfl, rfl, ((OwnR.of o5).more HB4.out.size (Nat.le_refl _)).1, (((OwnR.of O4.out).more HB2.out.size (Nat.le_refl _)).below b5 (Nat.le_refl _)).1, HB4.out.trans (b5.mono HB4.out.size)⟩
        have hrow5 := Lib.hid (hrow'.below b5 (by omega))
        have s5 := b5.size
        clear o5 b5 r1' hrow'
        go_wp2
        go_roundw
        case rel => exact ⟨k + 1, by omega, by go_num, HT5.out, hrow5.out, by omega⟩
        case measure => simp [intOf]; omega
      · obtain rfl : k = n := by omega
        have HE : Hid (cl k (sc u (co (cl k (gs (co R) k)))) = cl k (ivS k (co xs))) := by unfold Hid; rw [HS.out]; exact cl_cg (Cg.sc (Eqm.refl _) (co_cg k _))
        clear o1 o2 hbel HT r1 hrow r3
        go_wp2_with fail
        refine (l02Times_any A2 k c2 _ (cl k (gs (co R) k)) u _ (cl_length _ _) hn' (cl_num _ _) u0 u1 (Nat.le_refl _) r2).mono ?_
        rintro e w6 hN
        rw [HE.out] at hN
        have N := Lib.hid (NewRow.after HB2.out hN)
        obtain ⟨A6, c6, rfl, _, _⟩ := hN
        go_wp2
        go_ret
        exact N.out
/-- what the logarithm of a series is summed from, and the logarithm -/
def lgR (n : Nat) (a : Nat → Int) : Nat → Int := co (cl n (ad one (sc (-1) a)))
def lgS (n : Nat) (a : Nat → Int) : Nat → Int := lg (lgR n a) (n - 1)
theorem lgR_zero {n : Nat} {a : Nat → Int} (hn : 0 < n) (h : a 0 = 1) : lgR n a 0 = 0 := by
  unfold lgR
  rw [co_cl _ hn]
  show (one 0 + -1 * a 0) % 10007 = 0
  rw [h]; rfl
theorem lgS_ok {n : Nat} {a : Nat → Int} (hn : 0 < n) (hn2 : n ≤ 64) (h : a 0 = 1) : IsLog (n - 1) (lgS n a) a := by
  refine isLog_lg' (by omega) (lgR_zero hn h) ?_
  rw [show n - 1 + 1 = n from by omega]
  exact co_cg n _
theorem lgS_zero {n : Nat} {a : Nat → Int} (hn : 0 < n) (h : a 0 = 1) : lgS n a 0 = 0 := by
  unfold lgS
  have : ∀ m, lg (lgR n a) m 0 = 0 := fun m => by
    induction m with
    | zero => rfl
    | succ m ih =>
      show lg (lgR n a) m 0 + -(inv ((m : Int) + 1)) * pwr (lgR n a) (m + 1) 0 = 0
      rw [ih, pwr_low (lgR_zero hn h) (m + 1) 0 (by omega), Int.mul_zero]; rfl
  exact this _
end Go.Proofs.Ytjdanhjonjmccab
