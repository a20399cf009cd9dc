/-
  What a scaled series answers, the program's and the model's alike.
-/
import Derived.Test.YtjdanhjonjmccabArr5
import Derived.Test.YtjdanhjonjmccabArr6
import Derived.Test.YtjdanhjonjmccabSerV
import Derived.Test.YtjdanhjonjmccabSerTest
namespace Go.Proofs.Ytjdanhjonjmccab
open Go.RowKit Fld Ser
set_option linter.unusedVariables false
set_option linter.unusedSimpArgs false
set_option maxRecDepth 100000

/-- the coefficients, each times a power of y -/
def scl (y : Int) (f : Nat → Int) : Nat → Int := fun j => f j * pw y j
theorem pw_step (y : Int) (k : Nat) : pw y (k + 1) = pw y k * y % 10007 := by
  unfold pw
  rw [Int.pow_succ]
  exact (Eqm.mod (y ^ k)).symm.mul (Eqm.refl y)
theorem pw_zero (y : Int) : pw y 0 = 1 := by unfold pw; rw [Int.pow_zero]; rfl
def scaleSerA (a : List Int) (y : Int) : List Int × Int := if isSer a = true then (if isNum y = true then (cl a.length (scl y (co a)), 0) else ([], 2)) else ([], 1)
theorem scaleSerA_no1 {a : List Int} {y : Int} (hs : isSer a = false) : scaleSerA a y = ([], 1) := if_neg (by rw [hs]; simp)
theorem scaleSerA_no2 {a : List Int} {y : Int} (hs : isSer a = true) (hy : isNum y = false) : scaleSerA a y = ([], 2) := (if_pos hs).trans (if_neg (by rw [hy]; simp))
theorem scaleSerA_yes {a : List Int} {y : Int} {n : Nat} (hs : isSer a = true) (hy : isNum y = true) (hl : a.length = n) : scaleSerA a y = (cl n (scl y (co a)), 0) := by subst hl; exact (if_pos hs).trans (if_pos hy)
set_option maxHeartbeats 2000000 in
theorem pScaleSeries_L (A : Option Addr) (n c B : Nat) (a : List Int) (y : Int) (w : World) (hl : a.length = n) (hn : n ≤ 1048576) (hB : B ≤ w.heap.size) (h : Row w B A (ints a)) (hy : -9223372036854775808 ≤ y ∧ y ≤ 9223372036854775807) :
    Calls Try.prog 36 #[.slice A n c, .int .i64 y] w (ResL (scaleSerA a y) w) := by
  have HM : Hid (Lists (w.alloc (.cells #[.slice A n c] 24)) w.heap.size (some ⟨w.heap.size, 0, none⟩) [a]) := Lists.one _ hl (Nat.le_refl _) (h.more hB)
  have HQQ : Hid (∀ r ∈ [a], r.length ≤ 1048576) := by intro r hr; simp at hr; subst hr; omega
  have HT := serM_one a
  cases hs : isSer a
  · have H := Lib.hid (scaleSerA_no1 (y := y) hs)
    rw [hs] at HT
    have HT' := Lib.hid HT
    clear HT hl
    go_enter Try.func36, Try.ntmps36
    go_wp2_with fail
    refine (areSeries_any _ 1 _ w.heap.size [a] _ rfl (by omega) HQQ.out (by exact HM.out)).mono ?_
    rintro e w' ⟨rfl, rfl⟩
    rw [HT'.out]
    go_wp2
    go_ret2
    exact ResL.nil H.out ((Below.refl _ _).alloc (Nat.le_refl _) _)
  · obtain ⟨p1, p2, p4⟩ := isSer_iff.1 hs
    rw [hl] at p1 p2
    rw [hs] at HT
    have HT' := Lib.hid HT
    cases hy2 : isNum y
    · have H := Lib.hid (scaleSerA_no2 hs hy2)
      have HL := Lib.hid hl
      have P4 := Lib.hid p4
      clear HT hl p4
      go_enter Try.func36, Try.ntmps36
      go_wp2_with fail
      refine (areSeries_any _ 1 _ w.heap.size [a] _ rfl (by omega) HQQ.out (by exact HM.out)).mono ?_
      rintro e w' ⟨rfl, rfl⟩
      rw [HT'.out]
      go_wp2_with fail
      refine (isNumber_any _ _).mono ?_
      rintro e w' ⟨rfl, rfl⟩
      rw [hy2]
      go_wp2
      go_ret2
      exact ResL.nil H.out ((Below.refl _ _).alloc (Nat.le_refl _) _)
    · obtain ⟨y0, y1⟩ := isNum_iff.1 hy2
      have H := Lib.hid (scaleSerA_yes hs hy2 hl)
      have HL := Lib.hid hl
      have P4 := Lib.hid p4
      clear HT hl p4
      have B1 : Below w.heap.size w (w.alloc (.cells #[.slice A n c] 24)) := (Below.refl _ _).alloc (Nat.le_refl _) _
      go_enter Try.func36, Try.ntmps36
      go_wp2_with fail
      refine (areSeries_any _ 1 _ w.heap.size [a] _ rfl (by omega) HQQ.out (by exact HM.out)).mono ?_
      rintro e w' ⟨rfl, rfl⟩
      rw [HT'.out]
      go_wp2_with fail
      refine (isNumber_any _ _).mono ?_
      rintro e w' ⟨rfl, rfl⟩
      rw [hy2]
      go_wp2_with fail
      refine (seriesOf_any _ n _ B a _ HL.out p2 P4.out (Nat.le_trans hB B1.size) (by exact h.below B1 hB)).mono ?_
      rintro e w2 ⟨rfl, b2⟩
      have B2 := B1.trans (b2.mono B1.size)
      clear b2
      have F0 := Lib.hid (ArrAt.new w2 zero16)
      go_wp2_with (refine wpList_store_row rfl 65 (.tmp 6) (.tmp 17) rfl w2.heap.size (arr (cl 16 (co a))) rfl rfl 65 (arr zero16) F0.out (by rw [arr_size (cl_length _ _)]; exact info_arr) (by rw [arr_size (cl_length _ _)]; rfl) (arr_cells _) ?_)
      have J : Hid (ArrAt ((w2.alloc (.cells (arr zero16) 65)).setRow w2.heap.size (arr (cl 16 (co a)))) w2.heap.size ((cl 16 (scl y (co (cl 16 (co a))))).take 0 ++ (cl 16 (co a)).drop 0) ∧ Below w.heap.size w ((w2.alloc (.cells (arr zero16) 65)).setRow w2.heap.size (arr (cl 16 (co a))))) := ⟨F0.out.put _, below_setRow (B2.alloc B2.size _) B2.size _⟩
      clear F0
      have hw2 := B2.size
      go_loopw [7, 18] (fun q i wr => ∃ k : Nat, k ≤ 16 ∧ q = .int .i64 (pw y k) ∧ i = .int .i64 k ∧ ArrAt wr w2.heap.size ((cl 16 (scl y (co (cl 16 (co a))))).take k ++ (cl 16 (co a)).drop k) ∧ Below w.heap.size w wr) (fun _ i _ => 16 - (intOf i).toNat)
      case atStart => exact ⟨0, by omega, by rw [pw_zero], rfl, J.out⟩
      case round =>
        obtain ⟨k, hk, rfl, rfl, H0, HB⟩ := hrel
        by_cases hlt : k < 16
        · obtain ⟨x, hx⟩ := at_lt (show k < (cl 16 (co a)).length by rw [cl_length]; exact hlt)
          obtain ⟨x0, x1⟩ := num_at (cl_num _ _) hx
          have v0 := pw_lo y k
          have v1 := pw_hi y k
          have HPS := Lib.hid (pw_step y k)
          have hc := H0.cell (mix_at (us := cl 16 (scl y (co (cl 16 (co a))))) (by rw [cl_length, cl_length]) hx)
          have hf := H0.free k
          have k0 : (0 : Int) ≤ (k : Int) := Int.natCast_nonneg _
          have k1 : (k : Int) < 16 := by omega
          have HE : Hid ((cl 16 (scl y (co (cl 16 (co a)))))[k]? = some (x * pw y k % 10007)) := by
            unfold Hid
            rw [cl_at _ hlt]
            show some ((co (cl 16 (co a)) k * pw y k) % 10007) = _
            rw [co_at hx]
          have Gs := Lib.hid (H0.store (k := k) (x * pw y k % 10007))
          have GB := Lib.hid HB
          clear hx H0 HB J
          obtain ⟨v, hv⟩ : ∃ v, v = pw y k := ⟨_, rfl⟩
          rw [← hv] at v0 v1 HPS HE Gs
          rw [← hv]
          have HV := Lib.hid hv
          clear hv
          go_wp2_with (first | (go_at_call_of 87 (Value.int .i64 x); refine (times_any _ _ _ x0 x1 v0 v1).mono ?_; rintro e w' ⟨rfl, rfl⟩) | (go_at_call 87; refine (times_any _ _ _ v0 v1 y0 y1).mono ?_; rintro e w' ⟨rfl, rfl⟩))
          go_roundw
          case rel => exact ⟨k + 1, by omega, by rw [HPS.out], by go_num, by have := Gs.out; rw [mix_step (by rw [cl_length]; exact hlt) (by rw [cl_length, cl_length]) HE.out] at this; exact this, by exact below_set GB.out hw2 _⟩
          case measure => simp [intOf]; omega
        · obtain rfl : k = 16 := by omega
          rw [mix_end (n := 16) (cl_length _ _) (cl_length _ _)] at H0
          have G := Lib.hid H0
          have GB := Lib.hid HB
          have HSL : Hid (cl n (scl y (co (cl 16 (co a)))) = cl n (scl y (co a))) := cl_cg (fun j hj => (co_cg 16 (co a) j (by omega)).mul (Eqm.refl _))
          clear H0 HB J
          go_wp2_with (refine wpList_load_row rfl 65 (.tmp 6) rfl w2.heap.size rfl 65 (arr (cl 16 (scl y (co (cl 16 (co a)))))) (0, 0) _ G.out Try.underlying65 rfl (by rw [arr_size (cl_length _ _)]; exact info_arr) ?_)
          refine (listS_any (scl y (co (cl 16 (co a)))) n _ p2).mono ?_
          rintro e w5 hN
          rw [HSL.out] at hN
          have N := Lib.hid (NewRow.after GB.out hN)
          obtain ⟨A5, c5, rfl, _, _⟩ := hN
          go_wp2
          go_ret2
          obtain ⟨A6, c6, e6, own6, b6⟩ := N.out
          cases e6
          exact ResL.of H.out (cl_length _ _) (by omega) own6 b6
end Go.Proofs.Ytjdanhjonjmccab
