/-
  What the value of a series answers, the program's and the model's alike.
-/
import Derived.Test.YtjdanhjonjmccabArr5
import Derived.Test.YtjdanhjonjmccabArr6
import Derived.Test.YtjdanhjonjmccabSerV
import Derived.Test.YtjdanhjonjmccabSerTest
import Derived.Test.YtjdanhjonjmccabSerScale
namespace Go.Proofs.Ytjdanhjonjmccab
open Go.RowKit Fld Ser
set_option linter.unusedVariables false
set_option linter.unusedSimpArgs false
set_option maxRecDepth 100000

/-- the value of a series, up to an index -/
def evT (y : Int) (f : Nat → Int) (k : Nat) : Int := sm k (fun j => f j * pw y j) % 10007
theorem evT_bd (y : Int) (f : Nat → Int) (k : Nat) : 0 ≤ evT y f k ∧ evT y f k < 10007 := by unfold evT; omega
theorem evT_step (y : Int) (f : Nat → Int) (k : Nat) {x v : Int} (hx : f k = x) (hv : pw y k = v) : evT y f (k + 1) = (evT y f k + x * v % 10007) % 10007 := by
  unfold evT
  show (sm k _ + f k * pw y k) % 10007 = _
  rw [hx, hv]; omega
def evalSerA (a : List Int) (y : Int) : Int × Int := if isSer a = true then (if isNum y = true then (evT y (co a) a.length, 0) else (0, 2)) else (0, 1)
theorem evalSerA_no1 {a : List Int} {y : Int} (hs : isSer a = false) : evalSerA a y = (0, 1) := if_neg (by rw [hs]; simp)
theorem evalSerA_no2 {a : List Int} {y : Int} (hs : isSer a = true) (hy : isNum y = false) : evalSerA a y = (0, 2) := (if_pos hs).trans (if_neg (by rw [hy]; simp))
theorem evalSerA_yes {a : List Int} {y : Int} {n : Nat} (hs : isSer a = true) (hy : isNum y = true) (hl : a.length = n) : evalSerA a y = (evT y (co a) n, 0) := by subst hl; exact (if_pos hs).trans (if_pos hy)
set_option maxHeartbeats 2000000 in
theorem pEvaluateSeries_L (A : Option Addr) (n c B : Nat) (a : List Int) (y : Int) (w : World) (hl : a.length = n) (hn : n ≤ 1048576) (hB : B ≤ w.heap.size) (h : Row w B A (ints a)) (hy : -9223372036854775808 ≤ y ∧ y ≤ 9223372036854775807) :
    Calls Try.prog 37 #[.slice A n c, .int .i64 y] w (ResI (evalSerA a y) w) := by
  have HM : Hid (Lists (w.alloc (.cells #[.slice A n c] 24)) w.heap.size (some ⟨w.heap.size, 0, none⟩) [a]) := Lists.one _ hl (Nat.le_refl _) (h.more hB)
  have HQQ : Hid (∀ r ∈ [a], r.length ≤ 1048576) := by intro r hr; simp at hr; subst hr; omega
  have HT := serM_one a
  cases hs : isSer a
  · have H := Lib.hid (evalSerA_no1 (y := y) hs)
    rw [hs] at HT
    have HT' := Lib.hid HT
    clear HT hl
    go_enter Try.func37, Try.ntmps37
    go_wp2_with fail
    refine (areSeries_any _ 1 _ w.heap.size [a] _ rfl (by omega) HQQ.out (by exact HM.out)).mono ?_
    rintro e w' ⟨rfl, rfl⟩
    rw [HT'.out]
    go_wp2
    go_ret2
    exact ⟨ret_pair H.out, (Below.refl _ _).alloc (Nat.le_refl _) _⟩
  · obtain ⟨p1, p2, p4⟩ := isSer_iff.1 hs
    rw [hl] at p1 p2
    rw [hs] at HT
    have HT' := Lib.hid HT
    cases hy2 : isNum y
    · have H := Lib.hid (evalSerA_no2 hs hy2)
      have HL := Lib.hid hl
      have P4 := Lib.hid p4
      clear HT hl p4
      go_enter Try.func37, Try.ntmps37
      go_wp2_with fail
      refine (areSeries_any _ 1 _ w.heap.size [a] _ rfl (by omega) HQQ.out (by exact HM.out)).mono ?_
      rintro e w' ⟨rfl, rfl⟩
      rw [HT'.out]
      go_wp2_with fail
      refine (isNumber_any _ _).mono ?_
      rintro e w' ⟨rfl, rfl⟩
      rw [hy2]
      go_wp2
      go_ret2
      exact ⟨ret_pair H.out, (Below.refl _ _).alloc (Nat.le_refl _) _⟩
    · obtain ⟨y0, y1⟩ := isNum_iff.1 hy2
      have H := Lib.hid (evalSerA_yes hs hy2 hl)
      have HL := Lib.hid hl
      have P4 := Lib.hid p4
      clear HT hl p4
      have B1 : Below w.heap.size w (w.alloc (.cells #[.slice A n c] 24)) := (Below.refl _ _).alloc (Nat.le_refl _) _
      go_enter Try.func37, Try.ntmps37
      go_wp2_with fail
      refine (areSeries_any _ 1 _ w.heap.size [a] _ rfl (by omega) HQQ.out (by exact HM.out)).mono ?_
      rintro e w' ⟨rfl, rfl⟩
      rw [HT'.out]
      go_wp2_with fail
      refine (isNumber_any _ _).mono ?_
      rintro e w' ⟨rfl, rfl⟩
      rw [hy2]
      go_wp2_with fail
      refine (numbersOf_any A n _ B a _ HL.out (by omega) (Nat.le_trans hB B1.size) (by exact h.below B1 hB)).mono ?_
      rintro e w2 ⟨A2, c2, rfl, o2, b2⟩
      have r2 := row_of_own o2
      have B2 := B1.trans (b2.mono B1.size)
      clear b2 o2
      go_wp2_with fail
      go_loop [6, 7, 20] (fun q v i => ∃ k : Nat, k ≤ n ∧ q = .int .i64 (evT y (co a) k) ∧ v = .int .i64 (pw y k) ∧ i = .int .i64 k) (fun _ _ i => n - (intOf i).toNat)
      case atStart => exact ⟨0, by omega, rfl, by rw [pw_zero], rfl⟩
      case round =>
        obtain ⟨k, hk, rfl, rfl, rfl⟩ := hrel
        obtain ⟨s0, s1⟩ := evT_bd y (co a) k
        by_cases hlt : k < n
        · obtain ⟨x, hx⟩ := at_lt (show k < a.length by rw [HL.out]; omega)
          obtain ⟨b, o, rfl, hbb, hc⟩ := r2 k _ (ints_at hx)
          obtain ⟨x0, x1⟩ := num_at P4.out hx
          have v0 := pw_lo y k
          have v1 := pw_hi y k
          have HPS := Lib.hid (pw_step y k)
          obtain ⟨v, hv⟩ : ∃ v, v = pw y k := ⟨_, rfl⟩
          have G := Lib.hid (evT_step y (co a) k (co_at hx) hv.symm)
          rw [← hv] at v0 v1 HPS
          rw [← hv]
          obtain ⟨s, hs2⟩ : ∃ s, s = evT y (co a) k := ⟨_, rfl⟩
          rw [← hs2] at s0 s1 G
          rw [← hs2]
          have p0 : 0 ≤ x * v % 10007 := by omega
          have q1 : x * v % 10007 < 10007 := by omega
          clear hx hv hs2
          go_wp2_with fail
          refine (times_any _ _ _ x0 x1 v0 v1).mono ?_
          rintro e w' ⟨rfl, rfl⟩
          go_wp2_with fail
          refine (plus_any _ _ _ s0 s1 p0 q1).mono ?_
          rintro e w' ⟨rfl, rfl⟩
          go_wp2_with fail
          refine (times_any _ _ _ v0 v1 y0 y1).mono ?_
          rintro e w' ⟨rfl, rfl⟩
          go_wp2
          go_round
          case rel => exact ⟨k + 1, by omega, by rw [G.out]; exact congrArg (Value.int .i64) (by omega), by rw [HPS.out], by go_num⟩
          case measure => simp [intOf]; omega
        · obtain rfl : n = k := by omega
          go_wp2
          go_ret2
          exact ⟨ret_pair H.out, B2⟩
end Go.Proofs.Ytjdanhjonjmccab
