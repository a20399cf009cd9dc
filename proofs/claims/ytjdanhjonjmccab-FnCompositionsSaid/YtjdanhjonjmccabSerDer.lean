/-
  What a derivative answers, the program's and the model's alike.
-/
import Derived.Test.YtjdanhjonjmccabArr5
import Derived.Test.YtjdanhjonjmccabArr6
import Derived.Test.YtjdanhjonjmccabSerV
import Derived.Test.YtjdanhjonjmccabSerTest
namespace Go.Proofs.Ytjdanhjonjmccab
open Go.RowKit Fld Ser
set_option linter.unusedVariables false
set_option linter.unusedSimpArgs false
set_option maxRecDepth 100000

def derSerA (a : List Int) : List Int × Int := if isSer a = true then (cl a.length (dv (co a)), 0) else ([], 1)
theorem derSerA_no1 {a : List Int} (hs : isSer a = false) : derSerA a = ([], 1) := if_neg (by rw [hs]; simp)
theorem derSerA_yes {a : List Int} {n : Nat} (hs : isSer a = true) (hl : a.length = n) : derSerA a = (cl n (dv (co a)), 0) := by subst hl; exact if_pos hs
set_option maxHeartbeats 2000000 in
theorem pDeriveSeries_L (A : Option Addr) (n c B : Nat) (a : List Int) (w : World) (hl : a.length = n) (hn : n ≤ 1048576) (hB : B ≤ w.heap.size) (h : Row w B A (ints a)) :
    Calls Try.prog 18 #[.slice A n c] w (ResL (derSerA a) w) := by
  have HM : Hid (Lists (w.alloc (.cells #[.slice A n c] 24)) w.heap.size (some ⟨w.heap.size, 0, none⟩) [a]) := Lists.one _ hl (Nat.le_refl _) (h.more hB)
  have HQQ : Hid (∀ r ∈ [a], r.length ≤ 1048576) := by intro r hr; simp at hr; subst hr; omega
  have HT := serM_one a
  cases hs : isSer a
  · have H := Lib.hid (derSerA_no1 hs)
    rw [hs] at HT
    have HT' := Lib.hid HT
    clear HT hl
    go_enter Try.func18, Try.ntmps18
    go_wp2_with fail
    refine (areSeries_any _ 1 _ w.heap.size [a] _ rfl (by omega) HQQ.out (by exact HM.out)).mono ?_
    rintro e w' ⟨rfl, rfl⟩
    rw [HT'.out]
    go_wp2
    go_ret2
    exact ResL.nil H.out ((Below.refl _ _).alloc (Nat.le_refl _) _)
  · obtain ⟨p1, p2, p4⟩ := isSer_iff.1 hs
    rw [hl] at p1 p2
    rw [hs] at HT
    have HT' := Lib.hid HT
    have H := Lib.hid (derSerA_yes hs hl)
    have HL := Lib.hid hl
    have P4 := Lib.hid p4
    clear HT hl p4
    have B1 : Below w.heap.size w (w.alloc (.cells #[.slice A n c] 24)) := (Below.refl _ _).alloc (Nat.le_refl _) _
    go_enter Try.func18, Try.ntmps18
    go_wp2_with fail
    refine (areSeries_any _ 1 _ w.heap.size [a] _ rfl (by omega) HQQ.out (by exact HM.out)).mono ?_
    rintro e w' ⟨rfl, rfl⟩
    rw [HT'.out]
    go_wp2_with fail
    refine (seriesOf_any _ n _ B a _ HL.out p2 P4.out (Nat.le_trans hB B1.size) (by exact h.below B1 hB)).mono ?_
    rintro e w2 ⟨rfl, b2⟩
    have B2 := B1.trans (b2.mono B1.size)
    clear b2
    go_wp2_with fail
    refine (derivativeS_any (cl 16 (co a)) _ (cl_length _ _) (cl_num _ _)).mono ?_
    rintro e w3 ⟨rfl, b3⟩
    have B3 := B2.trans (b3.mono B2.size)
    clear b3
    go_wp2_with fail
    refine (listS_any (dv (co (cl 16 (co a)))) n _ p2).mono ?_
    rintro e w4 hN
    have HE : Hid (cl n (dv (co (cl 16 (co a)))) = cl n (dv (co a))) := cl_cg (fun k hk => (Eqm.refl _).mul (by
      by_cases e : k + 1 < 16
      · rw [co_cl _ e]; exact Eqm.mod _
      · rw [co_out (by rw [cl_length]; omega), co_out (by rw [HL.out]; omega)]; exact Eqm.refl _))
    rw [HE.out] at hN
    have N := Lib.hid (NewRow.after B3 hN)
    obtain ⟨A5, c5, rfl, _, _⟩ := hN
    go_wp2
    go_ret2
    obtain ⟨A6, c6, e6, own6, b6⟩ := N.out
    cases e6
    exact ResL.of H.out (cl_length _ _) (by omega) own6 b6
end Go.Proofs.Ytjdanhjonjmccab
