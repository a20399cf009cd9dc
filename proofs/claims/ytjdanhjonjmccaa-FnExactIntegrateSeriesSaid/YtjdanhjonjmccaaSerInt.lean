/-
  What an integral answers, the program's and the model's alike.
-/
import Derived.Test.YtjdanhjonjmccaaArr5
import Derived.Test.YtjdanhjonjmccaaArr6
import Derived.Test.YtjdanhjonjmccaaSerV
import Derived.Test.YtjdanhjonjmccaaSerTest
namespace Go.Proofs.Ytjdanhjonjmccaa
open Go.RowKit Fld Ser
set_option linter.unusedVariables false
set_option linter.unusedSimpArgs false

def intSerA (a : List Int) : List Int × Int := if isSer a = true then (cl a.length (itg (co a)), 0) else ([], 1)
theorem intSerA_no1 {a : List Int} (hs : isSer a = false) : intSerA a = ([], 1) := if_neg (by rw [hs]; simp)
theorem intSerA_yes {a : List Int} {n : Nat} (hs : isSer a = true) (hl : a.length = n) : intSerA a = (cl n (itg (co a)), 0) := by subst hl; exact if_pos hs
set_option maxHeartbeats 2000000 in
theorem sIntegrateSeries_L (A : Option Addr) (n c B : Nat) (a : List Int) (w : World) (hl : a.length = n) (hn : n ≤ 1048576) (hB : B ≤ w.heap.size) (h : Row w B A (ints a)) :
    Calls Try.prog 33 #[.slice A n c] w (ResL (intSerA a) w) := by
  cases hs : isSer a
  · have H := Lib.hid (intSerA_no1 hs)
    have HL := Lib.hid hl
    clear hl
    go_enter Try.func33, Try.ntmps33
    go_wp2_with fail
    refine (l02Is_any _ _ _ B a _ HL.out (by omega) h).mono ?_
    rintro e w' ⟨rfl, rfl⟩
    rw [hs]
    go_wp2
    go_ret2
    exact ResL.nil H.out (Below.refl _ _)
  · obtain ⟨p1, p2, p4⟩ := isSer_iff.1 hs
    rw [hl] at p1 p2
    have H := Lib.hid (intSerA_yes hs hl)
    have HL := Lib.hid hl
    have P4 := Lib.hid p4
    clear hl p4
    go_enter Try.func33, Try.ntmps33
    go_wp2_with fail
    refine (l02Is_any _ _ _ B a _ HL.out (by omega) h).mono ?_
    rintro e w' ⟨rfl, rfl⟩
    rw [hs]
    go_wp2_with fail
    obtain ⟨i0, hi, hzz0, hzz1, hzz2⟩ := info_parts info_i64
    have G0 : Hid (Growing w 2 w.heap.size 1 1 (ints ((cl n (itg (co a))).take (0 + 1))) (w.alloc (.cells #[.int .i64 0] 2))) := by
      have e : ints ((cl n (itg (co a))).take (0 + 1)) = [.int .i64 0] := by
        rw [Nat.zero_add, cl_take _ p1]; rfl
      unfold Hid
      rw [e]
      exact ⟨World.ownsRow_lit w #[.int .i64 0] 1 (Nat.le_refl _) (by simp [maxLen]) rfl, (Below.refl _ _).alloc (Nat.le_refl _) _⟩
    go_loopw [4, 5] (fun v i wr => ∃ m g cap : Nat, m + 1 ≤ n ∧ v = .slice (some ⟨g, 0, none⟩) (m + 1) cap ∧ i = .int .i64 ((m : Int) + 1) ∧ Growing w 2 g (m + 1) cap (ints ((cl n (itg (co a))).take (m + 1))) wr) (fun _ i _ => n - (intOf i).toNat)
    case atStart => exact ⟨0, _, 1, by omega, rfl, rfl, G0.out⟩
    case round =>
      obtain ⟨m, g, cap, hm, rfl, rfl, HF⟩ := hrel
      have hsz := HF.2.size
      have HF' := Lib.hid HF
      by_cases hlt : m + 1 < n
      · obtain ⟨x, hx⟩ := at_lt (show m < a.length by rw [HL.out]; omega)
        obtain ⟨b, o, rfl, hbb, hc⟩ := h.below HF.2 hB m _ (ints_at hx)
        obtain ⟨x0, x1⟩ := num_at P4.out hx
        have v0 := inv_lo ((m : Int) + 1)
        have v1 := inv_hi ((m : Int) + 1)
        obtain ⟨v, hv⟩ : ∃ v, v = inv ((m : Int) + 1) := ⟨_, rfl⟩
        have HD : Hid (ints ((cl n (itg (co a))).take (m + 1)) ++ [.int .i64 (x * v % 10007)] = ints ((cl n (itg (co a))).take (m + 1 + 1))) := by
          refine grow_ints ?_
          rw [cl_at _ (by omega), hv]
          show some ((co a m * inv ((m : Int) + 1)) % 10007) = _
          rw [co_at hx]
        rw [← hv] at v0 v1
        have HV := Lib.hid hv
        have m0 : (0 : Int) ≤ (m : Int) := Int.natCast_nonneg _
        have m1 : (m : Int) + 1 < (n : Int) := by omega
        have m2 : (m : Int) < (n : Int) := by omega
        have hbw : b < wr.heap.size := by omega
        have HK : Hid (∀ W' : World, Below wr.heap.size wr W' → W'.cell? ⟨b, o + m, none⟩ = some (.int .i64 x)) := fun W' hb => (hb.cell (p := ⟨b, o + m, none⟩) hbw).trans hc
        have HO : Hid (∀ W' : World, Below wr.heap.size wr W' → W'.ownsRow w.heap.size 2 1 (.slice (some ⟨g, 0, none⟩) (m + 1) cap) (m + 1) (ints ((cl n (itg (co a))).take (m + 1)))) := fun W' hb => ((OwnR.of HF.1).below hb (Nat.le_refl _)).1
        have HNE := Lib.hid (own_ne (o := o + m) HF.1 (b := b) (by omega))
        have ew : IntKind.i64.wrap (m : Int) = (m : Int) := IntWalk.i64_in _ (by omega)
        have ew2 : IntKind.i64.wrap ((m : Int) + 1 - 1) = (m : Int) := by rw [Int.add_sub_cancel]; exact ew
        clear hx HF hv G0
        go_wp2_with fail
        go_region_held3 (fun w' => w'.cell? ⟨b, o + m, none⟩ = some (.int .i64 x)) (first | go_keep | exact HK.out _ (below_drewN (Below.refl _ _) _) | exact HK.out _ ((below_drewN (Below.refl _ _) _).alloc (Nat.le_refl _) _) | exact World.grownBy.cell hgrow3 (HK.out _ ((below_drewN (Below.refl _ _) _).alloc (Nat.le_refl _) _)) HNE.out)
          (first
            | (go_at_call 67; refine (l01Inv_any _ _ (by omega) (by omega)).mono ?_; rintro e w2 ⟨rfl, rfl⟩; rw [← HV.out])
            | (go_at_call 58; refine (l01Mul_any _ _ _ x0 x1 v0 v1).mono ?_; rintro e w2 ⟨rfl, rfl⟩)
            | (refine step_append_lies _ (by rfl) _ _ _ (by rfl) w.heap.size 2 i0 _ 1 8 Try.underlying22 hi hzz0 hzz1 hzz2 rfl (by omega) (.slice (some ⟨g, 0, none⟩) (m + 1) cap) (m + 1) (ints ((cl n (itg (co a))).take (m + 1))) (by rfl) (HO.out _ (by exact (below_drewN (Below.refl _ _) _).alloc (Nat.le_refl _) _)) ⟨wr.heap.size, 0, none⟩ 1 1 [.int .i64 (x * v % 10007)] (by rfl) (by rfl) (World.news_of_block (cs := #[.int .i64 (x * v % 10007)]) (heap_alloc_new _ _)) (by simp [Value.oneCell']) (by omega) (by simp only [maxLen]; omega) (by omega) (by simp; omega) (wr.heap.size + 1) (by simp) ?_; intro g3 cap3 w3 hown3 hgrow3 hat3 hlt3))
        clear ew ew2
        rw [HD.out] at hown3
        have G := Lib.hid (HF'.out.step ((below_drewN (Below.refl _ _) _).alloc (Nat.le_refl _) _) hown3 hgrow3)
        clear hown3 hgrow3 hat3
        go_wp2
        go_roundw
        case rel => exact ⟨m + 1, _, _, by omega, rfl, by go_num, G.out⟩
        case measure => simp [intOf]; omega
      · obtain rfl : n = m + 1 := by omega
        have e : (cl (m + 1) (itg (co a))).take (m + 1) = cl (m + 1) (itg (co a)) := List.take_of_length_le (by rw [cl_length]; omega)
        rw [e] at HF
        have G := Lib.hid HF
        clear HF HF' G0
        go_wp2
        go_ret2
        exact ResL.of H.out (cl_length _ _) (by omega) G.out.1 G.out.2
set_option maxHeartbeats 2000000 in
theorem pIntegrateSeries_L (A : Option Addr) (n c B : Nat) (a : List Int) (w : World) (hl : a.length = n) (hn : n ≤ 1048576) (hB : B ≤ w.heap.size) (h : Row w B A (ints a)) :
    Calls Try.prog 34 #[.slice A n c] w (ResL (intSerA a) w) := by
  have HM : Hid (Lists (w.alloc (.cells #[.slice A n c] 22)) w.heap.size (some ⟨w.heap.size, 0, none⟩) [a]) := Lists.one _ hl (Nat.le_refl _) (h.more hB)
  have HQQ : Hid (∀ r ∈ [a], r.length ≤ 1048576) := by intro r hr; simp at hr; subst hr; omega
  have HT := serM_one a
  cases hs : isSer a
  · have H := Lib.hid (intSerA_no1 hs)
    rw [hs] at HT
    have HT' := Lib.hid HT
    clear HT hl
    go_enter Try.func34, Try.ntmps34
    go_wp2_with fail
    refine (areSeries_any _ 1 _ w.heap.size [a] _ rfl (by omega) HQQ.out (by exact HM.out)).mono ?_
    rintro e w' ⟨rfl, rfl⟩
    rw [HT'.out]
    go_wp2
    go_ret2
    exact ResL.nil H.out ((Below.refl _ _).alloc (Nat.le_refl _) _)
  · obtain ⟨p1, p2, p4⟩ := isSer_iff.1 hs
    rw [hl] at p1 p2
    rw [hs] at HT
    have HT' := Lib.hid HT
    have H := Lib.hid (intSerA_yes hs hl)
    have HL := Lib.hid hl
    have P4 := Lib.hid p4
    clear HT hl p4
    have B1 : Below w.heap.size w (w.alloc (.cells #[.slice A n c] 22)) := (Below.refl _ _).alloc (Nat.le_refl _) _
    go_enter Try.func34, Try.ntmps34
    go_wp2_with fail
    refine (areSeries_any _ 1 _ w.heap.size [a] _ rfl (by omega) HQQ.out (by exact HM.out)).mono ?_
    rintro e w' ⟨rfl, rfl⟩
    rw [HT'.out]
    go_wp2_with fail
    refine (seriesOf_any _ n _ B a _ HL.out p2 P4.out (Nat.le_trans hB B1.size) (by exact h.below B1 hB)).mono ?_
    rintro e w2 ⟨rfl, b2⟩
    have B2 := B1.trans (b2.mono B1.size)
    clear b2
    go_wp2_with fail
    refine (integralS_any (cl 16 (co a)) _ (cl_length _ _) (cl_num _ _)).mono ?_
    rintro e w3 ⟨rfl, b3⟩
    have B3 := B2.trans (b3.mono B2.size)
    clear b3
    go_wp2_with fail
    refine (listS_any (itg (co (cl 16 (co a)))) n _ p2).mono ?_
    rintro e w4 hN
    have HE : Hid (cl n (itg (co (cl 16 (co a)))) = cl n (itg (co a))) := cl_cg (fun k hk => by
      cases k with
      | zero => exact Eqm.refl _
      | succ k => exact (co_cg 16 (co a) k (by omega)).mul (Eqm.refl _))
    rw [HE.out] at hN
    have N := Lib.hid (NewRow.after B3 hN)
    obtain ⟨A5, c5, rfl, _, _⟩ := hN
    go_wp2
    go_ret2
    obtain ⟨A6, c6, e6, own6, b6⟩ := N.out
    cases e6
    exact ResL.of H.out (cl_length _ _) (by omega) own6 b6
end Go.Proofs.Ytjdanhjonjmccaa
