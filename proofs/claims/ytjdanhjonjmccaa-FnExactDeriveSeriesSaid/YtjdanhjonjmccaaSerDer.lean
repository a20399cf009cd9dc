/-
  What a derivative answers, the program's and the model's alike.
-/
import Derived.Test.YtjdanhjonjmccaaArr5
import Derived.Test.YtjdanhjonjmccaaArr6
import Derived.Test.YtjdanhjonjmccaaSerV
import Derived.Test.YtjdanhjonjmccaaSerTest
namespace Go.Proofs.Ytjdanhjonjmccaa
open Go.RowKit Fld Ser
set_option linter.unusedVariables false
set_option linter.unusedSimpArgs false

def derSerA (a : List Int) : List Int × Int := if isSer a = true then (cl a.length (dv (co a)), 0) else ([], 1)
theorem derSerA_no1 {a : List Int} (hs : isSer a = false) : derSerA a = ([], 1) := if_neg (by rw [hs]; simp)
theorem derSerA_yes {a : List Int} {n : Nat} (hs : isSer a = true) (hl : a.length = n) : derSerA a = (cl n (dv (co a)), 0) := by subst hl; exact if_pos hs
set_option maxHeartbeats 2000000 in
theorem sDeriveSeries_L (A : Option Addr) (n c B : Nat) (a : List Int) (w : World) (hl : a.length = n) (hn : n ≤ 1048576) (hB : B ≤ w.heap.size) (h : Row w B A (ints a)) :
    Calls Try.prog 31 #[.slice A n c] w (ResL (derSerA a) w) := by
  cases hs : isSer a
  · have H := Lib.hid (derSerA_no1 hs)
    have HL := Lib.hid hl
    clear hl
    go_enter Try.func31, Try.ntmps31
    go_wp2_with fail
    refine (l02Is_any _ _ _ B a _ HL.out (by omega) h).mono ?_
    rintro e w' ⟨rfl, rfl⟩
    rw [hs]
    go_wp2
    go_ret2
    exact ResL.nil H.out (Below.refl _ _)
  · obtain ⟨p1, p2, p4⟩ := isSer_iff.1 hs
    rw [hl] at p1 p2
    have H := Lib.hid (derSerA_yes hs hl)
    have HL := Lib.hid hl
    have P4 := Lib.hid p4
    clear hl p4
    go_enter Try.func31, Try.ntmps31
    go_wp2_with fail
    refine (l02Is_any _ _ _ B a _ HL.out (by omega) h).mono ?_
    rintro e w' ⟨rfl, rfl⟩
    rw [hs]
    go_wp2_with fail
    obtain ⟨i0, hi, hzz0, hzz1, hzz2⟩ := info_parts info_i64
    go_loopw [4, 5] (fun v i wr => ∃ m g cap : Nat, m + 1 ≤ n ∧ v = .slice (some ⟨g, 0, none⟩) m cap ∧ i = .int .i64 ((m : Int) + 1) ∧ Growing w 2 g m cap (ints ((cl n (dv (co a))).take m)) wr) (fun _ i _ => n - (intOf i).toNat)
    case atStart => exact ⟨0, _, 0, by omega, rfl, rfl, Growing.start ..⟩
    case round =>
      obtain ⟨m, g, cap, hm, rfl, rfl, HF⟩ := hrel
      have hsz := HF.2.size
      have hown := HF.1
      have HF' := Lib.hid HF
      by_cases hlt : m + 1 < n
      · obtain ⟨x, hx⟩ := at_lt (show m + 1 < a.length by rw [HL.out]; exact hlt)
        obtain ⟨b, o, rfl, hbb, hc⟩ := h.below HF.2 hB (m + 1) _ (ints_at hx)
        obtain ⟨x0, x1⟩ := num_at P4.out hx
        have HD : Hid (ints ((cl n (dv (co a))).take m) ++ [.int .i64 (x * ((m : Int) + 1) % 10007)] = ints ((cl n (dv (co a))).take (m + 1))) := by
          refine grow_ints ?_
          rw [cl_at _ (by omega)]
          show some ((((m : Int) + 1) * co a (m + 1)) % 10007) = _
          rw [co_at hx, Int.mul_comm]
        have m0 : (0 : Int) ≤ (m : Int) := Int.natCast_nonneg _
        have m1 : (m : Int) + 1 < (n : Int) := by omega
        clear hx HF
        go_wp2_with (first | (go_at_call 58; refine (l01Mul_any _ _ _ x0 x1 (by omega) (by omega)).mono ?_; rintro e w2 ⟨rfl, rfl⟩) | (at_builtin; refine wpList_append_lies _ rfl (.tmp 16) (.tmp 23) 22 rfl w.heap.size 2 i0 _ 1 8 Try.underlying22 hi hzz0 hzz1 hzz2 rfl (by omega) (.slice (some ⟨g, 0, none⟩) m cap) m (ints ((cl n (dv (co a))).take m)) rfl (hown.alloc _) ⟨wr.heap.size, 0, none⟩ 1 1 [.int .i64 (x * ((m : Int) + 1) % 10007)] rfl rfl (World.news_of_block (cs := #[.int .i64 (x * ((m : Int) + 1) % 10007)]) (heap_alloc_new _ _)) (by simp [Value.oneCell']) (by omega) (by simp only [maxLen]; omega) (by omega) (by simp; omega) (wr.heap.size + 1) (by simp) ?_; intro g2 cap2 w2 hown2 hgrow2 hat2 hlt2))
        rw [HD.out] at hown2
        have G := Lib.hid (HF'.out.step ((Below.refl _ _).alloc (Nat.le_refl _) _) hown2 hgrow2)
        clear hown2 hgrow2 hat2 hown
        go_wp2
        go_roundw
        case rel => exact ⟨m + 1, _, _, by omega, rfl, by go_num, G.out⟩
        case measure => simp [intOf]; omega
      · obtain rfl : n = m + 1 := by omega
        have HD : Hid (ints ((cl (m + 1) (dv (co a))).take m) ++ [.int .i64 0] = ints (cl (m + 1) (dv (co a)))) := by
          have e : ints ((cl (m + 1) (dv (co a))).take m) ++ [.int .i64 0] = ints ((cl (m + 1) (dv (co a))).take (m + 1)) := grow_ints (by
            rw [cl_at _ (by omega)]
            show some ((((m : Int) + 1) * co a (m + 1)) % 10007) = _
            rw [co_out (by rw [HL.out]; omega), Int.mul_zero]; rfl)
          unfold Hid
          rw [e, List.take_of_length_le (by rw [cl_length]; omega)]
        clear HF
        go_wp2_with (at_builtin; refine wpList_append_lies _ rfl (.tmp 25) (.tmp 26) 22 rfl w.heap.size 2 i0 _ 1 8 Try.underlying22 hi hzz0 hzz1 hzz2 rfl (by omega) (.slice (some ⟨g, 0, none⟩) m cap) m (ints ((cl (m + 1) (dv (co a))).take m)) rfl (hown.alloc _) ⟨wr.heap.size, 0, none⟩ 1 1 [.int .i64 0] rfl rfl (World.news_of_block (cs := #[.int .i64 0]) (heap_alloc_new _ _)) (by simp [Value.oneCell']) (by omega) (by simp only [maxLen]; omega) (by omega) (by simp; omega) (wr.heap.size + 1) (by simp) ?_; intro g2 cap2 w2 hown2 hgrow2 hat2 hlt2)
        rw [HD.out] at hown2
        have G := Lib.hid (HF'.out.step ((Below.refl _ _).alloc (Nat.le_refl _) _) hown2 hgrow2)
        clear hown2 hgrow2 hat2 hown
        go_ret2
        exact ResL.of H.out (cl_length _ _) (by omega) G.out.1 G.out.2
set_option maxHeartbeats 2000000 in
theorem pDeriveSeries_L (A : Option Addr) (n c B : Nat) (a : List Int) (w : World) (hl : a.length = n) (hn : n ≤ 1048576) (hB : B ≤ w.heap.size) (h : Row w B A (ints a)) :
    Calls Try.prog 32 #[.slice A n c] w (ResL (derSerA a) w) := by
  have HM : Hid (Lists (w.alloc (.cells #[.slice A n c] 22)) w.heap.size (some ⟨w.heap.size, 0, none⟩) [a]) := Lists.one _ hl (Nat.le_refl _) (h.more hB)
  have HQQ : Hid (∀ r ∈ [a], r.length ≤ 1048576) := by intro r hr; simp at hr; subst hr; omega
  have HT := serM_one a
  cases hs : isSer a
  · have H := Lib.hid (derSerA_no1 hs)
    rw [hs] at HT
    have HT' := Lib.hid HT
    clear HT hl
    go_enter Try.func32, Try.ntmps32
    go_wp2_with fail
    refine (areSeries_any _ 1 _ w.heap.size [a] _ rfl (by omega) HQQ.out (by exact HM.out)).mono ?_
    rintro e w' ⟨rfl, rfl⟩
    rw [HT'.out]
    go_wp2
    go_ret2
    exact ResL.nil H.out ((Below.refl _ _).alloc (Nat.le_refl _) _)
  · obtain ⟨p1, p2, p4⟩ := isSer_iff.1 hs
    rw [hl] at p1 p2
    rw [hs] at HT
    have HT' := Lib.hid HT
    have H := Lib.hid (derSerA_yes hs hl)
    have HL := Lib.hid hl
    have P4 := Lib.hid p4
    clear HT hl p4
    have B1 : Below w.heap.size w (w.alloc (.cells #[.slice A n c] 22)) := (Below.refl _ _).alloc (Nat.le_refl _) _
    go_enter Try.func32, Try.ntmps32
    go_wp2_with fail
    refine (areSeries_any _ 1 _ w.heap.size [a] _ rfl (by omega) HQQ.out (by exact HM.out)).mono ?_
    rintro e w' ⟨rfl, rfl⟩
    rw [HT'.out]
    go_wp2_with fail
    refine (seriesOf_any _ n _ B a _ HL.out p2 P4.out (Nat.le_trans hB B1.size) (by exact h.below B1 hB)).mono ?_
    rintro e w2 ⟨rfl, b2⟩
    have B2 := B1.trans (b2.mono B1.size)
    clear b2
    go_wp2_with fail
    refine (derivativeS_any (cl 16 (co a)) _ (cl_length _ _) (cl_num _ _)).mono ?_
    rintro e w3 ⟨rfl, b3⟩
    have B3 := B2.trans (b3.mono B2.size)
    clear b3
    go_wp2_with fail
    refine (listS_any (dv (co (cl 16 (co a)))) n _ p2).mono ?_
    rintro e w4 hN
    have HE : Hid (cl n (dv (co (cl 16 (co a)))) = cl n (dv (co a))) := cl_cg (fun k hk => (Eqm.refl _).mul (by
      by_cases e : k + 1 < 16
      · rw [co_cl _ e]; exact Eqm.mod _
      · rw [co_out (by rw [cl_length]; omega), co_out (by rw [HL.out]; omega)]; exact Eqm.refl _))
    rw [HE.out] at hN
    have N := Lib.hid (NewRow.after B3 hN)
    obtain ⟨A5, c5, rfl, _, _⟩ := hN
    go_wp2
    go_ret2
    obtain ⟨A6, c6, e6, own6, b6⟩ := N.out
    cases e6
    exact ResL.of H.out (cl_length _ _) (by omega) own6 b6
end Go.Proofs.Ytjdanhjonjmccaa
