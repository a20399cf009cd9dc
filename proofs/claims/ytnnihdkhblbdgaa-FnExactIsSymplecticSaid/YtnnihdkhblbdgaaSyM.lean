/-
  Conditions of symplectic tableaus, the model's.
-/
import Derived.Test.YtnnihdkhblbdgaaSyP
import Derived.Test.YtnnihdkhblbdgaaNum
import Derived.Test.YtnnihdkhblbdgaaResBI
import Derived.BigQuiet
namespace Go.Proofs.Ytnnihdkhblbdgaa
open Go.RowKit Fld
set_option linter.unusedVariables false
set_option linter.unusedSimpArgs false
set_option maxRecDepth 100000

set_option maxHeartbeats 2000000 in
theorem l12Condition_any (A D : Option Addr) (n c d B B' i k : Nat) (m : List (List Int)) (b : List Int) (w : World) (hl : m.length = n) (hl' : b.length = n) (hn : n ≤ 8) (hq : Wide m n) (hm : ∀ r ∈ m, allNum r = true) (hb : allNum b = true) (hi : i < n) (hk : k < n) (hB : B ≤ w.heap.size) (hB' : B' ≤ w.heap.size) (h : Mat w B A m) (r : Row w B' D (ints b)) :
    Calls Try.prog 68 #[.agg #[.slice A n c, .slice D n d], .int .i64 i, .int .i64 k] w fun e w' => e = .returned (.int .i64 ((syL m b i k - syR b i k) % 10007)) ∧ Below w.heap.size w w' := by
  obtain ⟨W0, hW0⟩ : ∃ W0, W0 = w.alloc (.cells #[.slice A n c, .slice D n d] 29) := ⟨_, rfl⟩
  have HB : Hid (Below w.heap.size w W0) := by rw [hW0]; exact (Below.refl _ _).alloc (Nat.le_refl _) _
  have HX : Bx W0 w.heap.size 29 (.slice A n c) (.slice D n d) := by rw [hW0]; exact Bx.new _ _ _ _
  have q0 := HX.c0
  have q1 := HX.c1
  obtain ⟨ri, hri⟩ := at_lt (show i < m.length by omega)
  obtain ⟨rk, hrk⟩ := at_lt (show k < m.length by omega)
  obtain ⟨x, hx⟩ := at_lt (show k < ri.length by rw [hq.at_ hri]; exact hk)
  obtain ⟨y, hy⟩ := at_lt (show i < rk.length by rw [hq.at_ hrk]; exact hi)
  obtain ⟨p, hp⟩ := at_lt (show i < b.length by omega)
  obtain ⟨s, hs⟩ := at_lt (show k < b.length by omega)
  obtain ⟨x0, x1⟩ := num_at (hm ri (List.mem_of_getElem? hri)) hx
  obtain ⟨y0, y1⟩ := num_at (hm rk (List.mem_of_getElem? hrk)) hy
  obtain ⟨p0, p1⟩ := num_at hb hp
  obtain ⟨s0, s1⟩ := num_at hb hs
  obtain ⟨bi, oi, Ai, ci, eA, _, hci, _, _, rowi⟩ := (h.below HB.out hB) i ri hri
  obtain ⟨bk, ok, Ak, ck, eA2, _, hck, _, _, rowk⟩ := (h.below HB.out hB) k rk hrk
  rw [hq.at_ hri] at hci
  rw [hq.at_ hrk] at hck
  subst eA
  have e3 : bk = bi ∧ ok = oi := by injection eA2 with e; injection e with e1 e2; exact ⟨e1.symm, e2.symm⟩
  obtain ⟨rfl, rfl⟩ := e3
  obtain ⟨bx, ox, rfl, _, hcx⟩ := rowi k _ (ints_at hx)
  obtain ⟨by_, oy, rfl, _, hcy⟩ := rowk i _ (ints_at hy)
  have rb := r.below HB.out hB'
  obtain ⟨bp, op, rfl, _, hcp⟩ := rb i _ (ints_at hp)
  obtain ⟨bs, os, eS, _, hcs⟩ := rb k _ (ints_at hs)
  have e4 : bs = bp ∧ os = op := by injection eS with e; injection e with e1 e2; exact ⟨e1.symm, e2.symm⟩
  obtain ⟨rfl, rfl⟩ := e4
  have GL : Hid (syL m b i k = (p * x % 10007 + s * y % 10007) % 10007) := by
    unfold syL; rw [Hid, ent_at hri hx, ent_at hrk hy, List.getD_eq_getElem?_getD, List.getD_eq_getElem?_getD, hp, hs]; rfl
  have GR : Hid (syR b i k = p * s % 10007) := by
    unfold syR; rw [Hid, List.getD_eq_getElem?_getD, List.getD_eq_getElem?_getD, hp, hs]; rfl
  have i0 : (0 : Int) ≤ (i : Int) := Int.natCast_nonneg _
  have i1 : (i : Int) < (n : Int) := by omega
  have k0 : (0 : Int) ≤ (k : Int) := Int.natCast_nonneg _
  have k1 : (k : Int) < (n : Int) := by omega
  have CM1 := fun W => l01Mul_any p x W p0 p1 x0 x1
  have CM2 := fun W => l01Mul_any s y W s0 s1 y0 y1
  have CM3 := fun W => l01Mul_any p s W p0 p1 s0 s1
  obtain ⟨u, hu⟩ : ∃ u, u = p * x % 10007 := ⟨_, rfl⟩
  obtain ⟨v, hv⟩ : ∃ v, v = s * y % 10007 := ⟨_, rfl⟩
  obtain ⟨t, ht⟩ : ∃ t, t = p * s % 10007 := ⟨_, rfl⟩
  have CA := fun W => l01Add_any u v W (by omega) (by omega) (by omega) (by omega)
  obtain ⟨z, hz⟩ : ∃ z, z = (u + v) % 10007 := ⟨_, rfl⟩
  have CS := fun W => l01Sub_any z t W (by omega) (by omega) (by omega) (by omega)
  have G : Hid ((syL m b i k - syR b i k) % 10007 = (z - t) % 10007) := by rw [Hid, GL.out, GR.out, hz, hu, hv, ht]
  simp only [← hu] at CM1
  simp only [← hv] at CM2
  simp only [← ht] at CM3
  simp only [← hz] at CA
  clear hu hv ht hz GL GR hri hrk hx hy hp hs rowi rowk rb h r hq hm hb HX eA2 eS x0 x1 y0 y1 p0 p1 s0 s1
  go_enter Try.func68, Try.ntmps68
  go_wp2_with fail
  rw [← hW0]
  clear hW0
  go_quiet ((first | (go_at_call 81; first | exact quietL (CM1 _) | exact quietL (CM2 _) | exact quietL2 (CM1 _) | exact quietL2 (CM2 _)) | (go_at_call 44; first | exact quietL (CA _) | exact quietL2 (CA _))))
  go_wp2_with fail
  go_quiet ((first | (go_at_call 81; first | exact quietL (CM3 _) | exact quietL2 (CM3 _)) | (go_at_call 104; first | exact quietL (CS _) | exact quietL2 (CS _))))
  go_wp2
  go_ret
  exact ⟨ret_i64 G.out.symm, below_drewN (below_drewN HB.out _) _⟩
theorem syNe {m : List (List Int)} {b : List Int} {i k : Nat} : (syL m b i k - syR b i k) % 10007 = 0 ↔ syOk m b i k := by
  have h1 := syL_num m b i k
  have h2 := syR_num b i k
  unfold syOk
  omega
theorem pairRow (w : World) (i k : Nat) {B : Nat} (h : B ≤ w.heap.size) : (w.alloc (.cells #[.int .i64 i, .int .i64 k] 2)).ownsRow B 2 1 (.slice (some ⟨w.heap.size, 0, none⟩) 2 2) 2 (ints [(i : Int), (k : Int)]) := World.ownsRow_lit w #[.int .i64 i, .int .i64 k] 2 h (by decide) rfl
set_option maxHeartbeats 2000000 in
theorem l12Fault_any (A D : Option Addr) (n c d B B' : Nat) (m : List (List Int)) (b : List Int) (w : World) (hl : m.length = n) (hl' : b.length = n) (hn : n ≤ 8) (hq : Wide m n) (hm : ∀ r ∈ m, allNum r = true) (hb : allNum b = true) (hB : B ≤ w.heap.size) (hB' : B' ≤ w.heap.size) (h : Mat w B A m) (r : Row w B' D (ints b)) :
    Calls Try.prog 38 #[.agg #[.slice A n c, .slice D n d]] w (NewRow 2 (faultOf (syOk m b) n).length (ints (faultOf (syOk m b) n)) w) := by
  obtain ⟨W0, hW0⟩ : ∃ W0, W0 = w.alloc (.cells #[.slice A n c, .slice D n d] 29) := ⟨_, rfl⟩
  have HB : Hid (Below w.heap.size w W0) := by rw [hW0]; exact (Below.refl _ _).alloc (Nat.le_refl _) _
  have HX : Hid (Bx W0 w.heap.size 29 (.slice A n c) (.slice D n d)) := by rw [hW0]; exact Bx.new _ _ _ _
  have HM : Hid (Mat W0 B A m) := h.below HB.out hB
  have HR : Hid (Row W0 B' D (ints b)) := r.below HB.out hB'
  have hz0 := HB.out.size
  have C1 : ∀ (i k : Nat) (W : World), i < n → k < n → Below W0.heap.size W0 W → Calls Try.prog 68 #[.agg #[.slice A n c, .slice D n d], .int .i64 i, .int .i64 k] W fun e w' => e = .returned (.int .i64 ((syL m b i k - syR b i k) % 10007)) ∧ Below W.heap.size W w' := fun i k W hi hk hW =>
    l12Condition_any A D n c d B B' i k m b W hl hl' hn hq hm hb hi hk (by have := hW.size; omega) (by have := hW.size; omega) (HM.out.below hW (by omega)) (HR.out.below hW (by omega))
  have HC := Lib.hid C1
  clear hl hl' hq hm hb h r C1
  go_enter Try.func38, Try.ntmps38
  go_wp2_with fail
  rw [← hW0]
  clear hW0
  go_loopw [3] (fun i wr => ∃ k : Nat, k ≤ n ∧ i = .int .i64 k ∧ Hid (NoF (syOk m b) n k 0) ∧ Hid (Below W0.heap.size W0 wr)) (fun i _ => n - (intOf i).toNat)
  case atStart => exact ⟨0, Nat.zero_le _, rfl, NoF.start _ _, Below.refl _ _⟩
  case round =>
    obtain ⟨i, hi, rfl, HT, HW⟩ := hrel
    have q1 := (HX.out.next HW.out).c1
    by_cases hlt : i < n
    · go_wp2_with fail
      go_loopw [4] (fun j wr2 => ∃ k : Nat, i ≤ k ∧ k ≤ n ∧ j = .int .i64 k ∧ Hid (NoF (syOk m b) n i k) ∧ Hid (Below W0.heap.size W0 wr2)) (fun j _ => n - (intOf j).toNat)
      case atStart => exact ⟨i, Nat.le_refl _, by omega, rfl, HT.out.enter, HW⟩
      case round =>
        clear q1
        obtain ⟨k, hik, hk, rfl, HI, HV⟩ := hrel
        have q0 := (HX.out.next HV.out).c0
        have q1 := (HX.out.next HV.out).c1
        by_cases hkl : k < n
        · have C2 := HC.out i k _ hlt hkl HV.out
          have hv := HV.out.size
          by_cases hok : syOk m b i k
          · rw [syNe.2 hok] at C2
            have G := Lib.hid (HI.out.step hok)
            clear HI hok
            go_wp2_with fail
            refine C2.mono ?_
            rintro e w2 ⟨rfl, b2⟩
            have GB := Lib.hid (HV.out.trans (b2.mono hv))
            clear b2 C2 q0 q1 HV
            go_wp2
            go_roundw
            case rel => exact ⟨k + 1, by omega, by omega, by go_num, G, GB⟩
            case measure => simp [intOf]; omega
          · have hne : (syL m b i k - syR b i k) % 10007 ≠ 0 := fun e => hok (syNe.1 e)
            have t := bne_t hne
            have G : Hid (faultOf (syOk m b) n = [(i : Int), (k : Int)]) := IsFault.of (HI.out.found hik hkl hok)
            obtain ⟨z, hz⟩ : ∃ z, z = (syL m b i k - syR b i k) % 10007 := ⟨_, rfl⟩
            rw [← hz] at C2 t hne
            clear HI hok hz
            go_wp2_with fail
            refine C2.mono ?_
            rintro e w2 ⟨rfl, b2⟩
            have GB : Hid (Below w.heap.size w w2) := HB.out.trans ((HV.out.trans (b2.mono hv)).mono HB.out.size)
            have hz2 := GB.out.size
            have GR := Lib.hid (pairRow w2 i k hz2)
            have GB2 := Lib.hid (GB.out.alloc hz2 (.cells #[.int .i64 i, .int .i64 k] 2))
            clear b2 C2 q0 q1 HV
            go_wp2
            go_ret
            rw [G.out]
            exact ⟨_, _, rfl, GR.out, GB2.out⟩
        · obtain rfl : k = n := by omega
          have G := Lib.hid HI.out.leave
          clear HI
          go_wp2
          go_roundw
          case rel => exact ⟨i + 1, by omega, by go_num, G, HV⟩
          case measure => simp [intOf]; omega
    · obtain rfl : i = n := by omega
      have G : Hid (faultOf (syOk m b) i = []) := IsFault.of HT.out.none
      have GB : Hid (Below w.heap.size w wr) := HB.out.trans (HW.out.mono HB.out.size)
      clear HT
      go_wp2
      go_ret
      rw [G.out]
      exact ⟨none, 0, rfl, World.ownsRow_nil .., GB.out⟩
set_option maxHeartbeats 2000000 in
theorem sIsSymplectic_L (A D : Option Addr) (n c n' d B B' : Nat) (m : List (List Int)) (b : List Int) (w : World) (hl : m.length = n) (hl' : b.length = n') (hn : n ≤ 9223372036854775807) (hn' : n' ≤ 9223372036854775807) (hB : B ≤ w.heap.size) (hB' : B' ≤ w.heap.size) (h : Mat w B A m) (r : Row w B' D (ints b)) :
    Calls Try.prog 11 #[.agg #[.slice A n c, .slice D n' d]] w (ResBI (symplA m b) w) := by
  have HL := Lib.hid hl
  have HL' := Lib.hid hl'
  obtain ⟨W0, hW0⟩ : ∃ W0, W0 = w.alloc (.cells #[.slice A n c, .slice D n' d] 29) := ⟨_, rfl⟩
  have HB : Hid (Below w.heap.size w W0) := by rw [hW0]; exact (Below.refl _ _).alloc (Nat.le_refl _) _
  have HM : Hid (Mat W0 B A m) := h.below HB.out hB
  have HR : Hid (Row W0 B' D (ints b)) := r.below HB.out hB'
  have HX : Hid (Bx W0 w.heap.size 29 (.slice A n c) (.slice D n' d)) := by rw [hW0]; exact Bx.new _ _ _ _
  have hz := HB.out.size
  clear hl hl' h r
  cases ht : isTabB m b
  · have G : Hid (symplA m b = (false, 1)) := by unfold symplA; rw [Hid, ht]; rfl
    go_enter Try.func11, Try.ntmps11
    go_wp2_with fail
    rw [← hW0]
    refine (l09Is_any A D n c n' d B B' m b W0 HL.out HL'.out hn hn' (by omega) (by omega) HM.out HR.out).mono ?_
    rintro e w2 ⟨rfl, b2⟩
    rw [ht]
    have HB2 := Lib.hid (HB.out.trans (b2.mono HB.out.size))
    clear b2 hW0 ht
    go_wp2
    go_ret2
    exact ResBI.of G.out HB2.out
  · obtain ⟨t1, t2, t3, t4, t5, t6⟩ := isTabB_parts ht
    rw [HL'.out] at t1 t2 t3 t5
    have hnn : n' = n := by rw [← t3]; exact HL.out
    subst hnn
    have G : Hid (symplA m b = ((faultOf (syOk m b) n').isEmpty, 0)) := by unfold symplA; rw [Hid, ht, HL'.out]; rfl
    have HW := Lib.hid t5
    have H4 := Lib.hid t4
    have H6 := Lib.hid t6
    clear t3 t4 t5 t6
    go_enter Try.func11, Try.ntmps11
    go_wp2_with fail
    rw [← hW0]
    refine (l09Is_any A D n' c n' d B B' m b W0 HL.out HL'.out hn hn' (by omega) (by omega) HM.out HR.out).mono ?_
    rintro e w2 ⟨rfl, b2⟩
    rw [ht]
    have HB2 := Lib.hid (HB.out.trans (b2.mono HB.out.size))
    have HM2 := Lib.hid (HM.out.below b2 (by omega))
    have HR2 := Lib.hid (HR.out.below b2 (by omega))
    have q0 := (HX.out.next b2).c0
    have q1 := (HX.out.next b2).c1
    have hz2 := b2.size
    clear b2 hW0 ht
    go_wp2_with fail
    refine (l12Fault_any A D n' c d B B' m b w2 HL.out HL'.out t2 HW.out H6.out H4.out (by omega) (by omega) HM2.out HR2.out).mono ?_
    rintro e w3 ⟨A3, c3, rfl, own3, b3⟩
    have HB3 := Lib.hid (HB2.out.trans (b3.mono HB2.out.size))
    obtain ⟨F, hF⟩ : ∃ F, F = faultOf (syOk m b) n' := ⟨_, rfl⟩
    rw [← hF] at G ⊢
    clear b3 own3 q0 q1 hF
    cases F with
    | nil =>
      go_wp2
      go_ret2
      exact ResBI.of G.out HB3.out
    | cons x F =>
      have t : ((((x :: F).length : Nat) : Int) == 0) = false := beq_f (by simp only [List.length_cons]; omega)
      go_wp2
      go_ret2
      exact ResBI.of G.out HB3.out
set_option maxHeartbeats 2000000 in
theorem sSymplecticFault_L (A D : Option Addr) (n c n' d B B' : Nat) (m : List (List Int)) (b : List Int) (w : World) (hl : m.length = n) (hl' : b.length = n') (hn : n ≤ 9223372036854775807) (hn' : n' ≤ 9223372036854775807) (hB : B ≤ w.heap.size) (hB' : B' ≤ w.heap.size) (h : Mat w B A m) (r : Row w B' D (ints b)) :
    Calls Try.prog 15 #[.agg #[.slice A n c, .slice D n' d]] w (ResL (faultSA m b) w) := by
  have HL := Lib.hid hl
  have HL' := Lib.hid hl'
  obtain ⟨W0, hW0⟩ : ∃ W0, W0 = w.alloc (.cells #[.slice A n c, .slice D n' d] 29) := ⟨_, rfl⟩
  have HB : Hid (Below w.heap.size w W0) := by rw [hW0]; exact (Below.refl _ _).alloc (Nat.le_refl _) _
  have HM : Hid (Mat W0 B A m) := h.below HB.out hB
  have HR : Hid (Row W0 B' D (ints b)) := r.below HB.out hB'
  have HX : Hid (Bx W0 w.heap.size 29 (.slice A n c) (.slice D n' d)) := by rw [hW0]; exact Bx.new _ _ _ _
  have hz := HB.out.size
  clear hl hl' h r
  cases ht : isTabB m b
  · have G : Hid (faultSA m b = ([], 1)) := by unfold faultSA; rw [Hid, ht]; rfl
    go_enter Try.func15, Try.ntmps15
    go_wp2_with fail
    rw [← hW0]
    refine (l09Is_any A D n c n' d B B' m b W0 HL.out HL'.out hn hn' (by omega) (by omega) HM.out HR.out).mono ?_
    rintro e w2 ⟨rfl, b2⟩
    rw [ht]
    have HB2 := Lib.hid (HB.out.trans (b2.mono HB.out.size))
    clear b2 hW0 ht
    go_wp2
    go_ret2
    exact ResL.nil G.out HB2.out
  · obtain ⟨t1, t2, t3, t4, t5, t6⟩ := isTabB_parts ht
    rw [HL'.out] at t1 t2 t3 t5
    have hnn : n' = n := by rw [← t3]; exact HL.out
    subst hnn
    have G : Hid (faultSA m b = (faultOf (syOk m b) n', if (faultOf (syOk m b) n').isEmpty = true then 4 else 0)) := by unfold faultSA; rw [Hid, ht, HL'.out]; rfl
    have HW := Lib.hid t5
    have H4 := Lib.hid t4
    have H6 := Lib.hid t6
    clear t3 t4 t5 t6
    go_enter Try.func15, Try.ntmps15
    go_wp2_with fail
    rw [← hW0]
    refine (l09Is_any A D n' c n' d B B' m b W0 HL.out HL'.out hn hn' (by omega) (by omega) HM.out HR.out).mono ?_
    rintro e w2 ⟨rfl, b2⟩
    rw [ht]
    have HB2 := Lib.hid (HB.out.trans (b2.mono HB.out.size))
    have HM2 := Lib.hid (HM.out.below b2 (by omega))
    have HR2 := Lib.hid (HR.out.below b2 (by omega))
    have q0 := (HX.out.next b2).c0
    have q1 := (HX.out.next b2).c1
    have hz2 := b2.size
    clear b2 hW0 ht
    go_wp2_with fail
    refine (l12Fault_any A D n' c d B B' m b w2 HL.out HL'.out t2 HW.out H6.out H4.out (by omega) (by omega) HM2.out HR2.out).mono ?_
    rintro e w3 ⟨A3, c3, rfl, own3, b3⟩
    have HB3 := Lib.hid (HB2.out.trans (b3.mono HB2.out.size))
    have HF := Lib.hid (fault_small m b n')
    have hz3 := HB2.out.size
    have HO : Hid (w3.ownsRow w.heap.size 2 1 (.slice A3 (faultOf (syOk m b) n').length c3) (faultOf (syOk m b) n').length (ints (faultOf (syOk m b) n'))) := ((OwnR.of own3).more hz3 (Nat.le_refl _)).1
    obtain ⟨F, hF⟩ : ∃ F, F = faultOf (syOk m b) n' := ⟨_, rfl⟩
    rw [← hF] at G HO HF ⊢
    clear b3 own3 q0 q1 hF
    cases F with
    | nil =>
      go_wp2
      go_ret2
      exact ResL.nil G.out HB3.out
    | cons x F =>
      have t : ((((x :: F).length : Nat) : Int) == 0) = false := beq_f (by simp only [List.length_cons]; omega)
      go_wp2
      go_ret2
      exact ResL.of G.out rfl (Nat.le_trans HF.out (by omega)) HO.out HB3.out
end Go.Proofs.Ytnnihdkhblbdgaa
