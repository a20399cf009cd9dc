/-
  PROVED: for all arguments the law FnExactDegreeOf returns true: DegreeOf answers as its model and leaves its list alone.
  CONDITIONS: none; every argument that the types hold.
-/
import Derived.Test.YtjmjdcfgbaepkaaIsS
import Derived.Test.YtjmjdcfgbaepkaaResO
import Derived.Test.YtjmjdcfgbaepkaaFFnExactDegreeOf
namespace Go.Proofs.Ytjmjdcfgbaepkaa
open Go.RowKit Fld
set_option linter.unusedVariables false
set_option linter.unusedSimpArgs false
set_option maxRecDepth 100000
/-- the degree -/
def degE (ps : List (Int × List (List Int))) : Int := if ps.length = 0 then -1 else ((total (ps.getD (ps.length - 1) (0, [])).2 : Nat) : Int)
def degA (ps : List (Int × List (List Int))) : Int × Int := if isE ps = true then (degE ps, 0) else (0, 1)
theorem l06Degree_any (A : Option Addr) (n c B : Nat) (ps : List (Int × List (List Int))) (w : World) (hl : ps.length = n) (hn : n ≤ 1048576) (ht : szP ps ≤ 1048576) (h : Prts w B A ps) :
    Calls Try.prog 109 #[.slice A n c] w fun e w' => e = .returned (.int .i64 (degE ps)) ∧ w = w' := by
  rcases Nat.eq_zero_or_pos n with h0 | h0
  · have H : Hid (degE ps = -1) := if_pos (by omega)
    subst h0
    clear hl
    go_enter Try.func109, Try.ntmps109
    go_wp2
    go_ret
    exact ⟨ret_i64 H.out.symm, rfl⟩
  · obtain ⟨k, hk⟩ : ∃ k, n = k + 1 := ⟨n - 1, by omega⟩
    obtain ⟨⟨x, f⟩, hx⟩ := at_lt (show k < ps.length by omega)
    obtain ⟨b, o, Ak, ck, rfl, hb, hc0, hc1, hlc, hcm, hM⟩ := h k x f hx
    have H : Hid (degE ps = ((total f : Nat) : Int)) := by
      unfold degE
      rw [Hid, if_neg (by omega), show ps.length - 1 = k by omega, getD_at hx]
    have hle1 := szTo_step hx
    have hle2 := szTo_le ps (k + 1)
    have htot : tot f = f.length + total f := rfl
    have hfl : f.length + total f ≤ 1048576 := by omega
    have z := beq_f (show ¬ (n : Int) = 0 by omega)
    have hm1 : IntKind.i64.wrap ((n : Int) - 1) = (k : Int) := by rw [IntWalk.i64_in _ (by omega)]; omega
    have hm2 : (n : Int) - 1 = (k : Int) := by omega
    have HM := Lib.hid hM
    clear hle1 hle2 htot hM hx hl hk
    go_enter Try.func109, Try.ntmps109
    go_wp2_with fail
    refine (l03Nodes_any Ak f.length ck B f _ rfl hfl HM.out).mono ?_
    rintro e w' ⟨rfl, rfl⟩
    rw [← H.out]
    go_wp2
    go_ret
    exact ⟨rfl, rfl⟩
theorem degreeOf_any (A : Option Addr) (n c B : Nat) (ps : List (Int × List (List Int))) (w : World) (hl : ps.length = n) (hn : n ≤ 1048576) (ht : szP ps ≤ 1048576) (h : Prts w B A ps) :
    Calls Try.prog 110 #[.slice A n c] w fun e w' => e = .returned (.int .i64 (degE ps)) ∧ Below w.heap.size w w' := by
  rcases Nat.eq_zero_or_pos n with h0 | h0
  · have H : Hid (degE ps = -1) := if_pos (by omega)
    subst h0
    clear hl
    go_enter Try.func110, Try.ntmps110
    go_wp2
    go_ret
    exact ⟨ret_i64 H.out.symm, Below.refl _ _⟩
  · obtain ⟨k, hk⟩ : ∃ k, n = k + 1 := ⟨n - 1, by omega⟩
    obtain ⟨⟨x, f⟩, hx⟩ := at_lt (show k < ps.length by omega)
    obtain ⟨b, o, Ak, ck, rfl, hb, hc0, hc1, hlc, hcm, hM⟩ := h k x f hx
    have H : Hid (degE ps = ((total f : Nat) : Int)) := by
      unfold degE
      rw [Hid, if_neg (by omega), show ps.length - 1 = k by omega, getD_at hx]
    have hle1 := szTo_step hx
    have hle2 := szTo_le ps (k + 1)
    have htot : tot f = f.length + total f := rfl
    have hfl : f.length + total f ≤ 1048576 := by omega
    have z := beq_f (show ¬ (n : Int) = 0 by omega)
    have hm1 : IntKind.i64.wrap ((n : Int) - 1) = (k : Int) := by rw [IntWalk.i64_in _ (by omega)]; omega
    have hm2 : (n : Int) - 1 = (k : Int) := by omega
    have HM := Lib.hid hM
    clear hle1 hle2 htot hM hx hl hk
    go_enter Try.func110, Try.ntmps110
    go_wp2_with fail
    refine (nodesOf_any Ak f.length ck B f _ rfl hfl HM.out).mono ?_
    rintro e w' ⟨rfl, rfl⟩
    rw [← H.out]
    go_wp2
    go_ret
    exact ⟨rfl, Below.refl _ _⟩
theorem sDegreeOf_any (A : Option Addr) (n c B : Nat) (ps : List (Int × List (List Int))) (w : World) (hl : ps.length = n) (hn : n ≤ 1048576) (ht : szP ps ≤ 1048576) (hB : B ≤ w.heap.size) (h : Prts w B A ps) :
    Calls Try.prog 56 #[.slice A n c] w (ResI (degA ps) w) := by
  have C0 := l06Is_any A n c B ps w hl hn ht hB h
  have HL := Lib.hid hl
  have HT := Lib.hid ht
  have HP := Lib.hid h
  cases hv : isE ps
  · have G : Hid (degA ps = (0, 1)) := if_neg (by rw [hv]; simp)
    rw [hv] at C0
    clear hl h hv ht
    go_enter Try.func56, Try.ntmps56
    go_wp2_with fail
    refine C0.mono ?_
    rintro e w1 ⟨rfl, y⟩
    have Y := Lib.hid y
    clear y C0
    go_wp2
    go_ret2
    exact ResI.of' G.out Y.out
  · have G : Hid (degA ps = (degE ps, 0)) := if_pos hv
    rw [hv] at C0
    clear hl h hv ht
    go_enter Try.func56, Try.ntmps56
    go_wp2_with fail
    refine C0.mono ?_
    rintro e w1 ⟨rfl, y⟩
    have Y := Lib.hid y
    clear y C0
    go_wp2_with fail
    refine (l06Degree_any A n c B ps w1 HL.out hn HT.out (HP.out.below Y.out hB)).mono ?_
    rintro e w' ⟨rfl, rfl⟩
    go_wp2
    go_ret2
    exact ResI.of' G.out Y.out
theorem pDegreeOf_any (A : Option Addr) (n c B : Nat) (ps : List (Int × List (List Int))) (w : World) (hl : ps.length = n) (hn : n ≤ 1048576) (ht : szP ps ≤ 1048576) (hB : B ≤ w.heap.size) (h : Prts w B A ps) :
    Calls Try.prog 57 #[.slice A n c] w (ResI (degA ps) w) := by
  have C0 := isElement_any A n c B ps w hl hn ht hB h
  have HL := Lib.hid hl
  have HT := Lib.hid ht
  have HP := Lib.hid h
  cases hv : isE ps
  · have G : Hid (degA ps = (0, 1)) := if_neg (by rw [hv]; simp)
    rw [hv] at C0
    clear hl h hv ht
    go_enter Try.func57, Try.ntmps57
    go_wp2_with fail
    refine C0.mono ?_
    rintro e w1 ⟨rfl, y⟩
    have Y := Lib.hid y
    clear y C0
    go_wp2
    go_ret2
    exact ResI.of' G.out Y.out
  · have G : Hid (degA ps = (degE ps, 0)) := if_pos hv
    rw [hv] at C0
    clear hl h hv ht
    go_enter Try.func57, Try.ntmps57
    go_wp2_with fail
    refine C0.mono ?_
    rintro e w1 ⟨rfl, y⟩
    have Y := Lib.hid y
    clear y C0
    go_wp2_with fail
    refine (degreeOf_any A n c B ps w1 HL.out hn HT.out (HP.out.below Y.out hB)).mono ?_
    rintro e w2 ⟨rfl, y⟩
    have Z := Lib.hid (Y.out.trans (y.mono Y.out.size))
    clear y
    go_wp2
    go_ret2
    exact ResI.of' G.out Z.out
end Go.Proofs.Ytjmjdcfgbaepkaa
namespace Go.Proofs.Ytjmjdcfgbaepkaa.fnExactDegreeOf
open Go.ChangeShapes Go.WideShapes Go.ChangeAt Go.RowKit Fld
set_option linter.unusedVariables false
set_option linter.unusedSimpArgs false
set_option maxRecDepth 100000

set_option maxHeartbeats 4000000 in
theorem walk (w : World) (a0 : Option Addr) (len0 cap0 : Nat) (z0 : List (Int × List (List Int))) (w0 : IsParts w a0 len0 cap0 z0) : Calls Try.prog 8 #[.slice a0 len0 cap0] w fun e w' => e = .returned (.bool true) ∧ Below w.heap.size w w' := by
  obtain ⟨hl0, hlc0, hcm0, row0, _⟩ := w0
  have HL := Lib.hid hl0
  have P0 := Lib.hid row0
  unfold maxLen at hcm0
  have hz := szTo_le z0 0
  rw [hl0] at hz
  clear hl0 row0
  by_cases hfit : ((szP z0 : Nat) : Int) ≤ 1048576
  · have G := Lib.hid (szR_pos hfit)
    have hn : len0 ≤ 1048576 := by omega
    have ht : szP z0 ≤ 1048576 := by omega
    have hd : decide ((1048576 : Int) - ((szP z0 : Nat) : Int) < 0) = false := decide_eq_false (by omega)
    obtain ⟨sz, hsz⟩ : ∃ sz, sz = szP z0 := ⟨_, rfl⟩
    rw [← hsz] at G hd hfit
    have HT := Lib.hid ht
    clear hz ht
    go_enter Try.func8, Try.ntmps8
    go_wp2_with fail
    refine (szPartS_any a0 len0 cap0 w.heap.size z0 1048576 w HL.out (by omega) (Nat.le_refl _) P0.out (by omega) (by omega)).mono ?_
    rintro e u1 ⟨rfl, y⟩
    rw [← hsz, G.out]
    replace P0 := Lib.hid (P0.out.next y)
    have B := Lib.hid y
    clear y hsz
    go_wp2_with fail
    refine (toPartS_any a0 len0 cap0 u1.heap.size z0 u1 HL.out hn HT.out (Nat.le_refl _) P0.out).mono ?_
    rintro e u2 ⟨A1, rfl, p1, y⟩
    replace P0 := Lib.hid (P0.out.next y)
    replace B := Lib.hid (B.out.trans (y.mono B.out.size))
    have P1 := Lib.hid p1
    clear p1 y
    go_wp2_with fail
    refine (sDegreeOf_any A1 len0 len0 u2.heap.size z0 u2 HL.out hn HT.out (Nat.le_refl _) P1.out).mono ?_
    rintro e u3 ⟨rfl, y⟩
    obtain ⟨v, hv⟩ : ∃ v, v = (degA z0).1 := ⟨_, rfl⟩
    obtain ⟨c, hc⟩ : ∃ c, c = (degA z0).2 := ⟨_, rfl⟩
    have HV := Lib.hid hv
    have HC := Lib.hid hc
    rw [← hv, ← hc]
    have zv : (v != v) = false := bne_f rfl
    have zc : (c != c) = false := bne_f rfl
    clear hv hc
    replace P0 := Lib.hid (P0.out.next y)
    replace B := Lib.hid (B.out.trans (y.mono B.out.size))
    clear y P1
    go_wp2_with fail
    refine (toPartS_any a0 len0 cap0 u3.heap.size z0 u3 HL.out hn HT.out (Nat.le_refl _) P0.out).mono ?_
    rintro e u4 ⟨A2, rfl, p1, y⟩
    replace P0 := Lib.hid (P0.out.next y)
    replace B := Lib.hid (B.out.trans (y.mono B.out.size))
    have P1 := Lib.hid p1
    clear p1 y
    go_wp2_with fail
    refine (pDegreeOf_any A2 len0 len0 u4.heap.size z0 u4 HL.out hn HT.out (Nat.le_refl _) P1.out).mono ?_
    rintro e u5 ⟨rfl, y⟩
    rw [← HV.out, ← HC.out]
    replace P0 := Lib.hid (P0.out.next y)
    replace P1 := Lib.hid (P1.out.next y)
    replace B := Lib.hid (B.out.trans (y.mono B.out.size))
    clear y
    go_wp2_with fail
    refine (toPartS_any a0 len0 cap0 u5.heap.size z0 u5 HL.out hn HT.out (Nat.le_refl _) P0.out).mono ?_
    rintro e u6 ⟨A3, rfl, p3, y⟩
    replace P1 := Lib.hid (P1.out.next y)
    replace B := Lib.hid (B.out.trans (y.mono B.out.size))
    have P3 := Lib.hid p3
    clear p3 y P0
    go_wp2_with fail
    refine (eqPartS_same A2 A3 len0 len0 len0 u6.heap.size u6.heap.size z0 u6 HL.out hn HT.out (Nat.le_refl _) (Nat.le_refl _) P1.out P3.out).mono ?_
    rintro e u7 ⟨rfl, y⟩
    replace B := Lib.hid (B.out.trans (y.mono B.out.size))
    clear y P1 P3
    go_wp2
    go_ret
    exact ⟨rfl, B.out⟩
  · have G := Lib.hid (szR_neg (left := 1048576) (used := szP z0) (by omega))
    clear hz
    go_enter Try.func8, Try.ntmps8
    go_wp2_with fail
    refine (szPartS_any a0 len0 cap0 w.heap.size z0 1048576 w HL.out (by omega) (Nat.le_refl _) P0.out (by omega) (by omega)).mono ?_
    rintro e u1 ⟨rfl, y⟩
    rw [G.out]
    have B := Lib.hid y
    clear y
    go_wp2
    go_ret
    exact ⟨rfl, B.out⟩
/-- the statement -/
theorem holds : Rows.FnExactDegreeOfSaid := of_walk walk
end Go.Proofs.Ytjmjdcfgbaepkaa.fnExactDegreeOf
