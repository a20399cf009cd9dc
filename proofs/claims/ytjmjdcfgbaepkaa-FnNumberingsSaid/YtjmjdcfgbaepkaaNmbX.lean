/-
  The numbers of numberings, the program's and the model's.
-/
import Derived.Test.YtjmjdcfgbaepkaaNmb
import Derived.Test.YtjmjdcfgbaepkaaResN
import Derived.Test.YtjmjdcfgbaepkaaResO
import Derived.Test.YtjmjdcfgbaepkaaCan
import Derived.Test.YtjmjdcfgbaepkaaParts
import Derived.Test.YtjmjdcfgbaepkaaTreeC
namespace Go.Proofs.Ytjmjdcfgbaepkaa
open Go.RowKit Fld
set_option linter.unusedVariables false
set_option linter.unusedSimpArgs false
set_option maxRecDepth 100000

def numA (g : Nat) (t : List Int) (k : Int) : Int × Int := if Tr.isLv t = true then (if 0 ≤ k ∧ k ≤ 10 then ((Tr.nm g (Tr.txt t)).getD k.toNat 0, 0) else (0, 2)) else (0, 1)
theorem numA_no {g : Nat} {t : List Int} {k : Int} (h : Tr.isLv t = false) : numA g t k = (0, 1) := if_neg (by rw [h]; simp)
theorem numA_out {g : Nat} {t : List Int} {k : Int} (h : Tr.isLv t = true) (hk : ¬ (0 ≤ k ∧ k ≤ 10)) : numA g t k = (0, 2) := by unfold numA; rw [if_pos h, if_neg hk]
theorem numA_yes {g : Nat} {t : List Int} {k : Nat} (h : Tr.isLv t = true) (hk : k ≤ 10) : numA g t (k : Int) = ((Tr.nm g (Tr.txt t)).getD k 0, 0) := by unfold numA; rw [if_pos h, if_pos (by omega)]; rfl
theorem idx_a11 (a0 a1 a2 a3 a4 a5 a6 a7 a8 a9 a10 zz : Int) (kn : Nat) (hk : kn ≤ 10) (hat : ([.int .i64 a0, .int .i64 a1, .int .i64 a2, .int .i64 a3, .int .i64 a4, .int .i64 a5, .int .i64 a6, .int .i64 a7, .int .i64 a8, .int .i64 a9, .int .i64 a10] : List Value)[kn]? = some (.int .i64 zz)) (W : World) :
    (Instr.index 141 (.agg #[.int .i64 a0, .int .i64 a1, .int .i64 a2, .int .i64 a3, .int .i64 a4, .int .i64 a5, .int .i64 a6, .int .i64 a7, .int .i64 a8, .int .i64 a9, .int .i64 a10]) (.int .i64 kn)).run Try.prog W = .ok (.int .i64 zz) W := by
  have hn : (0 ≤ (kn : Int) ∧ (kn : Int) < 11) := by omega
  simp [Instr.index, run_underlying Try.underlying141, asIntOf, hn, go_sem]
  rw [if_pos (by omega), hat]
  simp [go_sem]
set_option maxHeartbeats 1000000 in
theorem countNumberings_any (A : Option Addr) (n c B g : Nat) (t : List Int) (k : Int) (w : World) (hg : g ≤ 1) (hl : t.length = n) (hn : n ≤ 1048576) (hB : B ≤ w.heap.size) (h : Row w B A (ints t)) (hc : n ≤ c) :
    Calls Try.prog 71 #[.slice A n c, .int .i64 k, .int .i64 g] w (ResI (numA g t k) w) := by
  have C0 := isLevels_any A n c B t w hl (by omega) h
  cases hlv : Tr.isLv t
  · have G := Lib.hid (numA_no (g := g) (k := k) hlv)
    rw [hlv] at C0
    clear hl hlv
    go_enter Try.func71, Try.ntmps71
    go_wp2_with fail
    refine C0.mono ?_
    rintro e w' ⟨rfl, m, rfl⟩
    go_wp2
    go_ret2
    exact ResI.of' G.out (below_drewN (Below.refl _ _) _)
  · rw [hlv] at C0
    by_cases h0 : k < 0
    · have G := Lib.hid (numA_out (g := g) (k := k) hlv (by omega))
      have d0 : decide (k < 0) = true := decide_eq_true h0
      clear hl hlv
      go_enter Try.func71, Try.ntmps71
      go_wp2_with fail
      refine C0.mono ?_
      rintro e w' ⟨rfl, m, rfl⟩
      go_wp2
      go_ret2
      exact ResI.of' G.out (below_drewN (Below.refl _ _) _)
    · have d0 : decide (k < 0) = false := decide_eq_false h0
      by_cases h1 : 10 < k
      · have G := Lib.hid (numA_out (g := g) (k := k) hlv (by omega))
        have d1 : decide (10 < k) = true := decide_eq_true h1
        clear hl hlv
        go_enter Try.func71, Try.ntmps71
        go_wp2_with fail
        refine C0.mono ?_
        rintro e w' ⟨rfl, m, rfl⟩
        go_wp2
        go_ret2
        exact ResI.of' G.out (below_drewN (Below.refl _ _) _)
      · have d1 : decide (10 < k) = false := decide_eq_false h1
        obtain ⟨kn, rfl⟩ : ∃ kn : Nat, k = (kn : Int) := ⟨k.toNat, by omega⟩
        have hk10 : kn ≤ 10 := by omega
        have G := Lib.hid (numA_yes (g := g) hlv hk10)
        have hx := Tr.tx_txt hlv
        obtain ⟨b1, b8⟩ := lv_bd hlv
        rw [hl] at b1 b8
        obtain ⟨_, hnl, _⟩ := Tr.nm_parts hg hx
        have C3 := fun w => numberings_any g (Tr.txt t) w hg hx
        have hat : (Tr.nm g (Tr.txt t))[kn]? = some ((Tr.nm g (Tr.txt t)).getD kn 0) := by rw [List.getD_eq_getElem?_getD, List.getElem?_eq_getElem (by omega)]; rfl
        obtain ⟨ys, hys⟩ : ∃ ys, ys = Tr.nm g (Tr.txt t) := ⟨_, rfl⟩
        rw [← hys] at hat hnl G
        simp only [← hys] at C3
        obtain ⟨zz, hzz⟩ : ∃ z, z = ys.getD kn 0 := ⟨_, rfl⟩
        rw [← hzz] at hat G
        obtain ⟨a0, a1, a2, a3, a4, a5, a6, a7, a8, a9, a10, rfl⟩ := eleven ys hnl
        simp only [ints, intsK, List.map_cons, List.map_nil] at C3
        have HL := Lib.hid hl
        have hat2 : ([a0, a1, a2, a3, a4, a5, a6, a7, a8, a9, a10].map fun x => Value.int IntKind.i64 x)[kn]? = some (.int .i64 zz) := by rw [List.getElem?_map, hat]; rfl
        simp only [List.map_cons, List.map_nil] at hat2
        have hidx := idx_a11 a0 a1 a2 a3 a4 a5 a6 a7 a8 a9 a10 zz kn hk10 hat2
        clear hl hlv hx hys hzz hnl hat hat2 h0 h1
        go_enter Try.func71, Try.ntmps71
        go_wp2_with fail
        refine C0.mono ?_
        rintro e w' ⟨rfl, m, rfl⟩
        go_wp2_with fail
        refine (treeOf_any A n c B t _ HL.out b1 b8 hc (by exact hB) (h.drewN m)).mono ?_
        rintro e w2 ⟨rfl, bel2⟩
        go_wp2_with fail
        refine (C3 _).mono ?_
        rintro e w3 ⟨rfl, bel3⟩
        have GB : Hid (Below w.heap.size w w3) := (below_undrew' bel2).trans (bel3.mono bel2.size)
        clear bel2 bel3 C3 C0
        go_wp2
        go_ret2
        exact ResI.of' G.out GB.out
def SNm (d : Nat) : Prop := ∀ (g m root : Nat) (A : Option Addr) (n c B : Nat) (t : List Int) (w : World), g ≤ 1 → m < 10 → root + m ≤ 10 → 1 ≤ root → t.length = n → n ≤ d → Tr.isLv t = true → B ≤ w.heap.size → Row w B A (ints t) →
  Calls Try.prog 122 #[.slice A n c, .int .i64 root, .int .i64 ((root + m : Nat) : Int), .int .i64 g] w (Res1 ((Tr.rn g t).getD m 0) w)
set_option maxHeartbeats 2000000 in
theorem sNm_succ (d : Nat) (IH : SNm d) : SNm (d + 1) := by
  intro g m root A n c B t w hg hm hrm hr1 hl hnd hlv hB h
  have n8 : n ≤ 8 := by have := (Tr.isLv_iff.1 hlv).2.1; omega
  obtain ⟨_, PS, P7⟩ := Tr.can_parts hlv
  obtain ⟨hD, _, hK, _⟩ := (Tr.rn_parts hg hlv).2.1 m hm
  have HD := Lib.hid hD
  have HK := Lib.hid hK
  have HPS := Lib.hid PS
  have HL := Lib.hid hl
  have HDN : Hid (∀ p ∈ Tr.partsL t, ∀ i, i ≤ 10 → 0 ≤ Tr.dnS (Tr.rn g p) (m - g) i ∧ Tr.dnS (Tr.rn g p) (m - g) i ≤ 1000000000) := fun p hp i hi => ((Tr.rn_parts hg (PS p hp).1).2.1 (m - g) (by omega)).2.2.2 i hi
  obtain ⟨P, hP⟩ : ∃ P, P = (Tr.partsL t).length := ⟨_, rfl⟩
  have HP : Hid ((Tr.partsL t).length = P) := hP.symm
  have C0 := l03Parts_any A n c B t w hl hlv hB h
  rw [HP.out] at C0
  have hP7 : P ≤ 7 := by rw [hP]; exact P7
  obtain ⟨kk, hkk⟩ : ∃ kk, kk = root + m := ⟨_, rfl⟩
  have HKK := Lib.hid hkk
  rw [← hkk]
  have hk10 : kk ≤ 10 := by omega
  clear hl hlv PS P7 hP hD hK hkk
  go_enter Try.func122, Try.ntmps122
  go_wp2_with fail
  refine C0.mono ?_
  rintro e w1 ⟨Ap, cp, pvs, rfl, ownp, belp⟩
  have HMP : Hid (Mat w1 w1.heap.size Ap (Tr.partsL t)) := ownp.mat
  have HB1 := Lib.hid belp
  have hs1 := belp.size
  clear ownp belp C0
  go_wp2_with fail
  go_loopw [9, 11] (fun v i wr => ∃ k : Nat, k ≤ P ∧ v = .int .i64 (Tr.mulK (Tr.rnS g m) 1 (Tr.partsL t) k) ∧ i = .int .i64 k ∧ Hid (Below w1.heap.size w1 wr)) (fun _ i _ => P - (intOf i).toNat)
  case atStart => exact ⟨0, Nat.zero_le _, by simp [Tr.mulK_zero], rfl, Below.refl _ _⟩
  case round =>
    obtain ⟨k, hk, rfl, rfl, HBw⟩ := hrel
    have hsz := HBw.out.size
    by_cases hlt : k < P
    · obtain ⟨p, hp⟩ := at_lt (show k < (Tr.partsL t).length by rw [HP.out]; exact hlt)
      obtain ⟨hpl, hpt⟩ := HPS.out p (List.mem_of_getElem? hp)
      have HDP := Lib.hid (HDN.out p (List.mem_of_getElem? hp))
      have HAT := Lib.hid hp
      have HPL := Lib.hid hpl
      have hplen : p.length ≤ d := by have := HL.out; omega
      have hk2 := HK.out (k + 1) (by rw [HP.out]; omega)
      have hstep := Tr.mulK_step (f := Tr.rnS g m) (a := 1) hp
      obtain ⟨a, ha⟩ : ∃ a, a = Tr.mulK (Tr.rnS g m) 1 (Tr.partsL t) k := ⟨_, rfl⟩
      rw [hstep] at hk2
      rw [← ha] at hk2 ⊢
      have HST : Hid (Tr.mulK (Tr.rnS g m) 1 (Tr.partsL t) (k + 1) = a * Tr.rnS g m p) := by rw [ha]; exact hstep
      have HK2 := Lib.hid hk2
      have hrg : IntKind.i64.wrap ((root : Int) + (g : Int)) = ((root + g : Nat) : Int) := by rw [IntWalk.i64_in _ (by omega)]; omega
      clear hp hpl hpt hstep ha hk2
      go_wp2_with fail
      go_loopw [12, 13] (fun v nx wr => ∃ i : Nat, i ≤ m + 1 - g ∧ v = .int .i64 (Tr.dnS (Tr.rn g p) (m - g) i) ∧ nx = .int .i64 ((root + g + i : Nat) : Int) ∧ Hid (Below w1.heap.size w1 wr)) (fun _ nx _ => 12 - (intOf nx).toNat)
      case atStart => exact ⟨0, Nat.zero_le _, rfl, rfl, HBw.out⟩
      case round =>
        obtain ⟨i, hi, rfl, rfl, HBw⟩ := hrel
        have hsz := HBw.out.size
        by_cases hil : i < m + 1 - g
        · have hle : decide (((root + g + i : Nat) : Int) ≤ (kk : Int)) = true := decide_eq_true (by have := HKK.out; omega)
          obtain ⟨bp, op, Ak, ck, rfl, hbp, hcp, hlc, hcm, hrp⟩ := HMP.out.below HBw.out (Nat.le_refl _) k p HAT.out
          have C2 := IH g (m - g - i) (root + g + i) Ak p.length ck w1.heap.size p wr hg (by omega) (by omega) (by omega) rfl hplen HPL.out hsz hrp
          rw [show root + g + i + (m - g - i) = kk from by have := HKK.out; omega] at C2
          have hb2 := HDP.out (i + 1) (by omega)
          have HS2 : Hid (Tr.dnS (Tr.rn g p) (m - g) (i + 1) = Tr.dnS (Tr.rn g p) (m - g) i + (Tr.rn g p).getD (m - g - i) 0) := rfl
          rw [HS2.out] at hb2
          obtain ⟨s1, hs1'⟩ : ∃ s, s = Tr.dnS (Tr.rn g p) (m - g) i := ⟨_, rfl⟩
          obtain ⟨z, hz⟩ : ∃ z, z = (Tr.rn g p).getD (m - g - i) 0 := ⟨_, rfl⟩
          rw [← hs1', ← hz] at HS2 hb2
          rw [← hs1']
          rw [← hz] at C2
          have hadd : IntKind.i64.wrap (s1 + z) = s1 + z := IntWalk.i64_in _ (by omega)
          have HBW := Lib.hid HBw.out
          obtain ⟨nx, hnx⟩ : ∃ nx, nx = root + g + i := ⟨_, rfl⟩
          have HNX := Lib.hid hnx
          rw [← hnx] at C2 hle ⊢
          have hlN : decide (nx ≤ kk) = true := decide_eq_true (by have := HKK.out; have := HNX.out; omega)
          have hnx11 : nx ≤ 11 := by omega
          clear hs1' hz hbp hlc hcm hrp HBw hnx
          go_wp2_with fail
          refine C2.mono ?_
          rintro e w2 ⟨rfl, bel2⟩
          have HB2 : Hid (Below w1.heap.size w1 w2) := HBW.out.trans (bel2.mono hsz)
          clear bel2 C2 hcp
          go_wp2
          go_roundw
          case rel => exact ⟨i + 1, by omega, by rw [HS2.out], by (have := HNX.out); go_num, HB2.out⟩
          case measure => simp [intOf]; omega
        · obtain rfl : i = m + 1 - g := by omega
          have hle : decide (((root + g + (m + 1 - g) : Nat) : Int) ≤ (kk : Int)) = false := decide_eq_false (by have := HKK.out; omega)
          obtain ⟨nx, hnx⟩ : ∃ nx, nx = root + g + (m + 1 - g) := ⟨_, rfl⟩
          rw [← hnx] at hle ⊢
          have hlN : decide (nx ≤ kk) = false := decide_eq_false (by have := HKK.out; omega)
          have hmul : IntKind.i64.wrap (a * Tr.dnS (Tr.rn g p) (m - g) (m + 1 - g)) = a * Tr.dnS (Tr.rn g p) (m - g) (m + 1 - g) := IntWalk.i64_in _ (by have := HK2.out; unfold Tr.rnS at this; omega)
          have HST2 : Hid (Tr.mulK (Tr.rnS g m) 1 (Tr.partsL t) (k + 1) = a * Tr.dnS (Tr.rn g p) (m - g) (m + 1 - g)) := HST.out
          obtain ⟨s1, hs1'⟩ : ∃ s, s = Tr.dnS (Tr.rn g p) (m - g) (m + 1 - g) := ⟨_, rfl⟩
          rw [← hs1'] at hmul HST2 ⊢
          have HB2 := Lib.hid HBw.out
          clear hs1' hnx HBw
          go_wp2
          go_roundw
          case rel => exact ⟨k + 1, by omega, by rw [HST2.out], by go_num, HB2.out⟩
          case measure => simp [intOf]; omega
    · obtain rfl : k = P := by omega
      have G : Hid (Res1 ((Tr.rn g t).getD m 0) w (.returned (.int .i64 (Tr.mulK (Tr.rnS g m) 1 (Tr.partsL t) k))) wr) :=
        Res1.of (by rw [HD.out, HP.out]) (HB1.out.trans (HBw.out.mono hs1))
      clear HBw
      go_wp2
      go_ret
      exact G.out
theorem l05Numberings_any (g m root : Nat) (A : Option Addr) (n c B : Nat) (t : List Int) (w : World) (hg : g ≤ 1) (hm : m < 10) (hrm : root + m ≤ 10) (hr : 1 ≤ root) (hl : t.length = n) (hlv : Tr.isLv t = true) (hB : B ≤ w.heap.size) (h : Row w B A (ints t)) :
    Calls Try.prog 122 #[.slice A n c, .int .i64 root, .int .i64 ((root + m : Nat) : Int), .int .i64 g] w (Res1 ((Tr.rn g t).getD m 0) w) := by
  have key : ∀ d, SNm d := fun d => by
    induction d with
    | zero => intro g m root A n c B t w _ _ _ _ hl hn hlv; have := (Tr.isLv_iff.1 hlv).1; omega
    | succ d ih => exact sNm_succ d ih
  exact key n g m root A n c B t w hg hm hrm hr hl (Nat.le_refl _) hlv hB h
set_option maxHeartbeats 1000000 in
theorem l05Numbered_any (A : Option Addr) (n c B g : Nat) (t : List Int) (k : Int) (w : World) (hg : g ≤ 1) (hl : t.length = n) (hn : n ≤ 1048576) (hB : B ≤ w.heap.size) (h : Row w B A (ints t)) :
    Calls Try.prog 72 #[.slice A n c, .int .i64 k, .int .i64 g] w (ResI (numA g t k) w) := by
  have C0 := l03Is_any A n c B t w hl hn h
  cases hlv : Tr.isLv t
  · have G := Lib.hid (numA_no (g := g) (k := k) hlv)
    rw [hlv] at C0
    clear hl hlv
    go_enter Try.func72, Try.ntmps72
    go_wp2_with fail
    refine C0.mono ?_
    rintro e w' ⟨rfl, m, rfl⟩
    go_wp2
    go_ret2
    exact ResI.of' G.out (below_drewN (Below.refl _ _) _)
  · rw [hlv] at C0
    have C1 := fun w => l01In_any k 0 10 w
    by_cases h0 : 0 ≤ k ∧ k ≤ 10
    · rw [show isIn k 0 10 = true from decide_eq_true h0] at C1
      obtain ⟨kn, rfl⟩ : ∃ kn : Nat, k = (kn : Int) := ⟨k.toNat, by omega⟩
      have hk10 : kn ≤ 10 := by omega
      obtain ⟨_, q1, q2⟩ := Tr.rn_parts hg hlv
      have G : Hid (numA g t (kn : Int) = (Tr.dnS (Tr.rn g t) (kn - 1) kn, 0)) := by rw [Hid, numA_yes hlv hk10, q2 kn hk10]
      have HB : Hid (∀ i, i ≤ kn → 0 ≤ Tr.dnS (Tr.rn g t) (kn - 1) i ∧ Tr.dnS (Tr.rn g t) (kn - 1) i ≤ 1000000000) := fun i hi => (q1 (kn - 1) (by omega)).2.2.2 i (by omega)
      have HL := Lib.hid hl
      have HLV := Lib.hid hlv
      clear hl hlv q1 q2 h0
      go_enter Try.func72, Try.ntmps72
      go_wp2_with fail
      refine C0.mono ?_
      rintro e w' ⟨rfl, d, rfl⟩
      go_wp2_with fail
      refine (C1 _).mono ?_
      rintro e w' ⟨rfl, rfl⟩
      have B1 : Hid (Below w.heap.size w (w.drewN d)) := below_drewN (Below.refl _ _) d
      have hW1 : w.heap.size ≤ (w.drewN d).heap.size := B1.out.size
      generalize w.drewN d = W1 at *
      go_wp2_with fail
      go_loopw [8, 9] (fun v ii wr => ∃ i : Nat, i ≤ kn ∧ v = .int .i64 (Tr.dnS (Tr.rn g t) (kn - 1) i) ∧ ii = .int .i64 ((i + 1 : Nat) : Int) ∧ Hid (Below w.heap.size w wr)) (fun _ ii _ => 12 - (intOf ii).toNat)
      case atStart => exact ⟨0, Nat.zero_le _, rfl, rfl, B1.out⟩
      case round =>
        obtain ⟨i, hi, rfl, rfl, HBw⟩ := hrel
        have hsz := HBw.out.size
        by_cases hil : i < kn
        · have hle : decide (((i + 1 : Nat) : Int) ≤ (kn : Int)) = true := decide_eq_true (by omega)
          have hlN : decide (i + 1 ≤ kn) = true := decide_eq_true (by omega)
          have C2 := l05Numberings_any g (kn - 1 - i) (i + 1) A n c B t wr hg (by omega) (by omega) (by omega) HL.out HLV.out (by omega) (h.below HBw.out hB)
          rw [show i + 1 + (kn - 1 - i) = kn from by omega] at C2
          have hb2 := HB.out (i + 1) (by omega)
          have HS2 : Hid (Tr.dnS (Tr.rn g t) (kn - 1) (i + 1) = Tr.dnS (Tr.rn g t) (kn - 1) i + (Tr.rn g t).getD (kn - 1 - i) 0) := rfl
          rw [HS2.out] at hb2
          obtain ⟨s1, hs1'⟩ : ∃ s, s = Tr.dnS (Tr.rn g t) (kn - 1) i := ⟨_, rfl⟩
          obtain ⟨z, hz⟩ : ∃ z, z = (Tr.rn g t).getD (kn - 1 - i) 0 := ⟨_, rfl⟩
          rw [← hs1', ← hz] at HS2 hb2
          rw [← hs1']
          rw [← hz] at C2
          have hadd : IntKind.i64.wrap (s1 + z) = s1 + z := IntWalk.i64_in _ (by omega)
          have HBW := Lib.hid HBw.out
          obtain ⟨nx, hnx⟩ : ∃ nx, nx = i + 1 := ⟨_, rfl⟩
          have HNX := Lib.hid hnx
          rw [← hnx] at C2 hle hlN ⊢
          have hnx11 : nx ≤ 11 := by omega
          clear hs1' hz HBw hnx
          go_wp2_with fail
          refine C2.mono ?_
          rintro e w2 ⟨rfl, bel2⟩
          have HB2 : Hid (Below w.heap.size w w2) := HBW.out.trans (bel2.mono hsz)
          clear bel2 C2
          go_wp2
          go_roundw
          case rel => exact ⟨i + 1, by omega, by rw [HS2.out], by (have := HNX.out); go_num, HB2.out⟩
          case measure => simp [intOf]; omega
        · obtain rfl : i = kn := by omega
          have hle : decide (((i + 1 : Nat) : Int) ≤ (i : Int)) = false := decide_eq_false (by omega)
          have hlN : decide (i + 1 ≤ i) = false := decide_eq_false (by omega)
          have HB2 := Lib.hid HBw.out
          clear HBw
          go_wp2
          go_ret2
          exact ResI.of' G.out HB2.out
    · rw [show isIn k 0 10 = false from decide_eq_false h0] at C1
      have G := Lib.hid (numA_out (g := g) hlv h0)
      clear hl hlv h0
      go_enter Try.func72, Try.ntmps72
      go_wp2_with fail
      refine C0.mono ?_
      rintro e w' ⟨rfl, m, rfl⟩
      go_wp2_with fail
      refine (C1 _).mono ?_
      rintro e w' ⟨rfl, rfl⟩
      go_wp2
      go_ret2
      exact ResI.of' G.out (below_drewN (Below.refl _ _) _)
def countRisingA (t : List Int) (k : Int) : Int × Int := numA 0 t k
theorem pCountRising_L (A : Option Addr) (n c B : Nat) (t : List Int) (k : Int) (w : World) (hl : t.length = n) (hn : n ≤ 1048576) (hB : B ≤ w.heap.size) (h : Row w B A (ints t)) (hk : -9223372036854775808 ≤ k ∧ k ≤ 9223372036854775807) (hc : n ≤ c) :
    Calls Try.prog 18 #[.slice A n c, .int .i64 k] w (ResI (countRisingA t k) w) := by
  have C0 := countNumberings_any A n c B 0 t k w (by omega) hl hn hB h hc
  unfold countRisingA
  obtain ⟨r, hr⟩ : ∃ r, r = numA 0 t k := ⟨_, rfl⟩
  rw [← hr] at C0 ⊢
  clear hl h hr
  go_enter Try.func18, Try.ntmps18
  go_wp2_with fail
  refine C0.mono ?_
  rintro e w' ⟨rfl, hb⟩
  have HB := Lib.hid hb
  clear hb C0
  go_wp2
  go_ret2
  exact ⟨rfl, HB.out⟩
theorem sCountRising_L (A : Option Addr) (n c B : Nat) (t : List Int) (k : Int) (w : World) (hl : t.length = n) (hn : n ≤ 1048576) (hB : B ≤ w.heap.size) (h : Row w B A (ints t)) (hk : -9223372036854775808 ≤ k ∧ k ≤ 9223372036854775807) :
    Calls Try.prog 19 #[.slice A n c, .int .i64 k] w (ResI (countRisingA t k) w) := by
  have C0 := l05Numbered_any A n c B 0 t k w (by omega) hl hn hB h
  unfold countRisingA
  obtain ⟨r, hr⟩ : ∃ r, r = numA 0 t k := ⟨_, rfl⟩
  rw [← hr] at C0 ⊢
  clear hl h hr
  go_enter Try.func19, Try.ntmps19
  go_wp2_with fail
  refine C0.mono ?_
  rintro e w' ⟨rfl, hb⟩
  have HB := Lib.hid hb
  clear hb C0
  go_wp2
  go_ret2
  exact ⟨rfl, HB.out⟩
def countStrictA (t : List Int) (k : Int) : Int × Int := numA 1 t k
theorem pCountStrict_L (A : Option Addr) (n c B : Nat) (t : List Int) (k : Int) (w : World) (hl : t.length = n) (hn : n ≤ 1048576) (hB : B ≤ w.heap.size) (h : Row w B A (ints t)) (hk : -9223372036854775808 ≤ k ∧ k ≤ 9223372036854775807) (hc : n ≤ c) :
    Calls Try.prog 20 #[.slice A n c, .int .i64 k] w (ResI (countStrictA t k) w) := by
  have C0 := countNumberings_any A n c B 1 t k w (by omega) hl hn hB h hc
  unfold countStrictA
  obtain ⟨r, hr⟩ : ∃ r, r = numA 1 t k := ⟨_, rfl⟩
  rw [← hr] at C0 ⊢
  clear hl h hr
  go_enter Try.func20, Try.ntmps20
  go_wp2_with fail
  refine C0.mono ?_
  rintro e w' ⟨rfl, hb⟩
  have HB := Lib.hid hb
  clear hb C0
  go_wp2
  go_ret2
  exact ⟨rfl, HB.out⟩
end Go.Proofs.Ytjmjdcfgbaepkaa
