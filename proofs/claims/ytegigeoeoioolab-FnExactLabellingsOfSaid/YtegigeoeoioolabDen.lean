/-
  Densities.
-/
import Derived.Test.YtegigeoeoioolabBra
import Derived.Test.YtegigeoeoioolabHgt
import Derived.Test.YtegigeoeoioolabCan
import Derived.Test.YtegigeoeoioolabRes1
import Derived.Test.YtegigeoeoioolabParts
import Derived.Test.YtegigeoeoioolabTreeC
namespace Go.Proofs.Ytegigeoeoioolab
open Go.RowKit Fld
set_option linter.unusedVariables false
set_option linter.unusedSimpArgs false
set_option maxRecDepth 100000

/-- one number, with memory made -/
def Res1 (r : Int) (w : World) (e : Ending) (w' : World) : Prop := e = .returned (.int .i64 r) ∧ Below w.heap.size w w'
theorem Res1.of {r x : Int} {w w' : World} (h : r = x) (hb : Below w.heap.size w w') : Res1 r w (.returned (.int .i64 x)) w' := by subst h; exact ⟨rfl, hb⟩
def PDen (d : Nat) : Prop := ∀ (x : List UInt8) (w : World), x.length ≤ d → Tr.isTx x = true → Calls Try.prog 70 #[.string ⟨x.toArray⟩] w (Res1 (Tr.den x) w)
theorem pDen_succ (d : Nat) (IH : PDen d) : PDen (d + 1) := by
  intro x w hxd hx
  obtain ⟨⟨h2, h16⟩, HB, h7⟩ := Tr.br_parts hx
  obtain ⟨hD, hK⟩ := Tr.den_parts hx
  have C1 := fun w => branches_any x w hx
  have C0 := nodes_any x w (by omega)
  have HD := Lib.hid hD
  have HK := Lib.hid hK
  have HBR := Lib.hid HB
  obtain ⟨P, hP⟩ : ∃ P, P = (Tr.brT x).length := ⟨_, rfl⟩
  have HP : Hid ((Tr.brT x).length = P) := hP.symm
  have hP7 : P ≤ 7 := by rw [hP]; exact h7
  have HXD := Lib.hid hxd
  obtain ⟨S, hS⟩ : ∃ S : ByteArray, S = ⟨x.toArray⟩ := ⟨_, rfl⟩
  rw [← hS] at C0 C1 ⊢
  clear hD hK HB h7 hP hxd hx hS
  go_enter Try.func70, Try.ntmps70
  go_wp2_with fail
  refine C0.mono ?_
  rintro e w0 ⟨rfl, rfl⟩
  have hw0 : IntKind.i64.wrap ((x.length / 2 : Nat) : Int) = ((x.length / 2 : Nat) : Int) := IntWalk.i64_in _ (by omega)
  go_wp2_with fail
  refine (C1 _).mono ?_
  rintro e w1 ⟨A, q, c, rfl, hq, own1, bel1⟩
  have hqP : q = P := by rw [hq]; exact HP.out
  subst hqP
  have hs1 := bel1.size
  have HROW : Hid (Row w1 w1.heap.size A (strs (Tr.brT x))) := row_of_own own1
  have HB1 := Lib.hid bel1
  clear hq own1 bel1 C0 C1
  go_wp2_with fail
  go_loopw [3, 11] (fun v i wr => ∃ k : Nat, k ≤ q ∧ v = .int .i64 (Tr.mulK Tr.den ((x.length / 2 : Nat) : Int) (Tr.brT x) k) ∧ i = .int .i64 k ∧ Below w1.heap.size w1 wr) (fun _ i _ => q - (intOf i).toNat)
  case atStart => exact ⟨0, Nat.zero_le _, by simp [Tr.mulK_zero], rfl, Below.refl _ _⟩
  case round =>
    obtain ⟨k, hk, rfl, rfl, HBw⟩ := hrel
    have hsz := HBw.size
    by_cases hlt : k < q
    · obtain ⟨y, hy⟩ := at_lt (show k < (Tr.brT x).length by rw [HP.out]; exact hlt)
      obtain ⟨hyt, hyl⟩ := HBR.out y (List.mem_of_getElem? hy)
      obtain ⟨b, o, rfl, _, hc⟩ := (HROW.out.below HBw (Nat.le_refl _)) k _ (strs_at hy)
      have C2 := fun w => IH y w (by have := HXD.out; omega) hyt
      have hk1 := HK.out k (by rw [HP.out]; omega)
      have hk2 := HK.out (k + 1) (by rw [HP.out]; omega)
      have hstep := Tr.mulK_step (f := Tr.den) (a := ((x.length / 2 : Nat) : Int)) hy
      obtain ⟨a, ha⟩ : ∃ a, a = Tr.mulK Tr.den ((x.length / 2 : Nat) : Int) (Tr.brT x) k := ⟨_, rfl⟩
      rw [hstep] at hk2
      rw [← ha] at hk1 hk2 ⊢
      have HST : Hid (Tr.mulK Tr.den ((x.length / 2 : Nat) : Int) (Tr.brT x) (k + 1) = a * Tr.den y) := by rw [ha]; exact hstep
      obtain ⟨z, hz⟩ : ∃ z, z = Tr.den y := ⟨_, rfl⟩
      rw [← hz] at hk2 HST C2
      obtain ⟨Y, hY⟩ : ∃ Y : ByteArray, Y = ⟨y.toArray⟩ := ⟨_, rfl⟩
      rw [← hY] at C2 hc
      have hmw : IntKind.i64.wrap (a * z) = a * z := IntWalk.i64_in _ (by omega)
      have HBW := Lib.hid HBw
      clear hy hyt hyl hstep ha hz hY HBw hk1
      go_wp2_with fail
      refine (C2 _).mono ?_
      rintro e w2 ⟨rfl, bel2⟩
      have HB2 : Hid (Below w1.heap.size w1 w2) := HBW.out.trans (bel2.mono hsz)
      clear bel2 hk2
      go_wp2
      go_roundw
      case rel => exact ⟨k + 1, by omega, by rw [HST.out], by go_num, HB2.out⟩
      case measure => simp [intOf]; omega
    · obtain rfl : k = q := by omega
      have G : Hid (Res1 (Tr.den x) w (.returned (.int .i64 (Tr.mulK Tr.den ((x.length / 2 : Nat) : Int) (Tr.brT x) k))) wr) :=
        Res1.of (by rw [HD.out, HP.out]) (HB1.out.trans (HBw.mono hs1))
      clear HBw
      go_wp2
      go_ret
      exact G.out
theorem density_any (x : List UInt8) (w : World) (hx : Tr.isTx x = true) : Calls Try.prog 70 #[.string ⟨x.toArray⟩] w (Res1 (Tr.den x) w) := by
  have key : ∀ d, PDen d := fun d => by
    induction d with
    | zero => intro y w hy ht; have := (Tr.br_parts ht).1.1; omega
    | succ d ih => exact pDen_succ d ih
  exact key x.length x w (Nat.le_refl _) hx
def densityA (t : List Int) : Int × Int := if Tr.isLv t = true then (Tr.denM t, 0) else (0, 1)
theorem densityA_yes {t : List Int} (h : Tr.isLv t = true) : densityA t = (Tr.denM t, 0) := if_pos h
theorem densityA_no {t : List Int} (h : Tr.isLv t = false) : densityA t = (0, 1) := if_neg (by rw [h]; simp)
theorem pDensityOf_L (A : Option Addr) (n c B : Nat) (t : List Int) (w : World) (hl : t.length = n) (hn : n ≤ 1048576) (hB : B ≤ w.heap.size) (h : Row w B A (ints t)) (hc : n ≤ c) :
    Calls Try.prog 34 #[.slice A n c] w (ResI (densityA t) w) := by
  have C0 := isLevels_any A n c B t w hl (by omega) h
  cases hlv : Tr.isLv t
  · have G := Lib.hid (densityA_no hlv)
    rw [hlv] at C0
    go_enter Try.func34, Try.ntmps34
    go_wp2_with fail
    refine C0.mono ?_
    rintro e w' ⟨rfl, m, rfl⟩
    go_wp2
    go_ret2
    exact ResI.of' G.out (below_drewN (Below.refl _ _) _)
  · rw [hlv] at C0
    obtain ⟨b1, b8⟩ := lv_bd hlv
    rw [hl] at b1 b8
    have HL := Lib.hid hl
    have G := Lib.hid (densityA_yes hlv)
    have C3 := fun w => density_any (Tr.txt t) w (Tr.tx_txt hlv)
    rw [(Tr.denM_parts hlv).2] at C3
    clear hl hlv
    go_enter Try.func34, Try.ntmps34
    go_wp2_with fail
    refine C0.mono ?_
    rintro e w' ⟨rfl, m, rfl⟩
    go_wp2_with fail
    refine (treeOf_any A n c B t _ HL.out b1 b8 hc (by exact hB) (h.drewN m)).mono ?_
    rintro e w2 ⟨rfl, bel2⟩
    go_wp2_with fail
    refine (C3 _).mono ?_
    rintro e w3 ⟨rfl, bel3⟩
    have GB : Hid (Below w.heap.size w w3) := (below_undrew' bel2).trans (bel3.mono bel2.size)
    clear bel2 bel3
    go_wp2
    go_ret2
    exact ResI.of' G.out GB.out
def SDen (d : Nat) : Prop := ∀ (A : Option Addr) (n c B : Nat) (t : List Int) (w : World), t.length = n → n ≤ d → Tr.isLv t = true → B ≤ w.heap.size → Row w B A (ints t) → Calls Try.prog 69 #[.slice A n c] w (Res1 (Tr.denM t) w)
theorem sDen_succ (d : Nat) (IH : SDen d) : SDen (d + 1) := by
  intro A n c B t w hl hnd hlv hB h
  have n8 : n ≤ 8 := by have := (Tr.isLv_iff.1 hlv).2.1; omega
  obtain ⟨_, PS, P7⟩ := Tr.can_parts hlv
  obtain ⟨⟨hD, hK⟩, _⟩ := Tr.denM_parts hlv
  rw [hl] at hD hK
  have HD := Lib.hid hD
  have HK := Lib.hid hK
  have HPS := Lib.hid PS
  have HL := Lib.hid hl
  obtain ⟨P, hP⟩ : ∃ P, P = (Tr.partsL t).length := ⟨_, rfl⟩
  have HP : Hid ((Tr.partsL t).length = P) := hP.symm
  have C0 := l03Parts_any A n c B t w hl hlv hB h
  rw [HP.out] at C0
  have hP7 : P ≤ 7 := by rw [hP]; exact P7
  clear hl hlv PS P7 hP hD hK
  go_enter Try.func69, Try.ntmps69
  have hw0 : IntKind.i64.wrap (n : Int) = (n : Int) := IntWalk.i64_in _ (by omega)
  go_wp2_with fail
  refine C0.mono ?_
  rintro e w1 ⟨Ap, cp, pvs, rfl, ownp, belp⟩
  have HMP : Hid (Mat w1 w1.heap.size Ap (Tr.partsL t)) := ownp.mat
  have HB1 := Lib.hid belp
  have hs1 := belp.size
  clear ownp belp C0
  go_wp2_with fail
  go_loopw [3, 5] (fun v i wr => ∃ k : Nat, k ≤ P ∧ v = .int .i64 (Tr.mulK Tr.denM (n : Int) (Tr.partsL t) k) ∧ i = .int .i64 k ∧ Below w1.heap.size w1 wr) (fun _ i _ => P - (intOf i).toNat)
  case atStart => exact ⟨0, Nat.zero_le _, by simp [Tr.mulK_zero], rfl, Below.refl _ _⟩
  case round =>
    obtain ⟨k, hk, rfl, rfl, HBw⟩ := hrel
    have hsz := HBw.size
    by_cases hlt : k < P
    · obtain ⟨p, hp⟩ := at_lt (show k < (Tr.partsL t).length by rw [HP.out]; exact hlt)
      obtain ⟨bp, op, Ak, ck, rfl, hbp, hcp, hlc, hcm, hrp⟩ := HMP.out.below HBw (Nat.le_refl _) k p hp
      obtain ⟨hpl, hpt⟩ := HPS.out p (List.mem_of_getElem? hp)
      have C2 := fun w' (hw' : w1.heap.size ≤ w'.heap.size) hr => IH Ak p.length ck w1.heap.size p w' rfl (by have := HL.out; omega) hpl hw' hr
      have hk2 := HK.out (k + 1) (by rw [HP.out]; omega)
      have hstep := Tr.mulK_step (f := Tr.denM) (a := (n : Int)) hp
      obtain ⟨a, ha⟩ : ∃ a, a = Tr.mulK Tr.denM (n : Int) (Tr.partsL t) k := ⟨_, rfl⟩
      rw [hstep] at hk2
      rw [← ha] at hk2 ⊢
      have HST : Hid (Tr.mulK Tr.denM (n : Int) (Tr.partsL t) (k + 1) = a * Tr.denM p) := by rw [ha]; exact hstep
      obtain ⟨z, hz⟩ : ∃ z, z = Tr.denM p := ⟨_, rfl⟩
      rw [← hz] at hk2 HST C2
      have hmw : IntKind.i64.wrap (a * z) = a * z := IntWalk.i64_in _ (by omega)
      have HBW := Lib.hid HBw
      clear hp hpl hpt hstep ha hz HBw
      go_wp2_with fail
      refine (C2 _ (by exact hsz) (by exact hrp)).mono ?_
      rintro e w2 ⟨rfl, bel2⟩
      have HB2 : Hid (Below w1.heap.size w1 w2) := HBW.out.trans (bel2.mono hsz)
      clear bel2 hk2 hcp
      go_wp2
      go_roundw
      case rel => exact ⟨k + 1, by omega, by rw [HST.out], by go_num, HB2.out⟩
      case measure => simp [intOf]; omega
    · obtain rfl : k = P := by omega
      have G : Hid (Res1 (Tr.denM t) w (.returned (.int .i64 (Tr.mulK Tr.denM (n : Int) (Tr.partsL t) k))) wr) :=
        Res1.of (by rw [HD.out, HP.out]) (HB1.out.trans (HBw.mono hs1))
      clear HBw
      go_wp2
      go_ret
      exact G.out
theorem l03Density_any (A : Option Addr) (n c B : Nat) (t : List Int) (w : World) (hl : t.length = n) (hlv : Tr.isLv t = true) (hB : B ≤ w.heap.size) (h : Row w B A (ints t)) : Calls Try.prog 69 #[.slice A n c] w (Res1 (Tr.denM t) w) := by
  have key : ∀ d, SDen d := fun d => by
    induction d with
    | zero => intro A n c B t w hl hn hlv; have := (Tr.isLv_iff.1 hlv).1; omega
    | succ d ih => exact sDen_succ d ih
  exact key n A n c B t w hl (Nat.le_refl _) hlv hB h
theorem sDensityOf_L (A : Option Addr) (n c B : Nat) (t : List Int) (w : World) (hl : t.length = n) (hn : n ≤ 1048576) (hB : B ≤ w.heap.size) (h : Row w B A (ints t)) :
    Calls Try.prog 33 #[.slice A n c] w (ResI (densityA t) w) := by
  have C0 := l03Is_any A n c B t w hl hn h
  cases hlv : Tr.isLv t
  · have G := Lib.hid (densityA_no hlv)
    rw [hlv] at C0
    go_enter Try.func33, Try.ntmps33
    go_wp2_with fail
    refine C0.mono ?_
    rintro e w' ⟨rfl, m, rfl⟩
    go_wp2
    go_ret2
    exact ResI.of' G.out (below_drewN (Below.refl _ _) _)
  · rw [hlv] at C0
    have HL := Lib.hid hl
    have HLV := Lib.hid hlv
    have G := Lib.hid (densityA_yes hlv)
    clear hl hlv
    go_enter Try.func33, Try.ntmps33
    go_wp2_with fail
    refine C0.mono ?_
    rintro e w' ⟨rfl, m, rfl⟩
    go_wp2_with fail
    refine (l03Density_any A n c B t _ HL.out HLV.out (by exact hB) (h.drewN m)).mono ?_
    rintro e w2 ⟨rfl, bel2⟩
    have GB : Hid (Below w.heap.size w w2) := below_undrew' bel2
    clear bel2
    go_wp2
    go_ret2
    exact ResI.of' G.out GB.out
end Go.Proofs.Ytegigeoeoioolab
