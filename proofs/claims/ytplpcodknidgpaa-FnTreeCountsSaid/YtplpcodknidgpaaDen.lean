/-
  Densities.
-/
import Derived.Test.YtplpcodknidgpaaBra
import Derived.Test.YtplpcodknidgpaaResO
import Derived.Test.YtplpcodknidgpaaCan
import Derived.Test.YtplpcodknidgpaaRes1
import Derived.Test.YtplpcodknidgpaaResN
namespace Go.Proofs.Ytplpcodknidgpaa
open Go.RowKit Fld
set_option linter.unusedVariables false
set_option linter.unusedSimpArgs false
set_option maxRecDepth 100000

def PDen (d : Nat) : Prop := ∀ (x : List UInt8) (w : World), x.length ≤ d → Tr.isTx x = true → Calls Try.prog 43 #[.string ⟨x.toArray⟩] w (Res1 (Tr.den x) w)
theorem pDen_succ (d : Nat) (IH : PDen d) : PDen (d + 1) := by
  intro x w hxd hx
  obtain ⟨⟨h2, h16⟩, HB, h7⟩ := Tr.br_parts hx
  obtain ⟨hD, hK⟩ := Tr.den_parts hx
  have C1 := fun w => branches_any x w hx
  have C0 := nodes_any x w (by omega)
  have HD := Lib.hid hD
  have HK := Lib.hid hK
  have HBR := Lib.hid HB
  obtain ⟨P, hP⟩ : ∃ P, P = (Tr.brT x).length := ⟨_, rfl⟩
  have HP : Hid ((Tr.brT x).length = P) := hP.symm
  have hP7 : P ≤ 7 := by rw [hP]; exact h7
  have HXD := Lib.hid hxd
  obtain ⟨S, hS⟩ : ∃ S : ByteArray, S = ⟨x.toArray⟩ := ⟨_, rfl⟩
  rw [← hS] at C0 C1 ⊢
  clear hD hK HB h7 hP hxd hx hS
  go_enter Try.func43, Try.ntmps43
  go_wp2_with fail
  refine C0.mono ?_
  rintro e w0 ⟨rfl, rfl⟩
  have hw0 : IntKind.i64.wrap ((x.length / 2 : Nat) : Int) = ((x.length / 2 : Nat) : Int) := IntWalk.i64_in _ (by omega)
  go_wp2_with fail
  refine (C1 _).mono ?_
  rintro e w1 ⟨A, q, c, rfl, hq, own1, bel1⟩
  have hqP : q = P := by rw [hq]; exact HP.out
  subst hqP
  have hs1 := bel1.size
  have HROW : Hid (Row w1 w1.heap.size A (strs (Tr.brT x))) := row_of_own own1
  have HB1 := Lib.hid bel1
  clear hq own1 bel1 C0 C1
  go_wp2_with fail
  go_loopw [3, 11] (fun v i wr => ∃ k : Nat, k ≤ q ∧ v = .int .i64 (Tr.mulK Tr.den ((x.length / 2 : Nat) : Int) (Tr.brT x) k) ∧ i = .int .i64 k ∧ Below w1.heap.size w1 wr) (fun _ i _ => q - (intOf i).toNat)
  case atStart => exact ⟨0, Nat.zero_le _, by simp [Tr.mulK_zero], rfl, Below.refl _ _⟩
  case round =>
    obtain ⟨k, hk, rfl, rfl, HBw⟩ := hrel
    have hsz := HBw.size
    by_cases hlt : k < q
    · obtain ⟨y, hy⟩ := at_lt (show k < (Tr.brT x).length by rw [HP.out]; exact hlt)
      obtain ⟨hyt, hyl⟩ := HBR.out y (List.mem_of_getElem? hy)
      obtain ⟨b, o, rfl, _, hc⟩ := (HROW.out.below HBw (Nat.le_refl _)) k _ (strs_at hy)
      have C2 := fun w => IH y w (by have := HXD.out; omega) hyt
      have hk1 := HK.out k (by rw [HP.out]; omega)
      have hk2 := HK.out (k + 1) (by rw [HP.out]; omega)
      have hstep := Tr.mulK_step (f := Tr.den) (a := ((x.length / 2 : Nat) : Int)) hy
      obtain ⟨a, ha⟩ : ∃ a, a = Tr.mulK Tr.den ((x.length / 2 : Nat) : Int) (Tr.brT x) k := ⟨_, rfl⟩
      rw [hstep] at hk2
      rw [← ha] at hk1 hk2 ⊢
      have HST : Hid (Tr.mulK Tr.den ((x.length / 2 : Nat) : Int) (Tr.brT x) (k + 1) = a * Tr.den y) := by rw [ha]; exact hstep
      obtain ⟨z, hz⟩ : ∃ z, z = Tr.den y := ⟨_, rfl⟩
      rw [← hz] at hk2 HST C2
      obtain ⟨Y, hY⟩ : ∃ Y : ByteArray, Y = ⟨y.toArray⟩ := ⟨_, rfl⟩
      rw [← hY] at C2 hc
      have hmw : IntKind.i64.wrap (a * z) = a * z := IntWalk.i64_in _ (by omega)
      have HBW := Lib.hid HBw
      clear hy hyt hyl hstep ha hz hY HBw hk1
      go_wp2_with fail
      refine (C2 _).mono ?_
      rintro e w2 ⟨rfl, bel2⟩
      have HB2 : Hid (Below w1.heap.size w1 w2) := HBW.out.trans (bel2.mono hsz)
      clear bel2 hk2
      go_wp2
      go_roundw
      case rel => exact ⟨k + 1, by omega, by rw [HST.out], by go_num, HB2.out⟩
      case measure => simp [intOf]; omega
    · obtain rfl : k = q := by omega
      have G : Hid (Res1 (Tr.den x) w (.returned (.int .i64 (Tr.mulK Tr.den ((x.length / 2 : Nat) : Int) (Tr.brT x) k))) wr) :=
        Res1.of (by rw [HD.out, HP.out]) (HB1.out.trans (HBw.mono hs1))
      clear HBw
      go_wp2
      go_ret
      exact G.out
theorem density_any (x : List UInt8) (w : World) (hx : Tr.isTx x = true) : Calls Try.prog 43 #[.string ⟨x.toArray⟩] w (Res1 (Tr.den x) w) := by
  have key : ∀ d, PDen d := fun d => by
    induction d with
    | zero => intro y w hy ht; have := (Tr.br_parts ht).1.1; omega
    | succ d ih => exact pDen_succ d ih
  exact key x.length x w (Nat.le_refl _) hx
def densityA (t : List Int) : Int × Int := if Tr.isLv t = true then (Tr.denM t, 0) else (0, 1)
theorem densityA_yes {t : List Int} (h : Tr.isLv t = true) : densityA t = (Tr.denM t, 0) := if_pos h
theorem densityA_no {t : List Int} (h : Tr.isLv t = false) : densityA t = (0, 1) := if_neg (by rw [h]; simp)
end Go.Proofs.Ytplpcodknidgpaa
