/-
  The free form of a tree, the program's.
-/
import Derived.Test.YtgicbmfcojfjcabRoo
import Derived.Test.YtgicbmfcojfjcabGrfS
import Derived.Test.YtgicbmfcojfjcabSCan
namespace Go.Proofs.Ytgicbmfcojfjcab
open Go.RowKit Fld
set_option linter.unusedVariables false
set_option linter.unusedSimpArgs false
set_option maxRecDepth 100000

theorem roots_tx {x : List UInt8} (hx : Tr.isTx x = true) : ∀ s ∈ rootsT x, Tr.isTx s = true := fun s hs => by
  unfold Tr.isTx at hx
  simp only [Bool.and_eq_true, beq_iff_eq] at hx
  obtain ⟨c1, c2⟩ := lv_can hx.1
  obtain ⟨c3, c4⟩ := Tr.can_can hx.1
  have hl := (lv_txt hx.1).2.2.2
  rw [hx.2] at hl
  unfold rootsT at hs
  rw [List.mem_map] at hs
  obtain ⟨k, hk, rfl⟩ := hs
  rw [List.mem_range] at hk
  obtain ⟨q1, q2, _⟩ := Tr.turn_at c1 c3 (k := k) (by omega)
  rw [c4, hx.2] at q1
  rw [← q1]
  exact Tr.tx_txt q2
theorem freeForm_any (x : List UInt8) (w : World) (hx : Tr.isTx x = true) : Calls Try.prog 81 #[.string ⟨x.toArray⟩] w fun e w' => e = .returned (.string ⟨(minT (rootsT x)).toArray⟩) ∧ Below w.heap.size w w' := by
  have h2 := (Tr.br_parts hx).1
  have C0 := roots_any x w hx
  have HS : Hid (∀ s ∈ rootsT x, s.length ≤ 1048576) := fun s hs => by have := (Tr.br_parts (roots_tx hx s hs)).1.2; omega
  have HL := Lib.hid (rootsT_len x)
  obtain ⟨n, hn⟩ : ∃ n, n = x.length / 2 := ⟨_, rfl⟩
  rw [← hn] at C0 HL
  have h1 : 1 ≤ n := by omega
  have h8 : n ≤ 1048576 := by omega
  obtain ⟨X, hX⟩ : ∃ X : ByteArray, X = ⟨x.toArray⟩ := ⟨_, rfl⟩
  rw [← hX] at C0 ⊢
  clear hn hX hx h2
  go_enter Try.func81, Try.ntmps81
  go_wp2_with fail
  refine C0.mono ?_
  rintro e w1 ⟨rfl, own1, bel1⟩
  have hs1 := bel1.size
  have HB1 := Lib.hid bel1
  have HR := Lib.hid (row_of_own own1)
  clear own1 bel1 C0
  go_wp2_with fail
  refine (minFunc_any _ n n w1.heap.size (rootsT x) w1 HL.out h1 h8 HS.out (Nat.le_refl _) HR.out).mono ?_
  rintro e w2 ⟨rfl, bel2⟩
  have GB := Lib.hid (HB1.out.trans (bel2.mono hs1))
  obtain ⟨Z, hZ⟩ : ∃ Z : ByteArray, Z = ⟨(minT (rootsT x)).toArray⟩ := ⟨_, rfl⟩
  have HZ := Lib.hid hZ
  rw [← hZ]
  clear bel2 hZ
  go_wp2
  go_ret
  exact ⟨by rw [← HZ.out]; rfl, GB.out⟩
end Go.Proofs.Ytgicbmfcojfjcab
