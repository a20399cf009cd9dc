/-
  What RerootAt answers, the program's and the model's.
-/
import Derived.Test.YtgicbmfcojfjcaaRerT
import Derived.Test.YtgicbmfcojfjcaaRerL
import Derived.Test.YtgicbmfcojfjcaaGrfS
import Derived.Test.YtgicbmfcojfjcaaHas
import Derived.Test.YtgicbmfcojfjcaaTreeOf
import Derived.Test.YtgicbmfcojfjcaaRes1
namespace Go.Proofs.Ytgicbmfcojfjcaa
open Go.RowKit Fld
set_option linter.unusedVariables false
set_option linter.unusedSimpArgs false
set_option maxRecDepth 100000

def rerootA (t : List Int) (k : Int) : List Int × Int :=
  if Tr.isLv t = true then (if 0 ≤ k ∧ k < (t.length : Int) then (Tr.turnF 9 (Tr.can t) k.toNat, 0) else ([], 2)) else ([], 1)
theorem rerootA_no {t : List Int} {k : Int} (h : Tr.isLv t = false) : rerootA t k = ([], 1) := if_neg (by rw [h]; simp)
theorem rerootA_out {t : List Int} {k : Int} (h : Tr.isLv t = true) (hk : ¬ (0 ≤ k ∧ k < (t.length : Int))) : rerootA t k = ([], 2) := by unfold rerootA; rw [if_pos h, if_neg hk]
theorem rerootA_yes {t : List Int} {k : Nat} (h : Tr.isLv t = true) (hk : k < t.length) : rerootA t (k : Int) = (Tr.turnF 9 (Tr.can t) k, 0) := by
  unfold rerootA; rw [if_pos h, if_pos (by omega)]; rfl
theorem reroot_parts {t : List Int} {k : Nat} (h : Tr.isLv t = true) (hk : k < t.length) :
    Tr.txt (Tr.turnF 9 (Tr.can t) k) = Tr.rerF 8 (Tr.txt t) k [] ∧ Tr.isLv (Tr.turnF 9 (Tr.can t) k) = true ∧ Tr.can (Tr.turnF 9 (Tr.can t) k) = Tr.turnF 9 (Tr.can t) k ∧ (Tr.turnF 9 (Tr.can t) k).length = t.length := by
  obtain ⟨c1, c2⟩ := lv_can h
  obtain ⟨c3, c4⟩ := Tr.can_can h
  obtain ⟨q1, q2, q3, q4⟩ := Tr.turn_at c1 c3 (k := k) (by omega)
  rw [c4] at q1
  exact ⟨q1, q2, q3, by rw [q4, c2]⟩
set_option maxHeartbeats 2000000 in
theorem pRerootAt_L (A : Option Addr) (n c B : Nat) (t : List Int) (k : Int) (w : World) (hl : t.length = n) (hn : n ≤ 1048576) (hB : B ≤ w.heap.size) (h : Row w B A (ints t)) (hk64 : -9223372036854775808 ≤ k ∧ k ≤ 9223372036854775807) (hc : n ≤ c) :
    Calls Try.prog 72 #[.slice A n c, .int .i64 k] w (ResL (rerootA t k) w) := by
  have C0 := isLevels_any A n c B t w hl (by omega) h
  cases h1 : Tr.isLv t
  · have G := Lib.hid (rerootA_no (k := k) h1)
    rw [h1] at C0
    clear hl h1
    go_enter Try.func72, Try.ntmps72
    go_wp2_with fail
    refine C0.mono ?_
    rintro e w1 ⟨rfl, d, rfl⟩
    go_wp2
    go_ret2
    exact ResL.nil G.out (below_drewN (Below.refl _ _) _)
  · rw [h1] at C0
    obtain ⟨a1, a8⟩ := lv_bd h1
    rw [hl] at a1 a8
    have z1 := (lv_txt h1).2.2.2
    have C1 := fun w => hasNode_any' A n c k w hn
    by_cases hk : 0 ≤ k ∧ k < (n : Int)
    · obtain ⟨kn, rfl⟩ : ∃ kn : Nat, k = (kn : Int) := ⟨k.toNat, by omega⟩
      have G := Lib.hid (rerootA_yes h1 (k := kn) (by omega))
      obtain ⟨p1, p2, p3, p4⟩ := reroot_parts h1 (k := kn) (by omega)
      rw [decide_eq_true hk] at C1
      have C2 := fun w => rerootAt_any (Tr.txt t) kn w (Tr.tx_txt h1) (by omega)
      rw [← p1] at C2
      obtain ⟨T, hT⟩ : ∃ T, T = Tr.turnF 9 (Tr.can t) kn := ⟨_, rfl⟩
      simp only [← hT] at C2
      rw [← hT] at G p2 p3 p4
      rw [hl] at p4
      have HTL := Lib.hid p4
      have HLV := Lib.hid p2
      have HCT := Lib.hid p3
      have HL := Lib.hid hl
      obtain ⟨hk1, hk2⟩ := hk
      clear hl h1 z1 p1 p2 p3 p4 hT
      go_enter Try.func72, Try.ntmps72
      go_wp2_with fail
      refine C0.mono ?_
      rintro e w1 ⟨rfl, d, rfl⟩
      go_wp2_with fail
      refine (C1 _).mono ?_
      rintro e w1 ⟨rfl, d1, rfl⟩
      have B1 : Hid (Below w.heap.size w ((w.drewN d).drewN d1)) := below_drewN (below_drewN (Below.refl _ _) d) d1
      generalize (w.drewN d).drewN d1 = W1 at *
      go_wp2_with fail
      refine (treeOf_any A n c B t _ HL.out a1 a8 hc (Nat.le_trans hB B1.out.size) (Row.below h B1.out hB)).mono ?_
      rintro e w2 ⟨rfl, bel2⟩
      have B2 : Hid (Below w.heap.size w w2) := B1.out.trans (bel2.mono B1.out.size)
      clear bel2
      go_wp2_with fail
      refine (C2 _).mono ?_
      rintro e w3 ⟨rfl, bel3⟩
      have B3 : Hid (Below w.heap.size w w3) := B2.out.trans (bel3.mono B2.out.size)
      clear bel3 C2
      go_wp2_with fail
      refine (levelsOf_any T _ HLV.out).mono ?_
      rintro e w4 ⟨A4, c4, rfl, own4, bel4⟩
      rw [HTL.out] at own4 ⊢
      rw [HCT.out] at own4
      have B4 : Hid (Below w.heap.size w w4) := B3.out.trans (bel4.mono B3.out.size)
      have GO : Hid (w4.ownsRow w.heap.size 2 1 (.slice A4 n c4) n (ints T)) := ((OwnR.of own4).more B3.out.size (Nat.le_refl _)).1
      clear own4 bel4
      go_wp2
      go_ret2
      exact ResL.of G.out HTL.out (by omega) GO.out B4.out
    · have G := Lib.hid (rerootA_out (k := k) h1 (by rw [hl]; exact hk))
      rw [decide_eq_false hk] at C1
      clear hl h1 z1 hk
      go_enter Try.func72, Try.ntmps72
      go_wp2_with fail
      refine C0.mono ?_
      rintro e w1 ⟨rfl, d, rfl⟩
      go_wp2_with fail
      refine (C1 _).mono ?_
      rintro e w1 ⟨rfl, d1, rfl⟩
      go_wp2
      go_ret2
      exact ResL.nil G.out (below_drewN (Below.refl _ _) _)
set_option maxHeartbeats 2000000 in
theorem sRerootAt_L (A : Option Addr) (n c B : Nat) (t : List Int) (k : Int) (w : World) (hl : t.length = n) (hn : n ≤ 1048576) (hB : B ≤ w.heap.size) (h : Row w B A (ints t)) (hk64 : -9223372036854775808 ≤ k ∧ k ≤ 9223372036854775807) :
    Calls Try.prog 71 #[.slice A n c, .int .i64 k] w (ResL (rerootA t k) w) := by
  have C0 := l03Is_any A n c B t w hl hn h
  cases h1 : Tr.isLv t
  · have G := Lib.hid (rerootA_no (k := k) h1)
    rw [h1] at C0
    clear hl h1
    go_enter Try.func71, Try.ntmps71
    go_wp2_with fail
    refine C0.mono ?_
    rintro e w1 ⟨rfl, d, rfl⟩
    go_wp2
    go_ret2
    exact ResL.nil G.out (below_drewN (Below.refl _ _) _)
  · rw [h1] at C0
    obtain ⟨a1, a8⟩ := lv_bd h1
    rw [hl] at a1 a8
    have C2 := fun w => l01In_any k 0 ((n : Int) - 1) w
    by_cases hk : 0 ≤ k ∧ k < (n : Int)
    · have T0 := isIn_yes (n := k) (l := 0) (h := (n : Int) - 1) (by omega) (by omega)
      obtain ⟨kn, rfl⟩ : ∃ kn : Nat, k = (kn : Int) := ⟨k.toNat, by omega⟩
      have G := Lib.hid (rerootA_yes h1 (k := kn) (by omega))
      obtain ⟨p1, p2, p3, p4⟩ := reroot_parts h1 (k := kn) (by omega)
      have hcl := (lv_can h1).2
      rw [hl] at hcl p4
      have HCN := Lib.hid hcl
      have HTL := Lib.hid p4
      have H1 := Lib.hid h1
      have HL := Lib.hid hl
      obtain ⟨hk1, hk2⟩ := hk
      have hk2' : kn < n := by omega
      clear hl h1 p1 p2 p3 p4 hcl
      go_enter Try.func71, Try.ntmps71
      go_wp2_with fail
      refine C0.mono ?_
      rintro e w1 ⟨rfl, d, rfl⟩
      go_wp2_with fail
      refine (C2 _).mono ?_
      rintro e w1 ⟨rfl, rfl⟩
      rw [T0]
      have B1 : Hid (Below w.heap.size w (w.drewN d)) := below_drewN (Below.refl _ _) d
      generalize w.drewN d = W1 at *
      go_wp2_with fail
      refine (l03Canon_any A n c B t _ HL.out H1.out (Nat.le_trans hB B1.out.size) (Row.below h B1.out hB)).mono ?_
      rintro e w2 ⟨A2, c2, rfl, own2, bel2⟩
      have B2 : Hid (Below w.heap.size w w2) := B1.out.trans (bel2.mono B1.out.size)
      have R2 : Hid (Row w2 w2.heap.size A2 (ints (Tr.can t))) := row_of_own own2
      have hc2 := (own_cap own2).1
      clear own2 bel2
      go_wp2_with fail
      refine (turnAt_all 9 A2 n c2 w2.heap.size kn (Tr.can t) w2 HCN.out (lv_can H1.out).1 hk2' (by omega) hc2 (Nat.le_refl _) R2.out).mono ?_
      rintro e w3 ⟨A3, c3, rfl, own3, bel3⟩
      have GB : Hid (Below w.heap.size w w3) := B2.out.trans (bel3.mono B2.out.size)
      have GO : Hid (w3.ownsRow w.heap.size 2 1 (.slice A3 n c3) n (ints (Tr.turnF 9 (Tr.can t) kn))) := ((OwnR.of own3).more B2.out.size (Nat.le_refl _)).1
      clear own3 bel3
      go_wp2
      go_ret2
      exact ResL.of G.out HTL.out (by omega) GO.out GB.out
    · have T0 := isIn_no (n := k) (l := 0) (h := (n : Int) - 1) (by omega)
      have G := Lib.hid (rerootA_out (k := k) h1 (by rw [hl]; exact hk))
      clear hl h1 hk
      go_enter Try.func71, Try.ntmps71
      go_wp2_with fail
      refine C0.mono ?_
      rintro e w1 ⟨rfl, d, rfl⟩
      go_wp2_with fail
      refine (C2 _).mono ?_
      rintro e w1 ⟨rfl, rfl⟩
      rw [T0]
      go_wp2
      go_ret2
      exact ResL.nil G.out (below_drewN (Below.refl _ _) _)
end Go.Proofs.Ytgicbmfcojfjcaa
