/-
  NodePolynomial and OrthogonalTo, the model's.
-/
import Derived.Test.YtfllcdcgfpjabaaNdM
import Derived.Test.YtfllcdcgfpjabaaDiM
import Derived.Test.YtfllcdcgfpjabaaRes1
import Derived.Test.YtfllcdcgfpjabaaResO
namespace Go.Proofs.Ytfllcdcgfpjabaa
open Go.RowKit Fld
set_option linter.unusedVariables false
set_option linter.unusedSimpArgs false
set_option maxRecDepth 100000

theorem nodesC_code (ns : List Int) : nodesC ns = 0 ∨ nodesC ns = 2 ∨ nodesC ns = 5 := by
  unfold nodesC
  split
  · split
    · exact .inl rfl
    · exact .inr (.inr rfl)
  · exact .inr (.inl rfl)
theorem nodesC_ok {ns : List Int} (h : nodesC ns = 0) : 1 ≤ ns.length ∧ ns.length ≤ 8 ∧ allNum ns = true ∧ ns.Nodup := by
  unfold nodesC at h
  split at h
  · rename_i h1
    split at h
    · rename_i h2
      exact ⟨h1.1, h1.2.1, h1.2.2, h2⟩
    · cases h
  · cases h
theorem orth_no {ns : List Int} {q : Nat} (h : ∀ j, j < q → orthP ns j) (hq : q < 8) (hn : ¬ orthP ns q) : ordF (orthP ns) 0 8 = q :=
  ordF_eq _ 8 0 q (by omega) (by omega) (fun j _ hj => h j hj) (Or.inr hn)
theorem orth_yes {ns : List Int} (h : ∀ j, j < 8 → orthP ns j) : ordF (orthP ns) 0 8 = 8 :=
  ordF_eq _ 8 0 8 (by omega) (by omega) (fun j _ hj => h j hj) (Or.inl (by omega))
set_option maxHeartbeats 1000000 in
theorem sNodePolynomial_L (A : Option Addr) (n c B : Nat) (ns : List Int) (w : World) (hl : ns.length = n) (hn : n ≤ 1048576) (hB : B ≤ w.heap.size) (h : Row w B A (ints ns)) (hc : n ≤ c) :
    Calls Try.prog 34 #[.slice A n c] w (ResL (nodePolyA ns) w) := by
  have C0 := l11Nodes_any A n c B ns w hl (by omega) hc hB h
  have HL := Lib.hid hl
  by_cases h0 : nodesC ns = 0
  · obtain ⟨n1, n8, hnum, _⟩ := nodesC_ok h0
    rw [hl] at n1 n8
    have G : Hid (nodePolyA ns = (cl (n + 1) (plF ns n), 0)) := by unfold nodePolyA; rw [Hid, if_pos h0, hl]
    have C1 := fun q => l11Polynomial_any A n c B ns (w.drewN q) hl n8 hnum hB (h.drewN q)
    rw [h0] at C0
    clear hl h0 hnum
    go_enter Try.func34, Try.ntmps34
    go_wp2_with fail
    refine C0.mono ?_
    rintro e w' ⟨rfl, q, rfl⟩
    go_wp2_with fail
    refine (C1 q).mono ?_
    rintro e w2 ⟨A2, c2, rfl, own2, b2⟩
    have GR : Hid (ResL (nodePolyA ns) w (.returned (.tuple #[.slice A2 (n + 1) c2, .int .i64 0])) w2) := ResL.of G.out (cl_length _ _) (by omega) own2 ⟨b2.os, b2.tape, b2.output, b2.size, b2.block⟩
    clear C0 C1 own2 b2
    go_wp2
    go_ret2
    exact GR.out
  · have G : Hid (nodePolyA ns = ([], nodesC ns)) := by unfold nodePolyA; rw [Hid, if_neg h0]
    obtain ⟨k, hk⟩ : ∃ k, k = nodesC ns := ⟨_, rfl⟩
    rw [← hk] at C0 G h0
    have tk := bne_t h0
    clear hl hk
    go_enter Try.func34, Try.ntmps34
    go_wp2_with fail
    refine C0.mono ?_
    rintro e w' ⟨rfl, q, rfl⟩
    go_wp2
    go_ret2
    exact ResL.nil G.out (below_drewN (Below.refl _ _) q)
set_option maxHeartbeats 1000000 in
theorem sOrthogonalTo_L (A : Option Addr) (n c B : Nat) (ns : List Int) (w : World) (hl : ns.length = n) (hn : n ≤ 1048576) (hB : B ≤ w.heap.size) (h : Row w B A (ints ns)) (hc : n ≤ c) :
    Calls Try.prog 37 #[.slice A n c] w (ResI (orthA ns) w) := by
  have C0 := l11Nodes_any A n c B ns w hl (by omega) hc hB h
  have HL := Lib.hid hl
  by_cases h0 : nodesC ns = 0
  · obtain ⟨n1, n8, hnum, _⟩ := nodesC_ok h0
    rw [hl] at n1 n8
    have G : Hid (orthA ns = (((ordF (orthP ns) 0 8 : Nat) : Int), 0)) := by unfold orthA; rw [Hid, if_pos h0]
    have C1 := fun q => l11Polynomial_any A n c B ns (w.drewN q) hl n8 hnum hB (h.drewN q)
    have HP : Hid (∀ m, orthP ns m ↔ igX (cl (n + 1) (plF ns n)) m 1 (n + 1) = 0) := fun m => by
      rw [igX_one (n + 1) (Nat.le_refl _)]; unfold orthP; rw [hl]
    rw [h0] at C0
    clear hl h0 hnum
    go_enter Try.func37, Try.ntmps37
    go_wp2_with fail
    refine C0.mono ?_
    rintro e w' ⟨rfl, q, rfl⟩
    go_wp2_with fail
    refine (C1 q).mono ?_
    rintro e w2 ⟨A2, c2, rfl, own2, b2⟩
    have HB2 : Hid (Below w.heap.size w w2) := ⟨b2.os, b2.tape, b2.output, b2.size, b2.block⟩
    have C2 := fun m hm r => l11Integral_any A2 (n + 1) c2 w2.heap.size m (cl (n + 1) (plF ns n)) 1 (w2.drewN r) (cl_length _ _) (by omega) hm (cl_num _ _) (by omega) (by omega) ((row_of_own own2).drewN r)
    clear C0 C1 own2 b2
    go_wp2_with fail
    go_loopw [6] (fun mv wr => ∃ m r : Nat, m ≤ 8 ∧ mv = .int .i64 m ∧ wr = w2.drewN r ∧ Hid (∀ j, j < m → orthP ns j)) (fun mv _ => 8 - (intOf mv).toNat)
    case atStart => exact ⟨0, 0, by omega, rfl, rfl, fun j hj => by omega⟩
    case round =>
      obtain ⟨m, r, hm, rfl, rfl, HJ⟩ := hrel
      by_cases hlt : m < 8
      · have C3 := C2 m (by omega) r
        have hpm := HP.out m
        have tm : (m : Int) < 8 := by omega
        obtain ⟨V, hV⟩ : ∃ V, V = igX (cl (n + 1) (plF ns n)) m 1 (n + 1) := ⟨_, rfl⟩
        rw [← hV] at C3 hpm
        clear hV
        by_cases hv : V = 0
        · have GJ : Hid (∀ j, j < m + 1 → orthP ns j) := fun j hj => by
            by_cases e : j = m
            · rw [e]; exact hpm.2 hv
            · exact HJ.out j (by omega)
          subst hv
          clear hpm HJ
          go_wp2_with fail
          refine C3.mono ?_
          rintro e w5 ⟨rfl, q5, rfl⟩
          clear C3
          go_wp2
          go_roundw
          case rel => exact ⟨m + 1, _, by omega, by go_num, by first | rfl | rw [World.drewN_drewN], GJ⟩
          case measure => simp [intOf]; omega
        · have GE : Hid (ordF (orthP ns) 0 8 = m) := orth_no HJ.out hlt (fun hh => hv (hpm.1 hh))
          have GR : Hid (orthA ns = ((m : Int), 0)) := by rw [Hid, G.out, GE.out]
          have tv := bne_t hv
          clear hpm HJ
          go_wp2_with fail
          refine C3.mono ?_
          rintro e w5 ⟨rfl, q5, rfl⟩
          clear C3
          go_wp2
          go_ret2
          exact ResI.of' GR.out (below_drewN HB2.out _)
      · obtain rfl : m = 8 := by omega
        have GE : Hid (ordF (orthP ns) 0 8 = 8) := orth_yes HJ.out
        have GR : Hid (orthA ns = (8, 0)) := by rw [Hid, G.out, GE.out]; rfl
        clear HJ
        go_wp2
        go_ret2
        exact ResI.of' GR.out (below_drewN HB2.out _)
  · have G : Hid (orthA ns = (0, nodesC ns)) := by unfold orthA; rw [Hid, if_neg h0]
    obtain ⟨k, hk⟩ : ∃ k, k = nodesC ns := ⟨_, rfl⟩
    rw [← hk] at C0 G h0
    have tk := bne_t h0
    clear hl hk
    go_enter Try.func37, Try.ntmps37
    go_wp2_with fail
    refine C0.mono ?_
    rintro e w' ⟨rfl, q, rfl⟩
    go_wp2
    go_ret2
    exact ResI.of' G.out (below_drewN (Below.refl _ _) q)
end Go.Proofs.Ytfllcdcgfpjabaa
