/-
  Symmetric tableaus, the model's.
-/
import Derived.Test.YtnnihdkhblbdgaaSyP
import Derived.Test.YtnnihdkhblbdgaaNum
import Derived.Test.YtnnihdkhblbdgaaResBI
import Derived.BigQuiet
namespace Go.Proofs.Ytnnihdkhblbdgaa
open Go.RowKit Fld
set_option linter.unusedVariables false
set_option linter.unusedSimpArgs false
set_option maxRecDepth 100000

set_option maxHeartbeats 4000000 in
theorem sIsSymmetric_L (A D : Option Addr) (n c n' d B B' : Nat) (m : List (List Int)) (b : List Int) (w : World) (hl : m.length = n) (hl' : b.length = n') (hn : n ≤ 9223372036854775807) (hn' : n' ≤ 9223372036854775807) (hB : B ≤ w.heap.size) (hB' : B' ≤ w.heap.size) (h : Mat w B A m) (r : Row w B' D (ints b)) :
    Calls Try.prog 21 #[.agg #[.slice A n c, .slice D n' d]] w (ResBI (symmA m b) w) := by
  have HL := Lib.hid hl
  have HL' := Lib.hid hl'
  obtain ⟨W0, hW0⟩ : ∃ W0, W0 = w.alloc (.cells #[.slice A n c, .slice D n' d] 29) := ⟨_, rfl⟩
  have HB : Hid (Below w.heap.size w W0) := by rw [hW0]; exact (Below.refl _ _).alloc (Nat.le_refl _) _
  have HM : Hid (Mat W0 B A m) := h.below HB.out hB
  have HR : Hid (Row W0 B' D (ints b)) := r.below HB.out hB'
  have HX : Hid (Bx W0 w.heap.size 29 (.slice A n c) (.slice D n' d)) := by rw [hW0]; exact Bx.new _ _ _ _
  have hz := HB.out.size
  clear hl hl' h r
  cases ht : isTabB m b
  · have G : Hid (symmA m b = (false, 1)) := by unfold symmA; rw [Hid, ht]; rfl
    go_enter Try.func21, Try.ntmps21
    go_wp2_with fail
    rw [← hW0]
    refine (l09Is_any A D n c n' d B B' m b W0 HL.out HL'.out hn hn' (by omega) (by omega) HM.out HR.out).mono ?_
    rintro e w2 ⟨rfl, b2⟩
    rw [ht]
    have HB2 := Lib.hid (HB.out.trans (b2.mono HB.out.size))
    clear b2 hW0 ht
    go_wp2
    go_ret2
    exact ResBI.of G.out HB2.out
  · obtain ⟨t1, t2, t3, t4, t5, t6⟩ := isTabB_parts ht
    rw [HL'.out] at t1 t2 t3 t5
    have hnn : n' = n := by rw [← t3]; exact HL.out
    subst hnn
    have GS : Hid (∀ v, symmB m b = v → symmA m b = (v, 0)) := fun v hv => by unfold symmA; rw [ht, hv]; rfl
    have HW := Lib.hid t5
    have H4 := Lib.hid t4
    have H6 := Lib.hid t6
    have hn2 := hn
    clear t3 t4 t5 t6
    go_enter Try.func21, Try.ntmps21
    go_wp2_with fail
    rw [← hW0]
    refine (l09Is_any A D n' c n' d B B' m b W0 HL.out HL'.out hn hn' (by omega) (by omega) HM.out HR.out).mono ?_
    rintro e w2 ⟨rfl, b2⟩
    rw [ht]
    have HB2 := Lib.hid (HB.out.trans (b2.mono HB.out.size))
    have HM2 := Lib.hid (HM.out.below b2 (by omega))
    have HR2 := Lib.hid (HR.out.below b2 (by omega))
    have q0 := (HX.out.next b2).c0
    have q1 := (HX.out.next b2).c1
    have hz2 := b2.size
    have hw1 : IntKind.i64.wrap ((n' : Int) - 1) = ((n' - 1 : Nat) : Int) := by rw [IntWalk.i64_in _ (by omega)]; omega
    clear b2 hW0 ht
    go_wp2_with fail
    go_loopw [5] (fun i wr => ∃ k d : Nat, k ≤ n' ∧ i = .int .i64 k ∧ wr = w2.drewN d ∧ Hid (SmTo m b k 0)) (fun i _ => n' - (intOf i).toNat)
    case atStart => exact ⟨0, 0, Nat.zero_le _, rfl, rfl, fun j l _ _ h => by omega⟩
    case round =>
      obtain ⟨i, d1, hi, rfl, rfl, HT⟩ := hrel
      by_cases hlt : i < n'
      · obtain ⟨ri, hri⟩ := at_lt (show i < m.length by have := HL.out; omega)
        obtain ⟨rj, hrj⟩ := at_lt (show n' - 1 - i < m.length by have := HL.out; omega)
        have hqi := HW.out.at_ hri
        have hqj := HW.out.at_ hrj
        obtain ⟨bi, oi, Ai, ci, eA, _, hci, _, hcmi, rowi⟩ := HM2.out i ri hri
        obtain ⟨bj, oj, Aj, cj, eA2, _, hcj, _, hcmj, rowj⟩ := HM2.out (n' - 1 - i) rj hrj
        rw [hqi] at hci
        rw [hqj] at hcj
        subst eA
        have e3 : bj = bi ∧ oj = oi := by injection eA2 with e; injection e with e1 e2; exact ⟨e1.symm, e2.symm⟩
        obtain ⟨rfl, rfl⟩ := e3
        have HRI := Lib.hid hri
        have HRJ := Lib.hid hrj
        have HQI := Lib.hid hqi
        have HQJ := Lib.hid hqj
        have ROI := Lib.hid rowi
        have ROJ := Lib.hid rowj
        have hw2 : IntKind.i64.wrap (((n' - 1 : Nat) : Int) - (i : Int)) = ((n' - 1 - i : Nat) : Int) := by rw [IntWalk.i64_in _ (by omega)]; omega
        have hle : ((i : Int) ≤ ((n' - 1 : Nat) : Int)) := by omega
        clear hri hrj hqi hqj eA2 rowi rowj hcmi hcmj
        go_wp2_with fail
        go_loopw [6] (fun j wr2 => ∃ k d : Nat, k ≤ n' ∧ j = .int .i64 k ∧ wr2 = w2.drewN d ∧ Hid (SmTo m b i k)) (fun j _ => n' - (intOf j).toNat)
        case atStart => exact ⟨0, d1, Nat.zero_le _, rfl, rfl, HT⟩
        case round =>
          obtain ⟨k, d2, hk, rfl, rfl, HI⟩ := hrel
          by_cases hkl : k < n'
          · obtain ⟨x, hx⟩ := at_lt (show k < ri.length by rw [HQI.out]; exact hkl)
            obtain ⟨y, hy⟩ := at_lt (show n' - 1 - k < rj.length by rw [HQJ.out]; omega)
            obtain ⟨p, hp⟩ := at_lt (show k < b.length by rw [HL'.out]; omega)
            obtain ⟨x0, x1⟩ := num_at (H6.out ri (List.mem_of_getElem? HRI.out)) hx
            obtain ⟨y0, y1⟩ := num_at (H6.out rj (List.mem_of_getElem? HRJ.out)) hy
            obtain ⟨bx, ox, rfl, _, hcx⟩ := ROI.out k _ (ints_at hx)
            obtain ⟨by_, oy, rfl, _, hcy⟩ := ROJ.out (n' - 1 - k) _ (ints_at hy)
            obtain ⟨bp, op, rfl, _, hcp⟩ := HR2.out k _ (ints_at hp)
            have CA := fun W => l01Add_any x y W x0 x1 y0 y1
            have GL : smL m b.length i k = (x + y) % 10007 := by unfold smL; rw [HL'.out, ent_at HRI.out hx, ent_at HRJ.out hy]
            have GP : b.getD k 0 = p := by rw [List.getD_eq_getElem?_getD, hp]; rfl
            have hw3 : IntKind.i64.wrap (((n' - 1 : Nat) : Int) - (k : Int)) = ((n' - 1 - k : Nat) : Int) := by rw [IntWalk.i64_in _ (by omega)]; omega
            have hle2 : ((k : Int) ≤ ((n' - 1 : Nat) : Int)) := by omega
            have kk0 : (0 : Int) ≤ (k : Int) := Int.natCast_nonneg _
            have kk1 : (k : Int) < (n' : Int) := by omega
            have ii0 : (0 : Int) ≤ (i : Int) := Int.natCast_nonneg _
            have ii1 : (i : Int) < (n' : Int) := by omega
            have jj0 : (0 : Int) ≤ ((n' - 1 - i : Nat) : Int) := Int.natCast_nonneg _
            have jj1 : ((n' - 1 - i : Nat) : Int) < (n' : Int) := by omega
            have ll0 : (0 : Int) ≤ ((n' - 1 - k : Nat) : Int) := Int.natCast_nonneg _
            have ll1 : ((n' - 1 - k : Nat) : Int) < (n' : Int) := by omega
            have G : Hid (smL m b.length i k = b.getD k 0 ↔ (x + y) % 10007 = p) := by rw [Hid, GL, GP]
            obtain ⟨z, hz⟩ : ∃ z, z = (x + y) % 10007 := ⟨_, rfl⟩
            rw [← hz] at G
            simp only [← hz] at CA
            clear hx hy hp GL GP hz x0 x1 y0 y1
            by_cases hok : z = p
            · have tb : (z != p) = false := bne_f hok
              have GG := Lib.hid (HI.out.step (G.out.2 hok))
              clear HI G hok
              go_wp2_with fail
              go_quiet ((go_at_call 44; first | exact quietL (CA _) | exact quietL2 (CA _)))
              go_wp2
              go_roundw
              case rel => exact ⟨k + 1, _, by omega, by go_num, rfl, GG⟩
              case measure => simp [intOf]; omega
            · have tb : (z != p) = true := bne_t hok
              have GG := Lib.hid (GS.out false (symmB_no (fun hh => hok (G.out.1 (hh i k (by rw [HL'.out]; exact hlt) (by rw [HL'.out]; exact hkl))))))
              clear HI G hok
              go_wp2_with fail
              go_quiet ((go_at_call 44; first | exact quietL (CA _) | exact quietL2 (CA _)))
              go_wp2
              go_ret2
              exact ResBI.of GG.out (by first | exact HB2.out | exact below_drewN HB2.out _ | exact below_drewN (below_drewN HB2.out _) _)
          · have hnle : ¬ ((k : Int) ≤ ((n' - 1 : Nat) : Int)) := by omega
            have GG := Lib.hid (HI.out.leave (by rw [HL'.out]; omega))
            clear HI
            go_wp2
            go_roundw
            case rel => exact ⟨i + 1, _, by omega, by go_num, rfl, GG⟩
            case measure => simp [intOf]; omega
      · have hnle : ¬ ((i : Int) ≤ ((n' - 1 : Nat) : Int)) := by omega
        have GG := Lib.hid (GS.out true (symmB_yes (HT.out.all (by rw [HL'.out]; omega))))
        clear HT
        go_wp2
        go_ret2
        exact ResBI.of GG.out (below_drewN HB2.out _)
end Go.Proofs.Ytnnihdkhblbdgaa
