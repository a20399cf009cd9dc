/-
  The branch with a node, and the others.
-/
import Derived.Test.YtgicbmfcojfjcabDel
import Derived.Test.YtgicbmfcojfjcabCmp
import Derived.Test.YtgicbmfcojfjcabGrfP
import Derived.Test.YtgicbmfcojfjcabTxt
import Derived.Test.YtgicbmfcojfjcabCan
namespace Go.Proofs.Ytgicbmfcojfjcab
open Go.RowKit Fld
set_option linter.unusedVariables false
set_option linter.unusedSimpArgs false
set_option maxRecDepth 100000

theorem tx_brk' {x : List UInt8} (h : Tr.isTx x = true) : Brk x := by
  unfold Tr.isTx at h
  simp only [Bool.and_eq_true, beq_iff_eq] at h
  rw [← h.2]; exact txt_brk _ _
theorem tx_even {x : List UInt8} (h : Tr.isTx x = true) : x.length = 2 * (x.length / 2) := by
  unfold Tr.isTx at h
  simp only [Bool.and_eq_true, beq_iff_eq] at h
  have := (lv_txt h.1).2.2.2
  rw [h.2] at this
  omega
theorem pick_drop {bs : List (List UInt8)} {k p : Nat} {b : List UInt8} (h : bs[k]? = some b) : Tr.pick (bs.drop k) p = if p < b.length / 2 then (0, p) else ((Tr.pick (bs.drop (k + 1)) (p - b.length / 2)).1 + 1, (Tr.pick (bs.drop (k + 1)) (p - b.length / 2)).2) := by
  have hlt : k < bs.length := by
    rcases Nat.lt_or_ge k bs.length with g | g
    · exact g
    · rw [List.getElem?_eq_none g] at h; cases h
  rw [List.getElem?_eq_getElem hlt] at h
  injection h with h
  rw [List.drop_eq_getElem_cons hlt, h, Tr.pick]
set_option maxHeartbeats 2000000 in
theorem branchWith_any (x : List UInt8) (n : Nat) (w : World) (hx : Tr.isTx x = true) (hn : n + 1 < x.length / 2) :
    Calls Try.prog 124 #[.string ⟨x.toArray⟩, .int .i64 ((n + 1 : Nat) : Int)] w fun e w' => ∃ g c q, e = .returned (.tuple #[.string ⟨(Tr.bAt x n).toArray⟩, .int .i64 ((Tr.pAt x n : Nat) : Int), .slice (some ⟨g, 0, none⟩) q c]) ∧ q = (Tr.oAt x n).length ∧ w'.ownsRow w.heap.size 79 1 (.slice (some ⟨g, 0, none⟩) q c) q (strs (Tr.oAt x n)) ∧ Below w.heap.size w w' := by
  have hx16 := (Tr.br_parts hx).1.2
  have hb7 := (Tr.br_parts hx).2.2
  have hbb := (Tr.br_parts hx).2.1
  have HPK := Lib.hid (Tr.pick_parts hx hn).1
  have C0 := branches_any x w hx
  obtain ⟨bs, hbs⟩ : ∃ bs, bs = Tr.brT x := ⟨_, rfl⟩
  have HBA : Hid (Tr.bAt x n = bs.getD (Tr.pick bs n).1 []) := by rw [Hid, hbs]; rfl
  have HPA : Hid (Tr.pAt x n = (Tr.pick bs n).2) := by rw [Hid, hbs]; rfl
  have HOA : Hid (Tr.oAt x n = bs.eraseIdx (Tr.pick bs n).1) := by rw [Hid, hbs]; rfl
  rw [← hbs] at hb7 hbb HPK C0
  have HBB : Hid (∀ b ∈ bs, b.length ≤ 16) := fun b hb => by have := (hbb b hb).2; omega
  have hnr : n ≤ 8 := by omega
  have hn1 : ((n + 1 : Nat) : Int) - 1 = (n : Int) := by omega
  clear hbs hbb hx hn
  go_enter Try.func124, Try.ntmps124
  go_wp2_with fail
  refine C0.mono ?_
  rintro e w1 ⟨A1, q1, c1, rfl, hq1, own1, bel1⟩
  have HO1 := Lib.hid own1
  have HB1 := Lib.hid bel1
  have hq0 : 0 < q1 := by have := HPK.out; omega
  obtain ⟨g, cap, hv⟩ := own_form own1 hq0
  injection hv with hA _ hcap
  subst hA hcap
  have HQ := Lib.hid hq1
  have hq7 : q1 ≤ 7 := by omega
  clear own1 bel1 hq1 C0
  go_wp2_with fail
  go_loopw [8, 9] (fun pl i wr => ∃ (k p : Nat), k < q1 ∧ p ≤ n ∧ pl = .int .i64 p ∧ i = .int .i64 k ∧ wr = w1 ∧ Hid (Tr.pick bs n = (k + (Tr.pick (bs.drop k) p).1, (Tr.pick (bs.drop k) p).2))) (fun _ i _ => q1 - (intOf i).toNat)
  case atStart => exact ⟨0, n, hq0, Nat.le_refl _, by go_num, rfl, rfl, by rw [Hid, List.drop_zero]; simp⟩
  case round =>
    obtain ⟨k, p, hk, hp, rfl, rfl, rfl, HK⟩ := hrel
    obtain ⟨b, hb⟩ := at_lt (show k < bs.length by have := HQ.out; omega)
    have hb16 := HBB.out b (List.mem_of_getElem? hb)
    have hcell := HO1.out.cellAt k (by omega)
    rw [strs_at hb] at hcell
    have HPD := Lib.hid (pick_drop (p := p) hb)
    have C1 := fun w => nodes_any b w (by omega)
    obtain ⟨nb, hnb⟩ : ∃ nb, nb = b.length / 2 := ⟨_, rfl⟩
    rw [← hnb] at HPD
    simp only [← hnb] at C1
    have hnb8 : nb ≤ 8 := by omega
    have HBK := Lib.hid hb
    obtain ⟨X, hX⟩ : ∃ X : ByteArray, X = ⟨b.toArray⟩ := ⟨_, rfl⟩
    have HX := Lib.hid hX
    rw [← hX] at hcell
    simp only [← hX] at C1
    clear hb hnb hX
    by_cases hpb : p < nb
    · have HE : Hid (Tr.pick bs n = (k, p)) := by rw [Hid, HK.out, HPD.out, if_pos hpb]; rfl
      have C2 := delete_any w.heap.size g k (k + 1) q1 c1 bs wr HQ.out.symm hk rfl (by omega) HB1.out.size HO1.out
      rw [show ((k + 1 : Nat) : Int) = (k : Int) + 1 from rfl] at C2
      have GB : Hid (Tr.bAt x n = b) := by
        rw [Hid, HBA.out, HE.out]
        show bs.getD k [] = b
        rw [List.getD_eq_getElem?_getD, HBK.out]; rfl
      have GP : Hid (Tr.pAt x n = p) := by rw [Hid, HPA.out, HE.out]
      have GO : Hid (Tr.oAt x n = bs.eraseIdx k) := by rw [Hid, HOA.out, HE.out]
      have hpb' : ¬ (nb : Int) ≤ (p : Int) := by omega
      clear HPD HK
      go_wp2_with fail
      refine (C1 _).mono ?_
      rintro e w2 ⟨rfl, rfl⟩
      go_wp2_with fail
      refine C2.mono ?_
      rintro e w3 ⟨rfl, own3, bel3, hs3⟩
      have G3 : Hid (w3.ownsRow w.heap.size 79 1 (.slice (some ⟨g, 0, none⟩) (q1 - 1) c1) (q1 - 1) (strs (Tr.oAt x n))) := by rw [Hid, GO.out]; exact own3
      have GB3 := Lib.hid (HB1.out.trans bel3)
      have GL : Hid (q1 - 1 = (Tr.oAt x n).length) := by rw [Hid, GO.out, List.length_eraseIdx, if_pos (by have := HQ.out; omega), ← HQ.out]
      clear own3 bel3 C1 C2 hcell
      go_wp2
      go_ret3
      exact ⟨g, c1, q1 - 1, by rw [GB.out, GP.out, ← HX.out]; rfl, GL.out, G3.out, GB3.out⟩
    · have HE : Hid (Tr.pick bs n = (k + 1 + (Tr.pick (bs.drop (k + 1)) (p - nb)).1, (Tr.pick (bs.drop (k + 1)) (p - nb)).2)) := by
        rw [Hid, HK.out, HPD.out, if_neg hpb]
        simp only [Prod.mk.injEq, and_true]; omega
      have hk1 : k + 1 < q1 := by
        have h1 := HPK.out
        rw [HE.out] at h1
        have := HQ.out; simp only at h1; omega
      have hpb' : (nb : Int) ≤ (p : Int) := by omega
      clear HPD HK hpb
      go_wp2_with fail
      refine (C1 _).mono ?_
      rintro e w2 ⟨rfl, rfl⟩
      go_wp2_with fail
      refine (C1 _).mono ?_
      rintro e w2 ⟨rfl, rfl⟩
      go_wp2
      go_roundw
      case rel => exact ⟨k + 1, p - nb, by omega, by omega, by go_num, by go_num, by first | rfl | trivial, HE⟩
      case measure => simp [intOf]; omega
end Go.Proofs.Ytgicbmfcojfjcab
