/-
  Symmetries, the program's and the model's.
-/
import Derived.Test.YtplpcodknidgpaaDen
import Derived.Test.YtplpcodknidgpaaTreeF
namespace Go.Proofs.Ytplpcodknidgpaa
open Go.RowKit Fld
set_option linter.unusedVariables false
set_option linter.unusedSimpArgs false
set_option maxRecDepth 100000

theorem symK_step {f : List UInt8 → Int} {bs : List (List UInt8)} {k : Nat} {y : List UInt8} (h : bs[k]? = some y) :
    Tr.symK f bs (k + 1) = ((Tr.symK f bs k).1 * ((Tr.symK f bs (k + 1)).2 * f y), (Tr.symK f bs (k + 1)).2) := by
  have e : bs.getD k [] = y := by rw [List.getD_eq_getElem?_getD, h]; rfl
  rw [Tr.symK, e]
theorem symK_zero {f : List UInt8 → Int} {bs : List (List UInt8)} : (Tr.symK f bs 1).2 = 1 := by
  simp [Tr.symK]
theorem symK_same {f : List UInt8 → Int} {bs : List (List UInt8)} {k : Nat} {y z : List UInt8} (h : bs[k + 1]? = some y) (h' : bs[k]? = some z) : (Tr.symK f bs (k + 1 + 1)).2 = (if y = z then (Tr.symK f bs (k + 1)).2 else 0) + 1 := by
  have e : bs.getD (k + 1) [] = y := by rw [List.getD_eq_getElem?_getD, h]; rfl
  have e' : bs.getD k [] = z := by rw [List.getD_eq_getElem?_getD, h']; rfl
  rw [Tr.symK]
  simp only [Nat.add_sub_cancel, e, e']
  by_cases q : y = z <;> simp [q]
theorem str_eqS (y z : List UInt8) : ((⟨y.toArray⟩ : ByteArray).toList == (⟨z.toArray⟩ : ByteArray).toList) = decide (y = z) := by
  rw [ByteArray.toList_mk, ByteArray.toList_mk]
  by_cases q : y = z
  · simp [q]
  · simp [q]
def PSym (d : Nat) : Prop := ∀ (x : List UInt8) (w : World), x.length ≤ d → Tr.isTx x = true → Calls Try.prog 42 #[.string ⟨x.toArray⟩] w (Res1 (Tr.sy x) w)
set_option maxHeartbeats 2000000 in
theorem pSym_succ (d : Nat) (IH : PSym d) : PSym (d + 1) := by
  intro x w hxd hx
  obtain ⟨_, HB, h7⟩ := Tr.br_parts hx
  obtain ⟨hD, hK, hM⟩ := Tr.sy_parts hx
  have C1 := fun w => branches_any x w hx
  have HD := Lib.hid hD
  have HK := Lib.hid hK
  have HMU := Lib.hid hM
  have HBR := Lib.hid HB
  obtain ⟨P, hP⟩ : ∃ P, P = (Tr.brT x).length := ⟨_, rfl⟩
  have HP : Hid ((Tr.brT x).length = P) := hP.symm
  have hP7 : P ≤ 7 := by rw [hP]; exact h7
  have HXD := Lib.hid hxd
  obtain ⟨S, hS⟩ : ∃ S : ByteArray, S = ⟨x.toArray⟩ := ⟨_, rfl⟩
  rw [← hS] at C1 ⊢
  clear hD hK hM HB h7 hP hxd hx hS
  go_enter Try.func42, Try.ntmps42
  go_wp2_with fail
  refine (C1 _).mono ?_
  rintro e w1 ⟨A, q, c, rfl, hq, own1, bel1⟩
  have hqP : q = P := by rw [hq]; exact HP.out
  subst hqP
  have hs1 := bel1.size
  have HROW : Hid (Row w1 w1.heap.size A (strs (Tr.brT x))) := row_of_own own1
  have HB1 := Lib.hid bel1
  clear hq own1 bel1 C1
  go_wp2_with fail
  go_loopw [3, 4, 12] (fun v o i wr => ∃ (k : Nat) (a u : Int), k ≤ q ∧ v = .int .i64 a ∧ o = .int .i64 u ∧ i = .int .i64 k ∧ Hid (a = (Tr.symK Tr.sy (Tr.brT x) k).1) ∧ Hid (u = (Tr.symK Tr.sy (Tr.brT x) k).2) ∧ Below w1.heap.size w1 wr) (fun _ _ i _ => q - (intOf i).toNat)
  case atStart => exact ⟨0, 1, 0, Nat.zero_le _, rfl, rfl, rfl, rfl, rfl, Below.refl _ _⟩
  case round =>
    obtain ⟨k, a, u, hk, rfl, rfl, rfl, HA, HU, HBw⟩ := hrel
    have hsz := HBw.size
    by_cases hlt : k < q
    · obtain ⟨y, hy⟩ := at_lt (show k < (Tr.brT x).length by rw [HP.out]; exact hlt)
      obtain ⟨hyt, hyl⟩ := HBR.out y (List.mem_of_getElem? hy)
      obtain ⟨b, o, rfl, _, hc⟩ := (HROW.out.below HBw (Nat.le_refl _)) k _ (strs_at hy)
      have C2 := fun w => IH y w (by have := HXD.out; omega) hyt
      have hk0 := HK.out k (by rw [HP.out]; omega)
      have hk1 := HK.out (k + 1) (by rw [HP.out]; omega)
      have hm1 := HMU.out k (by rw [HP.out]; exact hlt)
      have ey : (Tr.brT x).getD k [] = y := by rw [List.getD_eq_getElem?_getD, hy]; rfl
      rw [ey] at hm1
      have hstep := symK_step (f := Tr.sy) hy
      obtain ⟨v, hv⟩ : ∃ v, v = (Tr.symK Tr.sy (Tr.brT x) (k + 1)).2 := ⟨_, rfl⟩
      rw [← hv] at hstep hm1
      obtain ⟨z, hz⟩ : ∃ z, z = Tr.sy y := ⟨_, rfl⟩
      rw [← hz] at hstep hm1 C2
      rw [← HA.out] at hstep hk0
      rw [hstep] at hk1
      have HST : Hid (a * (v * z) = (Tr.symK Tr.sy (Tr.brT x) (k + 1)).1) := by rw [Hid, hstep]
      have HSV : Hid (v = (Tr.symK Tr.sy (Tr.brT x) (k + 1)).2) := by rw [Hid, hstep]
      have hmw1 : IntKind.i64.wrap (v * z) = v * z := IntWalk.i64_in _ (by omega)
      have hmw2 : IntKind.i64.wrap (a * (v * z)) = a * (v * z) := IntWalk.i64_in _ (by have := hk1.1; simp only at this; omega)
      have hvb : 0 ≤ v ∧ v ≤ 8 := by have := hk1.2; simpa using this
      have hub := hk0.2
      rw [← HU.out] at hub
      obtain ⟨Y, hY⟩ : ∃ Y : ByteArray, Y = ⟨y.toArray⟩ := ⟨_, rfl⟩
      have HBW := Lib.hid HBw
      rcases Nat.eq_zero_or_pos k with rfl | hk1'
      · rw [Nat.add_zero] at hc
        have hu0 : u = 0 := by have := HU.out; simpa [Tr.symK] using this
        have hv1 : v = 1 := by rw [hv]; exact symK_zero
        subst hu0 hv1
        have hz1 : IntKind.i64.wrap z = z := by rw [Int.one_mul] at hmw1; exact hmw1
        have hz2 : IntKind.i64.wrap (a * z) = a * z := by rw [Int.one_mul] at hmw2; exact hmw2
        have HST1 : Hid (a * z = (Tr.symK Tr.sy (Tr.brT x) (0 + 1)).1) := by have := HST.out; rw [Int.one_mul] at this; exact this
        clear hmw1 hmw2 HST
        rw [← hY] at C2 hc
        clear hy hyt hyl hstep hz hY HBw hk0 hk1 hm1 ey hv HA HU hub hvb
        go_wp2_with fail
        refine (C2 _).mono ?_
        rintro e w2 ⟨rfl, bel2⟩
        have HB2 : Hid (Below w1.heap.size w1 w2) := HBW.out.trans (bel2.mono hsz)
        clear bel2
        go_wp2
        go_roundw
        case rel => exact ⟨1, _, _, by omega, rfl, rfl, by go_num, HST1.out, HSV.out, HB2.out⟩
        case measure => simp [intOf]; omega
      · obtain ⟨j, rfl⟩ : ∃ j, k = j + 1 := ⟨k - 1, by omega⟩
        obtain ⟨p, hp⟩ := at_lt (show j < (Tr.brT x).length by rw [HP.out]; omega)
        obtain ⟨_, _, e1, _, hcp⟩ := (HROW.out.below HBw (Nat.le_refl _)) j _ (strs_at hp)
        cases e1
        have hsame := symK_same (f := Tr.sy) hy hp
        rw [← hv, ← HU.out] at hsame
        have hstr := str_eqS y p
        obtain ⟨Y', hY'⟩ : ∃ Y' : ByteArray, Y' = ⟨p.toArray⟩ := ⟨_, rfl⟩
        rw [← hY, ← hY'] at hstr
        rw [← hY] at C2 hc
        rw [← hY'] at hcp
        have ek : (((j + 1 : Nat)) : Int) = (j : Int) + 1 := by omega
        have hwj : IntKind.i64.wrap (j : Int) = (j : Int) := IntWalk.i64_in _ (by omega)
        by_cases hyp : y = p
        · rw [if_pos hyp] at hsame
          have ht : (Y.toList == Y'.toList) = true := by rw [hstr]; exact decide_eq_true hyp
          have hwu : IntKind.i64.wrap (u + 1) = v := by rw [hsame]; exact IntWalk.i64_in _ (by omega)
          rw [ek]
          clear hy hp hyt hyl hstep hz hY hY' HBw hk0 hk1 hm1 ey hv HA HU hsame hstr hyp ek
          go_wp2_with fail
          refine (C2 _).mono ?_
          rintro e w2 ⟨rfl, bel2⟩
          have HB2 : Hid (Below w1.heap.size w1 w2) := HBW.out.trans (bel2.mono hsz)
          clear bel2
          go_wp2
          go_roundw
          case rel => exact ⟨j + 1 + 1, _, _, by omega, rfl, rfl, by go_num, HST.out, HSV.out, HB2.out⟩
          case measure => simp [intOf]; omega
        · rw [if_neg hyp] at hsame
          have ht : (Y.toList == Y'.toList) = false := by rw [hstr]; exact decide_eq_false hyp
          have hv1 : v = 1 := by omega
          subst hv1
          have hz1 : IntKind.i64.wrap z = z := by rw [Int.one_mul] at hmw1; exact hmw1
          have hz2 : IntKind.i64.wrap (a * z) = a * z := by rw [Int.one_mul] at hmw2; exact hmw2
          have HST1 : Hid (a * z = (Tr.symK Tr.sy (Tr.brT x) (j + 1 + 1)).1) := by have := HST.out; rw [Int.one_mul] at this; exact this
          clear hmw1 hmw2 HST
          rw [ek]
          clear hy hp hyt hyl hstep hz hY hY' HBw hk0 hk1 hm1 ey hv HA HU hsame hstr hyp ek hub hvb
          go_wp2_with fail
          refine (C2 _).mono ?_
          rintro e w2 ⟨rfl, bel2⟩
          have HB2 : Hid (Below w1.heap.size w1 w2) := HBW.out.trans (bel2.mono hsz)
          clear bel2
          go_wp2
          go_roundw
          case rel => exact ⟨j + 1 + 1, _, _, by omega, rfl, rfl, by go_num, HST1.out, HSV.out, HB2.out⟩
          case measure => simp [intOf]; omega
    · obtain rfl : k = q := by omega
      have G : Hid (Res1 (Tr.sy x) w (.returned (.int .i64 a)) wr) :=
        Res1.of (by rw [HD.out, HP.out, HA.out]) (HB1.out.trans (HBw.mono hs1))
      clear HBw
      go_wp2
      go_ret
      exact G.out
theorem symmetry_any (x : List UInt8) (w : World) (hx : Tr.isTx x = true) : Calls Try.prog 42 #[.string ⟨x.toArray⟩] w (Res1 (Tr.sy x) w) := by
  have key : ∀ d, PSym d := fun d => by
    induction d with
    | zero => intro y w hy ht; have := (Tr.br_parts ht).1.1; omega
    | succ d ih => exact pSym_succ d ih
  exact key x.length x w (Nat.le_refl _) hx
end Go.Proofs.Ytplpcodknidgpaa
