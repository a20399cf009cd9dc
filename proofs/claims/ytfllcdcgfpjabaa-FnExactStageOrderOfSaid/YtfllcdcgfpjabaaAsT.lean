/-
  Assumptions of a tableau, the program's: the number up to which the conditions of a kind are met.
-/
import Derived.Test.YtfllcdcgfpjabaaAsH
import Derived.Test.YtfllcdcgfpjabaaTqP
import Derived.Deep.RegionHeld3
import Derived.Deep.DeepCutAuto
namespace Go.Proofs.Ytfllcdcgfpjabaa
open Go.RowKit Fld
set_option linter.unusedVariables false
set_option linter.unusedSimpArgs false
set_option maxRecDepth 100000

/-- the kinds: how many conditions there are for one k -/
def cntK (n kd : Nat) : Nat := if kd = 0 then 1 else n
def sumsL (b : List Int) (m : List (List Int)) (c : List Int) (n kd k : Nat) : List Int := (List.range (cntK n kd)).map fun i => sumI b m c n kd k i
def intsL (b c : List Int) (n kd k : Nat) : List Int := (List.range (cntK n kd)).map fun i => intI b c kd k i
theorem sumsL_at {b : List Int} {m : List (List Int)} {c : List Int} {n kd k i : Nat} (h : i < cntK n kd) : (sumsL b m c n kd k)[i]? = some (sumI b m c n kd k i) := by
  unfold sumsL; rw [List.getElem?_map, List.getElem?_range h]; rfl
theorem intsL_at {b c : List Int} {n kd k i : Nat} (h : i < cntK n kd) : (intsL b c n kd k)[i]? = some (intI b c kd k i) := by
  unfold intsL; rw [List.getElem?_map, List.getElem?_range h]; rfl
theorem cntK_le {n kd : Nat} (h : 1 ≤ n) : cntK n kd ≤ n := by unfold cntK; split <;> omega
theorem metK_cnt {b : List Int} {m : List (List Int)} {c : List Int} {n kd k : Nat} (h : ∀ i, i < cntK n kd → metI b m c n kd k i) : metK b m c n kd k := fun i hi => by
  by_cases e : kd = 0
  · subst e
    have := h 0 (by unfold cntK; rw [if_pos rfl]; omega)
    unfold metI sumI intI at this ⊢
    exact this
  · exact h i (by unfold cntK; rw [if_neg e]; exact hi)
set_option maxHeartbeats 4000000 in
theorem meetsTo_gen (kd fk : Nat) (T : TypeId) (A D : Option Addr) (n c d B B' : Nat) (m : List (List Int)) (b : List Int) (w : World) (hl : m.length = n) (hl' : b.length = n) (hn1 : 1 ≤ n) (hn : n ≤ 8) (hq : Wide m n) (hnum : ∀ r ∈ m, allNum r = true) (hnb : allNum b = true) (hB : B ≤ w.heap.size) (hB' : B' ≤ w.heap.size) (h : Mat w B A m) (r : Row w B' D (ints b)) (hmt : ∀ W : World, (method 266 T (.agg #[]) "loop.example/g01100/impl.sums").run Try.prog W = .ok (fk, .agg #[]) W) (hcf : ∀ (args : Array Value) (W : World), (callFunc fk args).run Try.prog W = .ok (.enter fk args) W)
    (CS : ∀ (V : World) (A2 : Option Addr) (c2 k : Nat), Below w.heap.size w V → Row V V.heap.size A2 (ints (pwL (appL m (List.replicate n 1)) k)) → Calls Try.prog fk #[.agg #[], .agg #[.slice A n c, .slice D n d], .slice A2 n c2] V (RdRow (cntK n kd) (ints (sumsL b m (appL m (List.replicate n 1)) n kd k)) V))
    (CI : ∀ (V : World) (A2 : Option Addr) (c2 k : Nat), Below w.heap.size w V → Row V V.heap.size A2 (ints (pwL (appL m (List.replicate n 1)) k)) → Calls Try.prog 77 #[.agg #[.slice A n c, .slice D n d], .iface T (.agg #[]), .slice A2 n c2] V (RdRow (cntK n kd) (ints (intsL b (appL m (List.replicate n 1)) n kd k)) V)) :
    Calls Try.prog 50 #[.agg #[.slice A n c, .slice D n d], .iface T (.agg #[])] w fun e w' => e = .returned (.int .i64 ((ordK m b kd : Nat) : Int)) ∧ Below w.heap.size w w' := by
  have HL := Lib.hid hl
  have HL' := Lib.hid hl'
  obtain ⟨W0, hW0⟩ : ∃ W0, W0 = w.alloc (.cells #[.slice A n c, .slice D n d] 65) := ⟨_, rfl⟩
  have HB : Hid (Below w.heap.size w W0) := by rw [hW0]; exact (Below.refl _ _).alloc (Nat.le_refl _) _
  have HX : Hid (Bx W0 w.heap.size 65 (.slice A n c) (.slice D n d)) := by rw [hW0]; exact Bx.new _ _ _ _
  have hz := HB.out.size
  have KK : Hid (∀ V, Below W0.heap.size W0 V → V.cell? ⟨w.heap.size, 0, none⟩ = some (.slice A n c) ∧ V.cell? ⟨w.heap.size, 1, none⟩ = some (.slice D n d)) := fun V hV => ⟨(HX.out.next hV).c0, (HX.out.next hV).c1⟩
  have CN := fun V (hV : Below W0.heap.size W0 V) => (nodes_any A D n c d B m V hl hn1 hn hq hnum (by have := hV.size; omega) ((h.below HB.out hB).below hV (by omega))).mono (fun e w' hh => RdRow.of (Below.refl _ _) hh)
  have CO := fun V => (ones_any A D n c n d V hn1 hn).mono (fun e w' hh => RdRow.of (Below.refl _ _) hh)
  obtain ⟨cl, hcl⟩ : ∃ C, C = appL m (List.replicate n 1) := ⟨_, rfl⟩
  rw [← hcl] at CS CI CN
  have HCL := Lib.hid hcl
  have HLC : Hid (cl.length = n) := by rw [hcl]; exact (appL_length _ _).trans hl
  have HNC : Hid (allNum cl = true) := by rw [hcl]; exact appL_num _ _
  clear hl hl' hq hnum hnb h r hcl
  go_enter Try.func50, Try.ntmps50
  go_wp2_with fail
  rw [← hW0]
  clear hW0
  go_region_held3 (fun V => V.cell? ⟨w.heap.size, 0, none⟩ = some (.slice A n c) ∧ V.cell? ⟨w.heap.size, 1, none⟩ = some (.slice D n d))
    (first | exact KK.out _ (Below.refl _ _) | exact KK.out _ (Below.refl _ _).drew | exact KK.out _ (below_drewN (Below.refl _ _) _) | exact KK.out _ (below_undrawn (a := 1) b3) | exact KK.out _ (below_undrawn (a := 1) b4) | exact KK.out _ ((below_undrawn (a := 1) b3).trans (b4.mono (below_undrawn (a := 1) b3).size)) | exact KK.out _ ((below_undrawn (a := 1) b4).trans (b3.mono (below_undrawn (a := 1) b4).size)))
      (first
        | (go_at_call 63; refine (CN _ (by first | exact Below.refl _ _ | exact (Below.refl _ _).drew | exact below_drewN (Below.refl _ _) _ | exact below_undrawn (a := 1) b4)).mono ?_; clear CN; rintro e w3 ⟨A3, c3, rfl, r3, b3⟩)
        | (go_at_call 75; refine (CO _).mono ?_; clear CO; rintro e w4 ⟨A4, c4, rfl, r4, b4⟩))
  have hb3 : Below W0.heap.size W0 w3 := below_undrawn (a := 1) b3
  have hb4 : Below W0.heap.size W0 w4 := hb3.trans (b4.mono hb3.size)
  have HC4 := Lib.hid ((r3.below b4 (Nat.le_refl _)).more b4.size)
  have HP4 : Hid (Row w4 w4.heap.size A4 (ints (pwL cl 0))) := by rw [pwL_zero HLC.out]; exact r4
  have HB4 := Lib.hid hb4
  have hz4 := hb4.size
  have hz34 := b4.size
  clear b3 b4 r3 r4 hb3 hb4
  go_wp2_with fail
  go_loopw [6, 7] (fun pv kv wr => ∃ (k : Nat) (A6 : Option Addr) (c6 : Nat), k ≤ 16 ∧ pv = .slice A6 n c6 ∧ kv = .int .i64 ((k : Int) + 1) ∧ Hid (Row wr wr.heap.size A6 (ints (pwL cl k))) ∧ Hid (∀ j, j < k → metK b m cl n kd j) ∧ Hid (Below w4.heap.size w4 wr)) (fun _ kv _ => 17 - (intOf kv).toNat)
  case atStart => exact ⟨0, A4, c4, by omega, rfl, rfl, HP4, fun j hj => by omega, Below.refl _ _⟩
  case round =>
    obtain ⟨k, A6, c6, hk, rfl, rfl, HP, HK, HBB⟩ := hrel
    by_cases hlt : k < 16
    · have tk : (k : Int) + 1 ≤ 16 := by omega
      have HB0 := Lib.hid (HB4.out.trans (HBB.out.mono hz4))
      have C1 := CS wr A6 c6 k (HB.out.trans (HB0.out.mono HB.out.size)) HP.out
      have HXR := HX.out.next HB0.out
      have q0 := HXR.c0
      have q1 := HXR.c1
      clear HXR
      go_wp2_with fail
      refine C1.mono ?_
      rintro e w5 ⟨A8, c8, rfl, r8, b5⟩
      have HB5 := Lib.hid (HBB.out.trans (b5.mono HBB.out.size))
      have HS5 := Lib.hid r8
      have HP5 := Lib.hid (HP.out.below b5 (Nat.le_refl _))
      have hz5 := HB5.out.size
      have C2 := productsOf_any A6 A3 n c6 c3 wr.heap.size w4.heap.size (pwL cl k) cl w5 ((pwL_length _ _).trans HLC.out) HLC.out (by omega) (pwL_num _ _) HNC.out b5.size hz5 HP5.out (HC4.out.below HB5.out (Nat.le_refl _))
      rw [pwL_next] at C2
      clear C1 b5 r8 q0 q1 HP HBB HB0
      go_wp2_with fail
      refine C2.mono ?_
      rintro e w6 ⟨A9, c9, rfl, own6, b6⟩
      have HB6 := Lib.hid (HB5.out.trans (b6.mono HB5.out.size))
      have HP6 := Lib.hid (row_of_own own6)
      have HS6 := Lib.hid (HS5.out.below b6 (Nat.le_refl _))
      have hz6 := b6.size
      have hz46 := HB6.out.size
      have HB06 := Lib.hid (HB4.out.trans (HB6.out.mono hz4))
      have C3 := CI w6 A9 c9 (k + 1) (HB.out.trans (HB06.out.mono HB.out.size)) HP6.out
      have HXR := HX.out.next HB06.out
      have q0 := HXR.c0
      have q1 := HXR.c1
      clear C2 own6 b6 HS5 HP5 HB5 HXR
      go_wp2_with fail
      refine C3.mono ?_
      rintro e w7 ⟨A10, c10, rfl, r10, b7⟩
      have HB7 := Lib.hid (HB6.out.trans (b7.mono HB6.out.size))
      have HI7 := Lib.hid r10
      have HP7 := Lib.hid ((HP6.out.below b7 (Nat.le_refl _)).more b7.size)
      have HS7 := Lib.hid (HS6.out.below b7 (by omega))
      clear C3 r10 b7 HP6 HS6 HB6 HB06 q0 q1
      obtain ⟨q, hq⟩ : ∃ q, q = cntK n kd := ⟨_, rfl⟩
      have HQ := Lib.hid hq
      have hqn : q ≤ n := by rw [hq]; exact cntK_le hn1
      rw [← hq]
      clear hq
      go_wp2_with fail
      go_loop [31] (fun iv => ∃ i : Nat, i ≤ q ∧ iv = .int .i64 i ∧ Hid (∀ j, j < i → metI b m cl n kd k j)) (fun iv => q - (intOf iv).toNat)
      case atStart => exact ⟨0, Nat.zero_le _, rfl, fun j hj => by omega⟩
      case round =>
        obtain ⟨i, hi, rfl, HI⟩ := hrel
        by_cases hil : i < q
        · have hil2 : i < cntK n kd := by rw [← HQ.out]; exact hil
          obtain ⟨bs, os, rfl, _, hcs⟩ := HS7.out i _ (ints_at (sumsL_at hil2))
          obtain ⟨bi, oi, rfl, _, hci⟩ := HI7.out i _ (ints_at (intsL_at hil2))
          obtain ⟨s0, s1⟩ := sumI_bd b m cl n kd k i
          have HME : Hid (metI b m cl n kd k i ↔ sumI b m cl n kd k i * ((k : Int) + 1) % 10007 = intI b cl kd (k + 1) i) := by
            unfold metI; rw [Hid, show ((k + 1 : Nat) : Int) = (k : Int) + 1 by omega]
          obtain ⟨S, hS⟩ : ∃ S, S = sumI b m cl n kd k i := ⟨_, rfl⟩
          rw [← hS] at hcs s0 s1 HME
          obtain ⟨J, hJ⟩ : ∃ J, J = intI b cl kd (k + 1) i := ⟨_, rfl⟩
          rw [← hJ] at hci HME
          clear hS hJ hil2
          by_cases he : S * ((k : Int) + 1) % 10007 = J
          · have G : Hid (∀ j, j < i + 1 → metI b m cl n kd k j) := fun j hj => by
              by_cases e : j = i
              · rw [e]; exact HME.out.2 he
              · exact HI.out j (by omega)
            have te := bne_f he
            clear HI HME he
            go_wp2_with (go_at_call 78; refine (times_any _ _ _ s0 s1 (by omega) (by omega)).mono ?_; rintro e w8 ⟨rfl, rfl⟩)
            go_round
            case rel => exact ⟨i + 1, by omega, by go_num, G⟩
            case measure => simp [intOf]; omega
          · have G : Hid (ordK m b kd = k) := ordK_no HL'.out HCL.out hlt HK.out (by omega) (fun hh => he (HME.out.1 hh))
            have te := bne_t he
            have hwr : IntKind.i64.wrap ((k : Int) + 1 - 1) = (k : Int) := by rw [IntWalk.i64_in _ (by omega)]; omega
            have HBF := Lib.hid (HB.out.trans ((HB4.out.trans (HB7.out.mono hz4)).mono HB.out.size))
            clear HI HME he HB7
            go_wp2_with (go_at_call 78; refine (times_any _ _ _ s0 s1 (by omega) (by omega)).mono ?_; rintro e w8 ⟨rfl, rfl⟩)
            go_ret
            exact ⟨ret_i64 (by rw [G.out]), HBF.out⟩
        · obtain rfl : i = q := by omega
          have G : Hid (∀ j, j < k + 1 → metK b m cl n kd j) := fun j hj => by
            by_cases e : j = k
            · rw [e]; exact metK_cnt (fun i hi => HI.out i (by rw [HQ.out]; exact hi))
            · exact HK.out j (by omega)
          clear HI HK
          go_wp2
          go_roundw
          case rel => exact ⟨k + 1, A9, c9, by omega, rfl, by go_num, HP7, G, HB7⟩
          case measure => simp [intOf]; omega
    · obtain rfl : k = 16 := by omega
      have G : Hid (ordK m b kd = 16) := ordK_yes HL'.out HCL.out HK.out
      have HBF := Lib.hid (HB.out.trans ((HB4.out.trans (HBB.out.mono hz4)).mono HB.out.size))
      clear HK HBB HP
      go_wp2
      go_ret
      exact ⟨ret_i64 (by rw [G.out]; rfl), HBF.out⟩
end Go.Proofs.Ytfllcdcgfpjabaa
