/-
  What IsSuperfluous answers: is a tree the Butcher product of a branch with itself (the program's), slices.ContainsFunc, the program's and the model's answer.
-/
import Derived.Test.YtgicbmfcojfjcabGrfT
import Derived.Test.YtgicbmfcojfjcabFrm
import Derived.Test.YtgicbmfcojfjcabSupP
import Derived.Test.YtgicbmfcojfjcabSupL
import Derived.Test.YtgicbmfcojfjcabTreeOf
import Derived.Test.YtgicbmfcojfjcabLev
import Derived.Test.YtgicbmfcojfjcabCan
namespace Go.Proofs.Ytgicbmfcojfjcab
open Go.RowKit Fld
set_option linter.unusedVariables false
set_option linter.unusedSimpArgs false
set_option maxRecDepth 100000

def sqAt (x b : List UInt8) : Bool := decide (Tr.rootT (Tr.brT b ++ [b]) = x)
def squareT (x : List UInt8) : Bool := (Tr.brT x).any (sqAt x)
theorem any_step {l : List (List UInt8)} {p : List UInt8 → Bool} {k : Nat} {b : List UInt8} (h : l[k]? = some b) (h0 : (l.take k).any p = false) (hp : p b = false) : (l.take (k + 1)).any p = false := by
  rw [List.take_add_one, h, Option.toList_some, List.any_append, h0]; simp [hp]
theorem any_hit {l : List (List UInt8)} {p : List UInt8 → Bool} {k : Nat} {b : List UInt8} (h : l[k]? = some b) (hp : p b = true) : l.any p = true :=
  List.any_eq_true.2 ⟨b, List.mem_of_getElem? h, hp⟩
theorem str_eqb (a b : List UInt8) : ((⟨a.toArray⟩ : ByteArray).toList == (⟨b.toArray⟩ : ByteArray).toList) = decide (a = b) := by
  rw [ByteArray.toList_eq, ByteArray.toList_eq]
  by_cases h : a = b
  · subst h; simp
  · rw [decide_eq_false h]; exact beq_eq_false_iff_ne.2 h
set_option maxHeartbeats 1000000 in
theorem isSquare_any (x : List UInt8) (w : World) (hx : Tr.isTx x = true) : Calls Try.prog 85 #[.string ⟨x.toArray⟩] w fun e w' => e = .returned (.bool (squareT x)) ∧ Below w.heap.size w w' := by
  obtain ⟨_, hb, h7⟩ := Tr.br_parts hx
  have HB := Lib.hid hb
  have hx16 := (Tr.br_parts hx).1.2
  have C0 := branches_any x w hx
  obtain ⟨bs, hbs⟩ : ∃ bs, bs = Tr.brT x := ⟨_, rfl⟩
  have HBS := Lib.hid hbs
  rw [← hbs] at C0 h7 HB
  obtain ⟨X, hX⟩ : ∃ X : ByteArray, X = ⟨x.toArray⟩ := ⟨_, rfl⟩
  have HX := Lib.hid hX
  rw [← hX] at C0 ⊢
  clear hbs hb hX hx
  go_enter Try.func85, Try.ntmps85
  go_wp2_with fail
  refine C0.mono ?_
  rintro e w1 ⟨A, q, c, rfl, hq, own1, bel1⟩
  have HQ := Lib.hid hq
  have hq7 : q ≤ 7 := by omega
  have HR := Lib.hid (row_of_own own1)
  have HB1 := Lib.hid bel1
  clear own1 bel1 hq C0
  go_wp2_with fail
  go_loopw [8] (fun i wr => ∃ k : Nat, k ≤ q ∧ i = .int .i64 k ∧ Hid ((bs.take k).any (sqAt x) = false) ∧ Below w1.heap.size w1 wr) (fun i _ => q - (intOf i).toNat)
  case atStart => exact ⟨0, Nat.zero_le _, rfl, by simp [Hid], Below.refl _ _⟩
  case round =>
    obtain ⟨k, hk, rfl, HA, HBW⟩ := hrel
    have hsz := HBW.size
    by_cases hlt : k < q
    · obtain ⟨b, hbk⟩ := at_lt (show k < bs.length by have := HQ.out; omega)
      obtain ⟨bb, oo, rfl, _, hck⟩ := (Row.below HR.out HBW (Nat.le_refl _)) k _ (strs_at hbk)
      obtain ⟨hbt, hbl⟩ := HB.out b (List.mem_of_getElem? hbk)
      have C1 := tTimes_any b b wr hbt (by omega)
      have e1 := str_eqb (Tr.rootT (Tr.brT b ++ [b])) x
      rw [← HX.out] at e1
      obtain ⟨Y, hY⟩ : ∃ Y : ByteArray, Y = ⟨b.toArray⟩ := ⟨_, rfl⟩
      obtain ⟨Z, hZ⟩ : ∃ Z : ByteArray, Z = ⟨(Tr.rootT (Tr.brT b ++ [b])).toArray⟩ := ⟨_, rfl⟩
      rw [← hY] at hck
      rw [← hY, ← hZ] at C1
      rw [← hZ] at e1
      have HBW' := Lib.hid HBW
      cases hs : sqAt x b
      · have G := Lib.hid (any_step hbk HA.out hs)
        rw [show decide (Tr.rootT (Tr.brT b ++ [b]) = x) = false from hs] at e1
        clear hbk HA hs hY hZ HBW hbl hbt
        go_wp2_with fail
        refine C1.mono ?_
        rintro e w2 ⟨rfl, bel2⟩
        have GB := Lib.hid (HBW'.out.trans (bel2.mono hsz))
        clear bel2 C1 hck
        go_wp2
        go_roundw
        case rel => exact ⟨k + 1, by omega, by go_num, G, GB.out⟩
        case measure => simp [intOf]; omega
      · have G : Hid (squareT x = true) := by
          rw [HBS.out] at hbk
          exact any_hit hbk hs
        rw [show decide (Tr.rootT (Tr.brT b ++ [b]) = x) = true from hs] at e1
        clear hbk HA hs hY hZ HBW hbl hbt
        go_wp2_with fail
        refine C1.mono ?_
        rintro e w2 ⟨rfl, bel2⟩
        have GB := Lib.hid (HB1.out.trans ((HBW'.out.trans (bel2.mono hsz)).mono HB1.out.size))
        clear bel2 C1 hck
        go_wp2
        go_ret
        exact ⟨ret_bool G.out.symm, GB.out⟩
    · obtain rfl : k = q := by omega
      have G : Hid (squareT x = false) := by
        have e := HA.out
        rw [List.take_of_length_le (by have := HQ.out; omega), HBS.out] at e
        exact e
      have GB := Lib.hid (HB1.out.trans (HBW.mono HB1.out.size))
      clear HA HBW
      go_wp2
      go_ret
      exact ⟨ret_bool G.out.symm, GB.out⟩
set_option maxHeartbeats 1000000 in
/-- the library's search for a tree that is a square -/
theorem indexSq_any (A : Option Addr) (n c B : Nat) (ss : List (List UInt8)) (w : World) (hl : ss.length = n) (hn : n ≤ 1048576) (hs : ∀ s ∈ ss, Tr.isTx s = true) (hB : B ≤ w.heap.size) (h : Row w B A (strs ss)) :
    Calls Try.prog 131 #[.slice A n c, (.func (.func 85) #[] #[])] w fun e w' => (∃ i : Int, e = .returned (.int .i64 i) ∧ -1 ≤ i ∧ i ≤ 1048576 ∧ decide (0 ≤ i) = ss.any squareT) ∧ Below w.heap.size w w' := by
  have HL := Lib.hid hl
  have HS := Lib.hid hs
  clear hl hs
  go_enter Try.func131, Try.ntmps131
  go_wp2_with fail
  go_loopw [8] (fun i wr => ∃ k : Nat, k ≤ n ∧ i = .int .i64 k ∧ Hid ((ss.take k).any squareT = false) ∧ Below w.heap.size w wr) (fun i _ => n - (intOf i).toNat)
  case atStart => exact ⟨0, Nat.zero_le _, rfl, by simp [Hid], Below.refl _ _⟩
  case round =>
    obtain ⟨k, hk, rfl, HA, HBW⟩ := hrel
    have hsz := HBW.size
    by_cases hlt : k < n
    · obtain ⟨b, hbk⟩ := at_lt (show k < ss.length by rw [HL.out]; exact hlt)
      obtain ⟨bb, oo, rfl, _, hck⟩ := (Row.below h HBW hB) k _ (strs_at hbk)
      have C1 := isSquare_any b wr (HS.out b (List.mem_of_getElem? hbk))
      obtain ⟨Y, hY⟩ : ∃ Y : ByteArray, Y = ⟨b.toArray⟩ := ⟨_, rfl⟩
      rw [← hY] at hck C1
      have HBW' := Lib.hid HBW
      cases hs : squareT b
      · have G := Lib.hid (any_step hbk HA.out hs)
        rw [hs] at C1
        clear hbk HA hs hY HBW
        go_wp2_with fail
        refine C1.mono ?_
        rintro e w2 ⟨rfl, bel2⟩
        have GB := Lib.hid (HBW'.out.trans (bel2.mono hsz))
        clear bel2 C1 hck
        go_wp2
        go_roundw
        case rel => exact ⟨k + 1, by omega, by go_num, G, GB.out⟩
        case measure => simp [intOf]; omega
      · have G : Hid (ss.any squareT = true) := any_hit hbk hs
        rw [hs] at C1
        clear hbk HA hs hY HBW
        go_wp2_with fail
        refine C1.mono ?_
        rintro e w2 ⟨rfl, bel2⟩
        have GB := Lib.hid (HBW'.out.trans (bel2.mono hsz))
        clear bel2 C1 hck
        go_wp2
        go_ret
        exact ⟨⟨(k : Int), rfl, by omega, by omega, by rw [G.out]; exact decide_eq_true (Int.natCast_nonneg _)⟩, GB.out⟩
    · obtain rfl : k = n := by omega
      have G : Hid (ss.any squareT = false) := by
        have e := HA.out
        rw [List.take_of_length_le (by rw [HL.out]; exact Nat.le_refl _)] at e
        exact e
      have GB := Lib.hid HBW
      clear HA HBW
      go_wp2
      go_ret
      exact ⟨⟨-1, rfl, by omega, by omega, by rw [G.out]; rfl⟩, GB.out⟩
theorem containsSq_any (A : Option Addr) (n c B : Nat) (ss : List (List UInt8)) (w : World) (hl : ss.length = n) (hn : n ≤ 1048576) (hs : ∀ s ∈ ss, Tr.isTx s = true) (hB : B ≤ w.heap.size) (h : Row w B A (strs ss)) :
    Calls Try.prog 84 #[.slice A n c, (.func (.func 85) #[] #[])] w fun e w' => e = .returned (.bool (ss.any squareT)) ∧ Below w.heap.size w w' := by
  have C0 := indexSq_any A n c B ss w hl hn hs hB h
  clear hl hs h
  go_enter Try.func84, Try.ntmps84
  go_wp2_with fail
  refine C0.mono ?_
  rintro e w1 ⟨⟨i, rfl, h1, h2, h3⟩, bel1⟩
  have H3 := Lib.hid h3
  have GB := Lib.hid bel1
  clear h3 bel1 C0
  go_wp2
  go_ret
  exact ⟨by rw [← H3.out]; rfl, GB.out⟩
def ResBI (r : Bool × Int) (w : World) (e : Ending) (w' : World) : Prop := e = .returned (.tuple #[.bool r.1, .int .i64 r.2]) ∧ Below w.heap.size w w'
theorem ResBI.of {r : Bool × Int} {w w' : World} {b : Bool} {k : Int} (h : r = (b, k)) (hb : Below w.heap.size w w') : ResBI r w (.returned (.tuple #[.bool b, .int .i64 k])) w' := by
  subst h; exact ⟨rfl, hb⟩
def supA (t : List Int) : Bool × Int := if Tr.isLv t = true then (Tr.supT (Tr.txt t), 0) else (false, 1)
theorem supA_no {t : List Int} (h : Tr.isLv t = false) : supA t = (false, 1) := if_neg (by rw [h]; simp)
theorem supA_yes {t : List Int} (h : Tr.isLv t = true) : supA t = ((rootsT (Tr.txt t)).any squareT, 0) := if_pos h
set_option maxHeartbeats 1000000 in
theorem pIsSuperfluous_L (A : Option Addr) (n c B : Nat) (t : List Int) (w : World) (hl : t.length = n) (hn : n ≤ 1048576) (hB : B ≤ w.heap.size) (h : Row w B A (ints t)) (hc : n ≤ c) :
    Calls Try.prog 32 #[.slice A n c] w (ResBI (supA t) w) := by
  have C0 := isLevels_any A n c B t w hl (by omega) h
  cases h1 : Tr.isLv t
  · have G := Lib.hid (supA_no h1)
    rw [h1] at C0
    clear hl h1
    go_enter Try.func32, Try.ntmps32
    go_wp2_with fail
    refine C0.mono ?_
    rintro e w1 ⟨rfl, d, rfl⟩
    go_wp2
    go_ret2
    exact ResBI.of G.out (below_drewN (Below.refl _ _) _)
  · rw [h1] at C0
    have G := Lib.hid (supA_yes h1)
    obtain ⟨a1, a8⟩ := lv_bd h1
    rw [hl] at a1 a8
    have z1 := (lv_txt h1).2.2.2
    rw [hl] at z1
    have hx := Tr.tx_txt h1
    have C2 := fun w => roots_any (Tr.txt t) w hx
    have HS : Hid (∀ s ∈ rootsT (Tr.txt t), Tr.isTx s = true) := fun s hs => roots_tx hx s hs
    have HL := Lib.hid hl
    have HR : Hid ((rootsT (Tr.txt t)).length = n) := by rw [Hid, rootsT_len, z1]; omega
    have hz : (Tr.txt t).length / 2 = n := by rw [z1]; omega
    rw [hz] at C2
    clear hl h1 z1 hx hz
    go_enter Try.func32, Try.ntmps32
    go_wp2_with fail
    refine C0.mono ?_
    rintro e w1 ⟨rfl, d, rfl⟩
    have B1 : Hid (Below w.heap.size w (w.drewN d)) := below_drewN (Below.refl _ _) d
    generalize w.drewN d = W1 at *
    go_wp2_with fail
    refine (treeOf_any A n c B t _ HL.out a1 a8 hc (Nat.le_trans hB B1.out.size) (Row.below h B1.out hB)).mono ?_
    rintro e w2 ⟨rfl, bel2⟩
    have B2 : Hid (Below w.heap.size w w2) := B1.out.trans (bel2.mono B1.out.size)
    clear bel2
    go_wp2_with fail
    refine (C2 _).mono ?_
    rintro e w3 ⟨rfl, own3, bel3⟩
    have B3 : Hid (Below w.heap.size w w3) := B2.out.trans (bel3.mono B2.out.size)
    have HROW := Lib.hid (row_of_own own3)
    clear own3 bel3 C2
    go_wp2_with fail
    refine (containsSq_any _ n n w3.heap.size (rootsT (Tr.txt t)) w3 HR.out (by omega) HS.out (Nat.le_refl _) HROW.out).mono ?_
    rintro e w4 ⟨rfl, bel4⟩
    have B4 : Hid (Below w.heap.size w w4) := B3.out.trans (bel4.mono B3.out.size)
    clear bel4
    go_wp2
    go_ret2
    exact ResBI.of G.out B4.out
theorem supA_double {t : List Int} (h : Tr.isLv t = true) : supA t = (Tr.doubleL (Tr.can t) (t.length - 1), 0) := by
  have h1 := lv_can h
  have h2 := Tr.sup_eq h1.1 (Tr.can_can h).1
  rw [h1.2, (Tr.can_can h).2] at h2
  rw [h2]; exact if_pos h
set_option maxHeartbeats 1000000 in
theorem sIsSuperfluous_L (A : Option Addr) (n c B : Nat) (t : List Int) (w : World) (hl : t.length = n) (hn : n ≤ 1048576) (hB : B ≤ w.heap.size) (h : Row w B A (ints t)) :
    Calls Try.prog 31 #[.slice A n c] w (ResBI (supA t) w) := by
  have C0 := l03Is_any A n c B t w hl hn h
  cases h1 : Tr.isLv t
  · have G := Lib.hid (supA_no h1)
    rw [h1] at C0
    clear hl h1
    go_enter Try.func31, Try.ntmps31
    go_wp2_with fail
    refine C0.mono ?_
    rintro e w1 ⟨rfl, d, rfl⟩
    go_wp2
    go_ret2
    exact ResBI.of G.out (below_drewN (Below.refl _ _) _)
  · rw [h1] at C0
    have G := Lib.hid (supA_double h1)
    rw [hl] at G
    have H1 := Lib.hid (lv_can h1).1
    have HCL : Hid ((Tr.can t).length = n) := by rw [Hid, (lv_can h1).2, hl]
    have HT := Lib.hid h1
    have HL := Lib.hid hl
    clear hl h1
    go_enter Try.func31, Try.ntmps31
    go_wp2_with fail
    refine C0.mono ?_
    rintro e w1 ⟨rfl, d, rfl⟩
    have B1 : Hid (Below w.heap.size w (w.drewN d)) := below_drewN (Below.refl _ _) d
    generalize w.drewN d = W1 at *
    go_wp2_with fail
    refine (l03Canon_any A n c B t W1 HL.out HT.out (Nat.le_trans hB B1.out.size) (Row.below h B1.out hB)).mono ?_
    rintro e w2 ⟨A2, c2, rfl, own2, bel2⟩
    have B2 : Hid (Below w.heap.size w w2) := B1.out.trans (bel2.mono B1.out.size)
    have R2 := Lib.hid (row_of_own own2)
    have hc2 := (own_cap own2).1
    clear own2 bel2
    go_wp2_with fail
    refine (l04Double_any A2 n c2 w2.heap.size (Tr.can t) w2 HCL.out H1.out hc2 (Nat.le_refl _) R2.out).mono ?_
    rintro e w3 ⟨rfl, bel3⟩
    have B3 : Hid (Below w.heap.size w w3) := B2.out.trans (bel3.mono B2.out.size)
    clear bel3
    go_wp2
    go_ret2
    exact ResBI.of G.out B3.out
end Go.Proofs.Ytgicbmfcojfjcab
