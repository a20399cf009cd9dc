/-
  The next lower list of a tree, in place.
-/
import Derived.Test.YtgklilckjpbdnaaLev
import Derived.Test.YtgklilckjpbdnaaTreeN
import Derived.Test.YtgklilckjpbdnaaOwn1
namespace Go.Proofs.Ytgklilckjpbdnaa
open Go.RowKit Fld
set_option linter.unusedVariables false
set_option linter.unusedSimpArgs false
set_option maxRecDepth 100000

theorem last_le (t : List Int) : ∀ k, Tr.lastF t k ≤ k
  | 0 => Nat.le_refl _
  | k+1 => by rw [Tr.lastF]; split; · have := last_le t k; omega
              · exact Nat.le_refl _
theorem par_le (t : List Int) (x : Int) : ∀ k, Tr.parF t x k ≤ k
  | 0 => Nat.le_refl _
  | k+1 => by rw [Tr.parF]; split; · have := par_le t x k; omega
              · exact Nat.le_refl _
/-- what lower leaves -/
def Lowered (base g n cap : Nat) (t : List Int) (w : World) (e : Ending) (w' : World) : Prop :=
  (Tr.lowerL t = none ∧ e = .returned (.bool false) ∧ w = w') ∨ (∃ u, Tr.lowerL t = some u ∧ e = .returned (.bool true) ∧ w'.ownsRow base 2 1 (.slice (some ⟨g, 0, none⟩) n cap) n (ints u) ∧ w.grownBy w' (some g))
theorem cpy_step {d f i : Nat} {t : List Int} {x : Int} (hx : t[i - d]? = some x) : Tr.cpyF d (f + 1) i t = Tr.cpyF d f (i + 1) (t.set i x) := by
  rw [Tr.cpyF, lv_at hx]
def Cpd (base g n cap : Nat) (w : World) (T : List Int) (wr : World) : Prop := wr.ownsRow base 2 1 (.slice (some ⟨g, 0, none⟩) n cap) n (ints T) ∧ w.grownBy wr (some g)
theorem Cpd.step {base g n cap i : Nat} {w wr : World} {T : List Int} {x : Int} (h : Cpd base g n cap w T wr) : Cpd base g n cap w (T.set i x) (wr.setCell ⟨g, i, none⟩ (.int .i64 x)) := by
  obtain ⟨h1, h2⟩ := h.1.stored i (.int .i64 x)
  have e : (ints T).set i (.int .i64 x) = ints (T.set i x) := by unfold ints intsK; rw [List.map_set]
  rw [e] at h1
  exact ⟨h1, grownBy_trans h.2 h2⟩
theorem Cpd.start {base g n cap : Nat} {w : World} {t : List Int} (h : w.ownsRow base 2 1 (.slice (some ⟨g, 0, none⟩) n cap) n (ints t)) (M : Nat) : Cpd base g n cap (w.drewN M) t (w.drewN M) := ⟨h, World.grownBy.refl _ _⟩
set_option maxHeartbeats 1000000 in
theorem lower_any (base g n cap : Nat) (t : List Int) (w : World) (hl : t.length = n) (hlv : Tr.isLv t = true) (h : w.ownsRow base 2 1 (.slice (some ⟨g, 0, none⟩) n cap) n (ints t)) :
    Calls Try.prog 73 #[.slice (some ⟨g, 0, none⟩) n cap] w fun e w' => ∃ m, Lowered base g n cap t (w.drewN m) e w' := by
  have h3 := Tr.isLv_iff.1 hlv
  have n1 : 1 ≤ n := by have := h3.1; omega
  have n8 : n ≤ 8 := by have := h3.2.1; omega
  have HST : Hid (StepsTo t n) := by rw [Hid, ← hl]; exact h3.2.2.2
  have HZ : Hid (t.getD 0 0 = 0) := h3.2.2.1
  have HL := Lib.hid hl
  have HO := Lib.hid h
  have HLAST : Hid (Tr.lastF t (t.length - 1) = Tr.lastF t (n - 1)) := by rw [Hid, hl]
  clear hl hlv h3 h
  go_enter Try.func73, Try.ntmps73
  go_wp2_with fail
  go_loop [3] (fun l => ∃ k : Nat, k < n ∧ l = .int .i64 k ∧ Hid (Tr.lastF t (n - 1) = Tr.lastF t k)) (fun l => (intOf l).toNat)
  case atStart => exact ⟨n - 1, by omega, by go_num, rfl⟩
  case round =>
    obtain ⟨k, hk, rfl, HK⟩ := hrel
    obtain ⟨x, hx⟩ := at_lt (show k < t.length by rw [HL.out]; exact hk)
    have hcx := HO.out.cellAt k (by omega)
    rw [ints_at hx] at hcx
    have HX := Lib.hid hx
    rcases Nat.eq_zero_or_pos k with k0 | k0
    · subst k0
      have G : Hid (Tr.lowerL t = none) := by
        rw [Hid, Tr.lowerL]
        simp only [HLAST.out, HK.out]
        rfl
      clear hx HK
      go_wp2
      go_ret
      exact ⟨0, .inl ⟨G.out, rfl, rfl⟩⟩
    · obtain ⟨j, rfl⟩ : ∃ j, k = j + 1 := ⟨k - 1, by omega⟩
      by_cases hx1 : x = 1
      · have G : Hid (Tr.lastF t (n - 1) = Tr.lastF t j) := by
          rw [Hid, HK.out, Tr.lastF, lv_at hx, if_pos hx1]
        subst hx1
        clear hx HK
        go_wp2
        go_round
        case rel => exact ⟨j, by omega, by go_num, G⟩
        case measure => simp [intOf]
      · have tx := beq_f hx1
        have HLL : Hid (Tr.lastF t (n - 1) = j + 1) := by
          rw [Hid, HK.out, Tr.lastF, lv_at hx, if_neg hx1]
        have hxp : 1 ≤ x := by have := (HST.out (j + 1) hk (by omega)).1; rw [lv_at hx] at this; exact this
        clear hx HK
        have tz : ((j : Int) + 1 == 0) = false := beq_f (by omega)
        go_wp2_with fail
        go_loopw [4] (fun pp wr => ∃ p m : Nat, p ≤ j ∧ pp = .int .i64 p ∧ wr = w.drewN m ∧ Hid (Tr.parF t x j = Tr.parF t x p)) (fun pp _ => (intOf pp).toNat)
        case atStart => exact ⟨j, 0, Nat.le_refl _, by go_num, rfl, rfl⟩
        case round =>
          obtain ⟨p, m, hp, rfl, rfl, HP⟩ := hrel
          obtain ⟨y, hy⟩ := at_lt (show p < t.length by rw [HL.out]; omega)
          have hcy := HO.out.cellAt p (by omega)
          rw [ints_at hy] at hcy
          have hcx' : (w.drewN m).cell? ⟨g, j + 1, none⟩ = some (.int .i64 x) := hcx
          have hcy' : (w.drewN m).cell? ⟨g, p, none⟩ = some (.int .i64 y) := hcy
          by_cases hxy : x ≤ y
          · have hd : decide (x ≤ y) = true := decide_eq_true hxy
            obtain ⟨q, rfl⟩ : ∃ q, p = q + 1 := ⟨p - 1, by
              rcases Nat.eq_zero_or_pos p with e | e
              · subst e; have h9 := HZ.out; rw [lv_at hy] at h9; omega
              · omega⟩
            have G : Hid (Tr.parF t x j = Tr.parF t x q) := by
              rw [Hid, HP.out, Tr.parF, lv_at hy, if_pos hxy]
            clear hy HP
            go_wp2_with fail
            go_quiet (fail)
            go_wp2
            go_roundw
            case rel => exact ⟨q, _, by omega, by go_num, rfl, G⟩
            case measure => simp [intOf]
          · have hd : decide (x ≤ y) = false := decide_eq_false hxy
            have HPP : Hid (Tr.parF t x j = p) := by
              rw [Hid, HP.out]
              match p, hy with
              | 0, _ => rfl
              | q+1, hy => rw [Tr.parF, lv_at hy, if_neg hxy]
            have HLO : Hid (Tr.lowerL t = some (Tr.cpyF (j + 1 - p) (n - (j + 1)) (j + 1) t)) := by
              rw [Hid, Tr.lowerL]
              simp only [HL.out, HLL.out, lv_at HX.out, Nat.add_sub_cancel, HPP.out]
              rfl
            clear hy HP HLL
            go_wp2_with fail
            go_quiet (fail)
            go_wp2_with fail
            go_loopw [5] (fun ii wr => ∃ (e : Nat) (T : List Int), j + 1 + e ≤ n ∧ ii = .int .i64 ((j + 1 + e : Nat) : Int) ∧ Hid (Tr.cpyF (j + 1 - p) (n - (j + 1)) (j + 1) t = Tr.cpyF (j + 1 - p) (n - (j + 1 + e)) (j + 1 + e) T) ∧ Hid (T.length = n) ∧ ∃ M, Cpd base g n cap (w.drewN M) T wr) (fun ii _ => n - (intOf ii).toNat)
            case atStart => exact ⟨0, t, by omega, by go_num, rfl, HL.out, _, by rw [World.drewN_drewN]; exact Cpd.start HO.out _⟩
            case round =>
              obtain ⟨e, T, he, rfl, HC, HT, M, HD⟩ := hrel
              by_cases hlt : j + 1 + e < n
              · have hep : e + p < j + 1 + e := by omega
                obtain ⟨z, hz⟩ := at_lt (show e + p < T.length by rw [HT.out]; omega)
                have hcz := HD.1.cellAt (e + p) (by omega)
                rw [ints_at hz] at hcz
                obtain ⟨old, hold⟩ := at_lt (show j + 1 + e < T.length by rw [HT.out]; exact hlt)
                have hco := HD.1.cellAt (j + 1 + e) (by omega)
                rw [ints_at hold] at hco
                have hfo := HD.1.frozenAt (j + 1 + e)
                have HC2 : Hid (Tr.cpyF (j + 1 - p) (n - (j + 1)) (j + 1) t = Tr.cpyF (j + 1 - p) (n - (j + 1 + (e + 1))) (j + 1 + (e + 1)) (T.set (j + 1 + e) z)) := by
                  rw [Hid, HC.out, show n - (j + 1 + e) = n - (j + 1 + (e + 1)) + 1 from by omega, cpy_step (x := z) (by rw [show j + 1 + e - (j + 1 - p) = e + p from by omega]; exact hz)]
                  rfl
                have HT2 : Hid ((T.set (j + 1 + e) z).length = n) := by rw [Hid, List.length_set]; exact HT.out
                have G := Lib.hid (HD.step (i := j + 1 + e) (x := z))
                have ew1 : ((j + 1 + e : Nat) : Int) - ((j : Int) + 1) = (e : Int) := by omega
                clear hz hold HD HC
                go_wp2
                go_roundw
                case rel => exact ⟨e + 1, T.set (j + 1 + e) z, by omega, by go_num, HC2, HT2, M, G.out⟩
                case measure => simp [intOf]; omega
              · have hne : n = j + 1 + e := by omega
                have G : Hid (∃ m, Lowered base g n cap t (w.drewN m) (.returned (.bool true)) wr) := by
                  have hc := HC.out
                  rw [show n - (j + 1 + e) = 0 from by omega, Tr.cpyF] at hc
                  exact ⟨M, .inr ⟨T, by rw [HLO.out, hc], rfl, HD.1, HD.2⟩⟩
                clear HD HC
                go_wp2
                go_ret
                exact G.out
end Go.Proofs.Ytgklilckjpbdnaa
