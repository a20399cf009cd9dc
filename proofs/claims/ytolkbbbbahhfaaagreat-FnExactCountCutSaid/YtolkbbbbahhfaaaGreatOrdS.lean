/-
  The model's order of forests.
-/
import Derived.Test.YtolkbbbbahhfaaaGreatCmpX
import Derived.Test.YtolkbbbbahhfaaaGreatForest
import Derived.BigQuiet
namespace Go.Proofs.YtolkbbbbahhfaaaGreat
open Go.RowKit Fld
set_option linter.unusedVariables false
set_option linter.unusedSimpArgs false
set_option maxRecDepth 100000

/-- trees in turn -/
def cmpLs : List (List Int) → List (List Int) → Int
  | a :: f, b :: g => if Tr.beforeL a b = true then -1 else if Tr.beforeL b a = true then 1 else cmpLs f g
  | _, _ => 0
def ord5 (f g : List (List Int)) : Int := if f.length = g.length then cmpLs f g else if f.length < g.length then -1 else 1
def ord6 (f g : List (List Int)) : Int := if total f = total g then ord5 f g else if total f < total g then -1 else 1
theorem cmpLs_at {f g : List (List Int)} {k : Nat} {a b : List Int} (hf : f[k]? = some a) (hg : g[k]? = some b) : cmpLs (f.drop k) (g.drop k) = if Tr.beforeL a b = true then -1 else if Tr.beforeL b a = true then 1 else cmpLs (f.drop (k + 1)) (g.drop (k + 1)) := by
  have h1 : f.drop k = a :: f.drop (k + 1) := by
    obtain ⟨h, e⟩ := List.getElem?_eq_some_iff.1 hf
    rw [List.drop_eq_getElem_cons h, e]
  have h2 : g.drop k = b :: g.drop (k + 1) := by
    obtain ⟨h, e⟩ := List.getElem?_eq_some_iff.1 hg
    rw [List.drop_eq_getElem_cons h, e]
  rw [h1, h2, cmpLs]
set_option maxHeartbeats 1000000 in
theorem l05Compare_any (A A' : Option Addr) (n n' c c' B B' : Nat) (f g : List (List Int)) (w : World) (hl : f.length = n) (hl' : g.length = n') (hn : n + total f ≤ 1048576) (hn' : n' + total g ≤ 1048576) (h : Mat w B A f) (h' : Mat w B' A' g) :
    Calls Tryz.prog 163 #[.slice A n c, .slice A' n' c'] w fun e w' => e = .returned (.int .i64 (ord5 f g)) ∧ ∃ m, w' = w.drewN m := by
  have HL := Lib.hid hl
  have HL' := Lib.hid hl'
  by_cases hnn : n = n'
  · subst hnn
    have H0 : Hid (ord5 f g = cmpLs f g) := if_pos (by rw [hl, hl'])
    clear hl hl'
    go_enter Tryz.func163, Tryz.ntmps163
    go_wp2_with fail
    go_loopw [5] (fun i wr => ∃ k m : Nat, k ≤ n ∧ i = .int .i64 k ∧ wr = w.drewN m ∧ Hid (cmpLs f g = cmpLs (f.drop k) (g.drop k))) (fun i _ => n - (intOf i).toNat)
    case atStart => exact ⟨0, 0, Nat.zero_le _, rfl, rfl, rfl⟩
    case round =>
      obtain ⟨k, m, hk, rfl, rfl, HC⟩ := hrel
      by_cases hlt : k < n
      · obtain ⟨a, ha⟩ := at_lt (show k < f.length by rw [HL.out]; exact hlt)
        obtain ⟨b, hb⟩ := at_lt (show k < g.length by rw [HL'.out]; exact hlt)
        obtain ⟨b1, o1, A1, c1, rfl, _, hc1, hlc1, hcm1, hr1⟩ := h k a ha
        obtain ⟨b2, o2, A2, c2, rfl, _, hc2, hlc2, hcm2, hr2⟩ := h' k b hb
        have q1 := row_total ha
        have q2 := row_total hb
        have HS := Lib.hid (cmpLs_at ha hb)
        clear ha hb
        cases hab : Tr.beforeL a b
        · cases hba : Tr.beforeL b a
          · have HN : Hid (cmpLs f g = cmpLs (f.drop (k + 1)) (g.drop (k + 1))) := by rw [Hid, HC.out, HS.out, hab, hba]; rfl
            have C1 := fun W (hW : ∃ j, W = w.drewN j) => l03Before_any A1 A2 a.length b.length c1 c2 B B' a b W rfl rfl (by omega) (by omega) (by obtain ⟨j, rfl⟩ := hW; exact hr1) (by obtain ⟨j, rfl⟩ := hW; exact hr2)
            have C2 := fun W (hW : ∃ j, W = w.drewN j) => l03Before_any A2 A1 b.length a.length c2 c1 B' B b a W rfl rfl (by omega) (by omega) (by obtain ⟨j, rfl⟩ := hW; exact hr2) (by obtain ⟨j, rfl⟩ := hW; exact hr1)
            simp only [hab] at C1
            simp only [hba] at C2
            clear HS HC hab hba
            go_wp2_with fail
            go_quiet ((go_at_call 83; first | exact quiet_any (C1 _ ⟨_, rfl⟩) | exact Calls.quiet_of (C1 _ ⟨_, rfl⟩)))
            go_wp2_with fail
            go_quiet ((go_at_call 83; first | exact quiet_any (C2 _ ⟨_, rfl⟩) | exact Calls.quiet_of (C2 _ ⟨_, rfl⟩)))
            go_wp2
            go_roundw
            case rel => exact ⟨k + 1, _, by omega, by go_num, rfl, HN⟩
            case measure => simp [intOf]; omega
          · have HN : Hid (ord5 f g = 1) := by rw [Hid, H0.out, HC.out, HS.out, hab, hba]; rfl
            have C1 := fun W (hW : ∃ j, W = w.drewN j) => l03Before_any A1 A2 a.length b.length c1 c2 B B' a b W rfl rfl (by omega) (by omega) (by obtain ⟨j, rfl⟩ := hW; exact hr1) (by obtain ⟨j, rfl⟩ := hW; exact hr2)
            have C2 := fun W (hW : ∃ j, W = w.drewN j) => l03Before_any A2 A1 b.length a.length c2 c1 B' B b a W rfl rfl (by omega) (by omega) (by obtain ⟨j, rfl⟩ := hW; exact hr2) (by obtain ⟨j, rfl⟩ := hW; exact hr1)
            simp only [hab] at C1
            simp only [hba] at C2
            clear HS HC hab hba
            go_wp2_with fail
            go_quiet ((go_at_call 83; first | exact quiet_any (C1 _ ⟨_, rfl⟩) | exact Calls.quiet_of (C1 _ ⟨_, rfl⟩)))
            go_wp2_with fail
            go_quiet ((go_at_call 83; first | exact quiet_any (C2 _ ⟨_, rfl⟩) | exact Calls.quiet_of (C2 _ ⟨_, rfl⟩)))
            go_wp2
            go_ret
            exact ⟨ret_i64 HN.out.symm, _, by rw [World.drewN_drewN, World.drewN_drewN]⟩
        · have HN : Hid (ord5 f g = -1) := by rw [Hid, H0.out, HC.out, HS.out, hab]; rfl
          have C1 := fun W (hW : ∃ j, W = w.drewN j) => l03Before_any A1 A2 a.length b.length c1 c2 B B' a b W rfl rfl (by omega) (by omega) (by obtain ⟨j, rfl⟩ := hW; exact hr1) (by obtain ⟨j, rfl⟩ := hW; exact hr2)
          simp only [hab] at C1
          clear HS HC hab
          go_wp2_with fail
          go_quiet ((go_at_call 83; first | exact quiet_any (C1 _ ⟨_, rfl⟩) | exact Calls.quiet_of (C1 _ ⟨_, rfl⟩)))
          go_wp2
          go_ret
          exact ⟨ret_i64 HN.out.symm, _, World.drewN_drewN ..⟩
      · obtain rfl : k = n := by omega
        have HN : Hid (ord5 f g = 0) := by
          rw [Hid, H0.out, HC.out, List.drop_eq_nil_of_le (by rw [HL.out]; exact Nat.le_refl _)]; rfl
        clear HC
        go_wp2
        go_ret
        exact ⟨ret_i64 HN.out.symm, _, rfl⟩
  · by_cases hlt : n < n'
    · have HN : Hid (ord5 f g = -1) := by unfold ord5; rw [Hid, if_neg (by omega), if_pos (by omega)]
      have t := bne_t (show (n : Int) ≠ (n' : Int) by omega)
      clear hnn hl hl'
      go_enter Tryz.func163, Tryz.ntmps163
      go_wp2
      go_ret
      exact ⟨ret_i64 HN.out.symm, 0, rfl⟩
    · have HN : Hid (ord5 f g = 1) := by unfold ord5; rw [Hid, if_neg (by omega), if_neg (by omega)]
      have t := bne_t (show (n : Int) ≠ (n' : Int) by omega)
      clear hnn hl hl'
      go_enter Tryz.func163, Tryz.ntmps163
      go_wp2
      go_ret
      exact ⟨ret_i64 HN.out.symm, 0, rfl⟩
end Go.Proofs.YtolkbbbbahhfaaaGreat
