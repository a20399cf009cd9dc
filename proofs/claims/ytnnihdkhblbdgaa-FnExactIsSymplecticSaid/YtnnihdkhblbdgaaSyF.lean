/-
  The first fault, the program's: two loops that are left by a label.
-/
import Derived.Test.YtnnihdkhblbdgaaSyG
import Derived.Test.YtnnihdkhblbdgaaResBI
import Derived.BigQuiet
import Derived.Deep.LoopGhost
namespace Go.Proofs.Ytnnihdkhblbdgaa
open Go.RowKit Fld
set_option linter.unusedVariables false
set_option linter.unusedSimpArgs false
set_option maxRecDepth 100000

def okG (f g : Nat → Nat → Int) (n i k : Nat) : Prop := grV f n i k = grV g n i k
theorem pairRow' (w : World) (i k : Nat) {B : Nat} (h : B ≤ w.heap.size) : (w.alloc (.cells #[.int .i64 i, .int .i64 k] 2)).ownsRow B 2 1 (.slice (some ⟨w.heap.size, 0, none⟩) 2 2) 2 (ints [(i : Int), (k : Int)]) := World.ownsRow_lit w #[.int .i64 i, .int .i64 k] 2 h (by decide) rfl
/-- a list of the call's own, nil if it is empty -/
def NilRow (F : List Int) (w : World) (e : Ending) (w' : World) : Prop :=
  ∃ A c, e = .returned (.slice A F.length c) ∧ (F = [] → A = none) ∧ w'.ownsRow w.heap.size 2 1 (.slice A F.length c) F.length (ints F) ∧ Below w.heap.size w w'
set_option maxHeartbeats 4000000 in
theorem faultIn_any (f g : Nat → Nat → Int) (n : Nat) (w : World) :
    Calls Try.prog 43 #[.agg (arrG (grL f n)), .agg (arrG (grL g n))] w (NilRow (faultOf (okG f g n) 8) w) := by
  have L1 := Lib.hid (arrG_size (grL_length f n))
  have L2 := Lib.hid (arrG_size (grL_length g n))
  have HV1 : Hid (∀ i k, i < 8 → k < 8 → (grL f n)[i * 8 + k]? = some (grV f n i k)) := fun i k hi hk => grL_at f hi hk
  have HV2 : Hid (∀ i k, i < 8 → k < 8 → (grL g n)[i * 8 + k]? = some (grV g n i k)) := fun i k hi hk => grL_at g hi hk
  obtain ⟨X, hX⟩ : ∃ X, X = grL f n := ⟨_, rfl⟩
  obtain ⟨Y, hY⟩ : ∃ Y, Y = grL g n := ⟨_, rfl⟩
  simp only [← hX, ← hY] at L1 L2 HV1 HV2 ⊢
  clear hX hY
  obtain ⟨W0, hW0⟩ : ∃ W0, W0 = (w.alloc (.cells (arrG X) 54)).alloc (.cells (arrG Y) 54) := ⟨_, rfl⟩
  have FB : Hid (Below w.heap.size w W0) := by rw [hW0]; exact ((Below.refl _ _).alloc (Nat.le_refl _) _).alloc (by simp) _
  have F1 : Hid (ArrG W0 w.heap.size X) := by rw [hW0]; exact (ArrG.new w X).alloc _
  have F2 : Hid (ArrG W0 (w.heap.size + 1) Y) := by rw [hW0]; exact ArrG.next _ (by simp)
  go_enter Try.func43, Try.ntmps43
  go_wp2
  go_step3
  go_wp2
  go_step3
  go_wp2
  change Code.wp _ _ _ _ ((w.alloc (.cells (arrG X) 54)).alloc (.cells (arrG Y) 54))
  rw [← hW0]
  clear hW0
  go_loopg [5, 8] 8 (fun q s5 s8 wx => ∃ i : Nat, i + q = 8 ∧ s8 = .int .i64 i ∧ s5 = .slice none 0 0 ∧ Hid (NoF (okG f g n) 8 i 0) ∧ ∃ d, wx = W0.drewN d)
  case atStart => exact ⟨0, by omega, rfl, rfl, NoF.start _ _, 0, rfl⟩
  case round =>
    obtain ⟨i, hiq, rfl, rfl, HT, d1, rfl⟩ := hrel
    cases gk with
    | zero =>
      have hi8 : ¬ ((i : Int) < 8) := by omega
      have e8 : i = 8 := by omega
      have G : Hid (faultOf (okG f g n) 8 = []) := IsFault.of (by have := HT.out; rw [e8] at this; exact this.none)
      go_wp2
      go_ret
      rw [G.out]
      exact ⟨none, 0, rfl, fun _ => rfl, World.ownsRow_nil .., below_drewN FB.out _⟩
    | succ q =>
      have hi8 : (i : Int) < 8 := by omega
      go_wp2
      go_loopg [5, 7] (8 - i) (fun q2 s5 s7 wy => ∃ k : Nat, k + q2 = 8 ∧ i ≤ k ∧ s7 = .int .i64 k ∧ s5 = .slice none 0 0 ∧ Hid (NoF (okG f g n) 8 i k) ∧ ∃ d, wy = W0.drewN d)
      case atStart => exact ⟨i, by omega, Nat.le_refl _, rfl, rfl, HT.out.enter, d1, rfl⟩
      case round =>
        obtain ⟨k, hkq, hik, rfl, rfl, HI, d2, rfl⟩ := hrel
        cases gk with
        | zero =>
          have hk8 : ¬ ((k : Int) < 8) := by omega
          have e8 : k = 8 := by omega
          have G : Hid (NoF (okG f g n) 8 (i + 1) 0) := by have := HI.out; rw [e8] at this; exact this.leave
          go_wp2
          go_roundg q
          case measure => omega
          case rel => exact ⟨i + 1, by omega, by go_num, rfl, G, d2, rfl⟩
        | succ q2 =>
          have hk8 : (k : Int) < 8 := by omega
          have c1 := F1.out.cell (HV1.out i k (by omega) (by omega))
          have c2 := F2.out.cell (HV2.out i k (by omega) (by omega))
          have i0 : (0 : Int) ≤ (i : Int) := Int.natCast_nonneg _
          have k0 : (0 : Int) ≤ (k : Int) := Int.natCast_nonneg _
          have G0 : Hid (okG f g n i k ↔ grV f n i k = grV g n i k) := Iff.rfl
          obtain ⟨x, hx⟩ : ∃ x, x = grV f n i k := ⟨_, rfl⟩
          obtain ⟨y, hy⟩ : ∃ y, y = grV g n i k := ⟨_, rfl⟩
          rw [← hx] at c1 G0
          rw [← hy] at c2 G0
          clear hx hy
          by_cases hok : x = y
          · have t : (x != y) = false := bne_f hok
            have G := Lib.hid (HI.out.step (G0.out.2 hok))
            clear hok
            go_wp2_with fail
            go_quiet (fail)
            go_wp2
            go_roundg q2
            case measure => omega
            case rel => exact ⟨k + 1, by omega, by omega, by go_num, rfl, G, _, rfl⟩
          · have t : (x != y) = true := bne_t hok
            have G : Hid (faultOf (okG f g n) 8 = [(i : Int), (k : Int)]) := IsFault.of (HI.out.found hik (by omega) (fun z => hok (G0.out.1 z)))
            clear hok
            go_wp2_with fail
            go_quiet (fail)
            have HBW : ∀ e, Below w.heap.size w (W0.drewN e) := fun e => below_drewN FB.out e
            go_wp2
            rw [Exit.noGoto_ret]
            go_ret
            have hz : w.heap.size ≤ (W0.drewN (d2 + nq)).heap.size := FB.out.size
            rw [G.out]
            exact ⟨_, _, rfl, fun h => by simp at h, pairRow' _ i k hz, (HBW _).alloc hz _⟩
end Go.Proofs.Ytnnihdkhblbdgaa
