/-
  A region that draws its order: operations that their guards pass over, taken at once.
-/
import Derived.Test.YtpngohklicgbjaaGreatBase
import Derived.BigRegion
import Derived.Deep.RegionHeld3
namespace Go.Proofs.YtpngohklicgbjaaGreat
open Go.RowKit
set_option linter.unusedVariables false
set_option maxRecDepth 100000

def skip1 (md : Region.Mode) (ops : Array Oper) (i d : Nat) (listed : Array Bool) (a : Act) : Bool :=
  (match ops[i]? with
    | some o => (match o.dst with | some d' => d' == d | none => false) && !Region.wanted o (yielded ops a.tmps)
    | none => false) && Region.noSelect ops && Region.free md ops listed i && (Region.ready md ops listed).contains i
theorem wpAnyH_skip1 {P : Program} {md : Region.Mode} {ops : Array Oper} {Q : Exit → Act → World → Prop} {S : World → Prop} {i d fuel : Nat} {listed : Array Bool} {a : Act} {w : World}
    (hc : skip1 md ops i d listed a = true) (hS : S w)
    (h : wpAnyH P md ops (NoPanic Q) S fuel (listed.setIfInBounds i true) (a.put (some d) undef) w) : wpAnyH P md ops (NoPanic Q) S (fuel + 1) listed a w := by
  unfold skip1 at hc
  simp only [Bool.and_eq_true] at hc
  obtain ⟨⟨⟨h1, h2⟩, h3⟩, h4⟩ := hc
  cases ho : ops[i]? with
  | none => rw [ho] at h1; simp at h1
  | some o =>
    rw [ho] at h1
    simp only [Bool.and_eq_true, Bool.not_eq_true'] at h1
    obtain ⟨hd, hw⟩ := h1
    cases hdd : o.dst with
    | none => rw [hdd] at hd; simp at hd
    | some d' =>
      rw [hdd] at hd
      have e : d' = d := by simpa using hd
      subst e
      exact wpAnyH_take (i := i) (oi := o) (v := undef) ho h2 h3 h4 (fun _ _ _ h => h) (.inr ⟨hw, rfl⟩) hS (by rw [hdd]; exact h)
def skipN (md : Region.Mode) (ops : Array Oper) : List (Nat × Nat) → Array Bool → Act → Bool
  | [], _, _ => true
  | (i, d) :: l, listed, a => skip1 md ops i d listed a && skipN md ops l (listed.setIfInBounds i true) (a.put (some d) undef)
theorem wpAnyH_skipN {P : Program} {md : Region.Mode} {ops : Array Oper} {Q : Exit → Act → World → Prop} {S : World → Prop} {w : World} (hS : S w) : ∀ (l : List (Nat × Nat)) (fuel : Nat) (listed : Array Bool) (a : Act),
    skipN md ops l listed a = true → wpAnyH P md ops (NoPanic Q) S fuel (l.foldl (fun x p => x.setIfInBounds p.1 true) listed) (l.foldl (fun a p => a.put (some p.2) undef) a) w → wpAnyH P md ops (NoPanic Q) S (fuel + l.length) listed a w
  | [], _, _, _, _, h => h
  | (i, d) :: l, fuel, listed, a, hc, h => by
    rw [skipN, Bool.and_eq_true] at hc
    exact wpAnyH_skip1 hc.1 hS (wpAnyH_skipN hS l fuel _ _ hc.2 h)
end Go.Proofs.YtpngohklicgbjaaGreat
