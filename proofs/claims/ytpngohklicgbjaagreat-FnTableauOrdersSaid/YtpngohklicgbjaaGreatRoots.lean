/-
  What roots of numbers are, the program's and the model's alike.
-/
import Derived.Test.YtpngohklicgbjaaGreatTests
import Derived.WalkLawsBesides
namespace Go.Proofs.YtpngohklicgbjaaGreat
open Go.RowKit Fld
set_option linter.unusedVariables false
set_option linter.unusedSimpArgs false
set_option maxRecDepth 100000

def SomeLeast (a k : Int) (w : World) (e : Ending) (w' : World) : Prop := ∃ r, e = .returned (.int .i64 r) ∧ Least a k.toNat r ∧ w = w'
theorem least_found {a k x : Int} (h0 : 0 ≤ x) (h1 : x < 10007) (h : pw x k.toNat = a) (hb : ∀ b : Int, 0 ≤ b → b < x → pw b k.toNat ≠ a) : Least a k.toNat x := .inr ⟨h0, h1, h, hb⟩
theorem least_none {a k x : Int} (h1 : 10007 ≤ x) (hb : ∀ b : Int, 0 ≤ b → b < x → pw b k.toNat ≠ a) : Least a k.toNat (-1) := .inl ⟨rfl, fun b b0 b1 => hb b b0 (by omega)⟩
theorem least_step {a k x : Int} (h : pw x k.toNat ≠ a) (hb : ∀ b : Int, 0 ≤ b → b < x → pw b k.toNat ≠ a) : ∀ b : Int, 0 ≤ b → b < x + 1 → pw b k.toNat ≠ a := by
  intro b b0 b1
  by_cases e : b = x
  · rw [e]; exact h
  · exact hb b b0 (by omega)

theorem l01Root_any (a k : Int) (w : World) (k0 : 0 ≤ k) (k1 : k ≤ 9223372036854775807) : Calls Tryz.prog 103 #[.int .i64 a, .int .i64 k] w (SomeLeast a k w) := by
  go_enter Tryz.func103, Tryz.ntmps103
  go_wp2_with fail
  go_loop [5] (fun u => ∃ x : Int, 0 ≤ x ∧ x ≤ 10007 ∧ Hid (∀ b : Int, 0 ≤ b → b < x → pw b k.toNat ≠ a) ∧ u = .int .i64 x) (fun u => (10007 - intOf u).toNat)
  case atStart => exact ⟨0, by omega, by omega, fun b b0 b1 => absurd b1 (by omega), rfl⟩
  case round =>
    obtain ⟨x, x0, x1, H, rfl⟩ := hrel
    by_cases hx : x < 10007
    · by_cases hp : pw x k.toNat = a
      · have t1 : (pw x k.toNat == a) = true := beq_t hp
        have G := Lib.hid (least_found x0 hx hp H.out)
        clear hp H
        go_wp2_with (go_at_call 123; refine (l01Pow_any _ _ _ (by omega) (by omega) (by omega) (by omega)).mono ?_; rintro e w' ⟨rfl, rfl⟩)
        go_ret
        exact ⟨_, rfl, G.out, rfl⟩
      · have t1 : (pw x k.toNat == a) = false := beq_f hp
        have G := Lib.hid (least_step hp H.out)
        clear hp H
        go_wp2_with (go_at_call 123; refine (l01Pow_any _ _ _ (by omega) (by omega) (by omega) (by omega)).mono ?_; rintro e w' ⟨rfl, rfl⟩)
        go_round
        case rel => exact ⟨_, by omega, by omega, G, rfl⟩
        case measure => simp [intOf]; omega
    · have G := Lib.hid (least_none (by omega) H.out)
      clear H
      go_wp2
      go_ret
      exact ⟨_, rfl, G.out, rfl⟩

/-- what the square root of a is: a number beside a code -/
def SqrtIs (a v c : Int) : Prop := (isNum a = false ∧ v = 0 ∧ c = 2) ∨ (isNum a = true ∧ Least a 2 (-1) ∧ v = 0 ∧ c = 4) ∨ (isNum a = true ∧ 0 ≤ v ∧ Least a 2 v ∧ c = 0)
theorem SqrtIs.uniq {a v c v' c' : Int} (h : SqrtIs a v c) (g : SqrtIs a v' c') : v = v' ∧ c = c' := by
  rcases h with ⟨h1, rfl, rfl⟩ | ⟨h1, h2, rfl, rfl⟩ | ⟨h1, h2, h3, rfl⟩ <;> rcases g with ⟨g1, rfl, rfl⟩ | ⟨g1, g2, rfl, rfl⟩ | ⟨g1, g2, g3, rfl⟩
  all_goals first
    | exact ⟨rfl, rfl⟩
    | (rw [h1] at g1; exact Bool.noConfusion g1)
    | (have := h2.uniq g3; omega)
    | (have := h3.uniq g2; omega)
    | exact ⟨h3.uniq g3, rfl⟩
def SqrtEnd (a : Int) (w : World) (e : Ending) (w' : World) : Prop := ∃ v c, e = .returned (.tuple #[.int .i64 v, .int .i64 c]) ∧ SqrtIs a v c ∧ w = w'


def rootA (a k : Int) : Int × Int := if isNum a = true ∧ (k = 3 ∨ k = 5) then (if k = 3 then pw a 6671 else pw a 8005, 0) else (0, 2)
theorem rootA_no {a k : Int} (h : isNum a = false ∨ (k ≠ 3 ∧ k ≠ 5)) : rootA a k = (0, 2) := if_neg (by rcases h with h | h; simp [h]; intro g; omega)
theorem rootA_3 {a : Int} (h : isNum a = true) : rootA a 3 = (pw a 6671, 0) := by unfold rootA; rw [if_pos ⟨h, .inl rfl⟩]; rfl
theorem rootA_5 {a : Int} (h : isNum a = true) : rootA a 5 = (pw a 8005, 0) := by unfold rootA; rw [if_pos ⟨h, .inr rfl⟩]; rfl
end Go.Proofs.YtpngohklicgbjaaGreat
