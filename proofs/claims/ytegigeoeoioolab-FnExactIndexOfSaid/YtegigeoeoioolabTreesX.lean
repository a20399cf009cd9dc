/-
  What TreesOf answers, the program's and the model's.
-/
import Derived.Test.YtegigeoeoioolabWith
import Derived.Test.YtegigeoeoioolabGrowT
namespace Go.Proofs.Ytegigeoeoioolab
open Go.RowKit Fld
set_option linter.unusedVariables false
set_option linter.unusedSimpArgs false
set_option maxRecDepth 100000

/-- a list of lists that the call owns, beside a code -/
def ResM (r : List (List Int) × Int) (w : World) (e : Ending) (w' : World) : Prop :=
  r.1.length + total r.1 ≤ 1048576 ∧ ∃ A c vs, e = .returned (.tuple #[.slice A r.1.length c, .int .i64 r.2]) ∧ OwnMat w' w.heap.size w'.heap.size (.slice A r.1.length c) r.1.length r.1 vs ∧ Below w.heap.size w w'
theorem OwnMat.nil' (w : World) (lo hi : Nat) : OwnMat w lo hi (.slice none 0 0) 0 [] [] :=
  ⟨⟨World.ownsRow_nil _ _ _ _, fun g e => by simp [Value.ownBlock] at e⟩, rfl, fun r row hr => by simp at hr, fun r s u t g _ hu => by simp at hu⟩
theorem ResM.nil {r : List (List Int) × Int} {w w' : World} {k : Int} (h : r = ([], k)) (hb : Below w.heap.size w w') : ResM r w (.returned (.tuple #[.slice none 0 0, .int .i64 k])) w' := by
  subst h
  exact ⟨by simp [total], none, 0, [], rfl, OwnMat.nil' _ _ _, hb⟩
theorem ResM.of {r : List (List Int) × Int} {w w' : World} {A : Option Addr} {n c : Nat} {m : List (List Int)} {vs : List Value} {k : Int} (h : r = (m, k)) (hn : m.length + total m ≤ 1048576)
    (ho : OwnMat w' w.heap.size w'.heap.size (.slice A n c) n m vs) (hb : Below w.heap.size w w') : ResM r w (.returned (.tuple #[.slice A n c, .int .i64 k])) w' := by
  subst h
  have e := ho.size
  subst e
  exact ⟨hn, A, c, vs, rfl, ho, hb⟩
theorem total_bd {q : Nat} : ∀ {m : List (List Int)}, (∀ t ∈ m, t.length ≤ q) → total m ≤ m.length * q
  | [], _ => by simp [total]
  | x :: r, h => by
    have h1 := h x (by simp)
    have h2 := total_bd (fun t ht => h t (by simp [ht]) : ∀ t ∈ r, t.length ≤ q)
    have e : total (x :: r) = x.length + total r := by simp [total]
    rw [e, List.length_cons, Nat.add_mul, Nat.one_mul]; omega
theorem trees_total {n : Nat} (h1 : 1 ≤ n) (h8 : n ≤ 8) : (Tr.treesL n).length + total (Tr.treesL n) ≤ 1048576 := by
  obtain ⟨ha, hl⟩ := trees_all h1 h8
  have := total_bd (q := 8) (m := Tr.treesL n) (fun t ht => by rw [(ha t ht).2]; exact h8)
  omega
def treesOfA (a : Int) : List (List Int) × Int := if 1 ≤ a ∧ a ≤ 8 then (Tr.treesL a.toNat, 0) else ([], 2)
theorem treesOfA_yes {n : Nat} (h1 : 1 ≤ n) (h8 : n ≤ 8) : treesOfA (n : Int) = (Tr.treesL n, 0) := by
  unfold treesOfA; rw [if_pos (by omega)]; rfl
theorem treesOfA_no {a : Int} (h : ¬ (1 ≤ a ∧ a ≤ 8)) : treesOfA a = ([], 2) := if_neg h
theorem pTreesOf_L (a : Int) (w : World) (ha : -9223372036854775808 ≤ a ∧ a ≤ 9223372036854775807) : Calls Try.prog 38 #[.int .i64 a] w (ResM (treesOfA a) w) := by
  by_cases h : 1 ≤ a ∧ a ≤ 8
  · obtain ⟨n, rfl⟩ : ∃ n : Nat, a = (n : Int) := ⟨a.toNat, by omega⟩
    have h1 : 1 ≤ n := by omega
    have h8 : n ≤ 8 := by omega
    have G := Lib.hid (treesOfA_yes h1 h8)
    clear h ha
    go_enter Try.func38, Try.ntmps38
    go_wp2_with fail
    refine (treesWith_any n _ h1 h8).mono ?_
    rintro e w1 ⟨A1, c1, vs1, rfl, own1, bel1⟩
    have HO := Lib.hid own1
    have HB := Lib.hid bel1
    have HT := Lib.hid (trees_total h1 h8)
    clear own1 bel1
    go_wp2
    go_ret2
    exact ResM.of G.out HT.out HO.out HB.out
  · have G := Lib.hid (treesOfA_no h)
    by_cases h1 : a < 1
    · clear h
      go_enter Try.func38, Try.ntmps38
      go_wp2
      go_ret2
      exact ResM.nil G.out (Below.refl _ _)
    · have h8 : 8 < a := by omega
      clear h
      go_enter Try.func38, Try.ntmps38
      go_wp2
      go_ret2
      exact ResM.nil G.out (Below.refl _ _)
theorem sTreesOf_L (a : Int) (w : World) (ha : -9223372036854775808 ≤ a ∧ a ≤ 9223372036854775807) : Calls Try.prog 37 #[.int .i64 a] w (ResM (treesOfA a) w) := by
  by_cases h : 1 ≤ a ∧ a ≤ 8
  · obtain ⟨n, rfl⟩ : ∃ n : Nat, a = (n : Int) := ⟨a.toNat, by omega⟩
    have h1 : 1 ≤ n := by omega
    have h8 : n ≤ 8 := by omega
    have G := Lib.hid (treesOfA_yes h1 h8)
    have T := isIn_yes (n := (n : Int)) (l := 1) (h := 8) (by omega) (by omega)
    clear h ha
    go_enter Try.func37, Try.ntmps37
    go_wp2_with fail
    refine (l01In_any _ _ _ _).mono ?_
    rintro e w' ⟨rfl, rfl⟩
    rw [T]
    go_wp2_with fail
    refine (l03Trees_any n _ h1 h8).mono ?_
    rintro e w1 ⟨A1, c1, vs1, rfl, own1, bel1⟩
    have HO := Lib.hid own1
    have HB := Lib.hid bel1
    have HT := Lib.hid (trees_total h1 h8)
    clear own1 bel1
    go_wp2
    go_ret2
    exact ResM.of G.out HT.out HO.out HB.out
  · have G := Lib.hid (treesOfA_no h)
    have T := isIn_no (n := a) (l := 1) (h := 8) (by omega)
    clear h
    go_enter Try.func37, Try.ntmps37
    go_wp2_with fail
    refine (l01In_any _ _ _ _).mono ?_
    rintro e w' ⟨rfl, rfl⟩
    rw [T]
    go_wp2
    go_ret2
    exact ResM.nil G.out (Below.refl _ _)
end Go.Proofs.Ytegigeoeoioolab
