/-
  A list of lists beside a code, as calls hand it back.
-/
import Derived.Test.YtdgdanpkekcckaaNestc
namespace Go.Proofs.Ytdgdanpkekcckaa
open Go.RowKit Fld
set_option linter.unusedVariables false
set_option linter.unusedSimpArgs false
set_option maxRecDepth 100000

/-- a list of lists that the call owns, beside a code -/
def ResM (r : List (List Int) × Int) (w : World) (e : Ending) (w' : World) : Prop :=
  r.1.length + total r.1 ≤ 1048576 ∧ ∃ A c vs, e = .returned (.tuple #[.slice A r.1.length c, .int .i64 r.2]) ∧ OwnMat w' w.heap.size w'.heap.size (.slice A r.1.length c) r.1.length r.1 vs ∧ Below w.heap.size w w'
theorem OwnMat.nil' (w : World) (lo hi : Nat) : OwnMat w lo hi (.slice none 0 0) 0 [] [] :=
  ⟨⟨World.ownsRow_nil _ _ _ _, fun g e => by simp [Value.ownBlock] at e⟩, rfl, fun r row hr => by simp at hr, fun r s u t g _ hu => by simp at hu⟩
theorem ResM.nil {r : List (List Int) × Int} {w w' : World} {k : Int} (h : r = ([], k)) (hb : Below w.heap.size w w') : ResM r w (.returned (.tuple #[.slice none 0 0, .int .i64 k])) w' := by
  subst h
  exact ⟨by simp [total], none, 0, [], rfl, OwnMat.nil' _ _ _, hb⟩
theorem ResM.of {r : List (List Int) × Int} {w w' : World} {A : Option Addr} {n c : Nat} {m : List (List Int)} {vs : List Value} {k : Int} (h : r = (m, k)) (hn : m.length + total m ≤ 1048576)
    (ho : OwnMat w' w.heap.size w'.heap.size (.slice A n c) n m vs) (hb : Below w.heap.size w w') : ResM r w (.returned (.tuple #[.slice A n c, .int .i64 k])) w' := by
  subst h
  have e := ho.size
  subst e
  exact ⟨hn, A, c, vs, rfl, ho, hb⟩
/-- lists in memory below a bound: the model's -/
def LowMat (w : World) (hi : Nat) (A : Option Addr) (m : List (List Int)) : Prop := Mat w hi A m
theorem LowMat.below {w w' : World} {hi B : Nat} {A : Option Addr} {m : List (List Int)} (h : LowMat w hi A m) (hb : Below B w w') (hB : hi ≤ B) : LowMat w' hi A m := Mat.below h hb hB
theorem LowMat.within {w w' : World} {hi lo' hi' : Nat} {A : Option Addr} {m : List (List Int)} (h : LowMat w hi A m) (hb : Within lo' hi' w w') (hs : hi ≤ w.heap.size) (hd : hi ≤ lo') : LowMat w' hi A m :=
  Mat.keep h fun b o hbb => World.cell?_of_block (hb.block b (by omega) (by omega))
theorem LowMat.mat {w : World} {hi : Nat} {A : Option Addr} {m : List (List Int)} (h : LowMat w hi A m) : Mat w hi A m := h
theorem LowMat.drewN {w : World} {hi : Nat} {A : Option Addr} {m : List (List Int)} (h : LowMat w hi A m) (k : Nat) : LowMat (w.drewN k) hi A m := h
def ResMl (r : List (List Int) × Int) (w : World) (e : Ending) (w' : World) : Prop :=
  r.1.length + total r.1 ≤ 1048576 ∧ ∃ A c, e = .returned (.tuple #[.slice A r.1.length c, .int .i64 r.2]) ∧ LowMat w' w'.heap.size A r.1 ∧ Below w.heap.size w w'
theorem ResMl.nil {r : List (List Int) × Int} {w w' : World} {k : Int} (h : r = ([], k)) (hb : Below w.heap.size w w') : ResMl r w (.returned (.tuple #[.slice none 0 0, .int .i64 k])) w' := by
  subst h
  exact ⟨by simp [total], none, 0, rfl, fun k r hr => by simp at hr, hb⟩
theorem ResMl.of {r : List (List Int) × Int} {w w' : World} {A : Option Addr} {n c : Nat} {m : List (List Int)} {k : Int} (h : r = (m, k)) (hl : m.length = n) (hn : m.length + total m ≤ 1048576)
    (ho : Mat w' w'.heap.size A m) (hb : Below w.heap.size w w') : ResMl r w (.returned (.tuple #[.slice A n c, .int .i64 k])) w' := by
  subst h hl
  exact ⟨hn, A, c, rfl, ho, hb⟩
end Go.Proofs.Ytdgdanpkekcckaa
