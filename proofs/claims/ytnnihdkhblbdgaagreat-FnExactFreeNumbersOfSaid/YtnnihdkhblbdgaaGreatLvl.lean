/-
  The levels of a text of brackets.
-/
import Derived.Test.YtnnihdkhblbdgaaGreatTreeOf
import Derived.Lib.OthersKept
namespace Go.Proofs.YtnnihdkhblbdgaaGreat
open Go.RowKit Fld
set_option linter.unusedVariables false
set_option linter.unusedSimpArgs false
set_option maxRecDepth 100000

theorem nodes_any (l : List UInt8) (w : World) (hn : l.length ≤ 1048576) : Calls Tryz.prog 62 #[.string ⟨l.toArray⟩] w fun e w' => e = .returned (.int .i64 ((l.length / 2 : Nat) : Int)) ∧ w = w' := by
  obtain ⟨s, hs⟩ : ∃ s : ByteArray, s = ⟨l.toArray⟩ := ⟨_, rfl⟩
  have hz : s.size = l.length := by rw [hs]; exact size_S l
  rw [← hs, ← hz]
  rw [← hz] at hn
  clear hz hs
  go_enter Tryz.func62, Tryz.ntmps62
  go_wp2
  go_ret
  exact ⟨rfl, rfl⟩
theorem own_ne_iter {w : World} {lo : Nat} {T : TypeId} {v : Value} {n : Nat} {vs : List Value} {k : Nat} {s : ByteArray} {p : Nat} (h : w.ownsRow lo T 1 v n vs) (hk : w.heap[k]? = some (.stringIter s p)) : some k ≠ v.ownBlock := by
  intro e
  rcases h.2 with ⟨rfl, _⟩ | ⟨g, cap, cur, rfl, _, hg, _⟩
  · cases e
  · have e2 : k = g := by simpa [Value.ownBlock] using e
    subst e2
    rw [hk] at hg
    cases hg
theorem own_iterAt {w : World} {lo : Nat} {T : TypeId} {v : Value} {n : Nat} {vs : List Value} {k : Nat} {s : ByteArray} {p p' : Nat} (h : w.ownsRow lo T 1 v n vs) (hk : w.heap[k]? = some (.stringIter s p)) : (w.iterAt k s p').ownsRow lo T 1 v n vs := by
  have hne := own_ne_iter h hk
  refine ⟨h.1, ?_⟩
  rcases h.2 with h1 | ⟨g, cap, cur, hv, hb, hg, r⟩
  · exact .inl h1
  · refine .inr ⟨g, cap, cur, hv, hb, ?_, r⟩
    rw [Lib.iterAt_other _ _ _ _ _ (fun e => hne (by rw [hv, ← e]; simp [Value.ownBlock]))]
    exact hg
/-- all bytes are brackets -/
def Brk (s : List UInt8) : Prop := ∀ c ∈ s, c = 91 ∨ c = 93
theorem byte_at {s : List UInt8} {p : Nat} {c : UInt8} (h : s[p]? = some c) (hp : p < (⟨s.toArray⟩ : ByteArray).size) : (⟨s.toArray⟩ : ByteArray)[p]'hp = c := by
  have h1 : p < s.length := by rw [← size_S]; exact hp
  rw [List.getElem?_eq_getElem h1] at h
  exact Option.some.inj h
theorem lvl_open {s : List UInt8} {p : Nat} (h : s[p]? = some 91) (l : Int) : Tr.lvlF l (s.drop p) = l :: Tr.lvlF (l + 1) (s.drop (p + 1)) := by
  have hlt : p < s.length := by
    rcases Nat.lt_or_ge p s.length with g | g
    · exact g
    · rw [List.getElem?_eq_none g] at h; cases h
  rw [List.getElem?_eq_getElem hlt] at h
  injection h with h
  rw [List.drop_eq_getElem_cons hlt, h, Tr.lvlF, if_pos rfl]
theorem lvl_close {s : List UInt8} {p : Nat} (h : s[p]? = some 93) (l : Int) : Tr.lvlF l (s.drop p) = Tr.lvlF (l - 1) (s.drop (p + 1)) := by
  have hlt : p < s.length := by
    rcases Nat.lt_or_ge p s.length with g | g
    · exact g
    · rw [List.getElem?_eq_none g] at h; cases h
  rw [List.getElem?_eq_getElem hlt] at h
  injection h with h
  rw [List.drop_eq_getElem_cons hlt, h, Tr.lvlF, if_neg (by decide)]
end Go.Proofs.YtnnihdkhblbdgaaGreat
