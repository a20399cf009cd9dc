/-
  Systems of the program's: rows of numbers, each of the call's own, apart from each other: a number is stored, two rows change places.
-/
import Derived.Test.YtnnihdkhblbdgaaNest
namespace Go.Proofs.Ytnnihdkhblbdgaa
open Go.RowKit Fld
set_option linter.unusedVariables false
set_option linter.unusedSimpArgs false
set_option maxRecDepth 100000

/-- a list of lists of the call's own: its rows lie apart -/
structure OwnSys (w : World) (lo hi : Nat) (v : Value) (n : Nat) (m : List (List Int)) (vs : List Value) : Prop where
  outer : OwnR w lo hi 58 v n vs
  len : vs.length = m.length
  inner : ∀ (r : Nat) (row : List Int), m[r]? = some row → ∃ A c, vs[r]? = some (.slice A row.length c) ∧ OwnR w lo hi 51 (.slice A row.length c) row.length (ints row)
  apart : ∀ (r s : Nat) (u t : Value) (g : Nat), r ≠ s → vs[r]? = some u → vs[s]? = some t → u.ownBlock = some g → t.ownBlock ≠ some g
theorem OwnSys.keep {w w' : World} {lo hi n : Nat} {v : Value} {m : List (List Int)} {vs : List Value} (h : OwnSys w lo hi v n m vs) (hk : ∀ g, lo ≤ g → g < hi → w'.heap[g]? = w.heap[g]?) : OwnSys w' lo hi v n m vs :=
  ⟨h.outer.keep hk, h.len, fun r row hr => by obtain ⟨A, c, h1, h2⟩ := h.inner r row hr; exact ⟨A, c, h1, h2.keep hk⟩, h.apart⟩
theorem OwnSys.below {w w' : World} {lo hi n B : Nat} {v : Value} {m : List (List Int)} {vs : List Value} (h : OwnSys w lo hi v n m vs) (hb : Below B w w') (hB : hi ≤ B) : OwnSys w' lo hi v n m vs := h.keep fun g _ hg => hb.block g (by omega)
theorem OwnSys.within {w w' : World} {lo hi lo' hi' n : Nat} {v : Value} {m : List (List Int)} {vs : List Value} (h : OwnSys w lo hi v n m vs) (hb : Within lo' hi' w w') (hs : hi ≤ w.heap.size) (hd : hi ≤ lo' ∨ hi' ≤ lo) : OwnSys w' lo hi v n m vs :=
  h.keep fun g h1 h2 => hb.block g (by omega) (by omega)
theorem OwnSys.more {w : World} {lo hi lo' hi' n : Nat} {v : Value} {m : List (List Int)} {vs : List Value} (h : OwnSys w lo hi v n m vs) (h1 : lo' ≤ lo) (h2 : hi ≤ hi') : OwnSys w lo' hi' v n m vs :=
  ⟨h.outer.more h1 h2, h.len, fun r row hr => by obtain ⟨A, c, h3, h4⟩ := h.inner r row hr; exact ⟨A, c, h3, h4.more h1 h2⟩, h.apart⟩
theorem OwnSys.mat {w : World} {lo hi n c : Nat} {A : Option Addr} {m : List (List Int)} {vs : List Value} (h : OwnSys w lo hi (.slice A n c) n m vs) : Mat w hi A m := by
  intro k r hr
  obtain ⟨Ak, ck, h1, h2⟩ := h.inner k r hr
  obtain ⟨b, o, e, hb, hc⟩ := h.outer.row k _ h1
  have := own_cap h2.1
  exact ⟨b, o, Ak, ck, e, hb, hc, this.1, this.2, h2.row⟩
theorem OwnSys.drewN {w : World} {lo hi n : Nat} {v : Value} {m : List (List Int)} {vs : List Value} (h : OwnSys w lo hi v n m vs) (k : Nat) : OwnSys (w.drewN k) lo hi v n m vs := h.keep fun _ _ _ => rfl
theorem OwnSys.size {w : World} {lo hi n : Nat} {v : Value} {m : List (List Int)} {vs : List Value} (h : OwnSys w lo hi v n m vs) : m.length = n := by
  have := own_len h.outer.1; have := h.len; omega
/-- one row of it is written anew, in its place -/
theorem OwnSys.set_row {w w' : World} {lo hi n r q c : Nat} {v : Value} {A : Option Addr} {m : List (List Int)} {vs : List Value} {row' : List Int} (h : OwnSys w lo hi v n m vs) (hr : vs[r]? = some (.slice A q c)) (hq : row'.length = q)
    (h1 : w'.ownsRow lo 51 1 (.slice A q c) q (ints row')) (hg : w.grownBy w' (Value.ownBlock (.slice A q c))) : OwnSys w' lo hi v n (m.set r row') vs := by
  have hrl : r < m.length := by
    rcases Nat.lt_or_ge r m.length with g | g
    · exact g
    · rw [List.getElem?_eq_none (by rw [h.len]; exact g)] at hr; cases hr
  obtain ⟨A0, c0, e0, o0⟩ := h.inner r _ (List.getElem?_eq_getElem hrl)
  rw [hr] at e0
  injection e0 with e0
  injection e0 with eA eq ec
  subst eA ec
  have hot : w.ownsRow lo 51 1 (.slice A q c) q (ints m[r]) := by rw [eq]; exact o0.1
  refine ⟨h.outer.grown hg ?_, by rw [List.length_set]; exact h.len, ?_, h.apart⟩
  · exact own_types h.outer.1 hot (by decide)
  · intro s row hs
    by_cases hsr : r = s
    · subst hsr
      rw [List.getElem?_set_self (by exact hrl)] at hs
      injection hs with hs
      subst hs
      refine ⟨A, c, by rw [hq]; exact hr, ⟨by rw [hq]; exact h1, ?_⟩⟩
      rw [hq, eq]; exact o0.2
    · rw [List.getElem?_set_ne hsr] at hs
      obtain ⟨A2, c2, e2, o2⟩ := h.inner s row hs
      refine ⟨A2, c2, e2, o2.grown hg ?_⟩
      cases hb : Value.ownBlock (.slice A2 row.length c2) with
      | none => exact .inl rfl
      | some g => exact .inr (fun e => h.apart s r _ _ g (Ne.symm hsr) e2 hr hb e.symm)

/-- a number is stored -/
theorem OwnSys.put {w : World} {lo hi n r k g c : Nat} {v : Value} {m : List (List Int)} {vs : List Value} {row : List Int} {x : Int} (h : OwnSys w lo hi v n m vs) (hr : m[r]? = some row) (hv : vs[r]? = some (.slice (some ⟨g, 0, none⟩) row.length c)) :
    OwnSys (w.setCell ⟨g, k, none⟩ (.int .i64 x)) lo hi v n (m.set r (row.set k x)) vs := by
  obtain ⟨A0, c0, e0, o0⟩ := h.inner r row hr
  rw [hv] at e0
  injection e0 with e0
  injection e0 with eA eq ec
  subst eA ec
  obtain ⟨h1, h2⟩ := o0.1.stored k (.int .i64 x)
  refine h.set_row hv (by rw [List.length_set]) ?_ h2
  have e : (ints row).set k (.int .i64 x) = ints (row.set k x) := by unfold ints intsK; rw [List.map_set]
  rw [e] at h1
  exact h1
/-- two places of a list change -/
def swapL {α : Type} (l : List α) (p q : Nat) (a b : α) : List α := (l.set p b).set q a
theorem swapL_at {α : Type} {l : List α} {p q : Nat} {a b : α} (hp : l[p]? = some a) (hq : l[q]? = some b) (i : Nat) : (swapL l p q a b)[i]? = l[if i = p then q else if i = q then p else i]? := by
  have hpl : p < l.length := by
    rcases Nat.lt_or_ge p l.length with g | g
    · exact g
    · rw [List.getElem?_eq_none g] at hp; cases hp
  have hql : q < l.length := by
    rcases Nat.lt_or_ge q l.length with g | g
    · exact g
    · rw [List.getElem?_eq_none g] at hq; cases hq
  unfold swapL
  rw [List.getElem?_set, List.getElem?_set]
  by_cases e1 : q = i
  · subst e1
    rw [if_pos rfl, if_pos (by rw [List.length_set]; exact hql)]
    by_cases e2 : q = p
    · subst e2; rw [if_pos rfl, hp]
    · rw [if_neg e2, if_pos rfl, hp]
  · rw [if_neg e1]
    by_cases e2 : p = i
    · subst e2; rw [if_pos rfl, if_pos hpl, if_pos rfl, hq]
    · rw [if_neg e2, if_neg (fun e => e2 e.symm), if_neg (fun e => e1 e.symm)]
/-- two rows change places -/
theorem OwnSys.swap {w : World} {lo hi n p q g c : Nat} {m : List (List Int)} {vs : List Value} {r s : List Int} {u t : Value} (h : OwnSys w lo hi (.slice (some ⟨g, 0, none⟩) n c) n m vs)
    (hp : m[p]? = some r) (hq : m[q]? = some s) (hu : vs[p]? = some u) (ht : vs[q]? = some t) :
    OwnSys ((w.setCell ⟨g, p, none⟩ t).setCell ⟨g, q, none⟩ u) lo hi (.slice (some ⟨g, 0, none⟩) n c) n (swapL m p q r s) (swapL vs p q u t) := by
  obtain ⟨h1, h2⟩ := h.outer.1.stored p t
  obtain ⟨h3, h4⟩ := h1.stored q u
  refine ⟨⟨h3, h.outer.2⟩, by unfold swapL; simp [h.len], ?_, ?_⟩
  · intro i row hi
    rw [swapL_at hp hq] at hi
    obtain ⟨A, c', e, o⟩ := h.inner _ row hi
    refine ⟨A, c', by rw [swapL_at hu ht]; exact e, ?_⟩
    have hne := own_types o.1 h.outer.1 (by decide)
    exact (o.grown h2 hne).grown h4 hne
  · intro i j a b gg hij ha hb hg
    rw [swapL_at hu ht] at ha hb
    refine h.apart _ _ a b gg ?_ ha hb hg
    split <;> split <;> (try split) <;> (try split) <;> omega
end Go.Proofs.Ytnnihdkhblbdgaa
