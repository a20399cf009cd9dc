/-
  Lists of lists of numbers in memory that a call has made: ranges of blocks, rows apart from each other, marks.
-/
import Derived.Test.YtnnihdkhblbdgaaSlices
namespace Go.Proofs.Ytnnihdkhblbdgaa
open Go.RowKit Fld
set_option linter.unusedVariables false
set_option linter.unusedSimpArgs false
set_option maxRecDepth 100000

theorem info_row : (Try.prog.info? 23).map (fun i => (i.zero, i.size, i.bytes)) = some (some (.slice none 0 0), 1, 24) := by kernel_rfl

/-- of what was there only blocks from lo to hi may have turned -/
structure Within (lo hi : Nat) (w w' : World) : Prop where
  os : w'.os = w.os
  tape : w'.tape = w.tape
  output : w'.output = w.output
  size : w.heap.size ≤ w'.heap.size
  block : ∀ k, k < w.heap.size → k < lo ∨ hi ≤ k → w'.heap[k]? = w.heap[k]?
theorem Within.refl (lo hi : Nat) (w : World) : Within lo hi w w := ⟨rfl, rfl, rfl, Nat.le_refl _, fun _ _ _ => rfl⟩
theorem Within.trans {lo hi : Nat} {a b c : World} (h : Within lo hi a b) (k : Within lo hi b c) : Within lo hi a c :=
  ⟨k.os.trans h.os, k.tape.trans h.tape, k.output.trans h.output, Nat.le_trans h.size k.size, fun i hi hr => (k.block i (Nat.lt_of_lt_of_le hi h.size) hr).trans (h.block i hi hr)⟩
theorem Within.grown {lo hi : Nat} {w w' : World} {row : Option Nat} (h : w.grownBy w' row) (hr : ∀ g, row = some g → lo ≤ g ∧ g < hi) : Within lo hi w w' :=
  ⟨h.os, h.tape, h.output, h.size, fun k hk hkr => h.block k hk (fun e => by have := hr k e.symm; omega)⟩
theorem Within.below {lo hi B : Nat} {w w' : World} (h : Within lo hi w w') (hB : B ≤ lo) (hw : B ≤ w.heap.size) : Below B w w' :=
  ⟨h.os, h.tape, h.output, h.size, fun k hk => h.block k (by omega) (.inl (by omega))⟩
theorem Below.then {B lo hi : Nat} {a w w' : World} (h : Below B a w) (k : Within lo hi w w') (hB : B ≤ lo) (hw : B ≤ w.heap.size) : Below B a w' := h.trans (k.below hB hw)

/-- a row of the call's own, in a block from lo to hi -/
def OwnR (w : World) (lo hi : Nat) (T : TypeId) (v : Value) (n : Nat) (vs : List Value) : Prop :=
  w.ownsRow lo T 1 v n vs ∧ ∀ g, v.ownBlock = some g → g < hi
theorem OwnR.of {w : World} {lo : Nat} {T : TypeId} {v : Value} {n : Nat} {vs : List Value} (h : w.ownsRow lo T 1 v n vs) : OwnR w lo w.heap.size T v n vs := ⟨h, fun g hg => (h.lt g hg).2⟩
theorem OwnR.keep {w w' : World} {lo hi : Nat} {T : TypeId} {v : Value} {n : Nat} {vs : List Value} (h : OwnR w lo hi T v n vs) (hk : ∀ g, lo ≤ g → g < hi → w'.heap[g]? = w.heap[g]?) : OwnR w' lo hi T v n vs := by
  refine ⟨⟨h.1.1, ?_⟩, h.2⟩
  rcases h.1.2 with h1 | ⟨g, cap, cur, hv, hb, hg, r⟩
  · exact .inl h1
  · exact .inr ⟨g, cap, cur, hv, hb, by rw [hk g hb (h.2 g (by rw [hv]; rfl))]; exact hg, r⟩
theorem OwnR.below {w w' : World} {lo hi B : Nat} {T : TypeId} {v : Value} {n : Nat} {vs : List Value} (h : OwnR w lo hi T v n vs) (hb : Below B w w') (hB : hi ≤ B) : OwnR w' lo hi T v n vs := h.keep fun g _ hg => hb.block g (by omega)
theorem OwnR.within {w w' : World} {lo hi lo' hi' : Nat} {T : TypeId} {v : Value} {n : Nat} {vs : List Value} (h : OwnR w lo hi T v n vs) (hb : Within lo' hi' w w') (hs : hi ≤ w.heap.size) (hd : hi ≤ lo' ∨ hi' ≤ lo) : OwnR w' lo hi T v n vs :=
  h.keep fun g h1 h2 => hb.block g (by omega) (by omega)
theorem OwnR.more {w : World} {lo hi lo' hi' : Nat} {T : TypeId} {v : Value} {n : Nat} {vs : List Value} (h : OwnR w lo hi T v n vs) (h1 : lo' ≤ lo) (h2 : hi ≤ hi') : OwnR w lo' hi' T v n vs := by
  refine ⟨⟨h.1.1, ?_⟩, fun g hg => by have := h.2 g hg; omega⟩
  rcases h.1.2 with k | ⟨g, cap, cur, hv, hb, r⟩
  · exact .inl k
  · exact .inr ⟨g, cap, cur, hv, by omega, r⟩
theorem OwnR.row {w : World} {lo hi : Nat} {T : TypeId} {A : Option Addr} {n c : Nat} {vs : List Value} (h : OwnR w lo hi T (.slice A n c) n vs) : Row w hi A vs := by
  intro k v hv
  obtain ⟨b, o, e, hb, hc⟩ := row_of_own h.1 k v hv
  refine ⟨b, o, e, h.2 b ?_, hc⟩
  rw [e]; rfl
theorem NewRow.after {w W w' : World} {T : TypeId} {n : Nat} {vs : List Value} {e : Ending} (hb : Below w.heap.size w W) (h : NewRow T n vs W e w') : NewRow T n vs w e w' := by
  obtain ⟨A, c, he, ho, h2⟩ := h
  exact ⟨A, c, he, ((OwnR.of ho).more hb.size (Nat.le_refl _)).1, hb.trans (h2.mono hb.size)⟩
theorem own_cap {w : World} {lo : Nat} {T : TypeId} {A : Option Addr} {n c : Nat} {vs : List Value} (h : w.ownsRow lo T 1 (.slice A n c) n vs) : n ≤ c ∧ c ≤ maxLen := by
  rcases h.2 with ⟨h1, h2⟩ | ⟨g, cap, cur, hv, _, _, h3, h4, _⟩
  · injection h1 with a b d; subst b d; exact ⟨Nat.le_refl _, Nat.zero_le _⟩
  · injection hv with a b d; subst d; exact ⟨h3, h4⟩
/-- rows of different element types lie in different blocks -/
theorem own_types {w : World} {lo lo' : Nat} {T S : TypeId} {u v : Value} {n n' : Nat} {us vs : List Value} (h : w.ownsRow lo T 1 u n us) (h' : w.ownsRow lo' S 1 v n' vs) (hne : T ≠ S) : u.ownBlock = none ∨ u.ownBlock ≠ v.ownBlock := by
  rcases h.2 with ⟨rfl, _⟩ | ⟨g, cap, cur, rfl, _, hg, _⟩
  · exact .inl rfl
  · rcases h'.2 with ⟨rfl, _⟩ | ⟨g', cap', cur', rfl, _, hg', _⟩
    · exact .inr (by simp [Value.ownBlock])
    · refine .inr fun e => ?_
      have e2 : g = g' := by simpa [Value.ownBlock] using e
      subst e2
      rw [hg] at hg'
      injection hg' with hg'
      injection hg' with _ ht
      exact hne ht
theorem OwnR.grown {w w' : World} {lo hi : Nat} {T : TypeId} {v : Value} {n : Nat} {vs : List Value} {row : Option Nat} (h : OwnR w lo hi T v n vs) (hg : w.grownBy w' row) (hne : v.ownBlock = none ∨ v.ownBlock ≠ row) : OwnR w' lo hi T v n vs := ⟨h.1.kept hg hne, h.2⟩

/-- a list of lists of the call's own: its rows lie apart -/
structure OwnMat (w : World) (lo hi : Nat) (v : Value) (n : Nat) (m : List (List Int)) (vs : List Value) : Prop where
  outer : OwnR w lo hi 23 v n vs
  len : vs.length = m.length
  inner : ∀ (r : Nat) (row : List Int), m[r]? = some row → ∃ A c, vs[r]? = some (.slice A row.length c) ∧ OwnR w lo hi 2 (.slice A row.length c) row.length (ints row)
  apart : ∀ (r s : Nat) (u t : Value) (g : Nat), r ≠ s → vs[r]? = some u → vs[s]? = some t → u.ownBlock = some g → t.ownBlock ≠ some g
theorem OwnMat.keep {w w' : World} {lo hi n : Nat} {v : Value} {m : List (List Int)} {vs : List Value} (h : OwnMat w lo hi v n m vs) (hk : ∀ g, lo ≤ g → g < hi → w'.heap[g]? = w.heap[g]?) : OwnMat w' lo hi v n m vs :=
  ⟨h.outer.keep hk, h.len, fun r row hr => by obtain ⟨A, c, h1, h2⟩ := h.inner r row hr; exact ⟨A, c, h1, h2.keep hk⟩, h.apart⟩
theorem OwnMat.below {w w' : World} {lo hi n B : Nat} {v : Value} {m : List (List Int)} {vs : List Value} (h : OwnMat w lo hi v n m vs) (hb : Below B w w') (hB : hi ≤ B) : OwnMat w' lo hi v n m vs := h.keep fun g _ hg => hb.block g (by omega)
theorem OwnMat.within {w w' : World} {lo hi lo' hi' n : Nat} {v : Value} {m : List (List Int)} {vs : List Value} (h : OwnMat w lo hi v n m vs) (hb : Within lo' hi' w w') (hs : hi ≤ w.heap.size) (hd : hi ≤ lo' ∨ hi' ≤ lo) : OwnMat w' lo hi v n m vs :=
  h.keep fun g h1 h2 => hb.block g (by omega) (by omega)
theorem OwnMat.more {w : World} {lo hi lo' hi' n : Nat} {v : Value} {m : List (List Int)} {vs : List Value} (h : OwnMat w lo hi v n m vs) (h1 : lo' ≤ lo) (h2 : hi ≤ hi') : OwnMat w lo' hi' v n m vs :=
  ⟨h.outer.more h1 h2, h.len, fun r row hr => by obtain ⟨A, c, h3, h4⟩ := h.inner r row hr; exact ⟨A, c, h3, h4.more h1 h2⟩, h.apart⟩
theorem OwnMat.mat {w : World} {lo hi n c : Nat} {A : Option Addr} {m : List (List Int)} {vs : List Value} (h : OwnMat w lo hi (.slice A n c) n m vs) : Mat w hi A m := by
  intro k r hr
  obtain ⟨Ak, ck, h1, h2⟩ := h.inner k r hr
  obtain ⟨b, o, e, hb, hc⟩ := h.outer.row k _ h1
  have := own_cap h2.1
  exact ⟨b, o, Ak, ck, e, hb, hc, this.1, this.2, h2.row⟩
theorem OwnMat.drewN {w : World} {lo hi n : Nat} {v : Value} {m : List (List Int)} {vs : List Value} (h : OwnMat w lo hi v n m vs) (k : Nat) : OwnMat (w.drewN k) lo hi v n m vs := h.keep fun _ _ _ => rfl
theorem Mat.drewN {w : World} {B : Nat} {A : Option Addr} {m : List (List Int)} (h : Mat w B A m) (k : Nat) : Mat (w.drewN k) B A m := h
theorem OwnMat.size {w : World} {lo hi n : Nat} {v : Value} {m : List (List Int)} {vs : List Value} (h : OwnMat w lo hi v n m vs) : m.length = n := by
  have := own_len h.outer.1; have := h.len; omega
/-- one row of it is written anew, in its place -/
theorem OwnMat.set_row {w w' : World} {lo hi n r q c : Nat} {v : Value} {A : Option Addr} {m : List (List Int)} {vs : List Value} {row' : List Int} (h : OwnMat w lo hi v n m vs) (hr : vs[r]? = some (.slice A q c)) (hq : row'.length = q)
    (h1 : w'.ownsRow lo 2 1 (.slice A q c) q (ints row')) (hg : w.grownBy w' (Value.ownBlock (.slice A q c))) : OwnMat w' lo hi v n (m.set r row') vs := by
  have hrl : r < m.length := by
    rcases Nat.lt_or_ge r m.length with g | g
    · exact g
    · rw [List.getElem?_eq_none (by rw [h.len]; exact g)] at hr; cases hr
  obtain ⟨A0, c0, e0, o0⟩ := h.inner r _ (List.getElem?_eq_getElem hrl)
  rw [hr] at e0
  injection e0 with e0
  injection e0 with eA eq ec
  subst eA ec
  have hot : w.ownsRow lo 2 1 (.slice A q c) q (ints m[r]) := by rw [eq]; exact o0.1
  refine ⟨h.outer.grown hg ?_, by rw [List.length_set]; exact h.len, ?_, h.apart⟩
  · exact own_types h.outer.1 hot (by decide)
  · intro s row hs
    by_cases hsr : r = s
    · subst hsr
      rw [List.getElem?_set_self (by exact hrl)] at hs
      injection hs with hs
      subst hs
      refine ⟨A, c, by rw [hq]; exact hr, ⟨by rw [hq]; exact h1, ?_⟩⟩
      rw [hq, eq]; exact o0.2
    · rw [List.getElem?_set_ne hsr] at hs
      obtain ⟨A2, c2, e2, o2⟩ := h.inner s row hs
      refine ⟨A2, c2, e2, o2.grown hg ?_⟩
      cases hb : Value.ownBlock (.slice A2 row.length c2) with
      | none => exact .inl rfl
      | some g => exact .inr (fun e => h.apart s r _ _ g (Ne.symm hsr) e2 hr hb e.symm)

/-! marks -/
def marks (k : Int) (n : Nat) : List Int := (List.range n).map fun i : Nat => k + (i : Int)
theorem marks_length (k : Int) (n : Nat) : (marks k n).length = n := by simp [marks]
theorem marks_at (k : Int) {n i : Nat} (h : i < n) : (marks k n)[i]? = some (k + (i : Int)) := by simp [marks, h]
theorem mark_step {α : Type} {vs us : List α} {k : Nat} {u : α} (hk : k < vs.length) (hl : us.length = vs.length) (hu : us[k]? = some u) : (us.take k ++ vs.drop k).set k u = us.take (k + 1) ++ vs.drop (k + 1) := by
  have e1 : (us.take k).length = k := by simp; omega
  rw [List.set_append, if_neg (by omega), e1, Nat.sub_self, List.take_add_one, hu, List.drop_eq_getElem_cons hk, List.set_cons_zero]
  simp
def total (m : List (List Int)) : Nat := (m.map List.length).sum
def marksM : Int → List (List Int) → List (List Int)
  | _, [] => []
  | k, row :: rest => marks k row.length :: marksM (k + row.length) rest
theorem total_take {m : List (List Int)} {r : Nat} {row : List Int} (h : m[r]? = some row) : total (m.take (r + 1)) = total (m.take r) + row.length := by
  unfold total; rw [List.take_add_one, h]; simp
theorem total_le (m : List (List Int)) (r : Nat) : total (m.take r) ≤ total m := by
  have : total m = total (m.take r) + total (m.drop r) := by
    unfold total; rw [← List.sum_append, ← List.map_append, List.take_append_drop]
  omega
theorem marksM_at : ∀ (m : List (List Int)) (k : Int) (r : Nat) (row : List Int), m[r]? = some row → (marksM k m)[r]? = some (marks (k + (total (m.take r) : Nat)) row.length)
  | [], _, _, _, h => by simp at h
  | x :: rest, k, 0, row, h => by
    simp only [List.getElem?_cons_zero, Option.some.injEq] at h
    subst h
    simp [marksM, total]
  | x :: rest, k, r+1, row, h => by
    simp only [List.getElem?_cons_succ] at h
    have := marksM_at rest (k + x.length) r row h
    simp only [marksM, List.getElem?_cons_succ, this]
    congr 2
    simp [total]; omega
theorem marksM_length (k : Int) (m : List (List Int)) : (marksM k m).length = m.length := by
  induction m generalizing k with
  | nil => rfl
  | cons x r ih => simp [marksM, ih]
theorem markM_step {m : List (List Int)} {us : List (List Int)} {r : Nat} {u : List Int} (hr : r < m.length) (hl : us.length = m.length) (hu : us[r]? = some u) : (us.take r ++ m.drop r).set r u = us.take (r + 1) ++ m.drop (r + 1) := by
  have e1 : (us.take r).length = r := by simp; omega
  rw [List.set_append, if_neg (by omega), e1, Nat.sub_self, List.take_add_one, hu, List.drop_eq_getElem_cons hr, List.set_cons_zero]
  simp
end Go.Proofs.Ytnnihdkhblbdgaa
