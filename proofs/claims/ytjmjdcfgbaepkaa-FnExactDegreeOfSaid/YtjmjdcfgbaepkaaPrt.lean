/-
  Lists of parts of elements (a number and a list of lists) in memory: reading, opening an argument.
-/
import Derived.Test.YtjmjdcfgbaepkaaBase
import Derived.Test.YtjmjdcfgbaepkaaNest
import Derived.Deep.SlicePairs
namespace Go.Proofs.Ytjmjdcfgbaepkaa
open Go.ChangeShapes Go.WideShapes Go.RowKit Fld
set_option linter.unusedVariables false
set_option linter.unusedSimpArgs false
set_option maxRecDepth 100000

/-- parts: a number and a list of lists each, in two cells -/
def Prts (w : World) (B : Nat) (A : Option Addr) (ps : List (Int × List (List Int))) : Prop :=
  ∀ k x f, ps[k]? = some (x, f) → ∃ b o Ak ck, A = some ⟨b, o, none⟩ ∧ b < B ∧ w.cell? ⟨b, o + k * 2, none⟩ = some (.int .i64 x) ∧ w.cell? ⟨b, o + k * 2 + 1, none⟩ = some (.slice Ak f.length ck) ∧ f.length ≤ ck ∧ ck ≤ maxLen ∧ Mat w B Ak f
theorem Prts.keep {w w' : World} {B : Nat} {A : Option Addr} {ps : List (Int × List (List Int))} (h : Prts w B A ps) (hk : ∀ b o, b < B → w'.cell? ⟨b, o, none⟩ = w.cell? ⟨b, o, none⟩) : Prts w' B A ps := fun k x f hr => by
  obtain ⟨b, o, Ak, ck, e, hb, h0, h1, hl, hm, hM⟩ := h k x f hr
  exact ⟨b, o, Ak, ck, e, hb, (hk b _ hb).trans h0, (hk b _ hb).trans h1, hl, hm, hM.keep hk⟩
theorem Prts.below {w w' : World} {B B' : Nat} {A : Option Addr} {ps : List (Int × List (List Int))} (h : Prts w B A ps) (hb : Below B' w w') (hB : B ≤ B') : Prts w' B A ps :=
  h.keep fun b o hlt => hb.cell (p := ⟨b, o, none⟩) (by show b < B'; omega)
theorem Prts.more {w : World} {B B' : Nat} {A : Option Addr} {ps : List (Int × List (List Int))} (h : Prts w B A ps) (hB : B ≤ B') : Prts w B' A ps := fun k x f hr => by
  obtain ⟨b, o, Ak, ck, e, hb, h0, h1, hl, hm, hM⟩ := h k x f hr
  exact ⟨b, o, Ak, ck, e, by omega, h0, h1, hl, hm, hM.more hB⟩
theorem Prts.next {w w' : World} {A : Option Addr} {ps : List (Int × List (List Int))} (h : Prts w w.heap.size A ps) (hb : Below w.heap.size w w') : Prts w' w'.heap.size A ps := (h.below hb (Nat.le_refl _)).more hb.size
theorem Prts.drewN {w : World} {B : Nat} {A : Option Addr} {ps : List (Int × List (List Int))} (h : Prts w B A ps) (k : Nat) : Prts (w.drewN k) B A ps := h
/-- how much a list of parts takes: its length, and that of each list of lists -/
def tot (f : List (List Int)) : Nat := f.length + total f
def szP (ps : List (Int × List (List Int))) : Nat := ps.length + (ps.map fun p => tot p.2).sum
def szTo (ps : List (Int × List (List Int))) (k : Nat) : Nat := ((ps.take k).map fun p => tot p.2).sum
theorem szTo_step {ps : List (Int × List (List Int))} {k : Nat} {x : Int} {f : List (List Int)} (h : ps[k]? = some (x, f)) : szTo ps (k + 1) = szTo ps k + tot f := by
  unfold szTo
  rw [List.take_add_one, h, Option.toList_some, List.map_append, List.sum_append]
  simp
theorem szTo_le (ps : List (Int × List (List Int))) (k : Nat) : ps.length + szTo ps k ≤ szP ps := by
  unfold szP szTo
  have : (ps.map fun p => tot p.2).sum = ((ps.take k).map fun p => tot p.2).sum + ((ps.drop k).map fun p => tot p.2).sum := by
    rw [← List.sum_append, ← List.map_append, List.take_append_drop]
  omega
theorem szTo_all (ps : List (Int × List (List Int))) {k : Nat} (h : ps.length ≤ k) : ps.length + szTo ps k = szP ps := by
  unfold szP szTo; rw [List.take_of_length_le h]
section
variable {H : Type} {enc : TypeId × Value → H} {P : Program} {w : World} {d : DataW H} {ps : List MemPlace}
def IsParts (w : World) (a : Option Addr) (len cap : Nat) (z : List (Int × List (List Int))) : Prop :=
  z.length = len ∧ len ≤ cap ∧ cap ≤ maxLen ∧ Prts w w.heap.size a z ∧ ∀ p ∈ z, (Lit.int .i64 p.1).wf = true ∧ ∀ r ∈ p.2, ∀ n ∈ r, (Lit.int .i64 n).wf = true
theorem isParts_of {t e q r : TypeId} {f0 f1 : Field} {a : Option Addr} {len cap : Nat} (ht : P.underlying t = some (.slice e)) (he : P.underlying e = some (.struct #[f0, f1])) (ce : P.cellsOf e = 2) (o0 : f0.offset = 0) (o1 : f1.offset = 1)
    (t0 : P.underlying f0.type = some (.int .i64)) (t1 : P.underlying f1.type = some (.slice q)) (hq : P.underlying q = some (.slice r)) (hr : P.underlying r = some (.int .i64)) (c0 : P.cellsOf f0.type = 1) (c1 : P.cellsOf f1.type = 1) (cq : P.cellsOf q = 1) (cr : P.cellsOf r = 1)
    (h : DataW.Trod enc P w 0 (fun _ => true) true t (.slice a len cap) d ps) : ∃ z, IsParts w a len cap z := by
  obtain ⟨fuel, hf⟩ := h
  rcases Go.Deep.open_slice_pairs ht he ce o0 o1 c0 c1 hf with ⟨hcs, _⟩ | ⟨x, l, c, m, n, V0, V1, D0, D1, P0, P1, hcs, _, hl, hm, hmm, _, hrow⟩
  · simp [Value.cells] at hcs
    obtain ⟨rfl, rfl, rfl⟩ := hcs
    exact ⟨[], rfl, Nat.le_refl _, Nat.zero_le _, fun k x f h => by simp at h, by simp⟩
  · simp [Value.cells] at hcs
    obtain ⟨rfl, rfl, rfl⟩ := hcs
    simp only [if_true] at hmm
    subst hmm
    have each : ∀ i, i < len → ∃ y : Int × List (List Int), V0 i = .int .i64 y.1 ∧ (∃ Ak ck, V1 i = .slice Ak y.2.length ck ∧ y.2.length ≤ ck ∧ ck ≤ maxLen ∧ Mat w w.heap.size Ak y.2) ∧ (Lit.int .i64 y.1).wf = true ∧ ∀ r ∈ y.2, ∀ n ∈ r, (Lit.int .i64 n).wf = true := by
      intro i hi
      obtain ⟨_, _, g0, g1⟩ := hrow i (by omega)
      obtain ⟨z0, hz0, _, hw0⟩ := DataW.trod_int t0 g0
      injection hz0 with hz0 _
      obtain ⟨Ak, lk, ck, hv⟩ : ∃ Ak lk ck, V1 i = .slice Ak lk ck := by
        rcases Go.Deep.open_int_rows t1 hq hr cq cr g1 with ⟨hcs, _⟩ | ⟨x', l', c', _, _, _, _, hcs, _⟩
        · injection hcs with hcs _; exact ⟨_, _, _, hcs⟩
        · injection hcs with hcs _; exact ⟨_, _, _, hcs⟩
      obtain ⟨z1, hz1, hz2, hz3, hz4, hz5⟩ := isMat_of (a := Ak) (len := lk) (cap := ck) t1 hq hr cq cr ⟨n, by rw [hv] at g1; exact g1⟩
      subst hz1
      exact ⟨(z0, z1), hz0, ⟨Ak, ck, hv, hz2, hz3, hz4⟩, hw0, hz5⟩
    obtain ⟨y, hy⟩ := Go.Deep.choose_lt each
    refine ⟨(List.range len).map y, by simp, hl, hm, ?_, ?_⟩
    · intro k x' f hk
      rw [List.getElem?_map, Option.map_eq_some_iff] at hk
      obtain ⟨k', hk', e⟩ := hk
      have hkl : k < len := by
        rcases Nat.lt_or_ge k len with g | g
        · exact g
        · rw [List.getElem?_eq_none (by simp; omega)] at hk'; cases hk'
      rw [List.getElem?_range hkl] at hk'
      cases hk'
      obtain ⟨h1, ⟨Ak, ck, h2, h3, h4, h5⟩, _⟩ := hy k hkl
      rw [e] at h1 h2 h3 h5
      obtain ⟨q0, q1, _, _⟩ := hrow k (by omega)
      rw [h1] at q0
      rw [h2] at q1
      have q00 := (hrow 0 (by omega)).1
      rw [Nat.zero_mul] at q00
      obtain ⟨e1, e2, e3⟩ := add_at q00 q0
      obtain ⟨_, e4, _⟩ := add_at q00 q1
      exact ⟨x.block, x.off, Ak, ck, by rw [← e1], e3, e2, by rw [Nat.add_assoc]; exact e4, h3, h4, h5⟩
    · intro p hp
      rw [List.mem_map] at hp
      obtain ⟨k, hk, rfl⟩ := hp
      rw [List.mem_range] at hk
      exact (hy k hk).2.2
end
end Go.Proofs.Ytjmjdcfgbaepkaa
