/-
  Values of nested types in memory: numbers, structs, slices of those. What a call owns, what can be read, marks.
-/
import Derived.Test.YtjmjdcfgbaepkaaNest
namespace Go.Proofs.Ytjmjdcfgbaepkaa
open Go.RowKit Fld
set_option linter.unusedVariables false
set_option linter.unusedSimpArgs false
set_option maxRecDepth 100000

/-- the shape of a type: a number, a slice (its element type, the cells of an element), two parts of a struct -/
inductive Sh where
  | int : Sh
  | slc (T : TypeId) (k : Nat) (s : Sh) : Sh
  | pair (a b : Sh) : Sh
@[reducible] def Sh.Ty : Sh → Type
  | .int => Int
  | .slc _ _ s => List s.Ty
  | .pair a b => a.Ty × b.Ty
def blk (v : Value) : List Nat := match v.ownBlock with | some g => [g] | none => []
theorem blk_mem {v : Value} {g : Nat} : g ∈ blk v ↔ v.ownBlock = some g := by
  unfold blk
  cases h : v.ownBlock with
  | none => simp
  | some b => simp [eq_comm]
/-- the cells cs are the value x, whose blocks are B -/
def Own : (s : Sh) → List Value → s.Ty → List Nat → World → Prop
  | .int, cs, x, B, _ => cs = [.int .i64 x] ∧ B = []
  | .pair a b, cs, x, B, w => ∃ ca cb Ba Bb, cs = ca ++ cb ∧ B = Ba ++ Bb ∧ Own a ca x.1 Ba w ∧ Own b cb x.2 Bb w
  | .slc T k s, cs, xs, B, w => ∃ (v : Value) (css : List (List Value)) (Bs : List (List Nat)), cs = [v] ∧ w.ownsRow 0 T k v (xs : List s.Ty).length css.flatten ∧ B = blk v ++ Bs.flatten ∧ css.length = (xs : List s.Ty).length ∧ Bs.length = (xs : List s.Ty).length ∧
      (∀ c ∈ css, c.length = k) ∧ ∀ (i : Nat) (x : s.Ty), (xs : List s.Ty)[i]? = some x → ∃ (c : List Value) (b : List Nat), css[i]? = some c ∧ Bs[i]? = some b ∧ Own s c x b w
/-- what can be read, in blocks below hi -/
def Has : (s : Sh) → List Value → s.Ty → Nat → World → Prop
  | .int, cs, x, _, _ => cs = [.int .i64 x]
  | .pair a b, cs, x, hi, w => ∃ ca cb, cs = ca ++ cb ∧ Has a ca x.1 hi w ∧ Has b cb x.2 hi w
  | .slc _ k s, cs, xs, hi, w => ∃ (A : Option Addr) (c : Nat) (css : List (List Value)), cs = [.slice A (xs : List s.Ty).length c] ∧ (xs : List s.Ty).length ≤ c ∧ c ≤ maxLen ∧ Row w hi A css.flatten ∧ css.length = (xs : List s.Ty).length ∧
      (∀ c ∈ css, c.length = k) ∧ ∀ (i : Nat) (x : s.Ty), (xs : List s.Ty)[i]? = some x → ∃ (c : List Value), css[i]? = some c ∧ Has s c x hi w

theorem ownsRow_keep {w w' : World} {base k n : Nat} {T : TypeId} {v : Value} {vs : List Value} (h : w.ownsRow base T k v n vs) (hk : ∀ g ∈ blk v, w'.heap[g]? = w.heap[g]?) : w'.ownsRow base T k v n vs := by
  refine ⟨h.1, ?_⟩
  rcases h.2 with h1 | ⟨g, cap, cur, hv, hb, hg, r⟩
  · exact .inl h1
  · exact .inr ⟨g, cap, cur, hv, hb, by rw [hk g (blk_mem.2 (by rw [hv]; rfl))]; exact hg, r⟩
theorem Own.keep : ∀ {s : Sh} {cs : List Value} {x : s.Ty} {B : List Nat} {w w' : World}, Own s cs x B w → (∀ g ∈ B, w'.heap[g]? = w.heap[g]?) → Own s cs x B w'
  | .int, _, _, _, _, _, h, _ => by unfold Own at h ⊢; exact h
  | .pair _ _, _, _, _, _, _, h, hk => by
    obtain ⟨ca, cb, Ba, Bb, e1, e2, h1, h2⟩ := h
    exact ⟨ca, cb, Ba, Bb, e1, e2, h1.keep (fun g hg => hk g (by rw [e2]; simp [hg])), h2.keep (fun g hg => hk g (by rw [e2]; simp [hg]))⟩
  | .slc _ _ _, _, _, _, _, _, h, hk => by
    obtain ⟨v, css, Bs, e1, h1, e2, h2, h3, h4, h5⟩ := h
    refine ⟨v, css, Bs, e1, ownsRow_keep h1 (fun g hg => hk g (by rw [e2]; simp [hg])), e2, h2, h3, h4, fun i x hx => ?_⟩
    obtain ⟨c, b, q1, q2, q3⟩ := h5 i x hx
    exact ⟨c, b, q1, q2, q3.keep (fun g hg => hk g (by rw [e2, List.mem_append, List.mem_flatten]; exact .inr ⟨b, List.mem_of_getElem? q2, hg⟩))⟩
def Sh.wid : Sh → Nat
  | .int => 1
  | .slc _ _ _ => 1
  | .pair a b => a.wid + b.wid
theorem Own.len : ∀ {s : Sh} {cs : List Value} {x : s.Ty} {B : List Nat} {w : World}, Own s cs x B w → cs.length = s.wid
  | .int, _, _, _, _, h => by unfold Own at h; rw [h.1]; rfl
  | .pair _ _, _, _, _, _, h => by
    obtain ⟨ca, cb, Ba, Bb, e1, e2, h1, h2⟩ := h
    rw [e1, List.length_append, h1.len, h2.len]; rfl
  | .slc _ _ _, _, _, _, _, h => by
    obtain ⟨v, css, Bs, e1, _⟩ := h
    rw [e1]; rfl
theorem Own.lt : ∀ {s : Sh} {cs : List Value} {x : s.Ty} {B : List Nat} {w : World}, Own s cs x B w → ∀ g ∈ B, g < w.heap.size
  | .int, _, _, _, _, h, g, hg => by unfold Own at h; rw [h.2] at hg; cases hg
  | .pair _ _, _, _, _, _, h, g, hg => by
    obtain ⟨ca, cb, Ba, Bb, e1, e2, h1, h2⟩ := h
    rw [e2, List.mem_append] at hg
    rcases hg with hg | hg
    · exact h1.lt g hg
    · exact h2.lt g hg
  | .slc _ _ _, _, xs, _, _, h, g, hg => by
    obtain ⟨v, css, Bs, e1, h1, e2, h2, h3, h4, h5⟩ := h
    rw [e2, List.mem_append, List.mem_flatten] at hg
    rcases hg with hg | ⟨b, hb, hg⟩
    · exact (h1.lt g (blk_mem.1 hg)).2
    · obtain ⟨i, hi⟩ := List.mem_iff_getElem?.1 hb
      have hil : i < (xs : List _).length := by
        rw [← h3]
        rcases Nat.lt_or_ge i Bs.length with q | q
        · exact q
        · rw [List.getElem?_eq_none q] at hi; cases hi
      obtain ⟨c, b', q1, q2, q3⟩ := h5 i _ (List.getElem?_eq_getElem hil)
      rw [hi] at q2; injection q2 with q2
      subst q2
      exact q3.lt g hg

/-! cells of elements -/
theorem flat_at : ∀ {css : List (List Value)} {k i j : Nat} {c : List Value}, (∀ c ∈ css, c.length = k) → css[i]? = some c → j < k → css.flatten[i * k + j]? = c[j]?
  | [], _, _, _, _, _, h, _ => by simp at h
  | d :: r, k, 0, j, c, hk, h, hj => by
    simp only [List.getElem?_cons_zero, Option.some.injEq] at h
    subst h
    rw [List.flatten_cons, Nat.zero_mul, Nat.zero_add, List.getElem?_append_left (by rw [hk d (by simp)]; exact hj)]
  | d :: r, k, i+1, j, c, hk, h, hj => by
    simp only [List.getElem?_cons_succ] at h
    have e := hk d (by simp)
    rw [List.flatten_cons, List.getElem?_append_right (by rw [e, Nat.succ_mul]; omega), e, show (i + 1) * k + j - k = i * k + j from by rw [Nat.succ_mul]; omega]
    exact flat_at (fun c hc => hk c (by simp [hc])) h hj
theorem flat_set : ∀ {css : List (List Value)} {k i j : Nat} {c : List Value} {u : Value}, (∀ c ∈ css, c.length = k) → css[i]? = some c → j < k → css.flatten.set (i * k + j) u = (css.set i (c.set j u)).flatten
  | [], _, _, _, _, _, _, h, _ => by simp at h
  | d :: r, k, 0, j, c, u, hk, h, hj => by
    simp only [List.getElem?_cons_zero, Option.some.injEq] at h
    subst h
    rw [List.flatten_cons, Nat.zero_mul, Nat.zero_add, List.set_append, if_pos (by rw [hk d (by simp)]; exact hj), List.set_cons_zero, List.flatten_cons]
  | d :: r, k, i+1, j, c, u, hk, h, hj => by
    simp only [List.getElem?_cons_succ] at h
    have e := hk d (by simp)
    rw [List.flatten_cons, List.set_append, if_neg (by rw [e, Nat.succ_mul]; omega), e, show (i + 1) * k + j - k = i * k + j from by rw [Nat.succ_mul]; omega, List.set_cons_succ, List.flatten_cons, flat_set (fun c hc => hk c (by simp [hc])) h hj]
theorem flat_len : ∀ {css : List (List Value)} {k : Nat}, (∀ c ∈ css, c.length = k) → css.flatten.length = css.length * k
  | [], k, _ => by simp
  | d :: r, k, h => by rw [List.flatten_cons, List.length_append, h d (by simp), flat_len (fun c hc => h c (by simp [hc])), List.length_cons, Nat.succ_mul]; omega
theorem flat_nodup_mem : ∀ {Bs : List (List Nat)} {i j : Nat} {b b' : List Nat} {g : Nat}, Bs.flatten.Nodup → Bs[i]? = some b → Bs[j]? = some b' → i ≠ j → g ∈ b → g ∉ b'
  | [], _, _, _, _, _, _, h, _, _, _ => by simp at h
  | d :: r, 0, 0, _, _, _, _, _, _, h, _ => absurd rfl h
  | d :: r, 0, j+1, b, b', g, hn, h1, h2, _, hg => by
    simp only [List.getElem?_cons_zero, Option.some.injEq, List.getElem?_cons_succ] at h1 h2
    subst h1
    rw [List.flatten_cons, List.nodup_append] at hn
    exact fun hg' => hn.2.2 g hg g (List.mem_flatten.2 ⟨b', List.mem_of_getElem? h2, hg'⟩) rfl
  | d :: r, i+1, 0, b, b', g, hn, h1, h2, _, hg => by
    simp only [List.getElem?_cons_zero, Option.some.injEq, List.getElem?_cons_succ] at h1 h2
    subst h2
    rw [List.flatten_cons, List.nodup_append] at hn
    exact fun hg' => hn.2.2 g hg' g (List.mem_flatten.2 ⟨b, List.mem_of_getElem? h1, hg⟩) rfl
  | d :: r, i+1, j+1, b, b', g, hn, h1, h2, hne, hg => by
    simp only [List.getElem?_cons_succ] at h1 h2
    rw [List.flatten_cons, List.nodup_append] at hn
    exact flat_nodup_mem hn.2.1 h1 h2 (fun e => hne (by rw [e])) hg
theorem flat_nodup_one {Bs : List (List Nat)} {i : Nat} {b : List Nat} (hn : Bs.flatten.Nodup) (h : Bs[i]? = some b) : b.Nodup := by
  induction Bs generalizing i with
  | nil => simp at h
  | cons d r ih =>
    rw [List.flatten_cons, List.nodup_append] at hn
    cases i with
    | zero => simp only [List.getElem?_cons_zero, Option.some.injEq] at h; subst h; exact hn.1
    | succ i => simp only [List.getElem?_cons_succ] at h; exact ih hn.2.1 h
/-- what a slice is: no element and nil, or a block -/
theorem ownsRow_form {w : World} {base k n : Nat} {T : TypeId} {v : Value} {vs : List Value} (h : w.ownsRow base T k v n vs) : ∃ A c, v = .slice A n c ∧ n ≤ c ∧ c ≤ maxLen := by
  rcases h.2 with ⟨h1, h2⟩ | ⟨g, cap, cur, hv, _, _, h3, h4, _⟩
  · exact ⟨none, 0, by rw [h1, h2], by omega, Nat.zero_le _⟩
  · exact ⟨_, cap, hv, h3, h4⟩
/-- an element of a slice that is owned, and the ways to put it back -/
theorem Own.child {T : TypeId} {k : Nat} {s : Sh} {v : Value} {xs : List s.Ty} {B : List Nat} {w : World} (h : Own (.slc T k s) [v] xs B w) (hn : B.Nodup) {i : Nat} {x : s.Ty} (hx : xs[i]? = some x) :
    ∃ g cap c b, v = .slice (some ⟨g, 0, none⟩) xs.length cap ∧ Own s c x b w ∧ c.length = k ∧ (∀ j u, c[j]? = some u → w.cell? ⟨g, i * k + j, none⟩ = some u) ∧ (∀ j, w.frozen? ⟨g, j, none⟩ = false) ∧ g ∈ B ∧ (∀ q ∈ b, q ∈ B) ∧ b.Nodup ∧ g ∉ b ∧
      (∀ x' w', Own s c x' b w' → (∀ q ∈ B, q ∉ b → w'.heap[q]? = w.heap[q]?) → Own (.slc T k s) [v] (xs.set i x') B w') ∧
      (∀ j u x', j < k → Own s (c.set j u) x' b w → Own (.slc T k s) [v] (xs.set i x') B (w.setCell ⟨g, i * k + j, none⟩ u)) := by
  obtain ⟨v0, css, Bs, e1, h1, e2, h2, h3, h4, h5⟩ := h
  injection e1 with e1 _
  subst e1
  have hil : i < xs.length := by
    rcases Nat.lt_or_ge i xs.length with q | q
    · exact q
    · rw [List.getElem?_eq_none q] at hx; cases hx
  rcases h1.2 with ⟨_, h0⟩ | ⟨g, cap, cur, hv, _, hg, hcap⟩
  · omega
  obtain ⟨c, b, q1, q2, q3⟩ := h5 i x hx
  have hck := h4 c (List.mem_of_getElem? q1)
  subst hv
  have hgB : g ∈ B := by rw [e2, List.mem_append]; exact .inl (blk_mem.2 rfl)
  have hbB : ∀ q ∈ b, q ∈ B := fun q hq => by rw [e2, List.mem_append, List.mem_flatten]; exact .inr ⟨b, List.mem_of_getElem? q2, hq⟩
  have hn2 : (blk (.slice (some ⟨g, 0, none⟩) xs.length cap) ++ Bs.flatten).Nodup := by rw [← e2]; exact hn
  rw [List.nodup_append] at hn2
  have hgb : g ∉ Bs.flatten := fun hq => hn2.2.2 g (blk_mem.2 rfl) g hq rfl
  have hgb1 : g ∉ b := fun hq => hgb (List.mem_flatten.2 ⟨b, List.mem_of_getElem? q2, hq⟩)
  refine ⟨g, cap, c, b, rfl, q3, hck, fun j u hu => ?_, fun j => h1.frozenAt j, hgB, hbB, flat_nodup_one hn2.2.1 q2, hgb1, fun x' w' ho hk => ?_, fun j u x' hj ho => ?_⟩
  · have hjk : j < k := by
      rcases Nat.lt_or_ge j k with q | q
      · exact q
      · rw [List.getElem?_eq_none (by omega)] at hu; cases hu
    have hlt : i * k + j < xs.length * k := by
      have : (i + 1) * k ≤ xs.length * k := Nat.mul_le_mul_right k hil
      rw [Nat.succ_mul] at this; omega
    rw [h1.cellAt _ hlt, flat_at h4 q1 hjk]; exact hu
  · refine ⟨_, css, Bs, rfl, ?_, e2, by rw [List.length_set]; exact h2, by rw [List.length_set]; exact h3, h4, fun m y hy => ?_⟩
    · rw [List.length_set]
      exact ownsRow_keep h1 (fun q hq => hk q (by rw [e2]; simp [hq]) (fun hqb => by
        have := blk_mem.1 hq
        have e : g = q := by simpa [Value.ownBlock] using this
        exact hgb1 (e ▸ hqb)))
    · by_cases hmi : i = m
      · subst hmi
        rw [List.getElem?_set_self hil] at hy
        injection hy with hy
        subst hy
        exact ⟨c, b, q1, q2, ho⟩
      · rw [List.getElem?_set_ne hmi] at hy
        obtain ⟨c', b', r1, r2, r3⟩ := h5 m y hy
        exact ⟨c', b', r1, r2, r3.keep (fun q hq => hk q (by rw [e2, List.mem_append, List.mem_flatten]; exact .inr ⟨b', List.mem_of_getElem? r2, hq⟩) (fun hqb => flat_nodup_mem hn2.2.1 q2 r2 hmi hqb hq))⟩
  · have hs := h1.stored (i * k + j) u
    rw [flat_set h4 q1 hj] at hs
    have hkeep : ∀ q, q ≠ g → (w.setCell ⟨g, i * k + j, none⟩ u).heap[q]? = w.heap[q]? := fun q hq => Below.heap_setCell _ _ _ q hq
    refine ⟨_, css.set i (c.set j u), Bs, rfl, ?_, e2, by rw [List.length_set, List.length_set]; exact h2, by rw [List.length_set]; exact h3, fun d hd => ?_, fun m y hy => ?_⟩
    · rw [List.length_set]; exact hs.1
    · rcases List.mem_or_eq_of_mem_set hd with hd | hd
      · exact h4 d hd
      · rw [hd, List.length_set]; exact hck
    · by_cases hmi : i = m
      · subst hmi
        rw [List.getElem?_set_self hil] at hy
        injection hy with hy
        subst hy
        exact ⟨_, b, List.getElem?_set_self (by rw [h2]; exact hil), q2, ho.keep (fun q hq => hkeep q (fun e => hgb1 (e ▸ hq)))⟩
      · rw [List.getElem?_set_ne hmi] at hy
        obtain ⟨c', b', r1, r2, r3⟩ := h5 m y hy
        refine ⟨c', b', by rw [List.getElem?_set_ne hmi]; exact r1, r2, r3.keep (fun q hq => hkeep q (fun e => hgb (by rw [← e]; exact List.mem_flatten.2 ⟨b', List.mem_of_getElem? r2, hq⟩)))⟩
/-- an element is added behind the last one -/
theorem Own.push {T : TypeId} {k : Nat} {s : Sh} {v v2 : Value} {xs : List s.Ty} {x : s.Ty} {B b : List Nat} {c : List Value} {css0 : List Value} {w w2 : World} (h : Own (.slc T k s) [v] xs B w) (ho : Own s c x b w) (hck : c.length = k) (hn : (B ++ b).Nodup)
    (h2 : ∀ vs, w.ownsRow 0 T k v xs.length vs → w2.ownsRow 0 T k v2 (xs.length + 1) (vs ++ c)) (hk : ∀ q ∈ B ++ b, q ∉ blk v → w2.heap[q]? = w.heap[q]?) : ∃ B2, Own (.slc T k s) [v2] (xs ++ [x]) B2 w2 ∧ (∀ q ∈ B2, q ∈ blk v2 ∨ q ∈ B ++ b) ∧ ((∀ q ∈ blk v2, q ∈ blk v ∨ q ∉ B ++ b) → B2.Nodup) := by
  obtain ⟨v0, css, Bs, e1, h1, e2, h3, h4, h5, h6⟩ := h
  injection e1 with e1 _
  subst e1
  have hn0 := hn
  rw [e2] at hn0
  rw [List.append_assoc, List.nodup_append] at hn0
  have hdis : ∀ q ∈ Bs.flatten ++ b, q ∉ blk v := fun q hq hq' => hn0.2.2 q hq' q hq rfl
  refine ⟨blk v2 ++ (Bs ++ [b]).flatten, ⟨v2, css ++ [c], Bs ++ [b], rfl, ?_, rfl, by simp [h3], by simp [h4], fun d hd => ?_, fun i y hy => ?_⟩, fun q hq => ?_, fun hq => ?_⟩
  · have := h2 _ h1
    simpa using this
  · rw [List.mem_append, List.mem_singleton] at hd
    rcases hd with hd | hd
    · exact h5 d hd
    · rw [hd]; exact hck
  · rcases Nat.lt_or_ge i xs.length with q | q
    · rw [List.getElem?_append_left q] at hy
      obtain ⟨c', b', r1, r2, r3⟩ := h6 i y hy
      refine ⟨c', b', by rw [List.getElem?_append_left (by omega)]; exact r1, by rw [List.getElem?_append_left (by omega)]; exact r2, r3.keep (fun z hz => ?_)⟩
      have hz' : z ∈ Bs.flatten := List.mem_flatten.2 ⟨b', List.mem_of_getElem? r2, hz⟩
      exact hk z (by rw [e2]; simp [hz']) (hdis z (by simp [hz']))
    · rw [List.getElem?_append_right q] at hy
      have hx0 : i - xs.length = 0 := by
        rcases Nat.eq_zero_or_pos (i - xs.length) with y | y
        · exact y
        · rw [List.getElem?_eq_none (by simp; omega)] at hy; cases hy
      rw [hx0] at hy
      simp only [List.getElem?_cons_zero, Option.some.injEq] at hy
      subst hy
      exact ⟨c, b, by rw [List.getElem?_append_right (by omega), h3, hx0]; rfl, by rw [List.getElem?_append_right (by omega), h4, hx0]; rfl, ho.keep (fun z hz => hk z (by simp [hz]) (hdis z (by simp [hz])))⟩
  · rw [List.flatten_append, List.mem_append, List.mem_append] at hq
    simp only [List.flatten_cons, List.flatten_nil, List.append_nil] at hq
    rcases hq with hq | hq | hq
    · exact .inl hq
    · exact .inr (by rw [e2]; simp [hq])
    · exact .inr (by simp [hq])
  · have e : (Bs ++ [b]).flatten = Bs.flatten ++ b := by simp
    rw [e, List.nodup_append]
    refine ⟨?_, hn0.2.1, fun q h1 q' h2 hqq => ?_⟩
    · unfold blk; split <;> simp
    · subst hqq
      rcases hq q h1 with r | r
      · exact hdis q h2 r
      · exact r (by rw [e2, List.append_assoc, List.mem_append]; exact .inr h2)
end Go.Proofs.Ytjmjdcfgbaepkaa
