/-
  The model's copy of a list.
-/
import Derived.Test.YtnnihdkhblbdgaaGrow
import Derived.Laws.AppendOwnNone
namespace Go.Proofs.Ytnnihdkhblbdgaa
open Go.RowKit Fld
set_option linter.unusedVariables false
set_option linter.unusedSimpArgs false
set_option maxRecDepth 100000

theorem Row.news {w : World} {B : Nat} {ad : Addr} {vs : List Value} (h : Row w B (some ad) vs) : ∀ j u, vs[j]? = some u → w.cell? (ad.add j) = some u := by
  intro j u hu
  obtain ⟨b, o, e, _, hc⟩ := h j u hu
  cases e
  have : (⟨b, o, none⟩ : Addr).add j = ⟨b, o + j, none⟩ := by unfold Addr.add; split <;> simp_all
  rw [this]; exact hc
theorem NewRow.own {w w' : World} {T : TypeId} {v : Value} {n : Nat} {vs : List Value} (h : w'.ownsRow w.heap.size T 1 v n vs) (hb : Below w.heap.size w w') : NewRow T n vs w (.returned v) w' := by
  rcases h.2 with ⟨rfl, rfl⟩ | ⟨g, cap, cur, rfl, _⟩
  · exact ⟨_, _, rfl, h, hb⟩
  · exact ⟨_, _, rfl, h, hb⟩
theorem l01Own_any (ad : Addr) (n c B : Nat) (xs : List Int) (w : World) (hl : xs.length = n) (hn : n ≤ 1048576) (hB : B ≤ w.heap.size) (h : Row w B (some ad) (ints xs)) :
    Calls Try.prog 106 #[.slice (some ad) n c] w (NewRow 2 n (ints xs) w) := by
  obtain ⟨i0, hi, hz0, hz1, hz2⟩ := info_parts info_i64
  have hnews := (h.alloc hB (.cells #[] 2)).news
  have hlen : (ints xs).length = n * 1 := by rw [ints_length, hl, Nat.mul_one]
  have h1 := ints_cells xs
  have hown0 := (Growing.start w 2).1
  have hbel0 := (Growing.start w 2).2
  go_enter Try.func106, Try.ntmps106
  go_wp2_with (at_builtin; refine wpList_append_own _ rfl (.tmp 3) (.tmp 4) 23 rfl w.heap.size 2 i0 _ 1 8 Try.underlying23 hi hz0 hz1 hz2 rfl (by omega) (.slice (some ⟨w.heap.size, 0, none⟩) 0 0) 0 [] rfl hown0 ad n c (ints xs) rfl hlen hnews h1 (by simp only [maxLen]; omega) (by omega) (by simp) ?_; intro v' w' hown hgrow _)
  go_ret
  rw [Nat.zero_add] at hown
  exact NewRow.own hown (hbel0.grown hgrow (by simp) (fun k hk => (hown0.lt k hk).1))
end Go.Proofs.Ytnnihdkhblbdgaa
