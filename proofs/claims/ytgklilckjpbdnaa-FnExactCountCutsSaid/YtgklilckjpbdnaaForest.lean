/-
  Forests: the test, the program's and the model's.
-/
import Derived.Test.YtgklilckjpbdnaaCmpX
import Derived.Test.YtgklilckjpbdnaaForTr
namespace Go.Proofs.Ytgklilckjpbdnaa
open Go.RowKit Fld
set_option linter.unusedVariables false
set_option linter.unusedSimpArgs false
set_option maxRecDepth 100000

/-- tree k stands where it may -/
def okAt (f : List (List Int)) (k : Nat) : Bool := isTr (f.getD k []) && (decide (k = 0) || !Tr.beforeL (f.getD k []) (f.getD (k - 1) []))
def okTo (f : List (List Int)) (k : Nat) : Bool := (List.range k).all (okAt f)
theorem okTo_step (f : List (List Int)) (k : Nat) : okTo f (k + 1) = (okTo f k && okAt f k) := by
  unfold okTo; rw [List.range_succ, List.all_append]; simp
theorem okTo_no {f : List (List Int)} {k : Nat} (h : okAt f k = false) (hk : k < f.length) : okTo f f.length = false := by
  unfold okTo
  rw [List.all_eq_false]
  exact ⟨k, by rw [List.mem_range]; exact hk, by rw [h]; simp⟩
theorem okTo_at {f : List (List Int)} {k j : Nat} (h : okTo f k = true) (hj : j < k) : okAt f j = true := by
  unfold okTo at h
  exact List.all_eq_true.1 h j (by rw [List.mem_range]; exact hj)
theorem okAt_tr {f : List (List Int)} {k : Nat} {r : List Int} (h : okAt f k = true) (hr : f[k]? = some r) : isTr r = true := by
  unfold okAt at h
  rw [Bool.and_eq_true, List.getD_eq_getElem?_getD, hr] at h
  exact h.1
theorem okAt_false {f : List (List Int)} {k : Nat} {r : List Int} (hr : f[k]? = some r) (h : isTr r = false) : okAt f k = false := by
  unfold okAt
  rw [List.getD_eq_getElem?_getD, hr]
  simp [h]
theorem okAt_zero {f : List (List Int)} {r : List Int} (hr : f[0]? = some r) (h : isTr r = true) : okAt f 0 = true := by
  unfold okAt
  rw [List.getD_eq_getElem?_getD, hr]
  simp [h]
theorem okAt_succ {f : List (List Int)} {k : Nat} {p r : List Int} (hr : f[k + 1]? = some r) (hp : f[k]? = some p) (h : isTr r = true) : okAt f (k + 1) = !Tr.beforeL r p := by
  unfold okAt
  rw [List.getD_eq_getElem?_getD, List.getD_eq_getElem?_getD, hr, Nat.add_sub_cancel, hp]
  simp [h]
def isFor (f : List (List Int)) : Bool := okTo f f.length && decide (total f ≤ 8)
theorem isFor_big {f : List (List Int)} (h : 8 < total f) : isFor f = false := by
  unfold isFor; rw [decide_eq_false (by omega), Bool.and_false]
theorem isFor_no {f : List (List Int)} (h : okTo f f.length = false) : isFor f = false := by
  unfold isFor; rw [h]; rfl
theorem row_total {f : List (List Int)} {k : Nat} {r : List Int} (h : f[k]? = some r) : r.length ≤ total f := by
  have h1 := total_take h
  have h2 := total_le f (k + 1)
  omega
theorem l03Nodes_any (A : Option Addr) (n c B : Nat) (f : List (List Int)) (w : World) (hl : f.length = n) (hn : n + total f ≤ 1048576) (h : Mat w B A f) :
    Calls Try.prog 86 #[.slice A n c] w fun e w' => e = .returned (.int .i64 ((total f : Nat) : Int)) ∧ w = w' := by
  have HL := Lib.hid hl
  have HT := Lib.hid hn
  have hn' : n ≤ 1048576 := by omega
  clear hl hn
  go_enter Try.func86, Try.ntmps86
  go_wp2_with fail
  go_loop [3, 4] (fun s i => ∃ k : Nat, k ≤ n ∧ s = .int .i64 ((total (f.take k) : Nat) : Int) ∧ i = .int .i64 k) (fun _ i => n - (intOf i).toNat)
  case atStart => exact ⟨0, Nat.zero_le _, rfl, rfl⟩
  case round =>
    obtain ⟨k, hk, rfl, rfl⟩ := hrel
    by_cases hlt : k < n
    · obtain ⟨r, hr⟩ := at_lt (show k < f.length by rw [HL.out]; exact hlt)
      obtain ⟨b, o, Ak, ck, rfl, _, hc, _, _, _⟩ := h k r hr
      have G := Lib.hid (total_take hr)
      have h1 := total_le f (k + 1)
      rw [G.out] at h1
      have hb1 : total (f.take k) + r.length ≤ 1048576 := by have := HT.out; omega
      obtain ⟨s, hs⟩ : ∃ s, s = total (f.take k) := ⟨_, rfl⟩
      rw [← hs] at G hb1 ⊢
      clear hr hs h1
      go_wp2
      go_round
      case rel => exact ⟨k + 1, by omega, by rw [G.out]; go_num, by go_num⟩
      case measure => simp [intOf]; omega
    · obtain rfl : k = n := by omega
      have e : f.take k = f := List.take_of_length_le (by rw [HL.out]; exact Nat.le_refl _)
      rw [e]
      go_wp2
      go_ret
      exact ⟨rfl, rfl⟩
end Go.Proofs.Ytgklilckjpbdnaa
