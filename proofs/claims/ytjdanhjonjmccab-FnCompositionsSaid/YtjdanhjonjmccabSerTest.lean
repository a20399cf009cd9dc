/-
  What the tests on series answer, the program's and the model's alike.
-/
import Derived.Test.YtjdanhjonjmccabSlices
import Derived.Test.YtjdanhjonjmccabSerl
import Derived.Test.YtjdanhjonjmccabRes1
namespace Go.Proofs.Ytjdanhjonjmccab
open Go.RowKit Fld Ser
set_option linter.unusedVariables false
set_option linter.unusedSimpArgs false
set_option maxRecDepth 100000

theorem isSeries_any (A : Option Addr) (n c B : Nat) (xs : List Int) (w : World) (hl : xs.length = n) (hn : n ≤ 9223372036854775807) (h : Row w B A (ints xs)) :
    Calls Try.prog 112 #[.slice A n c] w fun e w' => e = .returned (.bool (isSer xs)) ∧ w = w' := by
  by_cases h0 : 1 ≤ n
  · by_cases h1 : n ≤ 16
    · have H := Lib.hid (isSer_num (xs := xs) (by omega) (by omega))
      have HL := Lib.hid hl
      clear hl
      go_enter Try.func112, Try.ntmps112
      go_wp2_with (go_at_call 102; refine (areNumbers_any _ _ _ B xs _ HL.out hn h).mono ?_; rintro e w' ⟨rfl, rfl⟩)
      go_ret
      exact ⟨ret_bool H.out.symm, rfl⟩
    · have H := Lib.hid (isSer_len (xs := xs) (.inr (by omega)))
      clear hl
      go_enter Try.func112, Try.ntmps112
      go_wp2
      go_ret
      exact ⟨ret_bool H.out.symm, rfl⟩
  · have H := Lib.hid (isSer_len (xs := xs) (.inl (by omega)))
    clear hl
    go_enter Try.func112, Try.ntmps112
    go_wp2
    go_ret
    exact ⟨ret_bool H.out.symm, rfl⟩
theorem l02Is_any (A : Option Addr) (n c B : Nat) (xs : List Int) (w : World) (hl : xs.length = n) (hn : n ≤ 9223372036854775807) (h : Row w B A (ints xs)) :
    Calls Try.prog 75 #[.slice A n c] w fun e w' => e = .returned (.bool (isSer xs)) ∧ w = w' := by
  by_cases hb : 1 ≤ n ∧ n ≤ 16
  · have H := Lib.hid (isSer_num (xs := xs) (by omega) (by omega))
    have T := isIn_yes (n := n) (l := 1) (h := 16) (by omega) (by omega)
    have HL := Lib.hid hl
    clear hl hb
    go_enter Try.func75, Try.ntmps75
    go_wp2_with (first | (go_at_call 121; refine (l01In_any _ _ _ _).mono ?_; rintro e w' ⟨rfl, rfl⟩) | (go_at_call 98; refine (l01Numbers_any _ _ _ B xs _ HL.out hn h).mono ?_; rintro e w' ⟨rfl, rfl⟩))
    go_ret
    exact ⟨ret_bool H.out.symm, rfl⟩
  · have H := Lib.hid (isSer_len (xs := xs) (by omega))
    have T := isIn_no (n := n) (l := 1) (h := 16) (by omega)
    clear hl hb
    go_enter Try.func75, Try.ntmps75
    go_wp2_with (first | (go_at_call 121; refine (l01In_any _ _ _ _).mono ?_; rintro e w' ⟨rfl, rfl⟩) | (go_at_call 98; fail))
    go_ret
    exact ⟨ret_bool H.out.symm, rfl⟩
theorem serCode_no1 {xs ys : List Int} (h : isSer xs = false) : serCode xs ys = 1 := if_neg (by unfold areSer; rw [h]; simp)
theorem serCode_no2 {xs ys : List Int} (h : isSer ys = false) : serCode xs ys = 1 := if_neg (by unfold areSer; rw [h]; simp)
theorem serCode_no3 {xs ys : List Int} (h : xs.length ≠ ys.length) : serCode xs ys = 1 := if_neg (by unfold areSer; rw [decide_eq_false h]; simp)
theorem serCode_yes {xs ys : List Int} (hx : isSer xs = true) (hy : isSer ys = true) (h : xs.length = ys.length) : serCode xs ys = 0 := if_pos (areSer_iff.2 ⟨hx, hy, h⟩)
theorem l02Code_any (A A' : Option Addr) (n n' c c' B B' : Nat) (xs ys : List Int) (w : World) (hl : xs.length = n) (hl' : ys.length = n') (hn : n ≤ 9223372036854775807) (hn' : n' ≤ 9223372036854775807) (h : Row w B A (ints xs)) (h' : Row w B' A' (ints ys)) :
    Calls Try.prog 65 #[.slice A n c, .slice A' n' c'] w fun e w' => e = .returned (.int .i64 (serCode xs ys)) ∧ w = w' := by
  have HL := Lib.hid hl
  have HL' := Lib.hid hl'
  cases hx : isSer xs
  · have H := Lib.hid (serCode_no1 (ys := ys) hx)
    clear hl hl'
    go_enter Try.func65, Try.ntmps65
    go_wp2_with fail
    refine (l02Is_any _ _ _ B xs _ HL.out hn h).mono ?_
    rintro e w' ⟨rfl, rfl⟩
    go_wp2
    go_ret
    exact ⟨ret_i64 H.out.symm, rfl⟩
  · cases hy : isSer ys
    · have H := Lib.hid (serCode_no2 (xs := xs) hy)
      clear hl hl'
      go_enter Try.func65, Try.ntmps65
      go_wp2_with fail
      refine (l02Is_any _ _ _ B xs _ HL.out hn h).mono ?_
      rintro e w' ⟨rfl, rfl⟩
      go_wp2_with fail
      refine (l02Is_any _ _ _ B' ys _ HL'.out hn' h').mono ?_
      rintro e w' ⟨rfl, rfl⟩
      go_wp2
      go_ret
      exact ⟨ret_i64 H.out.symm, rfl⟩
    · by_cases hnn : n = n'
      · have H := Lib.hid (serCode_yes hx hy (by omega))
        have t : ((n : Int) != n') = false := bne_f (by omega)
        clear hl hl' hnn
        go_enter Try.func65, Try.ntmps65
        go_wp2_with fail
        refine (l02Is_any _ _ _ B xs _ HL.out hn h).mono ?_
        rintro e w' ⟨rfl, rfl⟩
        go_wp2_with fail
        refine (l02Is_any _ _ _ B' ys _ HL'.out hn' h').mono ?_
        rintro e w' ⟨rfl, rfl⟩
        go_wp2
        go_ret
        exact ⟨ret_i64 H.out.symm, rfl⟩
      · have H := Lib.hid (serCode_no3 (xs := xs) (ys := ys) (by omega))
        have t : ((n : Int) != n') = true := bne_t (by omega)
        clear hl hl' hnn
        go_enter Try.func65, Try.ntmps65
        go_wp2_with fail
        refine (l02Is_any _ _ _ B xs _ HL.out hn h).mono ?_
        rintro e w' ⟨rfl, rfl⟩
        go_wp2_with fail
        refine (l02Is_any _ _ _ B' ys _ HL'.out hn' h').mono ?_
        rintro e w' ⟨rfl, rfl⟩
        go_wp2
        go_ret
        exact ⟨ret_i64 H.out.symm, rfl⟩
/-- lists that stand side by side in memory -/
def Lists (w : World) (B : Nat) (A : Option Addr) (m : List (List Int)) : Prop :=
  ∀ k r, m[k]? = some r → ∃ b o Ak ck, A = some ⟨b, o, none⟩ ∧ w.cell? ⟨b, o + k, none⟩ = some (.slice Ak r.length ck) ∧ Row w B Ak (ints r)
def serM (m : List (List Int)) : Bool := m.all fun r => isSer r && decide (r.length = (m.getD 0 []).length)
theorem serM_no {m : List (List Int)} {k : Nat} {r : List Int} (h : m[k]? = some r) (hr : isSer r = false ∨ r.length ≠ (m.getD 0 []).length) : serM m = false := by
  unfold serM
  rw [List.all_eq_false]
  refine ⟨r, List.mem_of_getElem? h, ?_⟩
  rcases hr with hr | hr
  · rw [hr]; simp
  · rw [decide_eq_false hr]; simp
theorem serM_one (xs : List Int) : serM [xs] = isSer xs := by simp [serM]
theorem serM_two (xs ys : List Int) : serM [xs, ys] = areSer xs ys := by
  unfold serM areSer
  simp
  by_cases e : xs.length = ys.length
  · simp [e]
  · have e' : ¬ ys.length = xs.length := fun h => e h.symm
    simp [e, e']
set_option maxHeartbeats 400000 in
theorem areSeries_any (A : Option Addr) (n c B : Nat) (m : List (List Int)) (w : World) (hl : m.length = n) (hn : n ≤ 1048576) (hq : ∀ r ∈ m, r.length ≤ 1048576) (h : Lists w B A m) :
    Calls Try.prog 61 #[.slice A n c] w fun e w' => e = .returned (.bool (serM m)) ∧ w = w' := by
  have HL := Lib.hid hl
  have HQ := Lib.hid hq
  clear hl hq
  go_enter Try.func61, Try.ntmps61
  go_wp2_with fail
  go_loop [7] (fun i => ∃ k : Nat, k ≤ n ∧ i = .int .i64 k ∧ Hid ((m.take k).all (fun r => isSer r && decide (r.length = (m.getD 0 []).length)) = true)) (fun i => n - (intOf i).toNat)
  case atStart => exact ⟨0, Nat.zero_le _, rfl, rfl⟩
  case round =>
    obtain ⟨k, hk, rfl, HT⟩ := hrel
    by_cases hlt : k < n
    · obtain ⟨r, hr⟩ := at_lt (show k < m.length by rw [HL.out]; exact hlt)
      obtain ⟨r0, hr0⟩ := at_lt (show 0 < m.length by rw [HL.out]; omega)
      obtain ⟨b, o, Ak, ck, rfl, hc, hrow⟩ := h k r hr
      obtain ⟨b', o', A0, c0, e0, hc0, _⟩ := h 0 r0 hr0
      injection e0 with e0
      injection e0 with e1 e2 _
      subst e1 e2
      rw [Nat.add_zero] at hc0
      have hrl := HQ.out r (List.mem_of_getElem? hr)
      have hg : (m.getD 0 []) = r0 := by rw [List.getD_eq_getElem?_getD, hr0]; rfl
      cases hs : isSer r
      · have G := Lib.hid (serM_no hr (.inl hs))
        clear hr hr0 HT hg
        go_wp2_with (go_at_call 112; refine (isSeries_any _ _ _ B r _ rfl (by omega) hrow).mono ?_; rintro e w' ⟨rfl, rfl⟩)
        go_ret
        exact ⟨ret_bool G.out.symm, rfl⟩
      · by_cases hlen : r.length = r0.length
        · have G : Hid ((m.take (k + 1)).all (fun r => isSer r && decide (r.length = (m.getD 0 []).length)) = true) := by
            unfold Hid
            rw [List.take_add_one, hr, List.all_append, HT.out, hg]
            simp [hs, hlen]
          have t : ((r.length : Int) != r0.length) = false := bne_f (by omega)
          clear hr hr0 HT hg hlen
          go_wp2_with (go_at_call 112; refine (isSeries_any _ _ _ B r _ rfl (by omega) hrow).mono ?_; rintro e w' ⟨rfl, rfl⟩)
          go_round
          case rel => exact ⟨k + 1, by omega, by go_num, G⟩
          case measure => simp [intOf]; omega
        · have G := Lib.hid (serM_no hr (.inr (by rw [hg]; exact hlen)))
          have t : ((r.length : Int) != r0.length) = true := bne_t (by omega)
          clear hr hr0 HT hg hlen
          go_wp2_with (go_at_call 112; refine (isSeries_any _ _ _ B r _ rfl (by omega) hrow).mono ?_; rintro e w' ⟨rfl, rfl⟩)
          go_ret
          exact ⟨ret_bool G.out.symm, rfl⟩
    · have G : Hid (serM m = true) := by
        have := HT.out
        rw [List.take_of_length_le (by rw [HL.out]; omega)] at this
        exact this
      clear HT
      go_wp2
      go_ret
      exact ⟨ret_bool G.out.symm, rfl⟩
/-- one list, two lists, side by side in a block that was just made -/
theorem Lists.one {w : World} {A : Option Addr} {n c B : Nat} {xs : List Int} (T : TypeId) (hl : xs.length = n) (hB : B ≤ w.heap.size) (h : Row w B A (ints xs)) : Lists (w.alloc (.cells #[.slice A n c] T)) B (some ⟨w.heap.size, 0, none⟩) [xs] := by
  intro k r hr
  match k, hr with
  | 0, hr =>
    obtain rfl : xs = r := by simpa using hr
    exact ⟨_, 0, A, c, rfl, by rw [World.cell?_alloc_at (hn := by simp)]; rw [hl]; rfl, h.alloc hB _⟩
  | k+1, hr => simp at hr
theorem Lists.two {w : World} {A A' : Option Addr} {n n' c c' B : Nat} {xs ys : List Int} (T : TypeId) (hl : xs.length = n) (hl' : ys.length = n') (hB : B ≤ w.heap.size) (h : Row w B A (ints xs)) (h' : Row w B A' (ints ys)) : Lists (w.alloc (.cells #[.slice A n c, .slice A' n' c'] T)) B (some ⟨w.heap.size, 0, none⟩) [xs, ys] := by
  intro k r hr
  match k, hr with
  | 0, hr =>
    obtain rfl : xs = r := by simpa using hr
    exact ⟨_, 0, A, c, rfl, by rw [World.cell?_alloc_at (hn := by simp)]; rw [hl]; rfl, h.alloc hB _⟩
  | 1, hr =>
    obtain rfl : ys = r := by simpa using hr
    exact ⟨_, 0, A', c', rfl, by rw [World.cell?_alloc_at (hn := by simp)]; rw [hl']; rfl, h'.alloc hB _⟩
  | k+2, hr => simp at hr
end Go.Proofs.Ytjdanhjonjmccab
