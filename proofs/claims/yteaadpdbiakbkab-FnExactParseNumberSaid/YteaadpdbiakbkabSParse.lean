/-
  Reading a fraction: the model's side.
-/
import Derived.Test.YteaadpdbiakbkabParse
namespace Go.Proofs.Yteaadpdbiakbkab
open Go.RowKit Fld
set_option linter.unusedVariables false
set_option linter.unusedSimpArgs false

theorem pieces_before {s : ByteArray} {c : Int} : ∀ m, (∀ k, (h : k < s.size) → k < m → (s[k].toNat : Int) ≠ c) → m ≤ s.size → piecesTo s c m = ([], 0)
  | 0, _, _ => rfl
  | m+1, h, hm => by
    rw [pieces_no (by omega) (h m (by omega) (by omega))]
    exact pieces_before m (fun k hk hlt => h k hk (by omega)) (by omega)
theorem pieces_after {s : ByteArray} {c : Int} {o : Nat} (ho : o < s.size) (hb : ∀ k, (h : k < s.size) → k < o → (s[k].toNat : Int) ≠ c) (hc : (s[o].toNat : Int) = c) : ∀ m, o + 1 ≤ m → m ≤ s.size →
    piecesTo s c m = ([(0, o)], o + 1) ∨ (∃ x xs, (piecesTo s c m).1 = (0, o) :: x :: xs) ∧ ∃ k, ∃ h : k < s.size, o < k ∧ (s[k].toNat : Int) = c := by
  intro m h1
  induction m with
  | zero => omega
  | succ m ih =>
    intro h2
    by_cases he : m = o
    · subst he
      rw [pieces_yes ho hc, pieces_before m hb (by omega)]
      exact .inl rfl
    · have hm := ih (by omega) (by omega)
      by_cases hx : (s[m].toNat : Int) = c
      · rw [pieces_yes (by omega) hx]
        refine .inr ⟨?_, m, by omega, by omega, hx⟩
        rcases hm with hm | ⟨⟨x, xs, hm⟩, _⟩
        · rw [hm]; exact ⟨_, _, rfl⟩
        · exact ⟨x, xs ++ [((piecesTo s c m).2, m)], by rw [hm]; rfl⟩
      · rw [pieces_no (by omega) hx]; exact hm

theorem parseB_val {neg : Bool} {p q : Int} (h : ¬ (p < 0 ∨ q < 1 ∨ (neg = true ∧ p = 0))) (p1 : p ≤ 999999999) (q1 : q ≤ 999999999) :
    parseB neg p q = if q % 10007 = 0 then (0, 5) else ((if neg = true then -p else p) % 10007 * inv (q % 10007) % 10007, 0) := by
  unfold parseB
  rw [if_neg h]
  unfold fracA
  rw [if_pos ⟨whole_yes (by split <;> omega) (by split <;> omega), whole_yes (by omega) (by omega)⟩]
theorem parseB_valT {p q : Int} (h : ¬ (p < 0 ∨ q < 1 ∨ p = 0)) (p1 : p ≤ 999999999) (q1 : q ≤ 999999999) :
    parseB true p q = if q % 10007 = 0 then (0, 5) else (-p % 10007 * inv (q % 10007) % 10007, 0) := by
  rw [parseB_val (by simp; omega) p1 q1]; rfl
theorem parseB_valF {p q : Int} (h : ¬ (p < 0 ∨ q < 1)) (p1 : p ≤ 999999999) (q1 : q ≤ 999999999) :
    parseB false p q = if q % 10007 = 0 then (0, 5) else (p % 10007 * inv (q % 10007) % 10007, 0) := by
  rw [parseB_val (by simp; omega) p1 q1]; rfl
set_option maxHeartbeats 2000000 in
theorem sparse_a1 (s T B : ByteArray) (n : Nat) (vs : List Value) (p : Int) (w : World) (sD : T.size ≤ 1048576) (sB : B.size ≤ 1048576) (hn : vs.length = n) (h0 : vs[0]? = some (.string T))
    (p0 : -1 ≤ p) (p1 : p ≤ 999999999) (q0 : -1 ≤ (1 : Int)) (q1 : (1 : Int) ≤ 999999999) (hp : decA T.data.toList = p) (hT : T.size = 0) (h1 : n = 1)
    (hsp : ∀ w, Calls Try.prog 45 #[.string s, .int .u8 47] w (NewRow 9 n vs w)) :
    Calls Try.prog 16 #[.string s] w fun e w' => e = .returned (.tuple #[.int .i64 (parseB false p 1).1, .int .i64 (parseB false p 1).2]) ∧ Below w.heap.size w w' := by
  have tq0 : True := trivial
  subst h1
  by_cases hp0 : p < 0
  · have HB := Lib.hid (parseB_bad (neg := false) (p := p) (q := 1) (.inl hp0))
    go_enter Try.func16, Try.ntmps16
    go_wp2_with (first | (go_at_call 45; refine (hsp _).mono ?_; rintro e w' ⟨A, c, rfl, hown, bel⟩; obtain ⟨g, cap, hv, hg, hgl⟩ := hown.form (by omega); cases hv; have hc0 := (hown.cellAt 0 (by omega)).trans h0; have hf0 := hown.frozenAt 0) | (go_at_call 46; refine (l01Value_any _ _ (by omega)).mono ?_; rintro e w' ⟨rfl, rfl⟩; first | rw [hp] | rw [hq]) | (go_at_call 47; refine (l01Frac_any _ _ _).mono ?_; rintro e w' ⟨rfl, rfl⟩))
    all_goals
      go_ret2
      first | exact ⟨ret_pair HB.out, bel⟩ | exact ⟨ret_pair (HB.out.trans (by rw [show p = 0 by omega]; simp)), bel⟩ | exact ⟨ret_pair HB.out, below_set bel hg _⟩
  · have HV := parseB_valF (p := p) (q := 1) (by omega) p1 q1
    have HB := Lib.hid (HV.trans (if_neg (by decide)))
    clear HV tq0
    go_enter Try.func16, Try.ntmps16
    go_wp2_with (first | (go_at_call 45; refine (hsp _).mono ?_; rintro e w' ⟨A, c, rfl, hown, bel⟩; obtain ⟨g, cap, hv, hg, hgl⟩ := hown.form (by omega); cases hv; have hc0 := (hown.cellAt 0 (by omega)).trans h0; have hf0 := hown.frozenAt 0) | (go_at_call 46; refine (l01Value_any _ _ (by omega)).mono ?_; rintro e w' ⟨rfl, rfl⟩; first | rw [hp] | rw [hq]) | (go_at_call 47; refine (l01Frac_any _ _ _).mono ?_; rintro e w' ⟨rfl, rfl⟩))
    all_goals
      go_ret2
      first | exact ⟨ret_pair HB.out, bel⟩ | exact ⟨ret_pair (HB.out.trans (by rw [show p = 0 by omega]; simp)), bel⟩ | exact ⟨ret_pair HB.out, below_set bel hg _⟩
set_option maxHeartbeats 2000000 in
theorem sparse_a2 (s T B : ByteArray) (n : Nat) (vs : List Value) (p q : Int) (w : World) (sD : T.size ≤ 1048576) (sB : B.size ≤ 1048576) (hn : vs.length = n) (h0 : vs[0]? = some (.string T))
    (p0 : -1 ≤ p) (p1 : p ≤ 999999999) (q0 : -1 ≤ q) (q1 : (q : Int) ≤ 999999999) (hp : decA T.data.toList = p) (hT : T.size = 0) (h2 : n = 2) (hv1 : vs[1]? = some (.string B)) (hq : decA B.data.toList = q)
    (hsp : ∀ w, Calls Try.prog 45 #[.string s, .int .u8 47] w (NewRow 9 n vs w)) :
    Calls Try.prog 16 #[.string s] w fun e w' => e = .returned (.tuple #[.int .i64 (parseB false p q).1, .int .i64 (parseB false p q).2]) ∧ Below w.heap.size w w' := by
  have tq0 : q.tmod 10007 = 0 ↔ q % 10007 = 0 := by rw [Int.tmod_eq_emod]; split <;> omega
  subst h2
  by_cases hp0 : p < 0
  · have HB := Lib.hid (parseB_bad (neg := false) (p := p) (q := q) (.inl hp0))
    go_enter Try.func16, Try.ntmps16
    go_wp2_with (first | (go_at_call 45; refine (hsp _).mono ?_; rintro e w' ⟨A, c, rfl, hown, bel⟩; obtain ⟨g, cap, hv, hg, hgl⟩ := hown.form (by omega); cases hv; have hc0 := (hown.cellAt 0 (by omega)).trans h0; have hf0 := hown.frozenAt 0; have hc1 := (hown.cellAt 1 (by omega)).trans hv1; have hs1 := fun v => ((hown.stored 0 v).1.cellAt 1 (by omega)).trans ((List.getElem?_set_ne (by omega)).trans hv1)) | (go_at_call 46; refine (l01Value_any _ _ (by omega)).mono ?_; rintro e w' ⟨rfl, rfl⟩; first | rw [hp] | rw [hq]) | (go_at_call 47; refine (l01Frac_any _ _ _).mono ?_; rintro e w' ⟨rfl, rfl⟩))
    all_goals
      go_ret2
      first | exact ⟨ret_pair HB.out, bel⟩ | exact ⟨ret_pair (HB.out.trans (by rw [show p = 0 by omega]; simp)), bel⟩ | exact ⟨ret_pair HB.out, below_set bel hg _⟩
  · by_cases hq0 : q < 1
    · have HB := Lib.hid (parseB_bad (neg := false) (p := p) (q := q) (.inr (.inl hq0)))
      go_enter Try.func16, Try.ntmps16
      go_wp2_with (first | (go_at_call 45; refine (hsp _).mono ?_; rintro e w' ⟨A, c, rfl, hown, bel⟩; obtain ⟨g, cap, hv, hg, hgl⟩ := hown.form (by omega); cases hv; have hc0 := (hown.cellAt 0 (by omega)).trans h0; have hf0 := hown.frozenAt 0; have hc1 := (hown.cellAt 1 (by omega)).trans hv1; have hs1 := fun v => ((hown.stored 0 v).1.cellAt 1 (by omega)).trans ((List.getElem?_set_ne (by omega)).trans hv1)) | (go_at_call 46; refine (l01Value_any _ _ (by omega)).mono ?_; rintro e w' ⟨rfl, rfl⟩; first | rw [hp] | rw [hq]) | (go_at_call 47; refine (l01Frac_any _ _ _).mono ?_; rintro e w' ⟨rfl, rfl⟩))
      all_goals
        go_ret2
        first | exact ⟨ret_pair HB.out, bel⟩ | exact ⟨ret_pair (HB.out.trans (by rw [show p = 0 by omega]; simp)), bel⟩ | exact ⟨ret_pair HB.out, below_set bel hg _⟩
    · have HV := parseB_valF (p := p) (q := q) (by omega) p1 q1
      by_cases hz : q % 10007 = 0
      · have HB := Lib.hid (HV.trans (if_pos hz))
        have tz := beq_t (tq0.2 hz)
        have tz2 := beq_t hz
        clear HV tq0 hz
        go_enter Try.func16, Try.ntmps16
        go_wp2_with (first | (go_at_call 45; refine (hsp _).mono ?_; rintro e w' ⟨A, c, rfl, hown, bel⟩; obtain ⟨g, cap, hv, hg, hgl⟩ := hown.form (by omega); cases hv; have hc0 := (hown.cellAt 0 (by omega)).trans h0; have hf0 := hown.frozenAt 0; have hc1 := (hown.cellAt 1 (by omega)).trans hv1; have hs1 := fun v => ((hown.stored 0 v).1.cellAt 1 (by omega)).trans ((List.getElem?_set_ne (by omega)).trans hv1)) | (go_at_call 46; refine (l01Value_any _ _ (by omega)).mono ?_; rintro e w' ⟨rfl, rfl⟩; first | rw [hp] | rw [hq]) | (go_at_call 47; refine (l01Frac_any _ _ _).mono ?_; rintro e w' ⟨rfl, rfl⟩))
        all_goals
          go_ret2
          first | exact ⟨ret_pair HB.out, bel⟩ | exact ⟨ret_pair (HB.out.trans (by rw [show p = 0 by omega]; simp)), bel⟩ | exact ⟨ret_pair HB.out, below_set bel hg _⟩
      · have HB := Lib.hid (HV.trans (if_neg hz))
        have tz := beq_f (fun g => hz (tq0.1 g))
        have tz2 := beq_f hz
        clear HV tq0 hz
        go_enter Try.func16, Try.ntmps16
        go_wp2_with (first | (go_at_call 45; refine (hsp _).mono ?_; rintro e w' ⟨A, c, rfl, hown, bel⟩; obtain ⟨g, cap, hv, hg, hgl⟩ := hown.form (by omega); cases hv; have hc0 := (hown.cellAt 0 (by omega)).trans h0; have hf0 := hown.frozenAt 0; have hc1 := (hown.cellAt 1 (by omega)).trans hv1; have hs1 := fun v => ((hown.stored 0 v).1.cellAt 1 (by omega)).trans ((List.getElem?_set_ne (by omega)).trans hv1)) | (go_at_call 46; refine (l01Value_any _ _ (by omega)).mono ?_; rintro e w' ⟨rfl, rfl⟩; first | rw [hp] | rw [hq]) | (go_at_call 47; refine (l01Frac_any _ _ _).mono ?_; rintro e w' ⟨rfl, rfl⟩))
        all_goals
          go_ret2
          first | exact ⟨ret_pair HB.out, bel⟩ | exact ⟨ret_pair (HB.out.trans (by rw [show p = 0 by omega]; simp)), bel⟩ | exact ⟨ret_pair HB.out, below_set bel hg _⟩
set_option maxHeartbeats 2000000 in
theorem sparse_a3 (s T B : ByteArray) (n : Nat) (vs : List Value) (p q : Int) (w : World) (sD : T.size ≤ 1048576) (sB : B.size ≤ 1048576) (hn : vs.length = n) (h0 : vs[0]? = some (.string T))
    (p0 : -1 ≤ p) (p1 : p ≤ 999999999) (q0 : -1 ≤ q) (q1 : (q : Int) ≤ 999999999) (hp : decA T.data.toList = p) (hT : T.size = 0) (h3 : 3 ≤ n) (hq : q < 1)
    (hsp : ∀ w, Calls Try.prog 45 #[.string s, .int .u8 47] w (NewRow 9 n vs w)) :
    Calls Try.prog 16 #[.string s] w fun e w' => e = .returned (.tuple #[.int .i64 (parseB false p q).1, .int .i64 (parseB false p q).2]) ∧ Below w.heap.size w w' := by
  have HB := Lib.hid (parseB_bad (neg := false) (p := p) (q := q) (.inr (.inl hq)))
  have tn := beq_f (show ¬ (n : Int) = 2 by omega)
  go_enter Try.func16, Try.ntmps16
  go_wp2_with (first | (go_at_call 45; refine (hsp _).mono ?_; rintro e w' ⟨A, c, rfl, hown, bel⟩; obtain ⟨g, cap, hv, hg, hgl⟩ := hown.form (by omega); cases hv; have hc0 := (hown.cellAt 0 (by omega)).trans h0; have hf0 := hown.frozenAt 0) | (go_at_call 46; refine (l01Value_any _ _ (by omega)).mono ?_; rintro e w' ⟨rfl, rfl⟩; first | rw [hp] | rw [hq]) | (go_at_call 47; refine (l01Frac_any _ _ _).mono ?_; rintro e w' ⟨rfl, rfl⟩))
  all_goals
    go_ret2
    first | exact ⟨ret_pair HB.out, bel⟩ | exact ⟨ret_pair (HB.out.trans (by rw [show p = 0 by omega]; simp)), bel⟩ | exact ⟨ret_pair HB.out, below_set bel hg _⟩
set_option maxHeartbeats 2000000 in
theorem sparse_b1 (s T B : ByteArray) (n : Nat) (vs : List Value) (p : Int) (w : World) (sD : T.size ≤ 1048576) (sB : B.size ≤ 1048576) (hn : vs.length = n) (h0 : vs[0]? = some (.string T))
    (p0 : -1 ≤ p) (p1 : p ≤ 999999999) (q0 : -1 ≤ (1 : Int)) (q1 : (1 : Int) ≤ 999999999) (hp : decA T.data.toList = p) (ht : 0 < T.size) (hc : (T[0].toNat : Int) ≠ 45) (h1 : n = 1)
    (hsp : ∀ w, Calls Try.prog 45 #[.string s, .int .u8 47] w (NewRow 9 n vs w)) :
    Calls Try.prog 16 #[.string s] w fun e w' => e = .returned (.tuple #[.int .i64 (parseB false p 1).1, .int .i64 (parseB false p 1).2]) ∧ Below w.heap.size w w' := by
  have tq0 : True := trivial
  subst h1
  have tc := beq_f hc
  by_cases hp0 : p < 0
  · have HB := Lib.hid (parseB_bad (neg := false) (p := p) (q := 1) (.inl hp0))
    go_enter Try.func16, Try.ntmps16
    go_wp2_with (first | (go_at_call 45; refine (hsp _).mono ?_; rintro e w' ⟨A, c, rfl, hown, bel⟩; obtain ⟨g, cap, hv, hg, hgl⟩ := hown.form (by omega); cases hv; have hc0 := (hown.cellAt 0 (by omega)).trans h0; have hf0 := hown.frozenAt 0) | (go_at_call 46; refine (l01Value_any _ _ (by omega)).mono ?_; rintro e w' ⟨rfl, rfl⟩; first | rw [hp] | rw [hq]) | (go_at_call 47; refine (l01Frac_any _ _ _).mono ?_; rintro e w' ⟨rfl, rfl⟩))
    all_goals
      go_ret2
      first | exact ⟨ret_pair HB.out, bel⟩ | exact ⟨ret_pair (HB.out.trans (by rw [show p = 0 by omega]; simp)), bel⟩ | exact ⟨ret_pair HB.out, below_set bel hg _⟩
  · have HV := parseB_valF (p := p) (q := 1) (by omega) p1 q1
    have HB := Lib.hid (HV.trans (if_neg (by decide)))
    clear HV tq0
    go_enter Try.func16, Try.ntmps16
    go_wp2_with (first | (go_at_call 45; refine (hsp _).mono ?_; rintro e w' ⟨A, c, rfl, hown, bel⟩; obtain ⟨g, cap, hv, hg, hgl⟩ := hown.form (by omega); cases hv; have hc0 := (hown.cellAt 0 (by omega)).trans h0; have hf0 := hown.frozenAt 0) | (go_at_call 46; refine (l01Value_any _ _ (by omega)).mono ?_; rintro e w' ⟨rfl, rfl⟩; first | rw [hp] | rw [hq]) | (go_at_call 47; refine (l01Frac_any _ _ _).mono ?_; rintro e w' ⟨rfl, rfl⟩))
    all_goals
      go_ret2
      first | exact ⟨ret_pair HB.out, bel⟩ | exact ⟨ret_pair (HB.out.trans (by rw [show p = 0 by omega]; simp)), bel⟩ | exact ⟨ret_pair HB.out, below_set bel hg _⟩
set_option maxHeartbeats 2000000 in
theorem sparse_b2 (s T B : ByteArray) (n : Nat) (vs : List Value) (p q : Int) (w : World) (sD : T.size ≤ 1048576) (sB : B.size ≤ 1048576) (hn : vs.length = n) (h0 : vs[0]? = some (.string T))
    (p0 : -1 ≤ p) (p1 : p ≤ 999999999) (q0 : -1 ≤ q) (q1 : (q : Int) ≤ 999999999) (hp : decA T.data.toList = p) (ht : 0 < T.size) (hc : (T[0].toNat : Int) ≠ 45) (h2 : n = 2) (hv1 : vs[1]? = some (.string B)) (hq : decA B.data.toList = q)
    (hsp : ∀ w, Calls Try.prog 45 #[.string s, .int .u8 47] w (NewRow 9 n vs w)) :
    Calls Try.prog 16 #[.string s] w fun e w' => e = .returned (.tuple #[.int .i64 (parseB false p q).1, .int .i64 (parseB false p q).2]) ∧ Below w.heap.size w w' := by
  have tq0 : q.tmod 10007 = 0 ↔ q % 10007 = 0 := by rw [Int.tmod_eq_emod]; split <;> omega
  subst h2
  have tc := beq_f hc
  by_cases hp0 : p < 0
  · have HB := Lib.hid (parseB_bad (neg := false) (p := p) (q := q) (.inl hp0))
    go_enter Try.func16, Try.ntmps16
    go_wp2_with (first | (go_at_call 45; refine (hsp _).mono ?_; rintro e w' ⟨A, c, rfl, hown, bel⟩; obtain ⟨g, cap, hv, hg, hgl⟩ := hown.form (by omega); cases hv; have hc0 := (hown.cellAt 0 (by omega)).trans h0; have hf0 := hown.frozenAt 0; have hc1 := (hown.cellAt 1 (by omega)).trans hv1; have hs1 := fun v => ((hown.stored 0 v).1.cellAt 1 (by omega)).trans ((List.getElem?_set_ne (by omega)).trans hv1)) | (go_at_call 46; refine (l01Value_any _ _ (by omega)).mono ?_; rintro e w' ⟨rfl, rfl⟩; first | rw [hp] | rw [hq]) | (go_at_call 47; refine (l01Frac_any _ _ _).mono ?_; rintro e w' ⟨rfl, rfl⟩))
    all_goals
      go_ret2
      first | exact ⟨ret_pair HB.out, bel⟩ | exact ⟨ret_pair (HB.out.trans (by rw [show p = 0 by omega]; simp)), bel⟩ | exact ⟨ret_pair HB.out, below_set bel hg _⟩
  · by_cases hq0 : q < 1
    · have HB := Lib.hid (parseB_bad (neg := false) (p := p) (q := q) (.inr (.inl hq0)))
      go_enter Try.func16, Try.ntmps16
      go_wp2_with (first | (go_at_call 45; refine (hsp _).mono ?_; rintro e w' ⟨A, c, rfl, hown, bel⟩; obtain ⟨g, cap, hv, hg, hgl⟩ := hown.form (by omega); cases hv; have hc0 := (hown.cellAt 0 (by omega)).trans h0; have hf0 := hown.frozenAt 0; have hc1 := (hown.cellAt 1 (by omega)).trans hv1; have hs1 := fun v => ((hown.stored 0 v).1.cellAt 1 (by omega)).trans ((List.getElem?_set_ne (by omega)).trans hv1)) | (go_at_call 46; refine (l01Value_any _ _ (by omega)).mono ?_; rintro e w' ⟨rfl, rfl⟩; first | rw [hp] | rw [hq]) | (go_at_call 47; refine (l01Frac_any _ _ _).mono ?_; rintro e w' ⟨rfl, rfl⟩))
      all_goals
        go_ret2
        first | exact ⟨ret_pair HB.out, bel⟩ | exact ⟨ret_pair (HB.out.trans (by rw [show p = 0 by omega]; simp)), bel⟩ | exact ⟨ret_pair HB.out, below_set bel hg _⟩
    · have HV := parseB_valF (p := p) (q := q) (by omega) p1 q1
      by_cases hz : q % 10007 = 0
      · have HB := Lib.hid (HV.trans (if_pos hz))
        have tz := beq_t (tq0.2 hz)
        have tz2 := beq_t hz
        clear HV tq0 hz
        go_enter Try.func16, Try.ntmps16
        go_wp2_with (first | (go_at_call 45; refine (hsp _).mono ?_; rintro e w' ⟨A, c, rfl, hown, bel⟩; obtain ⟨g, cap, hv, hg, hgl⟩ := hown.form (by omega); cases hv; have hc0 := (hown.cellAt 0 (by omega)).trans h0; have hf0 := hown.frozenAt 0; have hc1 := (hown.cellAt 1 (by omega)).trans hv1; have hs1 := fun v => ((hown.stored 0 v).1.cellAt 1 (by omega)).trans ((List.getElem?_set_ne (by omega)).trans hv1)) | (go_at_call 46; refine (l01Value_any _ _ (by omega)).mono ?_; rintro e w' ⟨rfl, rfl⟩; first | rw [hp] | rw [hq]) | (go_at_call 47; refine (l01Frac_any _ _ _).mono ?_; rintro e w' ⟨rfl, rfl⟩))
        all_goals
          go_ret2
          first | exact ⟨ret_pair HB.out, bel⟩ | exact ⟨ret_pair (HB.out.trans (by rw [show p = 0 by omega]; simp)), bel⟩ | exact ⟨ret_pair HB.out, below_set bel hg _⟩
      · have HB := Lib.hid (HV.trans (if_neg hz))
        have tz := beq_f (fun g => hz (tq0.1 g))
        have tz2 := beq_f hz
        clear HV tq0 hz
        go_enter Try.func16, Try.ntmps16
        go_wp2_with (first | (go_at_call 45; refine (hsp _).mono ?_; rintro e w' ⟨A, c, rfl, hown, bel⟩; obtain ⟨g, cap, hv, hg, hgl⟩ := hown.form (by omega); cases hv; have hc0 := (hown.cellAt 0 (by omega)).trans h0; have hf0 := hown.frozenAt 0; have hc1 := (hown.cellAt 1 (by omega)).trans hv1; have hs1 := fun v => ((hown.stored 0 v).1.cellAt 1 (by omega)).trans ((List.getElem?_set_ne (by omega)).trans hv1)) | (go_at_call 46; refine (l01Value_any _ _ (by omega)).mono ?_; rintro e w' ⟨rfl, rfl⟩; first | rw [hp] | rw [hq]) | (go_at_call 47; refine (l01Frac_any _ _ _).mono ?_; rintro e w' ⟨rfl, rfl⟩))
        all_goals
          go_ret2
          first | exact ⟨ret_pair HB.out, bel⟩ | exact ⟨ret_pair (HB.out.trans (by rw [show p = 0 by omega]; simp)), bel⟩ | exact ⟨ret_pair HB.out, below_set bel hg _⟩
set_option maxHeartbeats 2000000 in
theorem sparse_b3 (s T B : ByteArray) (n : Nat) (vs : List Value) (p q : Int) (w : World) (sD : T.size ≤ 1048576) (sB : B.size ≤ 1048576) (hn : vs.length = n) (h0 : vs[0]? = some (.string T))
    (p0 : -1 ≤ p) (p1 : p ≤ 999999999) (q0 : -1 ≤ q) (q1 : (q : Int) ≤ 999999999) (hp : decA T.data.toList = p) (ht : 0 < T.size) (hc : (T[0].toNat : Int) ≠ 45) (h3 : 3 ≤ n) (hq : q < 1)
    (hsp : ∀ w, Calls Try.prog 45 #[.string s, .int .u8 47] w (NewRow 9 n vs w)) :
    Calls Try.prog 16 #[.string s] w fun e w' => e = .returned (.tuple #[.int .i64 (parseB false p q).1, .int .i64 (parseB false p q).2]) ∧ Below w.heap.size w w' := by
  have tc := beq_f hc
  have HB := Lib.hid (parseB_bad (neg := false) (p := p) (q := q) (.inr (.inl hq)))
  have tn := beq_f (show ¬ (n : Int) = 2 by omega)
  go_enter Try.func16, Try.ntmps16
  go_wp2_with (first | (go_at_call 45; refine (hsp _).mono ?_; rintro e w' ⟨A, c, rfl, hown, bel⟩; obtain ⟨g, cap, hv, hg, hgl⟩ := hown.form (by omega); cases hv; have hc0 := (hown.cellAt 0 (by omega)).trans h0; have hf0 := hown.frozenAt 0) | (go_at_call 46; refine (l01Value_any _ _ (by omega)).mono ?_; rintro e w' ⟨rfl, rfl⟩; first | rw [hp] | rw [hq]) | (go_at_call 47; refine (l01Frac_any _ _ _).mono ?_; rintro e w' ⟨rfl, rfl⟩))
  all_goals
    go_ret2
    first | exact ⟨ret_pair HB.out, bel⟩ | exact ⟨ret_pair (HB.out.trans (by rw [show p = 0 by omega]; simp)), bel⟩ | exact ⟨ret_pair HB.out, below_set bel hg _⟩
set_option maxHeartbeats 2000000 in
theorem sparse_c1 (s T B : ByteArray) (n : Nat) (vs : List Value) (p : Int) (w : World) (sD : (T.extract 1 T.size).size ≤ 1048576) (sB : B.size ≤ 1048576) (hn : vs.length = n) (h0 : vs[0]? = some (.string T))
    (p0 : -1 ≤ p) (p1 : p ≤ 999999999) (q0 : -1 ≤ (1 : Int)) (q1 : (1 : Int) ≤ 999999999) (hp : decA (T.extract 1 T.size).data.toList = p) (ht : 0 < T.size) (hc : (T[0].toNat : Int) = 45) (h1 : n = 1)
    (hsp : ∀ w, Calls Try.prog 45 #[.string s, .int .u8 47] w (NewRow 9 n vs w)) :
    Calls Try.prog 16 #[.string s] w fun e w' => e = .returned (.tuple #[.int .i64 (parseB true p 1).1, .int .i64 (parseB true p 1).2]) ∧ Below w.heap.size w w' := by
  have tq0 : True := trivial
  subst h1
  have tc := beq_t hc
  by_cases hp0 : p < 0
  · have HB := Lib.hid (parseB_bad (neg := true) (p := p) (q := 1) (.inl hp0))
    go_enter Try.func16, Try.ntmps16
    go_wp2_with (first | (go_at_call 45; refine (hsp _).mono ?_; rintro e w' ⟨A, c, rfl, hown, bel⟩; obtain ⟨g, cap, hv, hg, hgl⟩ := hown.form (by omega); cases hv; have hc0 := (hown.cellAt 0 (by omega)).trans h0; have hf0 := hown.frozenAt 0) | (go_at_call 46; refine (l01Value_any _ _ (by omega)).mono ?_; rintro e w' ⟨rfl, rfl⟩; first | rw [hp] | rw [hq]) | (go_at_call 47; refine (l01Frac_any _ _ _).mono ?_; rintro e w' ⟨rfl, rfl⟩))
    all_goals
      go_ret2
      first | exact ⟨ret_pair HB.out, bel⟩ | exact ⟨ret_pair (HB.out.trans (by rw [show p = 0 by omega]; simp)), bel⟩ | exact ⟨ret_pair HB.out, below_set bel hg _⟩
  · by_cases hpz : p = 0
    · have HB := Lib.hid (parseB_bad (neg := true) (p := p) (q := 1) (.inr (.inr ⟨rfl, hpz⟩)))
      have tpz := beq_t hpz
      go_enter Try.func16, Try.ntmps16
      go_wp2_with (first | (go_at_call 45; refine (hsp _).mono ?_; rintro e w' ⟨A, c, rfl, hown, bel⟩; obtain ⟨g, cap, hv, hg, hgl⟩ := hown.form (by omega); cases hv; have hc0 := (hown.cellAt 0 (by omega)).trans h0; have hf0 := hown.frozenAt 0) | (go_at_call 46; refine (l01Value_any _ _ (by omega)).mono ?_; rintro e w' ⟨rfl, rfl⟩; first | rw [hp] | rw [hq]) | (go_at_call 47; refine (l01Frac_any _ _ _).mono ?_; rintro e w' ⟨rfl, rfl⟩))
      all_goals
        go_ret2
        first | exact ⟨ret_pair HB.out, bel⟩ | exact ⟨ret_pair (HB.out.trans (by rw [show p = 0 by omega]; simp)), bel⟩ | exact ⟨ret_pair HB.out, below_set bel hg _⟩
    · have tpz := beq_f hpz
      have HV := parseB_valT (p := p) (q := 1) (by omega) p1 q1
      have HB := Lib.hid (HV.trans (if_neg (by decide)))
      clear HV tq0
      go_enter Try.func16, Try.ntmps16
      go_wp2_with (first | (go_at_call 45; refine (hsp _).mono ?_; rintro e w' ⟨A, c, rfl, hown, bel⟩; obtain ⟨g, cap, hv, hg, hgl⟩ := hown.form (by omega); cases hv; have hc0 := (hown.cellAt 0 (by omega)).trans h0; have hf0 := hown.frozenAt 0) | (go_at_call 46; refine (l01Value_any _ _ (by omega)).mono ?_; rintro e w' ⟨rfl, rfl⟩; first | rw [hp] | rw [hq]) | (go_at_call 47; refine (l01Frac_any _ _ _).mono ?_; rintro e w' ⟨rfl, rfl⟩))
      all_goals
        go_ret2
        first | exact ⟨ret_pair HB.out, bel⟩ | exact ⟨ret_pair (HB.out.trans (by rw [show p = 0 by omega]; simp)), bel⟩ | exact ⟨ret_pair HB.out, below_set bel hg _⟩
set_option maxHeartbeats 2000000 in
theorem sparse_c2 (s T B : ByteArray) (n : Nat) (vs : List Value) (p q : Int) (w : World) (sD : (T.extract 1 T.size).size ≤ 1048576) (sB : B.size ≤ 1048576) (hn : vs.length = n) (h0 : vs[0]? = some (.string T))
    (p0 : -1 ≤ p) (p1 : p ≤ 999999999) (q0 : -1 ≤ q) (q1 : (q : Int) ≤ 999999999) (hp : decA (T.extract 1 T.size).data.toList = p) (ht : 0 < T.size) (hc : (T[0].toNat : Int) = 45) (h2 : n = 2) (hv1 : vs[1]? = some (.string B)) (hq : decA B.data.toList = q)
    (hsp : ∀ w, Calls Try.prog 45 #[.string s, .int .u8 47] w (NewRow 9 n vs w)) :
    Calls Try.prog 16 #[.string s] w fun e w' => e = .returned (.tuple #[.int .i64 (parseB true p q).1, .int .i64 (parseB true p q).2]) ∧ Below w.heap.size w w' := by
  have tq0 : q.tmod 10007 = 0 ↔ q % 10007 = 0 := by rw [Int.tmod_eq_emod]; split <;> omega
  subst h2
  have tc := beq_t hc
  by_cases hp0 : p < 0
  · have HB := Lib.hid (parseB_bad (neg := true) (p := p) (q := q) (.inl hp0))
    go_enter Try.func16, Try.ntmps16
    go_wp2_with (first | (go_at_call 45; refine (hsp _).mono ?_; rintro e w' ⟨A, c, rfl, hown, bel⟩; obtain ⟨g, cap, hv, hg, hgl⟩ := hown.form (by omega); cases hv; have hc0 := (hown.cellAt 0 (by omega)).trans h0; have hf0 := hown.frozenAt 0; have hc1 := (hown.cellAt 1 (by omega)).trans hv1; have hs1 := fun v => ((hown.stored 0 v).1.cellAt 1 (by omega)).trans ((List.getElem?_set_ne (by omega)).trans hv1)) | (go_at_call 46; refine (l01Value_any _ _ (by omega)).mono ?_; rintro e w' ⟨rfl, rfl⟩; first | rw [hp] | rw [hq]) | (go_at_call 47; refine (l01Frac_any _ _ _).mono ?_; rintro e w' ⟨rfl, rfl⟩))
    all_goals
      go_ret2
      first | exact ⟨ret_pair HB.out, bel⟩ | exact ⟨ret_pair (HB.out.trans (by rw [show p = 0 by omega]; simp)), bel⟩ | exact ⟨ret_pair HB.out, below_set bel hg _⟩
  · by_cases hq0 : q < 1
    · have HB := Lib.hid (parseB_bad (neg := true) (p := p) (q := q) (.inr (.inl hq0)))
      go_enter Try.func16, Try.ntmps16
      go_wp2_with (first | (go_at_call 45; refine (hsp _).mono ?_; rintro e w' ⟨A, c, rfl, hown, bel⟩; obtain ⟨g, cap, hv, hg, hgl⟩ := hown.form (by omega); cases hv; have hc0 := (hown.cellAt 0 (by omega)).trans h0; have hf0 := hown.frozenAt 0; have hc1 := (hown.cellAt 1 (by omega)).trans hv1; have hs1 := fun v => ((hown.stored 0 v).1.cellAt 1 (by omega)).trans ((List.getElem?_set_ne (by omega)).trans hv1)) | (go_at_call 46; refine (l01Value_any _ _ (by omega)).mono ?_; rintro e w' ⟨rfl, rfl⟩; first | rw [hp] | rw [hq]) | (go_at_call 47; refine (l01Frac_any _ _ _).mono ?_; rintro e w' ⟨rfl, rfl⟩))
      all_goals
        go_ret2
        first | exact ⟨ret_pair HB.out, bel⟩ | exact ⟨ret_pair (HB.out.trans (by rw [show p = 0 by omega]; simp)), bel⟩ | exact ⟨ret_pair HB.out, below_set bel hg _⟩
    · by_cases hpz : p = 0
      · have HB := Lib.hid (parseB_bad (neg := true) (p := p) (q := q) (.inr (.inr ⟨rfl, hpz⟩)))
        have tpz := beq_t hpz
        go_enter Try.func16, Try.ntmps16
        go_wp2_with (first | (go_at_call 45; refine (hsp _).mono ?_; rintro e w' ⟨A, c, rfl, hown, bel⟩; obtain ⟨g, cap, hv, hg, hgl⟩ := hown.form (by omega); cases hv; have hc0 := (hown.cellAt 0 (by omega)).trans h0; have hf0 := hown.frozenAt 0; have hc1 := (hown.cellAt 1 (by omega)).trans hv1; have hs1 := fun v => ((hown.stored 0 v).1.cellAt 1 (by omega)).trans ((List.getElem?_set_ne (by omega)).trans hv1)) | (go_at_call 46; refine (l01Value_any _ _ (by omega)).mono ?_; rintro e w' ⟨rfl, rfl⟩; first | rw [hp] | rw [hq]) | (go_at_call 47; refine (l01Frac_any _ _ _).mono ?_; rintro e w' ⟨rfl, rfl⟩))
        all_goals
          go_ret2
          first | exact ⟨ret_pair HB.out, bel⟩ | exact ⟨ret_pair (HB.out.trans (by rw [show p = 0 by omega]; simp)), bel⟩ | exact ⟨ret_pair HB.out, below_set bel hg _⟩
      · have tpz := beq_f hpz
        have HV := parseB_valT (p := p) (q := q) (by omega) p1 q1
        by_cases hz : q % 10007 = 0
        · have HB := Lib.hid (HV.trans (if_pos hz))
          have tz := beq_t (tq0.2 hz)
          have tz2 := beq_t hz
          clear HV tq0 hz
          go_enter Try.func16, Try.ntmps16
          go_wp2_with (first | (go_at_call 45; refine (hsp _).mono ?_; rintro e w' ⟨A, c, rfl, hown, bel⟩; obtain ⟨g, cap, hv, hg, hgl⟩ := hown.form (by omega); cases hv; have hc0 := (hown.cellAt 0 (by omega)).trans h0; have hf0 := hown.frozenAt 0; have hc1 := (hown.cellAt 1 (by omega)).trans hv1; have hs1 := fun v => ((hown.stored 0 v).1.cellAt 1 (by omega)).trans ((List.getElem?_set_ne (by omega)).trans hv1)) | (go_at_call 46; refine (l01Value_any _ _ (by omega)).mono ?_; rintro e w' ⟨rfl, rfl⟩; first | rw [hp] | rw [hq]) | (go_at_call 47; refine (l01Frac_any _ _ _).mono ?_; rintro e w' ⟨rfl, rfl⟩))
          all_goals
            go_ret2
            first | exact ⟨ret_pair HB.out, bel⟩ | exact ⟨ret_pair (HB.out.trans (by rw [show p = 0 by omega]; simp)), bel⟩ | exact ⟨ret_pair HB.out, below_set bel hg _⟩
        · have HB := Lib.hid (HV.trans (if_neg hz))
          have tz := beq_f (fun g => hz (tq0.1 g))
          have tz2 := beq_f hz
          clear HV tq0 hz
          go_enter Try.func16, Try.ntmps16
          go_wp2_with (first | (go_at_call 45; refine (hsp _).mono ?_; rintro e w' ⟨A, c, rfl, hown, bel⟩; obtain ⟨g, cap, hv, hg, hgl⟩ := hown.form (by omega); cases hv; have hc0 := (hown.cellAt 0 (by omega)).trans h0; have hf0 := hown.frozenAt 0; have hc1 := (hown.cellAt 1 (by omega)).trans hv1; have hs1 := fun v => ((hown.stored 0 v).1.cellAt 1 (by omega)).trans ((List.getElem?_set_ne (by omega)).trans hv1)) | (go_at_call 46; refine (l01Value_any _ _ (by omega)).mono ?_; rintro e w' ⟨rfl, rfl⟩; first | rw [hp] | rw [hq]) | (go_at_call 47; refine (l01Frac_any _ _ _).mono ?_; rintro e w' ⟨rfl, rfl⟩))
          all_goals
            go_ret2
            first | exact ⟨ret_pair HB.out, bel⟩ | exact ⟨ret_pair (HB.out.trans (by rw [show p = 0 by omega]; simp)), bel⟩ | exact ⟨ret_pair HB.out, below_set bel hg _⟩
set_option maxHeartbeats 2000000 in
theorem sparse_c3 (s T B : ByteArray) (n : Nat) (vs : List Value) (p q : Int) (w : World) (sD : (T.extract 1 T.size).size ≤ 1048576) (sB : B.size ≤ 1048576) (hn : vs.length = n) (h0 : vs[0]? = some (.string T))
    (p0 : -1 ≤ p) (p1 : p ≤ 999999999) (q0 : -1 ≤ q) (q1 : (q : Int) ≤ 999999999) (hp : decA (T.extract 1 T.size).data.toList = p) (ht : 0 < T.size) (hc : (T[0].toNat : Int) = 45) (h3 : 3 ≤ n) (hq : q < 1)
    (hsp : ∀ w, Calls Try.prog 45 #[.string s, .int .u8 47] w (NewRow 9 n vs w)) :
    Calls Try.prog 16 #[.string s] w fun e w' => e = .returned (.tuple #[.int .i64 (parseB true p q).1, .int .i64 (parseB true p q).2]) ∧ Below w.heap.size w w' := by
  have tc := beq_t hc
  have HB := Lib.hid (parseB_bad (neg := true) (p := p) (q := q) (.inr (.inl hq)))
  have tn := beq_f (show ¬ (n : Int) = 2 by omega)
  go_enter Try.func16, Try.ntmps16
  go_wp2_with (first | (go_at_call 45; refine (hsp _).mono ?_; rintro e w' ⟨A, c, rfl, hown, bel⟩; obtain ⟨g, cap, hv, hg, hgl⟩ := hown.form (by omega); cases hv; have hc0 := (hown.cellAt 0 (by omega)).trans h0; have hf0 := hown.frozenAt 0) | (go_at_call 46; refine (l01Value_any _ _ (by omega)).mono ?_; rintro e w' ⟨rfl, rfl⟩; first | rw [hp] | rw [hq]) | (go_at_call 47; refine (l01Frac_any _ _ _).mono ?_; rintro e w' ⟨rfl, rfl⟩))
  all_goals
    go_ret2
    first | exact ⟨ret_pair HB.out, bel⟩ | exact ⟨ret_pair (HB.out.trans (by rw [show p = 0 by omega]; simp)), bel⟩ | exact ⟨ret_pair HB.out, below_set bel hg _⟩
end Go.Proofs.Yteaadpdbiakbkab
