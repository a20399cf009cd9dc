/-
  The program's order of forests, by texts, and the text of a product.
-/
import Derived.Test.YtjmjdcfgbaepkaaCmp
import Derived.Test.YtjmjdcfgbaepkaaIn
import Derived.Test.YtjmjdcfgbaepkaaSrtF
import Derived.Test.YtjmjdcfgbaepkaaTxt
namespace Go.Proofs.Ytjmjdcfgbaepkaa
open Go.RowKit Fld
set_option linter.unusedVariables false
set_option linter.unusedSimpArgs false
set_option maxRecDepth 100000

/-- the first number that is not 0 -/
def orL : List Int → Int
  | [] => 0
  | a :: r => if a = 0 then orL r else a
theorem orL_at {xs : List Int} {k : Nat} {a : Int} (h : xs[k]? = some a) : orL (xs.drop k) = if a = 0 then orL (xs.drop (k + 1)) else a := by
  obtain ⟨q, e⟩ := List.getElem?_eq_some_iff.1 h
  rw [List.drop_eq_getElem_cons q, e, orL]
theorem orInts_any (A : Option Addr) (n c B : Nat) (xs : List Int) (w : World) (hl : xs.length = n) (hn : n ≤ 1048576) (h : Row w B A (ints xs)) :
    Calls Try.prog 123 #[.slice A n c] w fun e w' => e = .returned (.int .i64 (orL xs)) ∧ w = w' := by
  have HL := Lib.hid hl
  clear hl
  go_enter Try.func123, Try.ntmps123
  go_wp2_with fail
  go_loop [8] (fun i => ∃ k : Nat, k ≤ n ∧ i = .int .i64 k ∧ Hid (orL xs = orL (xs.drop k))) (fun i => n - (intOf i).toNat)
  case atStart => exact ⟨0, Nat.zero_le _, rfl, rfl⟩
  case round =>
    obtain ⟨k, hk, rfl, HC⟩ := hrel
    by_cases hlt : k < n
    · obtain ⟨a, ha⟩ := at_lt (show k < xs.length by rw [HL.out]; exact hlt)
      obtain ⟨b, o, rfl, _, hc⟩ := h k _ (ints_at ha)
      have HS := Lib.hid (orL_at ha)
      clear ha
      by_cases hz : a = 0
      · subst hz
        have HN : Hid (orL xs = orL (xs.drop (k + 1))) := by rw [Hid, HC.out, HS.out, if_pos rfl]
        clear HC HS
        go_wp2
        go_round
        case rel => exact ⟨k + 1, by omega, by go_num, HN⟩
        case measure => simp [intOf]; omega
      · have HN : Hid (orL xs = a) := by rw [Hid, HC.out, HS.out, if_neg hz]
        have t := bne_t hz
        clear HC HS hz
        go_wp2
        go_ret
        exact ⟨ret_i64 HN.out.symm, rfl⟩
    · obtain rfl : k = n := by omega
      have HN : Hid (orL xs = 0) := by rw [Hid, HC.out, List.drop_eq_nil_of_le (by rw [HL.out]; exact Nat.le_refl _)]; rfl
      clear HC
      go_wp2
      go_ret
      exact ⟨ret_i64 HN.out.symm, rfl⟩
/-- texts in turn, then which list ends first -/
def cmpTs : List (List UInt8) → List (List UInt8) → Int
  | a :: f, b :: g => if Tr.cmpT a b = 0 then cmpTs f g else Tr.cmpT a b
  | _ :: _, [] => 1
  | [], _ :: _ => -1
  | [], [] => 0
theorem cmpTs_at {f g : List (List UInt8)} {k : Nat} {a b : List UInt8} (hf : f[k]? = some a) (hg : g[k]? = some b) : cmpTs (f.drop k) (g.drop k) = if Tr.cmpT a b = 0 then cmpTs (f.drop (k + 1)) (g.drop (k + 1)) else Tr.cmpT a b := by
  obtain ⟨q, e⟩ := List.getElem?_eq_some_iff.1 hf
  obtain ⟨q2, e2⟩ := List.getElem?_eq_some_iff.1 hg
  rw [List.drop_eq_getElem_cons q, e, List.drop_eq_getElem_cons q2, e2, cmpTs]
theorem cmpTs_one {f g : List (List UInt8)} {k : Nat} {a : List UInt8} (hf : f[k]? = some a) (hg : g.length ≤ k) : cmpTs (f.drop k) (g.drop k) = 1 := by
  obtain ⟨q, e⟩ := List.getElem?_eq_some_iff.1 hf
  rw [List.drop_eq_getElem_cons q, e, List.drop_eq_nil_of_le hg, cmpTs]
theorem cmpTs_two {f g : List (List UInt8)} {k : Nat} (hf : f.length ≤ k) (hg : k < g.length) : cmpTs (f.drop k) (g.drop k) = -1 := by
  rw [List.drop_eq_nil_of_le hf, List.drop_eq_getElem_cons hg, cmpTs]
theorem cmpTs_end {f g : List (List UInt8)} {k : Nat} (hf : f.length ≤ k) (hg : g.length ≤ k) : cmpTs (f.drop k) (g.drop k) = 0 := by
  rw [List.drop_eq_nil_of_le hf, List.drop_eq_nil_of_le hg, cmpTs]
theorem cmpT_bd (x y : List UInt8) : -1 ≤ Tr.cmpT x y ∧ Tr.cmpT x y ≤ 1 := by
  unfold Tr.cmpT
  repeat' split
  all_goals omega
set_option maxHeartbeats 1000000 in
theorem compareFunc_any (A A' : Option Addr) (n n' c c' B B' : Nat) (ss tt : List (List UInt8)) (w : World) (hl : ss.length = n) (hl' : tt.length = n') (hn : n ≤ 1048576) (hn' : n' ≤ 1048576) (hs : ∀ x ∈ ss, x.length ≤ 1048576) (ht : ∀ x ∈ tt, x.length ≤ 1048576) (hB : B ≤ w.heap.size) (hB' : B' ≤ w.heap.size) (h : Row w B A (strs ss)) (h' : Row w B' A' (strs tt)) :
    Calls Try.prog 141 #[.slice A n c, .slice A' n' c', (.func (.func 75) #[] #[])] w fun e w' => e = .returned (.int .i64 (cmpTs ss tt)) ∧ Below w.heap.size w w' := by
  have HL := Lib.hid hl
  have HL' := Lib.hid hl'
  have HS := Lib.hid hs
  have HT := Lib.hid ht
  clear hl hl' hs ht
  go_enter Try.func141, Try.ntmps141
  go_wp2_with fail
  go_loopw [13] (fun i wr => ∃ k : Nat, k ≤ n ∧ k ≤ n' ∧ i = .int .i64 k ∧ Hid (cmpTs ss tt = cmpTs (ss.drop k) (tt.drop k)) ∧ Hid (Below w.heap.size w wr)) (fun i _ => n - (intOf i).toNat)
  case atStart => exact ⟨0, Nat.zero_le _, Nat.zero_le _, rfl, rfl, Below.refl _ _⟩
  case round =>
    obtain ⟨k, hk, hk', rfl, HC, HB⟩ := hrel
    have hsz := HB.out.size
    by_cases hlt : k < n
    · obtain ⟨a, ha⟩ := at_lt (show k < ss.length by rw [HL.out]; exact hlt)
      obtain ⟨b, o, rfl, _, hc⟩ := (h.below HB.out hB) k _ (strs_at ha)
      by_cases hlt' : k < n'
      · obtain ⟨b2, hb2⟩ := at_lt (show k < tt.length by rw [HL'.out]; exact hlt')
        obtain ⟨b', o', rfl, _, hc'⟩ := (h'.below HB.out hB') k _ (strs_at hb2)
        have ha8 := HS.out a (List.mem_of_getElem? ha)
        have hb8 := HT.out b2 (List.mem_of_getElem? hb2)
        have HSt := Lib.hid (cmpTs_at ha hb2)
        have hbd := cmpT_bd a b2
        obtain ⟨v, hv⟩ : ∃ v, v = Tr.cmpT a b2 := ⟨_, rfl⟩
        have C0 := fun W => compare_any a b2 W ha8 hb8
        rw [← hv] at HSt hbd
        simp only [← hv] at C0
        clear ha hb2 hv
        go_wp2_with fail
        refine (C0 _).mono ?_
        rintro e w2 ⟨rfl, y⟩
        have HB2 := Lib.hid (HB.out.trans (y.mono hsz))
        clear y C0
        by_cases hz : v = 0
        · subst hz
          have HN : Hid (cmpTs ss tt = cmpTs (ss.drop (k + 1)) (tt.drop (k + 1))) := by rw [Hid, HC.out, HSt.out, if_pos rfl]
          clear HC HSt
          go_wp2
          go_roundw
          case rel => exact ⟨k + 1, by omega, by omega, by go_num, HN, HB2⟩
          case measure => simp [intOf]; omega
        · have HN : Hid (cmpTs ss tt = v) := by rw [Hid, HC.out, HSt.out, if_neg hz]
          have t := bne_t hz
          clear HC HSt hz
          go_wp2
          go_ret
          exact ⟨ret_i64 HN.out.symm, HB2.out⟩
      · have HN : Hid (cmpTs ss tt = 1) := by rw [Hid, HC.out, cmpTs_one ha (by rw [HL'.out]; omega)]
        clear HC ha
        go_wp2
        go_ret
        exact ⟨ret_i64 HN.out.symm, HB.out⟩
    · obtain rfl : k = n := by omega
      by_cases hlt' : k < n'
      · have HN : Hid (cmpTs ss tt = -1) := by rw [Hid, HC.out, cmpTs_two (by rw [HL.out]; exact Nat.le_refl _) (by rw [HL'.out]; exact hlt')]
        clear HC
        go_wp2
        go_ret
        exact ⟨ret_i64 HN.out.symm, HB.out⟩
      · have HN : Hid (cmpTs ss tt = 0) := by rw [Hid, HC.out, cmpTs_end (by rw [HL.out]; exact Nat.le_refl _) (by rw [HL'.out]; omega)]
        clear HC
        go_wp2
        go_ret
        exact ⟨ret_i64 HN.out.symm, HB.out⟩
theorem forestTrees_any (s : List UInt8) (w : World) (hn : s.length ≤ 1048576) :
    Calls Try.prog 140 #[.string ⟨s.toArray⟩] w fun e w' => ∃ A q c, e = .returned (.slice A q c) ∧ w'.ownsRow w.heap.size 75 1 (.slice A q c) q (strs (Tr.trF [] 0 [] s).1) ∧ Below w.heap.size w w' := by
  go_enter Try.func140, Try.ntmps140
  go_wp2_with fail
  refine (treesIn_any s _ hn).mono ?_
  rintro e w2 ⟨A, q, c, rfl, own2, bel2⟩
  have O := Lib.hid own2
  have B := Lib.hid bel2
  clear own2 bel2
  go_wp2
  go_ret
  exact ⟨A, q, c, rfl, O.out, B.out⟩
theorem productOf_any (A : Option Addr) (base n c : Nat) (ss : List (List UInt8)) (w : World) (hn : n ≤ 12) (hs16 : ∀ s ∈ ss, s.length ≤ 16) (hbase : base ≤ w.heap.size) (h : w.ownsRow base 75 1 (.slice A n c) n (strs ss)) :
    Calls Try.prog 106 #[.slice A n c] w fun e w' => e = .returned (.string ⟨(Tr.sortT ss).flatten.toArray⟩) ∧ Below base w w' := by
  have hl : ss.length = n := by rw [← strs_length]; exact own_len h
  have hsl : (Tr.sortT ss).length = n := by rw [(sortT_perm ss).length_eq]; exact hl
  have HSL := Lib.hid hsl
  have hft : (Tr.sortT ss).flatten.length ≤ 1048576 := by
    have : ∀ (l : List (List UInt8)), (∀ s ∈ l, s.length ≤ 16) → l.flatten.length ≤ 16 * l.length := fun l => by
      induction l with
      | nil => intro _; simp
      | cons a r ih => intro q; have h1 := q a (by simp); have h2 := ih (fun s hs => q s (by simp [hs])); rw [List.flatten_cons, List.length_append, List.length_cons]; omega
    have := this (Tr.sortT ss) (fun s hs => hs16 s ((sortT_perm ss).mem_iff.1 hs))
    omega
  have HFT := Lib.hid hft
  have C0 := sortFunc_any A base n c ss w hn hs16 hbase h
  clear hl hsl hs16 h hft
  go_enter Try.func106, Try.ntmps106
  go_wp2_with fail
  refine C0.mono ?_
  rintro e w1 ⟨rfl, h1, h2, h3⟩
  have HR : Hid (Row w1 w1.heap.size A (strs (Tr.sortT ss))) := row_of_own h1
  have HB1 := Lib.hid h2
  clear h1 h2 C0
  go_wp2_with fail
  refine (textOf_any A n c w1.heap.size (Tr.sortT ss) w1 HSL.out (by omega) HFT.out (Nat.le_refl _) HR.out).mono ?_
  rintro e w2 ⟨rfl, bel2⟩
  have GB := Lib.hid (HB1.out.trans (bel2.mono h3))
  clear bel2
  go_wp2
  go_ret
  exact ⟨rfl, GB.out⟩
end Go.Proofs.Ytjmjdcfgbaepkaa
