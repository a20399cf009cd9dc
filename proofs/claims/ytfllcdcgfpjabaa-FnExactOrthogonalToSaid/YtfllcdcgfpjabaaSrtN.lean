/-
  The library's sort of a few numbers in a row of the call's own.
-/
import Derived.Test.YtfllcdcgfpjabaaGrow
import Derived.Test.YtfllcdcgfpjabaaMark1
import Derived.BigRegion
namespace Go.Proofs.Ytfllcdcgfpjabaa
open Go.RowKit Fld
set_option linter.unusedVariables false
set_option linter.unusedSimpArgs false
set_option maxRecDepth 100000

def leZ (a b : Int) : Bool := decide (a ≤ b)
theorem leZ_tr {a b c : Int} (h : leZ a b = true) (k : leZ b c = true) : leZ a c = true := by unfold leZ at *; rw [decide_eq_true_eq] at *; omega
theorem leZ_as {a b : Int} (h : leZ a b = true) (k : leZ b a = true) : a = b := by unfold leZ at *; rw [decide_eq_true_eq] at *; omega
theorem leZ_to {a b : Int} (h : leZ a b = false) : leZ b a = true := by unfold leZ at *; rw [decide_eq_true_eq]; rw [decide_eq_false_iff_not] at h; omega
def insZ (x : Int) : List Int → List Int
  | [] => [x]
  | y :: r => if leZ x y = true then x :: y :: r else y :: insZ x r
def sortZ : List Int → List Int
  | [] => []
  | x :: r => insZ x (sortZ r)
theorem insZ_perm (x : Int) : ∀ l, (insZ x l).Perm (x :: l)
  | [] => List.Perm.refl _
  | y :: r => by
    rw [insZ]
    split
    · exact List.Perm.refl _
    · exact ((insZ_perm x r).cons y).trans (List.Perm.swap x y r)
theorem sortZ_perm : ∀ l, (sortZ l).Perm l
  | [] => List.Perm.refl _
  | x :: r => (insZ_perm x (sortZ r)).trans ((sortZ_perm r).cons x)
theorem insZ_sorted (x : Int) : ∀ l, l.Pairwise (fun a b => leZ a b = true) → (insZ x l).Pairwise (fun a b => leZ a b = true)
  | [], _ => by simp [insZ]
  | y :: r, h => by
    rw [insZ]
    rw [List.pairwise_cons] at h
    cases e : leZ x y
    · rw [if_neg (by simp), List.pairwise_cons]
      refine ⟨fun z hz => ?_, insZ_sorted x r h.2⟩
      rw [(insZ_perm x r).mem_iff, List.mem_cons] at hz
      rcases hz with rfl | hz
      · exact leZ_to e
      · exact h.1 z hz
    · rw [if_pos rfl, List.pairwise_cons, List.pairwise_cons]
      refine ⟨fun z hz => ?_, h⟩
      rw [List.mem_cons] at hz
      rcases hz with rfl | hz
      · exact e
      · exact leZ_tr e (h.1 z hz)
theorem sortZ_sorted : ∀ l, (sortZ l).Pairwise (fun a b => leZ a b = true)
  | [] => by simp [sortZ]
  | x :: r => insZ_sorted x _ (sortZ_sorted r)
theorem intsN_set (ls : List Int) (k : Nat) (l : Int) : ints (ls.set k l) = (ints ls).set k (.int .i64 l) := by unfold ints intsK; rw [List.map_set]

/-! what insertion does, in any order -/
section
variable {α : Type} {le : α → α → Bool}
def insAtZ (S : List α) (j : Nat) (x : α) (R : List α) : List α := S.take j ++ x :: (S.drop j ++ R)
theorem insAtZ_x {S R : List α} {j : Nat} {x : α} (h : j ≤ S.length) : (insAtZ S j x R)[j]? = some x := by
  unfold insAtZ
  have e : (S.take j).length = j := by rw [List.length_take]; omega
  rw [List.getElem?_append_right (by omega), e, Nat.sub_self]; rfl
theorem insAtZ_y {S R : List α} {j : Nat} {x y : α} (h : j + 1 ≤ S.length) (hy : S[j]? = some y) : (insAtZ S (j + 1) x R)[j]? = some y := by
  unfold insAtZ
  rw [List.getElem?_append_left (by rw [List.length_take]; omega), List.getElem?_take, if_pos (by omega)]; exact hy
theorem insAtZ_swap {S R : List α} {j : Nat} {x y : α} (h : j + 1 ≤ S.length) (hy : S[j]? = some y) : ((insAtZ S (j + 1) x R).set (j + 1) y).set j x = insAtZ S j x R := by
  unfold insAtZ
  have e : (S.take j).length = j := by rw [List.length_take]; omega
  have hd : S.drop j = y :: S.drop (j + 1) := by
    have hlt : j < S.length := by omega
    rw [List.drop_eq_getElem_cons hlt]
    rw [List.getElem?_eq_getElem hlt] at hy
    injection hy with hy
    rw [hy]
  rw [List.take_add_one, hy, hd]
  simp only [Option.toList_some, List.append_assoc, List.cons_append, List.nil_append]
  rw [List.set_append_right _ _ (by omega), e, show j + 1 - j = 1 from by omega, List.set_cons_succ, List.set_cons_zero, List.set_append_right _ _ (by omega), e, Nat.sub_self, List.set_cons_zero]
theorem insAtZ_start {S R : List α} {x : α} : insAtZ S S.length x R = S ++ x :: R := by unfold insAtZ; simp
theorem ins_permZ (S : List α) (j : Nat) (x : α) : (S.take j ++ x :: S.drop j).Perm (x :: S) := by
  have := @List.perm_middle _ x (S.take j) (S.drop j)
  rwa [List.take_append_drop] at this
theorem ins_doneZ (tr : ∀ {a b c : α}, le a b = true → le b c = true → le a c = true) {S : List α} {j : Nat} {x : α} (hS : S.Pairwise fun a b => le a b = true) (h1 : ∀ s ∈ S.drop j, le x s = true) (hj : j ≤ S.length) (h2 : ∀ y, 0 < j → S[j - 1]? = some y → le y x = true) : (S.take j ++ x :: S.drop j).Pairwise fun a b => le a b = true := by
  have hS' := hS
  rw [← List.take_append_drop j S, List.pairwise_append] at hS'
  obtain ⟨p1, p2, p3⟩ := hS'
  rw [List.pairwise_append, List.pairwise_cons]
  refine ⟨p1, ⟨h1, p2⟩, fun a ha b hb => ?_⟩
  rw [List.mem_cons] at hb
  rcases hb with rfl | hb
  · obtain ⟨i, hi⟩ := List.mem_iff_getElem?.1 ha
    rw [List.getElem?_take] at hi
    split at hi
    · rename_i hij
      obtain ⟨y, hy⟩ : ∃ y, S[j - 1]? = some y := ⟨_, List.getElem?_eq_getElem (by omega)⟩
      have hyx := h2 y (by omega) hy
      rcases Nat.lt_or_ge i (j - 1) with g | g
      · refine tr ?_ hyx
        have hi2 : i < S.length := by omega
        have hj2 : j - 1 < S.length := by omega
        rw [List.getElem?_eq_getElem hi2] at hi
        rw [List.getElem?_eq_getElem hj2] at hy
        injection hi with hi
        injection hy with hy
        subst hi hy
        exact List.pairwise_iff_getElem.1 hS i (j - 1) hi2 hj2 g
      · have : i = j - 1 := by omega
        subst this
        rw [hy] at hi
        injection hi with hi
        rw [← hi]; exact hyx
    · cases hi
  · exact p3 a ha b hb
theorem ins_lowZ {S : List α} {j : Nat} {x y : α} (h1 : ∀ s ∈ S.drop (j + 1), le x s = true) (hy : S[j]? = some y) (hxy : le x y = true) : ∀ s ∈ S.drop j, le x s = true := by
  intro s hs
  have hlt : j < S.length := by
    rcases Nat.lt_or_ge j S.length with g | g
    · exact g
    · rw [List.getElem?_eq_none g] at hy; cases hy
  rw [List.drop_eq_getElem_cons hlt, List.mem_cons] at hs
  rw [List.getElem?_eq_getElem hlt] at hy
  injection hy with hy
  rcases hs with rfl | hs
  · rw [hy]; exact hxy
  · exact h1 s hs
/-- the first i of l, sorted, ahead of the others -/
structure InsdZ (le : α → α → Bool) (l : List α) (i : Nat) (S : List α) : Prop where
  len : S.length = i
  perm : S.Perm (l.take i)
  sorted : S.Pairwise fun a b => le a b = true
theorem InsdZ.one (l : List α) (h : 1 ≤ l.length) : InsdZ le l 1 (l.take 1) := by
  refine ⟨by rw [List.length_take]; omega, List.Perm.refl _, ?_⟩
  match l, h with
  | a :: r, _ => simp
theorem InsdZ.step (tr : ∀ {a b c : α}, le a b = true → le b c = true → le a c = true) {l S : List α} {i j : Nat} {x : α} (h : InsdZ le l i S) (hx : l[i]? = some x) (h1 : ∀ s ∈ S.drop j, le x s = true) (hj : j ≤ i) (h2 : ∀ y, 0 < j → S[j - 1]? = some y → le y x = true) : InsdZ le l (i + 1) (S.take j ++ x :: S.drop j) := by
  refine ⟨?_, ?_, ins_doneZ (le := le) tr h.sorted h1 (by rw [h.len]; exact hj) h2⟩
  · have := (ins_permZ S j x).length_eq
    rw [this, List.length_cons, h.len]
  · rw [List.take_add_one, hx]
    refine (ins_permZ S j x).trans (((h.perm).cons x).trans ?_)
    exact (List.perm_append_singleton x _).symm
theorem InsdZ.eq (asy : ∀ {a b : α}, le a b = true → le b a = true → a = b) {l S : List α} {n : Nat} (h : InsdZ le l n S) (hl : l.length = n) {T : List α} (hp : T.Perm l) (hT : T.Pairwise fun a b => le a b = true) : S = T := by
  have p := h.perm
  rw [List.take_of_length_le (by omega)] at p
  exact List.Perm.eq_of_pairwise (le := fun a b => le a b = true) (fun a b _ _ h1 h2 => asy h1 h2) h.sorted hT (p.trans hp.symm)
end


theorem numNaN_any (x : Int) (w : World) : Calls Try.prog 140 #[.int .i64 x] w fun e w' => e = .returned (.bool false) ∧ w = w' := by
  go_enter Try.func140, Try.ntmps140
  go_wp2
  go_ret
  exact ⟨by simp, rfl⟩
theorem numLess_any (x y : Int) (w : World) : Calls Try.prog 130 #[.int .i64 x, .int .i64 y] w fun e w' => e = .returned (.bool (!leZ y x)) ∧ w = w' := by
  have hd : (!leZ y x) = decide (x < y) := by
    unfold leZ
    by_cases h : y ≤ x
    · rw [decide_eq_true h, decide_eq_false (by omega)]; rfl
    · rw [decide_eq_false h, decide_eq_true (by omega)]; rfl
  rw [hd]
  go_enter Try.func130, Try.ntmps130
  go_wp2_with (go_at_call 140; refine (numNaN_any _ _).mono ?_; rintro e w' ⟨rfl, rfl⟩)
  go_ret
  exact ⟨rfl, rfl⟩
/-- a row of texts that a sort turns -/
def SrowN (base g n cap : Nat) (w : World) (ls : List Int) (wr : World) : Prop := wr.ownsRow base 79 1 (.slice (some ⟨g, 0, none⟩) n cap) n (ints ls) ∧ w.grownBy wr (some g)
theorem SrowN.swap {base g n cap j : Nat} {w wr : World} {ls : List Int} {x y : Int} (h : SrowN base g n cap w ls wr) :
    SrowN base g n cap w ((ls.set (j + 1) y).set j x) ((wr.setCell ⟨g, j + 1, none⟩ (.int .i64 y)).setCell ⟨g, j, none⟩ (.int .i64 x)) := by
  obtain ⟨h1, h2⟩ := h.1.stored (j + 1) (.int .i64 y)
  obtain ⟨h3, h4⟩ := h1.stored j (.int .i64 x)
  rw [← intsN_set, ← intsN_set] at h3
  exact ⟨h3, grownBy_trans h.2 (grownBy_trans h2 h4)⟩
theorem SrowN.drewN {base g n cap : Nat} {w wr : World} {ls : List Int} (h : SrowN base g n cap w ls wr) (m : Nat) : SrowN base g n cap w ls (wr.drewN m) := ⟨h.1, ⟨h.2.os, h.2.tape, h.2.output, h.2.size, h.2.block⟩⟩
set_option maxHeartbeats 1000000 in
theorem numInsert_any (base g n cap : Nat) (ss : List Int) (w : World) (hl : ss.length = n) (h1 : 1 ≤ n) (hn : n ≤ 12) (h : w.ownsRow base 79 1 (.slice (some ⟨g, 0, none⟩) n cap) n (ints ss)) :
    Calls Try.prog 124 #[.slice (some ⟨g, 0, none⟩) n cap, .int .i64 0, .int .i64 n] w fun e w' => e = .returned (.tuple #[]) ∧ SrowN base g n cap w (sortZ ss) w' := by
  have HL := Lib.hid hl
  have F0 : Hid (SrowN base g n cap w (ss.take 1 ++ ss.drop 1) w) := by rw [Hid, List.take_append_drop]; exact ⟨h, World.grownBy.refl _ _⟩
  have I0 := Lib.hid (InsdZ.one (le := leZ) ss (by omega))
  clear hl h
  go_enter Try.func124, Try.ntmps124
  go_wp2_with fail
  go_loopw [6] (fun i wr => ∃ (k : Nat) (S : List Int), 1 ≤ k ∧ k ≤ n ∧ i = .int .i64 k ∧ Hid (InsdZ leZ ss k S) ∧ SrowN base g n cap w (S ++ ss.drop k) wr) (fun i _ => n - (intOf i).toNat)
  case atStart => exact ⟨1, _, Nat.le_refl _, h1, rfl, I0, F0.out⟩
  case round =>
    obtain ⟨i, S, i1, hi, rfl, HI, HF⟩ := hrel
    by_cases hlt : i < n
    · obtain ⟨x, hx⟩ := at_lt (show i < ss.length by rw [HL.out]; exact hlt)
      have HX := Lib.hid hx
      have hin : Hid (∀ j T W, j ≤ i → SrowN base g n cap w (insAtZ S j x (ss.drop (i + 1))) W → InsdZ leZ ss (i + 1) T → T = S.take j ++ x :: S.drop j → SrowN base g n cap w (T ++ ss.drop (i + 1)) W) := by
        intro j T W hj hW hT e
        subst e
        unfold insAtZ at hW
        simpa using hW
      have F1 : Hid (SrowN base g n cap w (insAtZ S i x (ss.drop (i + 1))) wr) := by
        rw [Hid]
        have e := insAtZ_start (S := S) (R := ss.drop (i + 1)) (x := x)
        rw [HI.out.len] at e
        rw [e]
        have e2 : ss.drop i = x :: ss.drop (i + 1) := by
          have hlt2 : i < ss.length := by rw [HL.out]; exact hlt
          rw [List.drop_eq_getElem_cons hlt2]
          rw [List.getElem?_eq_getElem hlt2] at hx
          injection hx with hx
          rw [hx]
        rw [← e2]; exact HF
      clear hx HF F0 I0
      go_wp2_with fail
      go_loopw [7] (fun jj wr => ∃ j : Nat, j ≤ i ∧ jj = .int .i64 j ∧ Hid (∀ s ∈ S.drop j, leZ x s = true) ∧ SrowN base g n cap w (insAtZ S j x (ss.drop (i + 1))) wr) (fun jj _ => (intOf jj).toNat)
      case atStart => exact ⟨i, Nat.le_refl _, rfl, (fun s hs => by rw [List.drop_of_length_le (by rw [HI.out.len]; exact Nat.le_refl _)] at hs; cases hs), F1.out⟩
      case round =>
        obtain ⟨j, hj, rfl, HD, HF⟩ := hrel
        by_cases h0 : j = 0
        · have G : Hid (∃ T, InsdZ leZ ss (i + 1) T ∧ SrowN base g n cap w (T ++ ss.drop (i + 1)) wr) :=
            have hT := HI.out.step (le := leZ) leZ_tr HX.out HD.out hj (fun y hy => by omega)
            ⟨_, hT, hin.out j _ _ hj HF hT rfl⟩
          obtain rfl : j = 0 := h0
          obtain ⟨T, hT, hW⟩ := G.out
          have GT := Lib.hid hT
          have GW := Lib.hid hW
          clear HF HD F1 G hT hW hin
          go_wp2_with fail
          go_quiet (fail)
          go_wp2
          go_roundw
          case rel => exact ⟨i + 1, T, by omega, by omega, by go_num, GT, GW.out.drewN _⟩
          case measure => simp [intOf]; omega
        · obtain ⟨k, rfl⟩ : ∃ k, j = k + 1 := ⟨j - 1, by omega⟩
          obtain ⟨y, hy⟩ := at_lt (show k < S.length by rw [HI.out.len]; omega)
          have hjl : k + 1 ≤ S.length := by rw [HI.out.len]; exact hj
          have c1 := HF.1.cellAt (k + 1) (by omega)
          have c2 := HF.1.cellAt k (by omega)
          have f1 := HF.1.frozenAt (k + 1)
          have f2 := HF.1.frozenAt k
          rw [ints_at (insAtZ_x hjl)] at c1
          rw [ints_at (insAtZ_y hjl hy)] at c2
          have hd : decide ((0 : Int) < (k : Int) + 1) = true := decide_eq_true (by omega)
          cases hyx : leZ y x
          · have HD2 : Hid (∀ s ∈ S.drop k, leZ x s = true) := ins_lowZ HD.out hy (leZ_to hyx)
            have HS : Hid (insAtZ S k x (ss.drop (i + 1)) = ((insAtZ S (k + 1) x (ss.drop (i + 1))).set (k + 1) y).set k x) := (insAtZ_swap hjl hy).symm
            have G : Hid (∀ m, SrowN base g n cap w (insAtZ S k x (ss.drop (i + 1))) (((wr.drewN m).setCell ⟨g, k + 1, none⟩ (.int .i64 y)).setCell ⟨g, k, none⟩ (.int .i64 x))) := fun m => by rw [HS.out]; exact (HF.drewN m).swap
            clear HF HD F1 hjl hy hin h0 HS
            have C0 : ∀ w : World, Calls Try.prog 130 #[.int .i64 x, .int .i64 y] w fun e w' => e = .returned (.bool true) ∧ w = w' := fun w => by have := numLess_any x y w; rw [hyx] at this; exact this
            go_wp2_with fail
            go_quiet ((go_at_call 130; exact quietL (C0 _)))
            go_wp2_with fail
            go_region
            go_wp2
            go_roundw
            case rel => exact ⟨k, by omega, by go_num, HD2, G.out _⟩
            case measure => simp [intOf]
          · have G : Hid (∃ T, InsdZ leZ ss (i + 1) T ∧ SrowN base g n cap w (T ++ ss.drop (i + 1)) wr) :=
              have hT := HI.out.step (le := leZ) leZ_tr HX.out HD.out hj (fun z _ hz => by rw [Nat.add_sub_cancel, hy] at hz; injection hz with hz; rw [← hz]; exact hyx)
              ⟨_, hT, hin.out (k + 1) _ _ hj HF hT rfl⟩
            obtain ⟨T, hT, hW⟩ := G.out
            have GT := Lib.hid hT
            have GW := Lib.hid hW
            clear HF HD F1 G hT hW hin hjl hy h0
            have C0 : ∀ w : World, Calls Try.prog 130 #[.int .i64 x, .int .i64 y] w fun e w' => e = .returned (.bool false) ∧ w = w' := fun w => by have := numLess_any x y w; rw [hyx] at this; exact this
            go_wp2_with fail
            go_quiet ((go_at_call 130; exact quietL (C0 _)))
            go_wp2
            go_roundw
            case rel => exact ⟨i + 1, T, by omega, by omega, by go_num, GT, GW.out.drewN _⟩
            case measure => simp [intOf]; omega
    · obtain rfl : i = n := by omega
      have G : Hid (SrowN base g i cap w (sortZ ss) wr) := by
        have e := HI.out.eq (fun h k => leZ_as h k) HL.out (sortZ_perm ss) (sortZ_sorted ss)
        rw [e, List.drop_of_length_le (by rw [HL.out]; exact Nat.le_refl _), List.append_nil] at HF
        exact HF
      clear HF F0 HI I0
      go_wp2
      go_end0
      exact ⟨rfl, G.out⟩
theorem bitsLenN_any (n : Nat) (hn : n ≤ 12) (w : World) : Calls Try.prog 134 #[.int .u64 n] w fun e w' => (∃ l : Int, e = .returned (.int .i64 l)) ∧ w = w' := by
  have h : n = 0 ∨ n = 1 ∨ n = 2 ∨ n = 3 ∨ n = 4 ∨ n = 5 ∨ n = 6 ∨ n = 7 ∨ n = 8 ∨ n = 9 ∨ n = 10 ∨ n = 11 ∨ n = 12 := by omega
  rcases h with rfl | rfl | rfl | rfl | rfl | rfl | rfl | rfl | rfl | rfl | rfl | rfl | rfl
  all_goals
    go_enter Try.func134, Try.ntmps134
    go_wp2
    go_ret
    exact ⟨⟨_, rfl⟩, rfl⟩
theorem bitsLenN (n : Nat) (hn : n ≤ 12) (w : World) : Calls Try.prog 123 #[.int .u64 n] w fun e w' => (∃ l : Int, e = .returned (.int .i64 l)) ∧ w = w' := by
  go_enter Try.func123, Try.ntmps123
  go_wp2_with fail
  refine (bitsLenN_any n hn _).mono ?_
  rintro e w' ⟨⟨l, rfl⟩, rfl⟩
  go_wp2
  go_ret
  exact ⟨⟨_, rfl⟩, rfl⟩
/-- what a sort leaves -/
def SortedN (base n : Nat) (v : Value) (w : World) (ls : List Int) (e : Ending) (w' : World) : Prop := e = .returned (.tuple #[]) ∧ w'.ownsRow base 79 1 v n (ints ls) ∧ w.grownBy w' v.ownBlock
theorem numInsert_all (A : Option Addr) (base n c : Nat) (ss : List Int) (w : World) (hn : n ≤ 12) (h : w.ownsRow base 79 1 (.slice A n c) n (ints ss)) :
    Calls Try.prog 124 #[.slice A n c, .int .i64 0, .int .i64 n] w (SortedN base n (.slice A n c) w (sortZ ss)) := by
  have hl : ss.length = n := by rw [← ints_length]; exact own_len h
  rcases Nat.eq_zero_or_pos n with h0 | h0
  · subst h0
    have e : ss = [] := List.eq_nil_of_length_eq_zero hl
    subst e
    clear hl
    go_enter Try.func124, Try.ntmps124
    go_wp2_with fail
    go_loopw [6] (fun i wr => i = .int .i64 1 ∧ wr = w) (fun i _ => 0)
    case atStart => exact ⟨rfl, rfl⟩
    case round =>
      obtain ⟨rfl, rfl⟩ := hrel
      go_wp2
      go_end0
      exact ⟨rfl, h, World.grownBy.refl _ _⟩
  · obtain ⟨g, cap, hv⟩ := own_form h h0
    injection hv with hA _ hcap
    subst hA hcap
    refine (numInsert_any base g n c ss w hl h0 hn h).mono ?_
    rintro e w' ⟨rfl, h1, h2⟩
    exact ⟨rfl, h1, h2⟩
theorem numPdq_any (A : Option Addr) (base n c : Nat) (ss : List Int) (l : Int) (w : World) (hn : n ≤ 12) (h : w.ownsRow base 79 1 (.slice A n c) n (ints ss)) :
    Calls Try.prog 122 #[.slice A n c, .int .i64 0, .int .i64 n, .int .i64 l] w (SortedN base n (.slice A n c) w (sortZ ss)) := by
  go_enter Try.func122, Try.ntmps122
  go_wp2_with fail
  go_loopw [1, 2] (fun a b wr => a = .int .i64 0 ∧ b = .int .i64 n ∧ wr = w) (fun _ _ _ => 0)
  case atStart => exact ⟨rfl, rfl, rfl⟩
  case round =>
    obtain ⟨rfl, rfl, rfl⟩ := hrel
    go_wp2_with fail
    refine (numInsert_all A base n c ss _ hn h).mono ?_
    rintro e w' ⟨rfl, h1, h2⟩
    go_wp2
    go_end0
    exact ⟨rfl, h1, h2⟩
theorem numSort_any (A : Option Addr) (base n c : Nat) (ss : List Int) (w : World) (hn : n ≤ 12) (h : w.ownsRow base 79 1 (.slice A n c) n (ints ss)) :
    Calls Try.prog 115 #[.slice A n c] w (SortedN base n (.slice A n c) w (sortZ ss)) := by
  go_enter Try.func115, Try.ntmps115
  go_wp2_with fail
  refine (bitsLenN n hn _).mono ?_
  rintro e w' ⟨⟨l, rfl⟩, rfl⟩
  go_wp2_with fail
  refine (numPdq_any A base n c ss l _ hn h).mono ?_
  rintro e w' ⟨rfl, h1, h2⟩
  go_wp2
  go_end0
  exact ⟨rfl, h1, h2⟩
end Go.Proofs.Ytfllcdcgfpjabaa
