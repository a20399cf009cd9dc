/-
  The library's sort of a few texts in a row of the call's own.
-/
import Derived.Test.YtnnihdkhblbdgaaGrow
import Derived.Test.YtnnihdkhblbdgaaMark1
import Derived.Test.YtnnihdkhblbdgaaTree
import Derived.BigRegion
namespace Go.Proofs.Ytnnihdkhblbdgaa
open Go.RowKit Fld
set_option linter.unusedVariables false
set_option linter.unusedSimpArgs false
set_option maxRecDepth 100000

def strs (ls : List (List UInt8)) : List Value := ls.map fun l => .string ⟨l.toArray⟩
theorem strs_at {ls : List (List UInt8)} {k : Nat} {l : List UInt8} (h : ls[k]? = some l) : (strs ls)[k]? = some (.string ⟨l.toArray⟩) := by
  unfold strs; rw [List.getElem?_map, h]; rfl
theorem strs_length (ls : List (List UInt8)) : (strs ls).length = ls.length := by simp [strs]
theorem strs_set (ls : List (List UInt8)) (k : Nat) (l : List UInt8) : strs (ls.set k l) = (strs ls).set k (.string ⟨l.toArray⟩) := by unfold strs; rw [List.map_set]

/-! what insertion does, in any order -/
section
variable {α : Type} {le : α → α → Bool}
def insAt (S : List α) (j : Nat) (x : α) (R : List α) : List α := S.take j ++ x :: (S.drop j ++ R)
theorem insAt_x {S R : List α} {j : Nat} {x : α} (h : j ≤ S.length) : (insAt S j x R)[j]? = some x := by
  unfold insAt
  have e : (S.take j).length = j := by rw [List.length_take]; omega
  rw [List.getElem?_append_right (by omega), e, Nat.sub_self]; rfl
theorem insAt_y {S R : List α} {j : Nat} {x y : α} (h : j + 1 ≤ S.length) (hy : S[j]? = some y) : (insAt S (j + 1) x R)[j]? = some y := by
  unfold insAt
  rw [List.getElem?_append_left (by rw [List.length_take]; omega), List.getElem?_take, if_pos (by omega)]; exact hy
theorem insAt_swap {S R : List α} {j : Nat} {x y : α} (h : j + 1 ≤ S.length) (hy : S[j]? = some y) : ((insAt S (j + 1) x R).set (j + 1) y).set j x = insAt S j x R := by
  unfold insAt
  have e : (S.take j).length = j := by rw [List.length_take]; omega
  have hd : S.drop j = y :: S.drop (j + 1) := by
    have hlt : j < S.length := by omega
    rw [List.drop_eq_getElem_cons hlt]
    rw [List.getElem?_eq_getElem hlt] at hy
    injection hy with hy
    rw [hy]
  rw [List.take_add_one, hy, hd]
  simp only [Option.toList_some, List.append_assoc, List.cons_append, List.nil_append]
  rw [List.set_append_right _ _ (by omega), e, show j + 1 - j = 1 from by omega, List.set_cons_succ, List.set_cons_zero, List.set_append_right _ _ (by omega), e, Nat.sub_self, List.set_cons_zero]
theorem insAt_start {S R : List α} {x : α} : insAt S S.length x R = S ++ x :: R := by unfold insAt; simp
theorem ins_perm (S : List α) (j : Nat) (x : α) : (S.take j ++ x :: S.drop j).Perm (x :: S) := by
  have := @List.perm_middle _ x (S.take j) (S.drop j)
  rwa [List.take_append_drop] at this
theorem ins_done (tr : ∀ {a b c : α}, le a b = true → le b c = true → le a c = true) {S : List α} {j : Nat} {x : α} (hS : S.Pairwise fun a b => le a b = true) (h1 : ∀ s ∈ S.drop j, le x s = true) (hj : j ≤ S.length) (h2 : ∀ y, 0 < j → S[j - 1]? = some y → le y x = true) : (S.take j ++ x :: S.drop j).Pairwise fun a b => le a b = true := by
  have hS' := hS
  rw [← List.take_append_drop j S, List.pairwise_append] at hS'
  obtain ⟨p1, p2, p3⟩ := hS'
  rw [List.pairwise_append, List.pairwise_cons]
  refine ⟨p1, ⟨h1, p2⟩, fun a ha b hb => ?_⟩
  rw [List.mem_cons] at hb
  rcases hb with rfl | hb
  · obtain ⟨i, hi⟩ := List.mem_iff_getElem?.1 ha
    rw [List.getElem?_take] at hi
    split at hi
    · rename_i hij
      obtain ⟨y, hy⟩ : ∃ y, S[j - 1]? = some y := ⟨_, List.getElem?_eq_getElem (by omega)⟩
      have hyx := h2 y (by omega) hy
      rcases Nat.lt_or_ge i (j - 1) with g | g
      · refine tr ?_ hyx
        have hi2 : i < S.length := by omega
        have hj2 : j - 1 < S.length := by omega
        rw [List.getElem?_eq_getElem hi2] at hi
        rw [List.getElem?_eq_getElem hj2] at hy
        injection hi with hi
        injection hy with hy
        subst hi hy
        exact List.pairwise_iff_getElem.1 hS i (j - 1) hi2 hj2 g
      · have : i = j - 1 := by omega
        subst this
        rw [hy] at hi
        injection hi with hi
        rw [← hi]; exact hyx
    · cases hi
  · exact p3 a ha b hb
theorem ins_low {S : List α} {j : Nat} {x y : α} (h1 : ∀ s ∈ S.drop (j + 1), le x s = true) (hy : S[j]? = some y) (hxy : le x y = true) : ∀ s ∈ S.drop j, le x s = true := by
  intro s hs
  have hlt : j < S.length := by
    rcases Nat.lt_or_ge j S.length with g | g
    · exact g
    · rw [List.getElem?_eq_none g] at hy; cases hy
  rw [List.drop_eq_getElem_cons hlt, List.mem_cons] at hs
  rw [List.getElem?_eq_getElem hlt] at hy
  injection hy with hy
  rcases hs with rfl | hs
  · rw [hy]; exact hxy
  · exact h1 s hs
/-- the first i of l, sorted, ahead of the others -/
structure Insd (le : α → α → Bool) (l : List α) (i : Nat) (S : List α) : Prop where
  len : S.length = i
  perm : S.Perm (l.take i)
  sorted : S.Pairwise fun a b => le a b = true
theorem Insd.one (l : List α) (h : 1 ≤ l.length) : Insd le l 1 (l.take 1) := by
  refine ⟨by rw [List.length_take]; omega, List.Perm.refl _, ?_⟩
  match l, h with
  | a :: r, _ => simp
theorem Insd.step (tr : ∀ {a b c : α}, le a b = true → le b c = true → le a c = true) {l S : List α} {i j : Nat} {x : α} (h : Insd le l i S) (hx : l[i]? = some x) (h1 : ∀ s ∈ S.drop j, le x s = true) (hj : j ≤ i) (h2 : ∀ y, 0 < j → S[j - 1]? = some y → le y x = true) : Insd le l (i + 1) (S.take j ++ x :: S.drop j) := by
  refine ⟨?_, ?_, ins_done (le := le) tr h.sorted h1 (by rw [h.len]; exact hj) h2⟩
  · have := (ins_perm S j x).length_eq
    rw [this, List.length_cons, h.len]
  · rw [List.take_add_one, hx]
    refine (ins_perm S j x).trans (((h.perm).cons x).trans ?_)
    exact (List.perm_append_singleton x _).symm
theorem Insd.eq (asy : ∀ {a b : α}, le a b = true → le b a = true → a = b) {l S : List α} {n : Nat} (h : Insd le l n S) (hl : l.length = n) {T : List α} (hp : T.Perm l) (hT : T.Pairwise fun a b => le a b = true) : S = T := by
  have p := h.perm
  rw [List.take_of_length_le (by omega)] at p
  exact List.Perm.eq_of_pairwise (le := fun a b => le a b = true) (fun a b _ _ h1 h2 => asy h1 h2) h.sorted hT (p.trans hp.symm)
end

theorem treeNaN_any (x : ByteArray) (w : World) : Calls Try.prog 151 #[.string x] w fun e w' => e = .returned (.bool false) ∧ w = w' := by
  go_enter Try.func151, Try.ntmps151
  go_wp2
  go_ret
  exact ⟨by simp, rfl⟩
theorem less_eq (x y : List UInt8) : Op.bytesLess x y = !Tr.leS y x := by
  induction x generalizing y with
  | nil => cases y <;> rfl
  | cons a x ih =>
    cases y with
    | nil => rfl
    | cons b y =>
      rw [Op.bytesLess, Tr.leS, ih]
      by_cases e : a = b
      · subst e; simp
      · have e' : ¬ b = a := fun h => e h.symm
        simp only [e, e', if_false, decide_false, Bool.false_and, Bool.or_false]
        rcases Nat.lt_or_ge a.toNat b.toNat with g | g
        · have h1 : a < b := UInt8.lt_iff_toNat_lt.2 g
          have h2 : ¬ b < a := fun h => by have := UInt8.lt_iff_toNat_lt.1 h; omega
          simp [h1, h2]
        · have h3 : a.toNat ≠ b.toNat := fun h => e (UInt8.toNat_inj.1 h)
          have h1 : b < a := UInt8.lt_iff_toNat_lt.2 (by omega)
          have h2 : ¬ a < b := fun h => by have := UInt8.lt_iff_toNat_lt.1 h; omega
          simp [h1, h2]
          exact fun h => absurd h e
theorem treeLess_any (x y : List UInt8) (w : World) : Calls Try.prog 144 #[.string ⟨x.toArray⟩, .string ⟨y.toArray⟩] w fun e w' => e = .returned (.bool (!Tr.leS y x)) ∧ w = w' := by
  go_enter Try.func144, Try.ntmps144
  go_wp2_with (go_at_call 151; refine (treeNaN_any _ _).mono ?_; rintro e w' ⟨rfl, rfl⟩)
  go_ret
  exact ⟨ret_bool (less_eq x y), rfl⟩
/-- a row of texts that a sort turns -/
def Srow (base g n cap : Nat) (w : World) (ls : List (List UInt8)) (wr : World) : Prop := wr.ownsRow base 73 1 (.slice (some ⟨g, 0, none⟩) n cap) n (strs ls) ∧ w.grownBy wr (some g)
theorem Srow.swap {base g n cap j : Nat} {w wr : World} {ls : List (List UInt8)} {x y : List UInt8} (h : Srow base g n cap w ls wr) :
    Srow base g n cap w ((ls.set (j + 1) y).set j x) ((wr.setCell ⟨g, j + 1, none⟩ (.string ⟨y.toArray⟩)).setCell ⟨g, j, none⟩ (.string ⟨x.toArray⟩)) := by
  obtain ⟨h1, h2⟩ := h.1.stored (j + 1) (.string ⟨y.toArray⟩)
  obtain ⟨h3, h4⟩ := h1.stored j (.string ⟨x.toArray⟩)
  rw [← strs_set, ← strs_set] at h3
  exact ⟨h3, grownBy_trans h.2 (grownBy_trans h2 h4)⟩
theorem Srow.drewN {base g n cap : Nat} {w wr : World} {ls : List (List UInt8)} (h : Srow base g n cap w ls wr) (m : Nat) : Srow base g n cap w ls (wr.drewN m) := ⟨h.1, ⟨h.2.os, h.2.tape, h.2.output, h.2.size, h.2.block⟩⟩
set_option maxHeartbeats 1000000 in
theorem treeInsert_any (base g n cap : Nat) (ss : List (List UInt8)) (w : World) (hl : ss.length = n) (h1 : 1 ≤ n) (hn : n ≤ 12) (h : w.ownsRow base 73 1 (.slice (some ⟨g, 0, none⟩) n cap) n (strs ss)) :
    Calls Try.prog 138 #[.slice (some ⟨g, 0, none⟩) n cap, .int .i64 0, .int .i64 n] w fun e w' => e = .returned (.tuple #[]) ∧ Srow base g n cap w (Tr.sortS ss) w' := by
  have HL := Lib.hid hl
  have F0 : Hid (Srow base g n cap w (ss.take 1 ++ ss.drop 1) w) := by rw [Hid, List.take_append_drop]; exact ⟨h, World.grownBy.refl _ _⟩
  have I0 := Lib.hid (Insd.one (le := Tr.leS) ss (by omega))
  clear hl h
  go_enter Try.func138, Try.ntmps138
  go_wp2_with fail
  go_loopw [6] (fun i wr => ∃ (k : Nat) (S : List (List UInt8)), 1 ≤ k ∧ k ≤ n ∧ i = .int .i64 k ∧ Hid (Insd Tr.leS ss k S) ∧ Srow base g n cap w (S ++ ss.drop k) wr) (fun i _ => n - (intOf i).toNat)
  case atStart => exact ⟨1, _, Nat.le_refl _, h1, rfl, I0, F0.out⟩
  case round =>
    obtain ⟨i, S, i1, hi, rfl, HI, HF⟩ := hrel
    by_cases hlt : i < n
    · obtain ⟨x, hx⟩ := at_lt (show i < ss.length by rw [HL.out]; exact hlt)
      have HX := Lib.hid hx
      have hin : Hid (∀ j T W, j ≤ i → Srow base g n cap w (insAt S j x (ss.drop (i + 1))) W → Insd Tr.leS ss (i + 1) T → T = S.take j ++ x :: S.drop j → Srow base g n cap w (T ++ ss.drop (i + 1)) W) := by
        intro j T W hj hW hT e
        subst e
        unfold insAt at hW
        simpa using hW
      have F1 : Hid (Srow base g n cap w (insAt S i x (ss.drop (i + 1))) wr) := by
        rw [Hid]
        have e := insAt_start (S := S) (R := ss.drop (i + 1)) (x := x)
        rw [HI.out.len] at e
        rw [e]
        have e2 : ss.drop i = x :: ss.drop (i + 1) := by
          have hlt2 : i < ss.length := by rw [HL.out]; exact hlt
          rw [List.drop_eq_getElem_cons hlt2]
          rw [List.getElem?_eq_getElem hlt2] at hx
          injection hx with hx
          rw [hx]
        rw [← e2]; exact HF
      clear hx HF F0 I0
      go_wp2_with fail
      go_loopw [7] (fun jj wr => ∃ j : Nat, j ≤ i ∧ jj = .int .i64 j ∧ Hid (∀ s ∈ S.drop j, Tr.leS x s = true) ∧ Srow base g n cap w (insAt S j x (ss.drop (i + 1))) wr) (fun jj _ => (intOf jj).toNat)
      case atStart => exact ⟨i, Nat.le_refl _, rfl, (fun s hs => by rw [List.drop_of_length_le (by rw [HI.out.len]; exact Nat.le_refl _)] at hs; cases hs), F1.out⟩
      case round =>
        obtain ⟨j, hj, rfl, HD, HF⟩ := hrel
        by_cases h0 : j = 0
        · have G : Hid (∃ T, Insd Tr.leS ss (i + 1) T ∧ Srow base g n cap w (T ++ ss.drop (i + 1)) wr) :=
            have hT := HI.out.step (le := Tr.leS) Tr.leS_tr HX.out HD.out hj (fun y hy => by omega)
            ⟨_, hT, hin.out j _ _ hj HF hT rfl⟩
          obtain rfl : j = 0 := h0
          obtain ⟨T, hT, hW⟩ := G.out
          have GT := Lib.hid hT
          have GW := Lib.hid hW
          clear HF HD F1 G hT hW hin
          go_wp2_with fail
          go_quiet (fail)
          go_wp2
          go_roundw
          case rel => exact ⟨i + 1, T, by omega, by omega, by go_num, GT, GW.out.drewN _⟩
          case measure => simp [intOf]; omega
        · obtain ⟨k, rfl⟩ : ∃ k, j = k + 1 := ⟨j - 1, by omega⟩
          obtain ⟨y, hy⟩ := at_lt (show k < S.length by rw [HI.out.len]; omega)
          have hjl : k + 1 ≤ S.length := by rw [HI.out.len]; exact hj
          have c1 := HF.1.cellAt (k + 1) (by omega)
          have c2 := HF.1.cellAt k (by omega)
          have f1 := HF.1.frozenAt (k + 1)
          have f2 := HF.1.frozenAt k
          rw [strs_at (insAt_x hjl)] at c1
          rw [strs_at (insAt_y hjl hy)] at c2
          have hd : decide ((0 : Int) < (k : Int) + 1) = true := decide_eq_true (by omega)
          cases hyx : Tr.leS y x
          · have HD2 : Hid (∀ s ∈ S.drop k, Tr.leS x s = true) := ins_low HD.out hy (Tr.leS_to hyx)
            have HS : Hid (insAt S k x (ss.drop (i + 1)) = ((insAt S (k + 1) x (ss.drop (i + 1))).set (k + 1) y).set k x) := (insAt_swap hjl hy).symm
            have G : Hid (∀ m, Srow base g n cap w (insAt S k x (ss.drop (i + 1))) (((wr.drewN m).setCell ⟨g, k + 1, none⟩ (.string ⟨y.toArray⟩)).setCell ⟨g, k, none⟩ (.string ⟨x.toArray⟩))) := fun m => by rw [HS.out]; exact (HF.drewN m).swap
            clear HF HD F1 hjl hy hin h0 HS
            have C0 : ∀ w : World, Calls Try.prog 144 #[.string ⟨x.toArray⟩, .string ⟨y.toArray⟩] w fun e w' => e = .returned (.bool true) ∧ w = w' := fun w => by have := treeLess_any x y w; rw [hyx] at this; exact this
            go_wp2_with fail
            go_quiet ((go_at_call 144; exact quietL (C0 _)))
            go_wp2_with fail
            go_region
            go_wp2
            go_roundw
            case rel => exact ⟨k, by omega, by go_num, HD2, G.out _⟩
            case measure => simp [intOf]
          · have G : Hid (∃ T, Insd Tr.leS ss (i + 1) T ∧ Srow base g n cap w (T ++ ss.drop (i + 1)) wr) :=
              have hT := HI.out.step (le := Tr.leS) Tr.leS_tr HX.out HD.out hj (fun z _ hz => by rw [Nat.add_sub_cancel, hy] at hz; injection hz with hz; rw [← hz]; exact hyx)
              ⟨_, hT, hin.out (k + 1) _ _ hj HF hT rfl⟩
            obtain ⟨T, hT, hW⟩ := G.out
            have GT := Lib.hid hT
            have GW := Lib.hid hW
            clear HF HD F1 G hT hW hin hjl hy h0
            have C0 : ∀ w : World, Calls Try.prog 144 #[.string ⟨x.toArray⟩, .string ⟨y.toArray⟩] w fun e w' => e = .returned (.bool false) ∧ w = w' := fun w => by have := treeLess_any x y w; rw [hyx] at this; exact this
            go_wp2_with fail
            go_quiet ((go_at_call 144; exact quietL (C0 _)))
            go_wp2
            go_roundw
            case rel => exact ⟨i + 1, T, by omega, by omega, by go_num, GT, GW.out.drewN _⟩
            case measure => simp [intOf]; omega
    · obtain rfl : i = n := by omega
      have G : Hid (Srow base g i cap w (Tr.sortS ss) wr) := by
        have e := HI.out.eq (fun h k => Tr.leS_as h k) HL.out (Tr.sortS_perm ss) (Tr.sortS_sorted ss)
        rw [e, List.drop_of_length_le (by rw [HL.out]; exact Nat.le_refl _), List.append_nil] at HF
        exact HF
      clear HF F0 HI I0
      go_wp2
      go_end0
      exact ⟨rfl, G.out⟩
theorem bitsLen_any (n : Nat) (hn : n ≤ 12) (w : World) : Calls Try.prog 148 #[.int .u64 n] w fun e w' => (∃ l : Int, e = .returned (.int .i64 l)) ∧ w = w' := by
  have h : n = 0 ∨ n = 1 ∨ n = 2 ∨ n = 3 ∨ n = 4 ∨ n = 5 ∨ n = 6 ∨ n = 7 ∨ n = 8 ∨ n = 9 ∨ n = 10 ∨ n = 11 ∨ n = 12 := by omega
  rcases h with rfl | rfl | rfl | rfl | rfl | rfl | rfl | rfl | rfl | rfl | rfl | rfl | rfl
  all_goals
    go_enter Try.func148, Try.ntmps148
    go_wp2
    go_ret
    exact ⟨⟨_, rfl⟩, rfl⟩
theorem bitsLen (n : Nat) (hn : n ≤ 12) (w : World) : Calls Try.prog 131 #[.int .u64 n] w fun e w' => (∃ l : Int, e = .returned (.int .i64 l)) ∧ w = w' := by
  go_enter Try.func131, Try.ntmps131
  go_wp2_with fail
  refine (bitsLen_any n hn _).mono ?_
  rintro e w' ⟨⟨l, rfl⟩, rfl⟩
  go_wp2
  go_ret
  exact ⟨⟨_, rfl⟩, rfl⟩
/-- what a sort leaves -/
def Sorted (base n : Nat) (v : Value) (w : World) (ls : List (List UInt8)) (e : Ending) (w' : World) : Prop := e = .returned (.tuple #[]) ∧ w'.ownsRow base 73 1 v n (strs ls) ∧ w.grownBy w' v.ownBlock
theorem treeInsert_all (A : Option Addr) (base n c : Nat) (ss : List (List UInt8)) (w : World) (hn : n ≤ 12) (h : w.ownsRow base 73 1 (.slice A n c) n (strs ss)) :
    Calls Try.prog 138 #[.slice A n c, .int .i64 0, .int .i64 n] w (Sorted base n (.slice A n c) w (Tr.sortS ss)) := by
  have hl : ss.length = n := by rw [← strs_length]; exact own_len h
  rcases Nat.eq_zero_or_pos n with h0 | h0
  · subst h0
    have e : ss = [] := List.eq_nil_of_length_eq_zero hl
    subst e
    clear hl
    go_enter Try.func138, Try.ntmps138
    go_wp2_with fail
    go_loopw [6] (fun i wr => i = .int .i64 1 ∧ wr = w) (fun i _ => 0)
    case atStart => exact ⟨rfl, rfl⟩
    case round =>
      obtain ⟨rfl, rfl⟩ := hrel
      go_wp2
      go_end0
      exact ⟨rfl, h, World.grownBy.refl _ _⟩
  · obtain ⟨g, cap, hv⟩ := own_form h h0
    injection hv with hA _ hcap
    subst hA hcap
    refine (treeInsert_any base g n c ss w hl h0 hn h).mono ?_
    rintro e w' ⟨rfl, h1, h2⟩
    exact ⟨rfl, h1, h2⟩
theorem treePdq_any (A : Option Addr) (base n c : Nat) (ss : List (List UInt8)) (l : Int) (w : World) (hn : n ≤ 12) (h : w.ownsRow base 73 1 (.slice A n c) n (strs ss)) :
    Calls Try.prog 130 #[.slice A n c, .int .i64 0, .int .i64 n, .int .i64 l] w (Sorted base n (.slice A n c) w (Tr.sortS ss)) := by
  go_enter Try.func130, Try.ntmps130
  go_wp2_with fail
  go_loopw [1, 2] (fun a b wr => a = .int .i64 0 ∧ b = .int .i64 n ∧ wr = w) (fun _ _ _ => 0)
  case atStart => exact ⟨rfl, rfl, rfl⟩
  case round =>
    obtain ⟨rfl, rfl, rfl⟩ := hrel
    go_wp2_with fail
    refine (treeInsert_all A base n c ss _ hn h).mono ?_
    rintro e w' ⟨rfl, h1, h2⟩
    go_wp2
    go_end0
    exact ⟨rfl, h1, h2⟩
theorem treeSort_any (A : Option Addr) (base n c : Nat) (ss : List (List UInt8)) (w : World) (hn : n ≤ 12) (h : w.ownsRow base 73 1 (.slice A n c) n (strs ss)) :
    Calls Try.prog 117 #[.slice A n c] w (Sorted base n (.slice A n c) w (Tr.sortS ss)) := by
  go_enter Try.func117, Try.ntmps117
  go_wp2_with fail
  refine (bitsLen n hn _).mono ?_
  rintro e w' ⟨⟨l, rfl⟩, rfl⟩
  go_wp2_with fail
  refine (treePdq_any A base n c ss l _ hn h).mono ?_
  rintro e w' ⟨rfl, h1, h2⟩
  go_wp2
  go_end0
  exact ⟨rfl, h1, h2⟩
end Go.Proofs.Ytnnihdkhblbdgaa
