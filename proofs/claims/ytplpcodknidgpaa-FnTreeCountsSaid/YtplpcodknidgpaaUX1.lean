/-
  Texts of this seat, joined: what several laws lean on.
-/
import Derived.Test.YtplpcodknidgpaaCan
import Derived.Test.YtplpcodknidgpaaSCan
import Derived.Test.YtplpcodknidgpaaTreeN
import Derived.Test.YtplpcodknidgpaaMxl
import Derived.Test.YtplpcodknidgpaaTreeOf
import Derived.Test.YtplpcodknidgpaaResO
import Derived.Test.YtplpcodknidgpaaTreeC8
import Derived.Test.YtplpcodknidgpaaTxt
import Derived.Test.YtplpcodknidgpaaLvl
import Derived.Test.YtplpcodknidgpaaTreeC5
import Derived.Test.YtplpcodknidgpaaLev
import Derived.Test.YtplpcodknidgpaaLab
import Derived.Test.YtplpcodknidgpaaGrow
import Derived.Laws.AppendOwnNone
import Derived.Test.YtplpcodknidgpaaNestc
import Derived.Test.YtplpcodknidgpaaMark1
import Derived.Test.YtplpcodknidgpaaPush
import Derived.Lib.SliceRun
import Derived.Test.YtplpcodknidgpaaTests
import Derived.RegionTactic
import Derived.ChangeAlike
import Derived.Deep.QuietTactic
import Derived.BigQuiet
import Derived.Laws.BitsAllLaws
import Derived.Laws.BitsLemmas
import Derived.Laws.OwnMore
import Derived.OwnWalk
import Derived.Test.YtplpcodknidgpaaNest
import Derived.Deep.DeepCutAuto
import Derived.Deep.CutBlock
/-
  Trees: the model's test and its canonical lists, beside the program's.
-/
namespace Go.Proofs.Ytplpcodknidgpaa
open Go.RowKit Fld
set_option linter.unusedVariables false
set_option linter.unusedSimpArgs false
set_option maxRecDepth 100000

theorem pIsTree_L (A : Option Addr) (n c B : Nat) (t : List Int) (w : World) (hl : t.length = n) (hn : n ≤ 1048576) (hB : B ≤ w.heap.size) (h : Row w B A (ints t)) (hc : n ≤ c) :
    Calls Try.prog 15 #[.slice A n c] w (ResB (isTr t) w) := isTree_any A n c B t w hl (by omega) hc hB h
end Go.Proofs.Ytplpcodknidgpaa
/-
  The model's list of all trees with n nodes, plainly.
-/
namespace Go.Proofs.Ytplpcodknidgpaa
set_option maxRecDepth 100000

theorem grow_trees {n : Nat} (h1 : 1 ≤ n) (h8 : n ≤ 8) : Tr.growF (n - 1) [0] [] = Tr.treesL n := by
  have h := List.all_eq_true.1 Tr.grow_eq (n - 1) (by rw [List.mem_range]; omega)
  rw [show n - 1 + 1 = n from by omega] at h
  exact eq_of_beq h
end Go.Proofs.Ytplpcodknidgpaa
/-
  What LeavesOf answers, the program's and the model's.
-/
namespace Go.Proofs.Ytplpcodknidgpaa
open Go.RowKit Fld
set_option linter.unusedVariables false
set_option linter.unusedSimpArgs false
set_option maxRecDepth 100000

def isLeaf (t : List Int) (i : Nat) : Bool := decide (i + 1 = t.length) || decide (t.getD (i + 1) 0 ≤ t.getD i 0)
def lvN (t : List Int) : Nat → Nat
  | 0 => 0
  | k+1 => lvN t k + if isLeaf t k then 1 else 0
theorem lvN_le (t : List Int) : ∀ k, lvN t k ≤ k
  | 0 => Nat.le_refl _
  | k+1 => by
    have := lvN_le t k
    unfold lvN
    split <;> omega
def chkLv (t : List Int) : Bool := decide (lvN t t.length = lvN (Tr.can t) t.length)
theorem chkLv_all : Tr.allLv.all chkLv = true := by decide +kernel
def chkLc (t : List Int) : Bool := decide (Lib.count (Tr.txt t) [91, 93] = lvN t t.length)
theorem chkLc_all : Tr.allL.all chkLc = true := by decide +kernel
theorem can_all {t : List Int} (h : Tr.isLv t = true) : Tr.can t ∈ Tr.allL := by
  obtain ⟨h1, h2⟩ := lv_can h
  have h3 := Tr.isLv_iff.1 h1
  have h4 := Tr.isLv_iff.1 h
  have p1 := h4.1
  have hm : Tr.can t ∈ Tr.treesL t.length := by
    rw [← grow_trees h4.1 h4.2.1]
    refine Tr.grow_all (t.length - 1) [0] [] (Tr.can t) (by simp) h3 (by show (Tr.can t).length = 1 + (t.length - 1); omega) ?_ (Tr.can_can h).1
    obtain ⟨x, hx⟩ := at_lt (show 0 < (Tr.can t).length by omega)
    have e := h3.2.2.1
    rw [lv_at hx] at e
    subst e
    show (Tr.can t).take 1 = [0]
    rw [List.take_add_one, hx]; rfl
  unfold Tr.allL
  rw [List.mem_flatMap]
  exact ⟨t.length - 1, List.mem_range.2 (by have := h4.2.1; omega), by rw [show t.length - 1 + 1 = t.length by omega]; exact hm⟩
theorem count_lv {t : List Int} (h : Tr.isLv t = true) : Lib.count (Tr.txt t) [91, 93] = lvN t t.length := by
  have h1 := Tr.all_of chkLv_all (Tr.isLv_iff.1 h)
  unfold chkLv at h1
  have h2 := List.all_eq_true.1 chkLc_all _ (can_all h)
  unfold chkLc at h2
  rw [decide_eq_true_eq] at h1 h2
  rw [← (Tr.can_can h).2, h2, (lv_can h).2, ← h1]
def leavesA (t : List Int) : Int × Int := if Tr.isLv t = true then (((lvN t t.length : Nat) : Int), 0) else (0, 1)
theorem leavesA_yes {t : List Int} (h : Tr.isLv t = true) : leavesA t = (((lvN t t.length : Nat) : Int), 0) := if_pos h
theorem leavesA_no {t : List Int} (h : Tr.isLv t = false) : leavesA t = (0, 1) := if_neg (by rw [h]; simp)
set_option maxHeartbeats 1000000 in
theorem pLeavesOf_M (A : Option Addr) (n c B : Nat) (t : List Int) (w : World) (hmx : MxCell w) (hl : t.length = n) (hn : n ≤ 1048576) (hB : B ≤ w.heap.size) (h : Row w B A (ints t)) (hc : n ≤ c) :
    Calls Try.prog 7 #[.slice A n c] w (ResI (leavesA t) w) := by
  have C0 := isLevels_any A n c B t w hl (by omega) h
  cases hlv : Tr.isLv t
  · have G := Lib.hid (leavesA_no hlv)
    rw [hlv] at C0
    go_enter Try.func7, Try.ntmps7
    go_wp2_with fail
    refine C0.mono ?_
    rintro e w' ⟨rfl, m, rfl⟩
    go_wp2
    go_ret2
    exact ResI.of' G.out (below_drewN (Below.refl _ _) _)
  · rw [hlv] at C0
    obtain ⟨b1, b8⟩ := lv_bd hlv
    rw [hl] at b1 b8
    have HL := Lib.hid hl
    have G := Lib.hid (leavesA_yes hlv)
    have hcnt := count_lv hlv
    have htl := (lv_txt hlv).2.2.2
    have C3 : ∀ w', MxCell w' → Calls Try.prog 20 #[.string ⟨(Tr.txt t).toArray⟩, .string ⟨#[91, 93]⟩] w' fun e w2 => e = .returned (.int .i64 ((lvN t t.length : Nat) : Int)) ∧ w2 = w' := fun w' hm => by
      obtain ⟨m, hm⟩ := hm
      have hsz : (⟨(Tr.txt t).toArray⟩ : ByteArray).size < 4294967281 := by rw [size_S]; omega
      have := Try.strings_Count ⟨(Tr.txt t).toArray⟩ ⟨#[91, 93]⟩ m w' hsz hm (by decide)
      have e : Lib.countB ⟨(Tr.txt t).toArray⟩ ⟨#[91, 93]⟩ = lvN t t.length := by
        rw [← hcnt]
      rw [e] at this
      exact this
    have hbd := lvN_le t t.length
    obtain ⟨L, hL⟩ : ∃ L, L = lvN t t.length := ⟨_, rfl⟩
    rw [← hL] at C3 G hbd
    clear hl hlv hcnt hL
    go_enter Try.func7, Try.ntmps7
    go_wp2_with fail
    refine C0.mono ?_
    rintro e w' ⟨rfl, m, rfl⟩
    go_wp2_with fail
    refine (treeOf_any A n c B t _ HL.out b1 b8 hc (by exact hB) (h.drewN m)).mono ?_
    rintro e w2 ⟨rfl, bel2⟩
    have GB : Hid (Below w.heap.size w w2) := below_undrew' bel2
    have HM2 := Lib.hid (hmx.below GB.out)
    clear bel2
    go_wp2_with fail
    refine (C3 _ HM2.out).mono ?_
    rintro e w3 ⟨rfl, rfl⟩
    go_wp2
    go_ret2
    exact ResI.of' G.out GB.out
set_option maxHeartbeats 1000000 in
theorem sLeavesOf_L (A : Option Addr) (n c B : Nat) (t : List Int) (w : World) (hl : t.length = n) (hn : n ≤ 1048576) (hB : B ≤ w.heap.size) (h : Row w B A (ints t)) :
    Calls Try.prog 5 #[.slice A n c] w (ResI (leavesA t) w) := by
  have C0 := l03Is_any A n c B t w hl hn h
  cases hlv : Tr.isLv t
  · have G := Lib.hid (leavesA_no hlv)
    rw [hlv] at C0
    clear hl
    go_enter Try.func5, Try.ntmps5
    go_wp2_with fail
    refine C0.mono ?_
    rintro e w' ⟨rfl, m, rfl⟩
    go_wp2
    go_ret2
    exact ResI.of' G.out (below_drewN (Below.refl _ _) _)
  · rw [hlv] at C0
    obtain ⟨b1, b8⟩ := lv_bd hlv
    rw [hl] at b1 b8
    have HL := Lib.hid hl
    have G := Lib.hid (leavesA_yes hlv)
    rw [hl] at G
    clear hl hlv
    go_enter Try.func5, Try.ntmps5
    go_wp2_with fail
    refine C0.mono ?_
    rintro e w' ⟨rfl, m, rfl⟩
    go_wp2_with fail
    go_loopw [4, 5] (fun v i wr => ∃ k d : Nat, k ≤ n ∧ v = .int .i64 ((lvN t k : Nat) : Int) ∧ i = .int .i64 k ∧ wr = w.drewN d) (fun _ i _ => n - (intOf i).toNat)
    case atStart => exact ⟨0, m, Nat.zero_le _, rfl, rfl, rfl⟩
    case round =>
      obtain ⟨k, d, hk, rfl, rfl, rfl⟩ := hrel
      by_cases hlt : k < n
      · obtain ⟨x, hx⟩ := at_lt (show k < t.length by rw [HL.out]; exact hlt)
        obtain ⟨b, o, rfl, _, hcx⟩ := h k _ (ints_at hx)
        have hle := lvN_le t k
        have hle2 := lvN_le t (k + 1)
        have hstep : lvN t (k + 1) = lvN t k + if isLeaf t k then 1 else 0 := rfl
        have k0 : (0 : Int) ≤ (k : Int) + 1 := by omega
        have ew : IntKind.i64.wrap ((k : Int) + 1) = (k : Int) + 1 := IntWalk.i64_in _ (by omega)
        have en : ((k : Int) + 1).toNat = k + 1 := by omega
        by_cases he : k + 1 = n
        · have hlf : isLeaf t k = true := by unfold isLeaf; rw [HL.out, decide_eq_true he]; rfl
          rw [hlf, if_pos rfl] at hstep
          have HS := Lib.hid hstep
          have te := beq_t (show (k : Int) + 1 = (n : Int) by omega)
          clear hstep hlf hx
          go_wp2_with fail
          try go_quiet (fail)
          go_wp2
          go_roundw
          case rel => exact ⟨k + 1, _, by omega, by rw [HS.out]; push_cast; rfl, by go_num, rfl⟩
          case measure => simp [intOf]; omega
        · obtain ⟨y, hy⟩ := at_lt (show k + 1 < t.length by rw [HL.out]; omega)
          obtain ⟨b', o', eA, _, hcy⟩ := h (k + 1) _ (ints_at hy)
          injection eA with eA
          injection eA with e1 e2 _
          subst e1 e2
          have k1 : (k : Int) + 1 < (n : Int) := by omega
          have te := beq_f (show ¬ ((k : Int) + 1 = (n : Int)) by omega)
          by_cases hyx : y ≤ x
          · have hlf : isLeaf t k = true := by unfold isLeaf; rw [List.getD_eq_getElem?_getD, List.getD_eq_getElem?_getD, hx, hy]; simp [hyx]
            rw [hlf, if_pos rfl] at hstep
            have HS := Lib.hid hstep
            clear hstep hlf hx hy
            go_wp2_with fail
            try go_quiet (fail)
            go_wp2
            go_roundw
            case rel => exact ⟨k + 1, _, by omega, by rw [HS.out]; push_cast; rfl, by go_num, rfl⟩
            case measure => simp [intOf]; omega
          · have hlf : isLeaf t k = false := by unfold isLeaf; rw [HL.out, List.getD_eq_getElem?_getD, List.getD_eq_getElem?_getD, hx, hy, decide_eq_false he]; simp; omega
            rw [hlf, if_neg (by simp)] at hstep
            have HS := Lib.hid hstep
            clear hstep hlf hx hy
            go_wp2_with fail
            try go_quiet (fail)
            go_wp2
            go_roundw
            case rel => exact ⟨k + 1, _, by omega, by rw [HS.out]; rfl, by go_num, rfl⟩
            case measure => simp [intOf]; omega
      · obtain rfl : k = n := by omega
        go_wp2
        go_ret2
        exact ResI.of' G.out (below_drewN (Below.refl _ _) _)
end Go.Proofs.Ytplpcodknidgpaa
/-
  Trees compared: by nodes, then by text.
-/
namespace Go.Proofs.Ytplpcodknidgpaa
open Go.RowKit Fld
set_option linter.unusedVariables false
set_option linter.unusedSimpArgs false
set_option maxRecDepth 100000

theorem intNaN_any (x : Int) (w : World) : Calls Try.prog 54 #[.int .i64 x] w fun e w' => e = .returned (.bool false) ∧ w = w' := by
  go_enter Try.func54, Try.ntmps54
  go_wp2
  go_ret
  exact ⟨by simp, rfl⟩
def cmpI (a b : Int) : Int := if a < b then -1 else if b < a then 1 else 0
theorem intCompare_any (a b : Int) (w : World) : Calls Try.prog 45 #[.int .i64 a, .int .i64 b] w fun e w' => e = .returned (.int .i64 (cmpI a b)) ∧ w = w' := by
  rcases Int.lt_trichotomy a b with g | g | g
  · have H : Hid (cmpI a b = -1) := if_pos g
    go_enter Try.func45, Try.ntmps45
    go_wp2_with (go_at_call 54; refine (intNaN_any _ _).mono ?_; rintro e w' ⟨rfl, rfl⟩)
    go_ret
    exact ⟨ret_i64 H.out.symm, rfl⟩
  · have H : Hid (cmpI a b = 0) := by unfold cmpI; rw [Hid, if_neg (by omega), if_neg (by omega)]
    have t1 : ¬ a < b := by omega
    have t2 : ¬ b < a := by omega
    clear g
    go_enter Try.func45, Try.ntmps45
    go_wp2_with (go_at_call 54; refine (intNaN_any _ _).mono ?_; rintro e w' ⟨rfl, rfl⟩)
    go_ret
    exact ⟨ret_i64 H.out.symm, rfl⟩
  · have H : Hid (cmpI a b = 1) := by unfold cmpI; rw [Hid, if_neg (by omega), if_pos g]
    have t1 : ¬ a < b := by omega
    go_enter Try.func45, Try.ntmps45
    go_wp2_with (go_at_call 54; refine (intNaN_any _ _).mono ?_; rintro e w' ⟨rfl, rfl⟩)
    go_ret
    exact ⟨ret_i64 H.out.symm, rfl⟩
def cmpX (x y : List UInt8) : Int := if Tr.ltS x y then -1 else if Tr.ltS y x then 1 else 0
theorem run_gtr_str (x y : List UInt8) (w : World) : Sem.run Try.prog (binOp .gtr 37 (.string ⟨x.toArray⟩) (.string ⟨y.toArray⟩)) w = .ok (.bool (Op.bytesLess y x)) w := by
  have e : (!Op.bytesLess x y && !x == y) = Op.bytesLess y x := by
    rw [less_eq, less_eq, Bool.not_not]
    cases h : Tr.leS x y
    · have h1 := Tr.leS_to h
      have hne : (x == y) = false := by
        rw [beq_eq_false_iff_ne]
        intro e
        subst e
        rw [h1] at h; cases h
      rw [h1, hne]; rfl
    · cases h2 : Tr.leS y x
      · rfl
      · have := Tr.leS_as h h2
        subst this
        simp
  simp [binOp, Op.stringOp, e]
theorem treeCompare_any (x y : List UInt8) (w : World) : Calls Try.prog 46 #[.string ⟨x.toArray⟩, .string ⟨y.toArray⟩] w fun e w' => e = .returned (.int .i64 (cmpX x y)) ∧ w = w' := by
  have l1 : Op.bytesLess x y = Tr.ltS x y := less_eq x y
  have l2 : Op.bytesLess y x = Tr.ltS y x := less_eq y x
  have l3 := run_gtr_str x y
  cases h1 : Tr.ltS x y
  · cases h2 : Tr.ltS y x
    · have H : Hid (cmpX x y = 0) := by unfold cmpX; rw [Hid, h1, h2]; rfl
      rw [h1] at l1
      rw [h2] at l2
      clear h1 h2
      go_enter Try.func46, Try.ntmps46
      go_wp2_with (go_at_call 55; refine (treeNaN_any _ _).mono ?_; rintro e w' ⟨rfl, rfl⟩)
      go_ret
      exact ⟨ret_i64 H.out.symm, rfl⟩
    · have H : Hid (cmpX x y = 1) := by unfold cmpX; rw [Hid, h1, h2]; rfl
      rw [h1] at l1
      rw [h2] at l2
      clear h1 h2
      go_enter Try.func46, Try.ntmps46
      go_wp2_with (go_at_call 55; refine (treeNaN_any _ _).mono ?_; rintro e w' ⟨rfl, rfl⟩)
      go_ret
      exact ⟨ret_i64 H.out.symm, rfl⟩
  · have H : Hid (cmpX x y = -1) := by unfold cmpX; rw [Hid, h1]; rfl
    rw [h1] at l1
    clear h1 l2
    go_enter Try.func46, Try.ntmps46
    go_wp2_with (go_at_call 55; refine (treeNaN_any _ _).mono ?_; rintro e w' ⟨rfl, rfl⟩)
    go_ret
    exact ⟨ret_i64 H.out.symm, rfl⟩
theorem orInt_any (a b : Int) (g : Nat) (w : World) (h0 : w.cell? ⟨g, 0, none⟩ = some (.int .i64 a)) (h1 : w.cell? ⟨g, 1, none⟩ = some (.int .i64 b)) :
    Calls Try.prog 44 #[.slice (some ⟨g, 0, none⟩) 2 2] w fun e w' => e = .returned (.int .i64 (if a ≠ 0 then a else b)) ∧ w = w' := by
  by_cases ha : a = 0
  · subst ha
    have H : Hid ((if (0 : Int) ≠ 0 then (0 : Int) else b) = b) := by rw [Hid]; simp
    by_cases hb : b = 0
    · subst hb
      go_enter Try.func44, Try.ntmps44
      go_wp2_with fail
      go_loop [8] (fun i => ∃ k : Nat, k ≤ 2 ∧ i = .int .i64 k) (fun i => 2 - (intOf i).toNat)
      case atStart => exact ⟨0, by omega, rfl⟩
      case round =>
        obtain ⟨k, hk, rfl⟩ := hrel
        rcases (show k = 0 ∨ k = 1 ∨ k = 2 by omega) with rfl | rfl | rfl
        · go_wp2
          go_round
          case rel => exact ⟨1, by omega, rfl⟩
          case measure => simp [intOf]
        · go_wp2
          go_round
          case rel => exact ⟨2, by omega, rfl⟩
          case measure => simp [intOf]
        · go_wp2
          go_ret
          exact ⟨by simp, rfl⟩
    · have tb := bne_t hb
      go_enter Try.func44, Try.ntmps44
      go_wp2_with fail
      go_loop [8] (fun i => ∃ k : Nat, k ≤ 1 ∧ i = .int .i64 k) (fun i => 2 - (intOf i).toNat)
      case atStart => exact ⟨0, by omega, rfl⟩
      case round =>
        obtain ⟨k, hk, rfl⟩ := hrel
        rcases (show k = 0 ∨ k = 1 by omega) with rfl | rfl
        · go_wp2
          go_round
          case rel => exact ⟨1, by omega, rfl⟩
          case measure => simp [intOf]
        · go_wp2
          go_ret
          exact ⟨ret_i64 H.out.symm, rfl⟩
  · have ta := bne_t ha
    have H : Hid ((if a ≠ 0 then a else b) = a) := if_pos ha
    go_enter Try.func44, Try.ntmps44
    go_wp2_with fail
    go_loop [8] (fun i => i = .int .i64 0) (fun i => 0)
    case atStart => rfl
    case round =>
      obtain rfl := hrel
      go_wp2
      go_ret
      exact ⟨by first | exact ret_i64 H.out.symm | exact ret_i64 rfl, rfl⟩
theorem cmp_or (x y : List UInt8) : (if cmpI ((x.length / 2 : Nat) : Int) ((y.length / 2 : Nat) : Int) ≠ 0 then cmpI ((x.length / 2 : Nat) : Int) ((y.length / 2 : Nat) : Int) else cmpX x y) = Tr.cmpT x y := by
  unfold cmpI cmpX Tr.cmpT
  by_cases h1 : x.length / 2 < y.length / 2
  · have e1 : ((x.length / 2 : Nat) : Int) < ((y.length / 2 : Nat) : Int) := by omega
    rw [if_pos e1, if_pos h1]; rfl
  · have e1 : ¬ ((x.length / 2 : Nat) : Int) < ((y.length / 2 : Nat) : Int) := by omega
    by_cases h2 : y.length / 2 < x.length / 2
    · have e2 : ((y.length / 2 : Nat) : Int) < ((x.length / 2 : Nat) : Int) := by omega
      rw [if_neg e1, if_neg h1, if_pos e2, if_pos h2]; rfl
    · have e2 : ¬ ((y.length / 2 : Nat) : Int) < ((x.length / 2 : Nat) : Int) := by omega
      rw [if_neg e1, if_neg h1, if_neg e2, if_neg h2]; rfl
set_option maxHeartbeats 400000 in
theorem compare_any (x y : List UInt8) (w : World) (hx : x.length ≤ 1048576) (hy : y.length ≤ 1048576) : Calls Try.prog 32 #[.string ⟨x.toArray⟩, .string ⟨y.toArray⟩] w fun e w' => e = .returned (.int .i64 (Tr.cmpT x y)) ∧ Below w.heap.size w w' := by
  have G := Lib.hid (cmp_or x y)
  obtain ⟨a, ha⟩ : ∃ a, a = cmpI ((x.length / 2 : Nat) : Int) ((y.length / 2 : Nat) : Int) := ⟨_, rfl⟩
  have C3 := fun w => intCompare_any ((x.length / 2 : Nat) : Int) ((y.length / 2 : Nat) : Int) w
  rw [← ha] at G
  simp only [← ha] at C3
  have C1 := fun w => nodes_any x w hx
  have C2 := fun w => nodes_any y w hy
  obtain ⟨p, hp⟩ : ∃ p, p = x.length / 2 := ⟨_, rfl⟩
  obtain ⟨q, hq⟩ : ∃ q, q = y.length / 2 := ⟨_, rfl⟩
  rw [← hp] at C1 C3
  rw [← hq] at C2 C3
  clear ha hx hy hp hq
  go_enter Try.func32, Try.ntmps32
  go_wp2_with fail
  refine (C1 _).mono ?_
  rintro e w' ⟨rfl, rfl⟩
  go_wp2_with fail
  refine (C2 _).mono ?_
  rintro e w' ⟨rfl, rfl⟩
  go_wp2_with fail
  refine (C3 _).mono ?_
  rintro e w' ⟨rfl, rfl⟩
  go_wp2_with fail
  refine (treeCompare_any x y _).mono ?_
  rintro e w' ⟨rfl, rfl⟩
  go_wp2_with fail
  have hal : Below w.heap.size w (w.alloc (.cells #[.int .i64 a, .int .i64 (cmpX x y)] 3)) := (Below.refl _ _).alloc (Nat.le_refl _) _
  refine (orInt_any a (cmpX x y) w.heap.size _ (by rw [World.cell?_alloc_at (hn := by simp)]; rfl) (by rw [World.cell?_alloc_at (hn := by simp)]; rfl)).mono ?_
  rintro e w' ⟨rfl, rfl⟩
  rw [G.out]
  go_wp2
  go_ret
  exact ⟨rfl, hal⟩
end Go.Proofs.Ytplpcodknidgpaa
/-
  Are all lists level lists?
-/
namespace Go.Proofs.Ytplpcodknidgpaa
open Go.RowKit Fld
set_option linter.unusedVariables false
set_option linter.unusedSimpArgs false
set_option maxRecDepth 100000

/-- lists that stand side by side in memory -/
def Lsts (w : World) (B : Nat) (A : Option Addr) (m : List (List Int)) : Prop :=
  ∀ (k : Nat) (r : List Int), m[k]? = some r → ∃ b o Ak ck, A = some ⟨b, o, none⟩ ∧ w.cell? ⟨b, o + k, none⟩ = some (.slice Ak r.length ck) ∧ Row w B Ak (ints r)
theorem Lsts.drewN {w : World} {B : Nat} {A : Option Addr} {m : List (List Int)} (h : Lsts w B A m) (d : Nat) : Lsts (w.drewN d) B A m := h
theorem Lsts.of_mat {w : World} {B : Nat} {A : Option Addr} {m : List (List Int)} (h : Mat w B A m) : Lsts w B A m := fun k r hr => by
  obtain ⟨b, o, Ak, ck, e, _, hc, _, _, hrow⟩ := h k r hr
  exact ⟨b, o, Ak, ck, e, hc, hrow⟩
def allLvM (m : List (List Int)) : Bool := m.all Tr.isLv
theorem allLvM_take {m : List (List Int)} {k : Nat} {r : List Int} (h : allLvM (m.take k) = true) (hr : m[k]? = some r) (hl : Tr.isLv r = true) : allLvM (m.take (k + 1)) = true := by
  unfold allLvM at *
  rw [List.take_add_one, hr, Option.toList_some, List.all_append, h]; simp [hl]
theorem allLvM_no {m : List (List Int)} {k : Nat} {r : List Int} (hr : m[k]? = some r) (hl : Tr.isLv r = false) : allLvM m = false := by
  unfold allLvM
  rw [List.all_eq_false]
  exact ⟨r, List.mem_of_getElem? hr, by rw [hl]; simp⟩
set_option maxHeartbeats 400000 in
theorem areLevels_any (A : Option Addr) (n c B : Nat) (m : List (List Int)) (w : World) (hl : m.length = n) (hn : n ≤ 1048576) (hr : ∀ r ∈ m, r.length ≤ 1048576) (h : Lsts w B A m) :
    Calls Try.prog 31 #[.slice A n c] w fun e w' => e = .returned (.bool (allLvM m)) ∧ ∃ d, w' = w.drewN d := by
  have HL := Lib.hid hl
  have HR := Lib.hid hr
  clear hl hr
  go_enter Try.func31, Try.ntmps31
  go_wp2_with fail
  go_loopw [7] (fun i wr => ∃ k d : Nat, k ≤ n ∧ i = .int .i64 k ∧ wr = w.drewN d ∧ Hid (allLvM (m.take k) = true)) (fun i _ => n - (intOf i).toNat)
  case atStart => exact ⟨0, 0, Nat.zero_le _, rfl, rfl, rfl⟩
  case round =>
    obtain ⟨k, d, hk, rfl, rfl, HT⟩ := hrel
    by_cases hlt : k < n
    · obtain ⟨r, hr⟩ := at_lt (show k < m.length by rw [HL.out]; exact hlt)
      obtain ⟨b, o, Ak, ck, rfl, hc, hrow⟩ := (h.drewN d) k r hr
      have C1 := isLevels_any Ak r.length ck B r (w.drewN d) rfl (by have := HR.out r (List.mem_of_getElem? hr); omega) hrow
      cases hlv : Tr.isLv r
      · have G := Lib.hid (allLvM_no hr hlv)
        rw [hlv] at C1
        clear hr hrow HT
        go_wp2_with fail
        refine C1.mono ?_
        rintro e w' ⟨rfl, d2, rfl⟩
        go_wp2
        go_ret
        exact ⟨ret_bool G.out.symm, _, rfl⟩
      · have G := Lib.hid (allLvM_take HT.out hr hlv)
        rw [hlv] at C1
        clear hr hrow HT
        go_wp2_with fail
        refine C1.mono ?_
        rintro e w' ⟨rfl, d2, rfl⟩
        go_wp2
        go_roundw
        case rel => exact ⟨k + 1, _, by omega, by go_num, rfl, G⟩
        case measure => simp [intOf]; omega
    · obtain rfl : k = n := by omega
      have G : Hid (allLvM m = true) := by
        have := HT.out
        rw [List.take_of_length_le (by rw [HL.out]; exact Nat.le_refl _)] at this
        exact this
      clear HT
      go_wp2
      go_ret
      exact ⟨ret_bool G.out.symm, _, rfl⟩
end Go.Proofs.Ytplpcodknidgpaa
/-
  What CompareTrees answers, the program's and the model's.
-/
namespace Go.Proofs.Ytplpcodknidgpaa
open Go.RowKit Fld
set_option linter.unusedVariables false
set_option linter.unusedSimpArgs false
set_option maxRecDepth 100000

def cmpA (s t : List Int) : Int × Int := if Tr.isLv s = true ∧ Tr.isLv t = true then (Tr.cmpL (Tr.can s) (Tr.can t), 0) else (0, 1)
theorem cmpA_yes {s t : List Int} (h : Tr.isLv s = true) (h' : Tr.isLv t = true) : cmpA s t = (Tr.cmpL (Tr.can s) (Tr.can t), 0) := if_pos ⟨h, h'⟩
theorem cmpA_no1 {s t : List Int} (h : Tr.isLv s = false) : cmpA s t = (0, 1) := if_neg (by rw [h]; simp)
theorem cmpA_no2 {s t : List Int} (h : Tr.isLv t = false) : cmpA s t = (0, 1) := if_neg (by rw [h]; simp)
set_option maxHeartbeats 1000000 in
theorem pCompareTrees_L (A A' : Option Addr) (n n' c c' B B' : Nat) (s t : List Int) (w : World) (hl : s.length = n) (hl' : t.length = n') (hn : n ≤ 1048576) (hn' : n' ≤ 1048576) (hB : B ≤ w.heap.size) (hB' : B' ≤ w.heap.size) (h : Row w B A (ints s)) (h' : Row w B' A' (ints t)) (hc : n ≤ c) (hc' : n' ≤ c') :
    Calls Try.prog 16 #[.slice A n c, .slice A' n' c'] w (ResI (cmpA s t) w) := by
  have hal : Below w.heap.size w (w.alloc (.cells #[.slice A n c, .slice A' n' c'] 22)) := (Below.refl _ _).alloc (Nat.le_refl _) _
  have hls : Lsts (w.alloc (.cells #[.slice A n c, .slice A' n' c'] 22)) w.heap.size (some ⟨w.heap.size, 0, none⟩) [s, t] := fun k r hr => by
    match k, hr with
    | 0, hr =>
      simp only [List.getElem?_cons_zero, Option.some.injEq] at hr
      subst hr
      exact ⟨_, _, A, c, rfl, by rw [hl, World.cell?_alloc_at (hn := by simp)]; rfl, (Row.below h hal hB).more hB⟩
    | 1, hr =>
      simp only [List.getElem?_cons_succ, List.getElem?_cons_zero, Option.some.injEq] at hr
      subst hr
      exact ⟨_, _, A', c', rfl, by rw [hl', World.cell?_alloc_at (hn := by simp)]; rfl, (Row.below h' hal hB').more hB'⟩
    | k+2, hr => simp at hr
  have C0 := areLevels_any (some ⟨w.heap.size, 0, none⟩) 2 2 w.heap.size [s, t] _ rfl (by omega) (fun r hr => by
    simp only [List.mem_cons, List.not_mem_nil, or_false] at hr
    rcases hr with rfl | rfl <;> omega) hls
  have hb : allLvM [s, t] = (Tr.isLv s && Tr.isLv t) := by simp [allLvM]
  rw [hb] at C0
  by_cases hlv : Tr.isLv s = true ∧ Tr.isLv t = true
  · obtain ⟨h1, h2⟩ := hlv
    have G := Lib.hid (cmpA_yes h1 h2)
    rw [← Tr.cmp_eq h1 h2] at G
    rw [h1, h2] at C0
    obtain ⟨a1, a8⟩ := lv_bd h1
    obtain ⟨b1, b8⟩ := lv_bd h2
    have z1 := (lv_txt h1).2.2.2
    have z2 := (lv_txt h2).2.2.2
    have HZ1 : Hid ((Tr.txt s).length ≤ 1048576) := by rw [Hid]; omega
    have HZ2 : Hid ((Tr.txt t).length ≤ 1048576) := by rw [Hid]; omega
    rw [hl] at a1 a8
    rw [hl'] at b1 b8
    have HL := Lib.hid hl
    have HL' := Lib.hid hl'
    clear hl hl' hls hb z1 z2 h1 h2
    go_enter Try.func16, Try.ntmps16
    go_wp2_with fail
    refine C0.mono ?_
    rintro e w1 ⟨rfl, d, rfl⟩
    go_wp2_with fail
    have B1 : Hid (Below w.heap.size w ((w.alloc (.cells #[.slice A n c, .slice A' n' c'] 22)).drewN d)) := below_drewN hal d
    refine (treeOf_any A n c B s _ HL.out a1 a8 hc (Nat.le_trans hB B1.out.size) (Row.below h B1.out hB)).mono ?_
    rintro e w2 ⟨rfl, bel2⟩
    have B2 : Hid (Below w.heap.size w w2) := B1.out.trans (bel2.mono B1.out.size)
    clear bel2
    go_wp2_with fail
    refine (treeOf_any A' n' c' B' t _ HL'.out b1 b8 hc' (Nat.le_trans hB' B2.out.size) (Row.below h' B2.out hB')).mono ?_
    rintro e w3 ⟨rfl, bel3⟩
    have B3 : Hid (Below w.heap.size w w3) := B2.out.trans (bel3.mono B2.out.size)
    clear bel3
    go_wp2_with fail
    refine (compare_any (Tr.txt s) (Tr.txt t) _ HZ1.out HZ2.out).mono ?_
    rintro e w4 ⟨rfl, bel4⟩
    have B4 : Hid (Below w.heap.size w w4) := B3.out.trans (bel4.mono B3.out.size)
    clear bel4
    go_wp2
    go_ret2
    exact ResI.of' G.out B4.out
  · have G : Hid (cmpA s t = (0, 1)) := if_neg hlv
    have e : (Tr.isLv s && Tr.isLv t) = false := by
      cases h1 : Tr.isLv s
      · rfl
      · cases h2 : Tr.isLv t
        · rfl
        · exact absurd ⟨h1, h2⟩ hlv
    rw [e] at C0
    clear hls hb e hlv
    go_enter Try.func16, Try.ntmps16
    go_wp2_with fail
    refine C0.mono ?_
    rintro e w1 ⟨rfl, d, rfl⟩
    go_wp2
    go_ret2
    exact ResI.of' G.out (below_drewN hal d)
end Go.Proofs.Ytplpcodknidgpaa
/-
  Heights: the greatest level.
-/
namespace Go.Proofs.Ytplpcodknidgpaa
open Go.RowKit Fld
set_option linter.unusedVariables false
set_option linter.unusedSimpArgs false
set_option maxRecDepth 100000

def maxTo (t : List Int) (k : Nat) : Int := (t.take k).foldl (fun m x => if m < x then x else m) 0
theorem maxTo_step {t : List Int} {k : Nat} {x : Int} (h : t[k]? = some x) : maxTo t (k + 1) = if maxTo t k < x then x else maxTo t k := by
  unfold maxTo; rw [List.take_add_one, h, Option.toList_some, List.foldl_append]; rfl
def heightA (t : List Int) : Int × Int := if Tr.isLv t = true then (maxTo t t.length, 0) else (0, 1)
theorem heightA_yes {t : List Int} (h : Tr.isLv t = true) : heightA t = (maxTo t t.length, 0) := if_pos h
theorem heightA_no {t : List Int} (h : Tr.isLv t = false) : heightA t = (0, 1) := if_neg (by rw [h]; simp)
theorem slicesMax_any (A : Option Addr) (n c B : Nat) (t : List Int) (w : World) (hl : t.length = n) (h1 : 1 ≤ n) (hn : n ≤ 1048576) (h0 : t.getD 0 0 = 0) (h : Row w B A (ints t)) :
    Calls Try.prog 28 #[.slice A n c] w fun e w' => e = .returned (.int .i64 (maxTo t n)) ∧ w = w' := by
  obtain ⟨z, hz⟩ := at_lt (show 0 < t.length by omega)
  obtain ⟨b, o, rfl, _, hcz⟩ := h 0 _ (ints_at hz)
  rw [Nat.add_zero] at hcz
  have HL := Lib.hid hl
  have ez : z = 0 := by rw [lv_at hz] at h0; exact h0
  subst ez
  have n0' : (0 : Int) < (n : Int) := by omega
  have hm1 : Hid (maxTo t 1 = 0) := by rw [Hid, maxTo_step hz]; unfold maxTo; rfl
  clear hl hz h0
  go_enter Try.func28, Try.ntmps28
  go_wp2_with fail
  go_loop [3, 4] (fun m i => ∃ k : Nat, 1 ≤ k ∧ k ≤ n ∧ m = .int .i64 (maxTo t k) ∧ i = .int .i64 k) (fun _ i => n - (intOf i).toNat)
  case atStart => exact ⟨1, Nat.le_refl _, h1, by rw [hm1.out], rfl⟩
  case round =>
    obtain ⟨k, k1, hk, rfl, rfl⟩ := hrel
    by_cases hlt : k < n
    · obtain ⟨x, hx⟩ := at_lt (show k < t.length by rw [HL.out]; exact hlt)
      obtain ⟨_, _, e1, _, hc⟩ := h k _ (ints_at hx)
      cases e1
      have G := Lib.hid (maxTo_step hx)
      obtain ⟨m, hm⟩ : ∃ m, m = maxTo t k := ⟨_, rfl⟩
      rw [← hm] at G ⊢
      clear hx hm
      go_wp2
      go_round
      case rel => exact ⟨k + 1, by omega, by omega, by rw [G.out]; try (congr 1; split <;> omega), by go_num⟩
      case measure => simp [intOf]; omega
    · obtain rfl : k = n := by omega
      go_wp2
      go_ret
      exact ⟨rfl, rfl⟩
theorem pHeightOf_L (A : Option Addr) (n c B : Nat) (t : List Int) (w : World) (hl : t.length = n) (hn : n ≤ 1048576) (hB : B ≤ w.heap.size) (h : Row w B A (ints t)) :
    Calls Try.prog 14 #[.slice A n c] w (ResI (heightA t) w) := by
  have C0 := isLevels_any A n c B t w hl (by omega) h
  cases hlv : Tr.isLv t
  · have G := Lib.hid (heightA_no hlv)
    rw [hlv] at C0
    go_enter Try.func14, Try.ntmps14
    go_wp2_with fail
    refine C0.mono ?_
    rintro e w' ⟨rfl, m, rfl⟩
    go_wp2
    go_ret2
    exact ResI.of' G.out (below_drewN (Below.refl _ _) _)
  · have G := Lib.hid (heightA_yes hlv)
    rw [hlv] at C0
    have h3 := Tr.isLv_iff.1 hlv
    have C1 := fun m => slicesMax_any A n c B t (w.drewN m) hl (by have := h3.1; omega) hn h3.2.2.1 (h.drewN m)
    rw [hl] at G
    clear hl hlv h3
    go_enter Try.func14, Try.ntmps14
    go_wp2_with fail
    refine C0.mono ?_
    rintro e w' ⟨rfl, m, rfl⟩
    go_wp2_with fail
    refine (C1 m).mono ?_
    rintro e w' ⟨rfl, rfl⟩
    go_wp2
    go_ret2
    exact ResI.of' G.out (below_drewN (Below.refl _ _) _)
end Go.Proofs.Ytplpcodknidgpaa
/-
  What LabellingsOf answers, the program's and the model's.
-/
namespace Go.Proofs.Ytplpcodknidgpaa
open Go.RowKit Fld
set_option linter.unusedVariables false
set_option linter.unusedSimpArgs false
set_option maxRecDepth 100000

def labellingsA (t : List Int) : Int × Int := if Tr.isLv t = true then (((factN t.length).tdiv (Tr.syM t)).tdiv (Tr.denM t), 0) else (0, 1)
theorem labellingsA_yes {t : List Int} (h : Tr.isLv t = true) : labellingsA t = (((factN t.length).tdiv (Tr.syM t)).tdiv (Tr.denM t), 0) := if_pos h
theorem labellingsA_no {t : List Int} (h : Tr.isLv t = false) : labellingsA t = (0, 1) := if_neg (by rw [h]; simp)
theorem pLabellingsOf_L (A : Option Addr) (n c B : Nat) (t : List Int) (w : World) (hl : t.length = n) (hn : n ≤ 1048576) (hB : B ≤ w.heap.size) (h : Row w B A (ints t)) (hc : n ≤ c) :
    Calls Try.prog 13 #[.slice A n c] w (ResI (labellingsA t) w) := by
  have C0 := isLevels_any A n c B t w hl (by omega) h
  cases hlv : Tr.isLv t
  · have G := Lib.hid (labellingsA_no hlv)
    rw [hlv] at C0
    go_enter Try.func13, Try.ntmps13
    go_wp2_with fail
    refine C0.mono ?_
    rintro e w' ⟨rfl, m, rfl⟩
    go_wp2
    go_ret2
    exact ResI.of' G.out (below_drewN (Below.refl _ _) _)
  · rw [hlv] at C0
    obtain ⟨b1, b8⟩ := lv_bd hlv
    rw [hl] at b1 b8
    have HL := Lib.hid hl
    have G := Lib.hid (labellingsA_yes hlv)
    have C3 := fun w => labellings_any (Tr.txt t) w (Tr.tx_txt hlv)
    have e2 : (Tr.txt t).length / 2 = t.length := by rw [(lv_txt hlv).2.2.2]; omega
    rw [(Tr.syM_parts hlv).2.1, (Tr.denM_parts hlv).2, e2] at C3
    obtain ⟨v, hv⟩ : ∃ v, v = ((factN t.length).tdiv (Tr.syM t)).tdiv (Tr.denM t) := ⟨_, rfl⟩
    rw [← hv] at G C3
    clear hl hlv e2 hv
    go_enter Try.func13, Try.ntmps13
    go_wp2_with fail
    refine C0.mono ?_
    rintro e w' ⟨rfl, m, rfl⟩
    go_wp2_with fail
    refine (treeOf_any A n c B t _ HL.out b1 b8 hc (by exact hB) (h.drewN m)).mono ?_
    rintro e w2 ⟨rfl, bel2⟩
    go_wp2_with fail
    refine (C3 _).mono ?_
    rintro e w3 ⟨rfl, bel3⟩
    have GB : Hid (Below w.heap.size w w3) := (below_undrew' bel2).trans (bel3.mono bel2.size)
    clear bel2 bel3
    go_wp2
    go_ret2
    exact ResI.of' G.out GB.out
end Go.Proofs.Ytplpcodknidgpaa
/-
  The model's copy of a list.
-/
namespace Go.Proofs.Ytplpcodknidgpaa
open Go.RowKit Fld
set_option linter.unusedVariables false
set_option linter.unusedSimpArgs false
set_option maxRecDepth 100000

theorem Row.news {w : World} {B : Nat} {ad : Addr} {vs : List Value} (h : Row w B (some ad) vs) : ∀ j u, vs[j]? = some u → w.cell? (ad.add j) = some u := by
  intro j u hu
  obtain ⟨b, o, e, _, hc⟩ := h j u hu
  cases e
  have : (⟨b, o, none⟩ : Addr).add j = ⟨b, o + j, none⟩ := by unfold Addr.add; split <;> simp_all
  rw [this]; exact hc
theorem NewRow.own {w w' : World} {T : TypeId} {v : Value} {n : Nat} {vs : List Value} (h : w'.ownsRow w.heap.size T 1 v n vs) (hb : Below w.heap.size w w') : NewRow T n vs w (.returned v) w' := by
  rcases h.2 with ⟨rfl, rfl⟩ | ⟨g, cap, cur, rfl, _⟩
  · exact ⟨_, _, rfl, h, hb⟩
  · exact ⟨_, _, rfl, h, hb⟩
theorem l01Own_any (ad : Addr) (n c B : Nat) (xs : List Int) (w : World) (hl : xs.length = n) (hn : n ≤ 1048576) (hB : B ≤ w.heap.size) (h : Row w B (some ad) (ints xs)) :
    Calls Try.prog 52 #[.slice (some ad) n c] w (NewRow 2 n (ints xs) w) := by
  obtain ⟨i0, hi, hz0, hz1, hz2⟩ := info_parts info_i64
  have hnews := (h.alloc hB (.cells #[] 2)).news
  have hlen : (ints xs).length = n * 1 := by rw [ints_length, hl, Nat.mul_one]
  have h1 := ints_cells xs
  have hown0 := (Growing.start w 2).1
  have hbel0 := (Growing.start w 2).2
  go_enter Try.func52, Try.ntmps52
  go_wp2_with (at_builtin; refine wpList_append_own _ rfl (.tmp 3) (.tmp 4) 22 rfl w.heap.size 2 i0 _ 1 8 Try.underlying22 hi hz0 hz1 hz2 rfl (by omega) (.slice (some ⟨w.heap.size, 0, none⟩) 0 0) 0 [] rfl hown0 ad n c (ints xs) rfl hlen hnews h1 (by simp only [maxLen]; omega) (by omega) (by simp) ?_; intro v' w' hown hgrow _)
  go_ret
  rw [Nat.zero_add] at hown
  exact NewRow.own hown (hbel0.grown hgrow (by simp) (fun k hk => (hown0.lt k hk).1))
end Go.Proofs.Ytplpcodknidgpaa
/-
  The next lower list of a tree, in place.
-/
namespace Go.Proofs.Ytplpcodknidgpaa
open Go.RowKit Fld
set_option linter.unusedVariables false
set_option linter.unusedSimpArgs false
set_option maxRecDepth 100000

theorem last_le (t : List Int) : ∀ k, Tr.lastF t k ≤ k
  | 0 => Nat.le_refl _
  | k+1 => by rw [Tr.lastF]; split; · have := last_le t k; omega
              · exact Nat.le_refl _
theorem par_le (t : List Int) (x : Int) : ∀ k, Tr.parF t x k ≤ k
  | 0 => Nat.le_refl _
  | k+1 => by rw [Tr.parF]; split; · have := par_le t x k; omega
              · exact Nat.le_refl _
/-- what lower leaves -/
def Lowered (base g n cap : Nat) (t : List Int) (w : World) (e : Ending) (w' : World) : Prop :=
  (Tr.lowerL t = none ∧ e = .returned (.bool false) ∧ w = w') ∨ (∃ u, Tr.lowerL t = some u ∧ e = .returned (.bool true) ∧ w'.ownsRow base 2 1 (.slice (some ⟨g, 0, none⟩) n cap) n (ints u) ∧ w.grownBy w' (some g))
theorem cpy_step {d f i : Nat} {t : List Int} {x : Int} (hx : t[i - d]? = some x) : Tr.cpyF d (f + 1) i t = Tr.cpyF d f (i + 1) (t.set i x) := by
  rw [Tr.cpyF, lv_at hx]
def Cpd (base g n cap : Nat) (w : World) (T : List Int) (wr : World) : Prop := wr.ownsRow base 2 1 (.slice (some ⟨g, 0, none⟩) n cap) n (ints T) ∧ w.grownBy wr (some g)
theorem Cpd.step {base g n cap i : Nat} {w wr : World} {T : List Int} {x : Int} (h : Cpd base g n cap w T wr) : Cpd base g n cap w (T.set i x) (wr.setCell ⟨g, i, none⟩ (.int .i64 x)) := by
  obtain ⟨h1, h2⟩ := h.1.stored i (.int .i64 x)
  have e : (ints T).set i (.int .i64 x) = ints (T.set i x) := by unfold ints intsK; rw [List.map_set]
  rw [e] at h1
  exact ⟨h1, grownBy_trans h.2 h2⟩
theorem Cpd.start {base g n cap : Nat} {w : World} {t : List Int} (h : w.ownsRow base 2 1 (.slice (some ⟨g, 0, none⟩) n cap) n (ints t)) (M : Nat) : Cpd base g n cap (w.drewN M) t (w.drewN M) := ⟨h, World.grownBy.refl _ _⟩
set_option maxHeartbeats 1000000 in
theorem lower_any (base g n cap : Nat) (t : List Int) (w : World) (hl : t.length = n) (hlv : Tr.isLv t = true) (h : w.ownsRow base 2 1 (.slice (some ⟨g, 0, none⟩) n cap) n (ints t)) :
    Calls Try.prog 39 #[.slice (some ⟨g, 0, none⟩) n cap] w fun e w' => ∃ m, Lowered base g n cap t (w.drewN m) e w' := by
  have h3 := Tr.isLv_iff.1 hlv
  have n1 : 1 ≤ n := by have := h3.1; omega
  have n8 : n ≤ 8 := by have := h3.2.1; omega
  have HST : Hid (StepsTo t n) := by rw [Hid, ← hl]; exact h3.2.2.2
  have HZ : Hid (t.getD 0 0 = 0) := h3.2.2.1
  have HL := Lib.hid hl
  have HO := Lib.hid h
  have HLAST : Hid (Tr.lastF t (t.length - 1) = Tr.lastF t (n - 1)) := by rw [Hid, hl]
  clear hl hlv h3 h
  go_enter Try.func39, Try.ntmps39
  go_wp2_with fail
  go_loop [3] (fun l => ∃ k : Nat, k < n ∧ l = .int .i64 k ∧ Hid (Tr.lastF t (n - 1) = Tr.lastF t k)) (fun l => (intOf l).toNat)
  case atStart => exact ⟨n - 1, by omega, by go_num, rfl⟩
  case round =>
    obtain ⟨k, hk, rfl, HK⟩ := hrel
    obtain ⟨x, hx⟩ := at_lt (show k < t.length by rw [HL.out]; exact hk)
    have hcx := HO.out.cellAt k (by omega)
    rw [ints_at hx] at hcx
    have HX := Lib.hid hx
    rcases Nat.eq_zero_or_pos k with k0 | k0
    · subst k0
      have G : Hid (Tr.lowerL t = none) := by
        rw [Hid, Tr.lowerL]
        simp only [HLAST.out, HK.out]
        rfl
      clear hx HK
      go_wp2
      go_ret
      exact ⟨0, .inl ⟨G.out, rfl, rfl⟩⟩
    · obtain ⟨j, rfl⟩ : ∃ j, k = j + 1 := ⟨k - 1, by omega⟩
      by_cases hx1 : x = 1
      · have G : Hid (Tr.lastF t (n - 1) = Tr.lastF t j) := by
          rw [Hid, HK.out, Tr.lastF, lv_at hx, if_pos hx1]
        subst hx1
        clear hx HK
        go_wp2
        go_round
        case rel => exact ⟨j, by omega, by go_num, G⟩
        case measure => simp [intOf]
      · have tx := beq_f hx1
        have HLL : Hid (Tr.lastF t (n - 1) = j + 1) := by
          rw [Hid, HK.out, Tr.lastF, lv_at hx, if_neg hx1]
        have hxp : 1 ≤ x := by have := (HST.out (j + 1) hk (by omega)).1; rw [lv_at hx] at this; exact this
        clear hx HK
        have tz : ((j : Int) + 1 == 0) = false := beq_f (by omega)
        go_wp2_with fail
        go_loopw [4] (fun pp wr => ∃ p m : Nat, p ≤ j ∧ pp = .int .i64 p ∧ wr = w.drewN m ∧ Hid (Tr.parF t x j = Tr.parF t x p)) (fun pp _ => (intOf pp).toNat)
        case atStart => exact ⟨j, 0, Nat.le_refl _, by go_num, rfl, rfl⟩
        case round =>
          obtain ⟨p, m, hp, rfl, rfl, HP⟩ := hrel
          obtain ⟨y, hy⟩ := at_lt (show p < t.length by rw [HL.out]; omega)
          have hcy := HO.out.cellAt p (by omega)
          rw [ints_at hy] at hcy
          have hcx' : (w.drewN m).cell? ⟨g, j + 1, none⟩ = some (.int .i64 x) := hcx
          have hcy' : (w.drewN m).cell? ⟨g, p, none⟩ = some (.int .i64 y) := hcy
          by_cases hxy : x ≤ y
          · have hd : decide (x ≤ y) = true := decide_eq_true hxy
            obtain ⟨q, rfl⟩ : ∃ q, p = q + 1 := ⟨p - 1, by
              rcases Nat.eq_zero_or_pos p with e | e
              · subst e; have h9 := HZ.out; rw [lv_at hy] at h9; omega
              · omega⟩
            have G : Hid (Tr.parF t x j = Tr.parF t x q) := by
              rw [Hid, HP.out, Tr.parF, lv_at hy, if_pos hxy]
            clear hy HP
            go_wp2_with fail
            go_quiet (fail)
            go_wp2
            go_roundw
            case rel => exact ⟨q, _, by omega, by go_num, rfl, G⟩
            case measure => simp [intOf]
          · have hd : decide (x ≤ y) = false := decide_eq_false hxy
            have HPP : Hid (Tr.parF t x j = p) := by
              rw [Hid, HP.out]
              match p, hy with
              | 0, _ => rfl
              | q+1, hy => rw [Tr.parF, lv_at hy, if_neg hxy]
            have HLO : Hid (Tr.lowerL t = some (Tr.cpyF (j + 1 - p) (n - (j + 1)) (j + 1) t)) := by
              rw [Hid, Tr.lowerL]
              simp only [HL.out, HLL.out, lv_at HX.out, Nat.add_sub_cancel, HPP.out]
              rfl
            clear hy HP HLL
            go_wp2_with fail
            go_quiet (fail)
            go_wp2_with fail
            go_loopw [5] (fun ii wr => ∃ (e : Nat) (T : List Int), j + 1 + e ≤ n ∧ ii = .int .i64 ((j + 1 + e : Nat) : Int) ∧ Hid (Tr.cpyF (j + 1 - p) (n - (j + 1)) (j + 1) t = Tr.cpyF (j + 1 - p) (n - (j + 1 + e)) (j + 1 + e) T) ∧ Hid (T.length = n) ∧ ∃ M, Cpd base g n cap (w.drewN M) T wr) (fun ii _ => n - (intOf ii).toNat)
            case atStart => exact ⟨0, t, by omega, by go_num, rfl, HL.out, _, by rw [World.drewN_drewN]; exact Cpd.start HO.out _⟩
            case round =>
              obtain ⟨e, T, he, rfl, HC, HT, M, HD⟩ := hrel
              by_cases hlt : j + 1 + e < n
              · have hep : e + p < j + 1 + e := by omega
                obtain ⟨z, hz⟩ := at_lt (show e + p < T.length by rw [HT.out]; omega)
                have hcz := HD.1.cellAt (e + p) (by omega)
                rw [ints_at hz] at hcz
                obtain ⟨old, hold⟩ := at_lt (show j + 1 + e < T.length by rw [HT.out]; exact hlt)
                have hco := HD.1.cellAt (j + 1 + e) (by omega)
                rw [ints_at hold] at hco
                have hfo := HD.1.frozenAt (j + 1 + e)
                have HC2 : Hid (Tr.cpyF (j + 1 - p) (n - (j + 1)) (j + 1) t = Tr.cpyF (j + 1 - p) (n - (j + 1 + (e + 1))) (j + 1 + (e + 1)) (T.set (j + 1 + e) z)) := by
                  rw [Hid, HC.out, show n - (j + 1 + e) = n - (j + 1 + (e + 1)) + 1 from by omega, cpy_step (x := z) (by rw [show j + 1 + e - (j + 1 - p) = e + p from by omega]; exact hz)]
                  rfl
                have HT2 : Hid ((T.set (j + 1 + e) z).length = n) := by rw [Hid, List.length_set]; exact HT.out
                have G := Lib.hid (HD.step (i := j + 1 + e) (x := z))
                have ew1 : ((j + 1 + e : Nat) : Int) - ((j : Int) + 1) = (e : Int) := by omega
                clear hz hold HD HC
                go_wp2
                go_roundw
                case rel => exact ⟨e + 1, T.set (j + 1 + e) z, by omega, by go_num, HC2, HT2, M, G.out⟩
                case measure => simp [intOf]; omega
              · have hne : n = j + 1 + e := by omega
                have G : Hid (∃ m, Lowered base g n cap t (w.drewN m) (.returned (.bool true)) wr) := by
                  have hc := HC.out
                  rw [show n - (j + 1 + e) = 0 from by omega, Tr.cpyF] at hc
                  exact ⟨M, .inr ⟨T, by rw [HLO.out, hc], rfl, HD.1, HD.2⟩⟩
                clear HD HC
                go_wp2
                go_ret
                exact G.out
end Go.Proofs.Ytplpcodknidgpaa
/-
  Marks that the laws write into lists of the call's own, and their reading.
-/
namespace Go.Proofs.Ytplpcodknidgpaa
open Go.RowKit Fld
set_option linter.unusedVariables false
set_option linter.unusedSimpArgs false
set_option maxRecDepth 100000

def MarkedM (lo hi n : Nat) (v : Value) (k : Int) (m : List (List Int)) (vs : List Value) (w : World) (e : Ending) (w' : World) : Prop :=
  e = .returned (.int .i64 (k + (total m : Nat))) ∧ OwnMat w' lo hi v n (marksM k m) vs ∧ Within lo hi w w'
def MarkingM (lo hi n : Nat) (v : Value) (k : Int) (m : List (List Int)) (vs : List Value) (r : Nat) (w wr : World) : Prop :=
  OwnMat wr lo hi v n ((marksM k m).take r ++ m.drop r) vs ∧ Within lo hi w wr
theorem MarkingM.step {lo hi n r c : Nat} {v : Value} {A : Option Addr} {k : Int} {m : List (List Int)} {vs : List Value} {row : List Int} {w wr w2 : World} {e : Ending} (h : MarkingM lo hi n v k m vs r w wr) (hr : m[r]? = some row) (hv : vs[r]? = some (.slice A row.length c))
    (hm : Marked lo row.length c A (k + (total (m.take r) : Nat)) wr e w2) : MarkingM lo hi n v k m vs (r + 1) w w2 := by
  obtain ⟨h1, h2⟩ := h
  obtain ⟨_, h3, h4⟩ := hm
  have hrl : r < m.length := by
    rcases Nat.lt_or_ge r m.length with g | g
    · exact g
    · rw [List.getElem?_eq_none g] at hr; cases hr
  have h5 := h1.set_row hv (marks_length _ _) h3 h4
  rw [markM_step hrl (marksM_length _ _) (marksM_at m k r row hr)] at h5
  refine ⟨h5, h2.trans (Within.grown h4 fun g hg => ?_)⟩
  have hat : ((marksM k m).take r ++ m.drop r)[r]? = some row := by
    have e1 : ((marksM k m).take r).length = r := by simp [marksM_length]; omega
    rw [List.getElem?_append_right (by omega), e1, Nat.sub_self, List.getElem?_drop, Nat.add_zero]; exact hr
  obtain ⟨A2, c2, e2, o2⟩ := h1.inner r row hat
  rw [hv] at e2
  injection e2 with e2
  rw [e2] at hg
  exact ⟨(o2.1.lt g hg).1, o2.2 g hg⟩
theorem MarkingM.done {lo hi n : Nat} {v : Value} {k : Int} {m : List (List Int)} {vs : List Value} {w wr : World} (h : MarkingM lo hi n v k m vs n w wr) (hl : m.length = n) : MarkedM lo hi n v k m vs w (.returned (.int .i64 (k + (total m : Nat)))) wr := by
  obtain ⟨h1, h2⟩ := h
  rw [List.take_of_length_le (by rw [marksM_length]; omega), List.drop_eq_nil_of_le (by omega), List.append_nil] at h1
  exact ⟨rfl, h1, h2⟩
theorem MarkingM.at_ {lo hi n r : Nat} {v : Value} {k : Int} {m : List (List Int)} {vs : List Value} {row : List Int} {w wr : World} (h : MarkingM lo hi n v k m vs r w wr) (hr : m[r]? = some row) :
    ∃ A c, vs[r]? = some (.slice A row.length c) ∧ OwnR wr lo hi 2 (.slice A row.length c) row.length (ints row) := by
  have hrl : r < m.length := by
    rcases Nat.lt_or_ge r m.length with g | g
    · exact g
    · rw [List.getElem?_eq_none g] at hr; cases hr
  have hat : ((marksM k m).take r ++ m.drop r)[r]? = some row := by
    have e1 : ((marksM k m).take r).length = r := by simp [marksM_length]; omega
    rw [List.getElem?_append_right (by omega), e1, Nat.sub_self, List.getElem?_drop, Nat.add_zero]; exact hr
  exact h.1.inner r row hat
end Go.Proofs.Ytplpcodknidgpaa
/-
  All trees with so many nodes, the program's.
-/
namespace Go.Proofs.Ytplpcodknidgpaa
open Go.RowKit Fld
set_option linter.unusedVariables false
set_option linter.unusedSimpArgs false
set_option maxRecDepth 100000

theorem slicesClone_any (ad : Addr) (n c B : Nat) (xs : List Int) (w : World) (hl : xs.length = n) (hn : n ≤ 1048576) (hB : B ≤ w.heap.size) (h : Row w B (some ad) (ints xs)) :
    Calls Try.prog 38 #[.slice (some ad) n c] w (NewRow 2 n (ints xs) w) := by
  obtain ⟨i0, hi, hz0, hz1, hz2⟩ := info_parts info_i64
  have hnews := (h.alloc hB (.cells #[] 2)).news
  have hlen : (ints xs).length = n * 1 := by rw [ints_length, hl, Nat.mul_one]
  have h1 := ints_cells xs
  have hown0 := (Growing.start w 2).1
  have hbel0 := (Growing.start w 2).2
  have q22 : ∀ (w : World) (a : Option Addr) (n c n' c' : Nat), (binOp .eql 22 (.slice a n c) (.slice none n' c')).run Try.prog w = .ok (.bool a.isNone) w := fun w a n c n' c' => Lib.run_eql_slice_nil w _ _ a n c n' c' Try.underlying22
  go_enter Try.func38, Try.ntmps38
  go_wp2_with (at_builtin; refine wpList_append_own _ rfl (.tmp 5) (.tmp 6) 22 rfl w.heap.size 2 i0 _ 1 8 Try.underlying22 hi hz0 hz1 hz2 rfl (by omega) (.slice (some ⟨w.heap.size, 0, none⟩) 0 0) 0 [] rfl hown0 ad n c (ints xs) rfl hlen hnews h1 (by simp only [maxLen]; omega) (by omega) (by simp) ?_; intro v' w' hown hgrow _)
  go_ret
  rw [Nat.zero_add] at hown
  exact NewRow.own hown (hbel0.grown hgrow (by simp) (fun k hk => (hown0.lt k hk).1))
def rangeL (n : Nat) : List Int := (List.range n).map fun k : Nat => (k : Int)
theorem rangeL_length (n : Nat) : (rangeL n).length = n := by simp [rangeL]
theorem rangeL_at {n k : Nat} (h : k < n) : (rangeL n)[k]? = some (k : Int) := by unfold rangeL; rw [List.getElem?_map, List.getElem?_range h]; rfl
def chkT (n : Nat) : Bool := (Tr.treesL (n + 1)).all (fun t => Tr.isLv t && decide (t.length = n + 1)) && decide ((Tr.treesL (n + 1)).length ≤ 115)
theorem chkT_all : (List.range 8).all chkT = true := by decide +kernel
theorem trees_all {n : Nat} (h1 : 1 ≤ n) (h8 : n ≤ 8) : (∀ t ∈ Tr.treesL n, Tr.isLv t = true ∧ t.length = n) ∧ (Tr.treesL n).length ≤ 115 := by
  have h := List.all_eq_true.1 chkT_all (n - 1) (by rw [List.mem_range]; omega)
  unfold chkT at h
  rw [show n - 1 + 1 = n from by omega] at h
  simp only [Bool.and_eq_true, List.all_eq_true, decide_eq_true_eq] at h
  exact h
/-- the trees so far, the last one of them as it stands in the levels -/
structure Listed (n : Nat) (m : List (List Int)) (T : List Int) : Prop where
  last : ∃ m', m = m' ++ [T] ∧ Tr.treesL n = m' ++ Tr.treesF (116 - m'.length) T
theorem Listed.bd {n : Nat} {m : List (List Int)} {T : List Int} (h : Listed n m T) (h1 : 1 ≤ n) (h8 : n ≤ 8) : Tr.isLv T = true ∧ T.length = n ∧ 1 ≤ m.length ∧ m.length ≤ 115 := by
  obtain ⟨m', rfl, e⟩ := h.last
  obtain ⟨hall, hlen⟩ := trees_all h1 h8
  rw [e, List.length_append] at hlen
  have hf : 116 - m'.length = (115 - m'.length) + 1 := by omega
  have hT : T ∈ Tr.treesL n := by rw [e, hf, Tr.treesF]; simp
  have h2 := hall T hT
  rw [hf, Tr.treesF, List.length_cons] at hlen
  exact ⟨h2.1, h2.2, by simp, by rw [List.length_append]; simp; omega⟩
theorem Listed.done {n : Nat} {m : List (List Int)} {T : List Int} (h : Listed n m T) (h1 : 1 ≤ n) (h8 : n ≤ 8) (hl : Tr.lowerL T = none) : m = Tr.treesL n := by
  have hb := h.bd h1 h8
  obtain ⟨m', rfl, e⟩ := h.last
  have hlen := hb.2.2.2
  rw [List.length_append] at hlen
  simp at hlen
  rw [e, show 116 - m'.length = (115 - m'.length) + 1 from by omega, Tr.treesF, hl]
theorem Listed.next {n : Nat} {m : List (List Int)} {T u : List Int} (h : Listed n m T) (h1 : 1 ≤ n) (h8 : n ≤ 8) (hl : Tr.lowerL T = some u) : Listed n (m ++ [u]) u := by
  have hb := h.bd h1 h8
  obtain ⟨m', rfl, e⟩ := h.last
  have hlen := hb.2.2.2
  rw [List.length_append] at hlen
  simp at hlen
  refine ⟨m' ++ [T], rfl, ?_⟩
  rw [e, show 116 - m'.length = (115 - m'.length) + 1 from by omega, Tr.treesF, hl, List.length_append]
  simp
theorem Listed.start (n : Nat) : Listed n [rangeL n] (rangeL n) := ⟨[], rfl, rfl⟩
set_option maxHeartbeats 2000000 in
theorem treesWith_any (n : Nat) (w : World) (h1 : 1 ≤ n) (h8 : n ≤ 8) :
    Calls Try.prog 24 #[.int .i64 n] w (NewMat (Tr.treesL n).length (Tr.treesL n) w) := by
  obtain ⟨i0, hi, hz0, hz1, hz2⟩ := info_parts info_i64
  obtain ⟨j0, hj, hy0, hy1, hy2⟩ := info_parts info_row
  go_enter Try.func24, Try.ntmps24
  go_wp2_with (at_make; refine wpList_make_full _ rfl (.tmp 6) (.tmp 6) 22 rfl w.heap.size 2 i0 _ 1 Try.underlying22 hi hz0 hz1 .i64 .i64 _ _ n rfl rfl rfl rfl (by rw [hz2]; omega) (by simp only [maxLen]; omega) (Nat.le_refl _) ?_; intro w1 hown hg)
  have F0 := Filling.start (xs := rangeL n) hown hg
  clear hown hg hz0 hz1 hz2 hi
  go_wp2_with fail
  go_loopw [10] (fun i wr => ∃ k : Nat, k ≤ n ∧ i = .int .i64 k ∧ Filling w 2 n (rangeL n) k wr) (fun i _ => n - (intOf i).toNat)
  case atStart => exact ⟨0, Nat.zero_le _, rfl, F0⟩
  case round =>
    obtain ⟨k, hk, rfl, HF⟩ := hrel
    by_cases hlt : k < n
    · have hf := HF.1.frozenAt k
      have ho := HF.1.cellAt k (by omega)
      rw [fill_at (by rw [ints_length]; exact rangeL_length n) hlt] at ho
      have G := Lib.hid (HF.step (rangeL_length n) (rangeL_at hlt))
      clear F0 HF
      go_wp2
      go_roundw
      case rel => exact ⟨k + 1, by omega, by go_num, G.out⟩
      case measure => simp [intOf]; omega
    · obtain rfl : k = n := by omega
      obtain ⟨A0, c0, e0, hown1, hbel1⟩ := HF.done (rangeL_length k)
      injection e0 with e0
      injection e0 with eA _ ec
      subst eA ec
      obtain ⟨wo, hwo⟩ : ∃ wo, wo = wr := ⟨wr, rfl⟩
      subst hwo
      have HLV := Lib.hid (OwnR.of hown1)
      have HB1 := Lib.hid hbel1
      have hs1 : w.heap.size < wo.heap.size := (hown1.lt w.heap.size rfl).2
      clear F0 HF hown1 hbel1
      go_wp2_with fail
      refine (slicesClone_any ⟨w.heap.size, 0, none⟩ k k wo.heap.size (rangeL k) _ (rangeL_length k) (by omega) (Nat.le_refl _) HLV.out.row).mono ?_
      rintro e w2 ⟨A2, c2, rfl, own2, bel2⟩
      have HO2 := Lib.hid own2
      have HB2 := Lib.hid bel2
      have hs2 := bel2.size
      clear own2 bel2
      go_wp2_with fail
      have HM0 : Hid (OwnMat (w2.alloc (.cells #[.slice A2 k c2] 22)) wo.heap.size (w2.alloc (.cells #[.slice A2 k c2] 22)).heap.size (.slice (some ⟨w2.heap.size, 0, none⟩) 1 1) 1 [rangeL k] [.slice A2 k c2]) := by
        have hal : Below w2.heap.size w2 (w2.alloc (.cells #[.slice A2 k c2] 22)) := (Below.refl _ _).alloc (Nat.le_refl _) _
        have hlit := World.ownsRow_lit (base := wo.heap.size) (size := 1) (e := 22) w2 #[.slice A2 k c2] 1 hs2 (by simp [maxLen]) rfl
        refine ⟨OwnR.of hlit, rfl, ?_, ?_⟩
        · intro r row hr
          match r, hr with
          | 0, hr =>
            simp only [List.getElem?_cons_zero, Option.some.injEq] at hr
            subst hr
            refine ⟨A2, c2, by rw [rangeL_length]; rfl, ?_⟩
            rw [rangeL_length]
            exact ((OwnR.of HO2.out).below hal (Nat.le_refl _)).more (Nat.le_refl _) hal.size
          | r+1, hr => simp at hr
        · intro r s u t g hne hu ht
          match r, s, hu, ht with
          | 0, 0, _, _ => exact absurd rfl hne
          | r+1, _, hu, _ => simp at hu
          | 0, s+1, _, ht => simp at ht
      have HL0 : Hid (OwnR (w2.alloc (.cells #[.slice A2 k c2] 22)) w.heap.size wo.heap.size 2 (.slice (some ⟨w.heap.size, 0, none⟩) k k) k (ints (rangeL k))) :=
        (HLV.out.below HB2.out (Nat.le_refl _)).below ((Below.refl w2.heap.size w2).alloc (Nat.le_refl _) _) hs2
      have HB0 : Hid (Below w.heap.size w (w2.alloc (.cells #[.slice A2 k c2] 22))) := (HB1.out.trans (HB2.out.mono (by omega))).alloc (by omega) _
      go_loopw [5] (fun v W => ∃ (g cap j : Nat) (m : List (List Int)) (vs : List Value) (T : List Int), v = .slice (some ⟨g, 0, none⟩) j cap ∧ 1 ≤ j ∧ j ≤ 115 ∧ Hid (Listed k m T) ∧ Hid (OwnMat W wo.heap.size W.heap.size (.slice (some ⟨g, 0, none⟩) j cap) j m vs) ∧ Hid (OwnR W w.heap.size wo.heap.size 2 (.slice (some ⟨w.heap.size, 0, none⟩) k k) k (ints T)) ∧ Below w.heap.size w W ∧ wo.heap.size ≤ W.heap.size) (fun v _ => 200 - (match v with | .slice _ n _ => n | _ => 0))
      case atStart => exact ⟨w2.heap.size, 1, 1, [rangeL k], [.slice A2 k c2], rangeL k, rfl, Nat.le_refl _, by omega, Listed.start k, HM0, HL0, HB0.out, by simp; omega⟩
      case round =>
        obtain ⟨g, cap, j, m, vs, T, rfl, j1, j115, HT, HM, HL, HB, hWo⟩ := hrel
        obtain ⟨tlv, tl, _, _⟩ := HT.out.bd h1 h8
        have HTL := Lib.hid tl
        have C0 := lower_any w.heap.size w.heap.size k k T wr tl tlv HL.out.1
        clear tl tlv
        go_wp2_with fail
        refine C0.mono ?_
        rintro e w3 ⟨md, ⟨hlo, rfl, rfl⟩ | ⟨u, hlo, rfl, hown3, hg3⟩⟩
        · have e := HT.out.done h1 h8 hlo
          have hjl : m.length = j := HM.out.size
          have G : Hid (NewMat (Tr.treesL k).length (Tr.treesL k) w (.returned (.slice (some ⟨g, 0, none⟩) j cap)) (wr.drewN md)) := by
            rw [Hid, ← e, hjl]
            exact ⟨_, _, vs, rfl, (HM.out.drewN md).more (by omega) (Nat.le_refl _), below_drewN HB md⟩
          clear hlo e hjl HB C0
          go_wp2
          go_ret
          exact G.out
        · have hsz3 : wr.heap.size ≤ w3.heap.size := hg3.size
          have hWI : Within w.heap.size wo.heap.size (wr.drewN md) w3 := Within.grown hg3 (fun g' e => by injection e with e; omega)
          have HM3 : Hid (OwnMat w3 wo.heap.size w3.heap.size (.slice (some ⟨g, 0, none⟩) j cap) j m vs) := ((HM.out.drewN md).within hWI (by show wr.heap.size ≤ wr.heap.size; omega) (.inr (Nat.le_refl _))).more (Nat.le_refl _) hsz3
          have HL3 : Hid (OwnR w3 w.heap.size wo.heap.size 2 (.slice (some ⟨w.heap.size, 0, none⟩) k k) k (ints u)) := ⟨hown3, fun g' e => by have : w.heap.size = g' := (by simpa [Value.ownBlock] using e); omega⟩
          have HB3 : Hid (Below w.heap.size w w3) := Below.then (below_drewN HB md) hWI (Nat.le_refl _) (by show w.heap.size ≤ wr.heap.size; omega)
          have HN := Lib.hid (HT.out.next h1 h8 hlo)
          have hul : u.length = k := (HN.out.bd h1 h8).2.1
          have huj : j + 1 ≤ 115 := by have := (HN.out.bd h1 h8).2.2.2; rw [List.length_append] at this; have := HM.out.size; simp at *; omega
          have HUL := Lib.hid hul
          have hW3 : wo.heap.size ≤ w3.heap.size := by omega
          clear hlo hown3 hg3 hWI HB C0 HM HL HT hul
          go_wp2_with fail
          refine (slicesClone_any ⟨w.heap.size, 0, none⟩ k k wo.heap.size u _ HUL.out (by omega) hW3 HL3.out.row).mono ?_
          rintro e w4 ⟨A4, c4, rfl, own4, bel4⟩
          have hs4 := bel4.size
          have HM4 := Lib.hid (HM3.out.below bel4 (Nat.le_refl _))
          have HL4 := Lib.hid (HL3.out.below bel4 hW3)
          have HB4 := Lib.hid (HB3.out.trans (bel4.mono (by omega)))
          have HO4 := Lib.hid own4
          have hownO := HM4.out.outer.1
          clear own4 bel4
          go_wp2_with (at_builtin; refine wpList_append_lies _ rfl (.tmp 23) (.tmp 26) 31 rfl wo.heap.size 22 j0 _ 1 24 Try.underlying31 hj hy0 hy1 hy2 rfl (by omega) (.slice (some ⟨g, 0, none⟩) j cap) j vs rfl (hownO.alloc _) ⟨w4.heap.size, 0, none⟩ 1 1 [.slice A4 k c4] rfl rfl (World.news_of_block (cs := #[.slice A4 k c4]) (heap_alloc_new _ _)) (by simp [Value.oneCell']) (by omega) (by simp only [maxLen]; omega) (by omega) (by simp; omega) (w4.heap.size + 1) (by simp) ?_; intro g5 cap5 w5 hown5 hgrow5 hat5 hlt5)
          have hs5 : w4.heap.size ≤ w5.heap.size := by have := hgrow5.size; simp at this; omega
          have GM : Hid (OwnMat w5 wo.heap.size w5.heap.size (.slice (some ⟨g5, 0, none⟩) (j + 1) cap5) (j + 1) (m ++ [u]) (vs ++ [.slice A4 k c4])) := HM4.out.push (row := u) hs4 HUL.out HO4.out hW3 hown5 hgrow5
          have GL : Hid (OwnR w5 w.heap.size wo.heap.size 2 (.slice (some ⟨w.heap.size, 0, none⟩) k k) k (ints u)) :=
            ((HL4.out.below ((Below.refl w4.heap.size w4).alloc (Nat.le_refl _) _) (by omega)).grown hgrow5 (own_types HL4.out.1 hownO (by decide)))
          have GB : Hid (Below w.heap.size w w5) := (HB4.out.alloc (by omega) _).grown hgrow5 (by simp; omega) (fun q hq => by have := (hownO.lt q hq).1; omega)
          clear hown5 hgrow5 hat5 hownO
          go_wp2
          go_roundw
          case rel => exact ⟨g5, cap5, j + 1, _, _, u, rfl, by omega, huj, HN, GM, GL, GB.out, by omega⟩
          case measure => simp; omega
end Go.Proofs.Ytplpcodknidgpaa
/-
  All trees with so many nodes, the model's.
-/
namespace Go.Proofs.Ytplpcodknidgpaa
open Go.RowKit Fld
set_option linter.unusedVariables false
set_option linter.unusedSimpArgs false
set_option maxRecDepth 100000

theorem lv_last {t : List Int} (h : Tr.isLv t = true) : 0 ≤ t.getD (t.length - 1) 0 ∧ t.getD (t.length - 1) 0 ≤ (t.length : Int) - 1 := by
  have h1 := Tr.isLv_iff.1 h
  have h2 := StepsTo.bd (t := t) (n := t.length) (k := t.length - 1) h1.2.2.2 h1.2.2.1 (by have := h1.1; omega) rfl
  have := h1.1
  omega
theorem lv_push {t : List Int} {x : Int} (h : Tr.isLv t = true) (hl : t.length + 1 ≤ 8) (h1 : 1 ≤ x) (h2 : x ≤ t.getD (t.length - 1) 0 + 1) : Tr.isLv (t ++ [x]) = true := by
  have h3 := Tr.isLv_iff.1 h
  have hlt := h3.1
  have hg : ∀ i, i < t.length → (t ++ [x]).getD i 0 = t.getD i 0 := fun i hi => by
    rw [List.getD_eq_getElem?_getD, List.getElem?_append_left hi, ← List.getD_eq_getElem?_getD]
  have hx : (t ++ [x]).getD t.length 0 = x := by
    rw [List.getD_eq_getElem?_getD, List.getElem?_append_right (Nat.le_refl _), Nat.sub_self]; rfl
  refine Tr.isLv_iff.2 ⟨by simp, by simp; omega, by rw [hg 0 hlt]; exact h3.2.2.1, fun i hi h1' => ?_⟩
  rw [List.length_append, List.length_singleton] at hi
  by_cases e : i = t.length
  · subst e
    rw [hx, hg (t.length - 1) (by omega)]
    exact ⟨h1, h2⟩
  · rw [hg i (by omega), hg (i - 1) (by omega)]
    exact h3.2.2.2 i (by omega) h1'
def growTo (f : Nat) (t : List Int) (m : List (List Int)) (k : Nat) : List (List Int) := (List.range k).foldl (fun (o : List (List Int)) (j : Nat) => Tr.growF f (t ++ [t.getD (t.length - 1) 0 + 1 - (j : Int)]) o) m
theorem growTo_step (f : Nat) (t : List Int) (m : List (List Int)) (k : Nat) : growTo f t m (k + 1) = Tr.growF f (t ++ [t.getD (t.length - 1) 0 + 1 - (k : Int)]) (growTo f t m k) := by
  unfold growTo; rw [List.range_succ, List.foldl_append]; rfl
theorem growF_succ (f : Nat) (t : List Int) (m : List (List Int)) : Tr.growF (f + 1) t m = growTo f t m (t.getD (t.length - 1) 0 + 1).toNat := rfl
theorem grow_len : ∀ (f : Nat) (t : List Int) (m : List (List Int)), Tr.isLv t = true → t.length + f ≤ 8 → (Tr.growF f t m).length ≤ m.length + 9 ^ f
  | 0, t, m, _, _ => by
    rw [Tr.growF]; split
    · simp
    · simp
  | f+1, t, m, h, hl => by
    rw [growF_succ]
    have hb := lv_last h
    have key : ∀ k : Nat, (k : Int) ≤ t.getD (t.length - 1) 0 + 1 → (growTo f t m k).length ≤ m.length + k * 9 ^ f := by
      intro k
      induction k with
      | zero => intro _; simp [growTo]
      | succ k ih =>
        intro hk
        rw [growTo_step]
        have h1 := grow_len f (t ++ [t.getD (t.length - 1) 0 + 1 - (k : Int)]) (growTo f t m k) (lv_push h (by omega) (by omega) (by omega)) (by rw [List.length_append]; simp; omega)
        have h2 := ih (by omega)
        have e : (k + 1) * 9 ^ f = k * 9 ^ f + 9 ^ f := by rw [Nat.add_mul, Nat.one_mul]
        omega
    have h1 := key (t.getD (t.length - 1) 0 + 1).toNat (by omega)
    have h2 : (t.getD (t.length - 1) 0 + 1).toNat ≤ 9 := by omega
    have h3 : (t.getD (t.length - 1) 0 + 1).toNat * 9 ^ f ≤ 9 * 9 ^ f := Nat.mul_le_mul_right _ h2
    have e : 9 ^ (f + 1) = 9 * 9 ^ f := by rw [Nat.pow_succ, Nat.mul_comm]
    omega
/-- what was there stands, but for a row that grows -/
theorem grown_chain {a b c : World} {r r' : Option Nat} (h : a.grownBy b r) (k : b.grownBy c r') (hr : r' = r ∨ ∃ g, r' = some g ∧ a.heap.size ≤ g) : a.grownBy c r :=
  ⟨k.os.trans h.os, k.tape.trans h.tape, k.output.trans h.output, Nat.le_trans h.size k.size, fun i hi hne => by
    rw [k.block i (Nat.lt_of_lt_of_le hi h.size) (fun e => by
      rcases hr with hr | ⟨g, hr, hg⟩
      · exact hne (by rw [e, hr])
      · rw [hr] at e; injection e with e; omega)]
    exact h.block i hi hne⟩
theorem below_grown {a b : World} (h : Below a.heap.size a b) : a.grownBy b none := ⟨h.os, h.tape, h.output, h.size, fun i hi _ => h.block i hi⟩
theorem grown_any {a b : World} {r : Option Nat} (h : a.grownBy b none) : a.grownBy b r := ⟨h.os, h.tape, h.output, h.size, fun i hi _ => h.block i hi (by simp)⟩
/-- what l03Grow hands back -/
def Grown (lo : Nat) (v : Value) (m' : List (List Int)) (w : World) (e : Ending) (w' : World) : Prop :=
  ∃ A q c vs, e = .returned (.slice A q c) ∧ OwnMat w' lo w'.heap.size (.slice A q c) q m' vs ∧ w.grownBy w' v.ownBlock ∧ (Value.ownBlock (.slice A q c) = v.ownBlock ∨ ∃ g, Value.ownBlock (.slice A q c) = some g ∧ w.heap.size ≤ g)
def SGrow (f : Nat) : Prop := ∀ (At A : Option Addr) (ct q c n lo lot : Nat) (t : List Int) (m : List (List Int)) (vs : List Value) (w : World), t.length + f = n → n ≤ 8 → Tr.isLv t = true → q + 9 ^ f ≤ 100000000 → lo ≤ w.heap.size →
    w.ownsRow lot 2 1 (.slice At t.length ct) t.length (ints t) → OwnMat w lo w.heap.size (.slice A q c) q m vs →
    Calls Try.prog 40 #[.slice At t.length ct, .int .i64 n, .slice A q c] w (Grown lo (.slice A q c) (Tr.growF f t m) w)
set_option maxHeartbeats 1000000 in
theorem sGrow_zero : SGrow 0 := by
  obtain ⟨j0, hj, hy0, hy1, hy2⟩ := info_parts info_row
  intro At A ct q c n lo lot t m vs w hn hn8 hlv hq hlo ht hm
  have hnt : t.length = n := by omega
  obtain ⟨e1, e2⟩ := lv_can hlv
  have HE : Hid ((Tr.can t).length = n) := by rw [Hid, e2, hnt]
  have HT := Lib.hid ht
  have HM := Lib.hid hm
  have HLV := Lib.hid hlv
  have HN := Lib.hid hnt
  have h1 : 1 ≤ n := by have := (Tr.isLv_iff.1 hlv).1; omega
  have hq' : q ≤ 100000000 := by omega
  rw [hnt] at ht HT ⊢
  obtain ⟨gt, capt, hvt⟩ := own_form ht (by omega)
  injection hvt with hA _ hcap
  subst hA hcap
  clear hn hlv hq e1 e2 hnt hm
  go_enter Try.func40, Try.ntmps40
  go_wp2_with fail
  refine (l03Canon_any _ n ct w.heap.size t _ HN.out HLV.out (Nat.le_refl _) (row_of_own ht)).mono ?_
  rintro e w1 ⟨A1, c1, rfl, own1, bel1⟩
  have hs1 := bel1.size
  have HB1 := Lib.hid bel1
  have HT1 := Lib.hid ((OwnR.of HT.out).below bel1 (Nat.le_refl _))
  have C1 := l01Same_any A1 _ n n c1 ct _ _ (Tr.can t) t w1 HE.out HN.out (by omega) (by omega) (row_of_own own1) HT1.out.row
  clear own1 bel1 ht
  by_cases hct : Tr.can t = t
  · have G : Hid (Tr.growF 0 t m = m ++ [t]) := by rw [Hid, Tr.growF, if_pos hct]
    rw [hct, eqL_self] at C1
    clear hct
    go_wp2_with fail
    refine C1.mono ?_
    rintro e w2 ⟨rfl, m2, rfl⟩
    go_wp2_with fail
    refine (l01Own_any ⟨gt, 0, none⟩ n ct w1.heap.size t _ HN.out (by omega) (by show w1.heap.size ≤ w1.heap.size; omega) ((HT1.out.row.more hs1).drewN m2)).mono ?_
    rintro e w3 ⟨A3, c3, rfl, own3, bel3⟩
    have hs3 : w1.heap.size ≤ w3.heap.size := bel3.size
    have HM3 := Lib.hid ((((HM.out.below HB1.out (Nat.le_refl _)).more (Nat.le_refl _) hs1).drewN m2).below bel3 (Nat.le_refl _))
    have HB3 : Hid (Below w.heap.size w w3) := (below_drewN HB1.out m2).trans (bel3.mono (by show w.heap.size ≤ w1.heap.size; exact hs1))
    have HO3 : Hid (w3.ownsRow w1.heap.size 2 1 (.slice A3 n c3) n (ints t)) := own3
    have hownO := HM3.out.outer.1
    clear own3 bel3
    go_wp2_with (at_builtin; refine wpList_append_lies _ rfl (.tmp 16) (.tmp 19) 31 rfl lo 22 j0 _ 1 24 Try.underlying31 hj hy0 hy1 hy2 rfl (by omega) (.slice A q c) q vs rfl (hownO.alloc _) ⟨w3.heap.size, 0, none⟩ 1 1 [.slice A3 n c3] rfl rfl (World.news_of_block (cs := #[.slice A3 n c3]) (heap_alloc_new _ _)) (by simp [Value.oneCell']) (by omega) (by simp only [maxLen]; omega) (by omega) (by simp; omega) (w3.heap.size + 1) (by simp) ?_; intro g5 cap5 w5 hown5 hgrow5 hat5 hlt5)
    have hs5 : w3.heap.size ≤ w5.heap.size := by have := hgrow5.size; simp at this; omega
    have GG : Hid (Grown lo (.slice A q c) (Tr.growF 0 t m) w (.returned (.slice (some ⟨g5, 0, none⟩) (q + 1) cap5)) w5) := by
      rw [Hid, G.out]
      refine ⟨_, _, _, _, rfl, HM3.out.push (row := t) hs3 HN.out HO3.out (by omega) hown5 hgrow5, ?_, ?_⟩
      · have h1 : w.grownBy (w3.alloc (.cells #[.slice A3 n c3] 22)) none := below_grown (HB3.out.alloc (by omega) _)
        exact grown_chain (grown_any h1) hgrow5 (.inl rfl)
      · rcases hat5 with e | e
        · exact .inl e.symm
        · exact .inr ⟨g5, rfl, by omega⟩
    clear hown5 hgrow5 hat5 hownO
    go_wp2
    go_ret
    exact GG.out
  · have G : Hid (Tr.growF 0 t m = m) := by rw [Hid, Tr.growF, if_neg hct]
    have e : eqL (Tr.can t) t = false := by unfold eqL; exact decide_eq_false hct
    rw [e] at C1
    clear hct e
    go_wp2_with fail
    refine C1.mono ?_
    rintro e w2 ⟨rfl, m2, rfl⟩
    have GG : Hid (Grown lo (.slice A q c) (Tr.growF 0 t m) w (.returned (.slice A q c)) (w1.drewN m2)) := by
      rw [Hid, G.out]
      exact ⟨A, q, c, vs, rfl, ((HM.out.below HB1.out (Nat.le_refl _)).drewN m2).more (Nat.le_refl _) hs1, grown_any (below_grown (below_drewN HB1.out m2)), .inl rfl⟩
    go_wp2
    go_ret
    exact GG.out
set_option maxHeartbeats 2000000 in
theorem sGrow_succ (f : Nat) (IH : SGrow f) : SGrow (f + 1) := by
  obtain ⟨i0, hi, hz0, hz1, hz2⟩ := info_parts info_i64
  intro At A ct q c n lo lot t m vs w hn hn8 hlv hq hlo ht hm
  obtain ⟨nt, hnt⟩ : ∃ nt, nt = t.length := ⟨_, rfl⟩
  have h1 : 1 ≤ nt := by have := (Tr.isLv_iff.1 hlv).1; omega
  have HNT : Hid (t.length = nt) := hnt.symm
  rw [← hnt] at ht ⊢
  obtain ⟨gt, capt, hvt⟩ := own_form ht (by omega)
  injection hvt with hA _ hcap
  subst hA hcap
  obtain ⟨L, hL⟩ : ∃ L, L = t.getD (t.length - 1) 0 := ⟨_, rfl⟩
  have hLb := lv_last hlv
  rw [← hL, ← hnt] at hLb
  have hLc := ht.cellAt (nt - 1) (by omega)
  have hLx : t[nt - 1]? = some L := by
    obtain ⟨x, hx⟩ := at_lt (show nt - 1 < t.length by omega)
    rw [hx, hL, ← hnt, lv_at hx]
  rw [ints_at hLx] at hLc
  have hnlt : nt < n := by omega
  have HFN : Hid (nt + (f + 1) = n) := by rw [Hid, hnt]; exact hn
  have HT : Hid (OwnR w lot w.heap.size 2 (.slice (some ⟨gt, 0, none⟩) nt ct) nt (ints t)) := OwnR.of ht
  have HM := Lib.hid hm
  have HLV := Lib.hid hlv
  have HLL : Hid (t.getD (t.length - 1) 0 = L) := hL.symm
  have HG : Hid (Tr.growF (f + 1) t m = growTo f t m (L + 1).toNat) := by rw [Hid, growF_succ, ← hL]
  have hpow : 9 ^ (f + 1) = 9 * 9 ^ f := by rw [Nat.pow_succ, Nat.mul_comm]
  have HQ : Hid (q + 9 * 9 ^ f ≤ 100000000) := by rw [Hid, ← hpow]; exact hq
  have HML : Hid (m.length = q) := hm.size
  have tn := beq_f (show ¬ (nt : Int) = (n : Int) by omega)
  clear hn hlv hq hpow hL hLx ht hm hnt
  go_enter Try.func40, Try.ntmps40
  go_wp2_with fail
  go_loopw [2, 7] (fun v l wr => ∃ (k q' c' : Nat) (A' : Option Addr) (vs' : List Value), v = .slice A' q' c' ∧ l = .int .i64 (L + 1 - (k : Int)) ∧ (k : Int) ≤ L + 1 ∧ Hid (q' ≤ q + k * 9 ^ f) ∧ Hid (OwnMat wr lo wr.heap.size (.slice A' q' c') q' (growTo f t m k) vs') ∧ Hid (w.grownBy wr (Value.ownBlock (.slice A q c))) ∧ Hid (Value.ownBlock (.slice A' q' c') = Value.ownBlock (.slice A q c) ∨ ∃ g, Value.ownBlock (.slice A' q' c') = some g ∧ w.heap.size ≤ g) ∧ w.heap.size ≤ wr.heap.size) (fun _ l _ => (intOf l).toNat)
  case atStart => exact ⟨0, q, c, A, vs, rfl, by simp, by omega, by rw [Hid]; omega, HM.out, World.grownBy.refl _ _, .inl rfl, Nat.le_refl _⟩
  case round =>
    obtain ⟨k, q', c', A', vs', rfl, rfl, hk, HQ', HM', HGR, HOB, hsz⟩ := hrel
    by_cases hlt : (k : Int) < L + 1
    · have hlev : 1 ≤ L + 1 - (k : Int) := by omega
      obtain ⟨lev, hlv2⟩ : ∃ lev, lev = L + 1 - (k : Int) := ⟨_, rfl⟩
      have hl1 : 1 ≤ lev := by omega
      have hl8 : lev ≤ 9 := by omega
      have HS : Hid (growTo f t m (k + 1) = Tr.growF f (t ++ [lev]) (growTo f t m k)) := by rw [Hid, growTo_step, HLL.out, hlv2]
      have HPL : Hid (Tr.isLv (t ++ [lev]) = true) := lv_push HLV.out (by have := HNT.out; have := HFN.out; omega) hl1 (by rw [HLL.out]; omega)
      have HT' := Lib.hid (HT.out.grown HGR.out (own_types HT.out.1 HM.out.outer.1 (by decide)))
      have hk9 : k + 1 ≤ 9 := by omega
      have HQ2 : Hid (q' + 9 ^ f ≤ 100000000) := by
        have h2 := HQ'.out
        have h3 := HQ.out
        have h4 : (k + 1) * 9 ^ f ≤ 9 * 9 ^ f := Nat.mul_le_mul_right _ hk9
        rw [Nat.add_mul, Nat.one_mul] at h4
        rw [Hid]; omega
      have hrng : L + 1 - (k : Int) = lev := hlv2.symm
      rw [hrng]
      have hlm : lev - 1 = L + 1 - ((k + 1 : Nat) : Int) := by omega
      have HLM := Lib.hid hlm
      clear hrng hlm hlv2
      go_wp2_with fail
      refine (l01Own_any ⟨gt, 0, none⟩ nt ct w.heap.size t _ HNT.out (by omega) hsz HT'.out.row).mono ?_
      rintro e w1 ⟨A1, c1, rfl, own1, bel1⟩
      have hs1 := bel1.size
      have HB1 := Lib.hid bel1
      have HO1 := Lib.hid own1
      clear bel1
      go_wp2_with (at_builtin; refine wpList_append_lies _ rfl (.tmp 34) (.tmp 36) 22 rfl wr.heap.size 2 i0 _ 1 8 Try.underlying22 hi hz0 hz1 hz2 rfl (by omega) (.slice A1 nt c1) nt (ints t) rfl (own1.alloc _) ⟨w1.heap.size, 0, none⟩ 1 1 [.int .i64 lev] rfl rfl (World.news_of_block (cs := #[.int .i64 lev]) (heap_alloc_new _ _)) (by simp [Value.oneCell']) (by omega) (by simp only [maxLen]; omega) (by omega) (by simp; omega) (w1.heap.size + 1) (by simp) ?_; intro g2 c2 w2 hown2 hgrow2 hat2 hlt2)
      have BW2 : Hid (Below wr.heap.size wr w2) := (HB1.out.alloc hs1 _).grown hgrow2 (by simp; omega) (fun q hq => (HO1.out.lt q hq).1)
      have hs2 : wr.heap.size ≤ w2.heap.size := BW2.out.size
      have HLN : Hid ((t ++ [lev]).length = nt + 1) := by rw [Hid, List.length_append, HNT.out]; rfl
      have HM2 : Hid (OwnMat w2 lo w2.heap.size (.slice A' q' c') q' (growTo f t m k) vs') := (HM'.out.below BW2.out (Nat.le_refl _)).more (Nat.le_refl _) hs2
      have C1 := IH (some ⟨g2, 0, none⟩) A' c2 q' c' n lo wr.heap.size (t ++ [lev]) (growTo f t m k) vs' w2 (by rw [HLN.out]; have := HFN.out; omega) hn8 HPL.out HQ2.out (by omega) (by
        have e : ints t ++ [.int .i64 lev] = ints (t ++ [lev]) := by simp [ints, intsK]
        rw [e] at hown2
        rw [HLN.out]; exact hown2) HM2.out
      rw [HLN.out, ← HS.out] at C1
      clear hown2 hgrow2 hat2 own1
      go_wp2_with fail
      refine C1.mono ?_
      rintro e w3 ⟨A3, q3, c3, vs3, rfl, hm3, hg3, hb3⟩
      have HM3 := Lib.hid hm3
      have hs3 : w2.heap.size ≤ w3.heap.size := hg3.size
      have HGR3 : Hid (w.grownBy w3 (Value.ownBlock (.slice A q c))) := grown_chain (grown_chain HGR.out (grown_any (below_grown BW2.out)) (.inl rfl)) hg3 HOB.out
      have HOB3 : Hid (Value.ownBlock (.slice A3 q3 c3) = Value.ownBlock (.slice A q c) ∨ ∃ g, Value.ownBlock (.slice A3 q3 c3) = some g ∧ w.heap.size ≤ g) := by
        rcases hb3 with hb3 | ⟨g, hb3, hg⟩
        · rw [Hid, hb3]; exact HOB.out
        · exact .inr ⟨g, hb3, by omega⟩
      have HQ3 : Hid (q3 ≤ q + (k + 1) * 9 ^ f) := by
        have h1 := HM3.out.size
        rw [HS.out] at h1
        have h2 := grow_len f (t ++ [lev]) (growTo f t m k) HPL.out (by rw [HLN.out]; have := HFN.out; omega)
        have h3 := HM'.out.size
        have h4 := HQ'.out
        rw [Hid, Nat.add_mul, Nat.one_mul]; omega
      clear hm3 hg3 hb3 C1
      go_wp2
      go_roundw
      case rel => exact ⟨k + 1, q3, c3, A3, vs3, rfl, by rw [← HLM.out], by omega, HQ3, HM3, HGR3, HOB3, by omega⟩
      case measure => simp [intOf]; omega
    · have hk2 : (k : Int) = L + 1 := by omega
      have G : Hid (Grown lo (.slice A q c) (Tr.growF (f + 1) t m) w (.returned (.slice A' q' c')) wr) := by
        rw [Hid, HG.out, show (L + 1).toNat = k from by omega]
        exact ⟨A', q', c', vs', rfl, HM'.out, HGR.out, HOB.out⟩
      have e0 : L + 1 - (k : Int) = 0 := by omega
      rw [e0]
      clear hk2 e0
      go_wp2
      go_ret
      exact G.out
theorem sGrow_all : ∀ f, SGrow f
  | 0 => sGrow_zero
  | f+1 => sGrow_succ f (sGrow_all f)
theorem l03Trees_any (n : Nat) (w : World) (h1 : 1 ≤ n) (h8 : n ≤ 8) : Calls Try.prog 26 #[.int .i64 n] w (NewMat (Tr.treesL n).length (Tr.treesL n) w) := by
  have own1 := World.ownsRow_lit (base := w.heap.size) (size := 1) (e := 2) w #[.int .i64 0] 1 (Nat.le_refl _) (by simp [maxLen]) rfl
  have C1 := sGrow_all (n - 1) (some ⟨w.heap.size, 0, none⟩) none 1 0 0 n w.heap.size w.heap.size [0] [] [] (w.alloc (.cells #[.int .i64 0] 2)) (by simp; omega) h8 (by decide) (by
    have : n - 1 ≤ 7 := by omega
    have h2 : 9 ^ (n - 1) ≤ 9 ^ 7 := Nat.pow_le_pow_right (by omega) this
    omega) (by simp) own1 ⟨⟨World.ownsRow_nil _ _ _ _, fun g e => by simp [Value.ownBlock] at e⟩, rfl, fun r row hr => by simp at hr, fun r s u t g _ hu => by simp at hu⟩
  rw [grow_trees h1 h8] at C1
  go_enter Try.func26, Try.ntmps26
  go_wp2_with fail
  refine C1.mono ?_
  rintro e w3 ⟨A3, q3, c3, vs3, rfl, hm3, hg3, hb3⟩
  have e1 : (Tr.treesL n).length = q3 := hm3.size
  have G : Hid (NewMat (Tr.treesL n).length (Tr.treesL n) w (.returned (.slice A3 q3 c3)) w3) := by
    rw [Hid, e1]
    refine ⟨A3, c3, vs3, rfl, hm3, ?_⟩
    exact ((Below.refl _ _).alloc (Nat.le_refl _) _).grown hg3 (by simp) (fun b hb => by simp [Value.ownBlock] at hb)
  clear hm3 hg3 hb3 C1 e1
  go_wp2
  go_ret
  exact G.out
end Go.Proofs.Ytplpcodknidgpaa
/-
  A list of lists beside a code, as calls hand it back.
-/
namespace Go.Proofs.Ytplpcodknidgpaa
open Go.RowKit Fld
set_option linter.unusedVariables false
set_option linter.unusedSimpArgs false
set_option maxRecDepth 100000

/-- a list of lists that the call owns, beside a code -/
def ResM (r : List (List Int) × Int) (w : World) (e : Ending) (w' : World) : Prop :=
  r.1.length + total r.1 ≤ 1048576 ∧ ∃ A c vs, e = .returned (.tuple #[.slice A r.1.length c, .int .i64 r.2]) ∧ OwnMat w' w.heap.size w'.heap.size (.slice A r.1.length c) r.1.length r.1 vs ∧ Below w.heap.size w w'
theorem OwnMat.nil' (w : World) (lo hi : Nat) : OwnMat w lo hi (.slice none 0 0) 0 [] [] :=
  ⟨⟨World.ownsRow_nil _ _ _ _, fun g e => by simp [Value.ownBlock] at e⟩, rfl, fun r row hr => by simp at hr, fun r s u t g _ hu => by simp at hu⟩
theorem ResM.nil {r : List (List Int) × Int} {w w' : World} {k : Int} (h : r = ([], k)) (hb : Below w.heap.size w w') : ResM r w (.returned (.tuple #[.slice none 0 0, .int .i64 k])) w' := by
  subst h
  exact ⟨by simp [total], none, 0, [], rfl, OwnMat.nil' _ _ _, hb⟩
theorem ResM.of {r : List (List Int) × Int} {w w' : World} {A : Option Addr} {n c : Nat} {m : List (List Int)} {vs : List Value} {k : Int} (h : r = (m, k)) (hn : m.length + total m ≤ 1048576)
    (ho : OwnMat w' w.heap.size w'.heap.size (.slice A n c) n m vs) (hb : Below w.heap.size w w') : ResM r w (.returned (.tuple #[.slice A n c, .int .i64 k])) w' := by
  subst h
  have e := ho.size
  subst e
  exact ⟨hn, A, c, vs, rfl, ho, hb⟩
/-- lists in memory below a bound: the model's -/
def LowMat (w : World) (hi : Nat) (A : Option Addr) (m : List (List Int)) : Prop := Mat w hi A m
theorem LowMat.below {w w' : World} {hi B : Nat} {A : Option Addr} {m : List (List Int)} (h : LowMat w hi A m) (hb : Below B w w') (hB : hi ≤ B) : LowMat w' hi A m := Mat.below h hb hB
theorem LowMat.within {w w' : World} {hi lo' hi' : Nat} {A : Option Addr} {m : List (List Int)} (h : LowMat w hi A m) (hb : Within lo' hi' w w') (hs : hi ≤ w.heap.size) (hd : hi ≤ lo') : LowMat w' hi A m :=
  Mat.keep h fun b o hbb => World.cell?_of_block (hb.block b (by omega) (by omega))
theorem LowMat.mat {w : World} {hi : Nat} {A : Option Addr} {m : List (List Int)} (h : LowMat w hi A m) : Mat w hi A m := h
theorem LowMat.drewN {w : World} {hi : Nat} {A : Option Addr} {m : List (List Int)} (h : LowMat w hi A m) (k : Nat) : LowMat (w.drewN k) hi A m := h
def ResMl (r : List (List Int) × Int) (w : World) (e : Ending) (w' : World) : Prop :=
  r.1.length + total r.1 ≤ 1048576 ∧ ∃ A c, e = .returned (.tuple #[.slice A r.1.length c, .int .i64 r.2]) ∧ LowMat w' w'.heap.size A r.1 ∧ Below w.heap.size w w'
theorem ResMl.nil {r : List (List Int) × Int} {w w' : World} {k : Int} (h : r = ([], k)) (hb : Below w.heap.size w w') : ResMl r w (.returned (.tuple #[.slice none 0 0, .int .i64 k])) w' := by
  subst h
  exact ⟨by simp [total], none, 0, rfl, fun k r hr => by simp at hr, hb⟩
theorem ResMl.of {r : List (List Int) × Int} {w w' : World} {A : Option Addr} {n c : Nat} {m : List (List Int)} {k : Int} (h : r = (m, k)) (hl : m.length = n) (hn : m.length + total m ≤ 1048576)
    (ho : Mat w' w'.heap.size A m) (hb : Below w.heap.size w w') : ResMl r w (.returned (.tuple #[.slice A n c, .int .i64 k])) w' := by
  subst h hl
  exact ⟨hn, A, c, rfl, ho, hb⟩
end Go.Proofs.Ytplpcodknidgpaa
/-
  What TreesOf answers, the program's and the model's.
-/
namespace Go.Proofs.Ytplpcodknidgpaa
open Go.RowKit Fld
set_option linter.unusedVariables false
set_option linter.unusedSimpArgs false
set_option maxRecDepth 100000

theorem total_bd {q : Nat} : ∀ {m : List (List Int)}, (∀ t ∈ m, t.length ≤ q) → total m ≤ m.length * q
  | [], _ => by simp [total]
  | x :: r, h => by
    have h1 := h x (by simp)
    have h2 := total_bd (fun t ht => h t (by simp [ht]) : ∀ t ∈ r, t.length ≤ q)
    have e : total (x :: r) = x.length + total r := by simp [total]
    rw [e, List.length_cons, Nat.add_mul, Nat.one_mul]; omega
theorem trees_total {n : Nat} (h1 : 1 ≤ n) (h8 : n ≤ 8) : (Tr.treesL n).length + total (Tr.treesL n) ≤ 1048576 := by
  obtain ⟨ha, hl⟩ := trees_all h1 h8
  have := total_bd (q := 8) (m := Tr.treesL n) (fun t ht => by rw [(ha t ht).2]; exact h8)
  omega
def treesOfA (a : Int) : List (List Int) × Int := if 1 ≤ a ∧ a ≤ 8 then (Tr.treesL a.toNat, 0) else ([], 2)
theorem treesOfA_yes {n : Nat} (h1 : 1 ≤ n) (h8 : n ≤ 8) : treesOfA (n : Int) = (Tr.treesL n, 0) := by
  unfold treesOfA; rw [if_pos (by omega)]; rfl
theorem treesOfA_no {a : Int} (h : ¬ (1 ≤ a ∧ a ≤ 8)) : treesOfA a = ([], 2) := if_neg h
theorem pTreesOf_L (a : Int) (w : World) (ha : -9223372036854775808 ≤ a ∧ a ≤ 9223372036854775807) : Calls Try.prog 11 #[.int .i64 a] w (ResM (treesOfA a) w) := by
  by_cases h : 1 ≤ a ∧ a ≤ 8
  · obtain ⟨n, rfl⟩ : ∃ n : Nat, a = (n : Int) := ⟨a.toNat, by omega⟩
    have h1 : 1 ≤ n := by omega
    have h8 : n ≤ 8 := by omega
    have G := Lib.hid (treesOfA_yes h1 h8)
    clear h ha
    go_enter Try.func11, Try.ntmps11
    go_wp2_with fail
    refine (treesWith_any n _ h1 h8).mono ?_
    rintro e w1 ⟨A1, c1, vs1, rfl, own1, bel1⟩
    have HO := Lib.hid own1
    have HB := Lib.hid bel1
    have HT := Lib.hid (trees_total h1 h8)
    clear own1 bel1
    go_wp2
    go_ret2
    exact ResM.of G.out HT.out HO.out HB.out
  · have G := Lib.hid (treesOfA_no h)
    by_cases h1 : a < 1
    · clear h
      go_enter Try.func11, Try.ntmps11
      go_wp2
      go_ret2
      exact ResM.nil G.out (Below.refl _ _)
    · have h8 : 8 < a := by omega
      clear h
      go_enter Try.func11, Try.ntmps11
      go_wp2
      go_ret2
      exact ResM.nil G.out (Below.refl _ _)
theorem sTreesOf_L (a : Int) (w : World) (ha : -9223372036854775808 ≤ a ∧ a ≤ 9223372036854775807) : Calls Try.prog 12 #[.int .i64 a] w (ResM (treesOfA a) w) := by
  by_cases h : 1 ≤ a ∧ a ≤ 8
  · obtain ⟨n, rfl⟩ : ∃ n : Nat, a = (n : Int) := ⟨a.toNat, by omega⟩
    have h1 : 1 ≤ n := by omega
    have h8 : n ≤ 8 := by omega
    have G := Lib.hid (treesOfA_yes h1 h8)
    have T := isIn_yes (n := (n : Int)) (l := 1) (h := 8) (by omega) (by omega)
    clear h ha
    go_enter Try.func12, Try.ntmps12
    go_wp2_with fail
    refine (l01In_any _ _ _ _).mono ?_
    rintro e w' ⟨rfl, rfl⟩
    rw [T]
    go_wp2_with fail
    refine (l03Trees_any n _ h1 h8).mono ?_
    rintro e w1 ⟨A1, c1, vs1, rfl, own1, bel1⟩
    have HO := Lib.hid own1
    have HB := Lib.hid bel1
    have HT := Lib.hid (trees_total h1 h8)
    clear own1 bel1
    go_wp2
    go_ret2
    exact ResM.of G.out HT.out HO.out HB.out
  · have G := Lib.hid (treesOfA_no h)
    have T := isIn_no (n := a) (l := 1) (h := 8) (by omega)
    clear h
    go_enter Try.func12, Try.ntmps12
    go_wp2_with fail
    refine (l01In_any _ _ _ _).mono ?_
    rintro e w' ⟨rfl, rfl⟩
    rw [T]
    go_wp2
    go_ret2
    exact ResM.nil G.out (Below.refl _ _)
end Go.Proofs.Ytplpcodknidgpaa
/-
  The trees with so many nodes, counted: plain facts.
-/
namespace Go.Proofs.Ytplpcodknidgpaa
open Go.RowKit Fld
set_option linter.unusedVariables false
set_option linter.unusedSimpArgs false
set_option maxRecDepth 100000

def labV (t : List Int) : Int := ((factN t.length).tdiv (Tr.syM t)).tdiv (Tr.denM t)
def sumV (L : List (List Int)) (k : Nat) : Int := (L.take k).foldl (fun s t => s + labV t) 0
theorem sumV_step {L : List (List Int)} {k : Nat} {t : List Int} (h : L[k]? = some t) : sumV L (k + 1) = sumV L k + labV t := by
  unfold sumV
  rw [List.take_add_one, h, Option.toList_some, List.foldl_append]; rfl
def countsV : List Int := [0, 1, 1, 2, 4, 9, 20, 48, 115]
def chkTa (n : Nat) : Bool := decide (((Tr.treesL (n + 1)).length : Int) = countsV.getD (n + 1) 0) && (Tr.treesL (n + 1)).all fun t =>
  isTr t && decide (0 ≤ labV t ∧ labV t ≤ 5040 ∧ 0 ≤ maxTo t t.length ∧ maxTo t t.length + (lvN t t.length : Nat) ≤ (n : Int) + 1 ∧ 1 ≤ lvN t t.length ∧ maxTo t t.length < (n : Int) + 1)
theorem chkTa_all : (List.range 8).all chkTa = true := by decide +kernel
def chkTb (n : Nat) : Bool := decide (sumV (Tr.treesL (n + 1)) (Tr.treesL (n + 1)).length = factN n) && (List.range ((Tr.treesL (n + 1)).length + 1)).all fun k => decide (0 ≤ sumV (Tr.treesL (n + 1)) k ∧ sumV (Tr.treesL (n + 1)) k ≤ 5040)
theorem chkTb_all : (List.range 8).all chkTb = true := by decide +kernel
def chkTd (n : Nat) : Bool := (List.range ((Tr.treesL (n + 1)).length - 1)).all fun k => decide (Tr.cmpL (Tr.can ((Tr.treesL (n + 1)).getD k [])) (Tr.can ((Tr.treesL (n + 1)).getD (k + 1) [])) = -1)
theorem chkTd_all : (List.range 8).all chkTd = true := by decide +kernel
theorem tc_count {n : Nat} (h1 : 1 ≤ n) (h8 : n ≤ 8) : countsV[n]? = some (((Tr.treesL n).length : Nat) : Int) := by
  have h := List.all_eq_true.1 chkTa_all (n - 1) (by rw [List.mem_range]; omega)
  unfold chkTa at h
  rw [Bool.and_eq_true, decide_eq_true_eq, show n - 1 + 1 = n by omega] at h
  obtain ⟨x, hx⟩ := at_lt (show n < countsV.length by show n < 9; omega)
  rw [List.getD_eq_getElem?_getD, hx] at h
  rw [hx, h.1]; rfl
theorem tc_tree {n k : Nat} {t : List Int} (h1 : 1 ≤ n) (h8 : n ≤ 8) (ht : (Tr.treesL n)[k]? = some t) : isTr t = true ∧ t.length = n ∧ 0 ≤ labV t ∧ labV t ≤ 5040 ∧ 0 ≤ maxTo t t.length ∧ maxTo t t.length + (lvN t t.length : Nat) ≤ (n : Int) ∧ 1 ≤ lvN t t.length ∧ maxTo t t.length < (n : Int) := by
  have h := List.all_eq_true.1 chkTa_all (n - 1) (by rw [List.mem_range]; omega)
  unfold chkTa at h
  rw [Bool.and_eq_true, show n - 1 + 1 = n by omega] at h
  have hm := List.mem_of_getElem? ht
  have h2 := List.all_eq_true.1 h.2 t hm
  rw [Bool.and_eq_true, decide_eq_true_eq] at h2
  have hl := ((trees_all h1 h8).1 t hm).2
  obtain ⟨q1, q2, q3, q4, q5, q6, q7⟩ := h2
  exact ⟨q1, hl, q2, q3, q4, by omega, q6, by omega⟩
theorem tc_sum {n k : Nat} (h1 : 1 ≤ n) (h8 : n ≤ 8) (hk : k ≤ (Tr.treesL n).length) : 0 ≤ sumV (Tr.treesL n) k ∧ sumV (Tr.treesL n) k ≤ 5040 := by
  have h := List.all_eq_true.1 chkTb_all (n - 1) (by rw [List.mem_range]; omega)
  unfold chkTb at h
  rw [Bool.and_eq_true, show n - 1 + 1 = n by omega] at h
  have h2 := List.all_eq_true.1 h.2 k (by rw [List.mem_range]; omega)
  rw [decide_eq_true_eq] at h2
  exact h2
theorem tc_end {n : Nat} (h1 : 1 ≤ n) (h8 : n ≤ 8) : sumV (Tr.treesL n) (Tr.treesL n).length = factN (n - 1) := by
  have h := List.all_eq_true.1 chkTb_all (n - 1) (by rw [List.mem_range]; omega)
  unfold chkTb at h
  rw [Bool.and_eq_true, show n - 1 + 1 = n by omega, decide_eq_true_eq] at h
  exact h.1
theorem tc_order {n k : Nat} {u t : List Int} (h1 : 1 ≤ n) (h8 : n ≤ 8) (hu : (Tr.treesL n)[k]? = some u) (ht : (Tr.treesL n)[k + 1]? = some t) : cmpA u t = (-1, 0) := by
  have h := List.all_eq_true.1 chkTd_all (n - 1) (by rw [List.mem_range]; omega)
  unfold chkTd at h
  rw [show n - 1 + 1 = n by omega] at h
  have hlt : k + 1 < (Tr.treesL n).length := by
    rcases Nat.lt_or_ge (k + 1) (Tr.treesL n).length with g | g
    · exact g
    · rw [List.getElem?_eq_none g] at ht; cases ht
  have h2 := List.all_eq_true.1 h k (by rw [List.mem_range]; omega)
  rw [decide_eq_true_eq, List.getD_eq_getElem?_getD, List.getD_eq_getElem?_getD, hu, ht] at h2
  have a1 := ((trees_all h1 h8).1 u (List.mem_of_getElem? hu)).1
  have a2 := ((trees_all h1 h8).1 t (List.mem_of_getElem? ht)).1
  rw [cmpA_yes a1 a2]
  exact congrArg (fun z => (z, (0 : Int))) h2
end Go.Proofs.Ytplpcodknidgpaa
/-
  Sources of numbers in memory, as the laws and the models draw from: each number lies below what was asked for.
-/
namespace Go.Proofs.Ytplpcodknidgpaa
open Go.RowKit Fld
set_option linter.unusedVariables false
set_option linter.unusedSimpArgs false
set_option maxRecDepth 100000

theorem Row.drewNd {w : World} {B : Nat} {A : Option Addr} {vs : List Value} (h : Row w B A vs) (n : Nat) : Row (w.drewN n) B A vs := h
theorem below_drewNd {B : Nat} {a w : World} (h : Below B a w) (n : Nat) : Below B a (w.drewN n) := ⟨h.os, h.tape, h.output, h.size, h.block⟩
/-- a source of numbers in memory: three cells -/
def SrcAt (w : World) (T : TypeId) (G : Nat) (A : Option Addr) (n c i : Nat) (h : Int) : Prop := w.heap[G]? = some (.cells #[.slice A n c, .int .i64 i, .int .u64 h] T (0, 0))
section
variable {w w' : World} {T : TypeId} {G n c i : Nat} {A : Option Addr} {h : Int}
theorem SrcAt.c0 (s : SrcAt w T G A n c i h) : w.cell? ⟨G, 0, none⟩ = some (.slice A n c) := by rw [cell_of_row w G 0 _ _ _ s]; rfl
theorem SrcAt.c1 (s : SrcAt w T G A n c i h) : w.cell? ⟨G, 1, none⟩ = some (.int .i64 i) := by rw [cell_of_row w G 1 _ _ _ s]; rfl
theorem SrcAt.c2 (s : SrcAt w T G A n c i h) : w.cell? ⟨G, 2, none⟩ = some (.int .u64 h) := by rw [cell_of_row w G 2 _ _ _ s]; rfl
theorem SrcAt.fr (s : SrcAt w T G A n c i h) (j : Nat) : w.frozen? ⟨G, j, none⟩ = false := frozen_of_row w G j _ _ s
theorem SrcAt.set1 (s : SrcAt w T G A n c i h) (i' : Nat) (v : Int) (hv : v = i') : SrcAt (w.setCell ⟨G, 1, none⟩ (.int .i64 v)) T G A n c i' h := by
  subst hv; exact heap_setCell_same w G 1 _ _ _ s
theorem SrcAt.set2 (s : SrcAt w T G A n c i h) (h' : Int) : SrcAt (w.setCell ⟨G, 2, none⟩ (.int .u64 h')) T G A n c i h' := heap_setCell_same w G 2 _ _ _ s
theorem SrcAt.drewN (s : SrcAt w T G A n c i h) (k : Nat) : SrcAt (w.drewN k) T G A n c i h := s
theorem SrcAt.lt (s : SrcAt w T G A n c i h) : G < w.heap.size := by
  rcases Nat.lt_or_ge G w.heap.size with g | g
  · exact g
  · unfold SrcAt at s; rw [Array.getElem?_eq_none g] at s; cases s
end
theorem mask_bd (z : Int) : 0 ≤ wrap64 (bits BinOp.and IntKind.u64 z 16777215) ∧ wrap64 (bits BinOp.and IntKind.u64 z 16777215) ≤ 16777215 := by
  have e : bits BinOp.and IntKind.u64 z 16777215 = ((BitVec.ofInt 64 z &&& BitVec.ofInt 64 16777215).toNat : Int) % 18446744073709551616 := rfl
  have h2 : (BitVec.ofInt 64 z &&& BitVec.ofInt 64 16777215).toNat ≤ 16777215 := by
    rw [BitVec.toNat_and]
    exact Nat.le_trans Nat.and_le_right (by decide)
  have h3 : bits BinOp.and IntKind.u64 z 16777215 = ((BitVec.ofInt 64 z &&& BitVec.ofInt 64 16777215).toNat : Int) := by rw [e]; omega
  rw [h3]
  unfold wrap64
  omega


def Src (w : World) (T : TypeId) (G B : Nat) (xs : List Int) : Prop :=
  ∃ A c i h, SrcAt w T G A xs.length c i h ∧ i ≤ xs.length ∧ B ≤ G ∧ Row w B A (intsK .u8 xs) ∧ xs.length ≤ 4096 ∧ ∀ x ∈ xs, 0 ≤ x ∧ x ≤ 255
/-- a number below m is drawn, and only the source turns -/
def Rolled (T : TypeId) (G B : Nat) (xs : List Int) (m : Int) (w : World) (e : Ending) (w' : World) : Prop :=
  ∃ r : Int, e = .returned (.int .i64 r) ∧ 0 ≤ r ∧ r < m ∧ Src w' T G B xs ∧ w.grownBy w' (some G)
theorem only_set {w w' : World} {G j : Nat} (h : w.grownBy w' (some G)) (u : Value) : w.grownBy (w'.setCell ⟨G, j, none⟩ u) (some G) :=
  ⟨h.os, h.tape, h.output, by simpa [World.setCell] using h.size, fun k hk hne => (Below.heap_setCell w' ⟨G, j, none⟩ u k (fun e => hne (by rw [e]))).trans (h.block k hk hne)⟩
theorem only_drewN {w w' : World} {G : Nat} (h : w.grownBy w' (some G)) (n : Nat) : w.grownBy (w'.drewN n) (some G) := ⟨h.os, h.tape, h.output, h.size, h.block⟩
theorem only_trans {a b c : World} {G : Nat} (h : a.grownBy b (some G)) (k : b.grownBy c (some G)) : a.grownBy c (some G) :=
  ⟨k.os.trans h.os, k.tape.trans h.tape, k.output.trans h.output, Nat.le_trans h.size k.size, fun i hi hne => (k.block i (Nat.lt_of_lt_of_le hi h.size) hne).trans (h.block i hi hne)⟩
theorem Row.only {w w' : World} {B G : Nat} {A : Option Addr} {vs : List Value} (h : Row w B A vs) (hg : w.grownBy w' (some G)) (hB : B ≤ G) : Row w' B A vs :=
  fun k v hv => by
    obtain ⟨b, o, e, hb, hc⟩ := h k v hv
    exact ⟨b, o, e, hb, hg.cell hc (fun e => by have := Option.some.inj e; simp at this; omega)⟩
theorem below_only {B : Nat} {a w w' : World} {G : Nat} (h : Below B a w) (hg : w.grownBy w' (some G)) (hB : B ≤ w.heap.size) (hG : B ≤ G) : Below B a w' :=
  h.grown hg hB (fun k hk => by cases hk; exact hG)


theorem big_any (A : Option Addr) (n c : Nat) (w : World) (hn : n ≤ 9223372036854775807) : Calls Try.prog 9 #[.slice A n c] w fun e w' => e = .returned (.bool (decide ((4096 : Int) < n))) ∧ w = w' := by
  go_enter Try.func9, Try.ntmps9
  go_wp2
  go_ret
  exact ⟨rfl, rfl⟩
set_option maxHeartbeats 800000 in
theorem l01Next_any (G B : Nat) (xs : List Int) (m : Int) (w : World) (hm : 1 ≤ m) (s : Src w 57 G B xs) :
    Calls Try.prog 37 #[.pointer (some ⟨G, 0, none⟩), .int .i64 m] w (Rolled 57 G B xs m w) := by
  obtain ⟨A, c, i, h, s, hi0, hBG, row, hn, hx⟩ := s
  have HX := Lib.hid hx
  clear hx
  have c2 := s.c2
  have f2 := s.fr 2
  have HS := Lib.hid s
  have HO : Hid (w.grownBy w (some G)) := World.grownBy.refl w (some G)
  clear s
  go_enter Try.func37, Try.ntmps37
  go_wp2_with fail
  generalize IntKind.u64.wrap (IntKind.u64.wrap (h * 6364136223846793005) + 1442695040888963407) = q
  obtain ⟨x0, x1⟩ := mask_bd (q / 8589934592)
  generalize wrap64 (bits BinOp.and IntKind.u64 (q / 8589934592) 16777215) = x at *
  have s2 := HS.out.set2 q
  have HO2 := Lib.hid (only_set (j := 2) HO.out (.int .u64 q))
  have row2 := row.only HO2.out hBG
  clear c2 f2 HS HO row
  generalize w.setCell ⟨G, 2, none⟩ (.int .u64 q) = W1 at *
  have c0 := s2.c0
  have c1 := s2.c1
  have f1 := s2.fr 1
  have HS := Lib.hid s2
  clear s2
  by_cases hi : i < xs.length
  · obtain ⟨y, hy⟩ := at_lt hi
    obtain ⟨b, o, rfl, hb, hc⟩ := row2 i _ (intsK_at hy)
    obtain ⟨y0, y1⟩ := HX.out y (List.mem_of_getElem? hy)
    have hne : b ≠ G := by omega
    clear hy
    go_quiet (fail)
    go_wp2_with fail
    go_quiet (fail)
    go_wp2
    go_ret
    exact ⟨_, rfl, Int.emod_nonneg _ (by omega), Int.emod_lt_of_pos _ (by omega), ⟨_, _, _, _, (HS.out.drewN _).set1 (i + 1) _ (by omega), by omega, hBG, Row.only (row2.drewNd _) (only_set (World.grownBy.refl _ _) _) hBG, hn, HX.out⟩, only_set (only_drewN HO2.out _) _⟩
  · go_quiet (fail)
    go_wp2
    go_ret
    exact ⟨_, rfl, Int.emod_nonneg _ (by omega), Int.emod_lt_of_pos _ (by omega), ⟨_, _, _, _, HS.out.drewN _, by omega, hBG, row2.drewNd _, hn, HX.out⟩, only_drewN HO2.out _⟩

/-- a new source over a list of bytes -/
def NewSrc (T : TypeId) (B : Nat) (xs : List Int) (w : World) (e : Ending) (w' : World) : Prop :=
  ∃ G, e = .returned (.pointer (some ⟨G, 0, none⟩)) ∧ w.heap.size ≤ G ∧ Src w' T G B xs ∧ Below w.heap.size w w'
def Hashing (w : World) (T : TypeId) (A : Option Addr) (n c : Nat) (wr : World) : Prop :=
  ∃ h, SrcAt wr T w.heap.size A n c (0 : Nat) h ∧ Below w.heap.size w wr
theorem Hashing.start (w : World) (T : TypeId) (A : Option Addr) (n c : Nat) (h : Int) : Hashing w T A n c (w.alloc (.cells #[.slice A n c, .int .i64 0, .int .u64 h] T)) :=
  ⟨h, heap_alloc_new w _, (Below.refl _ _).alloc (Nat.le_refl _) _⟩
theorem SrcAt.drew {w : World} {T : TypeId} {G n c i : Nat} {A : Option Addr} {h : Int} (s : SrcAt w T G A n c i h) : SrcAt w.drew T G A n c i h := s
theorem Hashing.step {w wr : World} {T : TypeId} {A : Option Addr} {n c : Nat} {h q : Int} (s : SrcAt wr T w.heap.size A n c (0 : Nat) h) (b : Below w.heap.size w wr) : Hashing w T A n c (wr.setCell ⟨w.heap.size, 2, none⟩ (.int .u64 q)).drew :=
  ⟨q, (s.set2 q).drew, (b.setCell (p := ⟨w.heap.size, 2, none⟩) (Nat.le_refl _) _).drew⟩
theorem Hashing.done {w wr : World} {T : TypeId} {A : Option Addr} {n c B : Nat} {h : Int} {xs : List Int} (s : SrcAt wr T w.heap.size A n c (0 : Nat) h) (b : Below w.heap.size w wr) (hl : xs.length = n) (hn : n ≤ 4096) (hB : B ≤ w.heap.size)
    (hr : Row w B A (intsK .u8 xs)) (hx : ∀ x ∈ xs, 0 ≤ x ∧ x ≤ 255) : NewSrc T B xs w (.returned (.pointer (some ⟨w.heap.size, 0, none⟩))) wr := by
  subst hl
  exact ⟨_, rfl, Nat.le_refl _, ⟨A, c, 0, h, s, by omega, hB, hr.below b hB, hn, hx⟩, b⟩
set_option maxRecDepth 100000 in
set_option maxHeartbeats 800000 in
theorem l01From_any (A : Option Addr) (n c B : Nat) (xs : List Int) (w : World) (hl : xs.length = n) (hn : n ≤ 4096) (hB : B ≤ w.heap.size) (h : Row w B A (intsK .u8 xs)) (hx : ∀ x ∈ xs, 0 ≤ x ∧ x ≤ 255) :
    Calls Try.prog 23 #[.slice A n c] w (NewSrc 57 B xs w) := by
  have HX := Lib.hid hx
  have HL := Lib.hid hl
  clear hx hl
  go_enter Try.func23, Try.ntmps23
  go_wp2_with fail
  go_loopw [4] (fun i wr => ∃ k : Nat, k ≤ n ∧ i = .int .i64 k ∧ Hashing w 57 A n c wr) (fun i _ => n - (intOf i).toNat)
  case atStart => exact ⟨0, Nat.zero_le _, rfl, Hashing.start ..⟩
  case round =>
    obtain ⟨k, hk, rfl, q0, hs, hb⟩ := hrel
    have c2 := hs.c2
    have f2 := hs.fr 2
    have HS := Lib.hid hs
    clear hs
    by_cases hlt : k < n
    · obtain ⟨y, hy⟩ := at_lt (show k < xs.length by rw [HL.out]; exact hlt)
      obtain ⟨b, o, rfl, hbB, hc⟩ := h.below hb hB k _ (intsK_at hy)
      obtain ⟨y0, y1⟩ := HX.out y (List.mem_of_getElem? hy)
      have hne : b ≠ w.heap.size := by omega
      clear hy
      go_wp2_with fail
      go_region
      all_goals
        go_wp2
        go_roundw
        case rel => exact ⟨k + 1, by omega, by go_num, Hashing.step HS.out hb⟩
        case measure => simp [intOf]; omega
    · obtain rfl : k = n := by omega
      have G := Lib.hid (Hashing.done HS.out hb HL.out hn hB h HX.out)
      clear c2 f2 HS
      go_wp2
      go_ret
      exact G.out

/-- a number of the field is drawn, and only the source (and new memory) turns -/
def Drawn (P : Int → Prop) (T : TypeId) (G B : Nat) (xs : List Int) (w : World) (e : Ending) (w' : World) : Prop :=
  ∃ r : Int, e = .returned (.int .i64 r) ∧ P r ∧ Src w' T G B xs ∧ w.grownBy w' (some G)
theorem only_alloc {w w' : World} {G : Nat} (h : w.grownBy w' (some G)) (o : Obj) : w.grownBy (w'.alloc o) (some G) :=
  ⟨h.os, h.tape, h.output, Nat.le_trans h.size (by simp), fun k hk hne => (Below.heap_alloc w' o k (Nat.lt_of_lt_of_le hk h.size)).trans (h.block k hk hne)⟩
theorem Src.lt {w : World} {T : TypeId} {G B : Nat} {xs : List Int} (s : Src w T G B xs) : G < w.heap.size := by
  obtain ⟨_, _, _, _, h, _⟩ := s; exact h.lt
theorem Src.alloc {w : World} {T : TypeId} {G B : Nat} {xs : List Int} (s : Src w T G B xs) (o : Obj) : Src (w.alloc o) T G B xs := by
  obtain ⟨A, c, i, h, h1, h2, h3, h4, h5⟩ := s
  exact ⟨A, c, i, h, (Below.heap_alloc w o G h1.lt).trans h1, h2, h3, h4.alloc (by have := h1.lt; omega) o, h5⟩
theorem Src.below {w w' : World} {T : TypeId} {G B : Nat} {xs : List Int} (s : Src w T G B xs) (hb : Below w.heap.size w w') : Src w' T G B xs := by
  obtain ⟨A, c, i, h, h1, h2, h3, h4, h5⟩ := s
  exact ⟨A, c, i, h, (hb.block G h1.lt).trans h1, h2, h3, h4.below hb (by have := h1.lt; omega), h5⟩
def IsN (r : Int) : Prop := 0 ≤ r ∧ r < 10007
def IsI64 (r : Int) : Prop := -9223372036854775808 ≤ r ∧ r ≤ 9223372036854775807

/-- one of a list is drawn -/
theorem l01Pick_any (G B : Nat) (xs : List Int) (A : Option Addr) (n c C : Nat) (ys : List Int) (w : World) (s : Src w 57 G B xs) (h : Row w C A (ints ys)) (hG : ∀ b o, A = some ⟨b, o, none⟩ → b ≠ G) (hl : ys.length = n) (hn : 1 ≤ n) (hm : n ≤ 1048576) :
    Calls Try.prog 22 #[.pointer (some ⟨G, 0, none⟩), .slice A n c] w (Drawn (· ∈ ys) 57 G B xs w) := by
  have HL := Lib.hid hl
  clear hl
  go_enter Try.func22, Try.ntmps22
  go_wp2_with fail
  refine (l01Next_any G B xs _ _ (by omega) s).mono ?_
  rintro e w1 ⟨r, rfl, r0, r1, s1, o1⟩
  obtain ⟨k, rfl⟩ := Int.eq_ofNat_of_zero_le r0
  obtain ⟨y, hy⟩ := at_lt (show k < ys.length by rw [HL.out]; omega)
  obtain ⟨b, o, rfl, hb, hc⟩ := h k _ (ints_at hy)
  have hne := hG b o rfl
  have hc1 := o1.cell hc (fun e => hne (by have := Option.some.inj e; simpa using this))
  have HY := Lib.hid (List.mem_of_getElem? hy)
  clear hy hc
  go_wp2
  go_ret
  exact ⟨_, rfl, HY.out, s1, o1⟩

theorem mem_small {r : Int} (h : r ∈ ([0, 1, 0, 1, 10006, 2] : List Int)) : IsN r := by
  simp at h; unfold IsN; omega
theorem mem_spoil {r : Int} (h : r ∈ ([-1, 10007, 1099511627776, -4611686018427387904] : List Int)) : IsI64 r := by
  simp at h; unfold IsI64; omega
theorem i64_of_n {r : Int} (h : IsN r) : IsI64 r := by unfold IsN at h; unfold IsI64; omega
/-- two numbers that are drawn out of a code -/
def DrawnTwo (P Q : Int → Prop) (w : World) (e : Ending) (w' : World) : Prop := ∃ a b : Int, e = .returned (.tuple #[.int .i64 a, .int .i64 b]) ∧ P a ∧ Q b ∧ Below w.heap.size w w'
def DrawnOne (P : Int → Prop) (w : World) (e : Ending) (w' : World) : Prop := ∃ a : Int, e = .returned (.int .i64 a) ∧ P a ∧ Below w.heap.size w w'
/-- a code that came in -/
def IsCode (w : World) (A : Option Addr) (n : Nat) (xs : List Int) : Prop := xs.length = n ∧ Row w w.heap.size A (intsK .u8 xs) ∧ ∀ x ∈ xs, 0 ≤ x ∧ x ≤ 255
theorem isCode_of {w : World} {A : Option Addr} {n c : Nat} {xs : List Int} (h : IsRow .u8 w A n c xs) : IsCode w A n xs := by
  obtain ⟨h1, _, _, h4, h5⟩ := h
  exact ⟨h1, h4, fun x hx => by simpa [Lit.wf, IntKind.min, IntKind.max, IntKind.signed, IntKind.bits] using h5 x hx⟩
theorem IsCode.below {w w' : World} {A : Option Addr} {n : Nat} {xs : List Int} (h : IsCode w A n xs) (hb : Below w.heap.size w w') : IsCode w' A n xs :=
  ⟨h.1, (h.2.1.below hb (Nat.le_refl _)).more hb.size, h.2.2⟩
end Go.Proofs.Ytplpcodknidgpaa
/-
  Draws of lists: worlds in which a source and rows of the call's own have turned.
-/
namespace Go.Proofs.Ytplpcodknidgpaa
open Go.RowKit Fld
set_option linter.unusedVariables false
set_option linter.unusedSimpArgs false
set_option maxRecDepth 100000

/-- a row of the call's own has turned, and the source -/
theorem only_row {w a b : World} {G g : Nat} (h : w.grownBy a (some G)) (k : a.grownBy b (some g)) (hg : w.heap.size ≤ g) : w.grownBy b (some G) :=
  ⟨k.os.trans h.os, k.tape.trans h.tape, k.output.trans h.output, Nat.le_trans h.size k.size, fun i hi hne => (k.block i (Nat.lt_of_lt_of_le hi h.size) (fun e => by have := Option.some.inj e; omega)).trans (h.block i hi hne)⟩
theorem Src.only {w w' : World} {T : TypeId} {G B g : Nat} {xs : List Int} (s : Src w T G B xs) (k : w.grownBy w' (some g)) (hg : g ≠ G) (hB : B ≤ g) : Src w' T G B xs := by
  obtain ⟨A, c, i, h, h1, h2, h3, h4, h5⟩ := s
  exact ⟨A, c, i, h, (k.block G h1.lt (fun e => hg (Option.some.inj e).symm)).trans h1, h2, h3, h4.only k hB, h5⟩
/-- a list that was drawn: its own memory, and only the source has turned -/
def DrawnL (P : List Int → Prop) (T : TypeId) (G B : Nat) (xs : List Int) (w : World) (e : Ending) (w' : World) : Prop :=
  ∃ g c n, ∃ ys : List Int, e = .returned (.slice (some ⟨g, 0, none⟩) n c) ∧ ys.length = n ∧ P ys ∧ w'.ownsRow w.heap.size 2 1 (.slice (some ⟨g, 0, none⟩) n c) n (ints ys) ∧ Src w' T G B xs ∧ w.grownBy w' (some G)
theorem own_past {w w1 : World} {base G g n c : Nat} {vs : List Value} (h : w.ownsRow base 2 1 (.slice (some ⟨g, 0, none⟩) n c) n vs) (hG : G < base) (o : w.grownBy w1 (some G)) : w1.ownsRow base 2 1 (.slice (some ⟨g, 0, none⟩) n c) n vs :=
  h.kept o (.inr (fun e => by have h1 := (h.lt g rfl).1; have h2 : g = G := (by simpa [Value.ownBlock] using e); omega))
theorem own_room {w : World} {base n c : Nat} {A : Option Addr} {vs : List Value} (h : w.ownsRow base 2 1 (.slice A n c) n vs) : n ≤ c := by
  rcases h.2 with ⟨e1, e2⟩ | ⟨g, cap, cur, e1, _, _, e2, _⟩
  · omega
  · injection e1 with e3 e4 e5; omega
theorem row_only {w w' : World} {base G g n c : Nat} {vs : List Value} (h : w.ownsRow base 2 1 (.slice (some ⟨g, 0, none⟩) n c) n vs) (hG : G < base) (o : w.grownBy w' (some G)) : Row w' w'.heap.size (some ⟨g, 0, none⟩) vs := row_of_own (own_past h hG o)
theorem own_pastv {w w1 : World} {base G n k : Nat} {T : TypeId} {v : Value} {vs : List Value} (h : w.ownsRow base T k v n vs) (hG : G < base) (o : w.grownBy w1 (some G)) : w1.ownsRow base T k v n vs := h.kept o (.inr (fun e => by have := (h.lt G e).1; omega))
/-- a list that was drawn, or none -/
def DrawnR (P : List Int → Prop) (T : TypeId) (G B : Nat) (xs : List Int) (w : World) (e : Ending) (w' : World) : Prop :=
  ∃ A c n, ∃ ys : List Int, e = .returned (.slice A n c) ∧ ys.length = n ∧ P ys ∧ w'.ownsRow w.heap.size 2 1 (.slice A n c) n (ints ys) ∧ Src w' T G B xs ∧ w.grownBy w' (some G)
theorem only_below {w a b : World} {G : Nat} (h : w.grownBy a (some G)) (k : Below a.heap.size a b) : w.grownBy b (some G) :=
  ⟨k.os.trans h.os, k.tape.trans h.tape, k.output.trans h.output, Nat.le_trans h.size k.size, fun i hi hne => (k.block i (Nat.lt_of_lt_of_le hi h.size)).trans (h.block i hi hne)⟩
end Go.Proofs.Ytplpcodknidgpaa
