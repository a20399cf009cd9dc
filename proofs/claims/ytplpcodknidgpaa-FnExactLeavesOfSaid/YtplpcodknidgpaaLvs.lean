/-
  What LeavesOf answers, the program's and the model's.
-/
import Derived.Test.YtplpcodknidgpaaMxl
import Derived.Test.YtplpcodknidgpaaTreeOf
import Derived.Test.YtplpcodknidgpaaCan
import Derived.Test.YtplpcodknidgpaaTreeN
import Derived.Test.YtplpcodknidgpaaTreeX
import Derived.Test.YtplpcodknidgpaaResO
import Derived.Test.YtplpcodknidgpaaGrowP
import Derived.Test.YtplpcodknidgpaaTreeC8
namespace Go.Proofs.Ytplpcodknidgpaa
open Go.RowKit Fld
set_option linter.unusedVariables false
set_option linter.unusedSimpArgs false
set_option maxRecDepth 100000

def isLeaf (t : List Int) (i : Nat) : Bool := decide (i + 1 = t.length) || decide (t.getD (i + 1) 0 ≤ t.getD i 0)
def lvN (t : List Int) : Nat → Nat
  | 0 => 0
  | k+1 => lvN t k + if isLeaf t k then 1 else 0
theorem lvN_le (t : List Int) : ∀ k, lvN t k ≤ k
  | 0 => Nat.le_refl _
  | k+1 => by
    have := lvN_le t k
    unfold lvN
    split <;> omega
def chkLv (t : List Int) : Bool := decide (lvN t t.length = lvN (Tr.can t) t.length)
theorem chkLv_all : Tr.allLv.all chkLv = true := by decide +kernel
def chkLc (t : List Int) : Bool := decide (Lib.count (Tr.txt t) [91, 93] = lvN t t.length)
theorem chkLc_all : Tr.allL.all chkLc = true := by decide +kernel
theorem can_all {t : List Int} (h : Tr.isLv t = true) : Tr.can t ∈ Tr.allL := by
  obtain ⟨h1, h2⟩ := lv_can h
  have h3 := Tr.isLv_iff.1 h1
  have h4 := Tr.isLv_iff.1 h
  have p1 := h4.1
  have hm : Tr.can t ∈ Tr.treesL t.length := by
    rw [← grow_trees h4.1 h4.2.1]
    refine Tr.grow_all (t.length - 1) [0] [] (Tr.can t) (by simp) h3 (by show (Tr.can t).length = 1 + (t.length - 1); omega) ?_ (Tr.can_can h).1
    obtain ⟨x, hx⟩ := at_lt (show 0 < (Tr.can t).length by omega)
    have e := h3.2.2.1
    rw [lv_at hx] at e
    subst e
    show (Tr.can t).take 1 = [0]
    rw [List.take_add_one, hx]; rfl
  unfold Tr.allL
  rw [List.mem_flatMap]
  exact ⟨t.length - 1, List.mem_range.2 (by have := h4.2.1; omega), by rw [show t.length - 1 + 1 = t.length by omega]; exact hm⟩
theorem count_lv {t : List Int} (h : Tr.isLv t = true) : Lib.count (Tr.txt t) [91, 93] = lvN t t.length := by
  have h1 := Tr.all_of chkLv_all (Tr.isLv_iff.1 h)
  unfold chkLv at h1
  have h2 := List.all_eq_true.1 chkLc_all _ (can_all h)
  unfold chkLc at h2
  rw [decide_eq_true_eq] at h1 h2
  rw [← (Tr.can_can h).2, h2, (lv_can h).2, ← h1]
def leavesA (t : List Int) : Int × Int := if Tr.isLv t = true then (((lvN t t.length : Nat) : Int), 0) else (0, 1)
theorem leavesA_yes {t : List Int} (h : Tr.isLv t = true) : leavesA t = (((lvN t t.length : Nat) : Int), 0) := if_pos h
theorem leavesA_no {t : List Int} (h : Tr.isLv t = false) : leavesA t = (0, 1) := if_neg (by rw [h]; simp)
set_option maxHeartbeats 1000000 in
theorem pLeavesOf_M (A : Option Addr) (n c B : Nat) (t : List Int) (w : World) (hmx : MxCell w) (hl : t.length = n) (hn : n ≤ 1048576) (hB : B ≤ w.heap.size) (h : Row w B A (ints t)) (hc : n ≤ c) :
    Calls Try.prog 7 #[.slice A n c] w (ResI (leavesA t) w) := by
  have C0 := isLevels_any A n c B t w hl (by omega) h
  cases hlv : Tr.isLv t
  · have G := Lib.hid (leavesA_no hlv)
    rw [hlv] at C0
    go_enter Try.func7, Try.ntmps7
    go_wp2_with fail
    refine C0.mono ?_
    rintro e w' ⟨rfl, m, rfl⟩
    go_wp2
    go_ret2
    exact ResI.of' G.out (below_drewN (Below.refl _ _) _)
  · rw [hlv] at C0
    obtain ⟨b1, b8⟩ := lv_bd hlv
    rw [hl] at b1 b8
    have HL := Lib.hid hl
    have G := Lib.hid (leavesA_yes hlv)
    have hcnt := count_lv hlv
    have htl := (lv_txt hlv).2.2.2
    have C3 : ∀ w', MxCell w' → Calls Try.prog 20 #[.string ⟨(Tr.txt t).toArray⟩, .string ⟨#[91, 93]⟩] w' fun e w2 => e = .returned (.int .i64 ((lvN t t.length : Nat) : Int)) ∧ w2 = w' := fun w' hm => by
      obtain ⟨m, hm⟩ := hm
      have hsz : (⟨(Tr.txt t).toArray⟩ : ByteArray).size < 4294967281 := by rw [size_S]; omega
      have := Try.strings_Count ⟨(Tr.txt t).toArray⟩ ⟨#[91, 93]⟩ m w' hsz hm (by decide)
      have e : Lib.countB ⟨(Tr.txt t).toArray⟩ ⟨#[91, 93]⟩ = lvN t t.length := by
        rw [← hcnt]
      rw [e] at this
      exact this
    have hbd := lvN_le t t.length
    obtain ⟨L, hL⟩ : ∃ L, L = lvN t t.length := ⟨_, rfl⟩
    rw [← hL] at C3 G hbd
    clear hl hlv hcnt hL
    go_enter Try.func7, Try.ntmps7
    go_wp2_with fail
    refine C0.mono ?_
    rintro e w' ⟨rfl, m, rfl⟩
    go_wp2_with fail
    refine (treeOf_any A n c B t _ HL.out b1 b8 hc (by exact hB) (h.drewN m)).mono ?_
    rintro e w2 ⟨rfl, bel2⟩
    have GB : Hid (Below w.heap.size w w2) := below_undrew' bel2
    have HM2 := Lib.hid (hmx.below GB.out)
    clear bel2
    go_wp2_with fail
    refine (C3 _ HM2.out).mono ?_
    rintro e w3 ⟨rfl, rfl⟩
    go_wp2
    go_ret2
    exact ResI.of' G.out GB.out
set_option maxHeartbeats 1000000 in
theorem sLeavesOf_L (A : Option Addr) (n c B : Nat) (t : List Int) (w : World) (hl : t.length = n) (hn : n ≤ 1048576) (hB : B ≤ w.heap.size) (h : Row w B A (ints t)) :
    Calls Try.prog 5 #[.slice A n c] w (ResI (leavesA t) w) := by
  have C0 := l03Is_any A n c B t w hl hn h
  cases hlv : Tr.isLv t
  · have G := Lib.hid (leavesA_no hlv)
    rw [hlv] at C0
    clear hl
    go_enter Try.func5, Try.ntmps5
    go_wp2_with fail
    refine C0.mono ?_
    rintro e w' ⟨rfl, m, rfl⟩
    go_wp2
    go_ret2
    exact ResI.of' G.out (below_drewN (Below.refl _ _) _)
  · rw [hlv] at C0
    obtain ⟨b1, b8⟩ := lv_bd hlv
    rw [hl] at b1 b8
    have HL := Lib.hid hl
    have G := Lib.hid (leavesA_yes hlv)
    rw [hl] at G
    clear hl hlv
    go_enter Try.func5, Try.ntmps5
    go_wp2_with fail
    refine C0.mono ?_
    rintro e w' ⟨rfl, m, rfl⟩
    go_wp2_with fail
    go_loopw [4, 5] (fun v i wr => ∃ k d : Nat, k ≤ n ∧ v = .int .i64 ((lvN t k : Nat) : Int) ∧ i = .int .i64 k ∧ wr = w.drewN d) (fun _ i _ => n - (intOf i).toNat)
    case atStart => exact ⟨0, m, Nat.zero_le _, rfl, rfl, rfl⟩
    case round =>
      obtain ⟨k, d, hk, rfl, rfl, rfl⟩ := hrel
      by_cases hlt : k < n
      · obtain ⟨x, hx⟩ := at_lt (show k < t.length by rw [HL.out]; exact hlt)
        obtain ⟨b, o, rfl, _, hcx⟩ := h k _ (ints_at hx)
        have hle := lvN_le t k
        have hle2 := lvN_le t (k + 1)
        have hstep : lvN t (k + 1) = lvN t k + if isLeaf t k then 1 else 0 := rfl
        have k0 : (0 : Int) ≤ (k : Int) + 1 := by omega
        have ew : IntKind.i64.wrap ((k : Int) + 1) = (k : Int) + 1 := IntWalk.i64_in _ (by omega)
        have en : ((k : Int) + 1).toNat = k + 1 := by omega
        by_cases he : k + 1 = n
        · have hlf : isLeaf t k = true := by unfold isLeaf; rw [HL.out, decide_eq_true he]; rfl
          rw [hlf, if_pos rfl] at hstep
          have HS := Lib.hid hstep
          have te := beq_t (show (k : Int) + 1 = (n : Int) by omega)
          clear hstep hlf hx
          go_wp2_with fail
          try go_quiet (fail)
          go_wp2
          go_roundw
          case rel => exact ⟨k + 1, _, by omega, by rw [HS.out]; push_cast; rfl, by go_num, rfl⟩
          case measure => simp [intOf]; omega
        · obtain ⟨y, hy⟩ := at_lt (show k + 1 < t.length by rw [HL.out]; omega)
          obtain ⟨b', o', eA, _, hcy⟩ := h (k + 1) _ (ints_at hy)
          injection eA with eA
          injection eA with e1 e2 _
          subst e1 e2
          have k1 : (k : Int) + 1 < (n : Int) := by omega
          have te := beq_f (show ¬ ((k : Int) + 1 = (n : Int)) by omega)
          by_cases hyx : y ≤ x
          · have hlf : isLeaf t k = true := by unfold isLeaf; rw [List.getD_eq_getElem?_getD, List.getD_eq_getElem?_getD, hx, hy]; simp [hyx]
            rw [hlf, if_pos rfl] at hstep
            have HS := Lib.hid hstep
            clear hstep hlf hx hy
            go_wp2_with fail
            try go_quiet (fail)
            go_wp2
            go_roundw
            case rel => exact ⟨k + 1, _, by omega, by rw [HS.out]; push_cast; rfl, by go_num, rfl⟩
            case measure => simp [intOf]; omega
          · have hlf : isLeaf t k = false := by unfold isLeaf; rw [HL.out, List.getD_eq_getElem?_getD, List.getD_eq_getElem?_getD, hx, hy, decide_eq_false he]; simp; omega
            rw [hlf, if_neg (by simp)] at hstep
            have HS := Lib.hid hstep
            clear hstep hlf hx hy
            go_wp2_with fail
            try go_quiet (fail)
            go_wp2
            go_roundw
            case rel => exact ⟨k + 1, _, by omega, by rw [HS.out]; rfl, by go_num, rfl⟩
            case measure => simp [intOf]; omega
      · obtain rfl : k = n := by omega
        go_wp2
        go_ret2
        exact ResI.of' G.out (below_drewN (Below.refl _ _) _)
end Go.Proofs.Ytplpcodknidgpaa
