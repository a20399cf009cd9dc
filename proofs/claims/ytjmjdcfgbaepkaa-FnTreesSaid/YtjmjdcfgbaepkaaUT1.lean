/-
  Texts of this seat, joined: what several laws lean on.
-/
import Derived.Test.YtjmjdcfgbaepkaaTests
import Derived.RegionTactic
import Derived.ChangeAlike
import Derived.Deep.QuietTactic
import Derived.BigQuiet
import Derived.Laws.BitsAllLaws
import Derived.Laws.BitsLemmas
import Derived.Laws.OwnMore
import Derived.OwnWalk
import Derived.Test.YtjmjdcfgbaepkaaSlices
import Derived.Test.YtjmjdcfgbaepkaaRes1
import Derived.Test.YtjmjdcfgbaepkaaLvl
import Derived.Test.YtjmjdcfgbaepkaaTreeD
import Derived.Outline
import Derived.Laws.DeepStrings4
import Derived.Test.YtjmjdcfgbaepkaaTreeE
import Derived.Laws.Strings2
import Derived.Test.YtjmjdcfgbaepkaaCan
import Derived.Test.YtjmjdcfgbaepkaaNestc
import Derived.Test.YtjmjdcfgbaepkaaCmp
import Derived.Test.YtjmjdcfgbaepkaaSrt
import Derived.Test.YtjmjdcfgbaepkaaSkip
import Derived.Deep.RegionHeld3
import Derived.Test.YtjmjdcfgbaepkaaForestS
import Derived.Test.YtjmjdcfgbaepkaaParts
import Derived.Test.YtjmjdcfgbaepkaaGrow
import Derived.Laws.AppendOwnNone
import Derived.Test.YtjmjdcfgbaepkaaLev
import Derived.Test.YtjmjdcfgbaepkaaTreeN
import Derived.Test.YtjmjdcfgbaepkaaMark1
import Derived.Test.YtjmjdcfgbaepkaaPush
import Derived.Lib.SliceRun
import Derived.Test.YtjmjdcfgbaepkaaTreeC8
import Derived.Test.YtjmjdcfgbaepkaaSCan
import Derived.Test.YtjmjdcfgbaepkaaResO
import Derived.Test.YtjmjdcfgbaepkaaTreeX
import Derived.Test.YtjmjdcfgbaepkaaReadP
import Derived.Test.YtjmjdcfgbaepkaaBase
import Derived.Test.YtjmjdcfgbaepkaaCmpX
import Derived.Test.YtjmjdcfgbaepkaaTreeF
import Derived.Test.YtjmjdcfgbaepkaaSame
import Derived.BigRegion
/-
  Sources of numbers in memory, as the laws and the models draw from: each number lies below what was asked for.
-/
namespace Go.Proofs.Ytjmjdcfgbaepkaa
open Go.RowKit Fld
set_option linter.unusedVariables false
set_option linter.unusedSimpArgs false
set_option maxRecDepth 100000

theorem Row.drewNd {w : World} {B : Nat} {A : Option Addr} {vs : List Value} (h : Row w B A vs) (n : Nat) : Row (w.drewN n) B A vs := h
theorem below_drewNd {B : Nat} {a w : World} (h : Below B a w) (n : Nat) : Below B a (w.drewN n) := ⟨h.os, h.tape, h.output, h.size, h.block⟩
/-- a source of numbers in memory: three cells -/
def SrcAt (w : World) (T : TypeId) (G : Nat) (A : Option Addr) (n c i : Nat) (h : Int) : Prop := w.heap[G]? = some (.cells #[.slice A n c, .int .i64 i, .int .u64 h] T (0, 0))
section
variable {w w' : World} {T : TypeId} {G n c i : Nat} {A : Option Addr} {h : Int}
theorem SrcAt.c0 (s : SrcAt w T G A n c i h) : w.cell? ⟨G, 0, none⟩ = some (.slice A n c) := by rw [cell_of_row w G 0 _ _ _ s]; rfl
theorem SrcAt.c1 (s : SrcAt w T G A n c i h) : w.cell? ⟨G, 1, none⟩ = some (.int .i64 i) := by rw [cell_of_row w G 1 _ _ _ s]; rfl
theorem SrcAt.c2 (s : SrcAt w T G A n c i h) : w.cell? ⟨G, 2, none⟩ = some (.int .u64 h) := by rw [cell_of_row w G 2 _ _ _ s]; rfl
theorem SrcAt.fr (s : SrcAt w T G A n c i h) (j : Nat) : w.frozen? ⟨G, j, none⟩ = false := frozen_of_row w G j _ _ s
theorem SrcAt.set1 (s : SrcAt w T G A n c i h) (i' : Nat) (v : Int) (hv : v = i') : SrcAt (w.setCell ⟨G, 1, none⟩ (.int .i64 v)) T G A n c i' h := by
  subst hv; exact heap_setCell_same w G 1 _ _ _ s
theorem SrcAt.set2 (s : SrcAt w T G A n c i h) (h' : Int) : SrcAt (w.setCell ⟨G, 2, none⟩ (.int .u64 h')) T G A n c i h' := heap_setCell_same w G 2 _ _ _ s
theorem SrcAt.drewN (s : SrcAt w T G A n c i h) (k : Nat) : SrcAt (w.drewN k) T G A n c i h := s
theorem SrcAt.lt (s : SrcAt w T G A n c i h) : G < w.heap.size := by
  rcases Nat.lt_or_ge G w.heap.size with g | g
  · exact g
  · unfold SrcAt at s; rw [Array.getElem?_eq_none g] at s; cases s
end
theorem mask_bd (z : Int) : 0 ≤ wrap64 (bits BinOp.and IntKind.u64 z 16777215) ∧ wrap64 (bits BinOp.and IntKind.u64 z 16777215) ≤ 16777215 := by
  have e : bits BinOp.and IntKind.u64 z 16777215 = ((BitVec.ofInt 64 z &&& BitVec.ofInt 64 16777215).toNat : Int) % 18446744073709551616 := rfl
  have h2 : (BitVec.ofInt 64 z &&& BitVec.ofInt 64 16777215).toNat ≤ 16777215 := by
    rw [BitVec.toNat_and]
    exact Nat.le_trans Nat.and_le_right (by decide)
  have h3 : bits BinOp.and IntKind.u64 z 16777215 = ((BitVec.ofInt 64 z &&& BitVec.ofInt 64 16777215).toNat : Int) := by rw [e]; omega
  rw [h3]
  unfold wrap64
  omega


def Src (w : World) (T : TypeId) (G B : Nat) (xs : List Int) : Prop :=
  ∃ A c i h, SrcAt w T G A xs.length c i h ∧ i ≤ xs.length ∧ B ≤ G ∧ Row w B A (intsK .u8 xs) ∧ xs.length ≤ 4096 ∧ ∀ x ∈ xs, 0 ≤ x ∧ x ≤ 255
/-- a number below m is drawn, and only the source turns -/
def Rolled (T : TypeId) (G B : Nat) (xs : List Int) (m : Int) (w : World) (e : Ending) (w' : World) : Prop :=
  ∃ r : Int, e = .returned (.int .i64 r) ∧ 0 ≤ r ∧ r < m ∧ Src w' T G B xs ∧ w.grownBy w' (some G)
theorem only_set {w w' : World} {G j : Nat} (h : w.grownBy w' (some G)) (u : Value) : w.grownBy (w'.setCell ⟨G, j, none⟩ u) (some G) :=
  ⟨h.os, h.tape, h.output, by simpa [World.setCell] using h.size, fun k hk hne => (Below.heap_setCell w' ⟨G, j, none⟩ u k (fun e => hne (by rw [e]))).trans (h.block k hk hne)⟩
theorem only_drewN {w w' : World} {G : Nat} (h : w.grownBy w' (some G)) (n : Nat) : w.grownBy (w'.drewN n) (some G) := ⟨h.os, h.tape, h.output, h.size, h.block⟩
theorem only_trans {a b c : World} {G : Nat} (h : a.grownBy b (some G)) (k : b.grownBy c (some G)) : a.grownBy c (some G) :=
  ⟨k.os.trans h.os, k.tape.trans h.tape, k.output.trans h.output, Nat.le_trans h.size k.size, fun i hi hne => (k.block i (Nat.lt_of_lt_of_le hi h.size) hne).trans (h.block i hi hne)⟩
theorem Row.only {w w' : World} {B G : Nat} {A : Option Addr} {vs : List Value} (h : Row w B A vs) (hg : w.grownBy w' (some G)) (hB : B ≤ G) : Row w' B A vs :=
  fun k v hv => by
    obtain ⟨b, o, e, hb, hc⟩ := h k v hv
    exact ⟨b, o, e, hb, hg.cell hc (fun e => by have := Option.some.inj e; simp at this; omega)⟩
theorem below_only {B : Nat} {a w w' : World} {G : Nat} (h : Below B a w) (hg : w.grownBy w' (some G)) (hB : B ≤ w.heap.size) (hG : B ≤ G) : Below B a w' :=
  h.grown hg hB (fun k hk => by cases hk; exact hG)


theorem big_any (A : Option Addr) (n c : Nat) (w : World) (hn : n ≤ 9223372036854775807) : Calls Try.prog 9 #[.slice A n c] w fun e w' => e = .returned (.bool (decide ((4096 : Int) < n))) ∧ w = w' := by
  go_enter Try.func9, Try.ntmps9
  go_wp2
  go_ret
  exact ⟨rfl, rfl⟩
set_option maxHeartbeats 800000 in
theorem l01Next_any (G B : Nat) (xs : List Int) (m : Int) (w : World) (hm : 1 ≤ m) (s : Src w 140 G B xs) :
    Calls Try.prog 73 #[.pointer (some ⟨G, 0, none⟩), .int .i64 m] w (Rolled 140 G B xs m w) := by
  obtain ⟨A, c, i, h, s, hi0, hBG, row, hn, hx⟩ := s
  have HX := Lib.hid hx
  clear hx
  have c2 := s.c2
  have f2 := s.fr 2
  have HS := Lib.hid s
  have HO : Hid (w.grownBy w (some G)) := World.grownBy.refl w (some G)
  clear s
  go_enter Try.func73, Try.ntmps73
  go_wp2_with fail
  generalize IntKind.u64.wrap (IntKind.u64.wrap (h * 6364136223846793005) + 1442695040888963407) = q
  obtain ⟨x0, x1⟩ := mask_bd (q / 8589934592)
  generalize wrap64 (bits BinOp.and IntKind.u64 (q / 8589934592) 16777215) = x at *
  have s2 := HS.out.set2 q
  have HO2 := Lib.hid (only_set (j := 2) HO.out (.int .u64 q))
  have row2 := row.only HO2.out hBG
  clear c2 f2 HS HO row
  generalize w.setCell ⟨G, 2, none⟩ (.int .u64 q) = W1 at *
  have c0 := s2.c0
  have c1 := s2.c1
  have f1 := s2.fr 1
  have HS := Lib.hid s2
  clear s2
  by_cases hi : i < xs.length
  · obtain ⟨y, hy⟩ := at_lt hi
    obtain ⟨b, o, rfl, hb, hc⟩ := row2 i _ (intsK_at hy)
    obtain ⟨y0, y1⟩ := HX.out y (List.mem_of_getElem? hy)
    have hne : b ≠ G := by omega
    clear hy
    go_quiet (fail)
    go_wp2_with fail
    go_quiet (fail)
    go_wp2
    go_ret
    exact ⟨_, rfl, Int.emod_nonneg _ (by omega), Int.emod_lt_of_pos _ (by omega), ⟨_, _, _, _, (HS.out.drewN _).set1 (i + 1) _ (by omega), by omega, hBG, Row.only (row2.drewNd _) (only_set (World.grownBy.refl _ _) _) hBG, hn, HX.out⟩, only_set (only_drewN HO2.out _) _⟩
  · go_quiet (fail)
    go_wp2
    go_ret
    exact ⟨_, rfl, Int.emod_nonneg _ (by omega), Int.emod_lt_of_pos _ (by omega), ⟨_, _, _, _, HS.out.drewN _, by omega, hBG, row2.drewNd _, hn, HX.out⟩, only_drewN HO2.out _⟩

/-- a new source over a list of bytes -/
def NewSrc (T : TypeId) (B : Nat) (xs : List Int) (w : World) (e : Ending) (w' : World) : Prop :=
  ∃ G, e = .returned (.pointer (some ⟨G, 0, none⟩)) ∧ w.heap.size ≤ G ∧ Src w' T G B xs ∧ Below w.heap.size w w'
def Hashing (w : World) (T : TypeId) (A : Option Addr) (n c : Nat) (wr : World) : Prop :=
  ∃ h, SrcAt wr T w.heap.size A n c (0 : Nat) h ∧ Below w.heap.size w wr
theorem Hashing.start (w : World) (T : TypeId) (A : Option Addr) (n c : Nat) (h : Int) : Hashing w T A n c (w.alloc (.cells #[.slice A n c, .int .i64 0, .int .u64 h] T)) :=
  ⟨h, heap_alloc_new w _, (Below.refl _ _).alloc (Nat.le_refl _) _⟩
theorem SrcAt.drew {w : World} {T : TypeId} {G n c i : Nat} {A : Option Addr} {h : Int} (s : SrcAt w T G A n c i h) : SrcAt w.drew T G A n c i h := s
theorem Hashing.step {w wr : World} {T : TypeId} {A : Option Addr} {n c : Nat} {h q : Int} (s : SrcAt wr T w.heap.size A n c (0 : Nat) h) (b : Below w.heap.size w wr) : Hashing w T A n c (wr.setCell ⟨w.heap.size, 2, none⟩ (.int .u64 q)).drew :=
  ⟨q, (s.set2 q).drew, (b.setCell (p := ⟨w.heap.size, 2, none⟩) (Nat.le_refl _) _).drew⟩
theorem Hashing.done {w wr : World} {T : TypeId} {A : Option Addr} {n c B : Nat} {h : Int} {xs : List Int} (s : SrcAt wr T w.heap.size A n c (0 : Nat) h) (b : Below w.heap.size w wr) (hl : xs.length = n) (hn : n ≤ 4096) (hB : B ≤ w.heap.size)
    (hr : Row w B A (intsK .u8 xs)) (hx : ∀ x ∈ xs, 0 ≤ x ∧ x ≤ 255) : NewSrc T B xs w (.returned (.pointer (some ⟨w.heap.size, 0, none⟩))) wr := by
  subst hl
  exact ⟨_, rfl, Nat.le_refl _, ⟨A, c, 0, h, s, by omega, hB, hr.below b hB, hn, hx⟩, b⟩
set_option maxRecDepth 100000 in
set_option maxHeartbeats 800000 in
theorem l01From_any (A : Option Addr) (n c B : Nat) (xs : List Int) (w : World) (hl : xs.length = n) (hn : n ≤ 4096) (hB : B ≤ w.heap.size) (h : Row w B A (intsK .u8 xs)) (hx : ∀ x ∈ xs, 0 ≤ x ∧ x ≤ 255) :
    Calls Try.prog 68 #[.slice A n c] w (NewSrc 140 B xs w) := by
  have HX := Lib.hid hx
  have HL := Lib.hid hl
  clear hx hl
  go_enter Try.func68, Try.ntmps68
  go_wp2_with fail
  go_loopw [4] (fun i wr => ∃ k : Nat, k ≤ n ∧ i = .int .i64 k ∧ Hashing w 140 A n c wr) (fun i _ => n - (intOf i).toNat)
  case atStart => exact ⟨0, Nat.zero_le _, rfl, Hashing.start ..⟩
  case round =>
    obtain ⟨k, hk, rfl, q0, hs, hb⟩ := hrel
    have c2 := hs.c2
    have f2 := hs.fr 2
    have HS := Lib.hid hs
    clear hs
    by_cases hlt : k < n
    · obtain ⟨y, hy⟩ := at_lt (show k < xs.length by rw [HL.out]; exact hlt)
      obtain ⟨b, o, rfl, hbB, hc⟩ := h.below hb hB k _ (intsK_at hy)
      obtain ⟨y0, y1⟩ := HX.out y (List.mem_of_getElem? hy)
      have hne : b ≠ w.heap.size := by omega
      clear hy
      go_wp2_with fail
      go_region
      all_goals
        go_wp2
        go_roundw
        case rel => exact ⟨k + 1, by omega, by go_num, Hashing.step HS.out hb⟩
        case measure => simp [intOf]; omega
    · obtain rfl : k = n := by omega
      have G := Lib.hid (Hashing.done HS.out hb HL.out hn hB h HX.out)
      clear c2 f2 HS
      go_wp2
      go_ret
      exact G.out

/-- a number of the field is drawn, and only the source (and new memory) turns -/
def Drawn (P : Int → Prop) (T : TypeId) (G B : Nat) (xs : List Int) (w : World) (e : Ending) (w' : World) : Prop :=
  ∃ r : Int, e = .returned (.int .i64 r) ∧ P r ∧ Src w' T G B xs ∧ w.grownBy w' (some G)
theorem only_alloc {w w' : World} {G : Nat} (h : w.grownBy w' (some G)) (o : Obj) : w.grownBy (w'.alloc o) (some G) :=
  ⟨h.os, h.tape, h.output, Nat.le_trans h.size (by simp), fun k hk hne => (Below.heap_alloc w' o k (Nat.lt_of_lt_of_le hk h.size)).trans (h.block k hk hne)⟩
theorem Src.lt {w : World} {T : TypeId} {G B : Nat} {xs : List Int} (s : Src w T G B xs) : G < w.heap.size := by
  obtain ⟨_, _, _, _, h, _⟩ := s; exact h.lt
theorem Src.alloc {w : World} {T : TypeId} {G B : Nat} {xs : List Int} (s : Src w T G B xs) (o : Obj) : Src (w.alloc o) T G B xs := by
  obtain ⟨A, c, i, h, h1, h2, h3, h4, h5⟩ := s
  exact ⟨A, c, i, h, (Below.heap_alloc w o G h1.lt).trans h1, h2, h3, h4.alloc (by have := h1.lt; omega) o, h5⟩
theorem Src.below {w w' : World} {T : TypeId} {G B : Nat} {xs : List Int} (s : Src w T G B xs) (hb : Below w.heap.size w w') : Src w' T G B xs := by
  obtain ⟨A, c, i, h, h1, h2, h3, h4, h5⟩ := s
  exact ⟨A, c, i, h, (hb.block G h1.lt).trans h1, h2, h3, h4.below hb (by have := h1.lt; omega), h5⟩
def IsN (r : Int) : Prop := 0 ≤ r ∧ r < 10007
def IsI64 (r : Int) : Prop := -9223372036854775808 ≤ r ∧ r ≤ 9223372036854775807

/-- one of a list is drawn -/
theorem l01Pick_any (G B : Nat) (xs : List Int) (A : Option Addr) (n c C : Nat) (ys : List Int) (w : World) (s : Src w 140 G B xs) (h : Row w C A (ints ys)) (hG : ∀ b o, A = some ⟨b, o, none⟩ → b ≠ G) (hl : ys.length = n) (hn : 1 ≤ n) (hm : n ≤ 1048576) :
    Calls Try.prog 70 #[.pointer (some ⟨G, 0, none⟩), .slice A n c] w (Drawn (· ∈ ys) 140 G B xs w) := by
  have HL := Lib.hid hl
  clear hl
  go_enter Try.func70, Try.ntmps70
  go_wp2_with fail
  refine (l01Next_any G B xs _ _ (by omega) s).mono ?_
  rintro e w1 ⟨r, rfl, r0, r1, s1, o1⟩
  obtain ⟨k, rfl⟩ := Int.eq_ofNat_of_zero_le r0
  obtain ⟨y, hy⟩ := at_lt (show k < ys.length by rw [HL.out]; omega)
  obtain ⟨b, o, rfl, hb, hc⟩ := h k _ (ints_at hy)
  have hne := hG b o rfl
  have hc1 := o1.cell hc (fun e => hne (by have := Option.some.inj e; simpa using this))
  have HY := Lib.hid (List.mem_of_getElem? hy)
  clear hy hc
  go_wp2
  go_ret
  exact ⟨_, rfl, HY.out, s1, o1⟩

theorem mem_small {r : Int} (h : r ∈ ([0, 1, 0, 1, 10006, 2] : List Int)) : IsN r := by
  simp at h; unfold IsN; omega
theorem mem_spoil {r : Int} (h : r ∈ ([-1, 10007, 1099511627776, -4611686018427387904] : List Int)) : IsI64 r := by
  simp at h; unfold IsI64; omega
theorem i64_of_n {r : Int} (h : IsN r) : IsI64 r := by unfold IsN at h; unfold IsI64; omega
/-- two numbers that are drawn out of a code -/
def DrawnTwo (P Q : Int → Prop) (w : World) (e : Ending) (w' : World) : Prop := ∃ a b : Int, e = .returned (.tuple #[.int .i64 a, .int .i64 b]) ∧ P a ∧ Q b ∧ Below w.heap.size w w'
def DrawnOne (P : Int → Prop) (w : World) (e : Ending) (w' : World) : Prop := ∃ a : Int, e = .returned (.int .i64 a) ∧ P a ∧ Below w.heap.size w w'
/-- a code that came in -/
def IsCode (w : World) (A : Option Addr) (n : Nat) (xs : List Int) : Prop := xs.length = n ∧ Row w w.heap.size A (intsK .u8 xs) ∧ ∀ x ∈ xs, 0 ≤ x ∧ x ≤ 255
theorem isCode_of {w : World} {A : Option Addr} {n c : Nat} {xs : List Int} (h : IsRow .u8 w A n c xs) : IsCode w A n xs := by
  obtain ⟨h1, _, _, h4, h5⟩ := h
  exact ⟨h1, h4, fun x hx => by simpa [Lit.wf, IntKind.min, IntKind.max, IntKind.signed, IntKind.bits] using h5 x hx⟩
theorem IsCode.below {w w' : World} {A : Option Addr} {n : Nat} {xs : List Int} (h : IsCode w A n xs) (hb : Below w.heap.size w w') : IsCode w' A n xs :=
  ⟨h.1, (h.2.1.below hb (Nat.le_refl _)).more hb.size, h.2.2⟩
end Go.Proofs.Ytjmjdcfgbaepkaa
/-
  The laws' comparison of lists; lists in memory.
-/
namespace Go.Proofs.Ytjmjdcfgbaepkaa
open Go.RowKit Fld
set_option linter.unusedVariables false
set_option linter.unusedSimpArgs false
set_option maxRecDepth 100000

set_option maxHeartbeats 400000 in
theorem likeInts_any (A A' : Option Addr) (n n' c c' B B' : Nat) (xs ys : List Int) (w : World) (hl : xs.length = n) (hl' : ys.length = n') (hn : n ≤ 9223372036854775807) (hn' : n' ≤ 9223372036854775807) (h : Row w B A (ints xs)) (h' : Row w B' A' (ints ys)) :
    Calls Try.prog 27 #[.slice A n c, .slice A' n' c'] w fun e w' => e = .returned (.bool (eqL xs ys)) ∧ ∃ m, w' = w.drewN m := by
  have HL := Lib.hid hl
  have HL' := Lib.hid hl'
  clear hl hl'
  by_cases hnn : n = n'
  · subst hnn
    go_enter Try.func27, Try.ntmps27
    go_wp2_with fail
    go_loopw [5] (fun i wr => ∃ k m : Nat, k ≤ n ∧ i = .int .i64 k ∧ wr = w.drewN m ∧ Hid (xs.take k = ys.take k)) (fun i _ => n - (intOf i).toNat)
    case atStart => exact ⟨0, 0, Nat.zero_le _, rfl, rfl, rfl⟩
    case round =>
      obtain ⟨k, m, hk, rfl, rfl, HT⟩ := hrel
      by_cases hlt : k < n
      · obtain ⟨x, hx⟩ := at_lt (show k < xs.length by rw [HL.out]; exact hlt)
        obtain ⟨y, hy⟩ := at_lt (show k < ys.length by rw [HL'.out]; exact hlt)
        obtain ⟨b, o, rfl, _, hc⟩ := h k _ (ints_at hx)
        obtain ⟨b', o', rfl, _, hc'⟩ := h' k _ (ints_at hy)
        by_cases hxy : x = y
        · subst hxy
          have G := Lib.hid (take_same HT.out hx hy)
          clear hx hy HT
          go_wp2_with fail
          go_quiet (fail)
          go_wp2
          go_roundw
          case rel => exact ⟨k + 1, _, by omega, by go_num, rfl, G⟩
          case measure => simp [intOf]; omega
        · have G := Lib.hid (eqL_at hx hy hxy)
          have t := bne_t hxy
          clear hx hy HT hxy
          go_wp2_with fail
          go_quiet (fail)
          go_wp2
          go_ret
          exact ⟨ret_bool G.out.symm, _, World.drewN_drewN ..⟩
      · obtain rfl : k = n := by omega
        have G := Lib.hid (eqL_end HT.out HL.out HL'.out)
        clear HT
        go_wp2
        go_ret
        exact ⟨ret_bool G.out.symm, _, rfl⟩
  · have G := Lib.hid (eqL_len (xs := xs) (ys := ys) (by rw [HL.out, HL'.out]; exact hnn))
    have t := bne_t (show (n : Int) ≠ (n' : Int) by omega)
    clear hnn
    go_enter Try.func27, Try.ntmps27
    go_wp2
    go_ret
    exact ⟨ret_bool G.out.symm, 0, rfl⟩

/-- a list in memory -/
def Lst (w : World) (A : Option Addr) (L : List Int) : Prop := Row w w.heap.size A (ints L)
theorem Lst.next {w w' : World} {A : Option Addr} {L : List Int} (h : Lst w A L) (b : Below w.heap.size w w') : Lst w' A L := (Row.below h b (Nat.le_refl _)).more b.size
theorem Lst.drew {w : World} {A : Option Addr} {L : List Int} (h : Lst w A L) (n : Nat) : Lst (w.drewN n) A L := h
theorem Lst.redrew {w : World} {A : Option Addr} {L : List Int} {a : Nat} (h : Lst (w.drewN a) A L) (n : Nat) : Lst (w.drewN (a + n)) A L := h
theorem below_redrewN {B : Nat} {a w : World} {m : Nat} (h : Below B a (w.drewN m)) (n : Nat) : Below B a (w.drewN (m + n)) := below_drewN (w := w) ⟨h.os, h.tape, h.output, h.size, h.block⟩ _
theorem Src.drew {w : World} {T : TypeId} {G B : Nat} {xs : List Int} (s : Src w T G B xs) (n : Nat) : Src (w.drewN n) T G B xs := s
theorem Src.redrew {w : World} {T : TypeId} {G B a : Nat} {xs : List Int} (s : Src (w.drewN a) T G B xs) (n : Nat) : Src (w.drewN (a + n)) T G B xs := s
theorem Lst.alloc {w : World} {A : Option Addr} {L : List Int} (h : Lst w A L) (o : Obj) : Lst (w.alloc o) A L := h.next ((Below.refl _ _).alloc (Nat.le_refl _) _)
theorem Lst.only {w w' : World} {A : Option Addr} {L : List Int} {G B : Nat} (h : Row w B A (ints L)) (hB : B ≤ w.heap.size) (k : w.grownBy w' (some G)) (hG : B ≤ G) : Lst w' A L := (Row.only h k hG).more (Nat.le_trans hB k.size)
theorem below_step {B : Nat} {a w w' : World} (h : Below B a w) (hB : B ≤ w.heap.size) (k : Below w.heap.size w w') : Below B a w' := h.trans (k.mono hB)
/-- a list in memory below B -/
def Low (w : World) (B : Nat) (A : Option Addr) (L : List Int) : Prop := Row w B A (ints L) ∧ B ≤ w.heap.size
theorem Low.of {w : World} {A : Option Addr} {L : List Int} (h : Lst w A L) : Low w w.heap.size A L := ⟨h, Nat.le_refl _⟩
theorem Low.next {w w' : World} {B : Nat} {A : Option Addr} {L : List Int} (h : Low w B A L) (b : Below w.heap.size w w') : Low w' B A L := ⟨Row.below h.1 b h.2, Nat.le_trans h.2 b.size⟩
theorem Low.drew {w : World} {B : Nat} {A : Option Addr} {L : List Int} (h : Low w B A L) (n : Nat) : Low (w.drewN n) B A L := h
theorem Low.redrew {w : World} {B a : Nat} {A : Option Addr} {L : List Int} (h : Low (w.drewN a) B A L) (n : Nat) : Low (w.drewN (a + n)) B A L := h
theorem Low.only {w w' : World} {B G : Nat} {A : Option Addr} {L : List Int} (h : Low w B A L) (k : w.grownBy w' (some G)) (hG : B ≤ G) : Low w' B A L := ⟨Row.only h.1 k hG, Nat.le_trans h.2 k.size⟩
theorem Low.lst {w : World} {B : Nat} {A : Option Addr} {L : List Int} (h : Low w B A L) : Lst w A L := Row.more h.1 h.2
theorem likeInts_yes (A A' : Option Addr) (n n' c c' : Nat) (xs ys : List Int) (w : World) (e : xs = ys) (hl : xs.length = n) (hl' : ys.length = n') (hn : n ≤ 1048576) (h : Lst w A xs) (h' : Lst w A' ys) :
    Calls Try.prog 27 #[.slice A n c, .slice A' n' c'] w fun e w' => e = .returned (.bool true) ∧ ∃ m, w' = w.drewN m := by
  subst e
  refine (likeInts_any A A' n n' c c' _ _ xs xs w hl hl' (by omega) (by omega) h h').mono ?_
  rintro e w' ⟨rfl, m, rfl⟩
  exact ⟨by rw [eqL_self], m, rfl⟩
end Go.Proofs.Ytjmjdcfgbaepkaa
/-
  What contracts give, taken out for the walks of laws: a list or a number beside a code.
-/
namespace Go.Proofs.Ytjmjdcfgbaepkaa
open Go.RowKit Fld
set_option linter.unusedVariables false
set_option linter.unusedSimpArgs false
set_option maxRecDepth 100000

theorem resL_out {a : List Int} {k : Int} {r : List Int × Int} {w w' : World} {e : Ending} (h : ResL r w e w') (hr : r = (a, k)) : ∃ A c, e = .returned (.tuple #[.slice A a.length c, .int .i64 k]) ∧ Lst w' A a ∧ a.length ≤ c ∧ Below w.heap.size w w' := by
  subst hr
  obtain ⟨_, A, c, rfl, o1, hb⟩ := h
  exact ⟨A, c, rfl, row_of_own o1, (own_cap o1).1, hb⟩
theorem resI_out {x k : Int} {r : Int × Int} {w w' : World} {e : Ending} (h : ResI r w e w') (hr : r = (x, k)) : e = .returned (.tuple #[.int .i64 x, .int .i64 k]) ∧ Below w.heap.size w w' := by
  subst hr; exact h
end Go.Proofs.Ytjmjdcfgbaepkaa
/-
  A text is split into those of trees.
-/
namespace Go.Proofs.Ytjmjdcfgbaepkaa
open Go.RowKit Fld
set_option linter.unusedVariables false
set_option linter.unusedSimpArgs false
set_option maxRecDepth 100000

theorem extract_S (s : List UInt8) (a b : Nat) : (⟨s.toArray⟩ : ByteArray).extract a b = ⟨((s.drop a).take (b - a)).toArray⟩ := by
  apply ByteArray.ext
  simp [ByteArray.data_extract]
theorem tr_open {cur : List UInt8} {o : Nat} {acc : List (List UInt8)} {s : List UInt8} {p : Nat} (h : s[p]? = some 91) : Tr.trF cur o acc (s.drop p) = Tr.trF (cur ++ [91]) (o + 1) acc (s.drop (p + 1)) := by
  have hlt : p < s.length := by
    rcases Nat.lt_or_ge p s.length with g | g
    · exact g
    · rw [List.getElem?_eq_none g] at h; cases h
  rw [List.getElem?_eq_getElem hlt] at h
  injection h with h
  rw [List.drop_eq_getElem_cons hlt, h, Tr.trF, if_pos rfl]
theorem tr_close {cur : List UInt8} {o : Nat} {acc : List (List UInt8)} {s : List UInt8} {p : Nat} (h : s[p]? = some 93) : Tr.trF cur o acc (s.drop p) = if o = 0 then ([], false) else if o = 1 then Tr.trF [] 0 (acc ++ [cur ++ [93]]) (s.drop (p + 1)) else Tr.trF (cur ++ [93]) (o - 1) acc (s.drop (p + 1)) := by
  have hlt : p < s.length := by
    rcases Nat.lt_or_ge p s.length with g | g
    · exact g
    · rw [List.getElem?_eq_none g] at h; cases h
  rw [List.getElem?_eq_getElem hlt] at h
  injection h with h
  rw [List.drop_eq_getElem_cons hlt, h, Tr.trF, if_neg (by decide), if_pos rfl]
theorem tr_other {cur : List UInt8} {o : Nat} {acc : List (List UInt8)} {s : List UInt8} {p : Nat} {c : UInt8} (h : s[p]? = some c) (h1 : c ≠ 91) (h2 : c ≠ 93) : Tr.trF cur o acc (s.drop p) = ([], false) := by
  have hlt : p < s.length := by
    rcases Nat.lt_or_ge p s.length with g | g
    · exact g
    · rw [List.getElem?_eq_none g] at h; cases h
  rw [List.getElem?_eq_getElem hlt] at h
  injection h with h
  rw [List.drop_eq_getElem_cons hlt, h, Tr.trF, if_neg h1, if_neg h2]
theorem cut_step {s : List UInt8} {a p : Nat} {c : UInt8} (h : s[p]? = some c) (ha : a ≤ p) : (s.drop a).take (p + 1 - a) = (s.drop a).take (p - a) ++ [c] := by
  rw [show p + 1 - a = p - a + 1 from by omega, List.take_add_one, List.getElem?_drop, show a + (p - a) = p from by omega, h]; rfl
/-- the texts of trees, and whether there are no others -/
def ResT (r : List (List UInt8) × Bool) (w : World) (e : Ending) (w' : World) : Prop :=
  ∃ A q c, e = .returned (.tuple #[.slice A q c, .bool r.2]) ∧ w'.ownsRow w.heap.size 75 1 (.slice A q c) q (strs r.1) ∧ Below w.heap.size w w'
theorem ResT.none {r : List (List UInt8) × Bool} {w w' : World} (h : r = ([], false)) (hb : Below w.heap.size w w') : ResT r w (.returned (.tuple #[.slice none 0 0, .bool false])) w' := by
  subst h; exact ⟨_, _, _, rfl, World.ownsRow_nil .., hb⟩
set_option maxHeartbeats 2000000 in
theorem treesIn_any (s : List UInt8) (w : World) (hn : s.length ≤ 1048576) :
    Calls Try.prog 96 #[.string ⟨s.toArray⟩] w (ResT (Tr.trF [] 0 [] s) w) := by
  obtain ⟨i0, hi, hz0, hz1, hz2⟩ := info_parts info_tree
  have HN := Lib.hid hn
  obtain ⟨S, hS⟩ : ∃ S : ByteArray, S = ⟨s.toArray⟩ := ⟨_, rfl⟩
  have HSZ : Hid (S.size = s.length) := by rw [Hid, hS]; exact size_S s
  have HS := Lib.hid hS
  rw [← hS]
  have hs20 : S.size ≤ 1048576 := by rw [HSZ.out]; exact hn
  clear hS hn
  go_enter Try.func96, Try.ntmps96
  go_wp2_with fail
  go_loopw [4, 5, 6] (fun v a o wr => ∃ (p st op q cv : Nat) (Av : Option Addr) (acc : List (List UInt8)), p ≤ S.size ∧ st ≤ p ∧ op ≤ p ∧ q ≤ p ∧ v = .slice Av q cv ∧ a = .int .i64 st ∧ o = .int .i64 op ∧ wr.heap[w.heap.size]? = some (.stringIter S p) ∧ Hid (Tr.trF [] 0 [] s = Tr.trF ((s.drop st).take (p - st)) op acc (s.drop p)) ∧ Hid (wr.ownsRow w.heap.size 75 1 (.slice Av q cv) q (strs acc)) ∧ Below w.heap.size w wr) (fun _ _ _ wr => S.size - wr.iterPos w.heap.size)
  case atStart => exact ⟨0, 0, 0, 0, 0, none, [], Nat.zero_le _, Nat.le_refl _, Nat.le_refl _, Nat.le_refl _, rfl, rfl, rfl, World.iter_heap w S 0, by simp [Hid], World.ownsRow_nil .., (Below.refl _ _).alloc (Nat.le_refl _) _⟩
  case round =>
    obtain ⟨p, st, op, q, cv, Av, acc, hp, hst, hop, hq, rfl, rfl, rfl, hit, HE, HO, HBw⟩ := hrel
    have hlt := (Array.getElem?_eq_some_iff.1 hit).1
    by_cases hps : p < S.size
    · obtain ⟨c, hc⟩ := at_lt (show p < s.length by rw [← HSZ.out]; exact hps)
      have hbyte : S[p]'hps = c := by
        have hS := HS.out
        subst hS
        exact byte_at hc hps
      have HIT := Lib.hid hit
      by_cases hasc : c.toNat < 128
      · have hnx : ∀ ty, (Instr.next (.pointer (some ⟨w.heap.size, 0, none⟩)) true ty).run Try.prog wr = _ := fun ty => Lib.run_next_ascii_at wr w.heap.size S p ty hit hps (by rw [hbyte]; exact hasc)
        rw [hbyte] at hnx
        have hit2 := Lib.iterAt_heap wr w.heap.size S p (p + 1) hit
        have HO2 := Lib.hid (own_iterAt (p' := p + 1) HO.out hit)
        have HB2 := Lib.hid (Lib.below_iterAt HBw (k := w.heap.size) (Nat.le_refl _) S (p + 1))
        have hsz2 : (wr.iterAt w.heap.size S (p + 1)).heap.size = wr.heap.size := Lib.iterAt_size ..
        have hW1 : w.heap.size < (wr.iterAt w.heap.size S (p + 1)).heap.size := by rw [hsz2]; exact hlt
        by_cases h91 : c = 91
        · subst h91
          have e91 : ((91 : UInt8).toNat : Int) = 91 := rfl
          rw [e91] at hnx
          have HE2 : Hid (Tr.trF [] 0 [] s = Tr.trF ((s.drop st).take (p + 1 - st)) (op + 1) acc (s.drop (p + 1))) := by rw [Hid, HE.out, tr_open hc, cut_step hc hst]
          generalize hW : wr.iterAt w.heap.size S (p + 1) = W at *
          have HH2 := Lib.hid hit2
          have t0 : ((op : Int) + 1 == 0) = false := beq_f (by omega)
          clear hc hbyte hasc HE HBw HO hit hW hit2 hsz2
          go_wp2
          go_roundw
          case rel => exact ⟨p + 1, st, op + 1, q, cv, Av, acc, by omega, by omega, by omega, by omega, rfl, rfl, by go_num, HH2.out, HE2, HO2, HB2.out⟩
          case measure =>
            simp only [World.iterPos, HH2.out, HIT.out]
            omega
        · by_cases h93 : c = 93
          · subst h93
            have e93 : ((93 : UInt8).toNat : Int) = 93 := rfl
            rw [e93] at hnx
            have HTC := Lib.hid (HE.out.trans (tr_close hc))
            have HCUT : Hid ((s.drop st).take (p + 1 - st) = (s.drop st).take (p - st) ++ [93]) := cut_step hc hst
            generalize hW : wr.iterAt w.heap.size S (p + 1) = W at *
            have HH2 := Lib.hid hit2
            clear hc hbyte hasc HE HBw HO hit hW hit2 hsz2
            rcases (show op = 0 ∨ op = 1 ∨ 2 ≤ op by omega) with rfl | rfl | h2
            · have G : Hid (Tr.trF [] 0 [] s = ([], false)) := by rw [Hid, HTC.out, if_pos rfl]
              clear HTC
              go_wp2
              go_ret2
              exact ResT.none G.out HB2.out
            · have HE2 : Hid (Tr.trF [] 0 [] s = Tr.trF ((s.drop (p + 1)).take (p + 1 - (p + 1))) 0 (acc ++ [(s.drop st).take (p + 1 - st)]) (s.drop (p + 1))) := by
                rw [Hid, HTC.out, if_neg (by decide), if_pos rfl, Nat.sub_self, List.take_zero, HCUT.out]
              have HX : Hid (S.extract st (p + 1) = ⟨((s.drop st).take (p + 1 - st)).toArray⟩) := by rw [Hid, HS.out]; exact extract_S s st (p + 1)
              obtain ⟨X, hX⟩ : ∃ X, X = S.extract st (p + 1) := ⟨_, rfl⟩
              have HXX : Hid (S.extract st (p + 1) = X) := hX.symm
              have hown2 := HO2.out
              have hp1 : p + 1 ≤ S.size := hps
              clear HTC
              have hsl : ∀ W, (Instr.slice 9 (.string S) (some (.int .i64 (st : Int))) (some (.int .i64 ((p : Int) + 1))) none).run Try.prog W = .ok (.string X) W := fun W => by
                rw [run_slice_string W 9 S .i64 .i64 st ((p : Int) + 1) Try.underlying9 (by omega) (by omega) (by omega)]
                rw [← HXX.out]
                congr 3
              clear hX
              go_wp2_with (at_builtin; (refine wpList_append_lies _ rfl (.tmp 28) (.tmp 34) 96 rfl w.heap.size 75 i0 _ 1 16 Try.underlying96 hi hz0 hz1 hz2 rfl (by omega) (.slice Av q cv) q (strs acc) rfl (hown2.alloc _) ⟨W.heap.size, 0, none⟩ 1 1 [.string X] rfl rfl (World.news_of_block (cs := #[.string X]) (heap_alloc_new _ _)) (by simp [Value.oneCell']) (by omega) (by simp only [maxLen]; omega) (by omega) (by simp; omega) (W.heap.size + 1) (by simp) ?_); intro g2 cap2 w3 hown3 hgrow3 hat3 hlt3)
              have e1 : strs acc ++ [Value.string X] = strs (acc ++ [(s.drop st).take (p + 1 - st)]) := by rw [← HXX.out, HX.out]; simp [strs]
              rw [e1] at hown3
              have GI : Hid (w3.heap[w.heap.size]? = some (.stringIter S (p + 1))) := by
                rw [Hid, hgrow3.block _ (by simp; omega) (own_ne_iter HO2.out HH2.out), Lib.alloc_old _ _ _ hW1]
                exact HH2.out
              have G3 := Lib.hid hown3
              have GB3 : Hid (Below w.heap.size w w3) := (HB2.out.alloc (by omega) _).grown hgrow3 (by simp; omega) (fun z hz => (HO2.out.lt z hz).1)
              clear hown3 hgrow3 hat3 hown2 e1 hsl
              go_wp2
              go_roundw
              case rel => exact ⟨p + 1, p + 1, 0, q + 1, cap2, _, _, by omega, by omega, by omega, by omega, rfl, by go_num, rfl, GI.out, HE2, G3, GB3.out⟩
              case measure =>
                simp only [World.iterPos, GI.out, HIT.out]
                omega
            · have HE2 : Hid (Tr.trF [] 0 [] s = Tr.trF ((s.drop st).take (p + 1 - st)) (op - 1) acc (s.drop (p + 1))) := by
                rw [Hid, HTC.out, if_neg (by omega), if_neg (by omega), HCUT.out]
              have t0 : ((op : Int) - 1 == 0) = false := beq_f (by omega)
              clear HTC
              go_wp2
              go_roundw
              case rel => exact ⟨p + 1, st, op - 1, q, cv, Av, acc, by omega, by omega, by omega, by omega, rfl, rfl, by go_num, HH2.out, HE2, HO2, HB2.out⟩
              case measure =>
                simp only [World.iterPos, HH2.out, HIT.out]
                omega
          · have G : Hid (Tr.trF [] 0 [] s = ([], false)) := by rw [Hid, HE.out]; exact tr_other hc h91 h93
            have t1 : ((c.toNat : Int) == 91) = false := beq_f (fun e => h91 (UInt8.toNat_inj.1 (by simp; omega)))
            have t2 : ((c.toNat : Int) == 93) = false := beq_f (fun e => h93 (UInt8.toNat_inj.1 (by simp; omega)))
            generalize hW : wr.iterAt w.heap.size S (p + 1) = W at *
            clear hc hbyte hasc HE HBw HO hit hW hit2 hsz2 h91 h93
            go_wp2
            go_ret2
            exact ResT.none G.out HB2.out
      · have hd := decode_high S p hps (by rw [hbyte]; omega)
        have hnx : ∀ ty, (Instr.next (.pointer (some ⟨w.heap.size, 0, none⟩)) true ty).run Try.prog wr = _ := fun ty => Lib.run_next_any_at wr w.heap.size S p ty hit hps
        have h91 : c ≠ 91 := fun e => by subst e; exact hasc (by decide)
        have h93 : c ≠ 93 := fun e => by subst e; exact hasc (by decide)
        have G : Hid (Tr.trF [] 0 [] s = ([], false)) := by rw [Hid, HE.out]; exact tr_other hc h91 h93
        have HB2 := Lib.hid (Lib.below_iterAt HBw (k := w.heap.size) (Nat.le_refl _) S (p + (Utf8.decode S p).2))
        generalize hW : wr.iterAt w.heap.size S (p + (Utf8.decode S p).2) = W at *
        obtain ⟨rn, hrn⟩ : ∃ rn, rn = (Utf8.decode S p).1 := ⟨_, rfl⟩
        rw [← hrn] at hnx hd
        have t1 : ((rn : Int) == 91) = false := beq_f (by have := hd.1; omega)
        have t2 : ((rn : Int) == 93) = false := beq_f (by have := hd.1; omega)
        clear hc hbyte hasc HE HBw HO hit hW h91 h93 hrn hd
        go_wp2
        go_ret2
        exact ResT.none G.out HB2.out
    · have hnx : ∀ ty, (Instr.next (.pointer (some ⟨w.heap.size, 0, none⟩)) true ty).run Try.prog wr = _ := fun ty => Lib.run_next_end_at wr w.heap.size S p ty hit hps
      have e : Tr.trF [] 0 [] s = (acc, op == 0) := by
        have hl : s.length ≤ p := by have := HSZ.out; unfold Hid at this; omega
        have := HE.out
        rw [List.drop_of_length_le hl] at this
        rw [this]
        simp [Tr.trF]
      have G : Hid (ResT (Tr.trF [] 0 [] s) w (.returned (.tuple #[.slice Av q cv, .bool (op == 0)])) wr) := by
        rw [Hid, e]; exact ⟨Av, q, cv, rfl, HO.out, HBw⟩
      by_cases h0 : op = 0
      · subst h0
        clear HBw HE e hit
        go_wp2
        go_ret2
        exact G.out
      · have t0 : ((op : Int) == 0) = false := beq_f (by omega)
        have t1 : (op == 0) = false := by simp [h0]
        rw [t1] at G
        clear HBw HE e hit h0 t1
        go_wp2
        go_ret2
        exact G.out
end Go.Proofs.Ytjmjdcfgbaepkaa
/-
  The branches of a tree by its text.
-/
namespace Go.Proofs.Ytjmjdcfgbaepkaa
open Go.RowKit Fld
set_option linter.unusedVariables false
set_option linter.unusedSimpArgs false
set_option maxRecDepth 100000

/-- texts of the call's own -/
def ResTs (l : List (List UInt8)) (w : World) (e : Ending) (w' : World) : Prop :=
  ∃ A q c, e = .returned (.slice A q c) ∧ q = l.length ∧ w'.ownsRow w.heap.size 75 1 (.slice A q c) q (strs l) ∧ Below w.heap.size w w'
theorem branches_any (x : List UInt8) (w : World) (hx : Tr.isTx x = true) :
    Calls Try.prog 81 #[.string ⟨x.toArray⟩] w (ResTs (Tr.brT x) w) := by
  obtain ⟨⟨h2, h16⟩, _, _⟩ := Tr.br_parts hx
  obtain ⟨S, hS⟩ : ∃ S : ByteArray, S = ⟨x.toArray⟩ := ⟨_, rfl⟩
  have hsz : S.size = x.length := by rw [hS]; exact size_S x
  have HX : Hid (S.extract 1 (x.length - 1) = ⟨(Tr.inner x).toArray⟩) := by
    rw [Hid, hS, extract_S]; unfold Tr.inner; rw [show x.length - 1 - 1 = x.length - 2 from by omega]
  obtain ⟨X, hX⟩ : ∃ X, X = S.extract 1 (x.length - 1) := ⟨_, rfl⟩
  have hXX : X = ⟨(Tr.inner x).toArray⟩ := by rw [hX]; exact HX.out
  have HXX : Hid (S.extract 1 (x.length - 1) = X) := hX.symm
  have hil : (Tr.inner x).length ≤ 1048576 := by unfold Tr.inner; rw [List.length_take]; omega
  have C0 := treesIn_any (Tr.inner x) w hil
  rw [← hXX] at C0
  have hsl : ∀ W, (Instr.slice 75 (.string S) (some (.int .i64 1)) (some (.int .i64 ((S.size : Int) - 1))) none).run Try.prog W = .ok (.string X) W := fun W => by
    have h9 := run_slice_string W 75 S .i64 .i64 1 ((S.size : Int) - 1) Try.underlying75 (by omega) (by omega) (by omega)
    rw [show (S.size : Int) - 1 = ((x.length - 1 : Nat) : Int) from by omega] at h9 ⊢
    rw [h9, ← HXX.out]
    congr 3
  rw [← hS]
  have hs2 : 2 ≤ S.size := by omega
  have hs16 : S.size ≤ 16 := by omega
  clear hX hXX hS hsz h2 h16 hil hx
  go_enter Try.func81, Try.ntmps81
  go_wp2_with fail
  refine C0.mono ?_
  rintro e w1 ⟨A, q, c, rfl, own1, bel1⟩
  have G : Hid (ResTs (Tr.brT x) w (.returned (.slice A q c)) w1) := by
    refine ⟨A, q, c, rfl, ?_, own1, bel1⟩
    have := own_len own1
    rw [strs_length] at this
    exact this.symm
  clear own1 bel1
  go_wp2
  go_ret
  exact G.out
end Go.Proofs.Ytjmjdcfgbaepkaa
/-
  The lists of trees by their texts.
-/
namespace Go.Proofs.Ytjmjdcfgbaepkaa
open Go.RowKit Fld
set_option linter.unusedVariables false
set_option linter.unusedSimpArgs false
set_option maxRecDepth 100000

set_option maxHeartbeats 400000 in
theorem listsOf_any (A : Option Addr) (n c B : Nat) (ss : List (List UInt8)) (w : World) (hl : ss.length = n) (hn : n ≤ 1048576) (hs : ∀ s ∈ ss, s.length ≤ 1048576 ∧ Brk s) (hB : B ≤ w.heap.size) (h : Row w B A (strs ss)) :
    Calls Try.prog 97 #[.slice A n c] w (NewMat n (ss.map Tr.lvl) w) := by
  obtain ⟨i0, hi, hz0, hz1, hz2⟩ := info_parts info_row
  have HL := Lib.hid hl
  have HS := Lib.hid hs
  have HML : Hid ((ss.map Tr.lvl).length = n) := by rw [Hid, List.length_map]; exact hl
  clear hl hs
  go_enter Try.func97, Try.ntmps97
  go_wp2_with (at_make; refine wpList_make_full _ rfl (.tmp 7) (.tmp 7) 44 rfl w.heap.size 24 i0 _ 1 Try.underlying44 hi hz0 hz1 .i64 .i64 _ _ n rfl rfl rfl rfl (by rw [hz2]; omega) (by simp only [maxLen]; omega) (Nat.le_refl _) ?_; intro w1 hown hg)
  have F0 := FillM.start (m := ss.map Tr.lvl) hown hg
  clear hown hg hz0 hz1 hz2 hi
  go_wp2_with fail
  go_loopw [11] (fun i wr => ∃ k : Nat, k ≤ n ∧ i = .int .i64 k ∧ FillM w n (ss.map Tr.lvl) k wr) (fun i _ => n - (intOf i).toNat)
  case atStart => exact ⟨0, Nat.zero_le _, rfl, F0⟩
  case round =>
    obtain ⟨k, hk, rfl, HF⟩ := hrel
    by_cases hlt : k < n
    · obtain ⟨s, hs⟩ := at_lt (show k < ss.length by rw [HL.out]; exact hlt)
      obtain ⟨hs1, hs2⟩ := HS.out s (List.mem_of_getElem? hs)
      obtain ⟨vs, hvs, hbel, hsz⟩ := id HF
      obtain ⟨b, o, rfl, _, hc⟩ := (Row.below h hbel hB) k _ (strs_at hs)
      have HR : Hid ((ss.map Tr.lvl)[k]? = some (Tr.lvl s)) := by rw [Hid, List.getElem?_map, hs]; rfl
      have C1 := fun w => levels_any s w hs1 hs2
      obtain ⟨S, hS⟩ : ∃ S : ByteArray, S = ⟨s.toArray⟩ := ⟨_, rfl⟩
      rw [← hS] at C1 hc
      have HF' := Lib.hid HF
      clear hs hs1 hs2 F0 HF hvs hbel hS
      go_wp2_with fail
      refine (C1 _).mono ?_
      rintro e w2 ⟨A2, c2, rfl, own2, be2⟩
      obtain ⟨⟨u, hu⟩, hf⟩ := HF'.out.cell HML.out hlt be2
      have G := Lib.hid (HF'.out.step HML.out HR.out own2 be2)
      clear own2
      go_wp2
      go_roundw
      case rel => exact ⟨k + 1, by omega, by go_num, G.out⟩
      case measure => simp [intOf]; omega
    · obtain rfl : k = n := by omega
      have G := Lib.hid (HF.done HML.out)
      clear HF F0
      go_wp2
      go_ret
      exact G.out
end Go.Proofs.Ytjmjdcfgbaepkaa
/-
  slices.SortFunc of a few texts by tree.compare; forestOf.
-/
namespace Go.Proofs.Ytjmjdcfgbaepkaa
open Go.RowKit Fld
set_option linter.unusedVariables false
set_option linter.unusedSimpArgs false
set_option maxRecDepth 100000

theorem cmp_lt (x y : List UInt8) : decide (Tr.cmpT x y < 0) = !Tr.leT y x := by
  unfold Tr.leT Tr.cmpT
  by_cases h1 : x.length / 2 < y.length / 2
  · have h2 : ¬ y.length / 2 < x.length / 2 := by omega
    simp [h1, h2]
  · by_cases h2 : y.length / 2 < x.length / 2
    · simp [h1, h2]
    · rw [if_neg h1, if_neg h2, if_neg h2, if_neg h1]
      unfold Tr.ltS
      cases h3 : Tr.leS x y <;> cases h4 : Tr.leS y x <;> simp
      have := Tr.leS_to h3
      rw [h4] at this; cases this
theorem insT_le (p s : List UInt8) : (Tr.cmpT p s ≤ 0) = (Tr.leT p s = true) := by unfold Tr.leT; simp
theorem insT_perm (p : List UInt8) : ∀ l, (Tr.insT p l).Perm (p :: l)
  | [] => List.Perm.refl _
  | s :: r => by
    rw [Tr.insT]
    split
    · exact List.Perm.refl _
    · exact ((insT_perm p r).cons s).trans (List.Perm.swap p s r)
theorem sortT_perm : ∀ l, (Tr.sortT l).Perm l
  | [] => List.Perm.refl _
  | p :: r => (insT_perm p (Tr.sortT r)).trans ((sortT_perm r).cons p)
theorem insT_sorted (p : List UInt8) : ∀ l, l.Pairwise (fun a b => Tr.leT a b = true) → (Tr.insT p l).Pairwise (fun a b => Tr.leT a b = true)
  | [], _ => by simp [Tr.insT]
  | s :: r, h => by
    rw [Tr.insT]
    rw [List.pairwise_cons] at h
    cases e : Tr.leT p s
    · rw [if_neg (by rw [insT_le, e]; simp)]
      rw [List.pairwise_cons]
      refine ⟨fun x hx => ?_, insT_sorted p r h.2⟩
      rw [(insT_perm p r).mem_iff, List.mem_cons] at hx
      rcases hx with rfl | hx
      · exact Tr.leT_to e
      · exact h.1 x hx
    · rw [if_pos (by rw [insT_le]; exact e), List.pairwise_cons, List.pairwise_cons]
      refine ⟨fun x hx => ?_, h⟩
      rw [List.mem_cons] at hx
      rcases hx with rfl | hx
      · exact e
      · exact Tr.leT_tr e (h.1 x hx)
theorem sortT_sorted : ∀ l, (Tr.sortT l).Pairwise (fun a b => Tr.leT a b = true)
  | [] => List.Pairwise.nil
  | p :: r => insT_sorted p _ (sortT_sorted r)
/-- a row of texts that a sort turns, beside memory that it makes -/
def Frow (base g n cap : Nat) (w : World) (ls : List (List UInt8)) (wr : World) : Prop := wr.ownsRow base 75 1 (.slice (some ⟨g, 0, none⟩) n cap) n (strs ls) ∧ Below base w wr ∧ base ≤ wr.heap.size
theorem Frow.swap {base g n cap j : Nat} {w wr : World} {ls : List (List UInt8)} {x y : List UInt8} (h : Frow base g n cap w ls wr) :
    Frow base g n cap w ((ls.set (j + 1) y).set j x) ((wr.setCell ⟨g, j + 1, none⟩ (.string ⟨y.toArray⟩)).setCell ⟨g, j, none⟩ (.string ⟨x.toArray⟩)) := by
  obtain ⟨h1, h2⟩ := h.1.stored (j + 1) (.string ⟨y.toArray⟩)
  obtain ⟨h3, h4⟩ := h1.stored j (.string ⟨x.toArray⟩)
  rw [← strs_set, ← strs_set] at h3
  have hg : base ≤ g := (h.1.lt g rfl).1
  refine ⟨h3, below_set (below_set h.2.1 hg _) hg _, ?_⟩
  have e1 : ∀ (W : World) (p : Addr) (v : Value), (W.setCell p v).heap.size = W.heap.size := fun W p v => by simp [World.setCell]
  rw [e1, e1]; exact h.2.2
theorem Frow.below {base g n cap : Nat} {w wr w2 : World} {ls : List (List UInt8)} (h : Frow base g n cap w ls wr) (hb : Below wr.heap.size wr w2) : Frow base g n cap w ls w2 :=
  ⟨((OwnR.of h.1).below hb (Nat.le_refl _)).1, h.2.1.trans (hb.mono h.2.2), Nat.le_trans h.2.2 hb.size⟩
theorem Frow.drewN {base g n cap : Nat} {w wr : World} {ls : List (List UInt8)} (h : Frow base g n cap w ls wr) (m : Nat) : Frow base g n cap w ls (wr.drewN m) := h.below (below_drewN (Below.refl _ _) m)
set_option maxHeartbeats 4000000 in
theorem fInsert_any (base g n cap : Nat) (ss : List (List UInt8)) (w : World) (hl : ss.length = n) (h1 : 1 ≤ n) (hn : n ≤ 12) (hs16 : ∀ s ∈ ss, s.length ≤ 16) (hbase : base ≤ w.heap.size) (h : w.ownsRow base 75 1 (.slice (some ⟨g, 0, none⟩) n cap) n (strs ss)) :
    Calls Try.prog 162 #[.slice (some ⟨g, 0, none⟩) n cap, .int .i64 0, .int .i64 n, (.func (.func 75) #[] #[])] w fun e w' => e = .returned (.tuple #[]) ∧ Frow base g n cap w (Tr.sortT ss) w' := by
  have HL := Lib.hid hl
  have F0 : Hid (Frow base g n cap w (ss.take 1 ++ ss.drop 1) w) := by rw [Hid, List.take_append_drop]; exact ⟨h, Below.refl _ _, hbase⟩
  have H16 := Lib.hid hs16
  have I0 := Lib.hid (Insd.one (le := Tr.leT) ss (by omega))
  clear hl h hs16
  go_enter Try.func162, Try.ntmps162
  go_wp2_with fail
  go_loopw [8] (fun i wr => ∃ (k : Nat) (S : List (List UInt8)), 1 ≤ k ∧ k ≤ n ∧ i = .int .i64 k ∧ Hid (Insd Tr.leT ss k S) ∧ Frow base g n cap w (S ++ ss.drop k) wr) (fun i _ => n - (intOf i).toNat)
  case atStart => exact ⟨1, _, Nat.le_refl _, h1, rfl, I0, F0.out⟩
  case round =>
    obtain ⟨i, S, i1, hi, rfl, HI, HF⟩ := hrel
    by_cases hlt : i < n
    · obtain ⟨x, hx⟩ := at_lt (show i < ss.length by rw [HL.out]; exact hlt)
      have HX := Lib.hid hx
      have hin : Hid (∀ j T W, j ≤ i → Frow base g n cap w (insAt S j x (ss.drop (i + 1))) W → Insd Tr.leT ss (i + 1) T → T = S.take j ++ x :: S.drop j → Frow base g n cap w (T ++ ss.drop (i + 1)) W) := by
        intro j T W hj hW hT e
        subst e
        unfold insAt at hW
        simpa using hW
      have F1 : Hid (Frow base g n cap w (insAt S i x (ss.drop (i + 1))) wr) := by
        rw [Hid]
        have e := insAt_start (S := S) (R := ss.drop (i + 1)) (x := x)
        rw [HI.out.len] at e
        rw [e]
        have e2 : ss.drop i = x :: ss.drop (i + 1) := by
          have hlt2 : i < ss.length := by rw [HL.out]; exact hlt
          rw [List.drop_eq_getElem_cons hlt2]
          rw [List.getElem?_eq_getElem hlt2] at hx
          injection hx with hx
          rw [hx]
        rw [← e2]; exact HF
      clear hx HF F0 I0
      go_wp2_with fail
      go_loopw [9] (fun jj wr => ∃ j : Nat, j ≤ i ∧ jj = .int .i64 j ∧ Hid (∀ s ∈ S.drop j, Tr.leT x s = true) ∧ Frow base g n cap w (insAt S j x (ss.drop (i + 1))) wr) (fun jj _ => (intOf jj).toNat)
      case atStart => exact ⟨i, Nat.le_refl _, rfl, (fun s hs => by rw [List.drop_of_length_le (by rw [HI.out.len]; exact Nat.le_refl _)] at hs; cases hs), F1.out⟩
      case round =>
        obtain ⟨j, hj, rfl, HD, HF⟩ := hrel
        by_cases h0 : j = 0
        · have G : Hid (∃ T, Insd Tr.leT ss (i + 1) T ∧ Frow base g n cap w (T ++ ss.drop (i + 1)) wr) :=
            have hT := HI.out.step (le := Tr.leT) Tr.leT_tr HX.out HD.out hj (fun y hy => by omega)
            ⟨_, hT, hin.out j _ _ hj HF hT rfl⟩
          obtain rfl : j = 0 := h0
          obtain ⟨T, hT, hW⟩ := G.out
          have GT := Lib.hid hT
          have GW := Lib.hid hW
          clear HF HD F1 G hT hW hin
          go_wp2_with fail
          go_quiet (fail)
          go_wp2
          go_roundw
          case rel => exact ⟨i + 1, T, by omega, by omega, by go_num, GT, GW.out.drewN _⟩
          case measure => simp [intOf]; omega
        · obtain ⟨k, rfl⟩ : ∃ k, j = k + 1 := ⟨j - 1, by omega⟩
          obtain ⟨y, hy⟩ := at_lt (show k < S.length by rw [HI.out.len]; omega)
          have hjl : k + 1 ≤ S.length := by rw [HI.out.len]; exact hj
          have hx16 := H16.out x (List.mem_of_getElem? HX.out)
          have hy16 : y.length ≤ 16 := H16.out y (List.mem_of_mem_take ((HI.out.perm.mem_iff).1 (List.mem_of_getElem? hy)))
          have c1 := HF.1.cellAt (k + 1) (by omega)
          have c2 := HF.1.cellAt k (by omega)
          have f1 := HF.1.frozenAt (k + 1)
          have f2 := HF.1.frozenAt k
          rw [strs_at (insAt_x hjl)] at c1
          rw [strs_at (insAt_y hjl hy)] at c2
          have hd : decide ((0 : Int) < (k : Int) + 1) = true := decide_eq_true (by omega)
          have HFF := Lib.hid HF
          have HIX : Hid ((strs (insAt S (k + 1) x (ss.drop (i + 1))))[k + 1]? = some (.string ⟨x.toArray⟩)) := strs_at (insAt_x hjl)
          have HIY : Hid ((strs (insAt S (k + 1) x (ss.drop (i + 1))))[k]? = some (.string ⟨y.toArray⟩)) := strs_at (insAt_y hjl hy)
          cases hyx : Tr.leT y x
          · have HD2 : Hid (∀ s ∈ S.drop k, Tr.leT x s = true) := ins_low HD.out hy (Tr.leT_to hyx)
            have HS : Hid (insAt S k x (ss.drop (i + 1)) = ((insAt S (k + 1) x (ss.drop (i + 1))).set (k + 1) y).set k x) := (insAt_swap hjl hy).symm
            have hcl := cmp_lt x y
            rw [hyx] at hcl
            have C0 := fun w => compare_any x y w (by omega) (by omega)
            obtain ⟨v, hv⟩ : ∃ v, v = Tr.cmpT x y := ⟨_, rfl⟩
            simp only [← hv] at C0
            rw [← hv] at hcl
            have hvd : v < 0 := by simpa using hcl
            obtain ⟨X, hX⟩ : ∃ X : ByteArray, X = ⟨x.toArray⟩ := ⟨_, rfl⟩
            obtain ⟨Y, hY⟩ : ∃ Y : ByteArray, Y = ⟨y.toArray⟩ := ⟨_, rfl⟩
            rw [← hX] at c1 C0
            rw [← hY] at c2 C0
            have KK : Hid (∀ W, Below wr.heap.size wr W → W.cell? ⟨g, k + 1, none⟩ = some (.string X) ∧ W.cell? ⟨g, k, none⟩ = some (.string Y)) := fun W hb => by
              have hF := HFF.out.below hb
              have d1 := hF.1.cellAt (k + 1) (by omega)
              have d2 := hF.1.cellAt k (by omega)
              rw [HIX.out, ← hX] at d1
              rw [HIY.out, ← hY] at d2
              exact ⟨d1, d2⟩
            have ek : (((k + 1 : Nat)) : Int) = (k : Int) + 1 := by omega
            have hwk : IntKind.i64.wrap (k : Int) = (k : Int) := IntWalk.i64_in _ (by omega)
            have hk0 : (0 : Int) ≤ (k : Int) := Int.natCast_nonneg _
            have hk1 : (k : Int) + 1 < (n : Int) := by omega
            have hk2 : (k : Int) < (n : Int) := by omega
            have hk3 : (0 : Int) ≤ (k : Int) + 1 := by omega
            have GG : Hid (∀ W, Below wr.heap.size wr W → Frow base g n cap w (insAt S k x (ss.drop (i + 1))) ((W.setCell ⟨g, k + 1, none⟩ (.string Y)).setCell ⟨g, k, none⟩ (.string X))) := fun W hb => by rw [HS.out, hX, hY]; exact (HFF.out.below hb).swap
            have FZ : Hid (∀ W, Below wr.heap.size wr W → W.frozen? ⟨g, k + 1, none⟩ = false ∧ W.frozen? ⟨g, k, none⟩ = false) := fun W hb => ⟨(HFF.out.below hb).1.frozenAt (k + 1), (HFF.out.below hb).1.frozenAt k⟩
            rw [ek]
            clear HF HD F1 hjl hy hin h0 HS hcl hv hX hY HFF HIX HIY hyx hx16 hy16 f1 f2 ek hd
            go_wp2_with fail
            refine wp_region_noPanic ?_
            refine wp_region_held_drew (S := (fun w' => w'.cell? ⟨g, k + 1, none⟩ = some (.string X) ∧ w'.cell? ⟨g, k, none⟩ = some (.string Y))) (by kernel_rfl) ?_ (fun hHeld => ?_)
            · first | exact ⟨c1, c2⟩ | exact KK.out _ ⟨bel2.os, bel2.tape, bel2.output, bel2.size, bel2.block⟩
            refine wpAnyH_take (i := 0) (oi := _) (v := ?_) rfl (by kernel_rfl) (by kernel_rfl) (by kernel_rfl) (fun _ _ _ h => h) (Or.inl ⟨by kernel_rfl, ?_⟩) (by assumption) ?_
            rotate_left
            · (intro w hSw; (try dsimp only at hSw); go_simp; try (with_reducible rfl))
            try simp only [Act.put, List.setIfInBounds_toArray, List.set_cons_zero, List.set_cons_succ, List.getElem_toArray, List.getElem_cons_zero, List.getElem_cons_succ]
            refine wpAnyH_take (i := 1) (oi := _) (v := ?_) rfl (by kernel_rfl) (by kernel_rfl) (by kernel_rfl) (fun _ _ _ h => h) (Or.inl ⟨by kernel_rfl, ?_⟩) (by assumption) ?_
            rotate_left
            · (intro w hSw; (try dsimp only at hSw); go_simp; try (with_reducible rfl))
            try simp only [Act.put, List.setIfInBounds_toArray, List.set_cons_zero, List.set_cons_succ, List.getElem_toArray, List.getElem_cons_zero, List.getElem_cons_succ]
            refine wpAnyH_take (i := 2) (oi := _) (v := ?_) rfl (by kernel_rfl) (by kernel_rfl) (by kernel_rfl) (fun _ _ _ h => h) (Or.inl ⟨by kernel_rfl, ?_⟩) (by assumption) ?_
            rotate_left
            · (intro w hSw; (try dsimp only at hSw); go_simp; try (with_reducible rfl))
            try simp only [Act.put, List.setIfInBounds_toArray, List.set_cons_zero, List.set_cons_succ, List.getElem_toArray, List.getElem_cons_zero, List.getElem_cons_succ]
            refine wpAnyH_take (i := 3) (oi := _) (v := ?_) rfl (by kernel_rfl) (by kernel_rfl) (by kernel_rfl) (fun _ _ _ h => h) (Or.inl ⟨by kernel_rfl, ?_⟩) (by assumption) ?_
            rotate_left
            · (intro w hSw; (try dsimp only at hSw); go_simp; try (with_reducible rfl))
            try simp only [Act.put, List.setIfInBounds_toArray, List.set_cons_zero, List.set_cons_succ, List.getElem_toArray, List.getElem_cons_zero, List.getElem_cons_succ]
            refine wpAnyH_take (i := 4) (oi := _) (v := ?_) rfl (by kernel_rfl) (by kernel_rfl) (by kernel_rfl) (fun _ _ _ h => h) (Or.inl ⟨by kernel_rfl, ?_⟩) (by assumption) ?_
            rotate_left
            · (intro w hSw; (try dsimp only at hSw); go_simp; try (with_reducible rfl))
            try simp only [Act.put, List.setIfInBounds_toArray, List.set_cons_zero, List.set_cons_succ, List.getElem_toArray, List.getElem_cons_zero, List.getElem_cons_succ]
            refine wpAnyH_take (i := 5) (oi := _) (v := ?_) rfl (by kernel_rfl) (by kernel_rfl) (by kernel_rfl) (fun _ _ _ h => h) (Or.inl ⟨by kernel_rfl, ?_⟩) (by assumption) ?_
            rotate_left
            · (intro w hSw; (try dsimp only at hSw); go_simp; try (with_reducible rfl))
            try simp only [Act.put, List.setIfInBounds_toArray, List.set_cons_zero, List.set_cons_succ, List.getElem_toArray, List.getElem_cons_zero, List.getElem_cons_succ]
            refine wpAnyH_take (i := 6) (oi := _) (v := ?_) rfl (by kernel_rfl) (by kernel_rfl) (by kernel_rfl) (fun _ _ _ h => h) (Or.inl ⟨by kernel_rfl, ?_⟩) (by assumption) ?_
            rotate_left
            · (intro w hSw; (try dsimp only at hSw); go_simp; try (with_reducible rfl))
            try simp only [Act.put, List.setIfInBounds_toArray, List.set_cons_zero, List.set_cons_succ, List.getElem_toArray, List.getElem_cons_zero, List.getElem_cons_succ]
            refine wpAnyH_take (i := 7) (oi := _) (v := ?_) rfl (by kernel_rfl) (by kernel_rfl) (by kernel_rfl) (fun _ _ _ h => h) (Or.inl ⟨by kernel_rfl, ?_⟩) (by assumption) ?_
            rotate_left
            · (intro w hSw; (try dsimp only at hSw); go_simp; try (with_reducible rfl))
            try simp only [Act.put, List.setIfInBounds_toArray, List.set_cons_zero, List.set_cons_succ, List.getElem_toArray, List.getElem_cons_zero, List.getElem_cons_succ]
            refine wpAnyH_take (i := 8) (oi := _) (v := ?_) rfl (by kernel_rfl) (by kernel_rfl) (by kernel_rfl) (fun _ _ _ h => h) (Or.inl ⟨by kernel_rfl, ?_⟩) (by assumption) ?_
            rotate_left
            · (intro w hSw; (try dsimp only at hSw); go_simp; try (with_reducible rfl))
            try simp only [Act.put, List.setIfInBounds_toArray, List.set_cons_zero, List.set_cons_succ, List.getElem_toArray, List.getElem_cons_zero, List.getElem_cons_succ]
            refine wpAnyH_take (i := 9) (oi := _) (v := ?_) rfl (by kernel_rfl) (by kernel_rfl) (by kernel_rfl) (fun _ _ _ h => h) (Or.inl ⟨by kernel_rfl, ?_⟩) (by assumption) ?_
            rotate_left
            · (intro w hSw; (try dsimp only at hSw); go_simp; try (with_reducible rfl))
            try simp only [Act.put, List.setIfInBounds_toArray, List.set_cons_zero, List.set_cons_succ, List.getElem_toArray, List.getElem_cons_zero, List.getElem_cons_succ]
            refine wpAnyH_take (i := 10) (oi := _) (v := ?_) rfl (by kernel_rfl) (by kernel_rfl) (by kernel_rfl) (fun _ _ _ h => h) (Or.inl ⟨by kernel_rfl, ?_⟩) (by assumption) ?_
            rotate_left
            · (intro w hSw; (try dsimp only at hSw); go_simp; try (with_reducible rfl))
            try simp only [Act.put, List.setIfInBounds_toArray, List.set_cons_zero, List.set_cons_succ, List.getElem_toArray, List.getElem_cons_zero, List.getElem_cons_succ]
            refine wpAnyH_take (i := 11) (oi := _) (v := ?_) rfl (by kernel_rfl) (by kernel_rfl) (by kernel_rfl) (fun _ _ _ h => h) (Or.inl ⟨by kernel_rfl, ?_⟩) (by assumption) ?_
            rotate_left
            · (intro w hSw; (try dsimp only at hSw); go_simp; try (with_reducible rfl))
            try simp only [Act.put, List.setIfInBounds_toArray, List.set_cons_zero, List.set_cons_succ, List.getElem_toArray, List.getElem_cons_zero, List.getElem_cons_succ]
            refine wpAnyH_take (i := 12) (oi := _) (v := ?_) rfl (by kernel_rfl) (by kernel_rfl) (by kernel_rfl) (fun _ _ _ h => h) (Or.inl ⟨by kernel_rfl, ?_⟩) (by assumption) ?_
            rotate_left
            · (intro w hSw; (try dsimp only at hSw); go_simp; try (with_reducible rfl))
            try simp only [Act.put, List.setIfInBounds_toArray, List.set_cons_zero, List.set_cons_succ, List.getElem_toArray, List.getElem_cons_zero, List.getElem_cons_succ]
            refine wpAnyH_take (i := 13) (oi := _) (v := ?_) rfl (by kernel_rfl) (by kernel_rfl) (by kernel_rfl) (fun _ _ _ h => h) (Or.inl ⟨by kernel_rfl, ?_⟩) (by assumption) ?_
            rotate_left
            · (intro w hSw; (try dsimp only at hSw); go_simp; try (with_reducible rfl))
            try simp only [Act.put, List.setIfInBounds_toArray, List.set_cons_zero, List.set_cons_succ, List.getElem_toArray, List.getElem_cons_zero, List.getElem_cons_succ]
            refine wpAnyH_ready (rs := [14]) (by kernel_rfl) (by simp) (AllReadyH.cons (o := _) rfl (fun K hK => ?_) AllReadyH.nil)
            go_simp
            (go_at_call 75; refine (C0 _).mono ?_; rintro e w2 ⟨rfl, bel2⟩)
            go_wp2_with fail
            refine hK.out _ _ ?_ (fun hHeld => ?_)
            · first | exact ⟨c1, c2⟩ | exact KK.out _ ⟨bel2.os, bel2.tape, bel2.output, bel2.size, bel2.block⟩
            clear hK K
            try simp only [Act.put, List.setIfInBounds_toArray, List.set_cons_zero, List.set_cons_succ, List.getElem_toArray, List.getElem_cons_zero, List.getElem_cons_succ]
            refine wpAnyH_take (i := 15) (oi := _) (v := ?_) rfl (by kernel_rfl) (by kernel_rfl) (by kernel_rfl) (fun _ _ _ h => h) (Or.inl ⟨by kernel_rfl, ?_⟩) (by assumption) ?_
            rotate_left
            · (intro w hSw; (try dsimp only at hSw); go_simp; try (with_reducible rfl))
            try simp only [Act.put, List.setIfInBounds_toArray, List.set_cons_zero, List.set_cons_succ, List.getElem_toArray, List.getElem_cons_zero, List.getElem_cons_succ]
            refine wpAnyH_take (i := 16) (oi := _) (v := ?_) rfl (by kernel_rfl) (by kernel_rfl) (by kernel_rfl) (fun _ _ _ h => h) (Or.inl ⟨by kernel_rfl, ?_⟩) (by assumption) ?_
            rotate_left
            · (intro w hSw; (try dsimp only at hSw); go_simp; try (with_reducible rfl))
            try simp only [Act.put, List.setIfInBounds_toArray, List.set_cons_zero, List.set_cons_succ, List.getElem_toArray, List.getElem_cons_zero, List.getElem_cons_succ]
            refine wpAnyH_done (by kernel_rfl) ?_ _
            refine NoPanic.normal ?_
            have B2 : Below wr.heap.size wr w2 := ⟨bel2.os, bel2.tape, bel2.output, bel2.size, bel2.block⟩
            obtain ⟨d1, d2⟩ := KK.out _ B2
            obtain ⟨z1, z2⟩ := FZ.out _ B2
            have G2 := Lib.hid (fun m : Nat => GG.out (w2.drewN m) (below_drewN B2 m))
            clear bel2 B2 c1 c2 KK FZ GG C0
            go_wp2_with fail
            go_region
            go_wp2
            go_roundw
            case rel => exact ⟨k, by omega, by go_num, HD2, G2.out _⟩
            case measure => simp [intOf]
          · have hT := HI.out.step (le := Tr.leT) Tr.leT_tr HX.out HD.out hj (fun z _ hz => by rw [Nat.add_sub_cancel, hy] at hz; injection hz with hz; rw [← hz]; exact hyx)
            have GT : Hid (∃ T, Insd Tr.leT ss (i + 1) T ∧ ∀ W, Below wr.heap.size wr W → Frow base g n cap w (T ++ ss.drop (i + 1)) W) := ⟨_, hT, fun W hb => hin.out (k + 1) _ _ hj (HFF.out.below hb) hT rfl⟩
            have hcl := cmp_lt x y
            rw [hyx] at hcl
            have C0 := fun w => compare_any x y w (by omega) (by omega)
            obtain ⟨v, hv⟩ : ∃ v, v = Tr.cmpT x y := ⟨_, rfl⟩
            simp only [← hv] at C0
            rw [← hv] at hcl
            have hvd : ¬ v < 0 := by simpa using hcl
            obtain ⟨X, hX⟩ : ∃ X : ByteArray, X = ⟨x.toArray⟩ := ⟨_, rfl⟩
            obtain ⟨Y, hY⟩ : ∃ Y : ByteArray, Y = ⟨y.toArray⟩ := ⟨_, rfl⟩
            rw [← hX] at c1 C0
            rw [← hY] at c2 C0
            have KK : Hid (∀ W, Below wr.heap.size wr W → W.cell? ⟨g, k + 1, none⟩ = some (.string X) ∧ W.cell? ⟨g, k, none⟩ = some (.string Y)) := fun W hb => by
              have hF := HFF.out.below hb
              have d1 := hF.1.cellAt (k + 1) (by omega)
              have d2 := hF.1.cellAt k (by omega)
              rw [HIX.out, ← hX] at d1
              rw [HIY.out, ← hY] at d2
              exact ⟨d1, d2⟩
            have ek : (((k + 1 : Nat)) : Int) = (k : Int) + 1 := by omega
            have hwk : IntKind.i64.wrap (k : Int) = (k : Int) := IntWalk.i64_in _ (by omega)
            have hk0 : (0 : Int) ≤ (k : Int) := Int.natCast_nonneg _
            have hk1 : (k : Int) + 1 < (n : Int) := by omega
            have hk2 : (k : Int) < (n : Int) := by omega
            have hk3 : (0 : Int) ≤ (k : Int) + 1 := by omega
            obtain ⟨T, hT1, hT2⟩ := GT.out
            have GT1 := Lib.hid hT1
            have GT2 := Lib.hid hT2
            rw [ek]
            clear HF HD F1 hjl hy hin h0 hcl hv hX hY HFF HIX HIY hyx hx16 hy16 f1 f2 ek hd hT GT hT1 hT2
            go_wp2_with fail
            refine wp_region_noPanic ?_
            refine wp_region_held_drew (S := (fun w' => w'.cell? ⟨g, k + 1, none⟩ = some (.string X) ∧ w'.cell? ⟨g, k, none⟩ = some (.string Y))) (by kernel_rfl) ?_ (fun hHeld => ?_)
            · first | exact ⟨c1, c2⟩ | exact KK.out _ ⟨bel2.os, bel2.tape, bel2.output, bel2.size, bel2.block⟩
            refine wpAnyH_take (i := 0) (oi := _) (v := ?_) rfl (by kernel_rfl) (by kernel_rfl) (by kernel_rfl) (fun _ _ _ h => h) (Or.inl ⟨by kernel_rfl, ?_⟩) (by assumption) ?_
            rotate_left
            · (intro w hSw; (try dsimp only at hSw); go_simp; try (with_reducible rfl))
            try simp only [Act.put, List.setIfInBounds_toArray, List.set_cons_zero, List.set_cons_succ, List.getElem_toArray, List.getElem_cons_zero, List.getElem_cons_succ]
            refine wpAnyH_take (i := 1) (oi := _) (v := ?_) rfl (by kernel_rfl) (by kernel_rfl) (by kernel_rfl) (fun _ _ _ h => h) (Or.inl ⟨by kernel_rfl, ?_⟩) (by assumption) ?_
            rotate_left
            · (intro w hSw; (try dsimp only at hSw); go_simp; try (with_reducible rfl))
            try simp only [Act.put, List.setIfInBounds_toArray, List.set_cons_zero, List.set_cons_succ, List.getElem_toArray, List.getElem_cons_zero, List.getElem_cons_succ]
            refine wpAnyH_take (i := 2) (oi := _) (v := ?_) rfl (by kernel_rfl) (by kernel_rfl) (by kernel_rfl) (fun _ _ _ h => h) (Or.inl ⟨by kernel_rfl, ?_⟩) (by assumption) ?_
            rotate_left
            · (intro w hSw; (try dsimp only at hSw); go_simp; try (with_reducible rfl))
            try simp only [Act.put, List.setIfInBounds_toArray, List.set_cons_zero, List.set_cons_succ, List.getElem_toArray, List.getElem_cons_zero, List.getElem_cons_succ]
            refine wpAnyH_take (i := 3) (oi := _) (v := ?_) rfl (by kernel_rfl) (by kernel_rfl) (by kernel_rfl) (fun _ _ _ h => h) (Or.inl ⟨by kernel_rfl, ?_⟩) (by assumption) ?_
            rotate_left
            · (intro w hSw; (try dsimp only at hSw); go_simp; try (with_reducible rfl))
            try simp only [Act.put, List.setIfInBounds_toArray, List.set_cons_zero, List.set_cons_succ, List.getElem_toArray, List.getElem_cons_zero, List.getElem_cons_succ]
            refine wpAnyH_take (i := 4) (oi := _) (v := ?_) rfl (by kernel_rfl) (by kernel_rfl) (by kernel_rfl) (fun _ _ _ h => h) (Or.inl ⟨by kernel_rfl, ?_⟩) (by assumption) ?_
            rotate_left
            · (intro w hSw; (try dsimp only at hSw); go_simp; try (with_reducible rfl))
            try simp only [Act.put, List.setIfInBounds_toArray, List.set_cons_zero, List.set_cons_succ, List.getElem_toArray, List.getElem_cons_zero, List.getElem_cons_succ]
            refine wpAnyH_take (i := 5) (oi := _) (v := ?_) rfl (by kernel_rfl) (by kernel_rfl) (by kernel_rfl) (fun _ _ _ h => h) (Or.inl ⟨by kernel_rfl, ?_⟩) (by assumption) ?_
            rotate_left
            · (intro w hSw; (try dsimp only at hSw); go_simp; try (with_reducible rfl))
            try simp only [Act.put, List.setIfInBounds_toArray, List.set_cons_zero, List.set_cons_succ, List.getElem_toArray, List.getElem_cons_zero, List.getElem_cons_succ]
            refine wpAnyH_take (i := 6) (oi := _) (v := ?_) rfl (by kernel_rfl) (by kernel_rfl) (by kernel_rfl) (fun _ _ _ h => h) (Or.inl ⟨by kernel_rfl, ?_⟩) (by assumption) ?_
            rotate_left
            · (intro w hSw; (try dsimp only at hSw); go_simp; try (with_reducible rfl))
            try simp only [Act.put, List.setIfInBounds_toArray, List.set_cons_zero, List.set_cons_succ, List.getElem_toArray, List.getElem_cons_zero, List.getElem_cons_succ]
            refine wpAnyH_take (i := 7) (oi := _) (v := ?_) rfl (by kernel_rfl) (by kernel_rfl) (by kernel_rfl) (fun _ _ _ h => h) (Or.inl ⟨by kernel_rfl, ?_⟩) (by assumption) ?_
            rotate_left
            · (intro w hSw; (try dsimp only at hSw); go_simp; try (with_reducible rfl))
            try simp only [Act.put, List.setIfInBounds_toArray, List.set_cons_zero, List.set_cons_succ, List.getElem_toArray, List.getElem_cons_zero, List.getElem_cons_succ]
            refine wpAnyH_take (i := 8) (oi := _) (v := ?_) rfl (by kernel_rfl) (by kernel_rfl) (by kernel_rfl) (fun _ _ _ h => h) (Or.inl ⟨by kernel_rfl, ?_⟩) (by assumption) ?_
            rotate_left
            · (intro w hSw; (try dsimp only at hSw); go_simp; try (with_reducible rfl))
            try simp only [Act.put, List.setIfInBounds_toArray, List.set_cons_zero, List.set_cons_succ, List.getElem_toArray, List.getElem_cons_zero, List.getElem_cons_succ]
            refine wpAnyH_take (i := 9) (oi := _) (v := ?_) rfl (by kernel_rfl) (by kernel_rfl) (by kernel_rfl) (fun _ _ _ h => h) (Or.inl ⟨by kernel_rfl, ?_⟩) (by assumption) ?_
            rotate_left
            · (intro w hSw; (try dsimp only at hSw); go_simp; try (with_reducible rfl))
            try simp only [Act.put, List.setIfInBounds_toArray, List.set_cons_zero, List.set_cons_succ, List.getElem_toArray, List.getElem_cons_zero, List.getElem_cons_succ]
            refine wpAnyH_take (i := 10) (oi := _) (v := ?_) rfl (by kernel_rfl) (by kernel_rfl) (by kernel_rfl) (fun _ _ _ h => h) (Or.inl ⟨by kernel_rfl, ?_⟩) (by assumption) ?_
            rotate_left
            · (intro w hSw; (try dsimp only at hSw); go_simp; try (with_reducible rfl))
            try simp only [Act.put, List.setIfInBounds_toArray, List.set_cons_zero, List.set_cons_succ, List.getElem_toArray, List.getElem_cons_zero, List.getElem_cons_succ]
            refine wpAnyH_take (i := 11) (oi := _) (v := ?_) rfl (by kernel_rfl) (by kernel_rfl) (by kernel_rfl) (fun _ _ _ h => h) (Or.inl ⟨by kernel_rfl, ?_⟩) (by assumption) ?_
            rotate_left
            · (intro w hSw; (try dsimp only at hSw); go_simp; try (with_reducible rfl))
            try simp only [Act.put, List.setIfInBounds_toArray, List.set_cons_zero, List.set_cons_succ, List.getElem_toArray, List.getElem_cons_zero, List.getElem_cons_succ]
            refine wpAnyH_take (i := 12) (oi := _) (v := ?_) rfl (by kernel_rfl) (by kernel_rfl) (by kernel_rfl) (fun _ _ _ h => h) (Or.inl ⟨by kernel_rfl, ?_⟩) (by assumption) ?_
            rotate_left
            · (intro w hSw; (try dsimp only at hSw); go_simp; try (with_reducible rfl))
            try simp only [Act.put, List.setIfInBounds_toArray, List.set_cons_zero, List.set_cons_succ, List.getElem_toArray, List.getElem_cons_zero, List.getElem_cons_succ]
            refine wpAnyH_take (i := 13) (oi := _) (v := ?_) rfl (by kernel_rfl) (by kernel_rfl) (by kernel_rfl) (fun _ _ _ h => h) (Or.inl ⟨by kernel_rfl, ?_⟩) (by assumption) ?_
            rotate_left
            · (intro w hSw; (try dsimp only at hSw); go_simp; try (with_reducible rfl))
            try simp only [Act.put, List.setIfInBounds_toArray, List.set_cons_zero, List.set_cons_succ, List.getElem_toArray, List.getElem_cons_zero, List.getElem_cons_succ]
            refine wpAnyH_ready (rs := [14]) (by kernel_rfl) (by simp) (AllReadyH.cons (o := _) rfl (fun K hK => ?_) AllReadyH.nil)
            go_simp
            (go_at_call 75; refine (C0 _).mono ?_; rintro e w2 ⟨rfl, bel2⟩)
            go_wp2_with fail
            refine hK.out _ _ ?_ (fun hHeld => ?_)
            · first | exact ⟨c1, c2⟩ | exact KK.out _ ⟨bel2.os, bel2.tape, bel2.output, bel2.size, bel2.block⟩
            clear hK K
            try simp only [Act.put, List.setIfInBounds_toArray, List.set_cons_zero, List.set_cons_succ, List.getElem_toArray, List.getElem_cons_zero, List.getElem_cons_succ]
            refine wpAnyH_take (i := 15) (oi := _) (v := ?_) rfl (by kernel_rfl) (by kernel_rfl) (by kernel_rfl) (fun _ _ _ h => h) (Or.inl ⟨by kernel_rfl, ?_⟩) (by assumption) ?_
            rotate_left
            · (intro w hSw; (try dsimp only at hSw); go_simp; try (with_reducible rfl))
            try simp only [Act.put, List.setIfInBounds_toArray, List.set_cons_zero, List.set_cons_succ, List.getElem_toArray, List.getElem_cons_zero, List.getElem_cons_succ]
            refine wpAnyH_take (i := 16) (oi := _) (v := ?_) rfl (by kernel_rfl) (by kernel_rfl) (by kernel_rfl) (fun _ _ _ h => h) (Or.inl ⟨by kernel_rfl, ?_⟩) (by assumption) ?_
            rotate_left
            · (intro w hSw; (try dsimp only at hSw); go_simp; try (with_reducible rfl))
            try simp only [Act.put, List.setIfInBounds_toArray, List.set_cons_zero, List.set_cons_succ, List.getElem_toArray, List.getElem_cons_zero, List.getElem_cons_succ]
            refine wpAnyH_done (by kernel_rfl) ?_ _
            refine NoPanic.normal ?_
            have G2 := Lib.hid (GT2.out w2 ⟨bel2.os, bel2.tape, bel2.output, bel2.size, bel2.block⟩)
            clear bel2 c1 c2 KK C0
            go_wp2
            go_roundw
            case rel => exact ⟨i + 1, T, by omega, by omega, by go_num, GT1, G2.out⟩
            case measure => simp [intOf]; omega
    · obtain rfl : i = n := by omega
      have G : Hid (Frow base g i cap w (Tr.sortT ss) wr) := by
        have e := HI.out.eq (fun h k => Tr.leT_as h k) HL.out (sortT_perm ss) (sortT_sorted ss)
        rw [e, List.drop_of_length_le (by rw [HL.out]; exact Nat.le_refl _), List.append_nil] at HF
        exact HF
      clear HF F0 HI I0
      go_wp2
      go_end0
      exact ⟨rfl, G.out⟩
theorem fInsert_all (A : Option Addr) (base n c : Nat) (ss : List (List UInt8)) (w : World) (hn : n ≤ 12) (hs16 : ∀ s ∈ ss, s.length ≤ 16) (hbase : base ≤ w.heap.size) (h : w.ownsRow base 75 1 (.slice A n c) n (strs ss)) :
    Calls Try.prog 162 #[.slice A n c, .int .i64 0, .int .i64 n, (.func (.func 75) #[] #[])] w (fun e w' => e = .returned (.tuple #[]) ∧ w'.ownsRow base 75 1 (.slice A n c) n (strs (Tr.sortT ss)) ∧ Below base w w' ∧ base ≤ w'.heap.size) := by
  have hl : ss.length = n := by rw [← strs_length]; exact own_len h
  rcases Nat.eq_zero_or_pos n with h0 | h0
  · subst h0
    have e : ss = [] := List.eq_nil_of_length_eq_zero hl
    subst e
    clear hl
    go_enter Try.func162, Try.ntmps162
    go_wp2_with fail
    go_loopw [8] (fun i wr => i = .int .i64 1 ∧ wr = w) (fun i _ => 0)
    case atStart => exact ⟨rfl, rfl⟩
    case round =>
      obtain ⟨rfl, rfl⟩ := hrel
      go_wp2
      go_end0
      exact ⟨rfl, h, Below.refl _ _, hbase⟩
  · obtain ⟨g, cap, hv⟩ := own_form h h0
    injection hv with hA _ hcap
    subst hA hcap
    refine (fInsert_any base g n c ss w hl h0 hn hs16 hbase h).mono ?_
    rintro e w' ⟨rfl, h1, h2, h3⟩
    exact ⟨rfl, h1, h2, h3⟩
theorem fPdq_any (A : Option Addr) (base n c : Nat) (ss : List (List UInt8)) (l : Int) (w : World) (hn : n ≤ 12) (hs16 : ∀ s ∈ ss, s.length ≤ 16) (hbase : base ≤ w.heap.size) (h : w.ownsRow base 75 1 (.slice A n c) n (strs ss)) :
    Calls Try.prog 151 #[.slice A n c, .int .i64 0, .int .i64 n, .int .i64 l, (.func (.func 75) #[] #[])] w (fun e w' => e = .returned (.tuple #[]) ∧ w'.ownsRow base 75 1 (.slice A n c) n (strs (Tr.sortT ss)) ∧ Below base w w' ∧ base ≤ w'.heap.size) := by
  go_enter Try.func151, Try.ntmps151
  go_wp2_with fail
  go_loopw [1, 2] (fun a b wr => a = .int .i64 0 ∧ b = .int .i64 n ∧ wr = w) (fun _ _ _ => 0)
  case atStart => exact ⟨rfl, rfl, rfl⟩
  case round =>
    obtain ⟨rfl, rfl, rfl⟩ := hrel
    go_wp2_with fail
    refine (fInsert_all A base n c ss _ hn hs16 hbase h).mono ?_
    rintro e w' ⟨rfl, h1, h2, h3⟩
    go_wp2
    (try simp only [Exit.inBlock, Exit.then])
    refine bodyPost_ret (results_none rfl _ _ _) rfl ?_
    exact ⟨rfl, h1, h2, h3⟩
theorem sortFunc_any (A : Option Addr) (base n c : Nat) (ss : List (List UInt8)) (w : World) (hn : n ≤ 12) (hs16 : ∀ s ∈ ss, s.length ≤ 16) (hbase : base ≤ w.heap.size) (h : w.ownsRow base 75 1 (.slice A n c) n (strs ss)) :
    Calls Try.prog 127 #[.slice A n c, (.func (.func 75) #[] #[])] w (fun e w' => e = .returned (.tuple #[]) ∧ w'.ownsRow base 75 1 (.slice A n c) n (strs (Tr.sortT ss)) ∧ Below base w w' ∧ base ≤ w'.heap.size) := by
  go_enter Try.func127, Try.ntmps127
  go_wp2_with fail
  refine (bitsLen n hn _).mono ?_
  rintro e w' ⟨⟨l, rfl⟩, rfl⟩
  go_wp2_with fail
  refine (fPdq_any A base n c ss l _ hn hs16 hbase h).mono ?_
  rintro e w' ⟨rfl, h1, h2, h3⟩
  go_wp2
  go_end0
  exact ⟨rfl, h1, h2, h3⟩
theorem forestOf_any (A : Option Addr) (base n c : Nat) (ss : List (List UInt8)) (w : World) (hn : n ≤ 12) (hs16 : ∀ s ∈ ss, s.length ≤ 16 ∧ Brk s) (hbase : base ≤ w.heap.size) (h : w.ownsRow base 75 1 (.slice A n c) n (strs ss)) :
    Calls Try.prog 80 #[.slice A n c] w fun e w' => ∃ A' c' vs, e = .returned (.slice A' n c') ∧ OwnMat w' base w'.heap.size (.slice A' n c') n ((Tr.sortT ss).map Tr.lvl) vs ∧ Below base w w' := by
  have hl : ss.length = n := by rw [← strs_length]; exact own_len h
  have hsl : (Tr.sortT ss).length = n := by rw [(sortT_perm ss).length_eq]; exact hl
  have HSL := Lib.hid hsl
  have HSS : Hid (∀ s ∈ Tr.sortT ss, s.length ≤ 1048576 ∧ Brk s) := fun s hs => by
    have := hs16 s ((sortT_perm ss).mem_iff.1 hs)
    exact ⟨by omega, this.2⟩
  have C0 := sortFunc_any A base n c ss w hn (fun s hs => (hs16 s hs).1) hbase h
  clear hl hsl hs16 h
  go_enter Try.func80, Try.ntmps80
  go_wp2_with fail
  refine C0.mono ?_
  rintro e w1 ⟨rfl, h1, h2, h3⟩
  have HR : Hid (Row w1 w1.heap.size A (strs (Tr.sortT ss))) := row_of_own h1
  have HB1 := Lib.hid h2
  clear h1 h2 C0
  go_wp2_with fail
  refine (listsOf_any A n c w1.heap.size (Tr.sortT ss) w1 HSL.out (by omega) HSS.out (Nat.le_refl _) HR.out).mono ?_
  rintro e w2 ⟨A2, c2, vs2, rfl, own2, bel2⟩
  have G : Hid (OwnMat w2 base w2.heap.size (.slice A2 n c2) n ((Tr.sortT ss).map Tr.lvl) vs2) := own2.more h3 (Nat.le_refl _)
  have GB := Lib.hid (HB1.out.trans (bel2.mono h3))
  clear own2 bel2
  go_wp2
  go_ret
  exact ⟨_, _, _, rfl, G.out, GB.out⟩
end Go.Proofs.Ytjmjdcfgbaepkaa
/-
  A list of lists beside a code, as calls hand it back.
-/
namespace Go.Proofs.Ytjmjdcfgbaepkaa
open Go.RowKit Fld
set_option linter.unusedVariables false
set_option linter.unusedSimpArgs false
set_option maxRecDepth 100000

/-- a list of lists that the call owns, beside a code -/
def ResM (r : List (List Int) × Int) (w : World) (e : Ending) (w' : World) : Prop :=
  r.1.length + total r.1 ≤ 1048576 ∧ ∃ A c vs, e = .returned (.tuple #[.slice A r.1.length c, .int .i64 r.2]) ∧ OwnMat w' w.heap.size w'.heap.size (.slice A r.1.length c) r.1.length r.1 vs ∧ Below w.heap.size w w'
theorem OwnMat.nil' (w : World) (lo hi : Nat) : OwnMat w lo hi (.slice none 0 0) 0 [] [] :=
  ⟨⟨World.ownsRow_nil _ _ _ _, fun g e => by simp [Value.ownBlock] at e⟩, rfl, fun r row hr => by simp at hr, fun r s u t g _ hu => by simp at hu⟩
theorem ResM.nil {r : List (List Int) × Int} {w w' : World} {k : Int} (h : r = ([], k)) (hb : Below w.heap.size w w') : ResM r w (.returned (.tuple #[.slice none 0 0, .int .i64 k])) w' := by
  subst h
  exact ⟨by simp [total], none, 0, [], rfl, OwnMat.nil' _ _ _, hb⟩
theorem ResM.of {r : List (List Int) × Int} {w w' : World} {A : Option Addr} {n c : Nat} {m : List (List Int)} {vs : List Value} {k : Int} (h : r = (m, k)) (hn : m.length + total m ≤ 1048576)
    (ho : OwnMat w' w.heap.size w'.heap.size (.slice A n c) n m vs) (hb : Below w.heap.size w w') : ResM r w (.returned (.tuple #[.slice A n c, .int .i64 k])) w' := by
  subst h
  have e := ho.size
  subst e
  exact ⟨hn, A, c, vs, rfl, ho, hb⟩
/-- lists in memory below a bound: the model's -/
def LowMat (w : World) (hi : Nat) (A : Option Addr) (m : List (List Int)) : Prop := Mat w hi A m
theorem LowMat.below {w w' : World} {hi B : Nat} {A : Option Addr} {m : List (List Int)} (h : LowMat w hi A m) (hb : Below B w w') (hB : hi ≤ B) : LowMat w' hi A m := Mat.below h hb hB
theorem LowMat.within {w w' : World} {hi lo' hi' : Nat} {A : Option Addr} {m : List (List Int)} (h : LowMat w hi A m) (hb : Within lo' hi' w w') (hs : hi ≤ w.heap.size) (hd : hi ≤ lo') : LowMat w' hi A m :=
  Mat.keep h fun b o hbb => World.cell?_of_block (hb.block b (by omega) (by omega))
theorem LowMat.mat {w : World} {hi : Nat} {A : Option Addr} {m : List (List Int)} (h : LowMat w hi A m) : Mat w hi A m := h
theorem LowMat.drewN {w : World} {hi : Nat} {A : Option Addr} {m : List (List Int)} (h : LowMat w hi A m) (k : Nat) : LowMat (w.drewN k) hi A m := h
def ResMl (r : List (List Int) × Int) (w : World) (e : Ending) (w' : World) : Prop :=
  r.1.length + total r.1 ≤ 1048576 ∧ ∃ A c, e = .returned (.tuple #[.slice A r.1.length c, .int .i64 r.2]) ∧ LowMat w' w'.heap.size A r.1 ∧ Below w.heap.size w w'
theorem ResMl.nil {r : List (List Int) × Int} {w w' : World} {k : Int} (h : r = ([], k)) (hb : Below w.heap.size w w') : ResMl r w (.returned (.tuple #[.slice none 0 0, .int .i64 k])) w' := by
  subst h
  exact ⟨by simp [total], none, 0, rfl, fun k r hr => by simp at hr, hb⟩
theorem ResMl.of {r : List (List Int) × Int} {w w' : World} {A : Option Addr} {n c : Nat} {m : List (List Int)} {k : Int} (h : r = (m, k)) (hl : m.length = n) (hn : m.length + total m ≤ 1048576)
    (ho : Mat w' w'.heap.size A m) (hb : Below w.heap.size w w') : ResMl r w (.returned (.tuple #[.slice A n c, .int .i64 k])) w' := by
  subst h hl
  exact ⟨hn, A, c, rfl, ho, hb⟩
end Go.Proofs.Ytjmjdcfgbaepkaa
/-
  What BranchesOf answers, the program's and the model's.
-/
namespace Go.Proofs.Ytjmjdcfgbaepkaa.Tr
set_option maxRecDepth 100000
def chkG (t : List Int) : Bool := decide ((sortT (brT (txt t))).map lvl = branL t) && decide ((branL t).length + ((branL t).map List.length).sum ≤ 100) && decide ((branL t).length = (brT (txt t)).length) && isTx (txt t)
theorem chkG_all : allLv.all chkG = true := by decide +kernel
end Go.Proofs.Ytjmjdcfgbaepkaa.Tr
namespace Go.Proofs.Ytjmjdcfgbaepkaa
open Go.RowKit Fld
set_option linter.unusedVariables false
set_option linter.unusedSimpArgs false
set_option maxRecDepth 100000

theorem bran_parts {t : List Int} (h : Tr.isLv t = true) : (Tr.sortT (Tr.brT (Tr.txt t))).map Tr.lvl = Tr.branL t ∧ (Tr.branL t).length + total (Tr.branL t) ≤ 1048576 ∧ (Tr.branL t).length = (Tr.brT (Tr.txt t)).length ∧ Tr.isTx (Tr.txt t) = true := by
  have h1 := Tr.all_of Tr.chkG_all (Tr.isLv_iff.1 h)
  unfold Tr.chkG at h1
  simp only [Bool.and_eq_true, decide_eq_true_eq] at h1
  exact ⟨h1.1.1.1, by unfold total; omega, h1.1.2, h1.2⟩
theorem tx_brk {x : List UInt8} (h : Tr.isTx x = true) : Brk x := by
  unfold Tr.isTx at h
  simp only [Bool.and_eq_true, beq_iff_eq] at h
  rw [← h.2]; exact txt_brk _ _
def branchesA (t : List Int) : List (List Int) × Int := if Tr.isLv t = true then (Tr.branL t, 0) else ([], 1)
theorem branchesA_yes {t : List Int} (h : Tr.isLv t = true) : branchesA t = (Tr.branL t, 0) := if_pos h
theorem branchesA_no {t : List Int} (h : Tr.isLv t = false) : branchesA t = ([], 1) := if_neg (by rw [h]; simp)
theorem pBranchesOf_L (A : Option Addr) (n c B : Nat) (t : List Int) (w : World) (hl : t.length = n) (hn : n ≤ 1048576) (hB : B ≤ w.heap.size) (h : Row w B A (ints t)) (hc : n ≤ c) :
    Calls Try.prog 29 #[.slice A n c] w (ResM (branchesA t) w) := by
  have C0 := isLevels_any A n c B t w hl (by omega) h
  cases hlv : Tr.isLv t
  · have G := Lib.hid (branchesA_no hlv)
    rw [hlv] at C0
    go_enter Try.func29, Try.ntmps29
    go_wp2_with fail
    refine C0.mono ?_
    rintro e w' ⟨rfl, m, rfl⟩
    go_wp2
    go_ret2
    exact ResM.nil G.out (below_drewN (Below.refl _ _) _)
  · rw [hlv] at C0
    obtain ⟨b1, b8⟩ := lv_bd hlv
    rw [hl] at b1 b8
    have HL := Lib.hid hl
    obtain ⟨hs1, hs2, hs3, hs4⟩ := bran_parts hlv
    have G := Lib.hid (branchesA_yes hlv)
    have HT := Lib.hid hs2
    have HS := Lib.hid hs1
    obtain ⟨hx16, hbr, hb7⟩ := Tr.br_parts hs4
    have HBB : Hid (∀ s ∈ Tr.brT (Tr.txt t), s.length ≤ 16 ∧ Brk s) := fun s hs => by
      obtain ⟨q1, q2⟩ := hbr s hs
      exact ⟨by omega, tx_brk q1⟩
    have H7 : Hid ((Tr.brT (Tr.txt t)).length ≤ 12) := by rw [Hid]; omega
    have C3 := fun w => branches_any (Tr.txt t) w hs4
    clear hl hlv hs1 hs2 hs3 hs4 hx16 hbr hb7
    go_enter Try.func29, Try.ntmps29
    go_wp2_with fail
    refine C0.mono ?_
    rintro e w' ⟨rfl, m, rfl⟩
    go_wp2_with fail
    refine (treeOf_any A n c B t _ HL.out b1 b8 hc (by exact hB) (h.drewN m)).mono ?_
    rintro e w2 ⟨rfl, bel2⟩
    have HB2 : Hid (Below w.heap.size w w2) := below_undrew' bel2
    have hs2 : w.heap.size ≤ w2.heap.size := HB2.out.size
    clear bel2
    go_wp2_with fail
    refine (C3 _).mono ?_
    rintro e w3 ⟨A3, q3, c3, rfl, hq3, own3, bel3⟩
    have HB3 : Hid (Below w.heap.size w w3) := HB2.out.trans (bel3.mono hs2)
    have hs3 := bel3.size
    have HO3 := Lib.hid own3
    have hq12 : q3 ≤ 12 := by rw [hq3]; exact H7.out
    clear bel3 own3 hq3
    go_wp2_with fail
    refine (forestOf_any A3 w2.heap.size q3 c3 (Tr.brT (Tr.txt t)) w3 hq12 HBB.out hs3 HO3.out).mono ?_
    rintro e w4 ⟨A4, c4, vs4, rfl, own4, bel4⟩
    rw [HS.out] at own4
    have GO := Lib.hid (own4.more hs2 (Nat.le_refl _))
    have GB : Hid (Below w.heap.size w w4) := HB3.out.trans (bel4.mono hs2)
    clear own4 bel4
    go_wp2
    go_ret2
    exact ResM.of G.out HT.out GO.out GB.out
end Go.Proofs.Ytjmjdcfgbaepkaa
/-
  Texts filled in one after another.
-/
namespace Go.Proofs.Ytjmjdcfgbaepkaa
open Go.RowKit Fld
set_option linter.unusedVariables false
set_option linter.unusedSimpArgs false
set_option maxRecDepth 100000

/-- texts filled in one after another -/
def FillT (w : World) (n : Nat) (ss : List (List UInt8)) (k : Nat) (wr : World) : Prop :=
  wr.ownsRow w.heap.size 75 1 (.slice (some ⟨w.heap.size, 0, none⟩) n n) n ((strs ss).take k ++ List.replicate (n - k) (.string ⟨#[]⟩)) ∧ Below w.heap.size w wr
theorem FillT.below {w wr w2 : World} {n k : Nat} {ss : List (List UInt8)} (h : FillT w n ss k wr) (hb : Below wr.heap.size wr w2) : FillT w n ss k w2 :=
  ⟨((OwnR.of h.1).below hb (Nat.le_refl _)).1, h.2.trans (hb.mono h.2.size)⟩
theorem FillT.step {w wr : World} {n k : Nat} {ss : List (List UInt8)} {s : List UInt8} (h : FillT w n ss k wr) (hl : ss.length = n) (hs : ss[k]? = some s) : FillT w n ss (k + 1) (wr.setCell ⟨w.heap.size, k, none⟩ (.string ⟨s.toArray⟩)) := by
  obtain ⟨h1, h2⟩ := h
  refine ⟨?_, below_set h2 (Nat.le_refl _) _⟩
  have := (h1.stored k (.string ⟨s.toArray⟩)).1
  rw [fill_step (by rw [strs_length]; exact hl) (strs_at hs)] at this
  exact this
theorem FillT.start {w w1 : World} {n : Nat} {ss : List (List UInt8)} (h : w1.ownsRow w.heap.size 75 1 (.slice (some ⟨w.heap.size, 0, none⟩) n n) n (madeCells (Value.string ⟨#[]⟩).cells (n * 1)).toList) (hg : w.grownBy w1 none) : FillT w n ss 0 w1 := by
  refine ⟨?_, (Below.refl _ _).grown hg (Nat.le_refl _) (fun k hk => by cases hk)⟩
  have e : (madeCells (Value.string ⟨#[]⟩).cells (n * 1)).toList = (strs ss).take 0 ++ List.replicate (n - 0) (.string ⟨#[]⟩) := by
    rw [← fill_start, Nat.mul_one]; exact toList_madeCells_one _ _
  rw [e] at h
  exact h
end Go.Proofs.Ytjmjdcfgbaepkaa
/-
  The texts of the trees of a list of level lists.
-/
namespace Go.Proofs.Ytjmjdcfgbaepkaa
open Go.RowKit Fld
set_option linter.unusedVariables false
set_option linter.unusedSimpArgs false
set_option maxRecDepth 100000

theorem for_rows {f : List (List Int)} (h : isFor f = true) : ∀ r ∈ f, isTr r = true := fun r hr => by
  unfold isFor at h
  rw [Bool.and_eq_true] at h
  obtain ⟨k, hk⟩ := List.mem_iff_getElem?.1 hr
  have hlt : k < f.length := by
    rcases Nat.lt_or_ge k f.length with g | g
    · exact g
    · rw [List.getElem?_eq_none g] at hk; cases hk
  exact okAt_tr (okTo_at h.1 hlt) hk
theorem for_total {f : List (List Int)} (h : isFor f = true) : total f ≤ 8 := by
  unfold isFor at h
  rw [Bool.and_eq_true] at h
  simpa using h.2
theorem total_cons (x : List Int) (f : List (List Int)) : total (x :: f) = x.length + total f := by simp [total]
theorem len_total : ∀ {f : List (List Int)}, (∀ r ∈ f, 1 ≤ r.length) → f.length ≤ total f
  | [], _ => Nat.zero_le _
  | x :: f, h => by
    have h1 := len_total (f := f) (fun r hr => h r (by simp [hr]))
    have h2 := h x (by simp)
    rw [total_cons, List.length_cons]; omega
theorem flat_txt : ∀ {f : List (List Int)}, (∀ r ∈ f, Tr.isLv r = true) → (f.map Tr.txt).flatten.length = 2 * total f
  | [], _ => by simp [total]
  | x :: f, h => by
    have h1 := flat_txt (f := f) (fun r hr => h r (by simp [hr]))
    have h2 := (lv_txt (h x (by simp))).2.2.2
    rw [total_cons, List.map_cons, List.flatten_cons, List.length_append, h1, h2]; omega
set_option maxHeartbeats 1000000 in
theorem treesOf_any (A : Option Addr) (n c B : Nat) (f : List (List Int)) (w : World) (hl : f.length = n) (hn : n ≤ 1048576) (hr : ∀ r ∈ f, Tr.isLv r = true) (hB : B ≤ w.heap.size) (h : Mat w B A f) :
    Calls Try.prog 84 #[.slice A n c] w fun e w' => e = .returned (.slice (some ⟨w.heap.size, 0, none⟩) n n) ∧ w'.ownsRow w.heap.size 75 1 (.slice (some ⟨w.heap.size, 0, none⟩) n n) n (strs (f.map Tr.txt)) ∧ Below w.heap.size w w' := by
  obtain ⟨i0, hi, hz0, hz1, hz2⟩ := info_parts info_tree
  have HL := Lib.hid hl
  have HR := Lib.hid hr
  have HSL : Hid ((f.map Tr.txt).length = n) := by rw [Hid, List.length_map]; exact hl
  clear hl hr
  go_enter Try.func84, Try.ntmps84
  go_wp2_with (at_make; refine wpList_make_full _ rfl (.tmp 7) (.tmp 7) 96 rfl w.heap.size 75 i0 _ 1 Try.underlying96 hi hz0 hz1 .i64 .i64 _ _ n rfl rfl rfl rfl (by rw [hz2]; omega) (by simp only [maxLen]; omega) (Nat.le_refl _) ?_; intro w1 hown hg)
  have F0 := FillT.start (ss := f.map Tr.txt) hown hg
  clear hown hg hz0 hz1 hz2 hi
  go_wp2_with fail
  go_loopw [11] (fun i wr => ∃ k : Nat, k ≤ n ∧ i = .int .i64 k ∧ FillT w n (f.map Tr.txt) k wr) (fun i _ => n - (intOf i).toNat)
  case atStart => exact ⟨0, Nat.zero_le _, rfl, F0⟩
  case round =>
    obtain ⟨k, hk, rfl, HF⟩ := hrel
    by_cases hlt : k < n
    · obtain ⟨r, hr⟩ := at_lt (show k < f.length by rw [HL.out]; exact hlt)
      obtain ⟨b, o, Ak, ck, rfl, hb, hc, hrc, hcm, hrow⟩ := (h.below HF.2 hB) k r hr
      obtain ⟨r1, r8⟩ := lv_bd (HR.out r (List.mem_of_getElem? hr))
      have hsz := HF.2.size
      have hst : (f.map Tr.txt)[k]? = some (Tr.txt r) := by rw [List.getElem?_map, hr]; rfl
      have HST := Lib.hid hst
      have HFF := Lib.hid HF
      clear hr hst F0 HF
      go_wp2_with fail
      refine (treeOf_any Ak r.length ck B r wr rfl r1 r8 hrc (by omega) hrow).mono ?_
      rintro e w2 ⟨rfl, bel2⟩
      have HF2 := HFF.out.below bel2
      have hf := HF2.1.frozenAt k
      have ho := HF2.1.cellAt k (by omega)
      rw [fill_at (by rw [strs_length]; exact HSL.out) hlt] at ho
      have G := Lib.hid (HF2.step HSL.out HST.out)
      obtain ⟨X, hX⟩ : ∃ X : ByteArray, X = ⟨(Tr.txt r).toArray⟩ := ⟨_, rfl⟩
      rw [← hX] at G ⊢
      clear bel2 HF2 hc hrow hX
      go_wp2
      go_roundw
      case rel => exact ⟨k + 1, by omega, by go_num, G.out⟩
      case measure => simp [intOf]; omega
    · obtain rfl : k = n := by omega
      have G : Hid (wr.ownsRow w.heap.size 75 1 (.slice (some ⟨w.heap.size, 0, none⟩) k k) k (strs (f.map Tr.txt)) ∧ Below w.heap.size w wr) := by
        obtain ⟨h1, h2⟩ := HF
        rw [fill_end _ (by rw [strs_length]; exact HSL.out)] at h1
        exact ⟨h1, h2⟩
      clear HF F0
      go_wp2
      go_ret
      exact ⟨rfl, G.out⟩
end Go.Proofs.Ytjmjdcfgbaepkaa
/-
  The tree on some branches, as plain functions.
-/
namespace Go.Proofs.Ytjmjdcfgbaepkaa
open Go.RowKit Fld
set_option linter.unusedVariables false
set_option linter.unusedSimpArgs false
set_option maxRecDepth 100000

/-- levels that go on from p -/
def okL : Int → List Int → Prop
  | _, [] => True
  | p, x :: r => 1 ≤ x ∧ x ≤ p + 1 ∧ okL x r
theorem okL_at : ∀ {l : List Int} {p : Int}, okL p l → ∀ i, i < l.length → 1 ≤ l.getD i 0 ∧ l.getD i 0 ≤ (p :: l).getD i 0 + 1
  | [], _, _, i, hi => by simp at hi
  | x :: r, p, h, 0, _ => by simpa using ⟨h.1, h.2.1⟩
  | x :: r, p, h, i+1, hi => by
    have := okL_at (l := r) (p := x) h.2.2 i (by simpa using hi)
    simpa using this
theorem okL_of : ∀ {l : List Int} {p : Int}, (∀ i, i < l.length → 1 ≤ l.getD i 0 ∧ l.getD i 0 ≤ (p :: l).getD i 0 + 1) → okL p l
  | [], _, _ => trivial
  | x :: r, p, h => by
    have h0 := h 0 (by simp)
    refine ⟨by simpa using h0.1, by simpa using h0.2, okL_of fun i hi => ?_⟩
    have := h (i + 1) (by simpa using hi)
    simpa using this
theorem lv_okL {r : List Int} (h : Tr.isLv r = true) : ∃ rs, r = 0 :: rs ∧ okL 0 rs := by
  have h1 := Tr.isLv_iff.1 h
  match r, h1 with
  | [], h1 => exact absurd h1.1 (by simp)
  | x :: rs, h1 =>
    have hx : x = 0 := by simpa using h1.2.2.1
    subst hx
    refine ⟨rs, rfl, okL_of fun i hi => ?_⟩
    have := h1.2.2.2 (i + 1) (by simpa using hi) (by omega)
    simpa using this
theorem okL_lv {l : List Int} (h : okL 0 l) (hn : l.length ≤ 7) : Tr.isLv (0 :: l) = true := by
  rw [Tr.isLv_iff]
  refine ⟨by simp, by simp; omega, rfl, fun i hi h1 => ?_⟩
  obtain ⟨j, rfl⟩ : ∃ j, i = j + 1 := ⟨i - 1, by omega⟩
  have := okL_at h j (by simpa using hi)
  simpa using this
theorem okL_shift : ∀ {l : List Int} {p : Int}, okL p l → okL (p + 1) (l.map (· + 1))
  | [], _, _ => trivial
  | x :: r, p, h => ⟨by have := h.1; show 1 ≤ x + 1; omega, by have := h.2.1; show x + 1 ≤ p + 1 + 1; omega, okL_shift h.2.2⟩
theorem okL_app : ∀ {a b : List Int} {p : Int}, okL p a → 0 ≤ p → (∀ q, 0 ≤ q → okL q b) → okL p (a ++ b)
  | [], _, p, _, hp, hb => hb p hp
  | x :: r, b, p, h, hp, hb => ⟨h.1, h.2.1, okL_app h.2.2 (by have := h.1; omega) hb⟩
theorem okL_flat : ∀ {f : List (List Int)}, (∀ r ∈ f, Tr.isLv r = true) → ∀ q, 0 ≤ q → okL q (f.flatten.map (· + 1))
  | [], _, _, _ => trivial
  | r :: f, h, q, hq => by
    obtain ⟨rs, rfl, hrs⟩ := lv_okL (h r (by simp))
    rw [List.flatten_cons, List.map_append, List.map_cons, List.cons_append]
    refine ⟨by omega, by omega, okL_app (okL_shift hrs) (by omega) (okL_flat (fun r hr => h r (by simp [hr])))⟩
theorem flat_total (f : List (List Int)) : f.flatten.length = total f := by
  unfold total; rw [List.length_flatten]
theorem up_lv {f : List (List Int)} (h : ∀ r ∈ f, Tr.isLv r = true) (ht : total f ≤ 7) : Tr.isLv (Tr.up f) = true := by
  unfold Tr.up
  exact okL_lv (okL_flat h 0 (Int.le_refl 0)) (by rw [List.length_map, flat_total]; exact ht)
theorem add_next (out : List (List Int)) (acc : List Int) (x : Int) (h : 1 ≤ x) : Tr.addNode (out ++ [acc]) (x + 1) = out ++ [acc ++ [x]] := by
  have h1 : ¬ x + 1 = 1 := by omega
  unfold Tr.addNode
  simp [h1, Int.add_sub_cancel]
theorem add_rest : ∀ (l : List Int) {p : Int} (out : List (List Int)) (acc : List Int), okL p l → (l.map (· + 1)).foldl Tr.addNode (out ++ [acc]) = out ++ [acc ++ l]
  | [], _, _, _, _ => by simp
  | x :: r, p, out, acc, h => by
    rw [List.map_cons, List.foldl_cons, add_next out acc x h.1, add_rest r out (acc ++ [x]) h.2.2, List.append_assoc]; rfl
theorem add_all : ∀ {f : List (List Int)} (out : List (List Int)), (∀ r ∈ f, Tr.isLv r = true) → (f.flatten.map (· + 1)).foldl Tr.addNode out = out ++ f
  | [], out, _ => by simp
  | r :: f, out, h => by
    obtain ⟨rs, rfl, hrs⟩ := lv_okL (h r (by simp))
    rw [List.flatten_cons, List.map_append, List.foldl_append, List.map_cons, List.foldl_cons]
    have e : Tr.addNode out (0 + 1) = out ++ [[0]] := by simp [Tr.addNode]
    rw [e, add_rest rs out [0] hrs, add_all _ (fun r hr => h r (by simp [hr]))]
    simp
theorem parts_up {f : List (List Int)} (h : ∀ r ∈ f, Tr.isLv r = true) : Tr.partsL (Tr.up f) = f := by
  unfold Tr.partsL Tr.up
  rw [List.drop_one, List.tail_cons, add_all [] h, List.nil_append]
end Go.Proofs.Ytjmjdcfgbaepkaa
namespace Go.Proofs.Ytjmjdcfgbaepkaa.Tr
set_option maxRecDepth 100000
def chkR (t : List Int) : Bool := decide (txt t = wrap (sortS ((partsL t).map txt)))
theorem chkR_all : allLv.all chkR = true := by decide +kernel
end Go.Proofs.Ytjmjdcfgbaepkaa.Tr
namespace Go.Proofs.Ytjmjdcfgbaepkaa
theorem root_txt {f : List (List Int)} (h : ∀ r ∈ f, Tr.isLv r = true) (ht : total f ≤ 7) : Tr.wrap (Tr.sortS (f.map Tr.txt)) = Tr.txt (Tr.up f) := by
  have h1 := Tr.all_of Tr.chkR_all (Tr.isLv_iff.1 (up_lv h ht))
  unfold Tr.chkR at h1
  have h2 := of_decide_eq_true h1
  rw [parts_up h] at h2
  exact h2.symm
end Go.Proofs.Ytjmjdcfgbaepkaa
/-
  What RootOn answers, the program's and the model's.
-/
namespace Go.Proofs.Ytjmjdcfgbaepkaa
open Go.RowKit Fld
set_option linter.unusedVariables false
set_option linter.unusedSimpArgs false
set_option maxRecDepth 100000

def rootA (f : List (List Int)) : List Int × Int := if isFor f = true then (if total f = 8 then ([], 3) else (Tr.can (Tr.up f), 0)) else ([], 1)
theorem rootA_no {f : List (List Int)} (h : isFor f = false) : rootA f = ([], 1) := if_neg (by rw [h]; simp)
theorem rootA_big {f : List (List Int)} (h : isFor f = true) (h8 : total f = 8) : rootA f = ([], 3) := by unfold rootA; rw [if_pos h, if_pos h8]
theorem rootA_yes {f : List (List Int)} (h : isFor f = true) (h8 : ¬ total f = 8) : rootA f = (Tr.can (Tr.up f), 0) := by unfold rootA; rw [if_pos h, if_neg h8]
theorem up_outL (f : List (List Int)) : Tr.up f = outL f.flatten := rfl
theorem pRootOn_L (A : Option Addr) (n c B : Nat) (f : List (List Int)) (w : World) (hl : f.length = n) (hn : n + total f ≤ 1048576) (hB : B ≤ w.heap.size) (h : Mat w B A f) :
    Calls Try.prog 32 #[.slice A n c] w (ResL (rootA f) w) := by
  have C0 := isForest_any A n c B f w hl hn hB h
  cases hf : isFor f
  · have G := Lib.hid (rootA_no hf)
    rw [hf] at C0
    clear hl
    go_enter Try.func32, Try.ntmps32
    go_wp2_with fail
    refine C0.mono ?_
    rintro e w' ⟨rfl, bel⟩
    have GB := Lib.hid bel
    clear bel
    go_wp2
    go_ret2
    exact ResL.nil G.out GB.out
  · rw [hf] at C0
    have HL := Lib.hid hl
    have HN := Lib.hid hn
    have h8 := for_total hf
    have hlv : ∀ r ∈ f, Tr.isLv r = true := fun r hr => (tr_lv (for_rows hf r hr)).1
    have HLV := Lib.hid hlv
    have hn8 : n ≤ 8 := by
      have := len_total (f := f) (fun r hr => (lv_bd (hlv r hr)).1)
      omega
    have C1 := fun w1 (hM : Mat w1 B A f) => nodesOf_any A n c B f w1 hl hn hM
    by_cases e8 : total f = 8
    · have G := Lib.hid (rootA_big hf e8)
      simp only [e8] at C1
      clear hl hn hf hlv h8 e8
      go_enter Try.func32, Try.ntmps32
      go_wp2_with fail
      refine C0.mono ?_
      rintro e w1 ⟨rfl, bel⟩
      have GB := Lib.hid bel
      have hM := h.below bel hB
      clear bel
      go_wp2_with fail
      refine (C1 _ hM).mono ?_
      rintro e w2 ⟨rfl, rfl⟩
      go_wp2
      go_ret2
      exact ResL.nil G.out GB.out
    · have G := Lib.hid (rootA_yes hf e8)
      have h7 : total f ≤ 7 := by omega
      have HUP := Lib.hid (up_lv hlv h7)
      have HUL : Hid ((Tr.up f).length = total f + 1) := by rw [Hid, up_outL, outL_length, flat_total]
      have HCL : Hid ((Tr.can (Tr.up f)).length = total f + 1) := by rw [Hid, (lv_can HUP.out).2, HUL.out]
      have HRX := Lib.hid (root_txt hlv h7)
      have HFT : Hid ((f.map Tr.txt).flatten.length ≤ 1048574) := by rw [Hid, flat_txt hlv]; omega
      have HN8 : Hid (n ≤ 1048576) := by rw [Hid]; omega
      obtain ⟨s, hs⟩ : ∃ s, s = total f := ⟨_, rfl⟩
      rw [← hs] at HCL h7 e8 HUL
      simp only [← hs] at C1
      clear hl hn hf hlv h8 hs
      go_enter Try.func32, Try.ntmps32
      go_wp2_with fail
      refine C0.mono ?_
      rintro e w1 ⟨rfl, bel⟩
      have hs1 := bel.size
      have HB1 := Lib.hid bel
      have hM := h.below bel hB
      clear bel
      go_wp2_with fail
      refine (C1 _ hM).mono ?_
      rintro e w2 ⟨rfl, rfl⟩
      go_wp2_with fail
      refine (treesOf_any A n c B f w1 HL.out HN8.out HLV.out (by omega) hM).mono ?_
      rintro e w2 ⟨rfl, own2, bel2⟩
      have hs2 := bel2.size
      have HB2 := Lib.hid (HB1.out.trans (bel2.mono hs1))
      have HO2 := Lib.hid own2
      clear own2 bel2 hM
      go_wp2_with fail
      refine (rootOn_any _ w1.heap.size n n (f.map Tr.txt) w2 (by omega) HFT.out hs2 HO2.out).mono ?_
      rintro e w3 ⟨rfl, bel3⟩
      rw [HRX.out]
      have hs3 : w1.heap.size ≤ w3.heap.size := by have := bel3.size; omega
      have HB3 : Hid (Below w.heap.size w w3) := HB2.out.trans (bel3.mono hs1)
      clear bel3
      go_wp2_with fail
      refine (levelsOf_any (Tr.up f) _ HUP.out).mono ?_
      rintro e w4 ⟨A3, c3, rfl, own3, bel4⟩
      rw [HUL.out] at own3 ⊢
      have GB : Hid (Below w.heap.size w w4) := HB3.out.trans (bel4.mono (by omega))
      have GO : Hid (w4.ownsRow w.heap.size 2 1 (.slice A3 (s + 1) c3) (s + 1) (ints (Tr.can (Tr.up f)))) := ((OwnR.of own3).more (by omega) (Nat.le_refl _)).1
      clear own3 bel4
      go_wp2
      go_ret2
      exact ResL.of G.out HCL.out (by omega) GO.out GB.out
end Go.Proofs.Ytjmjdcfgbaepkaa
/-
  The model's copy of a list.
-/
namespace Go.Proofs.Ytjmjdcfgbaepkaa
open Go.RowKit Fld
set_option linter.unusedVariables false
set_option linter.unusedSimpArgs false
set_option maxRecDepth 100000

theorem Row.news {w : World} {B : Nat} {ad : Addr} {vs : List Value} (h : Row w B (some ad) vs) : ∀ j u, vs[j]? = some u → w.cell? (ad.add j) = some u := by
  intro j u hu
  obtain ⟨b, o, e, _, hc⟩ := h j u hu
  cases e
  have : (⟨b, o, none⟩ : Addr).add j = ⟨b, o + j, none⟩ := by unfold Addr.add; split <;> simp_all
  rw [this]; exact hc
theorem NewRow.own {w w' : World} {T : TypeId} {v : Value} {n : Nat} {vs : List Value} (h : w'.ownsRow w.heap.size T 1 v n vs) (hb : Below w.heap.size w w') : NewRow T n vs w (.returned v) w' := by
  rcases h.2 with ⟨rfl, rfl⟩ | ⟨g, cap, cur, rfl, _⟩
  · exact ⟨_, _, rfl, h, hb⟩
  · exact ⟨_, _, rfl, h, hb⟩
theorem l01Own_any (ad : Addr) (n c B : Nat) (xs : List Int) (w : World) (hl : xs.length = n) (hn : n ≤ 1048576) (hB : B ≤ w.heap.size) (h : Row w B (some ad) (ints xs)) :
    Calls Try.prog 136 #[.slice (some ad) n c] w (NewRow 2 n (ints xs) w) := by
  obtain ⟨i0, hi, hz0, hz1, hz2⟩ := info_parts info_i64
  have hnews := (h.alloc hB (.cells #[] 2)).news
  have hlen : (ints xs).length = n * 1 := by rw [ints_length, hl, Nat.mul_one]
  have h1 := ints_cells xs
  have hown0 := (Growing.start w 2).1
  have hbel0 := (Growing.start w 2).2
  go_enter Try.func136, Try.ntmps136
  go_wp2_with (at_builtin; refine wpList_append_own _ rfl (.tmp 3) (.tmp 4) 24 rfl w.heap.size 2 i0 _ 1 8 Try.underlying24 hi hz0 hz1 hz2 rfl (by omega) (.slice (some ⟨w.heap.size, 0, none⟩) 0 0) 0 [] rfl hown0 ad n c (ints xs) rfl hlen hnews h1 (by simp only [maxLen]; omega) (by omega) (by simp) ?_; intro v' w' hown hgrow _)
  go_ret
  rw [Nat.zero_add] at hown
  exact NewRow.own hown (hbel0.grown hgrow (by simp) (fun k hk => (hown0.lt k hk).1))
end Go.Proofs.Ytjmjdcfgbaepkaa
/-
  The next lower list of a tree, in place.
-/
namespace Go.Proofs.Ytjmjdcfgbaepkaa
open Go.RowKit Fld
set_option linter.unusedVariables false
set_option linter.unusedSimpArgs false
set_option maxRecDepth 100000

theorem last_le (t : List Int) : ∀ k, Tr.lastF t k ≤ k
  | 0 => Nat.le_refl _
  | k+1 => by rw [Tr.lastF]; split; · have := last_le t k; omega
              · exact Nat.le_refl _
theorem par_le (t : List Int) (x : Int) : ∀ k, Tr.parF t x k ≤ k
  | 0 => Nat.le_refl _
  | k+1 => by rw [Tr.parF]; split; · have := par_le t x k; omega
              · exact Nat.le_refl _
/-- what lower leaves -/
def Lowered (base g n cap : Nat) (t : List Int) (w : World) (e : Ending) (w' : World) : Prop :=
  (Tr.lowerL t = none ∧ e = .returned (.bool false) ∧ w = w') ∨ (∃ u, Tr.lowerL t = some u ∧ e = .returned (.bool true) ∧ w'.ownsRow base 2 1 (.slice (some ⟨g, 0, none⟩) n cap) n (ints u) ∧ w.grownBy w' (some g))
theorem cpy_step {d f i : Nat} {t : List Int} {x : Int} (hx : t[i - d]? = some x) : Tr.cpyF d (f + 1) i t = Tr.cpyF d f (i + 1) (t.set i x) := by
  rw [Tr.cpyF, lv_at hx]
def Cpd (base g n cap : Nat) (w : World) (T : List Int) (wr : World) : Prop := wr.ownsRow base 2 1 (.slice (some ⟨g, 0, none⟩) n cap) n (ints T) ∧ w.grownBy wr (some g)
theorem Cpd.step {base g n cap i : Nat} {w wr : World} {T : List Int} {x : Int} (h : Cpd base g n cap w T wr) : Cpd base g n cap w (T.set i x) (wr.setCell ⟨g, i, none⟩ (.int .i64 x)) := by
  obtain ⟨h1, h2⟩ := h.1.stored i (.int .i64 x)
  have e : (ints T).set i (.int .i64 x) = ints (T.set i x) := by unfold ints intsK; rw [List.map_set]
  rw [e] at h1
  exact ⟨h1, grownBy_trans h.2 h2⟩
theorem Cpd.start {base g n cap : Nat} {w : World} {t : List Int} (h : w.ownsRow base 2 1 (.slice (some ⟨g, 0, none⟩) n cap) n (ints t)) (M : Nat) : Cpd base g n cap (w.drewN M) t (w.drewN M) := ⟨h, World.grownBy.refl _ _⟩
set_option maxHeartbeats 1000000 in
theorem lower_any (base g n cap : Nat) (t : List Int) (w : World) (hl : t.length = n) (hlv : Tr.isLv t = true) (h : w.ownsRow base 2 1 (.slice (some ⟨g, 0, none⟩) n cap) n (ints t)) :
    Calls Try.prog 155 #[.slice (some ⟨g, 0, none⟩) n cap] w fun e w' => ∃ m, Lowered base g n cap t (w.drewN m) e w' := by
  have h3 := Tr.isLv_iff.1 hlv
  have n1 : 1 ≤ n := by have := h3.1; omega
  have n8 : n ≤ 8 := by have := h3.2.1; omega
  have HST : Hid (StepsTo t n) := by rw [Hid, ← hl]; exact h3.2.2.2
  have HZ : Hid (t.getD 0 0 = 0) := h3.2.2.1
  have HL := Lib.hid hl
  have HO := Lib.hid h
  have HLAST : Hid (Tr.lastF t (t.length - 1) = Tr.lastF t (n - 1)) := by rw [Hid, hl]
  clear hl hlv h3 h
  go_enter Try.func155, Try.ntmps155
  go_wp2_with fail
  go_loop [3] (fun l => ∃ k : Nat, k < n ∧ l = .int .i64 k ∧ Hid (Tr.lastF t (n - 1) = Tr.lastF t k)) (fun l => (intOf l).toNat)
  case atStart => exact ⟨n - 1, by omega, by go_num, rfl⟩
  case round =>
    obtain ⟨k, hk, rfl, HK⟩ := hrel
    obtain ⟨x, hx⟩ := at_lt (show k < t.length by rw [HL.out]; exact hk)
    have hcx := HO.out.cellAt k (by omega)
    rw [ints_at hx] at hcx
    have HX := Lib.hid hx
    rcases Nat.eq_zero_or_pos k with k0 | k0
    · subst k0
      have G : Hid (Tr.lowerL t = none) := by
        rw [Hid, Tr.lowerL]
        simp only [HLAST.out, HK.out]
        rfl
      clear hx HK
      go_wp2
      go_ret
      exact ⟨0, .inl ⟨G.out, rfl, rfl⟩⟩
    · obtain ⟨j, rfl⟩ : ∃ j, k = j + 1 := ⟨k - 1, by omega⟩
      by_cases hx1 : x = 1
      · have G : Hid (Tr.lastF t (n - 1) = Tr.lastF t j) := by
          rw [Hid, HK.out, Tr.lastF, lv_at hx, if_pos hx1]
        subst hx1
        clear hx HK
        go_wp2
        go_round
        case rel => exact ⟨j, by omega, by go_num, G⟩
        case measure => simp [intOf]
      · have tx := beq_f hx1
        have HLL : Hid (Tr.lastF t (n - 1) = j + 1) := by
          rw [Hid, HK.out, Tr.lastF, lv_at hx, if_neg hx1]
        have hxp : 1 ≤ x := by have := (HST.out (j + 1) hk (by omega)).1; rw [lv_at hx] at this; exact this
        clear hx HK
        have tz : ((j : Int) + 1 == 0) = false := beq_f (by omega)
        go_wp2_with fail
        go_loopw [4] (fun pp wr => ∃ p m : Nat, p ≤ j ∧ pp = .int .i64 p ∧ wr = w.drewN m ∧ Hid (Tr.parF t x j = Tr.parF t x p)) (fun pp _ => (intOf pp).toNat)
        case atStart => exact ⟨j, 0, Nat.le_refl _, by go_num, rfl, rfl⟩
        case round =>
          obtain ⟨p, m, hp, rfl, rfl, HP⟩ := hrel
          obtain ⟨y, hy⟩ := at_lt (show p < t.length by rw [HL.out]; omega)
          have hcy := HO.out.cellAt p (by omega)
          rw [ints_at hy] at hcy
          have hcx' : (w.drewN m).cell? ⟨g, j + 1, none⟩ = some (.int .i64 x) := hcx
          have hcy' : (w.drewN m).cell? ⟨g, p, none⟩ = some (.int .i64 y) := hcy
          by_cases hxy : x ≤ y
          · have hd : decide (x ≤ y) = true := decide_eq_true hxy
            obtain ⟨q, rfl⟩ : ∃ q, p = q + 1 := ⟨p - 1, by
              rcases Nat.eq_zero_or_pos p with e | e
              · subst e; have h9 := HZ.out; rw [lv_at hy] at h9; omega
              · omega⟩
            have G : Hid (Tr.parF t x j = Tr.parF t x q) := by
              rw [Hid, HP.out, Tr.parF, lv_at hy, if_pos hxy]
            clear hy HP
            go_wp2_with fail
            go_quiet (fail)
            go_wp2
            go_roundw
            case rel => exact ⟨q, _, by omega, by go_num, rfl, G⟩
            case measure => simp [intOf]
          · have hd : decide (x ≤ y) = false := decide_eq_false hxy
            have HPP : Hid (Tr.parF t x j = p) := by
              rw [Hid, HP.out]
              match p, hy with
              | 0, _ => rfl
              | q+1, hy => rw [Tr.parF, lv_at hy, if_neg hxy]
            have HLO : Hid (Tr.lowerL t = some (Tr.cpyF (j + 1 - p) (n - (j + 1)) (j + 1) t)) := by
              rw [Hid, Tr.lowerL]
              simp only [HL.out, HLL.out, lv_at HX.out, Nat.add_sub_cancel, HPP.out]
              rfl
            clear hy HP HLL
            go_wp2_with fail
            go_quiet (fail)
            go_wp2_with fail
            go_loopw [5] (fun ii wr => ∃ (e : Nat) (T : List Int), j + 1 + e ≤ n ∧ ii = .int .i64 ((j + 1 + e : Nat) : Int) ∧ Hid (Tr.cpyF (j + 1 - p) (n - (j + 1)) (j + 1) t = Tr.cpyF (j + 1 - p) (n - (j + 1 + e)) (j + 1 + e) T) ∧ Hid (T.length = n) ∧ ∃ M, Cpd base g n cap (w.drewN M) T wr) (fun ii _ => n - (intOf ii).toNat)
            case atStart => exact ⟨0, t, by omega, by go_num, rfl, HL.out, _, by rw [World.drewN_drewN]; exact Cpd.start HO.out _⟩
            case round =>
              obtain ⟨e, T, he, rfl, HC, HT, M, HD⟩ := hrel
              by_cases hlt : j + 1 + e < n
              · have hep : e + p < j + 1 + e := by omega
                obtain ⟨z, hz⟩ := at_lt (show e + p < T.length by rw [HT.out]; omega)
                have hcz := HD.1.cellAt (e + p) (by omega)
                rw [ints_at hz] at hcz
                obtain ⟨old, hold⟩ := at_lt (show j + 1 + e < T.length by rw [HT.out]; exact hlt)
                have hco := HD.1.cellAt (j + 1 + e) (by omega)
                rw [ints_at hold] at hco
                have hfo := HD.1.frozenAt (j + 1 + e)
                have HC2 : Hid (Tr.cpyF (j + 1 - p) (n - (j + 1)) (j + 1) t = Tr.cpyF (j + 1 - p) (n - (j + 1 + (e + 1))) (j + 1 + (e + 1)) (T.set (j + 1 + e) z)) := by
                  rw [Hid, HC.out, show n - (j + 1 + e) = n - (j + 1 + (e + 1)) + 1 from by omega, cpy_step (x := z) (by rw [show j + 1 + e - (j + 1 - p) = e + p from by omega]; exact hz)]
                  rfl
                have HT2 : Hid ((T.set (j + 1 + e) z).length = n) := by rw [Hid, List.length_set]; exact HT.out
                have G := Lib.hid (HD.step (i := j + 1 + e) (x := z))
                have ew1 : ((j + 1 + e : Nat) : Int) - ((j : Int) + 1) = (e : Int) := by omega
                clear hz hold HD HC
                go_wp2
                go_roundw
                case rel => exact ⟨e + 1, T.set (j + 1 + e) z, by omega, by go_num, HC2, HT2, M, G.out⟩
                case measure => simp [intOf]; omega
              · have hne : n = j + 1 + e := by omega
                have G : Hid (∃ m, Lowered base g n cap t (w.drewN m) (.returned (.bool true)) wr) := by
                  have hc := HC.out
                  rw [show n - (j + 1 + e) = 0 from by omega, Tr.cpyF] at hc
                  exact ⟨M, .inr ⟨T, by rw [HLO.out, hc], rfl, HD.1, HD.2⟩⟩
                clear HD HC
                go_wp2
                go_ret
                exact G.out
end Go.Proofs.Ytjmjdcfgbaepkaa
/-
  Marks that the laws write into lists of the call's own, and their reading.
-/
namespace Go.Proofs.Ytjmjdcfgbaepkaa
open Go.RowKit Fld
set_option linter.unusedVariables false
set_option linter.unusedSimpArgs false
set_option maxRecDepth 100000

def MarkedM (lo hi n : Nat) (v : Value) (k : Int) (m : List (List Int)) (vs : List Value) (w : World) (e : Ending) (w' : World) : Prop :=
  e = .returned (.int .i64 (k + (total m : Nat))) ∧ OwnMat w' lo hi v n (marksM k m) vs ∧ Within lo hi w w'
def MarkingM (lo hi n : Nat) (v : Value) (k : Int) (m : List (List Int)) (vs : List Value) (r : Nat) (w wr : World) : Prop :=
  OwnMat wr lo hi v n ((marksM k m).take r ++ m.drop r) vs ∧ Within lo hi w wr
theorem MarkingM.step {lo hi n r c : Nat} {v : Value} {A : Option Addr} {k : Int} {m : List (List Int)} {vs : List Value} {row : List Int} {w wr w2 : World} {e : Ending} (h : MarkingM lo hi n v k m vs r w wr) (hr : m[r]? = some row) (hv : vs[r]? = some (.slice A row.length c))
    (hm : Marked lo row.length c A (k + (total (m.take r) : Nat)) wr e w2) : MarkingM lo hi n v k m vs (r + 1) w w2 := by
  obtain ⟨h1, h2⟩ := h
  obtain ⟨_, h3, h4⟩ := hm
  have hrl : r < m.length := by
    rcases Nat.lt_or_ge r m.length with g | g
    · exact g
    · rw [List.getElem?_eq_none g] at hr; cases hr
  have h5 := h1.set_row hv (marks_length _ _) h3 h4
  rw [markM_step hrl (marksM_length _ _) (marksM_at m k r row hr)] at h5
  refine ⟨h5, h2.trans (Within.grown h4 fun g hg => ?_)⟩
  have hat : ((marksM k m).take r ++ m.drop r)[r]? = some row := by
    have e1 : ((marksM k m).take r).length = r := by simp [marksM_length]; omega
    rw [List.getElem?_append_right (by omega), e1, Nat.sub_self, List.getElem?_drop, Nat.add_zero]; exact hr
  obtain ⟨A2, c2, e2, o2⟩ := h1.inner r row hat
  rw [hv] at e2
  injection e2 with e2
  rw [e2] at hg
  exact ⟨(o2.1.lt g hg).1, o2.2 g hg⟩
theorem MarkingM.done {lo hi n : Nat} {v : Value} {k : Int} {m : List (List Int)} {vs : List Value} {w wr : World} (h : MarkingM lo hi n v k m vs n w wr) (hl : m.length = n) : MarkedM lo hi n v k m vs w (.returned (.int .i64 (k + (total m : Nat)))) wr := by
  obtain ⟨h1, h2⟩ := h
  rw [List.take_of_length_le (by rw [marksM_length]; omega), List.drop_eq_nil_of_le (by omega), List.append_nil] at h1
  exact ⟨rfl, h1, h2⟩
theorem MarkingM.at_ {lo hi n r : Nat} {v : Value} {k : Int} {m : List (List Int)} {vs : List Value} {row : List Int} {w wr : World} (h : MarkingM lo hi n v k m vs r w wr) (hr : m[r]? = some row) :
    ∃ A c, vs[r]? = some (.slice A row.length c) ∧ OwnR wr lo hi 2 (.slice A row.length c) row.length (ints row) := by
  have hrl : r < m.length := by
    rcases Nat.lt_or_ge r m.length with g | g
    · exact g
    · rw [List.getElem?_eq_none g] at hr; cases hr
  have hat : ((marksM k m).take r ++ m.drop r)[r]? = some row := by
    have e1 : ((marksM k m).take r).length = r := by simp [marksM_length]; omega
    rw [List.getElem?_append_right (by omega), e1, Nat.sub_self, List.getElem?_drop, Nat.add_zero]; exact hr
  exact h.1.inner r row hat
end Go.Proofs.Ytjmjdcfgbaepkaa
/-
  All trees with so many nodes, the program's.
-/
namespace Go.Proofs.Ytjmjdcfgbaepkaa
open Go.RowKit Fld
set_option linter.unusedVariables false
set_option linter.unusedSimpArgs false
set_option maxRecDepth 100000

theorem slicesClone_any (ad : Addr) (n c B : Nat) (xs : List Int) (w : World) (hl : xs.length = n) (hn : n ≤ 1048576) (hB : B ≤ w.heap.size) (h : Row w B (some ad) (ints xs)) :
    Calls Try.prog 154 #[.slice (some ad) n c] w (NewRow 2 n (ints xs) w) := by
  obtain ⟨i0, hi, hz0, hz1, hz2⟩ := info_parts info_i64
  have hnews := (h.alloc hB (.cells #[] 2)).news
  have hlen : (ints xs).length = n * 1 := by rw [ints_length, hl, Nat.mul_one]
  have h1 := ints_cells xs
  have hown0 := (Growing.start w 2).1
  have hbel0 := (Growing.start w 2).2
  have q22 : ∀ (w : World) (a : Option Addr) (n c n' c' : Nat), (binOp .eql 24 (.slice a n c) (.slice none n' c')).run Try.prog w = .ok (.bool a.isNone) w := fun w a n c n' c' => Lib.run_eql_slice_nil w _ _ a n c n' c' Try.underlying24
  go_enter Try.func154, Try.ntmps154
  go_wp2_with (at_builtin; refine wpList_append_own _ rfl (.tmp 5) (.tmp 6) 24 rfl w.heap.size 2 i0 _ 1 8 Try.underlying24 hi hz0 hz1 hz2 rfl (by omega) (.slice (some ⟨w.heap.size, 0, none⟩) 0 0) 0 [] rfl hown0 ad n c (ints xs) rfl hlen hnews h1 (by simp only [maxLen]; omega) (by omega) (by simp) ?_; intro v' w' hown hgrow _)
  go_ret
  rw [Nat.zero_add] at hown
  exact NewRow.own hown (hbel0.grown hgrow (by simp) (fun k hk => (hown0.lt k hk).1))
def rangeL (n : Nat) : List Int := (List.range n).map fun k : Nat => (k : Int)
theorem rangeL_length (n : Nat) : (rangeL n).length = n := by simp [rangeL]
theorem rangeL_at {n k : Nat} (h : k < n) : (rangeL n)[k]? = some (k : Int) := by unfold rangeL; rw [List.getElem?_map, List.getElem?_range h]; rfl
def chkT (n : Nat) : Bool := (Tr.treesL (n + 1)).all (fun t => Tr.isLv t && decide (t.length = n + 1)) && decide ((Tr.treesL (n + 1)).length ≤ 115)
theorem chkT_all : (List.range 8).all chkT = true := by decide +kernel
theorem trees_all {n : Nat} (h1 : 1 ≤ n) (h8 : n ≤ 8) : (∀ t ∈ Tr.treesL n, Tr.isLv t = true ∧ t.length = n) ∧ (Tr.treesL n).length ≤ 115 := by
  have h := List.all_eq_true.1 chkT_all (n - 1) (by rw [List.mem_range]; omega)
  unfold chkT at h
  rw [show n - 1 + 1 = n from by omega] at h
  simp only [Bool.and_eq_true, List.all_eq_true, decide_eq_true_eq] at h
  exact h
/-- the trees so far, the last one of them as it stands in the levels -/
structure Listed (n : Nat) (m : List (List Int)) (T : List Int) : Prop where
  last : ∃ m', m = m' ++ [T] ∧ Tr.treesL n = m' ++ Tr.treesF (116 - m'.length) T
theorem Listed.bd {n : Nat} {m : List (List Int)} {T : List Int} (h : Listed n m T) (h1 : 1 ≤ n) (h8 : n ≤ 8) : Tr.isLv T = true ∧ T.length = n ∧ 1 ≤ m.length ∧ m.length ≤ 115 := by
  obtain ⟨m', rfl, e⟩ := h.last
  obtain ⟨hall, hlen⟩ := trees_all h1 h8
  rw [e, List.length_append] at hlen
  have hf : 116 - m'.length = (115 - m'.length) + 1 := by omega
  have hT : T ∈ Tr.treesL n := by rw [e, hf, Tr.treesF]; simp
  have h2 := hall T hT
  rw [hf, Tr.treesF, List.length_cons] at hlen
  exact ⟨h2.1, h2.2, by simp, by rw [List.length_append]; simp; omega⟩
theorem Listed.done {n : Nat} {m : List (List Int)} {T : List Int} (h : Listed n m T) (h1 : 1 ≤ n) (h8 : n ≤ 8) (hl : Tr.lowerL T = none) : m = Tr.treesL n := by
  have hb := h.bd h1 h8
  obtain ⟨m', rfl, e⟩ := h.last
  have hlen := hb.2.2.2
  rw [List.length_append] at hlen
  simp at hlen
  rw [e, show 116 - m'.length = (115 - m'.length) + 1 from by omega, Tr.treesF, hl]
theorem Listed.next {n : Nat} {m : List (List Int)} {T u : List Int} (h : Listed n m T) (h1 : 1 ≤ n) (h8 : n ≤ 8) (hl : Tr.lowerL T = some u) : Listed n (m ++ [u]) u := by
  have hb := h.bd h1 h8
  obtain ⟨m', rfl, e⟩ := h.last
  have hlen := hb.2.2.2
  rw [List.length_append] at hlen
  simp at hlen
  refine ⟨m' ++ [T], rfl, ?_⟩
  rw [e, show 116 - m'.length = (115 - m'.length) + 1 from by omega, Tr.treesF, hl, List.length_append]
  simp
theorem Listed.start (n : Nat) : Listed n [rangeL n] (rangeL n) := ⟨[], rfl, rfl⟩
set_option maxHeartbeats 2000000 in
theorem treesWith_any (n : Nat) (w : World) (h1 : 1 ≤ n) (h8 : n ≤ 8) :
    Calls Try.prog 129 #[.int .i64 n] w (NewMat (Tr.treesL n).length (Tr.treesL n) w) := by
  obtain ⟨i0, hi, hz0, hz1, hz2⟩ := info_parts info_i64
  obtain ⟨j0, hj, hy0, hy1, hy2⟩ := info_parts info_row
  go_enter Try.func129, Try.ntmps129
  go_wp2_with (at_make; refine wpList_make_full _ rfl (.tmp 6) (.tmp 6) 24 rfl w.heap.size 2 i0 _ 1 Try.underlying24 hi hz0 hz1 .i64 .i64 _ _ n rfl rfl rfl rfl (by rw [hz2]; omega) (by simp only [maxLen]; omega) (Nat.le_refl _) ?_; intro w1 hown hg)
  have F0 := Filling.start (xs := rangeL n) hown hg
  clear hown hg hz0 hz1 hz2 hi
  go_wp2_with fail
  go_loopw [10] (fun i wr => ∃ k : Nat, k ≤ n ∧ i = .int .i64 k ∧ Filling w 2 n (rangeL n) k wr) (fun i _ => n - (intOf i).toNat)
  case atStart => exact ⟨0, Nat.zero_le _, rfl, F0⟩
  case round =>
    obtain ⟨k, hk, rfl, HF⟩ := hrel
    by_cases hlt : k < n
    · have hf := HF.1.frozenAt k
      have ho := HF.1.cellAt k (by omega)
      rw [fill_at (by rw [ints_length]; exact rangeL_length n) hlt] at ho
      have G := Lib.hid (HF.step (rangeL_length n) (rangeL_at hlt))
      clear F0 HF
      go_wp2
      go_roundw
      case rel => exact ⟨k + 1, by omega, by go_num, G.out⟩
      case measure => simp [intOf]; omega
    · obtain rfl : k = n := by omega
      obtain ⟨A0, c0, e0, hown1, hbel1⟩ := HF.done (rangeL_length k)
      injection e0 with e0
      injection e0 with eA _ ec
      subst eA ec
      obtain ⟨wo, hwo⟩ : ∃ wo, wo = wr := ⟨wr, rfl⟩
      subst hwo
      have HLV := Lib.hid (OwnR.of hown1)
      have HB1 := Lib.hid hbel1
      have hs1 : w.heap.size < wo.heap.size := (hown1.lt w.heap.size rfl).2
      clear F0 HF hown1 hbel1
      go_wp2_with fail
      refine (slicesClone_any ⟨w.heap.size, 0, none⟩ k k wo.heap.size (rangeL k) _ (rangeL_length k) (by omega) (Nat.le_refl _) HLV.out.row).mono ?_
      rintro e w2 ⟨A2, c2, rfl, own2, bel2⟩
      have HO2 := Lib.hid own2
      have HB2 := Lib.hid bel2
      have hs2 := bel2.size
      clear own2 bel2
      go_wp2_with fail
      have HM0 : Hid (OwnMat (w2.alloc (.cells #[.slice A2 k c2] 24)) wo.heap.size (w2.alloc (.cells #[.slice A2 k c2] 24)).heap.size (.slice (some ⟨w2.heap.size, 0, none⟩) 1 1) 1 [rangeL k] [.slice A2 k c2]) := by
        have hal : Below w2.heap.size w2 (w2.alloc (.cells #[.slice A2 k c2] 24)) := (Below.refl _ _).alloc (Nat.le_refl _) _
        have hlit := World.ownsRow_lit (base := wo.heap.size) (size := 1) (e := 24) w2 #[.slice A2 k c2] 1 hs2 (by simp [maxLen]) rfl
        refine ⟨OwnR.of hlit, rfl, ?_, ?_⟩
        · intro r row hr
          match r, hr with
          | 0, hr =>
            simp only [List.getElem?_cons_zero, Option.some.injEq] at hr
            subst hr
            refine ⟨A2, c2, by rw [rangeL_length]; rfl, ?_⟩
            rw [rangeL_length]
            exact ((OwnR.of HO2.out).below hal (Nat.le_refl _)).more (Nat.le_refl _) hal.size
          | r+1, hr => simp at hr
        · intro r s u t g hne hu ht
          match r, s, hu, ht with
          | 0, 0, _, _ => exact absurd rfl hne
          | r+1, _, hu, _ => simp at hu
          | 0, s+1, _, ht => simp at ht
      have HL0 : Hid (OwnR (w2.alloc (.cells #[.slice A2 k c2] 24)) w.heap.size wo.heap.size 2 (.slice (some ⟨w.heap.size, 0, none⟩) k k) k (ints (rangeL k))) :=
        (HLV.out.below HB2.out (Nat.le_refl _)).below ((Below.refl w2.heap.size w2).alloc (Nat.le_refl _) _) hs2
      have HB0 : Hid (Below w.heap.size w (w2.alloc (.cells #[.slice A2 k c2] 24))) := (HB1.out.trans (HB2.out.mono (by omega))).alloc (by omega) _
      go_loopw [5] (fun v W => ∃ (g cap j : Nat) (m : List (List Int)) (vs : List Value) (T : List Int), v = .slice (some ⟨g, 0, none⟩) j cap ∧ 1 ≤ j ∧ j ≤ 115 ∧ Hid (Listed k m T) ∧ Hid (OwnMat W wo.heap.size W.heap.size (.slice (some ⟨g, 0, none⟩) j cap) j m vs) ∧ Hid (OwnR W w.heap.size wo.heap.size 2 (.slice (some ⟨w.heap.size, 0, none⟩) k k) k (ints T)) ∧ Below w.heap.size w W ∧ wo.heap.size ≤ W.heap.size) (fun v _ => 200 - (match v with | .slice _ n _ => n | _ => 0))
      case atStart => exact ⟨w2.heap.size, 1, 1, [rangeL k], [.slice A2 k c2], rangeL k, rfl, Nat.le_refl _, by omega, Listed.start k, HM0, HL0, HB0.out, by simp; omega⟩
      case round =>
        obtain ⟨g, cap, j, m, vs, T, rfl, j1, j115, HT, HM, HL, HB, hWo⟩ := hrel
        obtain ⟨tlv, tl, _, _⟩ := HT.out.bd h1 h8
        have HTL := Lib.hid tl
        have C0 := lower_any w.heap.size w.heap.size k k T wr tl tlv HL.out.1
        clear tl tlv
        go_wp2_with fail
        refine C0.mono ?_
        rintro e w3 ⟨md, ⟨hlo, rfl, rfl⟩ | ⟨u, hlo, rfl, hown3, hg3⟩⟩
        · have e := HT.out.done h1 h8 hlo
          have hjl : m.length = j := HM.out.size
          have G : Hid (NewMat (Tr.treesL k).length (Tr.treesL k) w (.returned (.slice (some ⟨g, 0, none⟩) j cap)) (wr.drewN md)) := by
            rw [Hid, ← e, hjl]
            exact ⟨_, _, vs, rfl, (HM.out.drewN md).more (by omega) (Nat.le_refl _), below_drewN HB md⟩
          clear hlo e hjl HB C0
          go_wp2
          go_ret
          exact G.out
        · have hsz3 : wr.heap.size ≤ w3.heap.size := hg3.size
          have hWI : Within w.heap.size wo.heap.size (wr.drewN md) w3 := Within.grown hg3 (fun g' e => by injection e with e; omega)
          have HM3 : Hid (OwnMat w3 wo.heap.size w3.heap.size (.slice (some ⟨g, 0, none⟩) j cap) j m vs) := ((HM.out.drewN md).within hWI (by show wr.heap.size ≤ wr.heap.size; omega) (.inr (Nat.le_refl _))).more (Nat.le_refl _) hsz3
          have HL3 : Hid (OwnR w3 w.heap.size wo.heap.size 2 (.slice (some ⟨w.heap.size, 0, none⟩) k k) k (ints u)) := ⟨hown3, fun g' e => by have : w.heap.size = g' := (by simpa [Value.ownBlock] using e); omega⟩
          have HB3 : Hid (Below w.heap.size w w3) := Below.then (below_drewN HB md) hWI (Nat.le_refl _) (by show w.heap.size ≤ wr.heap.size; omega)
          have HN := Lib.hid (HT.out.next h1 h8 hlo)
          have hul : u.length = k := (HN.out.bd h1 h8).2.1
          have huj : j + 1 ≤ 115 := by have := (HN.out.bd h1 h8).2.2.2; rw [List.length_append] at this; have := HM.out.size; simp at *; omega
          have HUL := Lib.hid hul
          have hW3 : wo.heap.size ≤ w3.heap.size := by omega
          clear hlo hown3 hg3 hWI HB C0 HM HL HT hul
          go_wp2_with fail
          refine (slicesClone_any ⟨w.heap.size, 0, none⟩ k k wo.heap.size u _ HUL.out (by omega) hW3 HL3.out.row).mono ?_
          rintro e w4 ⟨A4, c4, rfl, own4, bel4⟩
          have hs4 := bel4.size
          have HM4 := Lib.hid (HM3.out.below bel4 (Nat.le_refl _))
          have HL4 := Lib.hid (HL3.out.below bel4 hW3)
          have HB4 := Lib.hid (HB3.out.trans (bel4.mono (by omega)))
          have HO4 := Lib.hid own4
          have hownO := HM4.out.outer.1
          clear own4 bel4
          go_wp2_with (at_builtin; refine wpList_append_lies _ rfl (.tmp 23) (.tmp 26) 44 rfl wo.heap.size 24 j0 _ 1 24 Try.underlying44 hj hy0 hy1 hy2 rfl (by omega) (.slice (some ⟨g, 0, none⟩) j cap) j vs rfl (hownO.alloc _) ⟨w4.heap.size, 0, none⟩ 1 1 [.slice A4 k c4] rfl rfl (World.news_of_block (cs := #[.slice A4 k c4]) (heap_alloc_new _ _)) (by simp [Value.oneCell']) (by omega) (by simp only [maxLen]; omega) (by omega) (by simp; omega) (w4.heap.size + 1) (by simp) ?_; intro g5 cap5 w5 hown5 hgrow5 hat5 hlt5)
          have hs5 : w4.heap.size ≤ w5.heap.size := by have := hgrow5.size; simp at this; omega
          have GM : Hid (OwnMat w5 wo.heap.size w5.heap.size (.slice (some ⟨g5, 0, none⟩) (j + 1) cap5) (j + 1) (m ++ [u]) (vs ++ [.slice A4 k c4])) := HM4.out.push (row := u) hs4 HUL.out HO4.out hW3 hown5 hgrow5
          have GL : Hid (OwnR w5 w.heap.size wo.heap.size 2 (.slice (some ⟨w.heap.size, 0, none⟩) k k) k (ints u)) :=
            ((HL4.out.below ((Below.refl w4.heap.size w4).alloc (Nat.le_refl _) _) (by omega)).grown hgrow5 (own_types HL4.out.1 hownO (by decide)))
          have GB : Hid (Below w.heap.size w w5) := (HB4.out.alloc (by omega) _).grown hgrow5 (by simp; omega) (fun q hq => by have := (hownO.lt q hq).1; omega)
          clear hown5 hgrow5 hat5 hownO
          go_wp2
          go_roundw
          case rel => exact ⟨g5, cap5, j + 1, _, _, u, rfl, by omega, huj, HN, GM, GL, GB.out, by omega⟩
          case measure => simp; omega
end Go.Proofs.Ytjmjdcfgbaepkaa
/-
  What TreesOf answers, the program's and the model's.
-/
namespace Go.Proofs.Ytjmjdcfgbaepkaa
open Go.RowKit Fld
set_option linter.unusedVariables false
set_option linter.unusedSimpArgs false
set_option maxRecDepth 100000

theorem total_bd {q : Nat} : ∀ {m : List (List Int)}, (∀ t ∈ m, t.length ≤ q) → total m ≤ m.length * q
  | [], _ => by simp [total]
  | x :: r, h => by
    have h1 := h x (by simp)
    have h2 := total_bd (fun t ht => h t (by simp [ht]) : ∀ t ∈ r, t.length ≤ q)
    have e : total (x :: r) = x.length + total r := by simp [total]
    rw [e, List.length_cons, Nat.add_mul, Nat.one_mul]; omega
theorem trees_total {n : Nat} (h1 : 1 ≤ n) (h8 : n ≤ 8) : (Tr.treesL n).length + total (Tr.treesL n) ≤ 1048576 := by
  obtain ⟨ha, hl⟩ := trees_all h1 h8
  have := total_bd (q := 8) (m := Tr.treesL n) (fun t ht => by rw [(ha t ht).2]; exact h8)
  omega
def treesOfA (a : Int) : List (List Int) × Int := if 1 ≤ a ∧ a ≤ 8 then (Tr.treesL a.toNat, 0) else ([], 2)
theorem treesOfA_yes {n : Nat} (h1 : 1 ≤ n) (h8 : n ≤ 8) : treesOfA (n : Int) = (Tr.treesL n, 0) := by
  unfold treesOfA; rw [if_pos (by omega)]; rfl
theorem treesOfA_no {a : Int} (h : ¬ (1 ≤ a ∧ a ≤ 8)) : treesOfA a = ([], 2) := if_neg h
end Go.Proofs.Ytjmjdcfgbaepkaa
/-
  The list of all trees; what TreeAt answers, the program's and the model's.
-/
namespace Go.Proofs.Ytjmjdcfgbaepkaa
open Go.RowKit Fld
set_option linter.unusedVariables false
set_option linter.unusedSimpArgs false
set_option maxRecDepth 100000

/-- rows are added behind the last one -/
theorem OwnMat.pushAll {w w2 : World} {lo hi n n' g cap c' : Nat} {v : Value} {A' : Option Addr} {m m' : List (List Int)} {vs vs' : List Value} (h : OwnMat w lo hi v n m vs) (hs : hi ≤ w.heap.size) (h' : OwnMat w hi w.heap.size (.slice A' n' c') n' m' vs') (hl : lo ≤ hi)
    (h2 : w2.ownsRow lo 24 1 (.slice (some ⟨g, 0, none⟩) (n + n') cap) (n + n') (vs ++ vs')) (hg : w.grownBy w2 v.ownBlock) : OwnMat w2 lo w2.heap.size (.slice (some ⟨g, 0, none⟩) (n + n') cap) (n + n') (m ++ m') (vs ++ vs') := by
  have hz : w.heap.size ≤ w2.heap.size := hg.size
  have carry : ∀ (lo' hi' : Nat) (A2 : Option Addr) (c2 : Nat) (r2 : List Int), OwnR w lo' hi' 2 (.slice A2 r2.length c2) r2.length (ints r2) → OwnR w2 lo' hi' 2 (.slice A2 r2.length c2) r2.length (ints r2) := fun lo' hi' A2 c2 r2 o2 => o2.grown hg (own_types o2.1 h.outer.1 (by decide))
  have side : ∀ (r : Nat) (u : Value) (g' : Nat), (vs ++ vs')[r]? = some u → u.ownBlock = some g' → (r < vs.length ∧ vs[r]? = some u ∧ g' < hi) ∨ (vs.length ≤ r ∧ vs'[r - vs.length]? = some u ∧ hi ≤ g') := by
    intro r u g' hu hb
    rcases Nat.lt_or_ge r vs.length with x | x
    · rw [List.getElem?_append_left x] at hu
      obtain ⟨A2, c2, e2, o2⟩ := h.inner r _ (List.getElem?_eq_getElem (by rw [← h.len]; exact x))
      rw [hu] at e2
      injection e2 with e2
      subst e2
      exact .inl ⟨x, hu, o2.2 g' hb⟩
    · rw [List.getElem?_append_right x] at hu
      have hx : r - vs.length < vs'.length := by
        rcases Nat.lt_or_ge (r - vs.length) vs'.length with y | y
        · exact y
        · rw [List.getElem?_eq_none y] at hu; cases hu
      obtain ⟨A2, c2, e2, o2⟩ := h'.inner _ _ (List.getElem?_eq_getElem (by rw [← h'.len]; exact hx))
      have hu0 := hu
      rw [hu] at e2
      injection e2 with e2
      subst e2
      exact .inr ⟨x, hu0, (o2.1.lt g' hb).1⟩
  refine ⟨OwnR.of h2, by simp [h.len, h'.len], ?_, ?_⟩
  · intro r row hr
    rcases Nat.lt_or_ge r m.length with x | x
    · rw [List.getElem?_append_left x] at hr
      obtain ⟨A2, c2, e2, o2⟩ := h.inner r row hr
      exact ⟨A2, c2, by rw [List.getElem?_append_left (by rw [h.len]; exact x)]; exact e2, (carry _ _ _ _ _ o2).more (Nat.le_refl _) (by omega)⟩
    · rw [List.getElem?_append_right x] at hr
      obtain ⟨A2, c2, e2, o2⟩ := h'.inner _ row hr
      exact ⟨A2, c2, by rw [List.getElem?_append_right (by rw [h.len]; exact x), h.len]; exact e2, (carry _ _ _ _ _ o2).more hl hz⟩
  · intro r s u t g' hne hu ht hb hb'
    rcases side r u g' hu hb with ⟨a1, a2, a3⟩ | ⟨a1, a2, a3⟩ <;> rcases side s t g' ht hb' with ⟨b1, b2, b3⟩ | ⟨b1, b2, b3⟩
    · exact h.apart r s u t g' hne a2 b2 hb hb'
    · omega
    · omega
    · exact h'.apart _ _ u t g' (by omega) a2 b2 hb hb'
def treesTo (k : Nat) : List (List Int) := (List.range k).flatMap fun n => Tr.treesL (n + 1)
theorem treesTo_step (k : Nat) : treesTo (k + 1) = treesTo k ++ Tr.treesL (k + 1) := by
  unfold treesTo; rw [List.range_succ, List.flatMap_append]; simp
theorem treesTo_end : treesTo 8 = Tr.allL := rfl
theorem treesTo_len : ∀ k, k ≤ 8 → (treesTo k).length ≤ k * 115
  | 0, _ => by simp [treesTo]
  | k+1, h => by
    rw [treesTo_step, List.length_append]
    have := treesTo_len k (by omega)
    have := (trees_all (n := k + 1) (by omega) (by omega)).2
    omega
theorem own_addr {w : World} {lo : Nat} {T : TypeId} {A : Option Addr} {n c : Nat} {vs : List Value} (h : w.ownsRow lo T 1 (.slice A n c) n vs) (h1 : 0 < n) : ∃ g, A = some ⟨g, 0, none⟩ := by
  obtain ⟨g, cap, hv⟩ := own_form h h1
  injection hv with hA _ _
  exact ⟨g, hA⟩
theorem vals_one {w : World} {lo hi n : Nat} {v : Value} {m : List (List Int)} {vs : List Value} (h : OwnMat w lo hi v n m vs) : ∀ u ∈ vs, u.oneCell' = true := by
  intro u hu
  obtain ⟨k, hk⟩ := List.mem_iff_getElem?.1 hu
  have hkl : k < m.length := by
    rw [← h.len]
    rcases Nat.lt_or_ge k vs.length with y | y
    · exact y
    · rw [List.getElem?_eq_none y] at hk; cases hk
  obtain ⟨A, c, e, _⟩ := h.inner k _ (List.getElem?_eq_getElem hkl)
  rw [hk] at e
  injection e with e
  subst e
  rfl
theorem trees_pos {n : Nat} (h1 : 1 ≤ n) : 1 ≤ (Tr.treesL n).length := by
  unfold Tr.treesL
  rw [show (116 : Nat) = 115 + 1 from rfl, Tr.treesF]
  simp
set_option maxHeartbeats 1000000 in
theorem allTrees_any (w : World) : Calls Try.prog 87 #[] w (NewMat 200 Tr.allL w) := by
  obtain ⟨j0, hj, hy0, hy1, hy2⟩ := info_parts info_row
  go_enter Try.func87, Try.ntmps87
  go_wp2_with (at_make; refine wpList_make_own _ rfl _ _ 44 rfl w.heap.size 24 j0 (.slice none 0 0) 1 Try.underlying44 hj hy0 hy1 .i64 .i64 _ 200 rfl rfl rfl (by rw [hy2]; omega) (by unfold maxLen; omega) (Nat.le_refl _) ?_; intro w1 hown hg)
  have M0 : Hid (OwnMat w1 w.heap.size w1.heap.size (.slice (some ⟨w.heap.size, 0, none⟩) 0 200) 0 [] []) := ⟨OwnR.of hown, rfl, fun r row hr => by simp at hr, fun r s u t g _ hu => by simp at hu⟩
  have B0 : Hid (Below w.heap.size w w1) := (Below.refl _ _).grown hg (Nat.le_refl _) (fun k hk => by cases hk)
  have hs0 := hg.size
  clear hown hg
  go_wp2_with fail
  go_loopw [1, 2] (fun v i wr => ∃ (k q g cap : Nat) (vs : List Value), k ≤ 8 ∧ v = .slice (some ⟨g, 0, none⟩) q cap ∧ i = .int .i64 ((k : Int) + 1) ∧ Hid (OwnMat wr w.heap.size wr.heap.size (.slice (some ⟨g, 0, none⟩) q cap) q (treesTo k) vs) ∧ Below w.heap.size w wr ∧ w.heap.size ≤ wr.heap.size) (fun _ i _ => 9 - (intOf i).toNat)
  case atStart => exact ⟨0, 0, w.heap.size, 200, [], Nat.zero_le _, rfl, rfl, M0, B0.out, hs0⟩
  case round =>
    obtain ⟨k, q, g, cap, vs, hk, rfl, rfl, HM, HB, hsz⟩ := hrel
    by_cases hlt : k < 8
    · have hq : q ≤ 920 := by
        have h1 := HM.out.size
        have h2 := treesTo_len k hk
        omega
      have HBB := Lib.hid HB
      have C1 := treesWith_any (k + 1) wr (by omega) (by omega)
      have h115 := (trees_all (n := k + 1) (by omega) (by omega)).2
      have hpos := trees_pos (n := k + 1) (by omega)
      obtain ⟨T, hT⟩ : ∃ T, T = Tr.treesL (k + 1) := ⟨_, rfl⟩
      have HS : Hid (treesTo (k + 1) = treesTo k ++ T) := by rw [Hid, hT]; exact treesTo_step k
      rw [← hT] at C1 h115 hpos
      obtain ⟨N, hN⟩ : ∃ N, N = T.length := ⟨_, rfl⟩
      rw [← hN] at C1 h115 hpos
      clear HB hT hN
      go_wp2_with fail
      refine C1.mono ?_
      rintro e w2 ⟨A2, c2, vs2, rfl, own2, bel2⟩
      have hs2 := bel2.size
      have HM2 := Lib.hid (HM.out.below bel2 (Nat.le_refl _))
      have HO2 := Lib.hid own2
      have HB2 := Lib.hid (HBB.out.trans (bel2.mono hsz))
      have hownO := HM2.out.outer.1
      obtain ⟨g2, rfl⟩ := own_addr own2.outer.1 (by omega)
      have HLEN : Hid (vs2.length = N * 1) := by rw [Hid, HO2.out.len, HO2.out.size, Nat.mul_one]
      have HNEW : Hid (∀ j u, vs2[j]? = some u → w2.cell? ((⟨g2, 0, none⟩ : Addr).add j) = some u) := (row_of_own HO2.out.outer.1).news
      have HONE := Lib.hid (vals_one HO2.out)
      clear own2 bel2 C1
      go_wp2_with (at_builtin; refine wpList_append_lies _ rfl (.tmp 8) (.tmp 10) 44 rfl w.heap.size 24 j0 _ 1 24 Try.underlying44 hj hy0 hy1 hy2 rfl (by omega) (.slice (some ⟨g, 0, none⟩) q cap) q vs rfl hownO ⟨g2, 0, none⟩ N c2 vs2 rfl HLEN.out HNEW.out HONE.out (by omega) (by simp only [maxLen]; omega) (by omega) (by omega) w2.heap.size rfl ?_; intro g5 cap5 w5 hown5 hgrow5 hat5 hlt5)
      have GM : Hid (OwnMat w5 w.heap.size w5.heap.size (.slice (some ⟨g5, 0, none⟩) (q + N) cap5) (q + N) (treesTo (k + 1)) (vs ++ vs2)) := by
        rw [Hid, HS.out]
        exact HM2.out.pushAll hs2 HO2.out hsz hown5 hgrow5
      have GB : Hid (Below w.heap.size w w5) := HB2.out.grown hgrow5 (by omega) (fun z hz => (hownO.lt z hz).1)
      have hs5 : w2.heap.size ≤ w5.heap.size := hgrow5.size
      clear hown5 hgrow5 hat5 hownO
      go_wp2
      go_roundw
      case rel => exact ⟨k + 1, q + N, g5, cap5, _, by omega, rfl, by go_num, GM, GB.out, by omega⟩
      case measure => simp [intOf]; omega
    · obtain rfl : k = 8 := by omega
      have e : q = 200 := by have := HM.out.size; rw [treesTo_end, Tr.allL_len] at this; omega
      subst e
      have G : Hid (NewMat 200 Tr.allL w (.returned (.slice (some ⟨g, 0, none⟩) 200 cap)) wr) := ⟨_, _, vs, rfl, HM.out, HB⟩
      clear HB
      go_wp2
      go_ret
      exact G.out
theorem all_split : ∀ k, k ≤ 8 → ∃ rest, Tr.allL = treesTo k ++ rest := by
  intro k hk
  refine ⟨((List.range (8 - k)).map (· + k)).flatMap fun n => Tr.treesL (n + 1), ?_⟩
  rw [← treesTo_end]
  unfold treesTo
  rw [← List.flatMap_append]
  congr 1
  have : ∀ k, k ≤ 8 → List.range 8 = List.range k ++ (List.range (8 - k)).map (· + k) := by decide
  exact this k hk
def treeAtA (a : Int) : List Int × Int := if 0 ≤ a ∧ a ≤ 199 then (Tr.allL.getD a.toNat [], 0) else ([], 2)
theorem treeAtA_no {a : Int} (h : ¬ (0 ≤ a ∧ a ≤ 199)) : treeAtA a = ([], 2) := if_neg h
theorem treeAtA_yes {a : Nat} {t : List Int} (ht : Tr.allL[a]? = some t) (h : a ≤ 199) : treeAtA (a : Int) = (t, 0) := by
  unfold treeAtA
  rw [if_pos (by omega), Int.toNat_natCast, List.getD_eq_getElem?_getD, ht]; rfl
theorem all_len {a : Nat} {t : List Int} (ht : Tr.allL[a]? = some t) : t.length ≤ 8 := by
  have hm := List.mem_of_getElem? ht
  rw [← treesTo_end] at hm
  unfold treesTo at hm
  rw [List.mem_flatMap] at hm
  obtain ⟨n, hn, h⟩ := hm
  rw [List.mem_range] at hn
  rw [((trees_all (n := n + 1) (by omega) (by omega)).1 t h).2]; omega
set_option maxHeartbeats 400000 in
theorem pTreeAt_L (a : Int) (w : World) (ha : -9223372036854775808 ≤ a ∧ a ≤ 9223372036854775807) : Calls Try.prog 34 #[.int .i64 a] w (ResL (treeAtA a) w) := by
  by_cases h : 0 ≤ a ∧ a ≤ 199
  · obtain ⟨n, rfl⟩ : ∃ n : Nat, a = (n : Int) := ⟨a.toNat, by omega⟩
    have h2 : n ≤ 199 := by omega
    obtain ⟨t, ht⟩ := at_lt (show n < Tr.allL.length by rw [Tr.allL_len]; omega)
    have G := Lib.hid (treeAtA_yes ht h2)
    have HT := Lib.hid ht
    have HN := Lib.hid (all_len ht)
    clear h ha ht
    go_enter Try.func34, Try.ntmps34
    go_wp2_with fail
    refine (allTrees_any _).mono ?_
    rintro e w1 ⟨A1, c1, vs1, rfl, own1, bel1⟩
    obtain ⟨g1, rfl⟩ := own_addr own1.outer.1 (by omega)
    obtain ⟨Ai, ci, hvi, hoi⟩ := own1.inner n t HT.out
    have hc := own1.outer.1.cellAt n (by omega)
    rw [hvi] at hc
    have GO : Hid (w1.ownsRow w.heap.size 2 1 (.slice Ai t.length ci) t.length (ints t)) := hoi.1
    have GB := Lib.hid bel1
    clear own1 bel1 hvi hoi
    go_wp2
    go_ret2
    exact ResL.of G.out rfl (by have := HN.out; omega) GO.out GB.out
  · have G := Lib.hid (treeAtA_no h)
    by_cases h1 : a < 0
    · clear h
      go_enter Try.func34, Try.ntmps34
      go_wp2
      go_ret2
      exact ResL.nil G.out (Below.refl _ _)
    · have h8 : 200 ≤ a := by omega
      clear h
      go_enter Try.func34, Try.ntmps34
      go_wp2
      go_ret2
      exact ResL.nil G.out (Below.refl _ _)
end Go.Proofs.Ytjmjdcfgbaepkaa
/-
  The model's list of all trees with n nodes, plainly.
-/
namespace Go.Proofs.Ytjmjdcfgbaepkaa
set_option maxRecDepth 100000

theorem grow_trees {n : Nat} (h1 : 1 ≤ n) (h8 : n ≤ 8) : Tr.growF (n - 1) [0] [] = Tr.treesL n := by
  have h := List.all_eq_true.1 Tr.grow_eq (n - 1) (by rw [List.mem_range]; omega)
  rw [show n - 1 + 1 = n from by omega] at h
  exact eq_of_beq h
end Go.Proofs.Ytjmjdcfgbaepkaa
/-
  What IndexOf answers, the program's and the model's.
-/
namespace Go.Proofs.Ytjmjdcfgbaepkaa
open Go.RowKit Fld
set_option linter.unusedVariables false
set_option linter.unusedSimpArgs false
set_option maxRecDepth 100000

def indexA (t : List Int) : Int × Int := if Tr.isLv t = true then (Tr.idxL (Tr.can t) Tr.allL 0, 0) else (0, 1)
theorem indexA_yes {t : List Int} (h : Tr.isLv t = true) : indexA t = (Tr.idxL (Tr.can t) Tr.allL 0, 0) := if_pos h
theorem indexA_no {t : List Int} (h : Tr.isLv t = false) : indexA t = (0, 1) := if_neg (by rw [h]; simp)
theorem isSame_any (A Au : Option Addr) (n c nu cu B Bu bb : Nat) (xs u : List Int) (w : World) (hl : xs.length = n) (hn : n ≤ 1048576) (hu : u.length = nu) (hnu : nu ≤ 1048576) (h : Row w B A (ints xs)) (h' : Row w Bu Au (ints u)) (hc : w.cell? ⟨bb, 0, none⟩ = some (.slice Au nu cu)) :
    Calls Try.prog 85 #[.slice A n c, .pointer (some ⟨bb, 0, none⟩)] w fun e w' => e = .returned (.bool (eqL xs u)) ∧ ∃ m, w' = w.drewN m := by
  go_enter Try.func85, Try.ntmps85
  go_wp2_with fail
  refine (slicesEqual_any A Au n nu c cu B Bu xs u _ hl hu (by omega) (by omega) h h').mono ?_
  rintro e w' ⟨rfl, m, rfl⟩
  go_wp2
  go_ret
  exact ⟨rfl, m, rfl⟩
set_option maxHeartbeats 1000000 in
theorem indexFunc_any (A Au : Option Addr) (n c nu cu B Bu bb : Nat) (m : List (List Int)) (u : List Int) (w : World) (hl : m.length = n) (hn : n ≤ 1048576) (hr : ∀ r ∈ m, r.length ≤ 1048576) (hu : u.length = nu) (hnu : nu ≤ 1048576) (h : Mat w B A m) (h' : Row w Bu Au (ints u)) (hc : w.cell? ⟨bb, 0, none⟩ = some (.slice Au nu cu)) :
    Calls Try.prog 86 #[.slice A n c, .func (.func 85) #[] #[.pointer (some ⟨bb, 0, none⟩)]] w fun e w' => e = .returned (.int .i64 (Tr.idxL u m 0)) ∧ ∃ k, w' = w.drewN k := by
  have HL := Lib.hid hl
  have HR := Lib.hid hr
  clear hl hr
  go_enter Try.func86, Try.ntmps86
  go_wp2_with fail
  go_loopw [8] (fun i wr => ∃ k d : Nat, k ≤ n ∧ i = .int .i64 k ∧ wr = w.drewN d ∧ Hid (Tr.idxL u m 0 = Tr.idxL u (m.drop k) k)) (fun i _ => n - (intOf i).toNat)
  case atStart => exact ⟨0, 0, Nat.zero_le _, rfl, rfl, rfl⟩
  case round =>
    obtain ⟨k, d, hk, rfl, rfl, HI⟩ := hrel
    by_cases hlt : k < n
    · obtain ⟨r, hr⟩ := at_lt (show k < m.length by rw [HL.out]; exact hlt)
      obtain ⟨b, o, Ak, ck, rfl, _, hca, _, _, hrow⟩ := (Mat.drewN h d) k r hr
      have HRL : Hid (r.length ≤ 1048576) := HR.out r (List.mem_of_getElem? hr)
      obtain ⟨N1, N2⟩ := Tr.idx_next HI.out hr
      have C1 := isSame_any Ak Au r.length ck nu cu B Bu bb r u (w.drewN d) rfl HRL.out hu hnu hrow (h'.drewN d) hc
      clear hr HI hrow
      by_cases hru : r = u
      · have G := Lib.hid (N1 hru)
        rw [hru, eqL_self, ← hru] at C1
        clear N1 N2 hru
        go_wp2_with (go_at_call 85; refine C1.mono ?_; rintro e w' ⟨rfl, d2, rfl⟩)
        go_ret
        exact ⟨by rw [G.out]; rfl, _, rfl⟩
      · have G := Lib.hid (N2 hru)
        have e : eqL r u = false := by unfold eqL; exact decide_eq_false hru
        rw [e] at C1
        clear N1 N2 hru e
        go_wp2_with (go_at_call 85; refine C1.mono ?_; rintro e w' ⟨rfl, d2, rfl⟩)
        go_roundw
        case rel => exact ⟨k + 1, _, by omega, by go_num, rfl, G⟩
        case measure => simp [intOf]; omega
    · have G := Lib.hid (Tr.idx_end HI.out (by rw [HL.out]; omega))
      clear HI
      go_wp2
      go_ret
      exact ⟨by rw [G.out]; rfl, _, rfl⟩
theorem can_mem {t : List Int} (h : Tr.isLv t = true) : Tr.can t ∈ Tr.treesL t.length := by
  obtain ⟨h1, h2⟩ := lv_can h
  have h3 := Tr.isLv_iff.1 h1
  have h4 := Tr.isLv_iff.1 h
  have p1 := h4.1
  rw [← grow_trees h4.1 h4.2.1]
  refine Tr.grow_all (t.length - 1) [0] [] (Tr.can t) (by simp) h3 (by show (Tr.can t).length = 1 + (t.length - 1); omega) ?_ (Tr.can_can h).1
  obtain ⟨x, hx⟩ := at_lt (show 0 < (Tr.can t).length by omega)
  have e := h3.2.2.1
  rw [lv_at hx] at e
  subst e
  show (Tr.can t).take 1 = [0]
  rw [List.take_add_one, hx]; rfl
theorem idx_to {t : List Int} (h : Tr.isLv t = true) : Tr.idxL (Tr.can t) Tr.allL 0 = Tr.idxL (Tr.can t) (treesTo t.length) 0 := by
  have h4 := Tr.isLv_iff.1 h
  obtain ⟨rest, hr⟩ := all_split t.length h4.2.1
  rw [hr]
  refine Tr.idx_append rest 0 ?_
  have hm := can_mem h
  obtain ⟨k, hk⟩ : ∃ k, t.length = k + 1 := ⟨t.length - 1, by have := h4.1; omega⟩
  rw [hk] at hm ⊢
  rw [treesTo_step, List.mem_append]
  exact .inr hm
set_option maxHeartbeats 1000000 in
theorem pIndexOf_L (A : Option Addr) (n c B : Nat) (t : List Int) (w : World) (hl : t.length = n) (hn : n ≤ 1048576) (hB : B ≤ w.heap.size) (h : Row w B A (ints t)) (hc : n ≤ c) :
    Calls Try.prog 33 #[.slice A n c] w (ResI (indexA t) w) := by
  have C0 := isLevels_any A n c B t w hl (by omega) h
  cases hlv : Tr.isLv t
  · have G := Lib.hid (indexA_no hlv)
    rw [hlv] at C0
    go_enter Try.func33, Try.ntmps33
    go_wp2_with fail
    refine C0.mono ?_
    rintro e w' ⟨rfl, m, rfl⟩
    go_wp2
    go_ret2
    exact ResI.of' G.out (below_drewN (Below.refl _ _) _)
  · have G := Lib.hid (indexA_yes hlv)
    rw [hlv] at C0
    obtain ⟨b1, b8⟩ := lv_bd hlv
    rw [hl] at b1 b8
    have HL := Lib.hid hl
    have HLV := Lib.hid hlv
    have HE : Hid ((Tr.can t).length = n) := by rw [Hid, (lv_can hlv).2, hl]
    clear hl hlv
    go_enter Try.func33, Try.ntmps33
    go_wp2_with fail
    refine C0.mono ?_
    rintro e w' ⟨rfl, m, rfl⟩
    go_wp2_with fail
    refine (treeOf_any A n c B t _ HL.out b1 b8 hc (by exact hB) (h.drewN m)).mono ?_
    rintro e w2 ⟨rfl, bel2⟩
    go_wp2_with fail
    refine (levelsOf_any t _ HLV.out).mono ?_
    rintro e w3 ⟨A3, c3, rfl, own3, bel3⟩
    rw [HL.out] at own3 ⊢
    have hs2 : w.heap.size ≤ w2.heap.size := bel2.size
    have HB3 : Hid (Below w.heap.size w w3) := (below_undrew' bel2).trans (bel3.mono hs2)
    have HO3 : Hid (Row w3 w3.heap.size A3 (ints (Tr.can t))) := row_of_own own3
    have hs3 : w2.heap.size ≤ w3.heap.size := bel3.size
    clear own3 bel2 bel3
    go_wp2_with fail
    refine (allTrees_any _).mono ?_
    rintro e w5 ⟨A5, c5, vs5, rfl, own5, bel5⟩
    have hal : Below w3.heap.size w3 (w3.alloc (.cells #[.slice A3 n c3] 24)) := (Below.refl _ _).alloc (Nat.le_refl _) _
    have hs5 : w3.heap.size + 1 ≤ w5.heap.size := by have := bel5.size; simp at this; exact this
    have B5 : Hid (Below w3.heap.size w3 w5) := hal.trans (bel5.mono (by simp))
    have HB5 : Hid (Below w.heap.size w w5) := HB3.out.trans (B5.out.mono (by omega))
    have HU5 : Hid (Row w5 w3.heap.size A3 (ints (Tr.can t))) := Row.below HO3.out B5.out (Nat.le_refl _)
    have HC5 : Hid (w5.cell? ⟨w3.heap.size, 0, none⟩ = some (.slice A3 n c3)) := by
      rw [Hid, bel5.cell (p := ⟨w3.heap.size, 0, none⟩) (by simp)]
      rw [World.cell?_alloc_at (hn := by simp)]
      rfl
    have HM5 : Hid (Mat w5 w5.heap.size A5 Tr.allL) := own5.mat
    clear own5 bel5 hal
    go_wp2_with fail
    refine (indexFunc_any A5 A3 200 c5 n c3 w5.heap.size w3.heap.size w3.heap.size Tr.allL (Tr.can t) _ Tr.allL_len (by omega) (fun r hr => by
      obtain ⟨k, hk⟩ := List.mem_iff_getElem?.1 hr
      have := all_len hk; omega) HE.out (by omega) HM5.out HU5.out HC5.out).mono ?_
    rintro e w6 ⟨rfl, m6, rfl⟩
    go_wp2
    go_ret2
    exact ResI.of' G.out (below_drewN HB5.out _)
end Go.Proofs.Ytjmjdcfgbaepkaa
/-
  The model's texts at all level lists, gone through.
-/
namespace Go.Proofs.Ytjmjdcfgbaepkaa.Tr
set_option maxRecDepth 100000

def mt (t : List Int) : List UInt8 := textL 8 t
def chk7 (t : List Int) : Bool := decide (mt t = wrap ((partsL t).map mt)) && decide (mt (can t) = txt t) && decide ((mt t).length = 2 * t.length)
theorem chk7_all : allLv.all chk7 = true := by decide +kernel
theorem mt_parts {t : List Int} (h : isLv t = true) : mt t = wrap ((partsL t).map mt) ∧ mt (can t) = txt t ∧ (mt t).length = 2 * t.length := by
  have h1 := all_of chk7_all (isLv_iff.1 h)
  unfold chk7 at h1
  simp only [Bool.and_eq_true, decide_eq_true_eq] at h1
  exact ⟨h1.1.1, h1.1.2, h1.2⟩
end Go.Proofs.Ytjmjdcfgbaepkaa.Tr
/-
  The model's text of a tree; what TreeText answers, the program's and the model's.
-/
namespace Go.Proofs.Ytjmjdcfgbaepkaa
open Go.RowKit Fld
set_option linter.unusedVariables false
set_option linter.unusedSimpArgs false
set_option maxRecDepth 100000

/-- a text beside a code -/
def ResS (r : List UInt8 × Int) (w : World) (e : Ending) (w' : World) : Prop := e = .returned (.tuple #[.string ⟨r.1.toArray⟩, .int .i64 r.2]) ∧ Below w.heap.size w w'
def SText (d : Nat) : Prop := ∀ (A : Option Addr) (n c B : Nat) (t : List Int) (w : World), t.length = n → n ≤ d → Tr.isLv t = true → B ≤ w.heap.size → Row w B A (ints t) →
    Calls Try.prog 135 #[.slice A n c] w fun e w' => e = .returned (.string ⟨(Tr.mt t).toArray⟩) ∧ Below w.heap.size w w'
set_option maxHeartbeats 1000000 in
theorem sText_succ (d : Nat) (IH : SText d) : SText (d + 1) := by
  intro A n c B t w hl hnd hlv hB h
  obtain ⟨_, PS, P7⟩ := Tr.can_parts hlv
  obtain ⟨M1, _, M2⟩ := Tr.mt_parts hlv
  have n8 : n ≤ 8 := by have := (Tr.isLv_iff.1 hlv).2.1; omega
  have HPS := Lib.hid PS
  have HL := Lib.hid hl
  have HM1 := Lib.hid M1
  have hmt : (Tr.mt t).length ≤ 16 := by omega
  have HMT := Lib.hid hmt
  obtain ⟨P, hP⟩ : ∃ P, P = (Tr.partsL t).length := ⟨_, rfl⟩
  have HP : Hid ((Tr.partsL t).length = P) := hP.symm
  have C0 := l03Parts_any A n c B t w hl hlv hB h
  rw [HP.out] at C0
  have hP7 : P ≤ 7 := by rw [hP]; exact P7
  clear hl hlv PS P7 hP M1 M2 hmt
  go_enter Try.func135, Try.ntmps135
  go_wp2_with fail
  refine C0.mono ?_
  rintro e w1 ⟨Ap, cp, pvs, rfl, ownp, belp⟩
  have HMP : Hid (Mat w1 w1.heap.size Ap (Tr.partsL t)) := ownp.mat
  have HB1 := Lib.hid belp
  have hs1 := belp.size
  clear ownp belp C0
  go_wp2_with fail
  go_loopw [3, 5] (fun v i wr => ∃ (k : Nat) (T : List UInt8), k ≤ P ∧ v = .string ⟨T.toArray⟩ ∧ i = .int .i64 k ∧ Hid (T = 91 :: (((Tr.partsL t).take k).map Tr.mt).flatten) ∧ Below w1.heap.size w1 wr) (fun _ i _ => P - (intOf i).toNat)
  case atStart => exact ⟨0, [91], Nat.zero_le _, rfl, rfl, rfl, Below.refl _ _⟩
  case round =>
    obtain ⟨k, T, hk, rfl, rfl, HT, HB⟩ := hrel
    have hsz := HB.size
    by_cases hlt : k < P
    · obtain ⟨p, hp⟩ := at_lt (show k < (Tr.partsL t).length by rw [HP.out]; exact hlt)
      obtain ⟨bp, op, Ak, ck, rfl, hbp, hcp, hlc, hcm, hrp⟩ := HMP.out.below HB (Nat.le_refl _) k p hp
      obtain ⟨hpl, hpt⟩ := HPS.out p (List.mem_of_getElem? hp)
      have hpt2 : p.length ≤ d := by have := HL.out; omega
      have hpm := (Tr.mt_parts hpl).2.2
      have hp8 : p.length ≤ 8 := (Tr.isLv_iff.1 hpl).2.1
      have hT : T.length ≤ 16 := by
        have h1 := flat_le ((Tr.partsL t).map Tr.mt) k
        have h2 := HMT.out
        rw [HM1.out, Tr.wrap, List.length_cons, List.length_append] at h2
        rw [← List.map_take] at h1
        rw [HT.out, List.length_cons]; omega
      have HTN : Hid (T ++ Tr.mt p = 91 :: (((Tr.partsL t).take (k + 1)).map Tr.mt).flatten) := by
        rw [Hid, HT.out, List.take_add_one, hp]; simp
      have C1 := IH Ak p.length ck w1.heap.size p wr rfl hpt2 hpl (by omega) hrp
      obtain ⟨M, hM⟩ : ∃ M, M = Tr.mt p := ⟨_, rfl⟩
      rw [← hM] at C1 HTN hpm
      have hm16 : M.length ≤ 16 := by omega
      have HBB := Lib.hid HB
      clear hp hpt hpl hpm hM hrp HB
      go_wp2_with fail
      refine C1.mono ?_
      rintro e w2 ⟨rfl, bel2⟩
      have GB := Lib.hid (HBB.out.trans (bel2.mono hsz))
      have GE : Hid ((⟨T.toArray⟩ : ByteArray) ++ ⟨M.toArray⟩ = ⟨(T ++ M).toArray⟩) := ByteArray.mk_append_mk T M
      clear bel2 C1
      go_wp2
      go_roundw
      case rel => exact ⟨k + 1, T ++ M, by omega, by rw [GE.out], by go_num, HTN, GB.out⟩
      case measure => simp [intOf]; omega
    · obtain rfl : k = P := by omega
      have HTE : Hid (T ++ [93] = Tr.mt t) := by
        rw [Hid, HM1.out, HT.out, ← HP.out, List.take_length]; rfl
      have hT : T.length ≤ 16 := by
        have h2 := HMT.out
        rw [← HTE.out, List.length_append] at h2; simp at h2; omega
      have GE : Hid ((⟨T.toArray⟩ : ByteArray) ++ ⟨#[93]⟩ = ⟨(Tr.mt t).toArray⟩) := by
        rw [Hid, show (ByteArray.mk #[93]) = ⟨([93] : List UInt8).toArray⟩ from rfl, ByteArray.mk_append_mk, HTE.out]
      have GB := Lib.hid (HB1.out.trans (HB.mono hs1))
      clear HB
      go_wp2
      go_ret
      refine ⟨?_, GB.out⟩
      rw [← GE.out]
      rfl
theorem sText_upto : ∀ d, SText d
  | 0 => fun A n c B t w hl hd hlv => by have := (Tr.isLv_iff.1 hlv).1; omega
  | d+1 => sText_succ d (sText_upto d)
theorem l03Text_any (A : Option Addr) (n c B : Nat) (t : List Int) (w : World) (hl : t.length = n) (hlv : Tr.isLv t = true) (hB : B ≤ w.heap.size) (h : Row w B A (ints t)) :
    Calls Try.prog 135 #[.slice A n c] w fun e w' => e = .returned (.string ⟨(Tr.mt t).toArray⟩) ∧ Below w.heap.size w w' := sText_upto n A n c B t w hl (Nat.le_refl _) hlv hB h
def textA (t : List Int) : List UInt8 × Int := if Tr.isLv t = true then (Tr.txt t, 0) else ([], 1)
theorem textA_yes {t : List Int} (h : Tr.isLv t = true) : textA t = (Tr.txt t, 0) := if_pos h
theorem textA_no {t : List Int} (h : Tr.isLv t = false) : textA t = ([], 1) := if_neg (by rw [h]; simp)
theorem ResS.of {r : List UInt8 × Int} {w w' : World} {l : List UInt8} {k : Int} (h : r = (l, k)) (hb : Below w.heap.size w w') : ResS r w (.returned (.tuple #[.string ⟨l.toArray⟩, .int .i64 k])) w' := by
  subst h; exact ⟨rfl, hb⟩
theorem pTreeText_L (A : Option Addr) (n c B : Nat) (t : List Int) (w : World) (hl : t.length = n) (hn : n ≤ 1048576) (hB : B ≤ w.heap.size) (h : Row w B A (ints t)) (hc : n ≤ c) :
    Calls Try.prog 35 #[.slice A n c] w (ResS (textA t) w) := by
  have C0 := isLevels_any A n c B t w hl (by omega) h
  cases hlv : Tr.isLv t
  · have G := Lib.hid (textA_no hlv)
    rw [hlv] at C0
    go_enter Try.func35, Try.ntmps35
    go_wp2_with fail
    refine C0.mono ?_
    rintro e w' ⟨rfl, m, rfl⟩
    go_wp2
    go_ret2
    exact ResS.of G.out (below_drewN (Below.refl _ _) _)
  · rw [hlv] at C0
    obtain ⟨b1, b8⟩ := lv_bd hlv
    rw [hl] at b1 b8
    have HL := Lib.hid hl
    have G := Lib.hid (textA_yes hlv)
    clear hl hlv
    go_enter Try.func35, Try.ntmps35
    go_wp2_with fail
    refine C0.mono ?_
    rintro e w' ⟨rfl, m, rfl⟩
    go_wp2_with fail
    refine (treeOf_any A n c B t _ HL.out b1 b8 hc (by exact hB) (h.drewN m)).mono ?_
    rintro e w2 ⟨rfl, bel2⟩
    have GB : Hid (Below w.heap.size w w2) := below_undrew' bel2
    clear bel2
    go_wp2
    go_ret2
    exact ResS.of G.out GB.out
end Go.Proofs.Ytjmjdcfgbaepkaa
/-
  The model's parser of brackets.
-/
namespace Go.Proofs.Ytjmjdcfgbaepkaa
open Go.RowKit Fld
set_option linter.unusedVariables false
set_option linter.unusedSimpArgs false
set_option maxRecDepth 100000

theorem add_rows {m : List (List Int)} {x : Int} {b : Nat} (h : ∀ r ∈ m, r.length ≤ b) : ∀ r ∈ Tr.addNode m x, r.length ≤ b + 1 := by
  intro r hr
  unfold Tr.addNode at hr
  simp only at hr
  rcases List.mem_or_eq_of_mem_set hr with hr | hr
  · split at hr
    · rw [List.mem_append, List.mem_singleton] at hr
      rcases hr with hr | rfl
      · have := h r hr; omega
      · simp
    · have := h r hr; omega
  · rw [hr, List.length_append, List.length_singleton]
    have key : ∀ (o : List (List Int)) (i : Nat), (∀ r ∈ o, r.length ≤ b) → (o.getD i []).length ≤ b := fun o i ho => by
      rw [List.getD_eq_getElem?_getD]
      cases hh : o[i]? with
      | none => simp
      | some y => exact ho y (List.mem_of_getElem? hh)
    have := key (if x = 1 then m ++ [[]] else m) ((if x = 1 then m ++ [[]] else m).length - 1) (fun r hr => by
      split at hr
      · rw [List.mem_append, List.mem_singleton] at hr
        rcases hr with hr | rfl
        · exact h r hr
        · simp
      · exact h r hr)
    omega
set_option maxHeartbeats 2000000 in
theorem l03Read_any (s : List UInt8) (w : World) (hn : s.length ≤ 1048576) :
    Calls Try.prog 101 #[.string ⟨s.toArray⟩] w fun e w' => ∃ A q c vs, e = .returned (.tuple #[.slice A q c, .bool (Tr.rdL [] 0 s).2]) ∧ OwnMat w' w.heap.size w'.heap.size (.slice A q c) q (Tr.rdL [] 0 s).1 vs ∧ Below w.heap.size w w' := by
  obtain ⟨i0, hi, hz0, hz1, hz2⟩ := info_parts info_i64
  obtain ⟨j0, hj, hy0, hy1, hy2⟩ := info_parts info_row
  have HN := Lib.hid hn
  obtain ⟨S, hS⟩ : ∃ S : ByteArray, S = ⟨s.toArray⟩ := ⟨_, rfl⟩
  have HSZ : Hid (S.size = s.length) := by rw [Hid, hS]; exact size_S s
  have HS := Lib.hid hS
  rw [← hS]
  have hs20 : S.size ≤ 1048576 := by rw [HSZ.out]; exact hn
  clear hS hn
  go_enter Try.func101, Try.ntmps101
  go_wp2_with fail
  go_loopw [4, 5, 6] (fun v l i wr => ∃ (p o q g cap : Nat) (m : List (List Int)), p ≤ S.size ∧ o ≤ p ∧ q ≤ p ∧ (0 < o → 1 ≤ q) ∧ v = .slice (some ⟨g, 0, none⟩) q cap ∧ l = .int .i64 o ∧ i = .int .i64 p ∧ Hid (Tr.rdL [] 0 s = Tr.rdL m o (s.drop p)) ∧ Hid (m.length = q) ∧ Hid (∀ r ∈ m, r.length ≤ p) ∧ GrowM w g q cap m wr) (fun _ _ i _ => S.size - (intOf i).toNat)
  case atStart => exact ⟨0, 0, 0, _, 0, [], Nat.zero_le _, Nat.le_refl _, Nat.le_refl _, by omega, rfl, rfl, rfl, rfl, rfl, fun r hr => (by cases hr), GrowM.start ..⟩
  case round =>
    obtain ⟨p, o, q, g, cap, m, hp, hop, hqp, hoq, rfl, rfl, rfl, HE, HQ, HRB, vs, HM, HBel⟩ := hrel
    have hsz := HBel.size
    by_cases hlt : p < S.size
    · obtain ⟨c, hc⟩ := at_lt (show p < s.length by rw [← HSZ.out]; exact hlt)
      have hbyte : S[p]'hlt = c := by
        have hS := HS.out
        subst hS
        exact byte_at hc hlt
      by_cases h91 : c = 91
      · subst h91
        have t91 : ((S[p]'hlt).toNat : Int) = 91 := by rw [hbyte]; rfl
        have tb91 := beq_t t91
        have HE2 : Hid (Tr.rdL [] 0 s = Tr.rdL (Tr.addNode m ((o : Int) + 1)) (o + 1) (s.drop (p + 1))) := by rw [Hid, HE.out, Tr.rd_open hc]
        have HRB2 : Hid (∀ r ∈ Tr.addNode m ((o : Int) + 1), r.length ≤ p + 1) := add_rows HRB.out
        clear hc hbyte HE
        by_cases ho : o = 0
        · subst ho
          have HM' := Lib.hid HM
          have HBel' := Lib.hid HBel
          have hown1 := (HM.below ((Below.refl wr.heap.size wr).alloc (Nat.le_refl _) (.cells #[] 2)) (Nat.le_refl _)).outer.1
          have HOWN1 := Lib.hid hown1
          clear HM HBel
          have hvv : (vs ++ [Value.slice (some ⟨wr.heap.size, 0, none⟩) 0 0])[q]? = some (.slice (some ⟨wr.heap.size, 0, none⟩) 0 0) := by
            have e : vs.length = q := by rw [HM'.out.len]; exact HQ.out
            rw [List.getElem?_append_right (by omega), e, Nat.sub_self]; rfl
          have HVV := Lib.hid hvv
          have HRR : Hid ((m ++ [[]])[q]? = some []) := by
            have e := HQ.out
            rw [Hid, List.getElem?_append_right (by omega), e, Nat.sub_self]; rfl
          have HRL : Hid (([] : List Int).length = 0) := rfl
          have HSET : Hid ((m ++ [[]]).set q ([] ++ [0]) = Tr.addNode m (((0 : Nat) : Int) + 1)) := by
            rw [Hid, show (((0 : Nat) : Int) + 1) = 1 from rfl, add_new, HQ.out]; rfl
          have HLEN : Hid ((Tr.addNode m (((0 : Nat) : Int) + 1)).length = q + 1) := by rw [Hid, show (((0 : Nat) : Int) + 1) = 1 from rfl, add_length, if_pos rfl, HQ.out]
          clear hvv
          have PRE : Hid (∀ (g4 cap4 : Nat) (w4 : World), w4.ownsRow w.heap.size 24 1 (.slice (some ⟨g4, 0, none⟩) (q + 1) cap4) (q + 1) (vs ++ [.slice (some ⟨wr.heap.size, 0, none⟩) 0 0]) → ((wr.alloc (.cells #[] 2)).alloc (.cells #[.slice (some ⟨wr.heap.size, 0, none⟩) 0 0] 24)).grownBy w4 (Value.ownBlock (.slice (some ⟨g, 0, none⟩) q cap)) →
              OwnMat w4 w.heap.size w4.heap.size (.slice (some ⟨g4, 0, none⟩) (q + 1) cap4) (q + 1) (m ++ [[]]) (vs ++ [.slice (some ⟨wr.heap.size, 0, none⟩) 0 0]) ∧ Below w.heap.size w w4 ∧ w.heap.size ≤ w4.heap.size ∧ w4.cell? ⟨g4, q, none⟩ = some (.slice (some ⟨wr.heap.size, 0, none⟩) 0 0) ∧ w4.frozen? ⟨g4, q, none⟩ = false ∧ w4.ownsRow w.heap.size 2 1 (.slice (some ⟨wr.heap.size, 0, none⟩) 0 0) 0 (ints [])) := fun g4 cap4 w4 hown4 hgrow4 => by
            have HM1 : OwnMat w4 w.heap.size w4.heap.size (.slice (some ⟨g4, 0, none⟩) (q + 1) cap4) (q + 1) (m ++ [[]]) (vs ++ [.slice (some ⟨wr.heap.size, 0, none⟩) 0 0]) :=
              (HM'.out.below ((Below.refl wr.heap.size wr).alloc (Nat.le_refl _) (.cells #[] 2)) (Nat.le_refl _)).push (row := []) (by simp) rfl (World.ownsRow_lit wr #[] 0 (Nat.le_refl _) (Nat.zero_le _) rfl) hsz hown4 hgrow4
            have hwW : w.heap.size ≤ w4.heap.size := by have := hgrow4.size; simp at this; omega
            have HBW : Below w.heap.size w w4 := ((HBel'.out.alloc hsz _).alloc (by simp; omega) _).grown hgrow4 (by simp; omega) (fun p hp => (HOWN1.out.lt p hp).1)
            have hcell := HM1.outer.1.cellAt q (by omega)
            rw [HVV.out] at hcell
            have hfr := HM1.outer.1.frozenAt q
            obtain ⟨A9, c9, e9, o9⟩ := HM1.inner q [] HRR.out
            rw [HVV.out] at e9
            injection e9 with e9
            have o10 := o9.1
            rw [← e9] at o10
            exact ⟨HM1, HBW, hwW, hcell, hfr, o10⟩
          have POST : Hid (∀ (g4 cap4 : Nat) (w4 : World), OwnMat w4 w.heap.size w4.heap.size (.slice (some ⟨g4, 0, none⟩) (q + 1) cap4) (q + 1) (m ++ [[]]) (vs ++ [.slice (some ⟨wr.heap.size, 0, none⟩) 0 0]) → Below w.heap.size w w4 → ∀ (o : Obj) (W2 : World) (g5 cap5 : Nat), W2.ownsRow w.heap.size 2 1 (.slice (some ⟨g5, 0, none⟩) (0 + 1) cap5) (0 + 1) (ints [] ++ [.int .i64 0]) → (w4.alloc o).grownBy W2 (Value.ownBlock (.slice (some ⟨wr.heap.size, 0, none⟩) 0 0)) → (Value.ownBlock (.slice (some ⟨wr.heap.size, 0, none⟩) 0 0) = some g5 ∨ g5 = w4.heap.size + 1) → g5 < W2.heap.size →
              W2.cell? ⟨g4, q, none⟩ = some (.slice (some ⟨wr.heap.size, 0, none⟩) 0 0) ∧ W2.frozen? ⟨g4, q, none⟩ = false ∧ GrowM w g4 (q + 1) cap4 (Tr.addNode m (((0 : Nat) : Int) + 1)) (W2.setCell ⟨g4, q, none⟩ (.slice (some ⟨g5, 0, none⟩) (0 + 1) cap5))) := fun g4 cap4 w4 HM2 HBW o W2 g5 cap5 hown5 hgrow5 hat5 hlt5 => by
            obtain ⟨A9, c9, e9, o9⟩ := HM2.inner q [] HRR.out
            rw [HVV.out] at e9
            injection e9 with e9
            have h1 : OwnR W2 w.heap.size w4.heap.size 24 (.slice (some ⟨g4, 0, none⟩) (q + 1) cap4) (q + 1) (vs ++ [Value.slice (some ⟨wr.heap.size, 0, none⟩) 0 0]) :=
              OwnR.grown (w := w4.alloc o) (HM2.outer.below ((Below.refl _ _).alloc (Nat.le_refl _) _) (Nat.le_refl _)) hgrow5 (own_types HM2.outer.1 (by rw [e9]; exact o9.1) (by decide))
            have h2 := h1.1.cellAt q (by omega)
            rw [HVV.out] at h2
            have o10 := o9.1
            rw [← e9] at o10
            have e1 : ints [] ++ [.int .i64 0] = ints ([] ++ [0]) := by simp [ints, intsK]
            rw [e1] at hown5
            have h3 := OwnMat.app_row (w := w4) HM2 (Nat.le_refl _) HRR.out HVV.out HRL.out hown5 hgrow5 hat5 hlt5
            rw [HSET.out] at h3
            refine ⟨h2, h1.1.frozenAt q, _, by rw [show ∀ (p : Addr) (v : Value), (W2.setCell p v).heap.size = W2.heap.size from fun p v => by simp [World.setCell]]; exact h3, ?_⟩
            refine below_set ((HBW.alloc HBW.size _).grown hgrow5 (by have := HBW.size; simp; omega) (fun q hq => (o10.lt q hq).1)) ?_ _
            exact (HM2.outer.1.lt g4 rfl).1
          have s0 : (0 : Int) ≤ (q : Int) := by omega
          have s1 : (q : Int) < (q : Int) + 1 := by omega
          go_wp2_with (first
            | (at_builtin; refine wpList_append_lies _ rfl (.tmp 22) (.tmp 24) 44 rfl w.heap.size 24 j0 _ 1 24 Try.underlying44 hj hy0 hy1 hy2 rfl (by omega) (.slice (some ⟨g, 0, none⟩) q cap) q vs rfl (hown1.alloc _) ⟨wr.heap.size + 1, 0, none⟩ 1 1 [.slice (some ⟨wr.heap.size, 0, none⟩) 0 0] rfl rfl (by have := World.news_of_block (w := (wr.alloc (.cells #[] 2)).alloc (.cells #[.slice (some ⟨wr.heap.size, 0, none⟩) 0 0] 24)) (cs := #[.slice (some ⟨wr.heap.size, 0, none⟩) 0 0]) (heap_alloc_new _ _); simpa using this) (by simp [Value.oneCell']) (by omega) (by simp only [maxLen]; omega) (by omega) (by simp; omega) (wr.heap.size + 2) (by simp) ?_; intro g4 cap4 w4 hown4 hgrow4 hat4 hlt4; obtain ⟨p1, p2, hwW, hcell, hfr, hrow2⟩ := PRE.out g4 cap4 w4 hown4 hgrow4; have HM2 := Lib.hid p1; have HBW := Lib.hid p2; clear hown4 hgrow4 hat4 hown1 p1 p2)
            | (at_builtin; refine wpList_append_lies _ rfl (.tmp 34) (.tmp 36) 24 rfl w.heap.size 2 i0 _ 1 8 Try.underlying24 hi hz0 hz1 hz2 rfl (by omega) (.slice (some ⟨wr.heap.size, 0, none⟩) 0 0) 0 (ints []) rfl (hrow2.alloc _) ⟨w4.heap.size, 0, none⟩ 1 1 [.int .i64 0] rfl rfl (World.news_of_block (cs := #[.int .i64 0]) (heap_alloc_new _ _)) (by simp [Value.oneCell']) (by omega) (by simp only [maxLen]; omega) (by omega) (by simp; omega) (w4.heap.size + 1) (by simp) ?_; intro g5 cap5 w5 hown5 hgrow5 hat5 hlt5; obtain ⟨hc5, hf5, hG⟩ := POST.out _ _ _ HM2.out HBW.out _ _ _ _ hown5 hgrow5 hat5 hlt5; have G := Lib.hid hG; clear hown5 hgrow5 hat5 hG hrow2 hcell hfr))
          clear hc5 hf5
          try go_wp2
          go_roundw
          case rel => exact ⟨p + 1, 0 + 1, q + 1, g4, cap4, _, by omega, by omega, by omega, by omega, rfl, by go_num, by go_num, HE2, HLEN, HRB2, G.out⟩
          case measure => simp [intOf]; omega
        · obtain ⟨z, rfl⟩ : ∃ z, q = z + 1 := ⟨q - 1, by have := hoq (by omega); omega⟩
          have to := beq_f (show ¬ (o : Int) = 0 by omega)
          have hmp : z < m.length := by rw [HQ.out]; omega
          obtain ⟨r, hr⟩ := at_lt hmp
          obtain ⟨Ar, cr, hvv, hor⟩ := HM.inner z r hr
          have HM1 := HM
          have hwW := hsz
          have HBW := Lib.hid HBel
          have HRR := Lib.hid hr
          obtain ⟨rl, hrl⟩ : ∃ rl, rl = r.length := ⟨_, rfl⟩
          have HRL : Hid (r.length = rl) := hrl.symm
          rw [← hrl] at hvv
          have hrl8 : rl ≤ 1048576 := by
            have := HRB.out r (List.mem_of_getElem? hr)
            omega
          have HSET : Hid (m.set z (r ++ [(o : Int)]) = Tr.addNode m ((o : Int) + 1)) := by
            have e := HQ.out
            have hx1 : ¬ ((o : Int) + 1 = 1) := by omega
            rw [Hid, add_last hx1 (r := r) (by rw [e]; exact hr), e, show (o : Int) + 1 - 1 = (o : Int) from by omega]; rfl
          have HLEN : Hid ((Tr.addNode m ((o : Int) + 1)).length = z + 1) := by rw [Hid, add_length, if_neg (by omega), HQ.out]
          clear HM HBel hr hor hrl hmp
          have HM2 := Lib.hid HM1
          have hcell := HM1.outer.1.cellAt z (by omega)
          rw [hvv] at hcell
          have hfr := HM1.outer.1.frozenAt z
          have HKO : Hid (∀ (o : Obj) (W2 : World), (wr.alloc o).grownBy W2 (Value.ownBlock (.slice Ar rl cr)) → W2.cell? ⟨g, z, none⟩ = some (.slice Ar rl cr) ∧ W2.frozen? ⟨g, z, none⟩ = false) := fun o W2 hg => by
            have h1 : OwnR W2 w.heap.size wr.heap.size 24 (.slice (some ⟨g, 0, none⟩) (z + 1) cap) (z + 1) vs := by
              refine OwnR.grown (w := wr.alloc o) ((HM2.out.outer.keep (w' := wr) fun _ _ _ => rfl).below ((Below.refl _ _).alloc (Nat.le_refl _) _) (Nat.le_refl _)) hg ?_
              obtain ⟨A9, c9, e9, o9⟩ := HM2.out.inner z r HRR.out
              rw [hvv] at e9
              injection e9 with e9
              exact own_types HM2.out.outer.1 (by rw [e9]; exact o9.1) (by decide)
            have h2 := h1.1.cellAt z (by omega)
            rw [hvv] at h2
            exact ⟨h2, h1.1.frozenAt z⟩
          have hrow : wr.ownsRow w.heap.size 2 1 (.slice Ar rl cr) rl (ints r) := by
            obtain ⟨A9, c9, e9, o9⟩ := HM2.out.inner z r HRR.out
            rw [hvv] at e9
            injection e9 with e9
            have o10 := (o9.keep (w' := wr) fun _ _ _ => rfl).1
            have el := HRL.out
            rw [← e9, el] at o10
            exact o10
          have HROW := Lib.hid hrow
          have HVV := Lib.hid hvv
          clear HM1 hvv hrow
          have hwd : w.heap.size ≤ wr.heap.size := hwW
          have HG : Hid (∀ (ob : Obj) (W2 : World) (g5 cap5 : Nat), W2.ownsRow w.heap.size 2 1 (.slice (some ⟨g5, 0, none⟩) (rl + 1) cap5) (rl + 1) (ints r ++ [.int .i64 o]) → (wr.alloc ob).grownBy W2 (Value.ownBlock (.slice Ar rl cr)) → (Value.ownBlock (.slice Ar rl cr) = some g5 ∨ g5 = wr.heap.size + 1) → g5 < W2.heap.size → GrowM w g (z + 1) cap (Tr.addNode m ((o : Int) + 1)) (W2.setCell ⟨g, z, none⟩ (.slice (some ⟨g5, 0, none⟩) (rl + 1) cap5))) := fun ob W2 g5 cap5 hown5 hgrow5 hat5 hlt5 => by
            have e1 : ints r ++ [.int .i64 o] = ints (r ++ [(o : Int)]) := by simp [ints, intsK]
            rw [e1] at hown5
            have h1 := OwnMat.app_row (w := wr) (HM2.out.keep (w' := wr) fun _ _ _ => rfl) (Nat.le_refl _) HRR.out HVV.out HRL.out hown5 hgrow5 hat5 hlt5
            rw [HSET.out] at h1
            refine ⟨_, by rw [show ∀ (p : Addr) (v : Value), (W2.setCell p v).heap.size = W2.heap.size from fun p v => by simp [World.setCell]]; exact h1, ?_⟩
            refine below_set ((HBW.out.alloc hwd _).grown hgrow5 (by simp; omega) (fun q hq => (HROW.out.lt q hq).1)) ?_ _
            exact (HM2.out.outer.1.lt g rfl).1
          have s0 : (0 : Int) ≤ (z : Int) := by omega
          have s1 : (z : Int) < (z : Int) + 1 := by omega
          have hcellA : ∀ o : Obj, (wr.alloc o).cell? ⟨g, z, none⟩ = some (.slice Ar rl cr) := fun o => (((Below.refl wr.heap.size wr).alloc (Nat.le_refl _) o).cell (p := ⟨g, z, none⟩) (lt_of_cell hcell)).trans hcell
          have hrow2 := HROW.out
          go_wp2_with (at_builtin; (refine wpList_append_lies _ rfl (.tmp 34) (.tmp 36) 24 rfl w.heap.size 2 i0 _ 1 8 Try.underlying24 hi hz0 hz1 hz2 rfl (by omega) (.slice Ar rl cr) rl (ints r) rfl (hrow2.alloc _) ⟨wr.heap.size, 0, none⟩ 1 1 [.int .i64 o] rfl rfl (World.news_of_block (cs := #[.int .i64 o]) (heap_alloc_new _ _)) (by simp [Value.oneCell']) (by omega) (by simp only [maxLen]; omega) (by omega) (by simp; omega) (wr.heap.size + 1) (by simp) ?_); intro g5 cap5 w5 hown5 hgrow5 hat5 hlt5; obtain ⟨hc5, hf5⟩ := HKO.out _ _ hgrow5)
          have G := Lib.hid (HG.out _ _ _ _ hown5 hgrow5 hat5 hlt5)
          clear hown5 hgrow5 hat5 hc5 hf5 hrow2
          try clear hcellA
          go_wp2
          go_roundw
          case rel => exact ⟨p + 1, o + 1, z + 1, g, cap, _, by omega, by omega, by omega, by omega, rfl, by go_num, by go_num, HE2, HLEN, HRB2, G.out⟩
          case measure => simp [intOf]; omega
      · have tb91 := beq_f (show ¬ ((S[p]'hlt).toNat : Int) = 91 by rw [hbyte]; exact fun e => h91 (UInt8.toNat_inj.1 (by simp; omega)))
        by_cases h93 : c = 93
        · subst h93
          have tb93 := beq_t (show ((S[p]'hlt).toNat : Int) = 93 by rw [hbyte]; rfl)
          have tn93 : ((S[p]'hlt).toNat : Int) = 93 := by rw [hbyte]; rfl
          by_cases ho : 0 < o
          · have HE2 : Hid (Tr.rdL [] 0 s = Tr.rdL m (o - 1) (s.drop (p + 1))) := by rw [Hid, HE.out, Tr.rd_close hc ho]
            have HRB2 : Hid (∀ r ∈ m, r.length ≤ p + 1) := fun r hr => by have := HRB.out r hr; omega
            have hoi : (0 : Int) < (o : Int) := by omega
            have HG : Hid (GrowM w g q cap m wr) := ⟨vs, HM, HBel⟩
            clear HM HBel HE hc hbyte
            go_wp2
            go_roundw
            case rel => exact ⟨p + 1, o - 1, q, g, cap, m, by omega, by omega, by omega, by omega, rfl, by go_num, by go_num, HE2, HQ, HRB2, HG.out⟩
            case measure => simp [intOf]; omega
          · have h0 : o = 0 := by omega
            subst h0
            have G : Hid (Tr.rdL [] 0 s = ([], false)) := by rw [Hid, HE.out]; exact Tr.rd_bad hc (by decide) (fun _ => rfl)
            have GB := Lib.hid HBel
            clear HM HBel HE hc hbyte
            go_wp2
            go_ret2
            exact ⟨none, 0, 0, [], by rw [G.out]; rfl, by rw [G.out]; exact ⟨⟨World.ownsRow_nil _ _ _ _, fun g e => by simp [Value.ownBlock] at e⟩, rfl, fun r row hr => by simp at hr, fun r s u t g _ hu => by simp at hu⟩, GB.out⟩
        · have tb93 := beq_f (show ¬ ((S[p]'hlt).toNat : Int) = 93 by rw [hbyte]; exact fun e => h93 (UInt8.toNat_inj.1 (by simp; omega)))
          have G : Hid (Tr.rdL [] 0 s = ([], false)) := by rw [Hid, HE.out]; exact Tr.rd_bad hc h91 (fun e => absurd e h93)
          have GB := Lib.hid HBel
          clear HM HBel HE hc hbyte h91 h93
          go_wp2
          go_ret2
          exact ⟨none, 0, 0, [], by rw [G.out]; rfl, by rw [G.out]; exact ⟨⟨World.ownsRow_nil _ _ _ _, fun g e => by simp [Value.ownBlock] at e⟩, rfl, fun r row hr => by simp at hr, fun r s u t g _ hu => by simp at hu⟩, GB.out⟩
    · have hl : s.length ≤ p := by have := HSZ.out; unfold Hid at this; omega
      have G : Hid (Tr.rdL [] 0 s = (m, o == 0)) := by
        rw [Hid, HE.out, List.drop_of_length_le hl, Tr.rdL]
      have GO := Lib.hid HM
      have GB := Lib.hid HBel
      clear HM HBel HE hl
      by_cases h0 : o = 0
      · subst h0
        go_wp2
        go_ret2
        exact ⟨_, _, _, vs, by rw [G.out]; rfl, by rw [G.out]; exact GO.out, GB.out⟩
      · have t0 := beq_f (show ¬ (o : Int) = 0 by omega)
        have t1 : (o == 0) = false := by simp [h0]
        rw [t1] at G
        clear h0 t1
        go_wp2
        go_ret2
        exact ⟨_, _, _, vs, by rw [G.out]; rfl, by rw [G.out]; exact GO.out, GB.out⟩
end Go.Proofs.Ytjmjdcfgbaepkaa
/-
  What ParseForest answers, the program's and the model's.
-/
namespace Go.Proofs.Ytjmjdcfgbaepkaa
open Go.RowKit Fld
set_option linter.unusedVariables false
set_option linter.unusedSimpArgs false
set_option maxRecDepth 100000

/-- what is read of a text -/
def parseFB (s : List UInt8) : List (List Int) × Int := if s = [45] then ([], 0) else if (Tr.rdL [] 0 s).2 = true ∧ (Tr.rdL [] 0 s).1 ≠ [] ∧ isFor (Tr.rdL [] 0 s).1 = true then ((Tr.rdL [] 0 s).1, 0) else ([], 6)
def parseFA (S : ByteArray) : List (List Int) × Int := parseFB S.data.toList
theorem parseF_dash {s : List UInt8} (h : s = [45]) : parseFB s = ([], 0) := if_pos h
theorem parseF_no {s : List UInt8} (h : s ≠ [45]) (h2 : (Tr.rdL [] 0 s).2 = false) : parseFB s = ([], 6) := by
  unfold parseFB; rw [if_neg h, if_neg (fun e => by rw [h2] at e; cases e.1)]
theorem parseF_nil {s : List UInt8} (h : s ≠ [45]) (h2 : (Tr.rdL [] 0 s).1 = []) : parseFB s = ([], 6) := by
  unfold parseFB; rw [if_neg h, if_neg (fun e => e.2.1 h2)]
theorem parseF_bad {s : List UInt8} (h : s ≠ [45]) (h2 : isFor (Tr.rdL [] 0 s).1 = false) : parseFB s = ([], 6) := by
  unfold parseFB; rw [if_neg h, if_neg (fun e => by rw [h2] at e; cases e.2.2)]
theorem parseF_yes {s : List UInt8} (h : s ≠ [45]) (h2 : (Tr.rdL [] 0 s).2 = true) (h3 : (Tr.rdL [] 0 s).1 ≠ []) (h4 : isFor (Tr.rdL [] 0 s).1 = true) : parseFB s = ((Tr.rdL [] 0 s).1, 0) := by
  unfold parseFB; rw [if_neg h, if_pos ⟨h2, h3, h4⟩]
theorem total_eq (f : List (List Int)) : total f = Tr.total' f := rfl
theorem str_of (S : ByteArray) : S = ⟨S.data.toList.toArray⟩ := by
  apply ByteArray.ext; simp
set_option maxHeartbeats 1000000 in
theorem sParseForest_L (S : ByteArray) (w : World) (hn : S.size ≤ 1048576) : Calls Try.prog 50 #[.string S] w (ResM (parseFA S) w) := by
  obtain ⟨s, hs⟩ : ∃ s, s = S.data.toList := ⟨_, rfl⟩
  have hS : S = ⟨s.toArray⟩ := by rw [hs]
  have hsl : s.length ≤ 1048576 := by rw [← size_S s, ← hS]; exact hn
  have C0 := l03Read_any s w hsl
  rw [← hS] at C0
  unfold parseFA
  rw [← hs]
  obtain ⟨R, hR⟩ : ∃ R, R = Tr.rdL [] 0 s := ⟨_, rfl⟩
  have HBD := fun h : (Tr.rdL [] 0 s).2 = true => Tr.rd_bd h
  by_cases hd : s = [45]
  · have G := Lib.hid (parseF_dash hd)
    have hr2 : (Tr.rdL [] 0 s).2 = false := by subst hd; rfl
    rw [hr2] at C0
    have hSS : S = ⟨#[45]⟩ := by rw [hS, hd]
    clear HBD hR hs hS hr2 hsl hn hd
    subst hSS
    go_enter Try.func50, Try.ntmps50
    go_wp2_with fail
    refine C0.mono ?_
    rintro e w1 ⟨A1, q1, c1, vs1, rfl, own1, bel1⟩
    have GB := Lib.hid bel1
    clear own1 bel1
    go_wp2
    go_ret2
    exact ResM.nil G.out GB.out
  · have hne : (S.toList == [45]) = false := by
      rw [ByteArray.toList_eq, ← hs]
      exact beq_eq_false_iff_ne.2 hd
    cases h2 : (Tr.rdL [] 0 s).2
    · have G := Lib.hid (parseF_no hd h2)
      rw [h2] at C0
      clear HBD hR hs hS hsl hd h2
      go_enter Try.func50, Try.ntmps50
      go_wp2_with fail
      refine C0.mono ?_
      rintro e w1 ⟨A1, q1, c1, vs1, rfl, own1, bel1⟩
      have GB := Lib.hid bel1
      clear own1 bel1
      go_wp2
      go_ret2
      exact ResM.nil G.out GB.out
    · have hbd := HBD h2
      rw [← total_eq] at hbd
      have HB0 : Hid ((Tr.rdL [] 0 s).1.length + total (Tr.rdL [] 0 s).1 ≤ 1048576) := by rw [Hid]; omega
      rw [h2] at C0
      by_cases h3 : (Tr.rdL [] 0 s).1 = []
      · have G := Lib.hid (parseF_nil hd h3)
        clear HBD hR hs hS hsl hd h2 hbd
        go_enter Try.func50, Try.ntmps50
        go_wp2_with fail
        refine C0.mono ?_
        rintro e w1 ⟨A1, q1, c1, vs1, rfl, own1, bel1⟩
        have e0 := own1.size
        rw [h3] at e0
        have e0' : q1 = 0 := e0.symm
        subst e0'
        have GB := Lib.hid bel1
        clear own1 bel1 h3 e0
        go_wp2
        go_ret2
        exact ResM.nil G.out GB.out
      · have HP := Lib.hid (show 0 < (Tr.rdL [] 0 s).1.length from List.length_pos_iff.2 h3)
        have C1 := fun A n c B w hl hn hB h => l03Forest_any A n c B (Tr.rdL [] 0 s).1 w hl hn hB h
        cases h4 : isFor (Tr.rdL [] 0 s).1
        · have G := Lib.hid (parseF_bad hd h4)
          simp only [h4] at C1
          clear HBD hR hs hS hsl hd h2 hbd h3 h4
          go_enter Try.func50, Try.ntmps50
          go_wp2_with fail
          refine C0.mono ?_
          rintro e w1 ⟨A1, q1, c1, vs1, rfl, own1, bel1⟩
          have e0 := Lib.hid own1.size
          have HQ : 0 < q1 := by have := HP.out; have := e0.out; omega
          have tq := beq_f (show ¬ (q1 : Int) = 0 by omega)
          have HM := Lib.hid own1.mat
          have hs1 := bel1.size
          have GB1 := Lib.hid bel1
          clear own1 bel1
          go_wp2_with fail
          refine (C1 _ _ _ _ _ e0.out (by have := HB0.out; have := e0.out; omega) (Nat.le_refl _) HM.out).mono ?_
          rintro e w2 ⟨rfl, bel2⟩
          have GB := Lib.hid (GB1.out.trans (bel2.mono hs1))
          clear bel2 C1
          go_wp2
          go_ret2
          exact ResM.nil G.out GB.out
        · have G := Lib.hid (parseF_yes hd h2 h3 h4)
          simp only [h4] at C1
          clear HBD hR hs hS hsl hd h2 hbd h3 h4
          go_enter Try.func50, Try.ntmps50
          go_wp2_with fail
          refine C0.mono ?_
          rintro e w1 ⟨A1, q1, c1, vs1, rfl, own1, bel1⟩
          have e0 := Lib.hid own1.size
          have HQ : 0 < q1 := by have := HP.out; have := e0.out; omega
          have tq := beq_f (show ¬ (q1 : Int) = 0 by omega)
          have HM := Lib.hid own1.mat
          have HO := Lib.hid own1
          have hs1 := bel1.size
          have GB1 := Lib.hid bel1
          clear own1 bel1
          go_wp2_with fail
          refine (C1 _ _ _ _ _ e0.out (by have := HB0.out; have := e0.out; omega) (Nat.le_refl _) HM.out).mono ?_
          rintro e w2 ⟨rfl, bel2⟩
          have GB := Lib.hid (GB1.out.trans (bel2.mono hs1))
          have GO := Lib.hid ((HO.out.below bel2 (Nat.le_refl _)).more (Nat.le_refl _) bel2.size)
          clear bel2 C1
          go_wp2
          go_ret2
          exact ResM.of G.out HB0.out GO.out GB.out
set_option maxHeartbeats 1000000 in
theorem pParseForest_L (S : ByteArray) (w : World) (hn : S.size ≤ 1048576) : Calls Try.prog 46 #[.string S] w (ResM (parseFA S) w) := by
  obtain ⟨s, hs⟩ : ∃ s, s = S.data.toList := ⟨_, rfl⟩
  have hS : S = ⟨s.toArray⟩ := by rw [hs]
  have hsl : s.length ≤ 1048576 := by rw [← size_S s, ← hS]; exact hn
  have C0 := treesIn_any s w hsl
  rw [← hS] at C0
  unfold parseFA
  rw [← hs]
  have HEQ := Lib.hid (Tr.rd_eq s)
  have hsm := Tr.tr_small s [] 0 [] s.length (by simp) (fun x hx => by cases hx) (fun c hc => by cases hc)
  have HSM : Hid (∀ x ∈ (Tr.trF [] 0 [] s).1, x.length ≤ 1048576 ∧ Brk x) := fun x hx => by
    have := hsm.1 x hx
    exact ⟨by omega, this.2⟩
  have HSN : Hid ((Tr.trF [] 0 [] s).1.length ≤ 1048576) := by
    have := hsm.2
    rw [Hid]; simp at this; omega
  clear hsm
  by_cases hd : s = [45]
  · have G := Lib.hid (parseF_dash hd)
    have hSS : S = ⟨#[45]⟩ := by rw [hS, hd]
    clear hs hS hsl hn hd C0 HSM HSN HEQ
    subst hSS
    go_enter Try.func46, Try.ntmps46
    go_wp2
    go_ret2
    exact ResM.nil G.out (Below.refl _ _)
  · have hne : (S.toList == [45]) = false := by
      rw [ByteArray.toList_eq, ← hs]
      exact beq_eq_false_iff_ne.2 hd
    have C1 := fun A n c B w hl hB h => listsOf_any A n c B (Tr.trF [] 0 [] s).1 w hl (by rw [← hl]; exact HSN.out) HSM.out hB h
    have e2 := HEQ.out.1
    cases h2 : (Tr.rdL [] 0 s).2
    · have G := Lib.hid (parseF_no hd h2)
      rw [h2] at e2
      unfold ResT at C0
      rw [← e2] at C0
      clear hs hS hsl hd h2 e2
      go_enter Try.func46, Try.ntmps46
      go_wp2_with fail
      refine C0.mono ?_
      rintro e w1 ⟨A1, q1, c1, rfl, own1, bel1⟩
      have HL1 : Hid ((Tr.trF [] 0 [] s).1.length = q1) := by rw [Hid, ← strs_length]; exact own_len own1
      have HR1 := Lib.hid (row_of_own own1)
      have hs1 := bel1.size
      have HB1 := Lib.hid bel1
      clear own1 bel1 C0
      go_wp2_with fail
      refine (C1 _ _ _ _ _ HL1.out (Nat.le_refl _) HR1.out).mono ?_
      rintro e w2 ⟨A2, c2, vs2, rfl, own2, bel2⟩
      have GB := Lib.hid (HB1.out.trans (bel2.mono hs1))
      clear own2 bel2 C1
      go_wp2
      go_ret2
      exact ResM.nil G.out GB.out
    · have hbd := Tr.rd_bd h2
      rw [← total_eq] at hbd
      have HB0 : Hid ((Tr.rdL [] 0 s).1.length + total (Tr.rdL [] 0 s).1 ≤ 1048576) := by rw [Hid]; omega
      rw [h2] at e2
      have e1 := HEQ.out.2 e2.symm
      unfold ResT at C0
      rw [← e2] at C0
      have HE1 := Lib.hid e1
      by_cases h3 : (Tr.rdL [] 0 s).1 = []
      · have G := Lib.hid (parseF_nil hd h3)
        have HN0 : Hid ((Tr.trF [] 0 [] s).1 = []) := by
          rw [h3] at e1
          exact (List.map_eq_nil_iff.1 e1.symm)
        clear hs hS hsl hd h2 e2 e1 hbd h3
        go_enter Try.func46, Try.ntmps46
        go_wp2_with fail
        refine C0.mono ?_
        rintro e w1 ⟨A1, q1, c1, rfl, own1, bel1⟩
        have hl1 : (Tr.trF [] 0 [] s).1.length = q1 := by rw [← strs_length]; exact own_len own1
        rw [HN0.out] at hl1
        have e0' : q1 = 0 := hl1.symm
        subst e0'
        have HR1 := Lib.hid (row_of_own own1)
        have hs1 := bel1.size
        have HB1 := Lib.hid bel1
        clear own1 bel1 C0 hl1
        go_wp2_with fail
        refine (C1 _ _ _ _ _ (by rw [HN0.out]; rfl) (Nat.le_refl _) HR1.out).mono ?_
        rintro e w2 ⟨A2, c2, vs2, rfl, own2, bel2⟩
        have GB := Lib.hid (HB1.out.trans (bel2.mono hs1))
        clear own2 bel2 C1
        go_wp2
        go_ret2
        exact ResM.nil G.out GB.out
      · have HP := Lib.hid (show 0 < (Tr.rdL [] 0 s).1.length from List.length_pos_iff.2 h3)
        have C2 := fun A n c B w hl hn hB h => isForest_any A n c B (Tr.rdL [] 0 s).1 w hl hn hB h
        have HLL : Hid ((Tr.rdL [] 0 s).1.length = (Tr.trF [] 0 [] s).1.length) := by rw [Hid, e1, List.length_map]
        simp only [← e1] at C1
        cases h4 : isFor (Tr.rdL [] 0 s).1
        · have G := Lib.hid (parseF_bad hd h4)
          simp only [h4] at C2
          clear hs hS hsl hd h2 e2 e1 hbd h3 h4
          go_enter Try.func46, Try.ntmps46
          go_wp2_with fail
          refine C0.mono ?_
          rintro e w1 ⟨A1, q1, c1, rfl, own1, bel1⟩
          have HL1 : Hid ((Tr.trF [] 0 [] s).1.length = q1) := by rw [Hid, ← strs_length]; exact own_len own1
          have HQ : 0 < q1 := by have := HP.out; have := HLL.out; have := HL1.out; omega
          have tq := beq_f (show ¬ (q1 : Int) = 0 by omega)
          have HR1 := Lib.hid (row_of_own own1)
          have hs1 := bel1.size
          have HB1 := Lib.hid bel1
          clear own1 bel1 C0
          go_wp2_with fail
          refine (C1 _ _ _ _ _ HL1.out (Nat.le_refl _) HR1.out).mono ?_
          rintro e w2 ⟨A2, c2, vs2, rfl, own2, bel2⟩
          have HB2 := Lib.hid (HB1.out.trans (bel2.mono hs1))
          have hs2 := HB2.out.size
          have HM2 := Lib.hid own2.mat
          clear own2 bel2 C1
          go_wp2_with fail
          refine (C2 _ _ _ _ _ (by have := HLL.out; have := HL1.out; omega) (by have := HB0.out; have := HLL.out; have := HL1.out; omega) (Nat.le_refl _) HM2.out).mono ?_
          rintro e w3 ⟨rfl, bel3⟩
          have GB := Lib.hid (HB2.out.trans (bel3.mono hs2))
          clear bel3 C2
          go_wp2
          go_ret2
          exact ResM.nil G.out GB.out
        · have G := Lib.hid (parseF_yes hd h2 h3 h4)
          simp only [h4] at C2
          clear hs hS hsl hd h2 e2 e1 hbd h3 h4
          go_enter Try.func46, Try.ntmps46
          go_wp2_with fail
          refine C0.mono ?_
          rintro e w1 ⟨A1, q1, c1, rfl, own1, bel1⟩
          have HL1 : Hid ((Tr.trF [] 0 [] s).1.length = q1) := by rw [Hid, ← strs_length]; exact own_len own1
          have HQ : 0 < q1 := by have := HP.out; have := HLL.out; have := HL1.out; omega
          have tq := beq_f (show ¬ (q1 : Int) = 0 by omega)
          have HR1 := Lib.hid (row_of_own own1)
          have hs1 := bel1.size
          have HB1 := Lib.hid bel1
          clear own1 bel1 C0
          go_wp2_with fail
          refine (C1 _ _ _ _ _ HL1.out (Nat.le_refl _) HR1.out).mono ?_
          rintro e w2 ⟨A2, c2, vs2, rfl, own2, bel2⟩
          have HB2 := Lib.hid (HB1.out.trans (bel2.mono hs1))
          have hs2 := HB2.out.size
          have HM2 := Lib.hid own2.mat
          have HO2 := Lib.hid (own2.more hs1 (Nat.le_refl _))
          clear own2 bel2 C1
          go_wp2_with fail
          refine (C2 _ _ _ _ _ (by have := HLL.out; have := HL1.out; omega) (by have := HB0.out; have := HLL.out; have := HL1.out; omega) (Nat.le_refl _) HM2.out).mono ?_
          rintro e w3 ⟨rfl, bel3⟩
          have GB := Lib.hid (HB2.out.trans (bel3.mono hs2))
          have GO := Lib.hid ((HO2.out.below bel3 (Nat.le_refl _)).more (Nat.le_refl _) bel3.size)
          clear bel3 C2
          go_wp2
          go_ret2
          exact ResM.of G.out HB0.out GO.out GB.out
end Go.Proofs.Ytjmjdcfgbaepkaa
/-
  What ParseTree answers, the program's and the model's.
-/
namespace Go.Proofs.Ytjmjdcfgbaepkaa
open Go.RowKit Fld
set_option linter.unusedVariables false
set_option linter.unusedSimpArgs false
set_option maxRecDepth 100000

def parseTB (s : List UInt8) : List Int × Int := if (Tr.rdL [] 0 s).2 = true ∧ (Tr.rdL [] 0 s).1.length = 1 ∧ isTr ((Tr.rdL [] 0 s).1.getD 0 []) = true then ((Tr.rdL [] 0 s).1.getD 0 [], 0) else ([], 6)
def parseTA (S : ByteArray) : List Int × Int := parseTB S.data.toList
theorem parseT_yes {s : List UInt8} {t : List Int} (h : (Tr.rdL [] 0 s).2 = true) (h1 : (Tr.rdL [] 0 s).1 = [t]) (h2 : isTr t = true) : parseTB s = (t, 0) := by
  unfold parseTB; rw [h1]; rw [if_pos ⟨h, rfl, h2⟩]; rfl
theorem parseT_no {s : List UInt8} (h : (Tr.rdL [] 0 s).2 = false) : parseTB s = ([], 6) := by
  unfold parseTB; rw [if_neg (fun e => by rw [h] at e; cases e.1)]
theorem parseT_len {s : List UInt8} (h : (Tr.rdL [] 0 s).1.length ≠ 1) : parseTB s = ([], 6) := by
  unfold parseTB; rw [if_neg (fun e => h e.2.1)]
theorem parseT_bad {s : List UInt8} {t : List Int} (h1 : (Tr.rdL [] 0 s).1 = [t]) (h2 : isTr t = false) : parseTB s = ([], 6) := by
  unfold parseTB; rw [h1]; rw [if_neg (fun e => by rw [show [t].getD 0 [] = t from rfl, h2] at e; cases e.2.2)]
theorem for_one (t : List Int) : isFor [t] = isTr t := by
  cases h : isTr t
  · exact isFor_no (okTo_no (k := 0) (okAt_false (r := t) rfl h) (by simp))
  · have h8 := (lv_bd (tr_lv h).1).2
    unfold isFor
    rw [show [t].length = 0 + 1 from rfl, okTo_step, okAt_zero (r := t) rfl h]
    have : total [t] ≤ 8 := by simpa [total] using h8
    rw [decide_eq_true this]; rfl
/-- what ParseForest says tells what ParseTree says -/
theorem parseT_of (s : List UInt8) : ((parseFB s).2 = 0 ∧ ∃ t, (parseFB s).1 = [t] ∧ parseTB s = (t, 0)) ∨ (((parseFB s).2 ≠ 0 ∨ (parseFB s).1.length ≠ 1) ∧ parseTB s = ([], 6)) := by
  by_cases hd : s = [45]
  · refine .inr ⟨.inr ?_, ?_⟩
    · rw [parseF_dash hd]; simp
    · exact parseT_no (by subst hd; rfl)
  · cases h2 : (Tr.rdL [] 0 s).2
    · exact .inr ⟨.inl (by rw [parseF_no hd h2]; simp), parseT_no h2⟩
    · by_cases h3 : (Tr.rdL [] 0 s).1.length = 1
      · obtain ⟨t, ht⟩ := List.length_eq_one_iff.1 h3
        have h4 : (Tr.rdL [] 0 s).1 ≠ [] := by rw [ht]; simp
        cases h5 : isTr t
        · refine .inr ⟨.inl ?_, parseT_bad ht h5⟩
          rw [parseF_bad hd (by rw [ht, for_one, h5])]; simp
        · have e := parseF_yes hd h2 h4 (by rw [ht, for_one, h5])
          refine .inl ⟨by rw [e], t, by rw [e]; exact ht, parseT_yes h2 ht h5⟩
      · refine .inr ⟨?_, parseT_len h3⟩
        by_cases h4 : (Tr.rdL [] 0 s).1 = []
        · exact .inl (by rw [parseF_nil hd h4]; simp)
        · cases h5 : isFor (Tr.rdL [] 0 s).1
          · exact .inl (by rw [parseF_bad hd h5]; simp)
          · exact .inr (by rw [parseF_yes hd h2 h4 h5]; exact h3)
set_option maxHeartbeats 1000000 in
theorem pParseTree_L (S : ByteArray) (w : World) (hn : S.size ≤ 1048576) : Calls Try.prog 36 #[.string S] w (ResL (parseTA S) w) := by
  have C0 := pParseForest_L S w hn
  unfold parseTA
  rcases parseT_of S.data.toList with ⟨h1, t, h2, h3⟩ | ⟨h1, h3⟩
  · have G := Lib.hid h3
    unfold parseFA at C0
    obtain ⟨R, hR⟩ : ∃ R, R = parseFB S.data.toList := ⟨_, rfl⟩
    rw [← hR] at C0 h1 h2
    obtain ⟨m, k⟩ := R
    simp only at h1 h2
    subst h1 h2
    clear h3 hR hn
    go_enter Try.func36, Try.ntmps36
    go_wp2_with fail
    refine C0.mono ?_
    rintro e w1 ⟨z, A1, c1, vs1, rfl, own1, bel1⟩
    change OwnMat w1 w.heap.size w1.heap.size (.slice A1 1 c1) 1 [t] vs1 at own1
    obtain ⟨At, ct, ev, ot⟩ := own1.inner 0 t rfl
    obtain ⟨g, cap, hv⟩ := own_form own1.outer.1 (by omega)
    injection hv with hA _ hcp
    subst hA hcp
    have hcell := own1.outer.1.cellAt 0 (by omega)
    rw [ev] at hcell
    have GB := Lib.hid bel1
    have GO := Lib.hid (ot.more (Nat.le_refl _) (Nat.le_refl _))
    have GN : Hid (t.length ≤ 1048576) := by rw [Hid]; simp [total] at z; omega
    clear own1 bel1 z C0 ev ot
    go_wp2
    go_ret2
    exact ResL.of G.out rfl GN.out GO.out.1 GB.out
  · have G := Lib.hid h3
    unfold parseFA at C0
    obtain ⟨R, hR⟩ : ∃ R, R = parseFB S.data.toList := ⟨_, rfl⟩
    rw [← hR] at C0 h1
    obtain ⟨m, k⟩ := R
    simp only at h1
    clear h3 hR hn
    by_cases hk : k = 0
    · subst hk
      have hm : m.length ≠ 1 := by
        rcases h1 with h1 | h1
        · exact absurd rfl h1
        · exact h1
      have tm := beq_f (show ¬ (m.length : Int) = 1 by omega)
      clear h1
      go_enter Try.func36, Try.ntmps36
      go_wp2_with fail
      refine C0.mono ?_
      rintro e w1 ⟨z, A1, c1, vs1, rfl, own1, bel1⟩
      have GB := Lib.hid bel1
      clear own1 bel1 C0 hm
      simp only at z ⊢
      obtain ⟨q, hq⟩ : ∃ q, q = m.length := ⟨_, rfl⟩
      rw [← hq] at tm z ⊢
      have hq1 : q ≤ 1048576 := by omega
      clear hq z
      go_wp2
      go_ret2
      exact ResL.nil G.out GB.out
    · have tk := beq_f hk
      clear h1
      go_enter Try.func36, Try.ntmps36
      go_wp2_with fail
      refine C0.mono ?_
      rintro e w1 ⟨z, A1, c1, vs1, rfl, own1, bel1⟩
      have GB := Lib.hid bel1
      clear own1 bel1 C0 z hk
      go_wp2
      go_ret2
      exact ResL.nil G.out GB.out
end Go.Proofs.Ytjmjdcfgbaepkaa
/-
  A number that a call hands back.
-/
namespace Go.Proofs.Ytjmjdcfgbaepkaa
open Go.RowKit
/-- one number, with memory made -/
def Res1 (r : Int) (w : World) (e : Ending) (w' : World) : Prop := e = .returned (.int .i64 r) ∧ Below w.heap.size w w'
theorem Res1.of {r x : Int} {w w' : World} (h : r = x) (hb : Below w.heap.size w w') : Res1 r w (.returned (.int .i64 x)) w' := by subst h; exact ⟨rfl, hb⟩
end Go.Proofs.Ytjmjdcfgbaepkaa
/-
  Densities.
-/
namespace Go.Proofs.Ytjmjdcfgbaepkaa
open Go.RowKit Fld
set_option linter.unusedVariables false
set_option linter.unusedSimpArgs false
set_option maxRecDepth 100000

def PDen (d : Nat) : Prop := ∀ (x : List UInt8) (w : World), x.length ≤ d → Tr.isTx x = true → Calls Try.prog 89 #[.string ⟨x.toArray⟩] w (Res1 (Tr.den x) w)
theorem pDen_succ (d : Nat) (IH : PDen d) : PDen (d + 1) := by
  intro x w hxd hx
  obtain ⟨⟨h2, h16⟩, HB, h7⟩ := Tr.br_parts hx
  obtain ⟨hD, hK⟩ := Tr.den_parts hx
  have C1 := fun w => branches_any x w hx
  have C0 := nodes_any x w (by omega)
  have HD := Lib.hid hD
  have HK := Lib.hid hK
  have HBR := Lib.hid HB
  obtain ⟨P, hP⟩ : ∃ P, P = (Tr.brT x).length := ⟨_, rfl⟩
  have HP : Hid ((Tr.brT x).length = P) := hP.symm
  have hP7 : P ≤ 7 := by rw [hP]; exact h7
  have HXD := Lib.hid hxd
  obtain ⟨S, hS⟩ : ∃ S : ByteArray, S = ⟨x.toArray⟩ := ⟨_, rfl⟩
  rw [← hS] at C0 C1 ⊢
  clear hD hK HB h7 hP hxd hx hS
  go_enter Try.func89, Try.ntmps89
  go_wp2_with fail
  refine C0.mono ?_
  rintro e w0 ⟨rfl, rfl⟩
  have hw0 : IntKind.i64.wrap ((x.length / 2 : Nat) : Int) = ((x.length / 2 : Nat) : Int) := IntWalk.i64_in _ (by omega)
  go_wp2_with fail
  refine (C1 _).mono ?_
  rintro e w1 ⟨A, q, c, rfl, hq, own1, bel1⟩
  have hqP : q = P := by rw [hq]; exact HP.out
  subst hqP
  have hs1 := bel1.size
  have HROW : Hid (Row w1 w1.heap.size A (strs (Tr.brT x))) := row_of_own own1
  have HB1 := Lib.hid bel1
  clear hq own1 bel1 C0 C1
  go_wp2_with fail
  go_loopw [3, 11] (fun v i wr => ∃ k : Nat, k ≤ q ∧ v = .int .i64 (Tr.mulK Tr.den ((x.length / 2 : Nat) : Int) (Tr.brT x) k) ∧ i = .int .i64 k ∧ Below w1.heap.size w1 wr) (fun _ i _ => q - (intOf i).toNat)
  case atStart => exact ⟨0, Nat.zero_le _, by simp [Tr.mulK_zero], rfl, Below.refl _ _⟩
  case round =>
    obtain ⟨k, hk, rfl, rfl, HBw⟩ := hrel
    have hsz := HBw.size
    by_cases hlt : k < q
    · obtain ⟨y, hy⟩ := at_lt (show k < (Tr.brT x).length by rw [HP.out]; exact hlt)
      obtain ⟨hyt, hyl⟩ := HBR.out y (List.mem_of_getElem? hy)
      obtain ⟨b, o, rfl, _, hc⟩ := (HROW.out.below HBw (Nat.le_refl _)) k _ (strs_at hy)
      have C2 := fun w => IH y w (by have := HXD.out; omega) hyt
      have hk1 := HK.out k (by rw [HP.out]; omega)
      have hk2 := HK.out (k + 1) (by rw [HP.out]; omega)
      have hstep := Tr.mulK_step (f := Tr.den) (a := ((x.length / 2 : Nat) : Int)) hy
      obtain ⟨a, ha⟩ : ∃ a, a = Tr.mulK Tr.den ((x.length / 2 : Nat) : Int) (Tr.brT x) k := ⟨_, rfl⟩
      rw [hstep] at hk2
      rw [← ha] at hk1 hk2 ⊢
      have HST : Hid (Tr.mulK Tr.den ((x.length / 2 : Nat) : Int) (Tr.brT x) (k + 1) = a * Tr.den y) := by rw [ha]; exact hstep
      obtain ⟨z, hz⟩ : ∃ z, z = Tr.den y := ⟨_, rfl⟩
      rw [← hz] at hk2 HST C2
      obtain ⟨Y, hY⟩ : ∃ Y : ByteArray, Y = ⟨y.toArray⟩ := ⟨_, rfl⟩
      rw [← hY] at C2 hc
      have hmw : IntKind.i64.wrap (a * z) = a * z := IntWalk.i64_in _ (by omega)
      have HBW := Lib.hid HBw
      clear hy hyt hyl hstep ha hz hY HBw hk1
      go_wp2_with fail
      refine (C2 _).mono ?_
      rintro e w2 ⟨rfl, bel2⟩
      have HB2 : Hid (Below w1.heap.size w1 w2) := HBW.out.trans (bel2.mono hsz)
      clear bel2 hk2
      go_wp2
      go_roundw
      case rel => exact ⟨k + 1, by omega, by rw [HST.out], by go_num, HB2.out⟩
      case measure => simp [intOf]; omega
    · obtain rfl : k = q := by omega
      have G : Hid (Res1 (Tr.den x) w (.returned (.int .i64 (Tr.mulK Tr.den ((x.length / 2 : Nat) : Int) (Tr.brT x) k))) wr) :=
        Res1.of (by rw [HD.out, HP.out]) (HB1.out.trans (HBw.mono hs1))
      clear HBw
      go_wp2
      go_ret
      exact G.out
theorem density_any (x : List UInt8) (w : World) (hx : Tr.isTx x = true) : Calls Try.prog 89 #[.string ⟨x.toArray⟩] w (Res1 (Tr.den x) w) := by
  have key : ∀ d, PDen d := fun d => by
    induction d with
    | zero => intro y w hy ht; have := (Tr.br_parts ht).1.1; omega
    | succ d ih => exact pDen_succ d ih
  exact key x.length x w (Nat.le_refl _) hx
def densityA (t : List Int) : Int × Int := if Tr.isLv t = true then (Tr.denM t, 0) else (0, 1)
theorem densityA_yes {t : List Int} (h : Tr.isLv t = true) : densityA t = (Tr.denM t, 0) := if_pos h
theorem densityA_no {t : List Int} (h : Tr.isLv t = false) : densityA t = (0, 1) := if_neg (by rw [h]; simp)
theorem pDensityOf_L (A : Option Addr) (n c B : Nat) (t : List Int) (w : World) (hl : t.length = n) (hn : n ≤ 1048576) (hB : B ≤ w.heap.size) (h : Row w B A (ints t)) (hc : n ≤ c) :
    Calls Try.prog 38 #[.slice A n c] w (ResI (densityA t) w) := by
  have C0 := isLevels_any A n c B t w hl (by omega) h
  cases hlv : Tr.isLv t
  · have G := Lib.hid (densityA_no hlv)
    rw [hlv] at C0
    go_enter Try.func38, Try.ntmps38
    go_wp2_with fail
    refine C0.mono ?_
    rintro e w' ⟨rfl, m, rfl⟩
    go_wp2
    go_ret2
    exact ResI.of' G.out (below_drewN (Below.refl _ _) _)
  · rw [hlv] at C0
    obtain ⟨b1, b8⟩ := lv_bd hlv
    rw [hl] at b1 b8
    have HL := Lib.hid hl
    have G := Lib.hid (densityA_yes hlv)
    have C3 := fun w => density_any (Tr.txt t) w (Tr.tx_txt hlv)
    rw [(Tr.denM_parts hlv).2] at C3
    clear hl hlv
    go_enter Try.func38, Try.ntmps38
    go_wp2_with fail
    refine C0.mono ?_
    rintro e w' ⟨rfl, m, rfl⟩
    go_wp2_with fail
    refine (treeOf_any A n c B t _ HL.out b1 b8 hc (by exact hB) (h.drewN m)).mono ?_
    rintro e w2 ⟨rfl, bel2⟩
    go_wp2_with fail
    refine (C3 _).mono ?_
    rintro e w3 ⟨rfl, bel3⟩
    have GB : Hid (Below w.heap.size w w3) := (below_undrew' bel2).trans (bel3.mono bel2.size)
    clear bel2 bel3
    go_wp2
    go_ret2
    exact ResI.of' G.out GB.out
end Go.Proofs.Ytjmjdcfgbaepkaa
/-
  The model's sort of trees: put in one after another.
-/
namespace Go.Proofs.Ytjmjdcfgbaepkaa
open Go.RowKit Fld
set_option linter.unusedVariables false
set_option linter.unusedSimpArgs false
set_option maxRecDepth 100000

theorem step_append_own {P : Program} {w : World} {ops : Array Oper} {o : Oper} {a : Act} {K : Act → World → Prop} {Q : Exit → Act → World → Prop} {E : Prop} (hgd : o.guard = none) (s x : Operand) (t : TypeId)
    (ho : o.op = .call { callee := .builtin .append, args := #[s, x], argTypes := #[t, t] })
    (base : Nat) (e : TypeId) (i : TypeInfo) (z : Value) (size bytes : Nat) (ht : P.underlying t = some (.slice e)) (hi : P.info? e = some i) (hz : i.zero = some z)
    (hsize : i.size = size) (hby : i.bytes = bytes) (hzs : z.cells.size = size) (hsz : 0 < size)
    (v : Value) (n : Nat) (xs : List Value) (hs : a.eval s = v) (hown : w.ownsRow base e size v n xs)
    (ad : Addr) (m c : Nat) (news : List Value) (hx : a.eval x = .slice (some ad) m c) (hl : news.length = m * size) (hnews : ∀ j u, news[j]? = some u → w.cell? (ad.add j) = some u) (h1 : ∀ u ∈ news, u.oneCell' = true)
    (h63 : n + m ≤ maxLen) (hbytes : (n + m) * bytes ≤ 140737488355328) (hbase : base ≤ w.heap.size)
    (h : ∀ v' w', w'.ownsRow base e size v' (n + m) (xs ++ news) → w.grownBy w' v.ownBlock → (v' = .slice none 0 0 ↔ v = .slice none 0 0 ∧ m = 0) → K (a.put o.dst v') w') :
    if Region.wanted o (yielded ops a.tmps) = true then Oper.wp P o a w K Q else E := by
  have hw : Region.wanted o (yielded ops a.tmps) = true := by simp [Region.wanted, hgd]
  rw [if_pos hw]
  exact wp_append_own w s x t ho base e i z size bytes ht hi hz hsize hby hzs hsz v n xs hs hown ad m c news hx hl hnews h1 h63 hbytes hbase h
/-- put in at a place -/
theorem insB_at {p : List Int} : ∀ {S : List (List Int)} {k : Nat}, (∀ j s, j < k → S[j]? = some s → Tr.beforeL p s = false) → (∀ s, S[k]? = some s → Tr.beforeL p s = true) → k ≤ S.length → Tr.insB p S = S.take k ++ p :: S.drop k
  | [], k, _, _, h => by
    have : k = 0 := by simpa using h
    subst this; rfl
  | s :: r, 0, _, h2, _ => by
    have := h2 s rfl
    rw [Tr.insB, if_pos this]; rfl
  | s :: r, k+1, h1, h2, h3 => by
    have h0 := h1 0 s (by omega) rfl
    rw [Tr.insB, if_neg (by rw [h0]; simp), insB_at (S := r) (k := k) (fun j x hj hx => h1 (j + 1) x (by omega) hx) (fun x hx => h2 x hx) (by simpa using h3)]
    rfl
theorem insB_length (p : List Int) : ∀ S : List (List Int), (Tr.insB p S).length = S.length + 1
  | [] => rfl
  | s :: r => by
    rw [Tr.insB]; split
    · rfl
    · rw [List.length_cons, insB_length p r]; rfl
theorem insB_mem {p : List Int} : ∀ {S : List (List Int)} {s : List Int}, s ∈ Tr.insB p S → s = p ∨ s ∈ S
  | [], s, hs => by simpa [Tr.insB] using hs
  | a :: r, s, hs => by
    rw [Tr.insB] at hs
    split at hs
    · simpa using hs
    · rw [List.mem_cons] at hs
      rcases hs with rfl | hs
      · simp
      · rcases insB_mem hs with e | e
        · exact .inl e
        · exact .inr (by simp [e])
def sortB (L : List (List Int)) (i : Nat) : List (List Int) := (L.take i).foldl (fun o p => Tr.insB p o) []
theorem sortB_step {L : List (List Int)} {i : Nat} {p : List Int} (h : L[i]? = some p) : sortB L (i + 1) = Tr.insB p (sortB L i) := by
  unfold sortB
  rw [List.take_add_one, h, Option.toList_some, List.foldl_append]; rfl
theorem sortB_length (L : List (List Int)) : ∀ i, i ≤ L.length → (sortB L i).length = i
  | 0, _ => rfl
  | i+1, h => by
    rw [sortB_step (List.getElem?_eq_getElem h), insB_length, sortB_length L i (by omega)]
theorem sortB_mem {L : List (List Int)} : ∀ {i : Nat} {s : List Int}, i ≤ L.length → s ∈ sortB L i → s ∈ L
  | 0, s, _, hs => by cases hs
  | i+1, s, h, hs => by
    rw [sortB_step (List.getElem?_eq_getElem h)] at hs
    rcases insB_mem hs with e | e
    · rw [e]; exact List.getElem_mem _
    · exact sortB_mem (by omega) e
theorem sortB_end (L : List (List Int)) : sortB L L.length = Tr.sortL L := by
  unfold sortB Tr.sortL; rw [List.take_length]
/-- sorted lists in memory -/
def ResRws (m : List (List Int)) (w : World) (e : Ending) (w' : World) : Prop :=
  ∃ (b o cap : Nat), e = .returned (.slice (some ⟨b, o, none⟩) m.length cap) ∧ m.length ≤ cap ∧ Rws w' (some ⟨b, o, none⟩) m ∧ Below w.heap.size w w'
set_option maxHeartbeats 4000000 in
theorem l03Sort_any (A : Option Addr) (n c B : Nat) (L : List (List Int)) (w : World) (hl : L.length = n) (n8 : n ≤ 8) (hr : ∀ r ∈ L, Tr.isLv r = true) (hB : B ≤ w.heap.size) (h : Mat w B A L) :
    Calls Try.prog 131 #[.slice A n c] w (ResRws (Tr.sortL L) w) := by
  obtain ⟨i0, hi, hz0, hz1, hz2⟩ := info_parts info_i64
  obtain ⟨j0, hj, hy0, hy1, hy2⟩ := info_parts info_row
  have HL := Lib.hid hl
  have HR0 := Lib.hid hr
  clear hl hr
  go_enter Try.func131, Try.ntmps131
  go_wp2_with fail
  go_loopw [3, 4] (fun v i wr => ∃ (k cap : Nat) (b o : Nat), k ≤ n ∧ v = .slice (some ⟨b, o, none⟩) k cap ∧ k ≤ cap ∧ i = .int .i64 k ∧ Rws wr (some ⟨b, o, none⟩) (sortB L k) ∧ Below w.heap.size w wr) (fun _ i _ => n - (intOf i).toNat)
  case atStart => exact ⟨0, 0, w.heap.size, 0, Nat.zero_le _, rfl, Nat.le_refl _, rfl, ⟨[], Row.nil _ _ _, Vals.nil _ _⟩, (Below.refl _ _).alloc (Nat.le_refl _) _⟩
  case round =>
    obtain ⟨k, cap, b, o, hk, rfl, hkc, rfl, HR, HB⟩ := hrel
    have hsz := HB.size
    by_cases hlt : k < n
    · obtain ⟨p, hp⟩ := at_lt (show k < L.length by rw [HL.out]; exact hlt)
      obtain ⟨bp, op, Ak, ck, rfl, hbp, hcp, hlc, hcm, hrp⟩ := (h.below HB hB) k p hp
      have hpl := HR0.out p (List.mem_of_getElem? hp)
      obtain ⟨p1, p8⟩ := lv_bd hpl
      obtain ⟨x0, hx0⟩ := at_lt (show 0 < p.length by omega)
      obtain ⟨br, orr, rfl, _, _⟩ := hrp 0 _ (ints_at hx0)
      have HSS : Hid (sortB L (k + 1) = Tr.insB p (sortB L k)) := sortB_step hp
      have HSL : Hid ((sortB L k).length = k) := sortB_length L k (by rw [HL.out]; exact hk)
      have HSM : Hid (∀ s ∈ sortB L k, Tr.isLv s = true) := fun s hs => HR0.out s (sortB_mem (by rw [HL.out]; exact hk) hs)
      have HRP := Lib.hid hrp
      have HRW := Lib.hid HR
      have HBW := Lib.hid HB
      have hka : (k : Int) < n := by omega
      have hk0 : (0 : Int) ≤ (k : Int) := Int.natCast_nonneg _
      have hkm : k ≤ 8 := by omega
      clear hp hpl hx0 HR HB hrp
      obtain ⟨wo, hwo⟩ : ∃ wo, wo = wr := ⟨wr, rfl⟩
      subst hwo
      go_wp2_with fail
      go_loopw [5] (fun a wr => ∃ (at' m : Nat), at' ≤ k ∧ a = .int .i64 at' ∧ wr = wo.drewN m ∧ Hid (∀ j s, j < at' → (sortB L k)[j]? = some s → Tr.beforeL p s = false)) (fun a _ => k - (intOf a).toNat)
      case atStart => exact ⟨0, 0, Nat.zero_le _, rfl, rfl, fun j s hj => by omega⟩
      case round =>
        obtain ⟨q, m, hq, rfl, rfl, HQ⟩ := hrel
        have hq0 : (0 : Int) ≤ (q : Int) := Int.natCast_nonneg _
        by_cases hqk : q < k
        · have hqi : (q : Int) < (k : Int) := by omega
          have hd : decide ((q : Int) < (k : Int)) = true := decide_eq_true hqi
          obtain ⟨s, hs⟩ := at_lt (show q < (sortB L k).length by rw [HSL.out]; exact hqk)
          obtain ⟨_, _, As, cs, e1, _, hcs, _, _, hrs⟩ := HRW.out.mat q s hs
          cases e1
          obtain ⟨s1, s8⟩ := lv_bd (HSM.out s (List.mem_of_getElem? hs))
          have CB := fun a : Nat => l03Before_any (some ⟨br, orr, none⟩) As p.length s.length ck cs B wo.heap.size p s (wo.drewN (m + a)) rfl rfl (by omega) (by omega) (HRP.out.drewN (m + a)) hrs
          cases hbf : Tr.beforeL p s
          · simp only [hbf] at CB
            have HQ2 : Hid (∀ j s, j < q + 1 → (sortB L k)[j]? = some s → Tr.beforeL p s = false) := fun j s' hj hs' => by
              by_cases hjq : j = q
              · subst hjq; rw [hs] at hs'; injection hs' with hs'; rw [← hs']; exact hbf
              · exact HQ.out j s' (by omega) hs'
            clear hs HQ hbf
            go_wp2_with fail
            go_quiet ((go_at_call 77; exact quiet_any (CB _)))
            go_wp2
            go_roundw
            case rel => exact ⟨q + 1, _, by omega, by go_num, rfl, HQ2⟩
            case measure => simp [intOf]; omega
          · simp only [hbf] at CB
            have HQ2 : Hid (∀ s, (sortB L k)[q]? = some s → Tr.beforeL p s = true) := fun s' hs' => by
              rw [hs] at hs'; injection hs' with hs'; rw [← hs']; exact hbf
            clear hs hbf
            go_wp2_with fail
            go_quiet ((go_at_call 77; exact quiet_any (CB _)))
            clear hcs hrs CB
            obtain ⟨W, hW⟩ : ∃ W, W = (wo.drewN m).drewN nq := ⟨_, rfl⟩
            have BW : Hid (Below wo.heap.size wo W) := by rw [hW]; exact below_drewN (below_drewN (Below.refl _ _) _) _
            have hW1 : wo.heap.size ≤ W.heap.size := BW.out.size
            rw [← hW]
            clear hW
            obtain ⟨vs, hrow, hvals⟩ := HRW.out.next BW.out
            have hvl : vs.length = k := by rw [hvals.1]; exact HSL.out
            have HVL := Lib.hid hvl
            have HROW := Lib.hid hrow
            have HVALS := Lib.hid hvals
            have HPW : Hid (Row W B (some ⟨br, orr, none⟩) (ints p)) := HRP.out.below BW.out (by omega)
            have hcpW : W.cell? ⟨bp, op + k, none⟩ = some (.slice (some ⟨br, orr, none⟩) p.length ck) := (BW.out.cell (p := ⟨bp, op + k, none⟩) (by show bp < wo.heap.size; omega)).trans hcp
            have HPUT : Hid (sortB L (k + 1) = (sortB L k).take q ++ p :: (sortB L k).drop q) := by
              rw [Hid, HSS.out]; exact insB_at HQ.out HQ2.out (by rw [HSL.out]; exact hq)
            have hqK : (q : Int) ≤ (k : Int) := by omega
            have hKc : (k : Int) ≤ (cap : Int) := by omega
            have hcap0 : (q : Int) ≤ (cap : Int) := by omega
            clear hrow hvals hvl HQ HQ2 hcp
            have HLEN1 : Hid ((vs.drop q).length = (k - q) * 1) := by rw [Hid, List.length_drop, HVL.out]; omega
            have HONE1 : Hid (∀ u ∈ vs.drop q, u.oneCell' = true) := fun u hu => HVALS.out.one (v := u) u (List.mem_of_mem_drop hu)
            have HNW1 : Hid (∀ w2 (B2 : Below W.heap.size W w2) (x : Obj), ∀ j u, (vs.drop q)[j]? = some u → (w2.alloc x).cell? ((⟨b, o + q, none⟩ : Addr).add j) = some u) := fun w2 B2 x => row_news (((Row.dropA HROW.out).below B2 (Nat.le_refl _)).below ((Below.refl _ _).alloc (Nat.le_refl _) x) B2.size)
            have HLEN2 : Hid ((vs.take q).length = q * 1) := by rw [Hid, List.length_take, HVL.out]; omega
            have HONE2 : Hid (∀ u ∈ vs.take q, u.oneCell' = true) := fun u hu => HVALS.out.one (v := u) u (List.mem_of_mem_take hu)
            go_wp2_with fail
            go_region_held3 (fun w' => w'.cell? ⟨bp, op + k, none⟩ = some (.slice (some ⟨br, orr, none⟩) p.length ck)) (first | go_keep | exact hcpW | exact ((show Below W.heap.size W w2 from ⟨bel2.os, bel2.tape, bel2.output, bel2.size, bel2.block⟩).cell (p := ⟨bp, op + k, none⟩) (by show bp < W.heap.size; omega)).trans hcpW | exact (((show Below W.heap.size W w2 from ⟨bel2.os, bel2.tape, bel2.output, bel2.size, bel2.block⟩).alloc (show W.heap.size ≤ w2.heap.size from bel2.size) _).cell (p := ⟨bp, op + k, none⟩) (by show bp < W.heap.size; omega)).trans hcpW | exact (BW3.cell (p := ⟨bp, op + k, none⟩) (by show bp < W.heap.size; omega)).trans hcpW)
              (first
                | (go_at_call 136; refine (l01Own_any ⟨br, orr, none⟩ p.length ck B p _ rfl (by omega) (by show B ≤ W.heap.size; omega) (by exact HPW.out)).mono ?_; rintro e w2 ⟨A2, c2, rfl, own2, bel2⟩)
                | (have B2 : Below W.heap.size W w2 := ⟨bel2.os, bel2.tape, bel2.output, bel2.size, bel2.block⟩; have OWN1 := World.ownsRow_lit (base := W.heap.size) (size := 1) (e := 24) w2 #[.slice A2 p.length c2] 1 B2.size (by simp [maxLen]) rfl; refine step_append_own (by rfl) _ _ 44 (by rfl) W.heap.size 24 j0 _ 1 24 Try.underlying44 hj hy0 hy1 hy2 rfl (by omega) (.slice (some ⟨w2.heap.size, 0, none⟩) 1 1) 1 [.slice A2 p.length c2] (by rfl) OWN1 ⟨b, o + q, none⟩ (k - q) (cap - q) (vs.drop q) (by rfl) HLEN1.out (HNW1.out w2 B2 _) HONE1.out (by simp only [maxLen]; omega) (by omega) (by have := B2.size; simp; omega) ?_; intro v3 w3 own3 hgrow3 _; obtain ⟨g3, c3, rfl⟩ := own_form own3 (by omega); have BW3 : Below W.heap.size W w3 := (B2.alloc B2.size _).grown hgrow3 (by have := B2.size; simp; omega) (fun z hz => (OWN1.lt z hz).1)))
            have B2 : Below W.heap.size W w2 := ⟨bel2.os, bel2.tape, bel2.output, bel2.size, bel2.block⟩
            have HO2 : Hid (w2.ownsRow W.heap.size 2 1 (.slice A2 p.length c2) p.length (ints p)) := own2
            obtain ⟨hc2, hc2m⟩ := own_cap HO2.out
            have hW3 : W.heap.size ≤ w3.heap.size := BW3.size
            have HPV : Hid (Row w2 w2.heap.size A2 (ints p)) := row_of_own HO2.out
            have HB23 : Hid (Below w2.heap.size w2 w3) := ((Below.refl _ _).alloc (Nat.le_refl _) _).grown hgrow3 (by simp) (fun z hz => (World.ownsRow_lit (base := w2.heap.size) (size := 1) (e := 24) w2 #[.slice A2 p.length c2] 1 (Nat.le_refl _) (by simp [maxLen]) rfl).lt z hz |>.1)
            have HO3 := Lib.hid (OwnR.of own3)
            have OWN2 := Lib.hid (World.ownsRow_lit (base := w3.heap.size) (size := 1) (e := 24) w3 #[] 0 (Nat.le_refl _) (Nat.zero_le _) rfl)
            have HBW3 := Lib.hid BW3
            have HNEWS2 : Hid (∀ j u, (vs.take q)[j]? = some u → (w3.alloc (.cells #[] 24)).cell? ((⟨b, o, none⟩ : Addr).add j) = some u) := row_news ((((HROW.out.takeA q).below BW3 (Nat.le_refl _)).more hW3).alloc (Nat.le_refl _) _)
            have HONE3 : Hid (∀ u ∈ [Value.slice A2 p.length c2] ++ vs.drop q, u.oneCell' = true) := fun u hu => by
              rw [List.mem_append, List.mem_singleton] at hu
              rcases hu with rfl | hu
              · rfl
              · exact HVALS.out.one (v := u) u (List.mem_of_mem_drop hu)
            have HS5 : Hid (q + (1 + (k - q)) = k + 1) := by rw [Hid]; omega
            clear own2 bel2 B2 hgrow3 own3 BW3 hcpW
            go_wp2_with (first
              | (at_builtin; refine wpList_append_own _ rfl (.tmp 42) (.tmp 45) 44 rfl w3.heap.size 24 j0 _ 1 24 Try.underlying44 hj hy0 hy1 hy2 rfl (by omega) (.slice (some ⟨w3.heap.size, 0, none⟩) 0 0) 0 [] rfl OWN2.out ⟨b, o, none⟩ q cap (vs.take q) rfl HLEN2.out HNEWS2.out HONE2.out (by simp only [maxLen]; omega) (by omega) (by simp) ?_; intro v4 w4 own4 hgrow4 _; obtain ⟨A4, c4, rfl⟩ := own_shape' own4; rw [Nat.zero_add, List.nil_append] at own4; have BW4 : Below w3.heap.size w3 w4 := ((Below.refl _ _).alloc (Nat.le_refl _) _).grown hgrow4 (by simp) (fun z hz => (OWN2.out.lt z hz).1); have hW4 : w3.heap.size ≤ w4.heap.size := BW4.size; have HO4 := (HO3.out.below BW4 (Nat.le_refl _)).1)
              | (at_builtin; refine wpList_append_own _ rfl (.tmp 46) (.tmp 47) 44 rfl w3.heap.size 24 j0 _ 1 24 Try.underlying44 hj hy0 hy1 hy2 rfl (by omega) (.slice A4 q c4) q (vs.take q) rfl own4 ⟨g3, 0, none⟩ (1 + (k - q)) c3 ([Value.slice A2 p.length c2] ++ vs.drop q) rfl (by rw [Nat.mul_one]; exact own_len HO4) (row_news (row_of_own HO4)) HONE3.out (by simp only [maxLen]; omega) (by omega) (by omega) ?_; intro v5 w5 own5 hgrow5 _; rw [HS5.out] at own5; obtain ⟨g5, c5, rfl⟩ := own_form own5 (by omega)))
            have BW5 : Hid (Below w3.heap.size w3 w5) := BW4.grown hgrow5 hW4 (fun z hz => (own4.lt z hz).1)
            have GB : Hid (Below w.heap.size w w5) := ((HBW.out.trans (BW.out.mono hsz)).trans (HBW3.out.mono (by omega))).trans (BW5.out.mono (by omega))
            have GC : k + 1 ≤ c5 := (own_cap own5).1
            have GR : Hid (Rws w5 (some ⟨g5, 0, none⟩) (sortB L (k + 1))) := by
              refine ⟨_, row_of_own own5, ?_⟩
              have hv := Vals.put (k := q) (A := A2) (c := c2) (r := p) ((HVALS.out.next HBW3.out).next BW5.out) (by rw [HSL.out]; exact hq) hc2 hc2m (((HPV.out.below HB23.out (Nat.le_refl _)).below BW5.out (by have := HB23.out.size; omega)).more (by have := BW5.out.size; have := HB23.out.size; omega))
              rw [← HPUT.out] at hv
              exact hv
            clear own5 hgrow5 own4 hgrow4 BW4 HO4
            go_wp2
            go_roundw
            case rel => exact ⟨k + 1, c5, g5, 0, by omega, rfl, GC, by go_num, GR.out, GB.out⟩
            case measure => simp [intOf]; omega
        · obtain rfl : q = k := by omega
          have hd : decide ((q : Int) < (q : Int)) = false := decide_eq_false (by omega)
          have HQ2 : Hid (∀ s, (sortB L q)[q]? = some s → Tr.beforeL p s = true) := fun s' hs' => by
            rw [List.getElem?_eq_none (by rw [HSL.out]; exact Nat.le_refl _)] at hs'; cases hs'
          go_wp2_with fail
          go_quiet (fail)
          obtain ⟨W, hW⟩ : ∃ W, W = (wo.drewN m).drewN nq := ⟨_, rfl⟩
          have BW : Hid (Below wo.heap.size wo W) := by rw [hW]; exact below_drewN (below_drewN (Below.refl _ _) _) _
          have hW1 : wo.heap.size ≤ W.heap.size := BW.out.size
          rw [← hW]
          clear hW
          obtain ⟨vs, hrow, hvals⟩ := HRW.out.next BW.out
          have hvl : vs.length = q := by rw [hvals.1]; exact HSL.out
          have HVL := Lib.hid hvl
          have HROW := Lib.hid hrow
          have HVALS := Lib.hid hvals
          have HPW : Hid (Row W B (some ⟨br, orr, none⟩) (ints p)) := HRP.out.below BW.out (by omega)
          have hcpW : W.cell? ⟨bp, op + q, none⟩ = some (.slice (some ⟨br, orr, none⟩) p.length ck) := (BW.out.cell (p := ⟨bp, op + q, none⟩) (by show bp < wo.heap.size; omega)).trans hcp
          have HPUT : Hid (sortB L (q + 1) = (sortB L q).take q ++ p :: (sortB L q).drop q) := by
            rw [Hid, HSS.out]; exact insB_at HQ.out HQ2.out (by rw [HSL.out]; exact hq)
          have hqK : (q : Int) ≤ (q : Int) := by omega
          have hKc : (q : Int) ≤ (cap : Int) := by omega
          have hcap0 : (q : Int) ≤ (cap : Int) := by omega
          clear hrow hvals hvl HQ HQ2 hcp
          by_cases hcap : q = cap
          · subst hcap
            have HLEN1 : Hid (([] : List Value).length = 0 * 1) := rfl
            have HONE1 : Hid (∀ u ∈ ([] : List Value), u.oneCell' = true) := fun u hu => by cases hu
            have HNW1 : Hid (∀ w2 (B2 : Below W.heap.size W w2) (x : Obj), ∀ j u, ([] : List Value)[j]? = some u → (w2.alloc x).cell? ((⟨b, o, none⟩ : Addr).add j) = some u) := fun w2 B2 x j u hu => by simp at hu
            have HLEN2 : Hid ((vs.take q).length = q * 1) := by rw [Hid, List.length_take, HVL.out]; omega
            have HONE2 : Hid (∀ u ∈ vs.take q, u.oneCell' = true) := fun u hu => HVALS.out.one (v := u) u (List.mem_of_mem_take hu)
            go_wp2_with fail
            go_region_held3 (fun w' => w'.cell? ⟨bp, op + q, none⟩ = some (.slice (some ⟨br, orr, none⟩) p.length ck)) (first | go_keep | exact hcpW | exact ((show Below W.heap.size W w2 from ⟨bel2.os, bel2.tape, bel2.output, bel2.size, bel2.block⟩).cell (p := ⟨bp, op + q, none⟩) (by show bp < W.heap.size; omega)).trans hcpW | exact (((show Below W.heap.size W w2 from ⟨bel2.os, bel2.tape, bel2.output, bel2.size, bel2.block⟩).alloc (show W.heap.size ≤ w2.heap.size from bel2.size) _).cell (p := ⟨bp, op + q, none⟩) (by show bp < W.heap.size; omega)).trans hcpW | exact (BW3.cell (p := ⟨bp, op + q, none⟩) (by show bp < W.heap.size; omega)).trans hcpW)
              (first
                | (go_at_call 136; refine (l01Own_any ⟨br, orr, none⟩ p.length ck B p _ rfl (by omega) (by show B ≤ W.heap.size; omega) (by exact HPW.out)).mono ?_; rintro e w2 ⟨A2, c2, rfl, own2, bel2⟩)
                | (have B2 : Below W.heap.size W w2 := ⟨bel2.os, bel2.tape, bel2.output, bel2.size, bel2.block⟩; have OWN1 := World.ownsRow_lit (base := W.heap.size) (size := 1) (e := 24) w2 #[.slice A2 p.length c2] 1 B2.size (by simp [maxLen]) rfl; refine step_append_own (by rfl) _ _ 44 (by rfl) W.heap.size 24 j0 _ 1 24 Try.underlying44 hj hy0 hy1 hy2 rfl (by omega) (.slice (some ⟨w2.heap.size, 0, none⟩) 1 1) 1 [.slice A2 p.length c2] (by rfl) OWN1 ⟨b, o, none⟩ 0 0 [] (by rfl) HLEN1.out (HNW1.out w2 B2 _) HONE1.out (by simp only [maxLen]; omega) (by omega) (by have := B2.size; simp; omega) ?_; intro v3 w3 own3 hgrow3 _; obtain ⟨g3, c3, rfl⟩ := own_form own3 (by omega); have BW3 : Below W.heap.size W w3 := (B2.alloc B2.size _).grown hgrow3 (by have := B2.size; simp; omega) (fun z hz => (OWN1.lt z hz).1)))
            have HDE : Hid ([Value.slice A2 p.length c2] ++ ([] : List Value) = [Value.slice A2 p.length c2] ++ vs.drop q) := by rw [Hid, List.drop_of_length_le (by rw [HVL.out]; omega)]
            rw [HDE.out] at own3
            have e10 : 1 + 0 = 1 := rfl
            rw [e10] at own3
            have B2 : Below W.heap.size W w2 := ⟨bel2.os, bel2.tape, bel2.output, bel2.size, bel2.block⟩
            have HO2 : Hid (w2.ownsRow W.heap.size 2 1 (.slice A2 p.length c2) p.length (ints p)) := own2
            obtain ⟨hc2, hc2m⟩ := own_cap HO2.out
            have hW3 : W.heap.size ≤ w3.heap.size := BW3.size
            have HPV : Hid (Row w2 w2.heap.size A2 (ints p)) := row_of_own HO2.out
            have HB23 : Hid (Below w2.heap.size w2 w3) := ((Below.refl _ _).alloc (Nat.le_refl _) _).grown hgrow3 (by simp) (fun z hz => (World.ownsRow_lit (base := w2.heap.size) (size := 1) (e := 24) w2 #[.slice A2 p.length c2] 1 (Nat.le_refl _) (by simp [maxLen]) rfl).lt z hz |>.1)
            have HO3 := Lib.hid (OwnR.of own3)
            have OWN2 := Lib.hid (World.ownsRow_lit (base := w3.heap.size) (size := 1) (e := 24) w3 #[] 0 (Nat.le_refl _) (Nat.zero_le _) rfl)
            have HBW3 := Lib.hid BW3
            have HNEWS2 : Hid (∀ j u, (vs.take q)[j]? = some u → (w3.alloc (.cells #[] 24)).cell? ((⟨b, o, none⟩ : Addr).add j) = some u) := row_news ((((HROW.out.takeA q).below BW3 (Nat.le_refl _)).more hW3).alloc (Nat.le_refl _) _)
            have HONE3 : Hid (∀ u ∈ [Value.slice A2 p.length c2] ++ vs.drop q, u.oneCell' = true) := fun u hu => by
              rw [List.mem_append, List.mem_singleton] at hu
              rcases hu with rfl | hu
              · rfl
              · exact HVALS.out.one (v := u) u (List.mem_of_mem_drop hu)
            clear own2 bel2 B2 hgrow3 own3 BW3 hcpW
            go_wp2_with (first
              | (at_builtin; refine wpList_append_own _ rfl (.tmp 42) (.tmp 45) 44 rfl w3.heap.size 24 j0 _ 1 24 Try.underlying44 hj hy0 hy1 hy2 rfl (by omega) (.slice (some ⟨w3.heap.size, 0, none⟩) 0 0) 0 [] rfl OWN2.out ⟨b, o, none⟩ q q (vs.take q) rfl HLEN2.out HNEWS2.out HONE2.out (by simp only [maxLen]; omega) (by omega) (by simp) ?_; intro v4 w4 own4 hgrow4 _; obtain ⟨A4, c4, rfl⟩ := own_shape' own4; rw [Nat.zero_add, List.nil_append] at own4; have BW4 : Below w3.heap.size w3 w4 := ((Below.refl _ _).alloc (Nat.le_refl _) _).grown hgrow4 (by simp) (fun z hz => (OWN2.out.lt z hz).1); have hW4 : w3.heap.size ≤ w4.heap.size := BW4.size; have HO4 := (HO3.out.below BW4 (Nat.le_refl _)).1)
              | (at_builtin; refine wpList_append_own _ rfl (.tmp 46) (.tmp 47) 44 rfl w3.heap.size 24 j0 _ 1 24 Try.underlying44 hj hy0 hy1 hy2 rfl (by omega) (.slice A4 q c4) q (vs.take q) rfl own4 ⟨g3, 0, none⟩ 1 c3 ([Value.slice A2 p.length c2] ++ vs.drop q) rfl (by rw [Nat.mul_one]; exact own_len HO4) (row_news (row_of_own HO4)) HONE3.out (by simp only [maxLen]; omega) (by omega) (by omega) ?_; intro v5 w5 own5 hgrow5 _; obtain ⟨g5, c5, rfl⟩ := own_form own5 (by omega)))
            have BW5 : Hid (Below w3.heap.size w3 w5) := BW4.grown hgrow5 hW4 (fun z hz => (own4.lt z hz).1)
            have GB : Hid (Below w.heap.size w w5) := ((HBW.out.trans (BW.out.mono hsz)).trans (HBW3.out.mono (by omega))).trans (BW5.out.mono (by omega))
            have GC : q + 1 ≤ c5 := (own_cap own5).1
            have GR : Hid (Rws w5 (some ⟨g5, 0, none⟩) (sortB L (q + 1))) := by
              refine ⟨_, row_of_own own5, ?_⟩
              have hv := Vals.put (k := q) (A := A2) (c := c2) (r := p) ((HVALS.out.next HBW3.out).next BW5.out) (by rw [HSL.out]; exact hq) hc2 hc2m (((HPV.out.below HB23.out (Nat.le_refl _)).below BW5.out (by have := HB23.out.size; omega)).more (by have := BW5.out.size; have := HB23.out.size; omega))
              rw [← HPUT.out] at hv
              exact hv
            clear own5 hgrow5 own4 hgrow4 BW4 HO4
            go_wp2
            go_roundw
            case rel => exact ⟨q + 1, c5, g5, 0, by omega, rfl, GC, by go_num, GR.out, GB.out⟩
            case measure => simp [intOf]; omega
          · skip
            have HLEN1 : Hid ((vs.drop q).length = 0 * 1) := by rw [Hid, List.length_drop, HVL.out]; omega
            have HONE1 : Hid (∀ u ∈ vs.drop q, u.oneCell' = true) := fun u hu => HVALS.out.one (v := u) u (List.mem_of_mem_drop hu)
            have HNW1 : Hid (∀ w2 (B2 : Below W.heap.size W w2) (x : Obj), ∀ j u, (vs.drop q)[j]? = some u → (w2.alloc x).cell? ((⟨b, o + q, none⟩ : Addr).add j) = some u) := fun w2 B2 x => row_news (((Row.dropA HROW.out).below B2 (Nat.le_refl _)).below ((Below.refl _ _).alloc (Nat.le_refl _) x) B2.size)
            have HLEN2 : Hid ((vs.take q).length = q * 1) := by rw [Hid, List.length_take, HVL.out]; omega
            have HONE2 : Hid (∀ u ∈ vs.take q, u.oneCell' = true) := fun u hu => HVALS.out.one (v := u) u (List.mem_of_mem_take hu)
            go_wp2_with fail
            go_region_held3 (fun w' => w'.cell? ⟨bp, op + q, none⟩ = some (.slice (some ⟨br, orr, none⟩) p.length ck)) (first | go_keep | exact hcpW | exact ((show Below W.heap.size W w2 from ⟨bel2.os, bel2.tape, bel2.output, bel2.size, bel2.block⟩).cell (p := ⟨bp, op + q, none⟩) (by show bp < W.heap.size; omega)).trans hcpW | exact (((show Below W.heap.size W w2 from ⟨bel2.os, bel2.tape, bel2.output, bel2.size, bel2.block⟩).alloc (show W.heap.size ≤ w2.heap.size from bel2.size) _).cell (p := ⟨bp, op + q, none⟩) (by show bp < W.heap.size; omega)).trans hcpW | exact (BW3.cell (p := ⟨bp, op + q, none⟩) (by show bp < W.heap.size; omega)).trans hcpW)
              (first
                | (go_at_call 136; refine (l01Own_any ⟨br, orr, none⟩ p.length ck B p _ rfl (by omega) (by show B ≤ W.heap.size; omega) (by exact HPW.out)).mono ?_; rintro e w2 ⟨A2, c2, rfl, own2, bel2⟩)
                | (have B2 : Below W.heap.size W w2 := ⟨bel2.os, bel2.tape, bel2.output, bel2.size, bel2.block⟩; have OWN1 := World.ownsRow_lit (base := W.heap.size) (size := 1) (e := 24) w2 #[.slice A2 p.length c2] 1 B2.size (by simp [maxLen]) rfl; refine step_append_own (by rfl) _ _ 44 (by rfl) W.heap.size 24 j0 _ 1 24 Try.underlying44 hj hy0 hy1 hy2 rfl (by omega) (.slice (some ⟨w2.heap.size, 0, none⟩) 1 1) 1 [.slice A2 p.length c2] (by rfl) OWN1 ⟨b, o + q, none⟩ 0 (cap - q) (vs.drop q) (by rfl) HLEN1.out (HNW1.out w2 B2 _) HONE1.out (by simp only [maxLen]; omega) (by omega) (by have := B2.size; simp; omega) ?_; intro v3 w3 own3 hgrow3 _; obtain ⟨g3, c3, rfl⟩ := own_form own3 (by omega); have BW3 : Below W.heap.size W w3 := (B2.alloc B2.size _).grown hgrow3 (by have := B2.size; simp; omega) (fun z hz => (OWN1.lt z hz).1)))
            have e10 : 1 + 0 = 1 := rfl
            rw [e10] at own3
            have B2 : Below W.heap.size W w2 := ⟨bel2.os, bel2.tape, bel2.output, bel2.size, bel2.block⟩
            have HO2 : Hid (w2.ownsRow W.heap.size 2 1 (.slice A2 p.length c2) p.length (ints p)) := own2
            obtain ⟨hc2, hc2m⟩ := own_cap HO2.out
            have hW3 : W.heap.size ≤ w3.heap.size := BW3.size
            have HPV : Hid (Row w2 w2.heap.size A2 (ints p)) := row_of_own HO2.out
            have HB23 : Hid (Below w2.heap.size w2 w3) := ((Below.refl _ _).alloc (Nat.le_refl _) _).grown hgrow3 (by simp) (fun z hz => (World.ownsRow_lit (base := w2.heap.size) (size := 1) (e := 24) w2 #[.slice A2 p.length c2] 1 (Nat.le_refl _) (by simp [maxLen]) rfl).lt z hz |>.1)
            have HO3 := Lib.hid (OwnR.of own3)
            have OWN2 := Lib.hid (World.ownsRow_lit (base := w3.heap.size) (size := 1) (e := 24) w3 #[] 0 (Nat.le_refl _) (Nat.zero_le _) rfl)
            have HBW3 := Lib.hid BW3
            have HNEWS2 : Hid (∀ j u, (vs.take q)[j]? = some u → (w3.alloc (.cells #[] 24)).cell? ((⟨b, o, none⟩ : Addr).add j) = some u) := row_news ((((HROW.out.takeA q).below BW3 (Nat.le_refl _)).more hW3).alloc (Nat.le_refl _) _)
            have HONE3 : Hid (∀ u ∈ [Value.slice A2 p.length c2] ++ vs.drop q, u.oneCell' = true) := fun u hu => by
              rw [List.mem_append, List.mem_singleton] at hu
              rcases hu with rfl | hu
              · rfl
              · exact HVALS.out.one (v := u) u (List.mem_of_mem_drop hu)
            clear own2 bel2 B2 hgrow3 own3 BW3 hcpW
            go_wp2_with (first
              | (at_builtin; refine wpList_append_own _ rfl (.tmp 42) (.tmp 45) 44 rfl w3.heap.size 24 j0 _ 1 24 Try.underlying44 hj hy0 hy1 hy2 rfl (by omega) (.slice (some ⟨w3.heap.size, 0, none⟩) 0 0) 0 [] rfl OWN2.out ⟨b, o, none⟩ q cap (vs.take q) rfl HLEN2.out HNEWS2.out HONE2.out (by simp only [maxLen]; omega) (by omega) (by simp) ?_; intro v4 w4 own4 hgrow4 _; obtain ⟨A4, c4, rfl⟩ := own_shape' own4; rw [Nat.zero_add, List.nil_append] at own4; have BW4 : Below w3.heap.size w3 w4 := ((Below.refl _ _).alloc (Nat.le_refl _) _).grown hgrow4 (by simp) (fun z hz => (OWN2.out.lt z hz).1); have hW4 : w3.heap.size ≤ w4.heap.size := BW4.size; have HO4 := (HO3.out.below BW4 (Nat.le_refl _)).1)
              | (at_builtin; refine wpList_append_own _ rfl (.tmp 46) (.tmp 47) 44 rfl w3.heap.size 24 j0 _ 1 24 Try.underlying44 hj hy0 hy1 hy2 rfl (by omega) (.slice A4 q c4) q (vs.take q) rfl own4 ⟨g3, 0, none⟩ 1 c3 ([Value.slice A2 p.length c2] ++ vs.drop q) rfl (by rw [Nat.mul_one]; exact own_len HO4) (row_news (row_of_own HO4)) HONE3.out (by simp only [maxLen]; omega) (by omega) (by omega) ?_; intro v5 w5 own5 hgrow5 _; obtain ⟨g5, c5, rfl⟩ := own_form own5 (by omega)))
            have BW5 : Hid (Below w3.heap.size w3 w5) := BW4.grown hgrow5 hW4 (fun z hz => (own4.lt z hz).1)
            have GB : Hid (Below w.heap.size w w5) := ((HBW.out.trans (BW.out.mono hsz)).trans (HBW3.out.mono (by omega))).trans (BW5.out.mono (by omega))
            have GC : q + 1 ≤ c5 := (own_cap own5).1
            have GR : Hid (Rws w5 (some ⟨g5, 0, none⟩) (sortB L (q + 1))) := by
              refine ⟨_, row_of_own own5, ?_⟩
              have hv := Vals.put (k := q) (A := A2) (c := c2) (r := p) ((HVALS.out.next HBW3.out).next BW5.out) (by rw [HSL.out]; exact hq) hc2 hc2m (((HPV.out.below HB23.out (Nat.le_refl _)).below BW5.out (by have := HB23.out.size; omega)).more (by have := BW5.out.size; have := HB23.out.size; omega))
              rw [← HPUT.out] at hv
              exact hv
            clear own5 hgrow5 own4 hgrow4 BW4 HO4
            go_wp2
            go_roundw
            case rel => exact ⟨q + 1, c5, g5, 0, by omega, rfl, GC, by go_num, GR.out, GB.out⟩
            case measure => simp [intOf]; omega
    · obtain rfl : k = n := by omega
      have G : Hid (ResRws (Tr.sortL L) w (.returned (.slice (some ⟨b, o, none⟩) k cap)) wr) := by
        have e := sortB_end L
        rw [HL.out] at e
        have e2 : (Tr.sortL L).length = k := by rw [← e]; exact sortB_length L k (by rw [HL.out]; exact Nat.le_refl _)
        rw [e] at HR
        rw [Hid]
        unfold ResRws
        rw [e2]
        exact ⟨b, o, cap, rfl, hkc, HR, HB⟩
      clear HR HB
      go_wp2
      go_ret
      exact G.out
end Go.Proofs.Ytjmjdcfgbaepkaa
/-
  Symmetries, the program's and the model's.
-/
namespace Go.Proofs.Ytjmjdcfgbaepkaa
open Go.RowKit Fld
set_option linter.unusedVariables false
set_option linter.unusedSimpArgs false
set_option maxRecDepth 100000

theorem symK_step {f : List UInt8 → Int} {bs : List (List UInt8)} {k : Nat} {y : List UInt8} (h : bs[k]? = some y) :
    Tr.symK f bs (k + 1) = ((Tr.symK f bs k).1 * ((Tr.symK f bs (k + 1)).2 * f y), (Tr.symK f bs (k + 1)).2) := by
  have e : bs.getD k [] = y := by rw [List.getD_eq_getElem?_getD, h]; rfl
  rw [Tr.symK, e]
theorem symK_zero {f : List UInt8 → Int} {bs : List (List UInt8)} : (Tr.symK f bs 1).2 = 1 := by
  simp [Tr.symK]
theorem symK_same {f : List UInt8 → Int} {bs : List (List UInt8)} {k : Nat} {y z : List UInt8} (h : bs[k + 1]? = some y) (h' : bs[k]? = some z) : (Tr.symK f bs (k + 1 + 1)).2 = (if y = z then (Tr.symK f bs (k + 1)).2 else 0) + 1 := by
  have e : bs.getD (k + 1) [] = y := by rw [List.getD_eq_getElem?_getD, h]; rfl
  have e' : bs.getD k [] = z := by rw [List.getD_eq_getElem?_getD, h']; rfl
  rw [Tr.symK]
  simp only [Nat.add_sub_cancel, e, e']
  by_cases q : y = z <;> simp [q]
theorem str_eqS (y z : List UInt8) : ((⟨y.toArray⟩ : ByteArray).toList == (⟨z.toArray⟩ : ByteArray).toList) = decide (y = z) := by
  rw [ByteArray.toList_mk, ByteArray.toList_mk]
  by_cases q : y = z
  · simp [q]
  · simp [q]
def PSym (d : Nat) : Prop := ∀ (x : List UInt8) (w : World), x.length ≤ d → Tr.isTx x = true → Calls Try.prog 88 #[.string ⟨x.toArray⟩] w (Res1 (Tr.sy x) w)
set_option maxHeartbeats 2000000 in
theorem pSym_succ (d : Nat) (IH : PSym d) : PSym (d + 1) := by
  intro x w hxd hx
  obtain ⟨_, HB, h7⟩ := Tr.br_parts hx
  obtain ⟨hD, hK, hM⟩ := Tr.sy_parts hx
  have C1 := fun w => branches_any x w hx
  have HD := Lib.hid hD
  have HK := Lib.hid hK
  have HMU := Lib.hid hM
  have HBR := Lib.hid HB
  obtain ⟨P, hP⟩ : ∃ P, P = (Tr.brT x).length := ⟨_, rfl⟩
  have HP : Hid ((Tr.brT x).length = P) := hP.symm
  have hP7 : P ≤ 7 := by rw [hP]; exact h7
  have HXD := Lib.hid hxd
  obtain ⟨S, hS⟩ : ∃ S : ByteArray, S = ⟨x.toArray⟩ := ⟨_, rfl⟩
  rw [← hS] at C1 ⊢
  clear hD hK hM HB h7 hP hxd hx hS
  go_enter Try.func88, Try.ntmps88
  go_wp2_with fail
  refine (C1 _).mono ?_
  rintro e w1 ⟨A, q, c, rfl, hq, own1, bel1⟩
  have hqP : q = P := by rw [hq]; exact HP.out
  subst hqP
  have hs1 := bel1.size
  have HROW : Hid (Row w1 w1.heap.size A (strs (Tr.brT x))) := row_of_own own1
  have HB1 := Lib.hid bel1
  clear hq own1 bel1 C1
  go_wp2_with fail
  go_loopw [3, 4, 12] (fun v o i wr => ∃ (k : Nat) (a u : Int), k ≤ q ∧ v = .int .i64 a ∧ o = .int .i64 u ∧ i = .int .i64 k ∧ Hid (a = (Tr.symK Tr.sy (Tr.brT x) k).1) ∧ Hid (u = (Tr.symK Tr.sy (Tr.brT x) k).2) ∧ Below w1.heap.size w1 wr) (fun _ _ i _ => q - (intOf i).toNat)
  case atStart => exact ⟨0, 1, 0, Nat.zero_le _, rfl, rfl, rfl, rfl, rfl, Below.refl _ _⟩
  case round =>
    obtain ⟨k, a, u, hk, rfl, rfl, rfl, HA, HU, HBw⟩ := hrel
    have hsz := HBw.size
    by_cases hlt : k < q
    · obtain ⟨y, hy⟩ := at_lt (show k < (Tr.brT x).length by rw [HP.out]; exact hlt)
      obtain ⟨hyt, hyl⟩ := HBR.out y (List.mem_of_getElem? hy)
      obtain ⟨b, o, rfl, _, hc⟩ := (HROW.out.below HBw (Nat.le_refl _)) k _ (strs_at hy)
      have C2 := fun w => IH y w (by have := HXD.out; omega) hyt
      have hk0 := HK.out k (by rw [HP.out]; omega)
      have hk1 := HK.out (k + 1) (by rw [HP.out]; omega)
      have hm1 := HMU.out k (by rw [HP.out]; exact hlt)
      have ey : (Tr.brT x).getD k [] = y := by rw [List.getD_eq_getElem?_getD, hy]; rfl
      rw [ey] at hm1
      have hstep := symK_step (f := Tr.sy) hy
      obtain ⟨v, hv⟩ : ∃ v, v = (Tr.symK Tr.sy (Tr.brT x) (k + 1)).2 := ⟨_, rfl⟩
      rw [← hv] at hstep hm1
      obtain ⟨z, hz⟩ : ∃ z, z = Tr.sy y := ⟨_, rfl⟩
      rw [← hz] at hstep hm1 C2
      rw [← HA.out] at hstep hk0
      rw [hstep] at hk1
      have HST : Hid (a * (v * z) = (Tr.symK Tr.sy (Tr.brT x) (k + 1)).1) := by rw [Hid, hstep]
      have HSV : Hid (v = (Tr.symK Tr.sy (Tr.brT x) (k + 1)).2) := by rw [Hid, hstep]
      have hmw1 : IntKind.i64.wrap (v * z) = v * z := IntWalk.i64_in _ (by omega)
      have hmw2 : IntKind.i64.wrap (a * (v * z)) = a * (v * z) := IntWalk.i64_in _ (by have := hk1.1; simp only at this; omega)
      have hvb : 0 ≤ v ∧ v ≤ 8 := by have := hk1.2; simpa using this
      have hub := hk0.2
      rw [← HU.out] at hub
      obtain ⟨Y, hY⟩ : ∃ Y : ByteArray, Y = ⟨y.toArray⟩ := ⟨_, rfl⟩
      have HBW := Lib.hid HBw
      rcases Nat.eq_zero_or_pos k with rfl | hk1'
      · rw [Nat.add_zero] at hc
        have hu0 : u = 0 := by have := HU.out; simpa [Tr.symK] using this
        have hv1 : v = 1 := by rw [hv]; exact symK_zero
        subst hu0 hv1
        have hz1 : IntKind.i64.wrap z = z := by rw [Int.one_mul] at hmw1; exact hmw1
        have hz2 : IntKind.i64.wrap (a * z) = a * z := by rw [Int.one_mul] at hmw2; exact hmw2
        have HST1 : Hid (a * z = (Tr.symK Tr.sy (Tr.brT x) (0 + 1)).1) := by have := HST.out; rw [Int.one_mul] at this; exact this
        clear hmw1 hmw2 HST
        rw [← hY] at C2 hc
        clear hy hyt hyl hstep hz hY HBw hk0 hk1 hm1 ey hv HA HU hub hvb
        go_wp2_with fail
        refine (C2 _).mono ?_
        rintro e w2 ⟨rfl, bel2⟩
        have HB2 : Hid (Below w1.heap.size w1 w2) := HBW.out.trans (bel2.mono hsz)
        clear bel2
        go_wp2
        go_roundw
        case rel => exact ⟨1, _, _, by omega, rfl, rfl, by go_num, HST1.out, HSV.out, HB2.out⟩
        case measure => simp [intOf]; omega
      · obtain ⟨j, rfl⟩ : ∃ j, k = j + 1 := ⟨k - 1, by omega⟩
        obtain ⟨p, hp⟩ := at_lt (show j < (Tr.brT x).length by rw [HP.out]; omega)
        obtain ⟨_, _, e1, _, hcp⟩ := (HROW.out.below HBw (Nat.le_refl _)) j _ (strs_at hp)
        cases e1
        have hsame := symK_same (f := Tr.sy) hy hp
        rw [← hv, ← HU.out] at hsame
        have hstr := str_eqS y p
        obtain ⟨Y', hY'⟩ : ∃ Y' : ByteArray, Y' = ⟨p.toArray⟩ := ⟨_, rfl⟩
        rw [← hY, ← hY'] at hstr
        rw [← hY] at C2 hc
        rw [← hY'] at hcp
        have ek : (((j + 1 : Nat)) : Int) = (j : Int) + 1 := by omega
        have hwj : IntKind.i64.wrap (j : Int) = (j : Int) := IntWalk.i64_in _ (by omega)
        by_cases hyp : y = p
        · rw [if_pos hyp] at hsame
          have ht : (Y.toList == Y'.toList) = true := by rw [hstr]; exact decide_eq_true hyp
          have hwu : IntKind.i64.wrap (u + 1) = v := by rw [hsame]; exact IntWalk.i64_in _ (by omega)
          rw [ek]
          clear hy hp hyt hyl hstep hz hY hY' HBw hk0 hk1 hm1 ey hv HA HU hsame hstr hyp ek
          go_wp2_with fail
          refine (C2 _).mono ?_
          rintro e w2 ⟨rfl, bel2⟩
          have HB2 : Hid (Below w1.heap.size w1 w2) := HBW.out.trans (bel2.mono hsz)
          clear bel2
          go_wp2
          go_roundw
          case rel => exact ⟨j + 1 + 1, _, _, by omega, rfl, rfl, by go_num, HST.out, HSV.out, HB2.out⟩
          case measure => simp [intOf]; omega
        · rw [if_neg hyp] at hsame
          have ht : (Y.toList == Y'.toList) = false := by rw [hstr]; exact decide_eq_false hyp
          have hv1 : v = 1 := by omega
          subst hv1
          have hz1 : IntKind.i64.wrap z = z := by rw [Int.one_mul] at hmw1; exact hmw1
          have hz2 : IntKind.i64.wrap (a * z) = a * z := by rw [Int.one_mul] at hmw2; exact hmw2
          have HST1 : Hid (a * z = (Tr.symK Tr.sy (Tr.brT x) (j + 1 + 1)).1) := by have := HST.out; rw [Int.one_mul] at this; exact this
          clear hmw1 hmw2 HST
          rw [ek]
          clear hy hp hyt hyl hstep hz hY hY' HBw hk0 hk1 hm1 ey hv HA HU hsame hstr hyp ek hub hvb
          go_wp2_with fail
          refine (C2 _).mono ?_
          rintro e w2 ⟨rfl, bel2⟩
          have HB2 : Hid (Below w1.heap.size w1 w2) := HBW.out.trans (bel2.mono hsz)
          clear bel2
          go_wp2
          go_roundw
          case rel => exact ⟨j + 1 + 1, _, _, by omega, rfl, rfl, by go_num, HST1.out, HSV.out, HB2.out⟩
          case measure => simp [intOf]; omega
    · obtain rfl : k = q := by omega
      have G : Hid (Res1 (Tr.sy x) w (.returned (.int .i64 a)) wr) :=
        Res1.of (by rw [HD.out, HP.out, HA.out]) (HB1.out.trans (HBw.mono hs1))
      clear HBw
      go_wp2
      go_ret
      exact G.out
theorem symmetry_any (x : List UInt8) (w : World) (hx : Tr.isTx x = true) : Calls Try.prog 88 #[.string ⟨x.toArray⟩] w (Res1 (Tr.sy x) w) := by
  have key : ∀ d, PSym d := fun d => by
    induction d with
    | zero => intro y w hy ht; have := (Tr.br_parts ht).1.1; omega
    | succ d ih => exact pSym_succ d ih
  exact key x.length x w (Nat.le_refl _) hx
end Go.Proofs.Ytjmjdcfgbaepkaa
/-
  The model's branches and symmetries; what SymmetryOf answers.
-/
namespace Go.Proofs.Ytjmjdcfgbaepkaa
open Go.RowKit Fld
set_option linter.unusedVariables false
set_option linter.unusedSimpArgs false
set_option maxRecDepth 100000

def symmetryA (t : List Int) : Int × Int := if Tr.isLv t = true then (Tr.syM t, 0) else (0, 1)
theorem symmetryA_yes {t : List Int} (h : Tr.isLv t = true) : symmetryA t = (Tr.syM t, 0) := if_pos h
theorem symmetryA_no {t : List Int} (h : Tr.isLv t = false) : symmetryA t = (0, 1) := if_neg (by rw [h]; simp)
theorem pSymmetryOf_L (A : Option Addr) (n c B : Nat) (t : List Int) (w : World) (hl : t.length = n) (hn : n ≤ 1048576) (hB : B ≤ w.heap.size) (h : Row w B A (ints t)) (hc : n ≤ c) :
    Calls Try.prog 37 #[.slice A n c] w (ResI (symmetryA t) w) := by
  have C0 := isLevels_any A n c B t w hl (by omega) h
  cases hlv : Tr.isLv t
  · have G := Lib.hid (symmetryA_no hlv)
    rw [hlv] at C0
    go_enter Try.func37, Try.ntmps37
    go_wp2_with fail
    refine C0.mono ?_
    rintro e w' ⟨rfl, m, rfl⟩
    go_wp2
    go_ret2
    exact ResI.of' G.out (below_drewN (Below.refl _ _) _)
  · rw [hlv] at C0
    obtain ⟨b1, b8⟩ := lv_bd hlv
    rw [hl] at b1 b8
    have HL := Lib.hid hl
    have G := Lib.hid (symmetryA_yes hlv)
    have C3 := fun w => symmetry_any (Tr.txt t) w (Tr.tx_txt hlv)
    rw [(Tr.syM_parts hlv).2.1] at C3
    clear hl hlv
    go_enter Try.func37, Try.ntmps37
    go_wp2_with fail
    refine C0.mono ?_
    rintro e w' ⟨rfl, m, rfl⟩
    go_wp2_with fail
    refine (treeOf_any A n c B t _ HL.out b1 b8 hc (by exact hB) (h.drewN m)).mono ?_
    rintro e w2 ⟨rfl, bel2⟩
    go_wp2_with fail
    refine (C3 _).mono ?_
    rintro e w3 ⟨rfl, bel3⟩
    have GB : Hid (Below w.heap.size w w3) := (below_undrew' bel2).trans (bel3.mono bel2.size)
    clear bel2 bel3
    go_wp2
    go_ret2
    exact ResI.of' G.out GB.out
end Go.Proofs.Ytjmjdcfgbaepkaa
/-
  Labellings, the program's and the model's.
-/
namespace Go.Proofs.Ytjmjdcfgbaepkaa
open Go.RowKit Fld
set_option linter.unusedVariables false
set_option linter.unusedSimpArgs false
set_option maxRecDepth 100000

def factN : Nat → Int
  | 0 => 1
  | k+1 => factN k * ((k : Int) + 1)
theorem factN_small : ∀ k, k ≤ 8 → 1 ≤ factN k ∧ factN k ≤ 40320 := by decide +kernel
set_option maxHeartbeats 1000000 in
theorem labellings_any (x : List UInt8) (w : World) (hx : Tr.isTx x = true) : Calls Try.prog 90 #[.string ⟨x.toArray⟩] w (Res1 (((factN (x.length / 2)).tdiv (Tr.sy x)).tdiv (Tr.den x)) w) := by
  obtain ⟨⟨h2, h16⟩, _, _⟩ := Tr.br_parts hx
  have C0 := nodes_any x w (by omega)
  have CS := fun w => symmetry_any x w hx
  have CD := fun w => density_any x w hx
  obtain ⟨hd1, hd2⟩ := Tr.den_bd hx
  have hs1 : 1 ≤ Tr.sy x ∧ Tr.sy x ≤ 1000000 := by
    obtain ⟨e, hk, _⟩ := Tr.sy_parts hx
    rw [e]; exact (hk _ (Nat.le_refl _)).1
  obtain ⟨N, hN⟩ : ∃ N, N = x.length / 2 := ⟨_, rfl⟩
  have hN8 : N ≤ 8 := by omega
  obtain ⟨S, hS⟩ : ∃ S : ByteArray, S = ⟨x.toArray⟩ := ⟨_, rfl⟩
  obtain ⟨sv, hsv⟩ : ∃ v, v = Tr.sy x := ⟨_, rfl⟩
  obtain ⟨dv, hdv⟩ : ∃ v, v = Tr.den x := ⟨_, rfl⟩
  rw [← hS, ← hN] at C0
  rw [← hS, ← hsv] at CS
  rw [← hS, ← hdv] at CD
  rw [← hsv] at hs1
  rw [← hdv] at hd1 hd2
  rw [← hS, ← hN, ← hsv, ← hdv]
  clear hx hN hS hsv hdv h2 h16
  go_enter Try.func90, Try.ntmps90
  go_wp2_with fail
  refine C0.mono ?_
  rintro e w0 ⟨rfl, rfl⟩
  go_wp2_with fail
  go_loop [3, 7] (fun v i => ∃ (k : Nat) (a : Int), k ≤ N ∧ v = .int .i64 a ∧ i = .int .i64 k ∧ Hid (a = factN k)) (fun _ i => N - (intOf i).toNat)
  case atStart => exact ⟨0, 1, Nat.zero_le _, rfl, rfl, rfl⟩
  case round =>
    obtain ⟨k, a, hk, rfl, rfl, HA⟩ := hrel
    by_cases hlt : k < N
    · have HS : Hid (a * ((k : Int) + 1) = factN (k + 1)) := by rw [Hid, HA.out]; rfl
      have hb := factN_small (k + 1) (by omega)
      rw [← HS.out] at hb
      have hw1 : IntKind.i64.wrap (a * ((k : Int) + 1)) = a * ((k : Int) + 1) := IntWalk.i64_in _ (by omega)
      clear HA hb
      go_wp2
      go_round
      case rel => exact ⟨k + 1, _, by omega, rfl, by go_num, HS.out⟩
      case measure => simp [intOf]; omega
    · obtain rfl : k = N := by omega
      have hb := factN_small k hN8
      rw [← HA.out] at hb
      have HRR : Hid ((a.tdiv sv).tdiv dv = ((factN k).tdiv sv).tdiv dv) := by rw [Hid, HA.out]
      have ts : (sv == 0) = false := beq_f (by omega)
      have td : (dv == 0) = false := beq_f (by omega)
      have hq1 : 0 ≤ a.tdiv sv ∧ a.tdiv sv ≤ 40320 := by
        rw [Int.tdiv_eq_ediv_of_nonneg (by omega)]
        exact ⟨Int.ediv_nonneg (by omega) (by omega), Int.le_trans (Int.ediv_le_self _ (by omega)) (by omega)⟩
      have hq2 : 0 ≤ (a.tdiv sv).tdiv dv ∧ (a.tdiv sv).tdiv dv ≤ 40320 := by
        rw [Int.tdiv_eq_ediv_of_nonneg (by omega)]
        exact ⟨Int.ediv_nonneg (by omega) (by omega), Int.le_trans (Int.ediv_le_self _ (by omega)) (by omega)⟩
      have hw1 : IntKind.i64.wrap (a.tdiv sv) = a.tdiv sv := IntWalk.i64_in _ (by omega)
      have hw2 : IntKind.i64.wrap ((a.tdiv sv).tdiv dv) = (a.tdiv sv).tdiv dv := IntWalk.i64_in _ (by omega)
      clear HA hb
      go_wp2_with fail
      go_region_with (first | (go_at_call 88; refine (CS _).mono ?_; rintro e w2 ⟨rfl, bel2⟩) | (go_at_call 89; refine (CD _).mono ?_; rintro e w3 ⟨rfl, bel3⟩))
      all_goals
        try simp only [Act.put, List.setIfInBounds_toArray, List.set_cons_zero, List.set_cons_succ, List.getElem_toArray, List.getElem_cons_zero, List.getElem_cons_succ]
        first
          | have GB := Lib.hid ((below_undrew' bel2).trans (bel3.mono bel2.size))
          | have GB := Lib.hid ((below_undrew' bel3).trans (bel2.mono bel3.size))
        clear bel2 bel3
        go_wp2
        go_ret
        exact Res1.of HRR.out.symm GB.out
end Go.Proofs.Ytjmjdcfgbaepkaa
/-
  What LabellingsOf answers, the program's and the model's.
-/
namespace Go.Proofs.Ytjmjdcfgbaepkaa
open Go.RowKit Fld
set_option linter.unusedVariables false
set_option linter.unusedSimpArgs false
set_option maxRecDepth 100000

def labellingsA (t : List Int) : Int × Int := if Tr.isLv t = true then (((factN t.length).tdiv (Tr.syM t)).tdiv (Tr.denM t), 0) else (0, 1)
theorem labellingsA_yes {t : List Int} (h : Tr.isLv t = true) : labellingsA t = (((factN t.length).tdiv (Tr.syM t)).tdiv (Tr.denM t), 0) := if_pos h
theorem labellingsA_no {t : List Int} (h : Tr.isLv t = false) : labellingsA t = (0, 1) := if_neg (by rw [h]; simp)
theorem pLabellingsOf_L (A : Option Addr) (n c B : Nat) (t : List Int) (w : World) (hl : t.length = n) (hn : n ≤ 1048576) (hB : B ≤ w.heap.size) (h : Row w B A (ints t)) (hc : n ≤ c) :
    Calls Try.prog 39 #[.slice A n c] w (ResI (labellingsA t) w) := by
  have C0 := isLevels_any A n c B t w hl (by omega) h
  cases hlv : Tr.isLv t
  · have G := Lib.hid (labellingsA_no hlv)
    rw [hlv] at C0
    go_enter Try.func39, Try.ntmps39
    go_wp2_with fail
    refine C0.mono ?_
    rintro e w' ⟨rfl, m, rfl⟩
    go_wp2
    go_ret2
    exact ResI.of' G.out (below_drewN (Below.refl _ _) _)
  · rw [hlv] at C0
    obtain ⟨b1, b8⟩ := lv_bd hlv
    rw [hl] at b1 b8
    have HL := Lib.hid hl
    have G := Lib.hid (labellingsA_yes hlv)
    have C3 := fun w => labellings_any (Tr.txt t) w (Tr.tx_txt hlv)
    have e2 : (Tr.txt t).length / 2 = t.length := by rw [(lv_txt hlv).2.2.2]; omega
    rw [(Tr.syM_parts hlv).2.1, (Tr.denM_parts hlv).2, e2] at C3
    obtain ⟨v, hv⟩ : ∃ v, v = ((factN t.length).tdiv (Tr.syM t)).tdiv (Tr.denM t) := ⟨_, rfl⟩
    rw [← hv] at G C3
    clear hl hlv e2 hv
    go_enter Try.func39, Try.ntmps39
    go_wp2_with fail
    refine C0.mono ?_
    rintro e w' ⟨rfl, m, rfl⟩
    go_wp2_with fail
    refine (treeOf_any A n c B t _ HL.out b1 b8 hc (by exact hB) (h.drewN m)).mono ?_
    rintro e w2 ⟨rfl, bel2⟩
    go_wp2_with fail
    refine (C3 _).mono ?_
    rintro e w3 ⟨rfl, bel3⟩
    have GB : Hid (Below w.heap.size w w3) := (below_undrew' bel2).trans (bel3.mono bel2.size)
    clear bel2 bel3
    go_wp2
    go_ret2
    exact ResI.of' G.out GB.out
end Go.Proofs.Ytjmjdcfgbaepkaa
