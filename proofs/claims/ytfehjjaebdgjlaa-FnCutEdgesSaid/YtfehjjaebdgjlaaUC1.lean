/-
  Texts of this seat, joined: what several laws lean on.
-/
import Derived.Test.YtfehjjaebdgjlaaTests
import Derived.RegionTactic
import Derived.ChangeAlike
import Derived.Deep.QuietTactic
import Derived.BigQuiet
import Derived.Laws.BitsAllLaws
import Derived.Laws.BitsLemmas
import Derived.Laws.OwnMore
import Derived.OwnWalk
import Derived.Test.YtfehjjaebdgjlaaGrow
import Derived.Test.YtfehjjaebdgjlaaNest
import Derived.Deep.DeepCutAuto
import Derived.Deep.CutBlock
import Derived.Test.YtfehjjaebdgjlaaMark1
import Derived.Deep.AppendLies
import Derived.Deep.RegionHeld3
import Derived.Test.YtfehjjaebdgjlaaSlices
import Derived.Test.YtfehjjaebdgjlaaShelf
import Derived.Test.YtfehjjaebdgjlaaTree
import Derived.BigRegion
import Derived.Test.YtfehjjaebdgjlaaLev
import Derived.Lib.OthersKept
import Derived.Test.YtfehjjaebdgjlaaTreeD
import Derived.Outline
import Derived.Laws.DeepStrings4
import Derived.Test.YtfehjjaebdgjlaaTreeE
import Derived.Laws.Strings2
import Derived.Lib.SliceRun
import Derived.Deep.RegionLaw
import Derived.Shelf.RegionOpenPlain
import Derived.Test.YtfehjjaebdgjlaaTreeC5
import Derived.Test.YtfehjjaebdgjlaaSame
import Derived.Test.YtfehjjaebdgjlaaRes1
import Derived.Test.YtfehjjaebdgjlaaGrfP
import Derived.Test.YtfehjjaebdgjlaaCutL
import Derived.Test.YtfehjjaebdgjlaaGrfU
import Derived.Test.YtfehjjaebdgjlaaGrfL
import Derived.Test.YtfehjjaebdgjlaaGrfQ
/-
  Sources of numbers in memory, as the laws and the models draw from: each number lies below what was asked for.
-/
namespace Go.Proofs.Ytfehjjaebdgjlaa
open Go.RowKit Fld
set_option linter.unusedVariables false
set_option linter.unusedSimpArgs false
set_option maxRecDepth 100000

theorem Row.drewNd {w : World} {B : Nat} {A : Option Addr} {vs : List Value} (h : Row w B A vs) (n : Nat) : Row (w.drewN n) B A vs := h
theorem below_drewNd {B : Nat} {a w : World} (h : Below B a w) (n : Nat) : Below B a (w.drewN n) := ⟨h.os, h.tape, h.output, h.size, h.block⟩
/-- a source of numbers in memory: three cells -/
def SrcAt (w : World) (T : TypeId) (G : Nat) (A : Option Addr) (n c i : Nat) (h : Int) : Prop := w.heap[G]? = some (.cells #[.slice A n c, .int .i64 i, .int .u64 h] T (0, 0))
section
variable {w w' : World} {T : TypeId} {G n c i : Nat} {A : Option Addr} {h : Int}
theorem SrcAt.c0 (s : SrcAt w T G A n c i h) : w.cell? ⟨G, 0, none⟩ = some (.slice A n c) := by rw [cell_of_row w G 0 _ _ _ s]; rfl
theorem SrcAt.c1 (s : SrcAt w T G A n c i h) : w.cell? ⟨G, 1, none⟩ = some (.int .i64 i) := by rw [cell_of_row w G 1 _ _ _ s]; rfl
theorem SrcAt.c2 (s : SrcAt w T G A n c i h) : w.cell? ⟨G, 2, none⟩ = some (.int .u64 h) := by rw [cell_of_row w G 2 _ _ _ s]; rfl
theorem SrcAt.fr (s : SrcAt w T G A n c i h) (j : Nat) : w.frozen? ⟨G, j, none⟩ = false := frozen_of_row w G j _ _ s
theorem SrcAt.set1 (s : SrcAt w T G A n c i h) (i' : Nat) (v : Int) (hv : v = i') : SrcAt (w.setCell ⟨G, 1, none⟩ (.int .i64 v)) T G A n c i' h := by
  subst hv; exact heap_setCell_same w G 1 _ _ _ s
theorem SrcAt.set2 (s : SrcAt w T G A n c i h) (h' : Int) : SrcAt (w.setCell ⟨G, 2, none⟩ (.int .u64 h')) T G A n c i h' := heap_setCell_same w G 2 _ _ _ s
theorem SrcAt.drewN (s : SrcAt w T G A n c i h) (k : Nat) : SrcAt (w.drewN k) T G A n c i h := s
theorem SrcAt.lt (s : SrcAt w T G A n c i h) : G < w.heap.size := by
  rcases Nat.lt_or_ge G w.heap.size with g | g
  · exact g
  · unfold SrcAt at s; rw [Array.getElem?_eq_none g] at s; cases s
end
theorem mask_bd (z : Int) : 0 ≤ wrap64 (bits BinOp.and IntKind.u64 z 16777215) ∧ wrap64 (bits BinOp.and IntKind.u64 z 16777215) ≤ 16777215 := by
  have e : bits BinOp.and IntKind.u64 z 16777215 = ((BitVec.ofInt 64 z &&& BitVec.ofInt 64 16777215).toNat : Int) % 18446744073709551616 := rfl
  have h2 : (BitVec.ofInt 64 z &&& BitVec.ofInt 64 16777215).toNat ≤ 16777215 := by
    rw [BitVec.toNat_and]
    exact Nat.le_trans Nat.and_le_right (by decide)
  have h3 : bits BinOp.and IntKind.u64 z 16777215 = ((BitVec.ofInt 64 z &&& BitVec.ofInt 64 16777215).toNat : Int) := by rw [e]; omega
  rw [h3]
  unfold wrap64
  omega


def Src (w : World) (T : TypeId) (G B : Nat) (xs : List Int) : Prop :=
  ∃ A c i h, SrcAt w T G A xs.length c i h ∧ i ≤ xs.length ∧ B ≤ G ∧ Row w B A (intsK .u8 xs) ∧ xs.length ≤ 4096 ∧ ∀ x ∈ xs, 0 ≤ x ∧ x ≤ 255
/-- a number below m is drawn, and only the source turns -/
def Rolled (T : TypeId) (G B : Nat) (xs : List Int) (m : Int) (w : World) (e : Ending) (w' : World) : Prop :=
  ∃ r : Int, e = .returned (.int .i64 r) ∧ 0 ≤ r ∧ r < m ∧ Src w' T G B xs ∧ w.grownBy w' (some G)
theorem only_set {w w' : World} {G j : Nat} (h : w.grownBy w' (some G)) (u : Value) : w.grownBy (w'.setCell ⟨G, j, none⟩ u) (some G) :=
  ⟨h.os, h.tape, h.output, by simpa [World.setCell] using h.size, fun k hk hne => (Below.heap_setCell w' ⟨G, j, none⟩ u k (fun e => hne (by rw [e]))).trans (h.block k hk hne)⟩
theorem only_drewN {w w' : World} {G : Nat} (h : w.grownBy w' (some G)) (n : Nat) : w.grownBy (w'.drewN n) (some G) := ⟨h.os, h.tape, h.output, h.size, h.block⟩
theorem only_trans {a b c : World} {G : Nat} (h : a.grownBy b (some G)) (k : b.grownBy c (some G)) : a.grownBy c (some G) :=
  ⟨k.os.trans h.os, k.tape.trans h.tape, k.output.trans h.output, Nat.le_trans h.size k.size, fun i hi hne => (k.block i (Nat.lt_of_lt_of_le hi h.size) hne).trans (h.block i hi hne)⟩
theorem Row.only {w w' : World} {B G : Nat} {A : Option Addr} {vs : List Value} (h : Row w B A vs) (hg : w.grownBy w' (some G)) (hB : B ≤ G) : Row w' B A vs :=
  fun k v hv => by
    obtain ⟨b, o, e, hb, hc⟩ := h k v hv
    exact ⟨b, o, e, hb, hg.cell hc (fun e => by have := Option.some.inj e; simp at this; omega)⟩
theorem below_only {B : Nat} {a w w' : World} {G : Nat} (h : Below B a w) (hg : w.grownBy w' (some G)) (hB : B ≤ w.heap.size) (hG : B ≤ G) : Below B a w' :=
  h.grown hg hB (fun k hk => by cases hk; exact hG)


theorem big_any (A : Option Addr) (n c : Nat) (w : World) (hn : n ≤ 9223372036854775807) : Calls Try.prog 12 #[.slice A n c] w fun e w' => e = .returned (.bool (decide ((4096 : Int) < n))) ∧ w = w' := by
  go_enter Try.func12, Try.ntmps12
  go_wp2
  go_ret
  exact ⟨rfl, rfl⟩
set_option maxHeartbeats 800000 in
theorem l01Next_any (G B : Nat) (xs : List Int) (m : Int) (w : World) (hm : 1 ≤ m) (s : Src w 96 G B xs) :
    Calls Try.prog 49 #[.pointer (some ⟨G, 0, none⟩), .int .i64 m] w (Rolled 96 G B xs m w) := by
  obtain ⟨A, c, i, h, s, hi0, hBG, row, hn, hx⟩ := s
  have HX := Lib.hid hx
  clear hx
  have c2 := s.c2
  have f2 := s.fr 2
  have HS := Lib.hid s
  have HO : Hid (w.grownBy w (some G)) := World.grownBy.refl w (some G)
  clear s
  go_enter Try.func49, Try.ntmps49
  go_wp2_with fail
  generalize IntKind.u64.wrap (IntKind.u64.wrap (h * 6364136223846793005) + 1442695040888963407) = q
  obtain ⟨x0, x1⟩ := mask_bd (q / 8589934592)
  generalize wrap64 (bits BinOp.and IntKind.u64 (q / 8589934592) 16777215) = x at *
  have s2 := HS.out.set2 q
  have HO2 := Lib.hid (only_set (j := 2) HO.out (.int .u64 q))
  have row2 := row.only HO2.out hBG
  clear c2 f2 HS HO row
  generalize w.setCell ⟨G, 2, none⟩ (.int .u64 q) = W1 at *
  have c0 := s2.c0
  have c1 := s2.c1
  have f1 := s2.fr 1
  have HS := Lib.hid s2
  clear s2
  by_cases hi : i < xs.length
  · obtain ⟨y, hy⟩ := at_lt hi
    obtain ⟨b, o, rfl, hb, hc⟩ := row2 i _ (intsK_at hy)
    obtain ⟨y0, y1⟩ := HX.out y (List.mem_of_getElem? hy)
    have hne : b ≠ G := by omega
    clear hy
    go_quiet (fail)
    go_wp2_with fail
    go_quiet (fail)
    go_wp2
    go_ret
    exact ⟨_, rfl, Int.emod_nonneg _ (by omega), Int.emod_lt_of_pos _ (by omega), ⟨_, _, _, _, (HS.out.drewN _).set1 (i + 1) _ (by omega), by omega, hBG, Row.only (row2.drewNd _) (only_set (World.grownBy.refl _ _) _) hBG, hn, HX.out⟩, only_set (only_drewN HO2.out _) _⟩
  · go_quiet (fail)
    go_wp2
    go_ret
    exact ⟨_, rfl, Int.emod_nonneg _ (by omega), Int.emod_lt_of_pos _ (by omega), ⟨_, _, _, _, HS.out.drewN _, by omega, hBG, row2.drewNd _, hn, HX.out⟩, only_drewN HO2.out _⟩

/-- a new source over a list of bytes -/
def NewSrc (T : TypeId) (B : Nat) (xs : List Int) (w : World) (e : Ending) (w' : World) : Prop :=
  ∃ G, e = .returned (.pointer (some ⟨G, 0, none⟩)) ∧ w.heap.size ≤ G ∧ Src w' T G B xs ∧ Below w.heap.size w w'
def Hashing (w : World) (T : TypeId) (A : Option Addr) (n c : Nat) (wr : World) : Prop :=
  ∃ h, SrcAt wr T w.heap.size A n c (0 : Nat) h ∧ Below w.heap.size w wr
theorem Hashing.start (w : World) (T : TypeId) (A : Option Addr) (n c : Nat) (h : Int) : Hashing w T A n c (w.alloc (.cells #[.slice A n c, .int .i64 0, .int .u64 h] T)) :=
  ⟨h, heap_alloc_new w _, (Below.refl _ _).alloc (Nat.le_refl _) _⟩
theorem SrcAt.drew {w : World} {T : TypeId} {G n c i : Nat} {A : Option Addr} {h : Int} (s : SrcAt w T G A n c i h) : SrcAt w.drew T G A n c i h := s
theorem Hashing.step {w wr : World} {T : TypeId} {A : Option Addr} {n c : Nat} {h q : Int} (s : SrcAt wr T w.heap.size A n c (0 : Nat) h) (b : Below w.heap.size w wr) : Hashing w T A n c (wr.setCell ⟨w.heap.size, 2, none⟩ (.int .u64 q)).drew :=
  ⟨q, (s.set2 q).drew, (b.setCell (p := ⟨w.heap.size, 2, none⟩) (Nat.le_refl _) _).drew⟩
theorem Hashing.done {w wr : World} {T : TypeId} {A : Option Addr} {n c B : Nat} {h : Int} {xs : List Int} (s : SrcAt wr T w.heap.size A n c (0 : Nat) h) (b : Below w.heap.size w wr) (hl : xs.length = n) (hn : n ≤ 4096) (hB : B ≤ w.heap.size)
    (hr : Row w B A (intsK .u8 xs)) (hx : ∀ x ∈ xs, 0 ≤ x ∧ x ≤ 255) : NewSrc T B xs w (.returned (.pointer (some ⟨w.heap.size, 0, none⟩))) wr := by
  subst hl
  exact ⟨_, rfl, Nat.le_refl _, ⟨A, c, 0, h, s, by omega, hB, hr.below b hB, hn, hx⟩, b⟩
set_option maxRecDepth 100000 in
set_option maxHeartbeats 800000 in
theorem l01From_any (A : Option Addr) (n c B : Nat) (xs : List Int) (w : World) (hl : xs.length = n) (hn : n ≤ 4096) (hB : B ≤ w.heap.size) (h : Row w B A (intsK .u8 xs)) (hx : ∀ x ∈ xs, 0 ≤ x ∧ x ≤ 255) :
    Calls Try.prog 47 #[.slice A n c] w (NewSrc 96 B xs w) := by
  have HX := Lib.hid hx
  have HL := Lib.hid hl
  clear hx hl
  go_enter Try.func47, Try.ntmps47
  go_wp2_with fail
  go_loopw [4] (fun i wr => ∃ k : Nat, k ≤ n ∧ i = .int .i64 k ∧ Hashing w 96 A n c wr) (fun i _ => n - (intOf i).toNat)
  case atStart => exact ⟨0, Nat.zero_le _, rfl, Hashing.start ..⟩
  case round =>
    obtain ⟨k, hk, rfl, q0, hs, hb⟩ := hrel
    have c2 := hs.c2
    have f2 := hs.fr 2
    have HS := Lib.hid hs
    clear hs
    by_cases hlt : k < n
    · obtain ⟨y, hy⟩ := at_lt (show k < xs.length by rw [HL.out]; exact hlt)
      obtain ⟨b, o, rfl, hbB, hc⟩ := h.below hb hB k _ (intsK_at hy)
      obtain ⟨y0, y1⟩ := HX.out y (List.mem_of_getElem? hy)
      have hne : b ≠ w.heap.size := by omega
      clear hy
      go_wp2_with fail
      go_region
      all_goals
        go_wp2
        go_roundw
        case rel => exact ⟨k + 1, by omega, by go_num, Hashing.step HS.out hb⟩
        case measure => simp [intOf]; omega
    · obtain rfl : k = n := by omega
      have G := Lib.hid (Hashing.done HS.out hb HL.out hn hB h HX.out)
      clear c2 f2 HS
      go_wp2
      go_ret
      exact G.out

/-- a number of the field is drawn, and only the source (and new memory) turns -/
def Drawn (P : Int → Prop) (T : TypeId) (G B : Nat) (xs : List Int) (w : World) (e : Ending) (w' : World) : Prop :=
  ∃ r : Int, e = .returned (.int .i64 r) ∧ P r ∧ Src w' T G B xs ∧ w.grownBy w' (some G)
theorem only_alloc {w w' : World} {G : Nat} (h : w.grownBy w' (some G)) (o : Obj) : w.grownBy (w'.alloc o) (some G) :=
  ⟨h.os, h.tape, h.output, Nat.le_trans h.size (by simp), fun k hk hne => (Below.heap_alloc w' o k (Nat.lt_of_lt_of_le hk h.size)).trans (h.block k hk hne)⟩
theorem Src.lt {w : World} {T : TypeId} {G B : Nat} {xs : List Int} (s : Src w T G B xs) : G < w.heap.size := by
  obtain ⟨_, _, _, _, h, _⟩ := s; exact h.lt
theorem Src.alloc {w : World} {T : TypeId} {G B : Nat} {xs : List Int} (s : Src w T G B xs) (o : Obj) : Src (w.alloc o) T G B xs := by
  obtain ⟨A, c, i, h, h1, h2, h3, h4, h5⟩ := s
  exact ⟨A, c, i, h, (Below.heap_alloc w o G h1.lt).trans h1, h2, h3, h4.alloc (by have := h1.lt; omega) o, h5⟩
theorem Src.below {w w' : World} {T : TypeId} {G B : Nat} {xs : List Int} (s : Src w T G B xs) (hb : Below w.heap.size w w') : Src w' T G B xs := by
  obtain ⟨A, c, i, h, h1, h2, h3, h4, h5⟩ := s
  exact ⟨A, c, i, h, (hb.block G h1.lt).trans h1, h2, h3, h4.below hb (by have := h1.lt; omega), h5⟩
def IsN (r : Int) : Prop := 0 ≤ r ∧ r < 10007
def IsI64 (r : Int) : Prop := -9223372036854775808 ≤ r ∧ r ≤ 9223372036854775807

/-- one of a list is drawn -/
theorem mem_small {r : Int} (h : r ∈ ([0, 1, 0, 1, 10006, 2] : List Int)) : IsN r := by
  simp at h; unfold IsN; omega
theorem mem_spoil {r : Int} (h : r ∈ ([-1, 10007, 1099511627776, -4611686018427387904] : List Int)) : IsI64 r := by
  simp at h; unfold IsI64; omega
theorem i64_of_n {r : Int} (h : IsN r) : IsI64 r := by unfold IsN at h; unfold IsI64; omega
/-- two numbers that are drawn out of a code -/
def DrawnTwo (P Q : Int → Prop) (w : World) (e : Ending) (w' : World) : Prop := ∃ a b : Int, e = .returned (.tuple #[.int .i64 a, .int .i64 b]) ∧ P a ∧ Q b ∧ Below w.heap.size w w'
def DrawnOne (P : Int → Prop) (w : World) (e : Ending) (w' : World) : Prop := ∃ a : Int, e = .returned (.int .i64 a) ∧ P a ∧ Below w.heap.size w w'
/-- a code that came in -/
def IsCode (w : World) (A : Option Addr) (n : Nat) (xs : List Int) : Prop := xs.length = n ∧ Row w w.heap.size A (intsK .u8 xs) ∧ ∀ x ∈ xs, 0 ≤ x ∧ x ≤ 255
theorem isCode_of {w : World} {A : Option Addr} {n c : Nat} {xs : List Int} (h : IsRow .u8 w A n c xs) : IsCode w A n xs := by
  obtain ⟨h1, _, _, h4, h5⟩ := h
  exact ⟨h1, h4, fun x hx => by simpa [Lit.wf, IntKind.min, IntKind.max, IntKind.signed, IntKind.bits] using h5 x hx⟩
theorem IsCode.below {w w' : World} {A : Option Addr} {n : Nat} {xs : List Int} (h : IsCode w A n xs) (hb : Below w.heap.size w w') : IsCode w' A n xs :=
  ⟨h.1, (h.2.1.below hb (Nat.le_refl _)).more hb.size, h.2.2⟩
end Go.Proofs.Ytfehjjaebdgjlaa
/-
  Draws of lists: worlds in which a source and rows of the call's own have turned.
-/
namespace Go.Proofs.Ytfehjjaebdgjlaa
open Go.RowKit Fld
set_option linter.unusedVariables false
set_option linter.unusedSimpArgs false
set_option maxRecDepth 100000

/-- a row of the call's own has turned, and the source -/
theorem only_row {w a b : World} {G g : Nat} (h : w.grownBy a (some G)) (k : a.grownBy b (some g)) (hg : w.heap.size ≤ g) : w.grownBy b (some G) :=
  ⟨k.os.trans h.os, k.tape.trans h.tape, k.output.trans h.output, Nat.le_trans h.size k.size, fun i hi hne => (k.block i (Nat.lt_of_lt_of_le hi h.size) (fun e => by have := Option.some.inj e; omega)).trans (h.block i hi hne)⟩
theorem Src.only {w w' : World} {T : TypeId} {G B g : Nat} {xs : List Int} (s : Src w T G B xs) (k : w.grownBy w' (some g)) (hg : g ≠ G) (hB : B ≤ g) : Src w' T G B xs := by
  obtain ⟨A, c, i, h, h1, h2, h3, h4, h5⟩ := s
  exact ⟨A, c, i, h, (k.block G h1.lt (fun e => hg (Option.some.inj e).symm)).trans h1, h2, h3, h4.only k hB, h5⟩
/-- a list that was drawn: its own memory, and only the source has turned -/
def DrawnL (P : List Int → Prop) (T : TypeId) (G B : Nat) (xs : List Int) (w : World) (e : Ending) (w' : World) : Prop :=
  ∃ g c n, ∃ ys : List Int, e = .returned (.slice (some ⟨g, 0, none⟩) n c) ∧ ys.length = n ∧ P ys ∧ w'.ownsRow w.heap.size 2 1 (.slice (some ⟨g, 0, none⟩) n c) n (ints ys) ∧ Src w' T G B xs ∧ w.grownBy w' (some G)
theorem own_past {w w1 : World} {base G g n c : Nat} {vs : List Value} (h : w.ownsRow base 2 1 (.slice (some ⟨g, 0, none⟩) n c) n vs) (hG : G < base) (o : w.grownBy w1 (some G)) : w1.ownsRow base 2 1 (.slice (some ⟨g, 0, none⟩) n c) n vs :=
  h.kept o (.inr (fun e => by have h1 := (h.lt g rfl).1; have h2 : g = G := (by simpa [Value.ownBlock] using e); omega))
theorem own_room {w : World} {base n c : Nat} {A : Option Addr} {vs : List Value} (h : w.ownsRow base 2 1 (.slice A n c) n vs) : n ≤ c := by
  rcases h.2 with ⟨e1, e2⟩ | ⟨g, cap, cur, e1, _, _, e2, _⟩
  · omega
  · injection e1 with e3 e4 e5; omega
theorem row_only {w w' : World} {base G g n c : Nat} {vs : List Value} (h : w.ownsRow base 2 1 (.slice (some ⟨g, 0, none⟩) n c) n vs) (hG : G < base) (o : w.grownBy w' (some G)) : Row w' w'.heap.size (some ⟨g, 0, none⟩) vs := row_of_own (own_past h hG o)
theorem own_pastv {w w1 : World} {base G n k : Nat} {T : TypeId} {v : Value} {vs : List Value} (h : w.ownsRow base T k v n vs) (hG : G < base) (o : w.grownBy w1 (some G)) : w1.ownsRow base T k v n vs := h.kept o (.inr (fun e => by have := (h.lt G e).1; omega))
/-- a list that was drawn, or none -/
def DrawnR (P : List Int → Prop) (T : TypeId) (G B : Nat) (xs : List Int) (w : World) (e : Ending) (w' : World) : Prop :=
  ∃ A c n, ∃ ys : List Int, e = .returned (.slice A n c) ∧ ys.length = n ∧ P ys ∧ w'.ownsRow w.heap.size 2 1 (.slice A n c) n (ints ys) ∧ Src w' T G B xs ∧ w.grownBy w' (some G)
end Go.Proofs.Ytfehjjaebdgjlaa
/-
  Draws of level lists: what is mostly one.
-/
namespace Go.Proofs.Ytfehjjaebdgjlaa
open Go.RowKit Fld
set_option linter.unusedVariables false
set_option linter.unusedSimpArgs false
set_option maxRecDepth 100000

theorem at_lastT {ys : List Int} {j : Nat} (h : ys.length = j + 1) : ∃ y, ys[j]? = some y ∧ y ∈ ys := by
  have hj : j < ys.length := by omega
  exact ⟨ys[j], List.getElem?_eq_getElem hj, List.getElem_mem hj⟩
theorem ints_snocT (ys : List Int) (r : Int) : ints ys ++ [.int .i64 r] = ints (ys ++ [r]) := by simp [ints, intsK]
def UpTo (ys : List Int) (j : Nat) : Prop := ∀ y ∈ ys, 0 ≤ y ∧ y ≤ (j : Int)
theorem UpTo.snoc {ys : List Int} {j : Nat} {r : Int} (h : UpTo ys j) (h0 : 0 ≤ r) (h1 : r ≤ (j : Int) + 1) : UpTo (ys ++ [r]) (j + 1) := fun y hy => by
  rcases List.mem_append.1 hy with h2 | h2
  · have := h y h2; omega
  · obtain rfl : y = r := by simpa using h2
    omega
set_option maxHeartbeats 1000000 in
theorem l03Draw_any (G B : Nat) (xs : List Int) (n : Nat) (w : World) (h1 : 1 ≤ n) (hn : n ≤ 64) (s : Src w 96 G B xs) :
    Calls Try.prog 79 #[.pointer (some ⟨G, 0, none⟩), .int .i64 n] w (DrawnL (fun ys => 1 ≤ ys.length ∧ ys.length ≤ n) 96 G B xs w) := by
  obtain ⟨i0, hi, hz0, hz1, hz2⟩ := info_parts info_i64
  have HG := s.lt
  have S0 := Lib.hid (s.alloc (.cells #[.int .i64 0] 2))
  have O0 : Hid ((w.alloc (.cells #[.int .i64 0] 2)).ownsRow w.heap.size 2 1 (.slice (some ⟨w.heap.size, 0, none⟩) 1 1) 1 (ints [0])) := World.ownsRow_lit w #[.int .i64 0] 1 (Nat.le_refl _) (by decide) rfl
  have U0 : Hid (UpTo [0] 0) := fun y hy => by
    obtain rfl : y = 0 := by simpa using hy
    omega
  clear s
  go_enter Try.func79, Try.ntmps79
  go_wp2_with fail
  refine (l01Next_any G B xs _ _ (by omega) S0.out).mono ?_
  rintro e w1 ⟨r, rfl, r0, r1, s1, o1⟩
  obtain ⟨rn, rfl⟩ : ∃ rn : Nat, r = (rn : Int) := ⟨r.toNat, by omega⟩
  have O1 := Lib.hid (own_pastv O0.out HG o1)
  have G1 := Lib.hid (only_trans (World.grownBy_alloc w (.cells #[.int .i64 0] 2) (some G)) o1)
  have S1 := Lib.hid s1
  clear O0 S0 s1 o1
  go_wp2_with fail
  go_loopw [5, 6] (fun v q wr => ∃ j g cap : Nat, ∃ ys : List Int, j ≤ rn ∧ v = .slice (some ⟨g, 0, none⟩) (j + 1) cap ∧ q = .int .i64 ((rn : Int) - j) ∧ ys.length = j + 1 ∧ Hid (UpTo ys j) ∧ wr.ownsRow w.heap.size 2 1 (.slice (some ⟨g, 0, none⟩) (j + 1) cap) (j + 1) (ints ys) ∧ Src wr 96 G B xs ∧ w.grownBy wr (some G)) (fun _ q _ => (intOf q).toNat)
  case atStart => exact ⟨0, _, _, [0], by omega, rfl, by simp, rfl, U0, O1.out, S1.out, G1.out⟩
  case round =>
    obtain ⟨j, g, cap, ys, hj, rfl, rfl, hy1, HU, hown, hs, ho⟩ := hrel
    by_cases hlt : j < rn
    · have h0 : (0 : Int) < (rn : Int) - j := by omega
      have hg := (hown.lt g rfl).1
      obtain ⟨y, hy, hm⟩ := at_lastT hy1
      have hy2 := HU.out y hm
      have hc := hown.cellAt j (by omega)
      rw [ints_at hy] at hc
      have HY1 := Lib.hid hy1
      have HO := Lib.hid hown
      have HGR := Lib.hid ho
      have hsz := ho.size
      clear hown hy1 ho hy hm O1 S1 G1 U0
      go_wp2_with fail
      refine (l01Next_any G B xs _ _ (by omega) hs).mono ?_
      rintro e w1 ⟨r, rfl, q0, q1, s1, o1⟩
      have own1 := own_pastv HO.out HG o1
      have hsz1 := o1.size
      have HR : Hid (UpTo (ys ++ [1 + r]) (j + 1)) := HU.out.snoc (by omega) (by omega)
      have HR' := Lib.hid (ints_snocT ys (1 + r))
      have O1 := Lib.hid o1
      clear hs o1 HU
      go_wp2_with (at_builtin; refine wpList_append_lies _ rfl (.tmp 15) (.tmp 26) 24 rfl w.heap.size 2 i0 _ 1 8 Try.underlying24 hi hz0 hz1 hz2 rfl (by omega) (.slice (some ⟨g, 0, none⟩) (j + 1) cap) (j + 1) (ints ys) rfl (own1.alloc _) ⟨w1.heap.size, 0, none⟩ 1 1 [.int .i64 (1 + r)] rfl rfl (World.news_of_block (cs := #[.int .i64 (1 + r)]) (heap_alloc_new _ _)) (by simp [Value.oneCell']) (by omega) (by simp only [maxLen]; omega) (by omega) (by simp; omega) (w1.heap.size + 1) (by simp) ?_; intro g2 cap2 w2 hown2 hgrow2 hat2 hlt2)
      rw [HR'.out] at hown2
      have s2 := (s1.alloc (.cells #[.int .i64 (1 + r)] 2)).only (g := g) hgrow2 (by omega) (by obtain ⟨_, _, _, _, _, _, h3, _⟩ := s1; omega)
      have G2 := Lib.hid (only_row (only_alloc (only_trans HGR.out O1.out) _) hgrow2 hg)
      have S2 := Lib.hid s2
      have OW2 := Lib.hid hown2
      clear hown2 hgrow2 hat2 s1 s2 own1
      go_wp2
      go_roundw
      case rel => exact ⟨j + 1, _, _, ys ++ [1 + r], by omega, rfl, by go_num, by simp [HY1.out], HR, OW2.out, S2.out, G2.out⟩
      case measure => simp [intOf]; omega
    · obtain rfl : j = rn := by omega
      have HD : Hid (DrawnL (fun ys => 1 ≤ ys.length ∧ ys.length ≤ n) 96 G B xs w (.returned (.slice (some ⟨g, 0, none⟩) (j + 1) cap)) wr) := ⟨g, cap, j + 1, ys, rfl, hy1, ⟨by omega, by omega⟩, hown, hs, ho⟩
      have h0 : ¬ (0 : Int) < (j : Int) - j := by omega
      clear hown hs ho hy1 HU O1 S1 G1 U0
      go_wp2
      go_ret
      exact HD.out
theorem ints_setT (ys : List Int) (r : Int) (k : Nat) : (ints ys).set k (.int .i64 r) = ints (ys.set k r) := by simp [ints, intsK, List.map_set]
set_option maxHeartbeats 2000000 in
theorem l03DrawAny_any (G B : Nat) (xs : List Int) (n : Nat) (w : World) (h1 : 1 ≤ n) (hn : n ≤ 64) (s : Src w 96 G B xs) :
    Calls Try.prog 48 #[.pointer (some ⟨G, 0, none⟩), .int .i64 n] w (DrawnR (fun ys => ys.length ≤ n + 8) 96 G B xs w) := by
  obtain ⟨i0, hi, hz0, hz1, hz2⟩ := info_parts info_i64
  have HG := s.lt
  go_enter Try.func48, Try.ntmps48
  go_wp2_with fail
  refine (l03Draw_any G B xs n _ h1 hn s).mono ?_
  rintro e w1 ⟨g, c, l, ys, rfl, hl, ⟨p1, p2⟩, own1, s1, o1⟩
  rw [hl] at p1 p2
  have hg := (own1.lt g rfl).1
  have HGw := s1.lt
  have O1 := Lib.hid own1
  have G1 := Lib.hid o1
  have HL := Lib.hid hl
  clear s own1 o1 hl
  go_wp2_with fail
  refine (l01Next_any G B xs _ _ (by omega) s1).mono ?_
  rintro e w2 ⟨r, rfl, r0, r1, s2, o2⟩
  have O2 := Lib.hid (own_pastv O1.out HG o2)
  have G2 := Lib.hid (only_trans G1.out o2)
  clear O1 G1 s1 o2
  by_cases c0 : r = 0
  · have t0 := beq_t c0
    clear c0
    go_wp2_with fail
    refine (l01Next_any G B xs _ _ (by omega) s2).mono ?_
    rintro e w3 ⟨q, rfl, q0, q1, s3, o3⟩
    obtain ⟨qn, rfl⟩ : ∃ qn : Nat, q = (qn : Int) := ⟨q.toNat, by omega⟩
    have O3 := Lib.hid (own_pastv O2.out HG o3)
    have G3 := Lib.hid (only_trans G2.out o3)
    clear O2 G2 s2 o3
    go_wp2_with fail
    refine (l01Next_any G B xs _ _ (by omega) s3).mono ?_
    rintro e w4 ⟨p, rfl, q2, q3, s4, o4⟩
    have O4 := Lib.hid (own_pastv O3.out HG o4)
    have G4 := Lib.hid (only_trans G3.out o4)
    clear O3 G3 s3 o4
    have hf := O4.out.frozenAt qn
    have hc := O4.out.cellAt qn (by omega)
    obtain ⟨y, hy⟩ := at_lt (show qn < ys.length by rw [HL.out]; omega)
    rw [ints_at hy] at hc
    obtain ⟨O5, H5⟩ := O4.out.stored qn (.int .i64 (p - 1))
    rw [ints_setT] at O5
    have HD : Hid (DrawnR (fun ys => ys.length ≤ n + 8) 96 G B xs w (.returned (.slice (some ⟨g, 0, none⟩) l c)) (w4.setCell ⟨g, qn, none⟩ (.int .i64 (p - 1)))) := ⟨_, c, l, _, rfl, by rw [List.length_set]; exact HL.out, by show (ys.set _ _).length ≤ n + 8; rw [List.length_set, HL.out]; omega, O5, s4.only H5 (by omega) (by obtain ⟨_, _, _, _, _, _, h3, _⟩ := s4; omega), only_row G4.out H5 hg⟩
    clear O4 G4 O5 H5 hy s4
    go_wp2
    go_ret
    exact HD.out
  · have t0 := beq_f c0
    by_cases c1 : r = 1
    · have t1 := beq_t c1
      have HD : Hid (DrawnR (fun ys => ys.length ≤ n + 8) 96 G B xs w (.returned (.slice none 0 0)) w2) := ⟨none, 0, 0, [], rfl, rfl, by simp, World.ownsRow_nil .., s2, G2.out⟩
      clear c0 c1 s2 G2 O2
      go_wp2
      go_ret
      exact HD.out
    · have t1 := beq_f c1
      by_cases c2 : r = 2
      · have t2 := beq_t c2
        have S2 := Lib.hid s2
        clear c0 c1 c2 s2
        go_wp2_with fail
        go_loopw [5, 6] (fun v q wr => ∃ j g cap : Nat, ∃ ys : List Int, j ≤ 8 ∧ v = .slice (some ⟨g, 0, none⟩) (l + j) cap ∧ q = .int .i64 j ∧ ys.length = l + j ∧ wr.ownsRow w.heap.size 2 1 (.slice (some ⟨g, 0, none⟩) (l + j) cap) (l + j) (ints ys) ∧ Src wr 96 G B xs ∧ w.grownBy wr (some G)) (fun _ q _ => 8 - (intOf q).toNat)
        case atStart => exact ⟨0, _, _, ys, by omega, rfl, rfl, HL.out, O2.out, S2.out, G2.out⟩
        case round =>
          obtain ⟨j, g, cap, ys, hj, rfl, rfl, hy1, hown, hs, ho⟩ := hrel
          by_cases hlt : j < 8
          · have hg := (hown.lt g rfl).1
            have HY1 := Lib.hid hy1
            have HO := Lib.hid hown
            have HGR := Lib.hid ho
            have hsz := ho.size
            have HS := Lib.hid hs
            have HB := Lib.hid (show B ≤ g from by obtain ⟨_, _, _, _, _, _, h3, _⟩ := hs; omega)
            have HR' := Lib.hid (ints_snocT ys 1)
            clear hown hy1 ho hs O2 S2 G2 HL
            go_wp2_with (at_builtin; refine wpList_append_lies _ rfl (.tmp 31) (.tmp 32) 24 rfl w.heap.size 2 i0 _ 1 8 Try.underlying24 hi hz0 hz1 hz2 rfl (by omega) (.slice (some ⟨g, 0, none⟩) (l + j) cap) (l + j) (ints ys) rfl (HO.out.alloc _) ⟨wr.heap.size, 0, none⟩ 1 1 [.int .i64 1] rfl rfl (World.news_of_block (cs := #[.int .i64 1]) (heap_alloc_new _ _)) (by simp [Value.oneCell']) (by omega) (by simp only [maxLen]; omega) (by omega) (by simp; omega) (wr.heap.size + 1) (by simp) ?_; intro g2 cap2 w2 hown2 hgrow2 hat2 hlt2)
            rw [HR'.out] at hown2
            have s2 := (HS.out.alloc (.cells #[.int .i64 1] 2)).only (g := g) hgrow2 (by omega) HB.out
            have G2 := Lib.hid (only_row (only_alloc HGR.out _) hgrow2 hg)
            have S2 := Lib.hid s2
            have OW2 := Lib.hid hown2
            clear hown2 hgrow2 hat2 s2
            go_wp2
            go_roundw
            case rel => exact ⟨j + 1, _, _, ys ++ [1], by omega, rfl, by go_num, by simp [HY1.out]; omega, OW2.out, S2.out, G2.out⟩
            case measure => simp [intOf]; omega
          · obtain rfl : j = 8 := by omega
            have HD : Hid (DrawnR (fun ys => ys.length ≤ n + 8) 96 G B xs w (.returned (.slice (some ⟨g, 0, none⟩) (l + 8) cap)) wr) := ⟨_, cap, l + 8, ys, rfl, hy1, by show ys.length ≤ n + 8; omega, hown, hs, ho⟩
            clear hown hs ho hy1 O2 S2 G2 HL
            go_wp2
            go_ret
            exact HD.out
      · have t2 := beq_f c2
        have HD : Hid (DrawnR (fun ys => ys.length ≤ n + 8) 96 G B xs w (.returned (.slice (some ⟨g, 0, none⟩) l c)) w2) := ⟨_, c, l, ys, rfl, HL.out, by show ys.length ≤ n + 8; rw [HL.out]; omega, O2.out, s2, G2.out⟩
        clear c0 c1 c2 s2 G2 O2
        go_wp2
        go_ret
        exact HD.out
/-- a tree and a node -/
def DrawnN (w : World) (e : Ending) (w' : World) : Prop := ∃ A c n, ∃ ys : List Int, ∃ k : Int, e = .returned (.tuple #[.slice A n c, .int .i64 k]) ∧ ys.length = n ∧ n ≤ 16 ∧ n ≤ c ∧ Row w' w'.heap.size A (ints ys) ∧ (-1 ≤ k ∧ k ≤ 17) ∧ Below w.heap.size w w'
theorem drawCutAbove_any (A : Option Addr) (n c : Nat) (xs : List Int) (w : World) (hn : n ≤ 4096) (hx : IsCode w A n xs) : Calls Try.prog 13 #[.slice A n c] w (DrawnN w) := by
  obtain ⟨hl, h, hx⟩ := hx
  go_enter Try.func13, Try.ntmps13
  go_wp2_with fail
  refine (l01From_any A n c w.heap.size xs w hl hn (Nat.le_refl _) h hx).mono ?_
  rintro e w1 ⟨G, rfl, hG, s1, b1⟩
  have HG1 := s1.lt
  clear h hx hl
  go_wp2_with fail
  refine (l03DrawAny_any G w.heap.size xs 8 _ (by omega) (by omega) s1).mono ?_
  rintro e w2 ⟨A2, c2, l, ys, rfl, hl, hl2, own2, s2, o2⟩
  have hl16 : l ≤ 16 := by have : ys.length ≤ 8 + 8 := hl2; omega
  have hcp := own_room own2
  have OW := Lib.hid own2
  have HL := Lib.hid hl
  have GR := Lib.hid (below_only b1 o2 b1.size hG)
  clear own2 hl hl2 s1 o2 b1
  go_wp2_with fail
  refine (l01Next_any G _ xs _ _ (by omega) s2).mono ?_
  rintro e w3 ⟨a, rfl, a0, a1, s3, o3⟩
  have OW3 := Lib.hid (own_pastv OW.out HG1 o3)
  have GR3 := Lib.hid (below_only GR.out o3 GR.out.size hG)
  clear OW GR s2 o3
  go_wp2_with fail
  refine (l01Next_any G _ xs _ _ (by omega) s3).mono ?_
  rintro e w4 ⟨b, rfl, b0, b1, s4, o4⟩
  have OW4 := Lib.hid (own_pastv OW3.out HG1 o4)
  have GR4 := Lib.hid (below_only GR3.out o4 GR3.out.size hG)
  clear OW3 GR3 s3 o4
  obtain ⟨bn, rfl⟩ : ∃ bn : Nat, b = (bn : Int) := ⟨b.toNat, by omega⟩
  go_wp2
  go_ret2
  exact ⟨A2, c2, l, ys, _, rfl, HL.out, hl16, hcp, row_of_own OW4.out, by omega, GR4.out⟩
end Go.Proofs.Ytfehjjaebdgjlaa
/-
  Values of nested types in memory: numbers, structs, slices of those. What a call owns, what can be read, marks.
-/
namespace Go.Proofs.Ytfehjjaebdgjlaa
open Go.RowKit Fld
set_option linter.unusedVariables false
set_option linter.unusedSimpArgs false
set_option maxRecDepth 100000

/-- the shape of a type: a number, a slice (its element type, the cells of an element), two parts of a struct -/
inductive Sh where
  | int : Sh
  | slc (T : TypeId) (k : Nat) (s : Sh) : Sh
  | pair (a b : Sh) : Sh
@[reducible] def Sh.Ty : Sh → Type
  | .int => Int
  | .slc _ _ s => List s.Ty
  | .pair a b => a.Ty × b.Ty
def blk (v : Value) : List Nat := match v.ownBlock with | some g => [g] | none => []
theorem blk_mem {v : Value} {g : Nat} : g ∈ blk v ↔ v.ownBlock = some g := by
  unfold blk
  cases h : v.ownBlock with
  | none => simp
  | some b => simp [eq_comm]
/-- the cells cs are the value x, whose blocks are B -/
def Own : (s : Sh) → List Value → s.Ty → List Nat → World → Prop
  | .int, cs, x, B, _ => cs = [.int .i64 x] ∧ B = []
  | .pair a b, cs, x, B, w => ∃ ca cb Ba Bb, cs = ca ++ cb ∧ B = Ba ++ Bb ∧ Own a ca x.1 Ba w ∧ Own b cb x.2 Bb w
  | .slc T k s, cs, xs, B, w => ∃ (v : Value) (css : List (List Value)) (Bs : List (List Nat)), cs = [v] ∧ w.ownsRow 0 T k v (xs : List s.Ty).length css.flatten ∧ B = blk v ++ Bs.flatten ∧ css.length = (xs : List s.Ty).length ∧ Bs.length = (xs : List s.Ty).length ∧
      (∀ c ∈ css, c.length = k) ∧ ∀ (i : Nat) (x : s.Ty), (xs : List s.Ty)[i]? = some x → ∃ (c : List Value) (b : List Nat), css[i]? = some c ∧ Bs[i]? = some b ∧ Own s c x b w
/-- what can be read, in blocks below hi -/
def Has : (s : Sh) → List Value → s.Ty → Nat → World → Prop
  | .int, cs, x, _, _ => cs = [.int .i64 x]
  | .pair a b, cs, x, hi, w => ∃ ca cb, cs = ca ++ cb ∧ Has a ca x.1 hi w ∧ Has b cb x.2 hi w
  | .slc _ k s, cs, xs, hi, w => ∃ (A : Option Addr) (c : Nat) (css : List (List Value)), cs = [.slice A (xs : List s.Ty).length c] ∧ (xs : List s.Ty).length ≤ c ∧ c ≤ maxLen ∧ Row w hi A css.flatten ∧ css.length = (xs : List s.Ty).length ∧
      (∀ c ∈ css, c.length = k) ∧ ∀ (i : Nat) (x : s.Ty), (xs : List s.Ty)[i]? = some x → ∃ (c : List Value), css[i]? = some c ∧ Has s c x hi w

theorem ownsRow_keep {w w' : World} {base k n : Nat} {T : TypeId} {v : Value} {vs : List Value} (h : w.ownsRow base T k v n vs) (hk : ∀ g ∈ blk v, w'.heap[g]? = w.heap[g]?) : w'.ownsRow base T k v n vs := by
  refine ⟨h.1, ?_⟩
  rcases h.2 with h1 | ⟨g, cap, cur, hv, hb, hg, r⟩
  · exact .inl h1
  · exact .inr ⟨g, cap, cur, hv, hb, by rw [hk g (blk_mem.2 (by rw [hv]; rfl))]; exact hg, r⟩
theorem Own.keep : ∀ {s : Sh} {cs : List Value} {x : s.Ty} {B : List Nat} {w w' : World}, Own s cs x B w → (∀ g ∈ B, w'.heap[g]? = w.heap[g]?) → Own s cs x B w'
  | .int, _, _, _, _, _, h, _ => by unfold Own at h ⊢; exact h
  | .pair _ _, _, _, _, _, _, h, hk => by
    obtain ⟨ca, cb, Ba, Bb, e1, e2, h1, h2⟩ := h
    exact ⟨ca, cb, Ba, Bb, e1, e2, h1.keep (fun g hg => hk g (by rw [e2]; simp [hg])), h2.keep (fun g hg => hk g (by rw [e2]; simp [hg]))⟩
  | .slc _ _ _, _, _, _, _, _, h, hk => by
    obtain ⟨v, css, Bs, e1, h1, e2, h2, h3, h4, h5⟩ := h
    refine ⟨v, css, Bs, e1, ownsRow_keep h1 (fun g hg => hk g (by rw [e2]; simp [hg])), e2, h2, h3, h4, fun i x hx => ?_⟩
    obtain ⟨c, b, q1, q2, q3⟩ := h5 i x hx
    exact ⟨c, b, q1, q2, q3.keep (fun g hg => hk g (by rw [e2, List.mem_append, List.mem_flatten]; exact .inr ⟨b, List.mem_of_getElem? q2, hg⟩))⟩
def Sh.wid : Sh → Nat
  | .int => 1
  | .slc _ _ _ => 1
  | .pair a b => a.wid + b.wid
theorem Own.len : ∀ {s : Sh} {cs : List Value} {x : s.Ty} {B : List Nat} {w : World}, Own s cs x B w → cs.length = s.wid
  | .int, _, _, _, _, h => by unfold Own at h; rw [h.1]; rfl
  | .pair _ _, _, _, _, _, h => by
    obtain ⟨ca, cb, Ba, Bb, e1, e2, h1, h2⟩ := h
    rw [e1, List.length_append, h1.len, h2.len]; rfl
  | .slc _ _ _, _, _, _, _, h => by
    obtain ⟨v, css, Bs, e1, _⟩ := h
    rw [e1]; rfl
theorem Own.lt : ∀ {s : Sh} {cs : List Value} {x : s.Ty} {B : List Nat} {w : World}, Own s cs x B w → ∀ g ∈ B, g < w.heap.size
  | .int, _, _, _, _, h, g, hg => by unfold Own at h; rw [h.2] at hg; cases hg
  | .pair _ _, _, _, _, _, h, g, hg => by
    obtain ⟨ca, cb, Ba, Bb, e1, e2, h1, h2⟩ := h
    rw [e2, List.mem_append] at hg
    rcases hg with hg | hg
    · exact h1.lt g hg
    · exact h2.lt g hg
  | .slc _ _ _, _, xs, _, _, h, g, hg => by
    obtain ⟨v, css, Bs, e1, h1, e2, h2, h3, h4, h5⟩ := h
    rw [e2, List.mem_append, List.mem_flatten] at hg
    rcases hg with hg | ⟨b, hb, hg⟩
    · exact (h1.lt g (blk_mem.1 hg)).2
    · obtain ⟨i, hi⟩ := List.mem_iff_getElem?.1 hb
      have hil : i < (xs : List _).length := by
        rw [← h3]
        rcases Nat.lt_or_ge i Bs.length with q | q
        · exact q
        · rw [List.getElem?_eq_none q] at hi; cases hi
      obtain ⟨c, b', q1, q2, q3⟩ := h5 i _ (List.getElem?_eq_getElem hil)
      rw [hi] at q2; injection q2 with q2
      subst q2
      exact q3.lt g hg

/-! cells of elements -/
theorem flat_at : ∀ {css : List (List Value)} {k i j : Nat} {c : List Value}, (∀ c ∈ css, c.length = k) → css[i]? = some c → j < k → css.flatten[i * k + j]? = c[j]?
  | [], _, _, _, _, _, h, _ => by simp at h
  | d :: r, k, 0, j, c, hk, h, hj => by
    simp only [List.getElem?_cons_zero, Option.some.injEq] at h
    subst h
    rw [List.flatten_cons, Nat.zero_mul, Nat.zero_add, List.getElem?_append_left (by rw [hk d (by simp)]; exact hj)]
  | d :: r, k, i+1, j, c, hk, h, hj => by
    simp only [List.getElem?_cons_succ] at h
    have e := hk d (by simp)
    rw [List.flatten_cons, List.getElem?_append_right (by rw [e, Nat.succ_mul]; omega), e, show (i + 1) * k + j - k = i * k + j from by rw [Nat.succ_mul]; omega]
    exact flat_at (fun c hc => hk c (by simp [hc])) h hj
theorem flat_set : ∀ {css : List (List Value)} {k i j : Nat} {c : List Value} {u : Value}, (∀ c ∈ css, c.length = k) → css[i]? = some c → j < k → css.flatten.set (i * k + j) u = (css.set i (c.set j u)).flatten
  | [], _, _, _, _, _, _, h, _ => by simp at h
  | d :: r, k, 0, j, c, u, hk, h, hj => by
    simp only [List.getElem?_cons_zero, Option.some.injEq] at h
    subst h
    rw [List.flatten_cons, Nat.zero_mul, Nat.zero_add, List.set_append, if_pos (by rw [hk d (by simp)]; exact hj), List.set_cons_zero, List.flatten_cons]
  | d :: r, k, i+1, j, c, u, hk, h, hj => by
    simp only [List.getElem?_cons_succ] at h
    have e := hk d (by simp)
    rw [List.flatten_cons, List.set_append, if_neg (by rw [e, Nat.succ_mul]; omega), e, show (i + 1) * k + j - k = i * k + j from by rw [Nat.succ_mul]; omega, List.set_cons_succ, List.flatten_cons, flat_set (fun c hc => hk c (by simp [hc])) h hj]
theorem flat_len : ∀ {css : List (List Value)} {k : Nat}, (∀ c ∈ css, c.length = k) → css.flatten.length = css.length * k
  | [], k, _ => by simp
  | d :: r, k, h => by rw [List.flatten_cons, List.length_append, h d (by simp), flat_len (fun c hc => h c (by simp [hc])), List.length_cons, Nat.succ_mul]; omega
theorem flat_nodup_mem : ∀ {Bs : List (List Nat)} {i j : Nat} {b b' : List Nat} {g : Nat}, Bs.flatten.Nodup → Bs[i]? = some b → Bs[j]? = some b' → i ≠ j → g ∈ b → g ∉ b'
  | [], _, _, _, _, _, _, h, _, _, _ => by simp at h
  | d :: r, 0, 0, _, _, _, _, _, _, h, _ => absurd rfl h
  | d :: r, 0, j+1, b, b', g, hn, h1, h2, _, hg => by
    simp only [List.getElem?_cons_zero, Option.some.injEq, List.getElem?_cons_succ] at h1 h2
    subst h1
    rw [List.flatten_cons, List.nodup_append] at hn
    exact fun hg' => hn.2.2 g hg g (List.mem_flatten.2 ⟨b', List.mem_of_getElem? h2, hg'⟩) rfl
  | d :: r, i+1, 0, b, b', g, hn, h1, h2, _, hg => by
    simp only [List.getElem?_cons_zero, Option.some.injEq, List.getElem?_cons_succ] at h1 h2
    subst h2
    rw [List.flatten_cons, List.nodup_append] at hn
    exact fun hg' => hn.2.2 g hg' g (List.mem_flatten.2 ⟨b, List.mem_of_getElem? h1, hg⟩) rfl
  | d :: r, i+1, j+1, b, b', g, hn, h1, h2, hne, hg => by
    simp only [List.getElem?_cons_succ] at h1 h2
    rw [List.flatten_cons, List.nodup_append] at hn
    exact flat_nodup_mem hn.2.1 h1 h2 (fun e => hne (by rw [e])) hg
theorem flat_nodup_one {Bs : List (List Nat)} {i : Nat} {b : List Nat} (hn : Bs.flatten.Nodup) (h : Bs[i]? = some b) : b.Nodup := by
  induction Bs generalizing i with
  | nil => simp at h
  | cons d r ih =>
    rw [List.flatten_cons, List.nodup_append] at hn
    cases i with
    | zero => simp only [List.getElem?_cons_zero, Option.some.injEq] at h; subst h; exact hn.1
    | succ i => simp only [List.getElem?_cons_succ] at h; exact ih hn.2.1 h
/-- what a slice is: no element and nil, or a block -/
theorem ownsRow_form {w : World} {base k n : Nat} {T : TypeId} {v : Value} {vs : List Value} (h : w.ownsRow base T k v n vs) : ∃ A c, v = .slice A n c ∧ n ≤ c ∧ c ≤ maxLen := by
  rcases h.2 with ⟨h1, h2⟩ | ⟨g, cap, cur, hv, _, _, h3, h4, _⟩
  · exact ⟨none, 0, by rw [h1, h2], by omega, Nat.zero_le _⟩
  · exact ⟨_, cap, hv, h3, h4⟩
/-- an element of a slice that is owned, and the ways to put it back -/
theorem Own.child {T : TypeId} {k : Nat} {s : Sh} {v : Value} {xs : List s.Ty} {B : List Nat} {w : World} (h : Own (.slc T k s) [v] xs B w) (hn : B.Nodup) {i : Nat} {x : s.Ty} (hx : xs[i]? = some x) :
    ∃ g cap c b, v = .slice (some ⟨g, 0, none⟩) xs.length cap ∧ Own s c x b w ∧ c.length = k ∧ (∀ j u, c[j]? = some u → w.cell? ⟨g, i * k + j, none⟩ = some u) ∧ (∀ j, w.frozen? ⟨g, j, none⟩ = false) ∧ g ∈ B ∧ (∀ q ∈ b, q ∈ B) ∧ b.Nodup ∧ g ∉ b ∧
      (∀ x' w', Own s c x' b w' → (∀ q ∈ B, q ∉ b → w'.heap[q]? = w.heap[q]?) → Own (.slc T k s) [v] (xs.set i x') B w') ∧
      (∀ j u x', j < k → Own s (c.set j u) x' b w → Own (.slc T k s) [v] (xs.set i x') B (w.setCell ⟨g, i * k + j, none⟩ u)) := by
  obtain ⟨v0, css, Bs, e1, h1, e2, h2, h3, h4, h5⟩ := h
  injection e1 with e1 _
  subst e1
  have hil : i < xs.length := by
    rcases Nat.lt_or_ge i xs.length with q | q
    · exact q
    · rw [List.getElem?_eq_none q] at hx; cases hx
  rcases h1.2 with ⟨_, h0⟩ | ⟨g, cap, cur, hv, _, hg, hcap⟩
  · omega
  obtain ⟨c, b, q1, q2, q3⟩ := h5 i x hx
  have hck := h4 c (List.mem_of_getElem? q1)
  subst hv
  have hgB : g ∈ B := by rw [e2, List.mem_append]; exact .inl (blk_mem.2 rfl)
  have hbB : ∀ q ∈ b, q ∈ B := fun q hq => by rw [e2, List.mem_append, List.mem_flatten]; exact .inr ⟨b, List.mem_of_getElem? q2, hq⟩
  have hn2 : (blk (.slice (some ⟨g, 0, none⟩) xs.length cap) ++ Bs.flatten).Nodup := by rw [← e2]; exact hn
  rw [List.nodup_append] at hn2
  have hgb : g ∉ Bs.flatten := fun hq => hn2.2.2 g (blk_mem.2 rfl) g hq rfl
  have hgb1 : g ∉ b := fun hq => hgb (List.mem_flatten.2 ⟨b, List.mem_of_getElem? q2, hq⟩)
  refine ⟨g, cap, c, b, rfl, q3, hck, fun j u hu => ?_, fun j => h1.frozenAt j, hgB, hbB, flat_nodup_one hn2.2.1 q2, hgb1, fun x' w' ho hk => ?_, fun j u x' hj ho => ?_⟩
  · have hjk : j < k := by
      rcases Nat.lt_or_ge j k with q | q
      · exact q
      · rw [List.getElem?_eq_none (by omega)] at hu; cases hu
    have hlt : i * k + j < xs.length * k := by
      have : (i + 1) * k ≤ xs.length * k := Nat.mul_le_mul_right k hil
      rw [Nat.succ_mul] at this; omega
    rw [h1.cellAt _ hlt, flat_at h4 q1 hjk]; exact hu
  · refine ⟨_, css, Bs, rfl, ?_, e2, by rw [List.length_set]; exact h2, by rw [List.length_set]; exact h3, h4, fun m y hy => ?_⟩
    · rw [List.length_set]
      exact ownsRow_keep h1 (fun q hq => hk q (by rw [e2]; simp [hq]) (fun hqb => by
        have := blk_mem.1 hq
        have e : g = q := by simpa [Value.ownBlock] using this
        exact hgb1 (e ▸ hqb)))
    · by_cases hmi : i = m
      · subst hmi
        rw [List.getElem?_set_self hil] at hy
        injection hy with hy
        subst hy
        exact ⟨c, b, q1, q2, ho⟩
      · rw [List.getElem?_set_ne hmi] at hy
        obtain ⟨c', b', r1, r2, r3⟩ := h5 m y hy
        exact ⟨c', b', r1, r2, r3.keep (fun q hq => hk q (by rw [e2, List.mem_append, List.mem_flatten]; exact .inr ⟨b', List.mem_of_getElem? r2, hq⟩) (fun hqb => flat_nodup_mem hn2.2.1 q2 r2 hmi hqb hq))⟩
  · have hs := h1.stored (i * k + j) u
    rw [flat_set h4 q1 hj] at hs
    have hkeep : ∀ q, q ≠ g → (w.setCell ⟨g, i * k + j, none⟩ u).heap[q]? = w.heap[q]? := fun q hq => Below.heap_setCell _ _ _ q hq
    refine ⟨_, css.set i (c.set j u), Bs, rfl, ?_, e2, by rw [List.length_set, List.length_set]; exact h2, by rw [List.length_set]; exact h3, fun d hd => ?_, fun m y hy => ?_⟩
    · rw [List.length_set]; exact hs.1
    · rcases List.mem_or_eq_of_mem_set hd with hd | hd
      · exact h4 d hd
      · rw [hd, List.length_set]; exact hck
    · by_cases hmi : i = m
      · subst hmi
        rw [List.getElem?_set_self hil] at hy
        injection hy with hy
        subst hy
        exact ⟨_, b, List.getElem?_set_self (by rw [h2]; exact hil), q2, ho.keep (fun q hq => hkeep q (fun e => hgb1 (e ▸ hq)))⟩
      · rw [List.getElem?_set_ne hmi] at hy
        obtain ⟨c', b', r1, r2, r3⟩ := h5 m y hy
        refine ⟨c', b', by rw [List.getElem?_set_ne hmi]; exact r1, r2, r3.keep (fun q hq => hkeep q (fun e => hgb (by rw [← e]; exact List.mem_flatten.2 ⟨b', List.mem_of_getElem? r2, hq⟩)))⟩
/-- an element is added behind the last one -/
theorem Own.push {T : TypeId} {k : Nat} {s : Sh} {v v2 : Value} {xs : List s.Ty} {x : s.Ty} {B b : List Nat} {c : List Value} {css0 : List Value} {w w2 : World} (h : Own (.slc T k s) [v] xs B w) (ho : Own s c x b w) (hck : c.length = k) (hn : (B ++ b).Nodup)
    (h2 : ∀ vs, w.ownsRow 0 T k v xs.length vs → w2.ownsRow 0 T k v2 (xs.length + 1) (vs ++ c)) (hk : ∀ q ∈ B ++ b, q ∉ blk v → w2.heap[q]? = w.heap[q]?) : ∃ B2, Own (.slc T k s) [v2] (xs ++ [x]) B2 w2 ∧ (∀ q ∈ B2, q ∈ blk v2 ∨ q ∈ B ++ b) ∧ ((∀ q ∈ blk v2, q ∈ blk v ∨ q ∉ B ++ b) → B2.Nodup) := by
  obtain ⟨v0, css, Bs, e1, h1, e2, h3, h4, h5, h6⟩ := h
  injection e1 with e1 _
  subst e1
  have hn0 := hn
  rw [e2] at hn0
  rw [List.append_assoc, List.nodup_append] at hn0
  have hdis : ∀ q ∈ Bs.flatten ++ b, q ∉ blk v := fun q hq hq' => hn0.2.2 q hq' q hq rfl
  refine ⟨blk v2 ++ (Bs ++ [b]).flatten, ⟨v2, css ++ [c], Bs ++ [b], rfl, ?_, rfl, by simp [h3], by simp [h4], fun d hd => ?_, fun i y hy => ?_⟩, fun q hq => ?_, fun hq => ?_⟩
  · have := h2 _ h1
    simpa using this
  · rw [List.mem_append, List.mem_singleton] at hd
    rcases hd with hd | hd
    · exact h5 d hd
    · rw [hd]; exact hck
  · rcases Nat.lt_or_ge i xs.length with q | q
    · rw [List.getElem?_append_left q] at hy
      obtain ⟨c', b', r1, r2, r3⟩ := h6 i y hy
      refine ⟨c', b', by rw [List.getElem?_append_left (by omega)]; exact r1, by rw [List.getElem?_append_left (by omega)]; exact r2, r3.keep (fun z hz => ?_)⟩
      have hz' : z ∈ Bs.flatten := List.mem_flatten.2 ⟨b', List.mem_of_getElem? r2, hz⟩
      exact hk z (by rw [e2]; simp [hz']) (hdis z (by simp [hz']))
    · rw [List.getElem?_append_right q] at hy
      have hx0 : i - xs.length = 0 := by
        rcases Nat.eq_zero_or_pos (i - xs.length) with y | y
        · exact y
        · rw [List.getElem?_eq_none (by simp; omega)] at hy; cases hy
      rw [hx0] at hy
      simp only [List.getElem?_cons_zero, Option.some.injEq] at hy
      subst hy
      exact ⟨c, b, by rw [List.getElem?_append_right (by omega), h3, hx0]; rfl, by rw [List.getElem?_append_right (by omega), h4, hx0]; rfl, ho.keep (fun z hz => hk z (by simp [hz]) (hdis z (by simp [hz])))⟩
  · rw [List.flatten_append, List.mem_append, List.mem_append] at hq
    simp only [List.flatten_cons, List.flatten_nil, List.append_nil] at hq
    rcases hq with hq | hq | hq
    · exact .inl hq
    · exact .inr (by rw [e2]; simp [hq])
    · exact .inr (by simp [hq])
  · have e : (Bs ++ [b]).flatten = Bs.flatten ++ b := by simp
    rw [e, List.nodup_append]
    refine ⟨?_, hn0.2.1, fun q h1 q' h2 hqq => ?_⟩
    · unfold blk; split <;> simp
    · subst hqq
      rcases hq q h1 with r | r
      · exact hdis q h2 r
      · exact r (by rw [e2, List.append_assoc, List.mem_append]; exact .inr h2)
end Go.Proofs.Ytfehjjaebdgjlaa
/-
  Values of nested types in memory: what can be read, ranges of blocks, rows of numbers among them, marks.
-/
namespace Go.Proofs.Ytfehjjaebdgjlaa
open Go.RowKit Fld
set_option linter.unusedVariables false
set_option linter.unusedSimpArgs false
set_option maxRecDepth 100000

/-! reading -/
theorem Has.keep : ∀ {s : Sh} {cs : List Value} {x : s.Ty} {hi : Nat} {w w' : World}, Has s cs x hi w → (∀ g, g < hi → w'.heap[g]? = w.heap[g]?) → Has s cs x hi w'
  | .int, _, _, _, _, _, h, _ => by unfold Has at h ⊢; exact h
  | .pair _ _, _, _, _, _, _, h, hk => by
    obtain ⟨ca, cb, e1, h1, h2⟩ := h
    exact ⟨ca, cb, e1, h1.keep hk, h2.keep hk⟩
  | .slc _ _ _, _, _, _, _, _, h, hk => by
    obtain ⟨A, c, css, e1, h1, h2, h3, h4, h5, h6⟩ := h
    refine ⟨A, c, css, e1, h1, h2, Row.keep h3 (fun b o hb => World.cell?_of_block (hk b hb)), h4, h5, fun i x hx => ?_⟩
    obtain ⟨c', q1, q2⟩ := h6 i x hx
    exact ⟨c', q1, q2.keep hk⟩
theorem Has.more : ∀ {s : Sh} {cs : List Value} {x : s.Ty} {hi hi' : Nat} {w : World}, Has s cs x hi w → hi ≤ hi' → Has s cs x hi' w
  | .int, _, _, _, _, _, h, _ => by unfold Has at h ⊢; exact h
  | .pair _ _, _, _, _, _, _, h, hk => by
    obtain ⟨ca, cb, e1, h1, h2⟩ := h
    exact ⟨ca, cb, e1, h1.more hk, h2.more hk⟩
  | .slc _ _ _, _, _, _, _, _, h, hk => by
    obtain ⟨A, c, css, e1, h1, h2, h3, h4, h5, h6⟩ := h
    refine ⟨A, c, css, e1, h1, h2, Row.more h3 hk, h4, h5, fun i x hx => ?_⟩
    obtain ⟨c', q1, q2⟩ := h6 i x hx
    exact ⟨c', q1, q2.more hk⟩
theorem Has.below {s : Sh} {cs : List Value} {x : s.Ty} {hi B : Nat} {w w' : World} (h : Has s cs x hi w) (hb : Below B w w') (hB : hi ≤ B) : Has s cs x hi w' := h.keep fun g hg => hb.block g (by omega)
theorem Has.drewN {s : Sh} {cs : List Value} {x : s.Ty} {hi : Nat} {w : World} (h : Has s cs x hi w) (k : Nat) : Has s cs x hi (w.drewN k) := h.keep fun _ _ => rfl
theorem Has.within {s : Sh} {cs : List Value} {x : s.Ty} {hi lo' hi' : Nat} {w w' : World} (h : Has s cs x hi w) (hb : Within lo' hi' w w') (hs : hi ≤ w.heap.size) (hd : hi ≤ lo') : Has s cs x hi w' := h.keep fun g hg => hb.block g (by omega) (by omega)
theorem Own.has : ∀ {s : Sh} {cs : List Value} {x : s.Ty} {B : List Nat} {w : World} {hi : Nat}, Own s cs x B w → (∀ g ∈ B, g < hi) → Has s cs x hi w
  | .int, _, _, _, _, _, h, _ => by unfold Own at h; unfold Has; exact h.1
  | .pair _ _, _, _, _, _, _, h, hk => by
    obtain ⟨ca, cb, Ba, Bb, e1, e2, h1, h2⟩ := h
    exact ⟨ca, cb, e1, h1.has (fun g hg => hk g (by rw [e2]; simp [hg])), h2.has (fun g hg => hk g (by rw [e2]; simp [hg]))⟩
  | .slc T k s, _, xs, B, w, hi, h, hk => by
    obtain ⟨v, css, Bs, e1, h1, e2, h2, h3, h4, h5⟩ := h
    obtain ⟨A, c, hv, hc, hm⟩ := ownsRow_form h1
    subst hv
    refine ⟨A, c, css, e1, hc, hm, fun j u hu => ?_, h2, h4, fun i x hx => ?_⟩
    · rcases h1.2 with ⟨hA, h0⟩ | ⟨g, cap, cur, hA, _, hg, _⟩
      · have e0 := h1.1
        rw [h0, Nat.zero_mul] at e0
        rw [List.eq_nil_of_length_eq_zero e0] at hu
        simp at hu
      · injection hA with a1 a2 a3
        subst a1 a3
        have hjl : j < xs.length * k := by
          rw [← h1.1]
          rcases Nat.lt_or_ge j css.flatten.length with q | q
          · exact q
          · rw [List.getElem?_eq_none q] at hu; cases hu
        refine ⟨g, 0, rfl, hk g (by rw [e2, List.mem_append]; exact .inl (blk_mem.2 rfl)), ?_⟩
        rw [Nat.zero_add, h1.cellAt j hjl]; exact hu
    · obtain ⟨c', b, q1, q2, q3⟩ := h5 i x hx
      exact ⟨c', q1, q3.has (fun g hg => hk g (by rw [e2, List.mem_append, List.mem_flatten]; exact .inr ⟨b, List.mem_of_getElem? q2, hg⟩))⟩
/-- an element of a slice that can be read -/
theorem Has.child {T : TypeId} {k : Nat} {s : Sh} {A : Option Addr} {n cap : Nat} {xs : List s.Ty} {hi : Nat} {w : World} (h : Has (.slc T k s) [.slice A n cap] xs hi w) (hk : 0 < k) {i : Nat} {x : s.Ty} (hx : xs[i]? = some x) :
    ∃ b o c, A = some ⟨b, o, none⟩ ∧ b < hi ∧ c.length = k ∧ (∀ j u, c[j]? = some u → w.cell? ⟨b, o + (i * k + j), none⟩ = some u) ∧ Has s c x hi w := by
  obtain ⟨A', c', css, e1, h1, h2, h3, h4, h5, h6⟩ := h
  injection e1 with e1 _
  injection e1 with a1 a2 a3
  subst a1 a3
  obtain ⟨c, q1, q2⟩ := h6 i x hx
  have hck := h5 c (List.mem_of_getElem? q1)
  have h0 := flat_at h5 q1 hk
  obtain ⟨u0, hu0⟩ : ∃ u, c[0]? = some u := ⟨_, List.getElem?_eq_getElem (by omega)⟩
  rw [hu0] at h0
  obtain ⟨b, o, e, hb, _⟩ := h3 _ _ h0
  refine ⟨b, o, c, e, hb, hck, fun j u hu => ?_, q2⟩
  have hjk : j < k := by
    rcases Nat.lt_or_ge j k with q | q
    · exact q
    · rw [List.getElem?_eq_none (by omega)] at hu; cases hu
  have hj := flat_at h5 q1 hjk
  rw [hu] at hj
  obtain ⟨b', o', e', _, hc⟩ := h3 _ _ hj
  rw [e] at e'
  injection e' with e'
  injection e' with r1 r2
  subst r1 r2
  exact hc
theorem Has.len {T : TypeId} {k : Nat} {s : Sh} {A : Option Addr} {n cap : Nat} {xs : List s.Ty} {hi : Nat} {w : World} (h : Has (.slc T k s) [.slice A n cap] xs hi w) : xs.length = n ∧ n ≤ cap ∧ cap ≤ maxLen := by
  obtain ⟨A', c', css, e1, h1, h2, _⟩ := h
  injection e1 with e1 _
  injection e1 with a1 a2 a3
  exact ⟨a2.symm, by omega, by omega⟩
theorem Has.pair_parts {a b : Sh} {cs : List Value} {x : (Sh.pair a b).Ty} {hi : Nat} {w : World} (h : Has (.pair a b) cs x hi w) : ∃ ca cb, cs = ca ++ cb ∧ Has a ca x.1 hi w ∧ Has b cb x.2 hi w := h
theorem Has.int_eq {cs : List Value} {x : Int} {hi : Nat} {w : World} (h : Has .int cs x hi w) : cs = [.int .i64 x] := by unfold Has at h; exact h
theorem Has.slc_one {T : TypeId} {k : Nat} {s : Sh} {cs : List Value} {xs : List s.Ty} {hi : Nat} {w : World} (h : Has (.slc T k s) cs xs hi w) : ∃ A c, cs = [.slice A xs.length c] := by
  obtain ⟨A, c, css, e1, _⟩ := h
  exact ⟨A, c, e1⟩
theorem Own.int_eq {cs : List Value} {x : Int} {B : List Nat} {w : World} (h : Own .int cs x B w) : cs = [.int .i64 x] ∧ B = [] := by unfold Own at h; exact h
theorem Own.int_mk (x : Int) (w : World) : Own .int [.int .i64 x] x [] w := ⟨rfl, rfl⟩
theorem Own.slc_one {T : TypeId} {k : Nat} {s : Sh} {cs : List Value} {xs : List s.Ty} {B : List Nat} {w : World} (h : Own (.slc T k s) cs xs B w) : ∃ A c, cs = [.slice A xs.length c] ∧ xs.length ≤ c ∧ c ≤ maxLen := by
  obtain ⟨v, css, Bs, e1, h1, _⟩ := h
  obtain ⟨A, c, hv, hc⟩ := ownsRow_form h1
  exact ⟨A, c, by rw [e1, hv], hc⟩

/-! rows of numbers -/
abbrev ShL : Sh := .slc 2 1 .int
theorem flat_ones (xs : List Int) : ((ints xs).map fun v => [v]).flatten = ints xs := by
  induction xs with
  | nil => rfl
  | cons x r ih => simp only [ints, intsK, List.map_cons, List.flatten_cons] at ih ⊢; rw [ih]; rfl
theorem Own.of_row {w : World} {base n : Nat} {v : Value} {xs : List Int} (h : w.ownsRow base 2 1 v n (ints xs)) : Own ShL [v] xs (blk v) w := by
  have hl : xs.length = n := by have := h.1; rw [ints_length] at this; omega
  refine ⟨v, (ints xs).map fun v => [v], List.replicate xs.length [], rfl, ?_, by simp, by simp [ints_length], by simp, fun c hc => ?_, fun i x hx => ?_⟩
  · rw [flat_ones, hl]
    refine ⟨h.1, ?_⟩
    rcases h.2 with h1 | ⟨g, cap, cur, hv, hb, r⟩
    · exact .inl h1
    · exact .inr ⟨g, cap, cur, hv, Nat.zero_le _, r⟩
  · rw [List.mem_map] at hc
    obtain ⟨u, _, e⟩ := hc
    rw [← e]; rfl
  · have hil : i < xs.length := by
      rcases Nat.lt_or_ge i xs.length with q | q
      · exact q
      · rw [List.getElem?_eq_none q] at hx; cases hx
    exact ⟨[.int .i64 x], [], by rw [List.getElem?_map, ints_at hx]; rfl, by rw [List.getElem?_replicate, if_pos hil], Own.int_mk _ _⟩
theorem css_ints {xs : List Int} {css : List (List Value)} (h2 : css.length = xs.length) (h : ∀ (i : Nat) (x : Int), xs[i]? = some x → css[i]? = some [.int .i64 x]) : css = (ints xs).map fun v => [v] := by
  refine List.ext_getElem? fun i => ?_
  rcases Nat.lt_or_ge i xs.length with q | q
  · rw [h i _ (List.getElem?_eq_getElem q), List.getElem?_map, ints_at (List.getElem?_eq_getElem q)]; rfl
  · rw [List.getElem?_eq_none (by omega), List.getElem?_eq_none (by simp [ints_length]; omega)]
theorem Own.row {w : World} {v : Value} {xs : List Int} {B : List Nat} (h : Own ShL [v] xs B w) : w.ownsRow 0 2 1 v xs.length (ints xs) ∧ B = blk v := by
  obtain ⟨v', css, Bs, e1, h1, e2, h2, h3, h4, h5⟩ := h
  injection e1 with e1 _
  subst e1
  have hc : css = (ints xs).map fun v => [v] := css_ints h2 fun i x hx => by
    obtain ⟨c, b, q1, q2, q3⟩ := h5 i x hx
    rw [q1, q3.int_eq.1]
  have hb : Bs.flatten = [] := by
    rw [List.flatten_eq_nil_iff]
    intro b hb
    obtain ⟨i, hi⟩ := List.mem_iff_getElem?.1 hb
    have hil : i < xs.length := by
      rw [← h3]
      rcases Nat.lt_or_ge i Bs.length with q | q
      · exact q
      · rw [List.getElem?_eq_none q] at hi; cases hi
    obtain ⟨c, b', q1, q2, q3⟩ := h5 i _ (List.getElem?_eq_getElem hil)
    rw [hi] at q2
    injection q2 with q2
    rw [q2, q3.int_eq.2]
  rw [hc, flat_ones] at h1
  rw [hb, List.append_nil] at e2
  exact ⟨h1, e2⟩
theorem Has.row {w : World} {A : Option Addr} {n c hi : Nat} {xs : List Int} (h : Has ShL [.slice A n c] xs hi w) : xs.length = n ∧ n ≤ c ∧ c ≤ maxLen ∧ Row w hi A (ints xs) := by
  have hl := h.len
  obtain ⟨A', c', css, e1, h1, h2, h3, h4, h5, h6⟩ := h
  injection e1 with e1 _
  injection e1 with a1 a2 a3
  subst a1
  have hc : css = (ints xs).map fun v => [v] := css_ints h4 fun i x hx => by
    obtain ⟨c, q1, q3⟩ := h6 i x hx
    rw [q1, q3.int_eq]
  rw [hc, flat_ones] at h3
  exact ⟨hl.1, hl.2.1, hl.2.2, h3⟩
theorem Has.of_row {w : World} {A : Option Addr} {n c hi : Nat} {xs : List Int} (hl : xs.length = n) (hc : n ≤ c) (hm : c ≤ maxLen) (h : Row w hi A (ints xs)) : Has ShL [.slice A n c] xs hi w := by
  subst hl
  refine ⟨A, c, (ints xs).map fun v => [v], rfl, hc, hm, by rw [flat_ones]; exact h, by simp [ints_length], fun c hc => ?_, fun i x hx => ?_⟩
  · rw [List.mem_map] at hc
    obtain ⟨u, _, e⟩ := hc
    rw [← e]; rfl
  · exact ⟨[.int .i64 x], by rw [List.getElem?_map, ints_at hx]; rfl, by unfold Has; rfl⟩

/-! ranges of blocks -/
def OwnD (s : Sh) (lo hi : Nat) (cs : List Value) (x : s.Ty) (w : World) : Prop := ∃ B, Own s cs x B w ∧ B.Nodup ∧ ∀ g ∈ B, lo ≤ g ∧ g < hi
theorem OwnD.keep {s : Sh} {lo hi : Nat} {cs : List Value} {x : s.Ty} {w w' : World} (h : OwnD s lo hi cs x w) (hk : ∀ g, lo ≤ g → g < hi → w'.heap[g]? = w.heap[g]?) : OwnD s lo hi cs x w' := by
  obtain ⟨B, h1, h2, h3⟩ := h
  exact ⟨B, h1.keep (fun g hg => hk g (h3 g hg).1 (h3 g hg).2), h2, h3⟩
theorem OwnD.below {s : Sh} {lo hi B : Nat} {cs : List Value} {x : s.Ty} {w w' : World} (h : OwnD s lo hi cs x w) (hb : Below B w w') (hB : hi ≤ B) : OwnD s lo hi cs x w' := h.keep fun g _ hg => hb.block g (by omega)
theorem OwnD.within {s : Sh} {lo hi lo' hi' : Nat} {cs : List Value} {x : s.Ty} {w w' : World} (h : OwnD s lo hi cs x w) (hb : Within lo' hi' w w') (hs : hi ≤ w.heap.size) (hd : hi ≤ lo' ∨ hi' ≤ lo) : OwnD s lo hi cs x w' :=
  h.keep fun g h1 h2 => hb.block g (by omega) (by omega)
theorem OwnD.more {s : Sh} {lo hi lo' hi' : Nat} {cs : List Value} {x : s.Ty} {w : World} (h : OwnD s lo hi cs x w) (h1 : lo' ≤ lo) (h2 : hi ≤ hi') : OwnD s lo' hi' cs x w := by
  obtain ⟨B, q1, q2, q3⟩ := h
  exact ⟨B, q1, q2, fun g hg => by have := q3 g hg; omega⟩
theorem OwnD.drewN {s : Sh} {lo hi : Nat} {cs : List Value} {x : s.Ty} {w : World} (h : OwnD s lo hi cs x w) (k : Nat) : OwnD s lo hi cs x (w.drewN k) := h.keep fun _ _ _ => rfl
theorem OwnD.has {s : Sh} {lo hi : Nat} {cs : List Value} {x : s.Ty} {w : World} (h : OwnD s lo hi cs x w) : Has s cs x hi w := by
  obtain ⟨B, q1, q2, q3⟩ := h
  exact q1.has (fun g hg => (q3 g hg).2)

/-! marks -/
def markL {α : Type} (f : α → Int → α) (c : α → Nat) : List α → Int → List α
  | [], _ => []
  | x :: r, k => f x k :: markL f c r (k + (c x : Nat))
def sumC {α : Type} (c : α → Nat) (xs : List α) : Nat := (xs.map c).sum
def cntD : (s : Sh) → s.Ty → Nat
  | .int, _ => 1
  | .pair a b, x => cntD a x.1 + cntD b x.2
  | .slc _ _ s, xs => sumC (cntD s) xs
def markD : (s : Sh) → s.Ty → Int → s.Ty
  | .int, _, k => k
  | .pair a b, x, k => (markD a x.1 k, markD b x.2 (k + (cntD a x.1 : Nat)))
  | .slc _ _ s, xs, k => markL (markD s) (cntD s) xs k
theorem sumC_take {α : Type} {c : α → Nat} {xs : List α} {r : Nat} {x : α} (h : xs[r]? = some x) : sumC c (xs.take (r + 1)) = sumC c (xs.take r) + c x := by
  unfold sumC; rw [List.take_add_one, h]; simp
theorem sumC_le {α : Type} (c : α → Nat) (xs : List α) (r : Nat) : sumC c (xs.take r) ≤ sumC c xs := by
  have : sumC c xs = sumC c (xs.take r) + sumC c (xs.drop r) := by
    unfold sumC; rw [← List.sum_append, ← List.map_append, List.take_append_drop]
  omega
theorem markL_length {α : Type} (f : α → Int → α) (c : α → Nat) : ∀ (xs : List α) (k : Int), (markL f c xs k).length = xs.length
  | [], _ => rfl
  | x :: r, k => by rw [markL, List.length_cons, List.length_cons, markL_length f c r]
theorem markL_at {α : Type} {f : α → Int → α} {c : α → Nat} : ∀ {xs : List α} {k : Int} {r : Nat} {x : α}, xs[r]? = some x → (markL f c xs k)[r]? = some (f x (k + (sumC c (xs.take r) : Nat)))
  | [], _, _, _, h => by simp at h
  | y :: rest, k, 0, x, h => by
    simp only [List.getElem?_cons_zero, Option.some.injEq] at h
    subst h
    simp [markL, sumC]
  | y :: rest, k, r+1, x, h => by
    simp only [List.getElem?_cons_succ] at h
    have := markL_at (f := f) (c := c) (k := k + (c y : Nat)) h
    simp only [markL, List.getElem?_cons_succ, this]
    congr 2
    simp [sumC]; omega
theorem mixL_step {α : Type} {xs us : List α} {r : Nat} {u : α} (hr : r < xs.length) (hl : us.length = xs.length) (hu : us[r]? = some u) : (us.take r ++ xs.drop r).set r u = us.take (r + 1) ++ xs.drop (r + 1) := by
  have e1 : (us.take r).length = r := by simp; omega
  rw [List.set_append, if_neg (by omega), e1, Nat.sub_self, List.take_add_one, hu, List.drop_eq_getElem_cons hr, List.set_cons_zero]
  simp
theorem mixL_at {α : Type} {xs us : List α} {r : Nat} {x : α} (hl : us.length = xs.length) (hx : xs[r]? = some x) : (us.take r ++ xs.drop r)[r]? = some x := by
  have hr : r < xs.length := by
    rcases Nat.lt_or_ge r xs.length with g | g
    · exact g
    · rw [List.getElem?_eq_none g] at hx; cases hx
  have e1 : (us.take r).length = r := by simp; omega
  rw [List.getElem?_append_right (by omega), e1, Nat.sub_self, List.getElem?_drop, Nat.add_zero]; exact hx
theorem mixL_end {α : Type} {xs us : List α} {n : Nat} (hl : us.length = n) (hx : xs.length = n) : us.take n ++ xs.drop n = us := by
  rw [List.take_of_length_le (by omega), List.drop_eq_nil_of_le (by omega), List.append_nil]
theorem sumC_ints : ∀ xs : List Int, sumC (cntD .int) xs = xs.length
  | [] => rfl
  | x :: r => by
    have h := sumC_ints r
    unfold sumC at h ⊢
    rw [List.map_cons, List.sum_cons, h, List.length_cons]
    show 1 + r.length = _
    omega
theorem markL_ints (k : Int) : ∀ xs : List Int, markL (markD .int) (cntD .int) xs k = marks k xs.length := by
  intro xs
  refine List.ext_getElem? fun i => ?_
  rcases Nat.lt_or_ge i xs.length with q | q
  · rw [markL_at (List.getElem?_eq_getElem q), marks_at k q]
    congr 1
    show k + ((sumC (cntD .int) (xs.take i) : Nat) : Int) = _
    rw [sumC_ints, List.length_take]
    omega
  · rw [List.getElem?_eq_none (by rw [markL_length]; exact q), List.getElem?_eq_none (by rw [marks_length]; exact q)]
theorem cntD_ints (xs : List Int) : cntD ShL xs = xs.length := sumC_ints xs
/-- of what was there only the blocks B may have turned -/
structure Turn (B : List Nat) (w w' : World) : Prop where
  os : w'.os = w.os
  tape : w'.tape = w.tape
  output : w'.output = w.output
  size : w.heap.size ≤ w'.heap.size
  block : ∀ q, q < w.heap.size → q ∉ B → w'.heap[q]? = w.heap[q]?
theorem Turn.refl (B : List Nat) (w : World) : Turn B w w := ⟨rfl, rfl, rfl, Nat.le_refl _, fun _ _ _ => rfl⟩
theorem Turn.trans {B : List Nat} {a b c : World} (h : Turn B a b) (k : Turn B b c) : Turn B a c :=
  ⟨k.os.trans h.os, k.tape.trans h.tape, k.output.trans h.output, Nat.le_trans h.size k.size, fun q hq hn => (k.block q (Nat.lt_of_lt_of_le hq h.size) hn).trans (h.block q hq hn)⟩
theorem Turn.grown {B : List Nat} {w w' : World} {v : Value} (h : w.grownBy w' v.ownBlock) (hv : ∀ g ∈ blk v, g ∈ B) : Turn B w w' :=
  ⟨h.os, h.tape, h.output, h.size, fun q hq hn => h.block q hq (fun e => hn (hv q (blk_mem.2 e.symm)))⟩
theorem Turn.set {B : List Nat} {w : World} {g j : Nat} (hg : g ∈ B) (u : Value) : Turn B w (w.setCell ⟨g, j, none⟩ u) :=
  ⟨rfl, rfl, rfl, by simp [World.setCell], fun q _ hn => Below.heap_setCell _ _ _ q (fun e => hn (by rw [e]; exact hg))⟩
theorem Turn.within {B : List Nat} {w w' : World} {lo hi : Nat} (h : Turn B w w') (hB : ∀ g ∈ B, lo ≤ g ∧ g < hi) : Within lo hi w w' :=
  ⟨h.os, h.tape, h.output, h.size, fun k hk hr => h.block k hk (fun e => by have := hB k e; omega)⟩
/-- what a function of the laws leaves that marks a value of this type -/
def MarkedD (s : Sh) (cs : List Value) (B : List Nat) (k : Int) (x : s.Ty) (w : World) (e : Ending) (w' : World) : Prop :=
  e = .returned (.int .i64 (k + (cntD s x : Nat))) ∧ Own s cs (markD s x k) B w' ∧ Turn B w w'
theorem ownsRow_uniq {w : World} {base base' k n n' : Nat} {T : TypeId} {v : Value} {vs vs' : List Value} (h : w.ownsRow base T k v n vs) (h' : w.ownsRow base' T k v n' vs') : vs = vs' := by
  rcases h.2 with ⟨h1, h2⟩ | ⟨g, cap, cur, hv, _, hg, _, _, _, ht⟩
  · rcases h'.2 with ⟨_, h2'⟩ | ⟨g', cap', cur', hv', _⟩
    · have e := h.1; have e' := h'.1
      rw [h2, Nat.zero_mul] at e
      rw [h2', Nat.zero_mul] at e'
      rw [List.eq_nil_of_length_eq_zero e, List.eq_nil_of_length_eq_zero e']
    · rw [h1] at hv'; injection hv' with a1; cases a1
  · rcases h'.2 with ⟨h1', _⟩ | ⟨g', cap', cur', hv', _, hg', _, _, _, ht'⟩
    · rw [h1'] at hv; injection hv with a1; cases a1
    · rw [hv] at hv'
      injection hv' with a1 a2 a3
      injection a1 with a1
      injection a1 with a1
      subst a1 a2
      rw [hg] at hg'
      injection hg' with hg'
      injection hg' with hg'
      subst hg'
      rw [← ht, ← ht']
theorem Own.outer {T : TypeId} {k : Nat} {s : Sh} {v : Value} {xs : List s.Ty} {B : List Nat} {w : World} (h : Own (.slc T k s) [v] xs B w) : ∃ vs, w.ownsRow 0 T k v xs.length vs ∧ ∀ g ∈ blk v, g ∈ B := by
  obtain ⟨v', css, Bs, e1, h1, e2, _⟩ := h
  injection e1 with e1 _
  subst e1
  exact ⟨_, h1, fun g hg => by rw [e2]; simp [hg]⟩
end Go.Proofs.Ytfehjjaebdgjlaa
/-
  Lists of trees with their numbers that a call owns: marks, reading, comparison, growing.
-/
namespace Go.Proofs.Ytfehjjaebdgjlaa
open Go.RowKit Fld
set_option linter.unusedVariables false
set_option linter.unusedSimpArgs false
set_option maxRecDepth 100000

abbrev ShP : Sh := .pair ShL .int
abbrev ShC : Sh := .slc 74 2 ShP
theorem cnt_child {v : Value} {S : List (List Int × Int)} {B : List Nat} {w : World} {r : Nat} {t : List Int} {x : Int} (h : Own ShC [v] S B w) (hn : B.Nodup) (hx : S[r]? = some (t, x)) :
    ∃ g cap A cp, v = .slice (some ⟨g, 0, none⟩) S.length cap ∧ w.cell? ⟨g, r * 2, none⟩ = some (.slice A t.length cp) ∧ w.cell? ⟨g, r * 2 + 1, none⟩ = some (.int .i64 x) ∧ w.frozen? ⟨g, r * 2 + 1, none⟩ = false ∧ t.length ≤ cp ∧ cp ≤ maxLen ∧
      w.ownsRow 0 2 1 (.slice A t.length cp) t.length (ints t) ∧ (∀ q ∈ blk (.slice A t.length cp), q ∈ B) ∧ g ∈ B ∧
      (∀ t' w', t'.length = t.length → w'.ownsRow 0 2 1 (.slice A t.length cp) t.length (ints t') → w.grownBy w' (Value.ownBlock (.slice A t.length cp)) → Own ShC [v] (S.set r (t', x)) B w') ∧
      (∀ y, Own ShC [v] (S.set r (t, y)) B (w.setCell ⟨g, r * 2 + 1, none⟩ (.int .i64 y))) := by
  obtain ⟨g, cap, c, b, hv, ho, hck, hc, hf, hgB, hbB, hbn, hgb, hp1, hp2⟩ := h.child hn hx
  obtain ⟨ca, cb, Ba, Bb, e1, e2, o1, o2⟩ := ho
  obtain ⟨A, cp, q1, q2, q3⟩ := o1.slc_one
  obtain ⟨q4, q5⟩ := o2.int_eq
  subst q1 q4 q5
  simp only [List.append_nil] at e2
  subst e2
  have hrow := o1.row
  subst e1
  have hltB : ∀ q ∈ B, q < w.heap.size := h.lt
  refine ⟨g, cap, A, cp, hv, hc 0 _ rfl, hc 1 _ rfl, hf _, q2, q3, hrow.1, fun q hq => hbB q (by rw [hrow.2]; exact hq), hgB, fun t' w' hl ho' hg => ?_, fun y => ?_⟩
  · refine hp1 (t', x) w' ⟨[.slice A t.length cp], [.int .i64 x], b, [], rfl, by simp, ?_, Own.int_mk _ _⟩ (fun q hq hqb => hg.block q (hltB q hq) (fun e => hqb (by rw [hrow.2]; exact blk_mem.2 e.symm)))
    have := Own.of_row ho'
    rw [← hrow.2] at this
    exact this
  · exact hp2 1 (.int .i64 y) (t, y) (by omega) ⟨[.slice A t.length cp], [.int .i64 y], b, [], rfl, by simp, o1, Own.int_mk _ _⟩
theorem cnt_read {A : Option Addr} {n cap hi : Nat} {S : List (List Int × Int)} {w : World} {r : Nat} {t : List Int} {x : Int} (h : Has ShC [.slice A n cap] S hi w) (hx : S[r]? = some (t, x)) :
    ∃ b o Ak ck, A = some ⟨b, o, none⟩ ∧ b < hi ∧ w.cell? ⟨b, o + r * 2, none⟩ = some (.slice Ak t.length ck) ∧ w.cell? ⟨b, o + r * 2 + 1, none⟩ = some (.int .i64 x) ∧ t.length ≤ ck ∧ ck ≤ maxLen ∧ Row w hi Ak (ints t) := by
  obtain ⟨b, o, c, e, hb, hck, hc, ho⟩ := h.child (by omega) hx
  obtain ⟨ca, cb, e1, o1, o2⟩ := ho
  obtain ⟨Ak, ck, q1⟩ := o1.slc_one
  have q4 := o2.int_eq
  subst q1 q4
  obtain ⟨_, q2, q3, q5⟩ := Has.row o1
  subst e1
  exact ⟨b, o, Ak, ck, e, hb, by have := hc 0 _ rfl; simpa using this, by have := hc 1 _ rfl; rw [← Nat.add_assoc] at this; exact this, q2, q3, q5⟩
theorem cntD_pair (t : List Int) (x : Int) : cntD ShP (t, x) = t.length + 1 := by
  show cntD ShL t + 1 = _
  rw [cntD_ints]
theorem markD_pair (t : List Int) (x k : Int) : markD ShP (t, x) k = (marks k t.length, k + (t.length : Int)) := by
  show (markD ShL t k, k + ((cntD ShL t : Nat) : Int)) = _
  rw [cntD_ints]
  congr 1
  exact markL_ints k t
def markedC (S : List (List Int × Int)) (k : Int) : List (List Int × Int) := markD ShC S k
theorem markedC_length (S : List (List Int × Int)) (k : Int) : (markedC S k).length = S.length := markL_length _ _ _ _
def cntC (S : List (List Int × Int)) : Nat := cntD ShC S
def cntTake (S : List (List Int × Int)) (r : Nat) : Nat := sumC (cntD ShP) (S.take r)
theorem cntTake_step {S : List (List Int × Int)} {r : Nat} {t : List Int} {x : Int} (h : S[r]? = some (t, x)) : cntTake S (r + 1) = cntTake S r + (t.length + 1) := by
  unfold cntTake
  rw [sumC_take h]
  congr 1
  exact cntD_pair t x
theorem cntTake_le (S : List (List Int × Int)) (r : Nat) : cntTake S r ≤ cntC S := sumC_le _ _ _
theorem cntTake_end (S : List (List Int × Int)) {n : Nat} (h : S.length = n) : cntTake S n = cntC S := by
  unfold cntTake
  rw [List.take_of_length_le (by omega)]; rfl
theorem markedC_at {S : List (List Int × Int)} {k : Int} {r : Nat} {t : List Int} {x : Int} (h : S[r]? = some (t, x)) : (markedC S k)[r]? = some (marks (k + (cntTake S r : Nat)) t.length, k + (cntTake S r : Nat) + (t.length : Int)) := by
  have h1 := markL_at (f := markD ShP) (c := cntD ShP) (k := k) h
  rw [markD_pair] at h1
  exact h1
def mixC (S : List (List Int × Int)) (k : Int) (r : Nat) : List (List Int × Int) := (markedC S k).take r ++ S.drop r
theorem mixC_at {S : List (List Int × Int)} {k : Int} {r : Nat} {p : List Int × Int} (h : S[r]? = some p) : (mixC S k r)[r]? = some p := mixL_at (markedC_length S k) h
theorem mixC_step {S : List (List Int × Int)} {k : Int} {r : Nat} {t : List Int} {x : Int} (h : S[r]? = some (t, x)) : (mixC S k r).set r (marks (k + (cntTake S r : Nat)) t.length, k + (cntTake S r : Nat) + (t.length : Int)) = mixC S k (r + 1) := by
  have hr : r < S.length := by
    rcases Nat.lt_or_ge r S.length with g | g
    · exact g
    · rw [List.getElem?_eq_none g] at h; cases h
  exact mixL_step hr (markedC_length S k) (markedC_at h)
set_option maxHeartbeats 1000000 in
theorem markCountedS_any (A : Option Addr) (n c : Nat) (S : List (List Int × Int)) (B : List Nat) (k : Int) (w : World) (hl : S.length = n) (hn : n ≤ 1048576) (ht : cntC S ≤ 1048576) (k0 : 0 ≤ k) (k1 : k ≤ 1073741824) (hB : B.Nodup) (h : Own ShC [.slice A n c] S B w) :
    Calls Try.prog 27 #[.slice A n c, .int .i64 k] w (MarkedD ShC [.slice A n c] B k S w) := by
  have HL := Lib.hid hl
  have HC := Lib.hid (show cntD ShC S = cntC S from rfl)
  clear hl
  go_enter Try.func27, Try.ntmps27
  go_wp2_with fail
  go_loopw [1, 5] (fun kk i wr => ∃ r : Nat, r ≤ n ∧ kk = .int .i64 (k + (cntTake S r : Nat)) ∧ i = .int .i64 r ∧ Own ShC [.slice A n c] (mixC S k r) B wr ∧ Turn B w wr) (fun _ i _ => n - (intOf i).toNat)
  case atStart => exact ⟨0, Nat.zero_le _, by simp [cntTake, sumC], rfl, h, Turn.refl _ _⟩
  case round =>
    obtain ⟨r, hr, rfl, rfl, HO, HT⟩ := hrel
    have hle := cntTake_le S r
    by_cases hlt : r < n
    · obtain ⟨⟨t, x⟩, hx⟩ := at_lt (show r < S.length by rw [HL.out]; exact hlt)
      have HST := Lib.hid (cntTake_step hx)
      have HMX := Lib.hid (mixC_step (k := k) hx)
      have hle2 := cntTake_le S (r + 1)
      rw [HST.out] at hle2
      obtain ⟨g, cap, Ak, ck, hv, hc0, hc1, hf1, hk1, hk2, hrow, hbB, hgB, hp1, hp2⟩ := cnt_child HO hB (mixC_at hx)
      have hv2 : A = some ⟨g, 0, none⟩ ∧ c = cap := by injection hv with a1 a2 a3; exact ⟨a1, a3⟩
      clear hv
      obtain ⟨rfl, rfl⟩ := hv2
      have HT' := Lib.hid HT
      obtain ⟨kk, hkk⟩ : ∃ kk, kk = k + (cntTake S r : Nat) := ⟨_, rfl⟩
      have HKK := Lib.hid hkk
      rw [← hkk]
      have hkb : 0 ≤ kk ∧ kk ≤ 1075000000 := by omega
      have HBB := Lib.hid hbB
      have HGB := Lib.hid hgB
      have HP1 := Lib.hid hp1
      clear HO HT h hx hle hkk hbB hgB hp1 hp2 hf1 hc1
      go_wp2_with fail
      refine (markInt64S_any Ak t.length ck 0 t kk _ rfl (by omega) (by omega) (by omega) hrow).mono ?_
      rintro e w2 ⟨rfl, ho2, hg2⟩
      have HO2 := HP1.out (marks kk t.length) w2 (marks_length _ _) ho2 hg2
      have HT2 : Hid (Turn B w w2) := HT'.out.trans (Turn.grown hg2 HBB.out)
      have hat2 : ((mixC S k r).set r (marks kk t.length, x))[r]? = some (marks kk t.length, x) := by
        rw [List.getElem?_set_self]
        unfold mixC
        rw [List.length_append, List.length_take, List.length_drop, markedC_length]; rw [HL.out]; omega
      obtain ⟨g', cap', A', c', hv', hd0, hd1, hf1, _, _, _, _, _, _, hp2⟩ := cnt_child HO2 hB hat2
      have hgg : g = g' := by injection hv' with a1 _ _; injection a1 with a1; injection a1 with a1
      clear hv'
      subst hgg
      have G : Hid (Own ShC [.slice (some ⟨g, 0, none⟩) n c] (mixC S k (r + 1)) B (w2.setCell ⟨g, r * 2 + 1, none⟩ (.int .i64 (kk + (t.length : Int))))) := by
        rw [Hid, ← HMX.out, ← HKK.out]
        have := hp2 (kk + (t.length : Int))
        rw [List.set_set] at this
        exact this
      have GT : Hid (Turn B w (w2.setCell ⟨g, r * 2 + 1, none⟩ (.int .i64 (kk + (t.length : Int))))) := HT2.out.trans (Turn.set HGB.out _)
      have HKN : Hid (kk + (t.length : Int) + 1 = k + (cntTake S (r + 1) : Nat)) := by rw [Hid, HST.out, HKK.out]; omega
      clear HO2 ho2 hg2 hat2 hp2 hd0 hrow
      go_wp2
      go_roundw
      case rel => exact ⟨r + 1, by omega, by rw [← HKN.out], by go_num, G.out, GT.out⟩
      case measure => simp [intOf]; omega
    · obtain rfl : r = n := by omega
      have G : Hid (Own ShC [.slice A r c] (markD ShC S k) B wr) := by
        have e : mixC S k r = markedC S k := mixL_end (by rw [markedC_length]; exact HL.out) HL.out
        rw [e] at HO; exact HO
      have HE := Lib.hid (cntTake_end S HL.out)
      have HT' := Lib.hid HT
      clear HO HT h
      go_wp2
      go_ret
      exact ⟨by rw [HE.out]; rfl, G.out, HT'.out⟩
set_option maxHeartbeats 1000000 in
theorem heldCountedS_any (A : Option Addr) (n c hi : Nat) (S : List (List Int × Int)) (k : Int) (w : World) (hl : S.length = n) (hn : n ≤ 1048576) (ht : cntC S ≤ 1048576) (k0 : 0 ≤ k) (k1 : k ≤ 1073741824) (h : Has ShC [.slice A n c] (markD ShC S k) hi w) :
    Calls Try.prog 28 #[.slice A n c, .int .i64 k] w fun e w' => e = .returned (.int .i64 (k + (cntC S : Nat))) ∧ w = w' := by
  have HL := Lib.hid hl
  have HH := Lib.hid h
  clear hl h
  go_enter Try.func28, Try.ntmps28
  go_wp2_with fail
  go_loop [1, 5] (fun kk i => ∃ r : Nat, r ≤ n ∧ kk = .int .i64 (k + (cntTake S r : Nat)) ∧ i = .int .i64 r) (fun _ i => n - (intOf i).toNat)
  case atStart => exact ⟨0, Nat.zero_le _, by simp [cntTake, sumC], rfl⟩
  case round =>
    obtain ⟨r, hr, rfl, rfl⟩ := hrel
    have hle := cntTake_le S r
    by_cases hlt : r < n
    · obtain ⟨⟨t, x⟩, hx⟩ := at_lt (show r < S.length by rw [HL.out]; exact hlt)
      have HST := Lib.hid (cntTake_step hx)
      have hle2 := cntTake_le S (r + 1)
      rw [HST.out] at hle2
      obtain ⟨b, o, Ak, ck, rfl, _, hc0, hc1, _, _, hrow⟩ := cnt_read HH.out (markedC_at (k := k) hx)
      rw [marks_length] at hc0
      obtain ⟨kk, hkk⟩ : ∃ kk, kk = k + (cntTake S r : Nat) := ⟨_, rfl⟩
      have HKK := Lib.hid hkk
      rw [← hkk] at hc1 hrow ⊢
      have hkb : 0 ≤ kk ∧ kk ≤ 1075000000 := by omega
      have hkn : ¬ (kk + (t.length : Int) < 0) := by omega
      have HKN : Hid (kk + (t.length : Int) + 1 = k + (cntTake S (r + 1) : Nat)) := by rw [Hid, HST.out, HKK.out]; omega
      clear hx hle hkk
      go_wp2_with fail
      refine (heldInt64S_any Ak t.length ck hi kk _ (by omega) (by omega) (by omega) hrow).mono ?_
      rintro e w' ⟨rfl, rfl⟩
      go_wp2
      go_round
      case rel => exact ⟨r + 1, by omega, by rw [← HKN.out], by go_num⟩
      case measure => simp [intOf]; omega
    · obtain rfl : r = n := by omega
      have HE := Lib.hid (cntTake_end S HL.out)
      go_wp2
      go_ret
      first | exact ⟨rfl, rfl⟩ | exact ⟨ret_i64 (by rw [HE.out]), rfl⟩
end Go.Proofs.Ytfehjjaebdgjlaa
/-
  The laws' comparison of lists; lists in memory.
-/
namespace Go.Proofs.Ytfehjjaebdgjlaa
open Go.RowKit Fld
set_option linter.unusedVariables false
set_option linter.unusedSimpArgs false
set_option maxRecDepth 100000

set_option maxHeartbeats 400000 in
theorem likeInts_any (A A' : Option Addr) (n n' c c' B B' : Nat) (xs ys : List Int) (w : World) (hl : xs.length = n) (hl' : ys.length = n') (hn : n ≤ 9223372036854775807) (hn' : n' ≤ 9223372036854775807) (h : Row w B A (ints xs)) (h' : Row w B' A' (ints ys)) :
    Calls Try.prog 21 #[.slice A n c, .slice A' n' c'] w fun e w' => e = .returned (.bool (eqL xs ys)) ∧ ∃ m, w' = w.drewN m := by
  have HL := Lib.hid hl
  have HL' := Lib.hid hl'
  clear hl hl'
  by_cases hnn : n = n'
  · subst hnn
    go_enter Try.func21, Try.ntmps21
    go_wp2_with fail
    go_loopw [5] (fun i wr => ∃ k m : Nat, k ≤ n ∧ i = .int .i64 k ∧ wr = w.drewN m ∧ Hid (xs.take k = ys.take k)) (fun i _ => n - (intOf i).toNat)
    case atStart => exact ⟨0, 0, Nat.zero_le _, rfl, rfl, rfl⟩
    case round =>
      obtain ⟨k, m, hk, rfl, rfl, HT⟩ := hrel
      by_cases hlt : k < n
      · obtain ⟨x, hx⟩ := at_lt (show k < xs.length by rw [HL.out]; exact hlt)
        obtain ⟨y, hy⟩ := at_lt (show k < ys.length by rw [HL'.out]; exact hlt)
        obtain ⟨b, o, rfl, _, hc⟩ := h k _ (ints_at hx)
        obtain ⟨b', o', rfl, _, hc'⟩ := h' k _ (ints_at hy)
        by_cases hxy : x = y
        · subst hxy
          have G := Lib.hid (take_same HT.out hx hy)
          clear hx hy HT
          go_wp2_with fail
          go_quiet (fail)
          go_wp2
          go_roundw
          case rel => exact ⟨k + 1, _, by omega, by go_num, rfl, G⟩
          case measure => simp [intOf]; omega
        · have G := Lib.hid (eqL_at hx hy hxy)
          have t := bne_t hxy
          clear hx hy HT hxy
          go_wp2_with fail
          go_quiet (fail)
          go_wp2
          go_ret
          exact ⟨ret_bool G.out.symm, _, World.drewN_drewN ..⟩
      · obtain rfl : k = n := by omega
        have G := Lib.hid (eqL_end HT.out HL.out HL'.out)
        clear HT
        go_wp2
        go_ret
        exact ⟨ret_bool G.out.symm, _, rfl⟩
  · have G := Lib.hid (eqL_len (xs := xs) (ys := ys) (by rw [HL.out, HL'.out]; exact hnn))
    have t := bne_t (show (n : Int) ≠ (n' : Int) by omega)
    clear hnn
    go_enter Try.func21, Try.ntmps21
    go_wp2
    go_ret
    exact ⟨ret_bool G.out.symm, 0, rfl⟩

/-- a list in memory -/
def Lst (w : World) (A : Option Addr) (L : List Int) : Prop := Row w w.heap.size A (ints L)
theorem Lst.next {w w' : World} {A : Option Addr} {L : List Int} (h : Lst w A L) (b : Below w.heap.size w w') : Lst w' A L := (Row.below h b (Nat.le_refl _)).more b.size
theorem Lst.drew {w : World} {A : Option Addr} {L : List Int} (h : Lst w A L) (n : Nat) : Lst (w.drewN n) A L := h
theorem Lst.redrew {w : World} {A : Option Addr} {L : List Int} {a : Nat} (h : Lst (w.drewN a) A L) (n : Nat) : Lst (w.drewN (a + n)) A L := h
theorem below_redrewN {B : Nat} {a w : World} {m : Nat} (h : Below B a (w.drewN m)) (n : Nat) : Below B a (w.drewN (m + n)) := below_drewN (w := w) ⟨h.os, h.tape, h.output, h.size, h.block⟩ _
theorem Src.drew {w : World} {T : TypeId} {G B : Nat} {xs : List Int} (s : Src w T G B xs) (n : Nat) : Src (w.drewN n) T G B xs := s
theorem Src.redrew {w : World} {T : TypeId} {G B a : Nat} {xs : List Int} (s : Src (w.drewN a) T G B xs) (n : Nat) : Src (w.drewN (a + n)) T G B xs := s
theorem Lst.alloc {w : World} {A : Option Addr} {L : List Int} (h : Lst w A L) (o : Obj) : Lst (w.alloc o) A L := h.next ((Below.refl _ _).alloc (Nat.le_refl _) _)
theorem Lst.only {w w' : World} {A : Option Addr} {L : List Int} {G B : Nat} (h : Row w B A (ints L)) (hB : B ≤ w.heap.size) (k : w.grownBy w' (some G)) (hG : B ≤ G) : Lst w' A L := (Row.only h k hG).more (Nat.le_trans hB k.size)
theorem below_step {B : Nat} {a w w' : World} (h : Below B a w) (hB : B ≤ w.heap.size) (k : Below w.heap.size w w') : Below B a w' := h.trans (k.mono hB)
/-- a list in memory below B -/
def Low (w : World) (B : Nat) (A : Option Addr) (L : List Int) : Prop := Row w B A (ints L) ∧ B ≤ w.heap.size
theorem Low.of {w : World} {A : Option Addr} {L : List Int} (h : Lst w A L) : Low w w.heap.size A L := ⟨h, Nat.le_refl _⟩
theorem Low.next {w w' : World} {B : Nat} {A : Option Addr} {L : List Int} (h : Low w B A L) (b : Below w.heap.size w w') : Low w' B A L := ⟨Row.below h.1 b h.2, Nat.le_trans h.2 b.size⟩
theorem Low.drew {w : World} {B : Nat} {A : Option Addr} {L : List Int} (h : Low w B A L) (n : Nat) : Low (w.drewN n) B A L := h
theorem Low.redrew {w : World} {B a : Nat} {A : Option Addr} {L : List Int} (h : Low (w.drewN a) B A L) (n : Nat) : Low (w.drewN (a + n)) B A L := h
theorem Low.only {w w' : World} {B G : Nat} {A : Option Addr} {L : List Int} (h : Low w B A L) (k : w.grownBy w' (some G)) (hG : B ≤ G) : Low w' B A L := ⟨Row.only h.1 k hG, Nat.le_trans h.2 k.size⟩
theorem Low.lst {w : World} {B : Nat} {A : Option Addr} {L : List Int} (h : Low w B A L) : Lst w A L := Row.more h.1 h.2
theorem likeInts_yes (A A' : Option Addr) (n n' c c' : Nat) (xs ys : List Int) (w : World) (e : xs = ys) (hl : xs.length = n) (hl' : ys.length = n') (hn : n ≤ 1048576) (h : Lst w A xs) (h' : Lst w A' ys) :
    Calls Try.prog 21 #[.slice A n c, .slice A' n' c'] w fun e w' => e = .returned (.bool true) ∧ ∃ m, w' = w.drewN m := by
  subst e
  refine (likeInts_any A A' n n' c c' _ _ xs xs w hl hl' (by omega) (by omega) h h').mono ?_
  rintro e w' ⟨rfl, m, rfl⟩
  exact ⟨by rw [eqL_self], m, rfl⟩
end Go.Proofs.Ytfehjjaebdgjlaa
/-
  How often a tree stands in a sum in memory.
-/
namespace Go.Proofs.Ytfehjjaebdgjlaa
open Go.RowKit Fld
set_option linter.unusedVariables false
set_option linter.unusedSimpArgs false
set_option maxRecDepth 100000

/-- how often a tree stands among the first entries of a sum -/
def tmsTo (S : List (List Int × Int)) (t : List Int) : Nat → Int
  | 0 => 0
  | r + 1 => tmsTo S t r + (if (S.getD r ([], 0)).1 = t then (S.getD r ([], 0)).2 else 0)
theorem tms_step {S : List (List Int × Int)} {t u : List Int} {r : Nat} {x : Int} (h : S[r]? = some (u, x)) : tmsTo S t (r + 1) = tmsTo S t r + (if u = t then x else 0) := by
  rw [tmsTo, List.getD_eq_getElem?_getD, h]; rfl
theorem tms_bd {S : List (List Int × Int)} {t : List Int} (h : ∀ p ∈ S, 0 ≤ p.2 ∧ p.2 ≤ 1048576) : ∀ r : Nat, 0 ≤ tmsTo S t r ∧ tmsTo S t r ≤ 1048576 * (r : Int)
  | 0 => ⟨Int.le_refl _, by simp [tmsTo]⟩
  | r + 1 => by
    have ih := tms_bd (t := t) h r
    have e : 0 ≤ (S.getD r ([], 0)).2 ∧ (S.getD r ([], 0)).2 ≤ 1048576 := by
      rw [List.getD_eq_getElem?_getD]
      cases hr : S[r]? with
      | none => exact ⟨by decide, by decide⟩
      | some p => exact h p (List.mem_of_getElem? hr)
    rw [tmsTo]
    split <;> omega
theorem eqL_dec {a b : List Int} : eqL a b = decide (a = b) := rfl
set_option maxHeartbeats 1000000 in
theorem times9_any (A A' : Option Addr) (n n' c c' hi : Nat) (S : List (List Int × Int)) (t : List Int) (w : World) (hl : S.length = n) (hl' : t.length = n') (hn : n ≤ 1048576) (hn' : n' ≤ 1048576) (ht : ∀ p ∈ S, (0 ≤ p.2 ∧ p.2 ≤ 1048576) ∧ p.1.length ≤ 1048576) (h : Has ShC [.slice A n c] S hi w) (h' : Lst w A' t) :
    Calls Try.prog 19 #[.slice A n c, .slice A' n' c'] w fun e w' => e = .returned (.int .i64 (tmsTo S t n)) ∧ ∃ m, w' = w.drewN m := by
  have HL := Lib.hid hl
  have HL' := Lib.hid hl'
  have HT := Lib.hid ht
  have HB := fun r => Lib.hid (tms_bd (S := S) (t := t) (fun p hp => (ht p hp).1) r)
  clear hl hl' ht
  go_enter Try.func19, Try.ntmps19
  go_wp2_with fail
  go_loopw [5, 6] (fun s i wr => ∃ r m : Nat, r ≤ n ∧ s = .int .i64 (tmsTo S t r) ∧ i = .int .i64 r ∧ wr = w.drewN m) (fun _ i _ => n - (intOf i).toNat)
  case atStart => exact ⟨0, 0, Nat.zero_le _, rfl, rfl, rfl⟩
  case round =>
    obtain ⟨r, m, hr, rfl, rfl, rfl⟩ := hrel
    by_cases hlt : r < n
    · obtain ⟨⟨u, x⟩, hx⟩ := at_lt (show r < S.length by rw [HL.out]; exact hlt)
      have HST := Lib.hid (tms_step (t := t) hx)
      obtain ⟨b, o, Ak, ck, rfl, hb, hc0, hc1, _, _, hrow⟩ := cnt_read h hx
      obtain ⟨⟨x0, x1⟩, hul⟩ := HT.out _ (List.mem_of_getElem? hx)
      have hb0 := (HB r).out
      have HX := Lib.hid hx
      have HR : Hid (Row (w.drewN m) hi Ak (ints u)) := Row.drewN hrow m
      have HR' : Hid (Row (w.drewN m) w.heap.size A' (ints t)) := Row.drewN h' m
      obtain ⟨ss, hss⟩ : ∃ ss, ss = tmsTo S t r := ⟨_, rfl⟩
      rw [← hss] at hb0 HST
      have HS := Lib.hid hss
      rw [← hss]
      clear hx hrow hss
      go_wp2_with fail
      refine (likeInts_any Ak A' u.length n' ck c' hi w.heap.size u t _ rfl HL'.out (by omega) (by omega) HR.out HR'.out).mono ?_
      rintro e w2 ⟨rfl, m2, rfl⟩
      have e1 := eqL_dec (a := u) (b := t)
      by_cases hut : u = t
      · rw [e1, decide_eq_true hut]
        rw [if_pos hut] at HST
        clear e1 hut
        go_wp2
        go_roundw
        case rel => exact ⟨r + 1, _, by omega, by rw [HST.out], by go_num, rfl⟩
        case measure => simp [intOf]; omega
      · rw [e1, decide_eq_false hut]
        rw [if_neg hut] at HST
        clear e1 hut
        go_wp2
        go_roundw
        case rel => exact ⟨r + 1, _, by omega, by rw [HST.out, Int.add_zero], by go_num, rfl⟩
        case measure => simp [intOf]; omega
    · obtain rfl : r = n := by omega
      go_wp2
      go_ret
      exact ⟨rfl, _, rfl⟩
end Go.Proofs.Ytfehjjaebdgjlaa
/-
  A strings.Builder of the call's own: what its two methods answer that the program calls.
-/
namespace Go.Proofs.Ytfehjjaebdgjlaa
open Go.RowKit Fld
set_option linter.unusedVariables false
set_option linter.unusedSimpArgs false
set_option maxRecDepth 100000

theorem bld_used (b : Nat) (w : World) (h0 : w.cell? ⟨b, 0, none⟩ = some (.pointer (some ⟨b, 0, none⟩))) :
    Calls Try.prog 149 #[.pointer (some ⟨b, 0, none⟩)] w fun e w' => e = .returned (.tuple #[]) ∧ w' = w := by
  obtain ⟨j, hj, _⟩ := Option.map_eq_some_iff.1 Try.Builder_Extra_169.toX72.sizeBuilder
  go_enter Try.func149, Try.ntmps149
  go_wp2
  rw [Lib.run_neq_ptr_same w _ Try.underlying148 hj]
  go_wp2
  go_end0
  exact ⟨rfl, rfl⟩
theorem bld_fresh (b : Nat) (w : World) (h0 : w.cell? ⟨b, 0, none⟩ = some (.pointer none)) (hsh : w.shape? b = some (150, 2)) (hfz : w.frozen? ⟨b, 0, none⟩ = false) :
    Calls Try.prog 149 #[.pointer (some ⟨b, 0, none⟩)] w fun e w' => e = .returned (.tuple #[]) ∧ w' = w.setCell ⟨b, 0, none⟩ (.pointer (some ⟨b, 0, none⟩)) := by
  obtain ⟨j, hj, hjs⟩ := Option.map_eq_some_iff.1 Try.Builder_Extra_169.toX72.sizeBuilder
  go_enter Try.func149, Try.ntmps149
  go_wp2
  rw [Lib.run_to_unsafe w ⟨b, 0, none⟩ Try.underlying148 Try.underlying191 hj (by rw [hjs]; decide) hsh (Nat.zero_lt_succ 1)]
  simp only [Result.andThen]
  rw [Oper.upon_value]
  go_wp2
  rw [run_callFunc_extern Try.func167 (by kernel_rfl) (by kernel_rfl) (by kernel_rfl) (e := Extern.AbiNoEscape.same) (by kernel_rfl)]
  rw [Lib.run_noEscape]
  simp only [Result.andThen]
  rw [Oper.upon_value]
  go_wp2
  rw [Lib.run_from_unsafe w ⟨b, 0, none⟩ Try.underlying191 Try.underlying148 hj hsh Try.Builder_Extra_169.toX72.liesBuilder]
  simp only [Result.andThen]
  rw [Oper.upon_value]
  go_wp2
  go_end0
  exact ⟨rfl, rfl⟩
theorem bld_check (B b : Nat) (bs : List Value) (w : World) (h : Lib.IsBuilder 150 5 B b bs w) :
    Calls Try.prog 149 #[.pointer (some ⟨b, 0, none⟩)] w fun e w' => e = .returned (.tuple #[]) ∧ (Lib.BuilderAt 150 5 B b (.pointer (some ⟨b, 0, none⟩)) bs w' ∧ Below B w w') := by
  rcases h with h | h
  · refine (bld_fresh b w h.cell0 h.shape h.frozen0).mono ?_
    rintro e w' ⟨rfl, rfl⟩
    exact ⟨rfl, h.used _, (Below.refl B w).setCell (p := ⟨b, 0, none⟩) h.1 _⟩
  · refine (bld_used b w h.cell0).mono ?_
    rintro e w' ⟨rfl, rfl⟩
    exact ⟨rfl, h, Below.refl B _⟩
theorem info_byte : (Try.prog.info? 5).map (fun i => (i.zero, i.size, i.bytes)) = some (some (.int .u8 0), 1, 1) := by kernel_rfl
set_option maxHeartbeats 1000000 in
theorem bld_write (B b : Nat) (bs : List Value) (s : ByteArray) (w : World) (h : Lib.IsBuilder 150 5 B b bs w) (hlen : bs.length + s.size ≤ 1048576) (hBw : B ≤ w.heap.size) :
    Calls Try.prog 127 #[.pointer (some ⟨b, 0, none⟩), .string s] w fun e w' => e = .returned (.tuple #[.int .i64 s.size, .nilIface]) ∧ (Lib.BuilderAt 150 5 B b (.pointer (some ⟨b, 0, none⟩)) (bs ++ Lib.strCells s) w' ∧ Below B w w') := by
  obtain ⟨i0, hi, hz0, hz1, hz2⟩ := info_parts info_byte
  go_enter Try.func127, Try.ntmps127
  go_wp2_with (go_at_call 149; refine (bld_check B b bs _ h).mono ?_)
  rintro e w1 ⟨rfl, h1, hb1⟩
  obtain ⟨hB, v, hbk, hown, hne⟩ := h1
  have c0 : w1.cell? ⟨b, 0, none⟩ = some (.pointer (some ⟨b, 0, none⟩)) := by rw [Lib.cell_of_heap hbk]; rfl
  have c1 : w1.cell? ⟨b, 1, none⟩ = some v := by rw [Lib.cell_of_heap hbk]; rfl
  go_wp2_with (at_builtin; refine Lib.wpList_append_own_string _ rfl _ _ 22 9 rfl B 5 i0 Try.underlying22 Try.underlying9 hi hz0 hz1 hz2 _ _ _ rfl hown s rfl ?c3 ?c4 ?c5 ?_)
  case c3 => unfold maxLen; omega
  case c4 => omega
  case c5 => have := hb1.size; omega
  intro v' w2 hown' hgrow _
  have hlt : b < w1.heap.size := by
    rcases Nat.lt_or_ge b w1.heap.size with h' | h'
    · exact h'
    · simp [Array.getElem?_eq_none h'] at hbk
  have hb2 : w2.heap[b]? = some (.cells #[.pointer (some ⟨b, 0, none⟩), v] 150 (0, 0)) := by
    rw [hgrow.block b hlt (fun e => hne e.symm)]
    exact hbk
  have d0 : w2.cell? ⟨b, 0, none⟩ = some (.pointer (some ⟨b, 0, none⟩)) := by rw [Lib.cell_of_heap hb2]; rfl
  have d1 : w2.cell? ⟨b, 1, none⟩ = some v := by rw [Lib.cell_of_heap hb2]; rfl
  have f1 : w2.frozen? ⟨b, 1, none⟩ = false := Lib.frozen_of_heap hb2 1
  obtain ⟨ao, n', cap, rfl⟩ : ∃ ao n' cap, v' = .slice ao n' cap := by
    rcases hown'.2 with ⟨hv, _⟩ | ⟨g, cap, cur, hv, _⟩
    · exact ⟨_, _, _, hv⟩
    · exact ⟨_, _, _, hv⟩
  go_wp2
  go_ret2
  refine ⟨rfl, ?_, ?_⟩
  · exact Lib.BuilderAt.put (T := 150) (e := 5) hB hb2 (bs' := bs ++ Lib.strCells s) (by simpa [Lib.strCells_length] using hown') Try.Builder_Extra_169.neB5
  · exact (hb1.grown hgrow (by have := hb1.size; omega) (fun k hk => (hown.lt k hk).1)).setCell (p := ⟨b, 1, none⟩) hB _
end Go.Proofs.Ytfehjjaebdgjlaa
/-
  The library's sort of a few texts in a row of the call's own.
-/
namespace Go.Proofs.Ytfehjjaebdgjlaa
open Go.RowKit Fld
set_option linter.unusedVariables false
set_option linter.unusedSimpArgs false
set_option maxRecDepth 100000

def strs (ls : List (List UInt8)) : List Value := ls.map fun l => .string ⟨l.toArray⟩
theorem strs_at {ls : List (List UInt8)} {k : Nat} {l : List UInt8} (h : ls[k]? = some l) : (strs ls)[k]? = some (.string ⟨l.toArray⟩) := by
  unfold strs; rw [List.getElem?_map, h]; rfl
theorem strs_length (ls : List (List UInt8)) : (strs ls).length = ls.length := by simp [strs]
theorem strs_set (ls : List (List UInt8)) (k : Nat) (l : List UInt8) : strs (ls.set k l) = (strs ls).set k (.string ⟨l.toArray⟩) := by unfold strs; rw [List.map_set]

/-! what insertion does, in any order -/
section
variable {α : Type} {le : α → α → Bool}
def insAt (S : List α) (j : Nat) (x : α) (R : List α) : List α := S.take j ++ x :: (S.drop j ++ R)
theorem insAt_x {S R : List α} {j : Nat} {x : α} (h : j ≤ S.length) : (insAt S j x R)[j]? = some x := by
  unfold insAt
  have e : (S.take j).length = j := by rw [List.length_take]; omega
  rw [List.getElem?_append_right (by omega), e, Nat.sub_self]; rfl
theorem insAt_y {S R : List α} {j : Nat} {x y : α} (h : j + 1 ≤ S.length) (hy : S[j]? = some y) : (insAt S (j + 1) x R)[j]? = some y := by
  unfold insAt
  rw [List.getElem?_append_left (by rw [List.length_take]; omega), List.getElem?_take, if_pos (by omega)]; exact hy
theorem insAt_swap {S R : List α} {j : Nat} {x y : α} (h : j + 1 ≤ S.length) (hy : S[j]? = some y) : ((insAt S (j + 1) x R).set (j + 1) y).set j x = insAt S j x R := by
  unfold insAt
  have e : (S.take j).length = j := by rw [List.length_take]; omega
  have hd : S.drop j = y :: S.drop (j + 1) := by
    have hlt : j < S.length := by omega
    rw [List.drop_eq_getElem_cons hlt]
    rw [List.getElem?_eq_getElem hlt] at hy
    injection hy with hy
    rw [hy]
  rw [List.take_add_one, hy, hd]
  simp only [Option.toList_some, List.append_assoc, List.cons_append, List.nil_append]
  rw [List.set_append_right _ _ (by omega), e, show j + 1 - j = 1 from by omega, List.set_cons_succ, List.set_cons_zero, List.set_append_right _ _ (by omega), e, Nat.sub_self, List.set_cons_zero]
theorem insAt_start {S R : List α} {x : α} : insAt S S.length x R = S ++ x :: R := by unfold insAt; simp
theorem ins_perm (S : List α) (j : Nat) (x : α) : (S.take j ++ x :: S.drop j).Perm (x :: S) := by
  have := @List.perm_middle _ x (S.take j) (S.drop j)
  rwa [List.take_append_drop] at this
theorem ins_done (tr : ∀ {a b c : α}, le a b = true → le b c = true → le a c = true) {S : List α} {j : Nat} {x : α} (hS : S.Pairwise fun a b => le a b = true) (h1 : ∀ s ∈ S.drop j, le x s = true) (hj : j ≤ S.length) (h2 : ∀ y, 0 < j → S[j - 1]? = some y → le y x = true) : (S.take j ++ x :: S.drop j).Pairwise fun a b => le a b = true := by
  have hS' := hS
  rw [← List.take_append_drop j S, List.pairwise_append] at hS'
  obtain ⟨p1, p2, p3⟩ := hS'
  rw [List.pairwise_append, List.pairwise_cons]
  refine ⟨p1, ⟨h1, p2⟩, fun a ha b hb => ?_⟩
  rw [List.mem_cons] at hb
  rcases hb with rfl | hb
  · obtain ⟨i, hi⟩ := List.mem_iff_getElem?.1 ha
    rw [List.getElem?_take] at hi
    split at hi
    · rename_i hij
      obtain ⟨y, hy⟩ : ∃ y, S[j - 1]? = some y := ⟨_, List.getElem?_eq_getElem (by omega)⟩
      have hyx := h2 y (by omega) hy
      rcases Nat.lt_or_ge i (j - 1) with g | g
      · refine tr ?_ hyx
        have hi2 : i < S.length := by omega
        have hj2 : j - 1 < S.length := by omega
        rw [List.getElem?_eq_getElem hi2] at hi
        rw [List.getElem?_eq_getElem hj2] at hy
        injection hi with hi
        injection hy with hy
        subst hi hy
        exact List.pairwise_iff_getElem.1 hS i (j - 1) hi2 hj2 g
      · have : i = j - 1 := by omega
        subst this
        rw [hy] at hi
        injection hi with hi
        rw [← hi]; exact hyx
    · cases hi
  · exact p3 a ha b hb
theorem ins_low {S : List α} {j : Nat} {x y : α} (h1 : ∀ s ∈ S.drop (j + 1), le x s = true) (hy : S[j]? = some y) (hxy : le x y = true) : ∀ s ∈ S.drop j, le x s = true := by
  intro s hs
  have hlt : j < S.length := by
    rcases Nat.lt_or_ge j S.length with g | g
    · exact g
    · rw [List.getElem?_eq_none g] at hy; cases hy
  rw [List.drop_eq_getElem_cons hlt, List.mem_cons] at hs
  rw [List.getElem?_eq_getElem hlt] at hy
  injection hy with hy
  rcases hs with rfl | hs
  · rw [hy]; exact hxy
  · exact h1 s hs
/-- the first i of l, sorted, ahead of the others -/
structure Insd (le : α → α → Bool) (l : List α) (i : Nat) (S : List α) : Prop where
  len : S.length = i
  perm : S.Perm (l.take i)
  sorted : S.Pairwise fun a b => le a b = true
theorem Insd.one (l : List α) (h : 1 ≤ l.length) : Insd le l 1 (l.take 1) := by
  refine ⟨by rw [List.length_take]; omega, List.Perm.refl _, ?_⟩
  match l, h with
  | a :: r, _ => simp
theorem Insd.step (tr : ∀ {a b c : α}, le a b = true → le b c = true → le a c = true) {l S : List α} {i j : Nat} {x : α} (h : Insd le l i S) (hx : l[i]? = some x) (h1 : ∀ s ∈ S.drop j, le x s = true) (hj : j ≤ i) (h2 : ∀ y, 0 < j → S[j - 1]? = some y → le y x = true) : Insd le l (i + 1) (S.take j ++ x :: S.drop j) := by
  refine ⟨?_, ?_, ins_done (le := le) tr h.sorted h1 (by rw [h.len]; exact hj) h2⟩
  · have := (ins_perm S j x).length_eq
    rw [this, List.length_cons, h.len]
  · rw [List.take_add_one, hx]
    refine (ins_perm S j x).trans (((h.perm).cons x).trans ?_)
    exact (List.perm_append_singleton x _).symm
theorem Insd.eq (asy : ∀ {a b : α}, le a b = true → le b a = true → a = b) {l S : List α} {n : Nat} (h : Insd le l n S) (hl : l.length = n) {T : List α} (hp : T.Perm l) (hT : T.Pairwise fun a b => le a b = true) : S = T := by
  have p := h.perm
  rw [List.take_of_length_le (by omega)] at p
  exact List.Perm.eq_of_pairwise (le := fun a b => le a b = true) (fun a b _ _ h1 h2 => asy h1 h2) h.sorted hT (p.trans hp.symm)
end

theorem treeNaN_any (x : ByteArray) (w : World) : Calls Try.prog 132 #[.string x] w fun e w' => e = .returned (.bool false) ∧ w = w' := by
  go_enter Try.func132, Try.ntmps132
  go_wp2
  go_ret
  exact ⟨by simp, rfl⟩
theorem less_eq (x y : List UInt8) : Op.bytesLess x y = !Tr.leS y x := by
  induction x generalizing y with
  | nil => cases y <;> rfl
  | cons a x ih =>
    cases y with
    | nil => rfl
    | cons b y =>
      rw [Op.bytesLess, Tr.leS, ih]
      by_cases e : a = b
      · subst e; simp
      · have e' : ¬ b = a := fun h => e h.symm
        simp only [e, e', if_false, decide_false, Bool.false_and, Bool.or_false]
        rcases Nat.lt_or_ge a.toNat b.toNat with g | g
        · have h1 : a < b := UInt8.lt_iff_toNat_lt.2 g
          have h2 : ¬ b < a := fun h => by have := UInt8.lt_iff_toNat_lt.1 h; omega
          simp [h1, h2]
        · have h3 : a.toNat ≠ b.toNat := fun h => e (UInt8.toNat_inj.1 h)
          have h1 : b < a := UInt8.lt_iff_toNat_lt.2 (by omega)
          have h2 : ¬ a < b := fun h => by have := UInt8.lt_iff_toNat_lt.1 h; omega
          simp [h1, h2]
          exact fun h => absurd h e
theorem treeLess_any (x y : List UInt8) (w : World) : Calls Try.prog 144 #[.string ⟨x.toArray⟩, .string ⟨y.toArray⟩] w fun e w' => e = .returned (.bool (!Tr.leS y x)) ∧ w = w' := by
  go_enter Try.func144, Try.ntmps144
  go_wp2_with (go_at_call 132; refine (treeNaN_any _ _).mono ?_; rintro e w' ⟨rfl, rfl⟩)
  go_ret
  exact ⟨ret_bool (less_eq x y), rfl⟩
/-- a row of texts that a sort turns -/
def Srow (base g n cap : Nat) (w : World) (ls : List (List UInt8)) (wr : World) : Prop := wr.ownsRow base 59 1 (.slice (some ⟨g, 0, none⟩) n cap) n (strs ls) ∧ w.grownBy wr (some g)
theorem Srow.swap {base g n cap j : Nat} {w wr : World} {ls : List (List UInt8)} {x y : List UInt8} (h : Srow base g n cap w ls wr) :
    Srow base g n cap w ((ls.set (j + 1) y).set j x) ((wr.setCell ⟨g, j + 1, none⟩ (.string ⟨y.toArray⟩)).setCell ⟨g, j, none⟩ (.string ⟨x.toArray⟩)) := by
  obtain ⟨h1, h2⟩ := h.1.stored (j + 1) (.string ⟨y.toArray⟩)
  obtain ⟨h3, h4⟩ := h1.stored j (.string ⟨x.toArray⟩)
  rw [← strs_set, ← strs_set] at h3
  exact ⟨h3, grownBy_trans h.2 (grownBy_trans h2 h4)⟩
theorem Srow.drewN {base g n cap : Nat} {w wr : World} {ls : List (List UInt8)} (h : Srow base g n cap w ls wr) (m : Nat) : Srow base g n cap w ls (wr.drewN m) := ⟨h.1, ⟨h.2.os, h.2.tape, h.2.output, h.2.size, h.2.block⟩⟩
set_option maxHeartbeats 1000000 in
theorem treeInsert_any (base g n cap : Nat) (ss : List (List UInt8)) (w : World) (hl : ss.length = n) (h1 : 1 ≤ n) (hn : n ≤ 12) (h : w.ownsRow base 59 1 (.slice (some ⟨g, 0, none⟩) n cap) n (strs ss)) :
    Calls Try.prog 138 #[.slice (some ⟨g, 0, none⟩) n cap, .int .i64 0, .int .i64 n] w fun e w' => e = .returned (.tuple #[]) ∧ Srow base g n cap w (Tr.sortS ss) w' := by
  have HL := Lib.hid hl
  have F0 : Hid (Srow base g n cap w (ss.take 1 ++ ss.drop 1) w) := by rw [Hid, List.take_append_drop]; exact ⟨h, World.grownBy.refl _ _⟩
  have I0 := Lib.hid (Insd.one (le := Tr.leS) ss (by omega))
  clear hl h
  go_enter Try.func138, Try.ntmps138
  go_wp2_with fail
  go_loopw [6] (fun i wr => ∃ (k : Nat) (S : List (List UInt8)), 1 ≤ k ∧ k ≤ n ∧ i = .int .i64 k ∧ Hid (Insd Tr.leS ss k S) ∧ Srow base g n cap w (S ++ ss.drop k) wr) (fun i _ => n - (intOf i).toNat)
  case atStart => exact ⟨1, _, Nat.le_refl _, h1, rfl, I0, F0.out⟩
  case round =>
    obtain ⟨i, S, i1, hi, rfl, HI, HF⟩ := hrel
    by_cases hlt : i < n
    · obtain ⟨x, hx⟩ := at_lt (show i < ss.length by rw [HL.out]; exact hlt)
      have HX := Lib.hid hx
      have hin : Hid (∀ j T W, j ≤ i → Srow base g n cap w (insAt S j x (ss.drop (i + 1))) W → Insd Tr.leS ss (i + 1) T → T = S.take j ++ x :: S.drop j → Srow base g n cap w (T ++ ss.drop (i + 1)) W) := by
        intro j T W hj hW hT e
        subst e
        unfold insAt at hW
        simpa using hW
      have F1 : Hid (Srow base g n cap w (insAt S i x (ss.drop (i + 1))) wr) := by
        rw [Hid]
        have e := insAt_start (S := S) (R := ss.drop (i + 1)) (x := x)
        rw [HI.out.len] at e
        rw [e]
        have e2 : ss.drop i = x :: ss.drop (i + 1) := by
          have hlt2 : i < ss.length := by rw [HL.out]; exact hlt
          rw [List.drop_eq_getElem_cons hlt2]
          rw [List.getElem?_eq_getElem hlt2] at hx
          injection hx with hx
          rw [hx]
        rw [← e2]; exact HF
      clear hx HF F0 I0
      go_wp2_with fail
      go_loopw [7] (fun jj wr => ∃ j : Nat, j ≤ i ∧ jj = .int .i64 j ∧ Hid (∀ s ∈ S.drop j, Tr.leS x s = true) ∧ Srow base g n cap w (insAt S j x (ss.drop (i + 1))) wr) (fun jj _ => (intOf jj).toNat)
      case atStart => exact ⟨i, Nat.le_refl _, rfl, (fun s hs => by rw [List.drop_of_length_le (by rw [HI.out.len]; exact Nat.le_refl _)] at hs; cases hs), F1.out⟩
      case round =>
        obtain ⟨j, hj, rfl, HD, HF⟩ := hrel
        by_cases h0 : j = 0
        · have G : Hid (∃ T, Insd Tr.leS ss (i + 1) T ∧ Srow base g n cap w (T ++ ss.drop (i + 1)) wr) :=
            have hT := HI.out.step (le := Tr.leS) Tr.leS_tr HX.out HD.out hj (fun y hy => by omega)
            ⟨_, hT, hin.out j _ _ hj HF hT rfl⟩
          obtain rfl : j = 0 := h0
          obtain ⟨T, hT, hW⟩ := G.out
          have GT := Lib.hid hT
          have GW := Lib.hid hW
          clear HF HD F1 G hT hW hin
          go_wp2_with fail
          go_quiet (fail)
          go_wp2
          go_roundw
          case rel => exact ⟨i + 1, T, by omega, by omega, by go_num, GT, GW.out.drewN _⟩
          case measure => simp [intOf]; omega
        · obtain ⟨k, rfl⟩ : ∃ k, j = k + 1 := ⟨j - 1, by omega⟩
          obtain ⟨y, hy⟩ := at_lt (show k < S.length by rw [HI.out.len]; omega)
          have hjl : k + 1 ≤ S.length := by rw [HI.out.len]; exact hj
          have c1 := HF.1.cellAt (k + 1) (by omega)
          have c2 := HF.1.cellAt k (by omega)
          have f1 := HF.1.frozenAt (k + 1)
          have f2 := HF.1.frozenAt k
          rw [strs_at (insAt_x hjl)] at c1
          rw [strs_at (insAt_y hjl hy)] at c2
          have hd : decide ((0 : Int) < (k : Int) + 1) = true := decide_eq_true (by omega)
          cases hyx : Tr.leS y x
          · have HD2 : Hid (∀ s ∈ S.drop k, Tr.leS x s = true) := ins_low HD.out hy (Tr.leS_to hyx)
            have HS : Hid (insAt S k x (ss.drop (i + 1)) = ((insAt S (k + 1) x (ss.drop (i + 1))).set (k + 1) y).set k x) := (insAt_swap hjl hy).symm
            have G : Hid (∀ m, Srow base g n cap w (insAt S k x (ss.drop (i + 1))) (((wr.drewN m).setCell ⟨g, k + 1, none⟩ (.string ⟨y.toArray⟩)).setCell ⟨g, k, none⟩ (.string ⟨x.toArray⟩))) := fun m => by rw [HS.out]; exact (HF.drewN m).swap
            clear HF HD F1 hjl hy hin h0 HS
            have C0 : ∀ w : World, Calls Try.prog 144 #[.string ⟨x.toArray⟩, .string ⟨y.toArray⟩] w fun e w' => e = .returned (.bool true) ∧ w = w' := fun w => by have := treeLess_any x y w; rw [hyx] at this; exact this
            go_wp2_with fail
            go_quiet ((go_at_call 144; exact quietL (C0 _)))
            go_wp2_with fail
            go_region
            go_wp2
            go_roundw
            case rel => exact ⟨k, by omega, by go_num, HD2, G.out _⟩
            case measure => simp [intOf]
          · have G : Hid (∃ T, Insd Tr.leS ss (i + 1) T ∧ Srow base g n cap w (T ++ ss.drop (i + 1)) wr) :=
              have hT := HI.out.step (le := Tr.leS) Tr.leS_tr HX.out HD.out hj (fun z _ hz => by rw [Nat.add_sub_cancel, hy] at hz; injection hz with hz; rw [← hz]; exact hyx)
              ⟨_, hT, hin.out (k + 1) _ _ hj HF hT rfl⟩
            obtain ⟨T, hT, hW⟩ := G.out
            have GT := Lib.hid hT
            have GW := Lib.hid hW
            clear HF HD F1 G hT hW hin hjl hy h0
            have C0 : ∀ w : World, Calls Try.prog 144 #[.string ⟨x.toArray⟩, .string ⟨y.toArray⟩] w fun e w' => e = .returned (.bool false) ∧ w = w' := fun w => by have := treeLess_any x y w; rw [hyx] at this; exact this
            go_wp2_with fail
            go_quiet ((go_at_call 144; exact quietL (C0 _)))
            go_wp2
            go_roundw
            case rel => exact ⟨i + 1, T, by omega, by omega, by go_num, GT, GW.out.drewN _⟩
            case measure => simp [intOf]; omega
    · obtain rfl : i = n := by omega
      have G : Hid (Srow base g i cap w (Tr.sortS ss) wr) := by
        have e := HI.out.eq (fun h k => Tr.leS_as h k) HL.out (Tr.sortS_perm ss) (Tr.sortS_sorted ss)
        rw [e, List.drop_of_length_le (by rw [HL.out]; exact Nat.le_refl _), List.append_nil] at HF
        exact HF
      clear HF F0 HI I0
      go_wp2
      go_end0
      exact ⟨rfl, G.out⟩
theorem bitsLen_any (n : Nat) (hn : n ≤ 12) (w : World) : Calls Try.prog 148 #[.int .u64 n] w fun e w' => (∃ l : Int, e = .returned (.int .i64 l)) ∧ w = w' := by
  have h : n = 0 ∨ n = 1 ∨ n = 2 ∨ n = 3 ∨ n = 4 ∨ n = 5 ∨ n = 6 ∨ n = 7 ∨ n = 8 ∨ n = 9 ∨ n = 10 ∨ n = 11 ∨ n = 12 := by omega
  rcases h with rfl | rfl | rfl | rfl | rfl | rfl | rfl | rfl | rfl | rfl | rfl | rfl | rfl
  all_goals
    go_enter Try.func148, Try.ntmps148
    go_wp2
    go_ret
    exact ⟨⟨_, rfl⟩, rfl⟩
theorem bitsLen (n : Nat) (hn : n ≤ 12) (w : World) : Calls Try.prog 126 #[.int .u64 n] w fun e w' => (∃ l : Int, e = .returned (.int .i64 l)) ∧ w = w' := by
  go_enter Try.func126, Try.ntmps126
  go_wp2_with fail
  refine (bitsLen_any n hn _).mono ?_
  rintro e w' ⟨⟨l, rfl⟩, rfl⟩
  go_wp2
  go_ret
  exact ⟨⟨_, rfl⟩, rfl⟩
/-- what a sort leaves -/
def Sorted (base n : Nat) (v : Value) (w : World) (ls : List (List UInt8)) (e : Ending) (w' : World) : Prop := e = .returned (.tuple #[]) ∧ w'.ownsRow base 59 1 v n (strs ls) ∧ w.grownBy w' v.ownBlock
theorem treeInsert_all (A : Option Addr) (base n c : Nat) (ss : List (List UInt8)) (w : World) (hn : n ≤ 12) (h : w.ownsRow base 59 1 (.slice A n c) n (strs ss)) :
    Calls Try.prog 138 #[.slice A n c, .int .i64 0, .int .i64 n] w (Sorted base n (.slice A n c) w (Tr.sortS ss)) := by
  have hl : ss.length = n := by rw [← strs_length]; exact own_len h
  rcases Nat.eq_zero_or_pos n with h0 | h0
  · subst h0
    have e : ss = [] := List.eq_nil_of_length_eq_zero hl
    subst e
    clear hl
    go_enter Try.func138, Try.ntmps138
    go_wp2_with fail
    go_loopw [6] (fun i wr => i = .int .i64 1 ∧ wr = w) (fun i _ => 0)
    case atStart => exact ⟨rfl, rfl⟩
    case round =>
      obtain ⟨rfl, rfl⟩ := hrel
      go_wp2
      go_end0
      exact ⟨rfl, h, World.grownBy.refl _ _⟩
  · obtain ⟨g, cap, hv⟩ := own_form h h0
    injection hv with hA _ hcap
    subst hA hcap
    refine (treeInsert_any base g n c ss w hl h0 hn h).mono ?_
    rintro e w' ⟨rfl, h1, h2⟩
    exact ⟨rfl, h1, h2⟩
theorem treePdq_any (A : Option Addr) (base n c : Nat) (ss : List (List UInt8)) (l : Int) (w : World) (hn : n ≤ 12) (h : w.ownsRow base 59 1 (.slice A n c) n (strs ss)) :
    Calls Try.prog 125 #[.slice A n c, .int .i64 0, .int .i64 n, .int .i64 l] w (Sorted base n (.slice A n c) w (Tr.sortS ss)) := by
  go_enter Try.func125, Try.ntmps125
  go_wp2_with fail
  go_loopw [1, 2] (fun a b wr => a = .int .i64 0 ∧ b = .int .i64 n ∧ wr = w) (fun _ _ _ => 0)
  case atStart => exact ⟨rfl, rfl, rfl⟩
  case round =>
    obtain ⟨rfl, rfl, rfl⟩ := hrel
    go_wp2_with fail
    refine (treeInsert_all A base n c ss _ hn h).mono ?_
    rintro e w' ⟨rfl, h1, h2⟩
    go_wp2
    go_end0
    exact ⟨rfl, h1, h2⟩
theorem treeSort_any (A : Option Addr) (base n c : Nat) (ss : List (List UInt8)) (w : World) (hn : n ≤ 12) (h : w.ownsRow base 59 1 (.slice A n c) n (strs ss)) :
    Calls Try.prog 106 #[.slice A n c] w (Sorted base n (.slice A n c) w (Tr.sortS ss)) := by
  go_enter Try.func106, Try.ntmps106
  go_wp2_with fail
  refine (bitsLen n hn _).mono ?_
  rintro e w' ⟨⟨l, rfl⟩, rfl⟩
  go_wp2_with fail
  refine (treePdq_any A base n c ss l _ hn h).mono ?_
  rintro e w' ⟨rfl, h1, h2⟩
  go_wp2
  go_end0
  exact ⟨rfl, h1, h2⟩
end Go.Proofs.Ytfehjjaebdgjlaa
/-
  Texts of trees: one after the other, and the tree on some branches.
-/
namespace Go.Proofs.Ytfehjjaebdgjlaa
open Go.RowKit Fld
set_option linter.unusedVariables false
set_option linter.unusedSimpArgs false
set_option maxRecDepth 100000

theorem bytes_S (l : List UInt8) : Lib.strCells ⟨l.toArray⟩ = Lib.byteCells l := rfl
theorem size_S (l : List UInt8) : (⟨l.toArray⟩ : ByteArray).size = l.length := by simp [ByteArray.size]
theorem flat_take {ss : List (List UInt8)} {k : Nat} {x : List UInt8} (h : ss[k]? = some x) : (ss.take (k + 1)).flatten = (ss.take k).flatten ++ x := by
  rw [List.take_add_one, h]; simp
theorem flat_le (ss : List (List UInt8)) (k : Nat) : (ss.take k).flatten.length ≤ ss.flatten.length := by
  have : ss.flatten = (ss.take k).flatten ++ (ss.drop k).flatten := by rw [← List.flatten_append, List.take_append_drop]
  rw [this, List.length_append]; omega
theorem textOf_any (A : Option Addr) (n c B : Nat) (ss : List (List UInt8)) (w : World) (hl : ss.length = n) (hn : n ≤ 1048576) (ht : ss.flatten.length ≤ 1048576) (hB : B ≤ w.heap.size) (h : Row w B A (strs ss)) :
    Calls Try.prog 107 #[.slice A n c] w fun e w' => e = .returned (.string ⟨ss.flatten.toArray⟩) ∧ Below w.heap.size w w' := by
  have HL := Lib.hid hl
  have HT := Lib.hid ht
  clear hl ht
  go_enter Try.func107, Try.ntmps107
  go_wp2_with fail
  go_loopw [8] (fun i wr => ∃ k : Nat, k ≤ n ∧ i = .int .i64 k ∧ Lib.IsBuilder 150 5 w.heap.size w.heap.size (Lib.byteCells (ss.take k).flatten) wr ∧ Below w.heap.size w wr) (fun i _ => n - (intOf i).toNat)
  case atStart => exact ⟨0, Nat.zero_le _, rfl, Lib.fresh_isBuilder _ _ _, (Below.refl _ _).alloc (Nat.le_refl _) _⟩
  case round =>
    obtain ⟨k, hk, rfl, HI, HB⟩ := hrel
    have hsz := HB.size
    by_cases hlt : k < n
    · obtain ⟨x, hx⟩ := at_lt (show k < ss.length by rw [HL.out]; exact hlt)
      obtain ⟨b, o, rfl, _, hc⟩ := h.below HB hB k _ (strs_at hx)
      have HX := Lib.hid (flat_take hx)
      have hsx : (⟨x.toArray⟩ : ByteArray).size = x.length := size_S x
      have hle : (Lib.byteCells (ss.take k).flatten).length + (⟨x.toArray⟩ : ByteArray).size ≤ 1048576 := by
        have h1 := flat_le ss (k + 1)
        rw [HX.out, List.length_append] at h1
        have := HT.out
        rw [Lib.byteCells_length, size_S]; omega
      have HI' := Lib.hid HI
      have HB' := Lib.hid HB
      clear hx HI HB hsx
      go_wp2_with fail
      refine (bld_write w.heap.size w.heap.size _ _ _ HI'.out hle hsz).mono ?_
      rintro e w2 ⟨rfl, h1, b1⟩
      have G : Hid (Lib.IsBuilder 150 5 w.heap.size w.heap.size (Lib.byteCells (ss.take (k + 1)).flatten) w2) := by
        rw [Hid, HX.out, Lib.byteCells_append]; exact .inr h1
      have GB := Lib.hid (HB'.out.trans b1)
      clear h1 b1 HI' HB'
      go_wp2
      go_roundw
      case rel => exact ⟨k + 1, by omega, by go_num, G.out, GB.out⟩
      case measure => simp [intOf]; omega
    · obtain rfl : k = n := by omega
      rw [List.take_of_length_le (by rw [HL.out]; exact Nat.le_refl _)] at HI
      have HB' := Lib.hid HB
      clear HB
      go_wp2_with fail
      refine (Try.Builder_String_any w.heap.size w.heap.size _ _ HI hsz).mono ?_
      rintro e w2 ⟨rfl, b1⟩
      have GB := Lib.hid (HB'.out.trans b1)
      clear b1 HB'
      go_wp2
      go_ret
      exact ⟨rfl, GB.out⟩
theorem flat_sorted (ss : List (List UInt8)) : (Tr.sortS ss).flatten.length = ss.flatten.length := by
  rw [List.length_flatten, List.length_flatten]
  exact ((Tr.sortS_perm ss).map _).sum_nat
theorem rootOn_any (A : Option Addr) (base n c : Nat) (ss : List (List UInt8)) (w : World) (hn : n ≤ 12) (ht : ss.flatten.length ≤ 1048574) (hB : base ≤ w.heap.size) (h : w.ownsRow base 59 1 (.slice A n c) n (strs ss)) :
    Calls Try.prog 80 #[.slice A n c] w fun e w' => e = .returned (.string ⟨(Tr.wrap (Tr.sortS ss)).toArray⟩) ∧ Below base w w' := by
  have hl : ss.length = n := by rw [← strs_length]; exact own_len h
  go_enter Try.func80, Try.ntmps80
  go_wp2_with fail
  refine (treeSort_any A base n c ss _ hn h).mono ?_
  rintro e w1 ⟨rfl, ho, hg⟩
  have b1 : Below base w w1 := (Below.refl _ _).grown hg hB (fun b hb => (h.lt b hb).1)
  have hs1 := hg.size
  clear h hg
  go_wp2_with fail
  have hcall := textOf_any A n c w1.heap.size (Tr.sortS ss) w1 (by rw [Tr.sortS_length]; exact hl) (by omega) (by rw [flat_sorted]; omega) (Nat.le_refl _) (row_of_own ho)
  obtain ⟨L, hL⟩ : ∃ L, L = (Tr.sortS ss).flatten := ⟨_, rfl⟩
  have hz : L.length ≤ 1048574 := by rw [hL, flat_sorted]; exact ht
  have GW : Hid (Tr.wrap (Tr.sortS ss) = [91] ++ L ++ [93]) := by rw [hL]; rfl
  rw [← hL] at hcall
  clear hL ht ho hl
  refine hcall.mono ?_
  rintro e w2 ⟨rfl, b2⟩
  have GB := Lib.hid (b1.trans (b2.mono (by omega)))
  have GE : Hid (∀ z : ByteArray, z = ByteArray.mk #[91] ++ ⟨L.toArray⟩ ++ ByteArray.mk #[93] → z = ⟨(Tr.wrap (Tr.sortS ss)).toArray⟩) := fun z hz => by
    rw [hz, show (ByteArray.mk #[91]) = ⟨([91] : List UInt8).toArray⟩ from rfl, show (ByteArray.mk #[93]) = ⟨([93] : List UInt8).toArray⟩ from rfl, ByteArray.mk_append_mk, ByteArray.mk_append_mk, GW.out]
  clear b1 b2 hcall
  go_wp2
  go_ret
  refine ⟨?_, GB.out⟩
  rw [GE.out _ rfl]
  rfl
end Go.Proofs.Ytfehjjaebdgjlaa
/-
  The program's tree of a list: its text.
-/
namespace Go.Proofs.Ytfehjjaebdgjlaa
open Go.RowKit Fld
set_option linter.unusedVariables false
set_option linter.unusedSimpArgs false
set_option maxRecDepth 100000

theorem tw_at {x : Int} : ∀ {l : List Int} {k : Nat}, (∀ j y, j < k → l[j]? = some y → x < y) → (∀ y, l[k]? = some y → ¬ x < y) → k ≤ l.length → l.takeWhile (fun y => decide (x < y)) = l.take k ∧ l.dropWhile (fun y => decide (x < y)) = l.drop k
  | [], k, _, _, h => by simp
  | a :: l, 0, _, h, _ => by
    have := h a rfl
    simp [this]
  | a :: l, k+1, h1, h2, h3 => by
    have ha := h1 0 a (by omega) rfl
    obtain ⟨e1, e2⟩ := tw_at (l := l) (k := k) (fun j y hj hy => h1 (j + 1) y (by omega) hy) (fun y hy => h2 y hy) (by simpa using h3)
    simp [ha, e1, e2]
/-- a part of a list begins at st and ends at e -/
theorem spl_step {t : List Int} {f st e : Nat} {x : Int} (hx : t[st]? = some x) (h1 : ∀ j y, st < j → j < e → t[j]? = some y → x < y) (h2 : ∀ y, t[e]? = some y → ¬ x < y) (hst : st < e) (he : e ≤ t.length) :
    Tr.splF (f + 1) (t.drop st) = (t.drop st).take (e - st) :: Tr.splF f (t.drop e) := by
  have hlt : st < t.length := by omega
  have hd : t.drop st = x :: t.drop (st + 1) := by
    rw [List.drop_eq_getElem_cons hlt]
    rw [List.getElem?_eq_getElem hlt] at hx
    injection hx with hx
    rw [hx]
  obtain ⟨e1, e2⟩ := tw_at (x := x) (l := t.drop (st + 1)) (k := e - (st + 1)) (fun j y hj hy => h1 (st + 1 + j) y (by omega) (by omega) (by rw [List.getElem?_drop] at hy; exact hy)) (fun y hy => h2 y (by rw [List.getElem?_drop, show st + 1 + (e - (st + 1)) = e from by omega] at hy; exact hy)) (by rw [List.length_drop]; omega)
  rw [hd, Tr.splF, e1, e2, List.drop_drop, show e - st = (e - (st + 1)) + 1 from by omega, List.take_succ_cons, show st + 1 + (e - (st + 1)) = e from by omega]
theorem spl_nil (f : Nat) : Tr.splF f [] = [] := by cases f <;> rfl
theorem Row.part {w : World} {B b o : Nat} {t : List Int} (h : Row w B (some ⟨b, o, none⟩) (ints t)) (st k : Nat) : Row w B (some ⟨b, o + st, none⟩) (ints ((t.drop st).take k)) := fun j v hv => by
  have hj : ((t.drop st).take k)[j]? ≠ none := fun e => by
    unfold ints intsK at hv
    rw [List.getElem?_map, e] at hv; cases hv
  obtain ⟨x, hx⟩ := Option.ne_none_iff_exists'.1 hj
  rw [ints_at hx] at hv
  injection hv with hv
  subst hv
  rw [List.getElem?_take] at hx
  split at hx
  · rw [List.getElem?_drop] at hx
    obtain ⟨b', o', e', hb, hc⟩ := h (st + j) _ (ints_at hx)
    cases e'
    exact ⟨b, o + st, rfl, hb, by rw [Nat.add_assoc]; exact hc⟩
  · cases hx
theorem info_tree : (Try.prog.info? 59).map (fun i => (i.zero, i.size, i.bytes)) = some (some (.string ByteArray.empty), 1, 16) := by kernel_rfl
theorem spl_flat : ∀ (f : Nat) (l : List Int), l.length ≤ f → (Tr.splF f l).flatten = l
  | 0, l, h => by have : l = [] := List.eq_nil_of_length_eq_zero (by omega); subst this; rfl
  | f+1, [], _ => rfl
  | f+1, x :: xs, h => by
    have h1 : (xs.dropWhile fun y => decide (x < y)).length ≤ f := by
      have := (List.dropWhile_sublist (fun y => decide (x < y)) (l := xs)).length_le
      simp at h; omega
    rw [Tr.splF, List.flatten_cons, spl_flat f _ h1, List.cons_append, List.takeWhile_append_dropWhile]
theorem spl_mem : ∀ (f : Nat) (l : List Int) (p : List Int), p ∈ Tr.splF f l → 1 ≤ p.length
  | 0, l, p, h => by simp [Tr.splF] at h
  | f+1, [], p, h => by simp [Tr.splF] at h
  | f+1, x :: xs, p, h => by
    rw [Tr.splF, List.mem_cons] at h
    rcases h with rfl | h
    · simp
    · exact spl_mem f _ p h
theorem sum_two (L : List (List Int)) (f : List Int → List UInt8) (h : ∀ p ∈ L, (f p).length = 2 * p.length) : ((L.map f).flatten).length = 2 * L.flatten.length := by
  induction L with
  | nil => rfl
  | cons a r ih =>
    have h1 := h a (by simp)
    have h2 := ih (fun p hp => h p (by simp [hp]))
    rw [List.map_cons, List.flatten_cons, List.flatten_cons, List.length_append, List.length_append, h1, h2]; omega
theorem part_le {L : List (List Int)} {p : List Int} (h : p ∈ L) : p.length ≤ L.flatten.length := by
  induction L with
  | nil => cases h
  | cons a r ih =>
    rw [List.flatten_cons, List.length_append]
    rcases List.mem_cons.1 h with rfl | h
    · omega
    · have := ih h; omega
theorem txt_len : ∀ (d : Nat) (t : List Int), 1 ≤ t.length → t.length ≤ d → (Tr.txtF d t).length = 2 * t.length
  | 0, t, h1, h2 => by omega
  | d+1, t, h1, h2 => by
    have hf := spl_flat t.length (t.drop 1) (by rw [List.length_drop]; omega)
    have hs := sum_two (Tr.splF t.length (t.drop 1)) (Tr.txtF d) (fun p hp => by
      have a1 := spl_mem _ _ p hp
      have a2 := part_le hp
      rw [hf, List.length_drop] at a2
      exact txt_len d p a1 (by omega))
    rw [hf, List.length_drop] at hs
    rw [Tr.txtF, Tr.wrap, List.length_cons, List.length_append, flat_sorted, hs]
    simp; omega
def TreeOf (d : Nat) : Prop := ∀ (A : Option Addr) (n c B : Nat) (t : List Int) (w : World), t.length = n → 1 ≤ n → n ≤ d → n ≤ c → B ≤ w.heap.size → Row w B A (ints t) →
    Calls Try.prog 52 #[.slice A n c] w fun e w' => e = .returned (.string ⟨(Tr.txtF d t).toArray⟩) ∧ Below w.heap.size w w'
theorem treeOf_zero : TreeOf 0 := fun A n c B t w hl h1 h2 => by omega
set_option maxHeartbeats 1000000 in
theorem treeOf_succ (d : Nat) (hd : d + 1 ≤ 8) (IH : TreeOf d) : TreeOf (d + 1) := by
  obtain ⟨i0, hi, hz0, hz1, hz2⟩ := info_parts info_tree
  intro A n c B t w hl h1 hnd hnc hB h
  obtain ⟨x0, hx0⟩ := at_lt (show 0 < t.length by omega)
  obtain ⟨b, o, rfl, _, _⟩ := h 0 _ (ints_at hx0)
  have HL := Lib.hid hl
  have HN : Hid (n ≤ d + 1) := hnd
  have n8 : n ≤ 8 := by omega
  clear hl hx0 hnd
  go_enter Try.func52, Try.ntmps52
  go_wp2_with fail
  go_loopw [3, 4] (fun v s wr => ∃ (st k f : Nat) (Av : Option Addr) (cv : Nat) (done : List (List Int)), 1 ≤ st ∧ st ≤ n ∧ k + 1 ≤ st ∧ v = .slice Av k cv ∧ s = .int .i64 st ∧ Hid (n ≤ st + f) ∧ Hid (Tr.splF n (t.drop 1) = done ++ Tr.splF f (t.drop st)) ∧ wr.ownsRow w.heap.size 59 1 (.slice Av k cv) k (strs (done.map (Tr.txtF d))) ∧ Below w.heap.size w wr) (fun _ s _ => n - (intOf s).toNat)
  case atStart => exact ⟨1, 0, n, none, 0, [], Nat.le_refl _, h1, Nat.le_refl _, rfl, rfl, Nat.le_add_left _ _, rfl, World.ownsRow_nil .., Below.refl _ _⟩
  case round =>
    obtain ⟨st, k, f, Av, cv, done, s1, s2, hk, rfl, rfl, HF, HS, ho, HB⟩ := hrel
    have hsz := HB.size
    by_cases hlt : st < n
    · obtain ⟨x, hx⟩ := at_lt (show st < t.length by rw [HL.out]; exact hlt)
      obtain ⟨_, _, e1, _, hcx⟩ := h.below HB hB st _ (ints_at hx)
      cases e1
      have HX := Lib.hid hx
      have HO := Lib.hid ho
      have HBB := Lib.hid HB
      clear hx ho HB
      go_wp2_with fail
      go_loopw [5] (fun ee wr2 => ∃ e m : Nat, st < e ∧ e ≤ n ∧ ee = .int .i64 e ∧ wr2 = wr.drewN m ∧ Hid (∀ j y, st < j → j < e → t[j]? = some y → x < y)) (fun ee _ => n - (intOf ee).toNat)
      case atStart => exact ⟨st + 1, 0, by omega, by omega, by go_num, rfl, fun j y h1 h2 => by omega⟩
      case round =>
        obtain ⟨e, m, e1, e2, rfl, rfl, HE⟩ := hrel
        have hxw : ∀ m, (wr.drewN m).cell? ⟨b, o + st, none⟩ = some (.int .i64 x) := fun m => hcx
        have GO : Hid (∀ M, Calls Try.prog 52 #[.slice (some ⟨b, o + st, none⟩) (e - st) (c - st)] (wr.drewN M) fun e1 w2 => e1 = .returned (.string ⟨(Tr.txtF d ((t.drop st).take (e - st))).toArray⟩) ∧ w2.ownsRow w.heap.size 59 1 (.slice Av k cv) k (strs (done.map (Tr.txtF d))) ∧ Below w.heap.size w w2) := fun M =>
          (IH _ (e - st) (c - st) (wr.drewN M).heap.size ((t.drop st).take (e - st)) _ (by rw [List.length_take, List.length_drop, HL.out]; omega) (by omega) (by have := HN.out; omega) (by omega) (Nat.le_refl _) (((h.below HBB.out hB).more (by show B ≤ wr.heap.size; omega)).drewN M |>.part st (e - st))).mono fun e1 w2 ⟨he1, b2⟩ =>
            ⟨he1, (((OwnR.of HO.out).drewN M).below b2 (Nat.le_refl _)).1, (below_drewN HBB.out M).trans (b2.mono (by show w.heap.size ≤ wr.heap.size; omega))⟩
        have GS : Hid (e = n ∨ (∃ y, t[e]? = some y ∧ ¬ x < y) → n ≤ e + (f - 1) ∧ Tr.splF n (t.drop 1) = (done ++ [(t.drop st).take (e - st)]) ++ Tr.splF (f - 1) (t.drop e)) := fun hc => by
          have hf := HF.out
          refine ⟨by omega, ?_⟩
          have e3 := spl_step (f := f - 1) HX.out HE.out (fun y hy => by
            rcases hc with hc | ⟨z, hz, hxz⟩
            · rw [List.getElem?_eq_none (by rw [HL.out]; omega)] at hy; cases hy
            · rw [hz] at hy; injection hy with hy; rw [← hy]; exact hxz) e1 (by rw [HL.out]; exact e2)
          rw [HS.out, show f = f - 1 + 1 from by omega, e3]
          simp
        by_cases hen : e < n
        · obtain ⟨y, hy⟩ := at_lt (show e < t.length by rw [HL.out]; exact hen)
          obtain ⟨_, _, e3, _, hcy⟩ := h.below HBB.out hB e _ (ints_at hy)
          cases e3
          have hcy' : ∀ m, (wr.drewN m).cell? ⟨b, o + e, none⟩ = some (.int .i64 y) := fun m => hcy
          have hd1 : decide ((e : Int) < (n : Int)) = true := decide_eq_true (by omega)
          by_cases hxy : x < y
          · have hd2 : decide (x < y) = true := decide_eq_true hxy
            have HE2 : Hid (∀ j z, st < j → j < e + 1 → t[j]? = some z → x < z) := fun j z h1 h2 hz => by
              by_cases hje : j = e
              · subst hje; rw [hy] at hz; injection hz with hz; rw [← hz]; exact hxy
              · exact HE.out j z h1 (by omega) hz
            clear hy HE GS GO
            go_wp2_with fail
            go_quiet (fail)
            go_wp2
            go_roundw
            case rel => exact ⟨e + 1, _, by omega, by omega, by go_num, rfl, HE2⟩
            case measure => simp [intOf]; omega
          · have hd2 : decide (x < y) = false := decide_eq_false hxy
            have GS2 := Lib.hid (GS.out (.inr ⟨y, hy, hxy⟩))
            clear hy HE GS
            go_wp2_with fail
            go_quiet (fail)
            go_wp2_with fail
            refine (GO.out _).mono ?_
            rintro e1 w2 ⟨rfl, own2, b2⟩
            have hs2 := b2.size
            have HB2 := Lib.hid b2
            have HO2 := Lib.hid own2
            clear b2 GO
            go_wp2_with (at_builtin; (refine wpList_append_lies _ rfl (.tmp 29) (.tmp 35) 79 rfl w.heap.size 59 i0 _ 1 16 Try.underlying79 hi hz0 hz1 hz2 rfl (by omega) (.slice Av k cv) k (strs (done.map (Tr.txtF d))) rfl (own2.alloc _) ⟨w2.heap.size, 0, none⟩ 1 1 [.string ⟨(Tr.txtF d ((t.drop st).take (e - st))).toArray⟩] rfl rfl (World.news_of_block (cs := #[.string ⟨(Tr.txtF d ((t.drop st).take (e - st))).toArray⟩]) (heap_alloc_new _ _)) (by simp [Value.oneCell']) (by omega) (by simp only [maxLen]; omega) (by omega) (by simp; omega) (w2.heap.size + 1) (by simp) ?_); intro g2 cap2 w3 hown2 hgrow2 hat2 hlt2)
            rw [show strs (done.map (Tr.txtF d)) ++ [.string ⟨(Tr.txtF d ((t.drop st).take (e - st))).toArray⟩] = strs ((done ++ [(t.drop st).take (e - st)]).map (Tr.txtF d)) by simp [strs]] at hown2
            have G3 := Lib.hid hown2
            have GB3 : Hid (Below w.heap.size w w3) := ((HB2.out.alloc hs2 _).grown hgrow2 (by simp; omega) (fun q hq => (HO2.out.lt q hq).1))
            clear hown2 hgrow2 hat2 own2
            go_wp2
            go_roundw
            case rel => exact ⟨e, k + 1, f - 1, _, _, _, by omega, by omega, by omega, rfl, by go_num, GS2.out.1, GS2.out.2, G3.out, GB3.out⟩
            case measure => simp [intOf]; omega
        · obtain rfl : e = n := by omega
          have hd1 : decide ((e : Int) < (e : Int)) = false := decide_eq_false (by omega)
          have GS2 := Lib.hid (GS.out (.inl rfl))
          clear HE GS
          go_wp2_with fail
          go_quiet (fail)
          go_wp2_with fail
          refine (GO.out _).mono ?_
          rintro e1 w2 ⟨rfl, own2, b2⟩
          have hs2 := b2.size
          have HB2 := Lib.hid b2
          have HO2 := Lib.hid own2
          clear b2 GO
          go_wp2_with (at_builtin; (refine wpList_append_lies _ rfl (.tmp 29) (.tmp 35) 79 rfl w.heap.size 59 i0 _ 1 16 Try.underlying79 hi hz0 hz1 hz2 rfl (by omega) (.slice Av k cv) k (strs (done.map (Tr.txtF d))) rfl (own2.alloc _) ⟨w2.heap.size, 0, none⟩ 1 1 [.string ⟨(Tr.txtF d ((t.drop st).take (e - st))).toArray⟩] rfl rfl (World.news_of_block (cs := #[.string ⟨(Tr.txtF d ((t.drop st).take (e - st))).toArray⟩]) (heap_alloc_new _ _)) (by simp [Value.oneCell']) (by omega) (by simp only [maxLen]; omega) (by omega) (by simp; omega) (w2.heap.size + 1) (by simp) ?_); intro g2 cap2 w3 hown2 hgrow2 hat2 hlt2)
          rw [show strs (done.map (Tr.txtF d)) ++ [.string ⟨(Tr.txtF d ((t.drop st).take (e - st))).toArray⟩] = strs ((done ++ [(t.drop st).take (e - st)]).map (Tr.txtF d)) by simp [strs]] at hown2
          have G3 := Lib.hid hown2
          have GB3 : Hid (Below w.heap.size w w3) := ((HB2.out.alloc hs2 _).grown hgrow2 (by simp; omega) (fun q hq => (HO2.out.lt q hq).1))
          clear hown2 hgrow2 hat2 own2
          go_wp2
          go_roundw
          case rel => exact ⟨e, k + 1, f - 1, _, _, _, by omega, by omega, by omega, rfl, by go_num, GS2.out.1, GS2.out.2, G3.out, GB3.out⟩
          case measure => simp [intOf]; omega
    · obtain rfl : st = n := by omega
      rw [List.drop_of_length_le (show t.length ≤ st by rw [HL.out]; exact Nat.le_refl _), spl_nil, List.append_nil] at HS
      have hf := spl_flat st (t.drop 1) (by rw [List.length_drop, HL.out]; omega)
      have hlen : (done.map (Tr.txtF d)).flatten.length = 2 * (st - 1) := by
        have h5 := sum_two done (Tr.txtF d) (fun p hp => by
          rw [← HS.out] at hp
          have a1 := spl_mem _ _ p hp
          have a2 := part_le hp
          rw [hf, List.length_drop, HL.out] at a2
          exact txt_len d p a1 (by have := HN.out; omega))
        rw [h5, ← HS.out, hf, List.length_drop, HL.out]
      have GE : Hid (Tr.txtF (d + 1) t = Tr.wrap (Tr.sortS (done.map (Tr.txtF d)))) := by rw [Hid, Tr.txtF, HL.out, HS.out]
      have HLEN := Lib.hid hlen
      have HBB := Lib.hid HB
      clear hf HS hlen HB
      go_wp2_with fail
      refine (rootOn_any Av w.heap.size k cv _ _ (by omega) (by rw [HLEN.out]; omega) hsz ho).mono ?_
      rintro e w2 ⟨rfl, b2⟩
      have GB := Lib.hid (HBB.out.trans b2)
      clear ho b2
      go_wp2
      go_ret
      exact ⟨by rw [GE.out]; rfl, GB.out⟩
theorem treeOf_upto : ∀ d, d ≤ 8 → TreeOf d
  | 0, _ => treeOf_zero
  | d+1, h => treeOf_succ d h (treeOf_upto d (by omega))
theorem treeOf_any (A : Option Addr) (n c B : Nat) (t : List Int) (w : World) (hl : t.length = n) (h1 : 1 ≤ n) (h8 : n ≤ 8) (hc : n ≤ c) (hB : B ≤ w.heap.size) (h : Row w B A (ints t)) :
    Calls Try.prog 52 #[.slice A n c] w fun e w' => e = .returned (.string ⟨(Tr.txt t).toArray⟩) ∧ Below w.heap.size w w' := treeOf_upto 8 (Nat.le_refl _) A n c B t w hl h1 h8 hc hB h
end Go.Proofs.Ytfehjjaebdgjlaa
/-
  The levels of a text of brackets.
-/
namespace Go.Proofs.Ytfehjjaebdgjlaa
open Go.RowKit Fld
set_option linter.unusedVariables false
set_option linter.unusedSimpArgs false
set_option maxRecDepth 100000

theorem nodes_any (l : List UInt8) (w : World) (hn : l.length ≤ 1048576) : Calls Try.prog 62 #[.string ⟨l.toArray⟩] w fun e w' => e = .returned (.int .i64 ((l.length / 2 : Nat) : Int)) ∧ w = w' := by
  obtain ⟨s, hs⟩ : ∃ s : ByteArray, s = ⟨l.toArray⟩ := ⟨_, rfl⟩
  have hz : s.size = l.length := by rw [hs]; exact size_S l
  rw [← hs, ← hz]
  rw [← hz] at hn
  clear hz hs
  go_enter Try.func62, Try.ntmps62
  go_wp2
  go_ret
  exact ⟨rfl, rfl⟩
theorem own_ne_iter {w : World} {lo : Nat} {T : TypeId} {v : Value} {n : Nat} {vs : List Value} {k : Nat} {s : ByteArray} {p : Nat} (h : w.ownsRow lo T 1 v n vs) (hk : w.heap[k]? = some (.stringIter s p)) : some k ≠ v.ownBlock := by
  intro e
  rcases h.2 with ⟨rfl, _⟩ | ⟨g, cap, cur, rfl, _, hg, _⟩
  · cases e
  · have e2 : k = g := by simpa [Value.ownBlock] using e
    subst e2
    rw [hk] at hg
    cases hg
theorem own_iterAt {w : World} {lo : Nat} {T : TypeId} {v : Value} {n : Nat} {vs : List Value} {k : Nat} {s : ByteArray} {p p' : Nat} (h : w.ownsRow lo T 1 v n vs) (hk : w.heap[k]? = some (.stringIter s p)) : (w.iterAt k s p').ownsRow lo T 1 v n vs := by
  have hne := own_ne_iter h hk
  refine ⟨h.1, ?_⟩
  rcases h.2 with h1 | ⟨g, cap, cur, hv, hb, hg, r⟩
  · exact .inl h1
  · refine .inr ⟨g, cap, cur, hv, hb, ?_, r⟩
    rw [Lib.iterAt_other _ _ _ _ _ (fun e => hne (by rw [hv, ← e]; simp [Value.ownBlock]))]
    exact hg
/-- all bytes are brackets -/
def Brk (s : List UInt8) : Prop := ∀ c ∈ s, c = 91 ∨ c = 93
theorem byte_at {s : List UInt8} {p : Nat} {c : UInt8} (h : s[p]? = some c) (hp : p < (⟨s.toArray⟩ : ByteArray).size) : (⟨s.toArray⟩ : ByteArray)[p]'hp = c := by
  have h1 : p < s.length := by rw [← size_S]; exact hp
  rw [List.getElem?_eq_getElem h1] at h
  exact Option.some.inj h
theorem lvl_open {s : List UInt8} {p : Nat} (h : s[p]? = some 91) (l : Int) : Tr.lvlF l (s.drop p) = l :: Tr.lvlF (l + 1) (s.drop (p + 1)) := by
  have hlt : p < s.length := by
    rcases Nat.lt_or_ge p s.length with g | g
    · exact g
    · rw [List.getElem?_eq_none g] at h; cases h
  rw [List.getElem?_eq_getElem hlt] at h
  injection h with h
  rw [List.drop_eq_getElem_cons hlt, h, Tr.lvlF, if_pos rfl]
theorem lvl_close {s : List UInt8} {p : Nat} (h : s[p]? = some 93) (l : Int) : Tr.lvlF l (s.drop p) = Tr.lvlF (l - 1) (s.drop (p + 1)) := by
  have hlt : p < s.length := by
    rcases Nat.lt_or_ge p s.length with g | g
    · exact g
    · rw [List.getElem?_eq_none g] at h; cases h
  rw [List.getElem?_eq_getElem hlt] at h
  injection h with h
  rw [List.drop_eq_getElem_cons hlt, h, Tr.lvlF, if_neg (by decide)]
set_option maxHeartbeats 1000000 in
theorem levels_any (s : List UInt8) (w : World) (hn : s.length ≤ 1048576) (hb : Brk s) :
    Calls Try.prog 54 #[.string ⟨s.toArray⟩] w (NewRow 2 (Tr.lvl s).length (ints (Tr.lvl s)) w) := by
  obtain ⟨i0, hi, hz0, hz1, hz2⟩ := info_parts info_i64
  have HB := Lib.hid hb
  have HN := Lib.hid hn
  obtain ⟨S, hS⟩ : ∃ S : ByteArray, S = ⟨s.toArray⟩ := ⟨_, rfl⟩
  have hsz : S.size = s.length := by rw [hS]; exact size_S s
  have HSZ := Lib.hid hsz
  have HS := Lib.hid hS
  have C0 := nodes_any s w hn
  rw [← hS] at C0 ⊢
  have hcap : s.length / 2 ≤ 1048576 := by omega
  obtain ⟨q, hq⟩ : ∃ q, q = s.length / 2 := ⟨_, rfl⟩
  rw [← hq] at C0 hcap
  clear hb hS hsz hn hq
  go_enter Try.func54, Try.ntmps54
  go_wp2_with fail
  refine C0.mono ?_
  rintro e w' ⟨rfl, rfl⟩
  go_wp2_with (at_make; refine wpList_make_own _ rfl _ _ 24 rfl w.heap.size 2 i0 (.int .i64 0) 1 Try.underlying24 hi hz0 hz1 .i64 .i64 _ q rfl rfl rfl (by rw [hz2]; omega) (by unfold maxLen; omega) (Nat.le_refl _) ?_; intro w1 hown hg)
  have HO1 := Lib.hid hown
  have HB1 : Hid (Below w.heap.size w w1) := (Below.refl _ _).grown hg (Nat.le_refl _) (fun k hk => by cases hk)
  have hs1 := hg.size
  clear hown hg
  go_loopw [3, 4] (fun v l wr => ∃ (p g cap : Nat) (lv : Int) (L : List Int), p ≤ S.size ∧ -(p : Int) ≤ lv ∧ lv ≤ p ∧ v = .slice (some ⟨g, 0, none⟩) L.length cap ∧ l = .int .i64 lv ∧ L.length ≤ p ∧ wr.heap[w1.heap.size]? = some (.stringIter S p) ∧ Hid (Tr.lvl s = L ++ Tr.lvlF lv (s.drop p)) ∧ Hid (wr.ownsRow w.heap.size 2 1 (.slice (some ⟨g, 0, none⟩) L.length cap) L.length (ints L)) ∧ Below w.heap.size w wr) (fun _ _ wr => S.size - wr.iterPos w1.heap.size)
  case atStart =>
    have hit := World.iter_heap w1 S 0
    exact ⟨0, _, q, 0, [], Nat.zero_le _, by omega, by omega, rfl, rfl, Nat.le_refl _, hit, rfl, HO1.out.alloc _, HB1.out.alloc (by omega) _⟩
  case round =>
    obtain ⟨p, g, cap, lv, L, hp, l0, l1, rfl, rfl, hL, hit, HE, HO, HBw⟩ := hrel
    have hlt := (Array.getElem?_eq_some_iff.1 hit).1
    by_cases hps : p < S.size
    · obtain ⟨c, hc⟩ := at_lt (show p < s.length by rw [← HSZ.out]; exact hps)
      have hbyte : S[p]'hps = c := by
        have hS := HS.out
        subst hS
        exact byte_at hc hps
      have hcb := HB.out c (List.mem_of_getElem? hc)
      have hasc : (S[p]'hps).toNat < 128 := by rw [hbyte]; rcases hcb with rfl | rfl <;> decide
      have hnx : ∀ ty, (Instr.next (.pointer (some ⟨w1.heap.size, 0, none⟩)) true ty).run Try.prog wr = _ := fun ty => Lib.run_next_ascii_at wr w1.heap.size S p ty hit hps hasc
      rw [hbyte] at hnx
      have hp3 : p + 1 ≤ 1048576 := by have := HSZ.out; have := HN.out; omega
      have HIT := Lib.hid hit
      have hit2 := Lib.iterAt_heap wr w1.heap.size S p (p + 1) hit
      have HO2 := Lib.hid (own_iterAt (p' := p + 1) HO.out hit)
      have HB2 := Lib.hid (Lib.below_iterAt HBw (k := w1.heap.size) hs1 S (p + 1))
      have hsz2 : (wr.iterAt w1.heap.size S (p + 1)).heap.size = wr.heap.size := Lib.iterAt_size ..
      rcases hcb with rfl | rfl
      · have HE2 : Hid (Tr.lvl s = (L ++ [lv]) ++ Tr.lvlF (lv + 1) (s.drop (p + 1))) := by rw [Hid, HE.out, lvl_open hc]; simp
        have e91 : ((91 : UInt8).toNat : Int) = 91 := rfl
        rw [e91] at hnx
        generalize hW : wr.iterAt w1.heap.size S (p + 1) = W at *
        have hown2 := HO2.out
        have HH2 := Lib.hid hit2
        have hW1 : w1.heap.size < W.heap.size := by omega
        have hW2 : w.heap.size ≤ W.heap.size := by omega
        clear hc hbyte hasc HE HBw HO hit hW hit2 hsz2
        go_wp2_with (at_builtin; (refine wpList_append_lies _ rfl (.tmp 17) (.tmp 19) 24 rfl w.heap.size 2 i0 _ 1 8 Try.underlying24 hi hz0 hz1 hz2 rfl (by omega) (.slice (some ⟨g, 0, none⟩) L.length cap) L.length (ints L) rfl (hown2.alloc _) ⟨W.heap.size, 0, none⟩ 1 1 [.int .i64 lv] rfl rfl (World.news_of_block (cs := #[.int .i64 lv]) (heap_alloc_new _ _)) (by simp [Value.oneCell']) (by omega) (by simp only [maxLen]; omega) (by omega) (by simp; omega) (W.heap.size + 1) (by simp) ?_); intro g2 cap2 w3 hown3 hgrow3 hat3 hlt3)
        have G3 : Hid (w3.ownsRow w.heap.size 2 1 (.slice (some ⟨g2, 0, none⟩) (L ++ [lv]).length cap2) (L ++ [lv]).length (ints (L ++ [lv]))) := by
          have e : ints L ++ [.int .i64 lv] = ints (L ++ [lv]) := by simp [ints, intsK]
          rw [e] at hown3
          rw [Hid, List.length_append]; exact hown3
        have GB3 : Hid (Below w.heap.size w w3) := (HB2.out.alloc hW2 _).grown hgrow3 (by simp; omega) (fun q hq => (HO2.out.lt q hq).1)
        have GI : Hid (w3.heap[w1.heap.size]? = some (.stringIter S (p + 1))) := by
          rw [Hid, hgrow3.block _ (by simp; omega) (own_ne_iter HO2.out HH2.out), Lib.alloc_old _ _ _ hW1]
          exact HH2.out
        have hl2 : (L ++ [lv]).length = L.length + 1 := by simp
        have HL2 := Lib.hid hl2
        clear hown3 hgrow3 hat3 hown2 hl2
        go_wp2
        go_roundw
        case rel => exact ⟨p + 1, g2, cap2, lv + 1, L ++ [lv], by omega, by omega, by omega, by rw [HL2.out], by go_num, by have := HL2.out; omega, GI.out, HE2, G3, GB3.out⟩
        case measure =>
          simp only [World.iterPos, GI.out, HIT.out]
          omega
      · have HE2 : Hid (Tr.lvl s = L ++ Tr.lvlF (lv - 1) (s.drop (p + 1))) := by rw [Hid, HE.out, lvl_close hc]
        have e93 : ((93 : UInt8).toNat : Int) = 93 := rfl
        rw [e93] at hnx
        generalize hW : wr.iterAt w1.heap.size S (p + 1) = W at *
        have HH2 := Lib.hid hit2
        clear hc hbyte hasc HE HBw HO hit hW hit2 hsz2
        go_wp2
        go_roundw
        case rel => exact ⟨p + 1, g, cap, lv - 1, L, by omega, by omega, by omega, rfl, by go_num, by omega, HH2.out, HE2, HO2, HB2.out⟩
        case measure =>
          simp only [World.iterPos, HH2.out, HIT.out]
          omega
    · have hnx : ∀ ty, (Instr.next (.pointer (some ⟨w1.heap.size, 0, none⟩)) true ty).run Try.prog wr = _ := fun ty => Lib.run_next_end_at wr w1.heap.size S p ty hit hps
      have e : Tr.lvl s = L := by
        have := HE.out
        rw [List.drop_of_length_le (by have := HSZ.out; omega), Tr.lvlF, List.append_nil] at this
        exact this
      have G : Hid (NewRow 2 (Tr.lvl s).length (ints (Tr.lvl s)) w (.returned (.slice (some ⟨g, 0, none⟩) L.length cap)) wr) := by rw [e]; exact ⟨_, _, rfl, HO.out, HBw⟩
      clear HBw HE e hit
      go_wp2
      go_ret
      exact G.out
end Go.Proofs.Ytfehjjaebdgjlaa
/-
  A text is split into those of trees.
-/
namespace Go.Proofs.Ytfehjjaebdgjlaa
open Go.RowKit Fld
set_option linter.unusedVariables false
set_option linter.unusedSimpArgs false
set_option maxRecDepth 100000

theorem extract_S (s : List UInt8) (a b : Nat) : (⟨s.toArray⟩ : ByteArray).extract a b = ⟨((s.drop a).take (b - a)).toArray⟩ := by
  apply ByteArray.ext
  simp [ByteArray.data_extract]
theorem tr_open {cur : List UInt8} {o : Nat} {acc : List (List UInt8)} {s : List UInt8} {p : Nat} (h : s[p]? = some 91) : Tr.trF cur o acc (s.drop p) = Tr.trF (cur ++ [91]) (o + 1) acc (s.drop (p + 1)) := by
  have hlt : p < s.length := by
    rcases Nat.lt_or_ge p s.length with g | g
    · exact g
    · rw [List.getElem?_eq_none g] at h; cases h
  rw [List.getElem?_eq_getElem hlt] at h
  injection h with h
  rw [List.drop_eq_getElem_cons hlt, h, Tr.trF, if_pos rfl]
theorem tr_close {cur : List UInt8} {o : Nat} {acc : List (List UInt8)} {s : List UInt8} {p : Nat} (h : s[p]? = some 93) : Tr.trF cur o acc (s.drop p) = if o = 0 then ([], false) else if o = 1 then Tr.trF [] 0 (acc ++ [cur ++ [93]]) (s.drop (p + 1)) else Tr.trF (cur ++ [93]) (o - 1) acc (s.drop (p + 1)) := by
  have hlt : p < s.length := by
    rcases Nat.lt_or_ge p s.length with g | g
    · exact g
    · rw [List.getElem?_eq_none g] at h; cases h
  rw [List.getElem?_eq_getElem hlt] at h
  injection h with h
  rw [List.drop_eq_getElem_cons hlt, h, Tr.trF, if_neg (by decide), if_pos rfl]
theorem tr_other {cur : List UInt8} {o : Nat} {acc : List (List UInt8)} {s : List UInt8} {p : Nat} {c : UInt8} (h : s[p]? = some c) (h1 : c ≠ 91) (h2 : c ≠ 93) : Tr.trF cur o acc (s.drop p) = ([], false) := by
  have hlt : p < s.length := by
    rcases Nat.lt_or_ge p s.length with g | g
    · exact g
    · rw [List.getElem?_eq_none g] at h; cases h
  rw [List.getElem?_eq_getElem hlt] at h
  injection h with h
  rw [List.drop_eq_getElem_cons hlt, h, Tr.trF, if_neg h1, if_neg h2]
theorem cut_step {s : List UInt8} {a p : Nat} {c : UInt8} (h : s[p]? = some c) (ha : a ≤ p) : (s.drop a).take (p + 1 - a) = (s.drop a).take (p - a) ++ [c] := by
  rw [show p + 1 - a = p - a + 1 from by omega, List.take_add_one, List.getElem?_drop, show a + (p - a) = p from by omega, h]; rfl
/-- the texts of trees, and whether there are no others -/
def ResT (r : List (List UInt8) × Bool) (w : World) (e : Ending) (w' : World) : Prop :=
  ∃ A q c, e = .returned (.tuple #[.slice A q c, .bool r.2]) ∧ w'.ownsRow w.heap.size 59 1 (.slice A q c) q (strs r.1) ∧ Below w.heap.size w w'
theorem ResT.none {r : List (List UInt8) × Bool} {w w' : World} (h : r = ([], false)) (hb : Below w.heap.size w w') : ResT r w (.returned (.tuple #[.slice none 0 0, .bool false])) w' := by
  subst h; exact ⟨_, _, _, rfl, World.ownsRow_nil .., hb⟩
set_option maxHeartbeats 2000000 in
theorem treesIn_any (s : List UInt8) (w : World) (hn : s.length ≤ 1048576) :
    Calls Try.prog 124 #[.string ⟨s.toArray⟩] w (ResT (Tr.trF [] 0 [] s) w) := by
  obtain ⟨i0, hi, hz0, hz1, hz2⟩ := info_parts info_tree
  have HN := Lib.hid hn
  obtain ⟨S, hS⟩ : ∃ S : ByteArray, S = ⟨s.toArray⟩ := ⟨_, rfl⟩
  have HSZ : Hid (S.size = s.length) := by rw [Hid, hS]; exact size_S s
  have HS := Lib.hid hS
  rw [← hS]
  have hs20 : S.size ≤ 1048576 := by rw [HSZ.out]; exact hn
  clear hS hn
  go_enter Try.func124, Try.ntmps124
  go_wp2_with fail
  go_loopw [4, 5, 6] (fun v a o wr => ∃ (p st op q cv : Nat) (Av : Option Addr) (acc : List (List UInt8)), p ≤ S.size ∧ st ≤ p ∧ op ≤ p ∧ q ≤ p ∧ v = .slice Av q cv ∧ a = .int .i64 st ∧ o = .int .i64 op ∧ wr.heap[w.heap.size]? = some (.stringIter S p) ∧ Hid (Tr.trF [] 0 [] s = Tr.trF ((s.drop st).take (p - st)) op acc (s.drop p)) ∧ Hid (wr.ownsRow w.heap.size 59 1 (.slice Av q cv) q (strs acc)) ∧ Below w.heap.size w wr) (fun _ _ _ wr => S.size - wr.iterPos w.heap.size)
  case atStart => exact ⟨0, 0, 0, 0, 0, none, [], Nat.zero_le _, Nat.le_refl _, Nat.le_refl _, Nat.le_refl _, rfl, rfl, rfl, World.iter_heap w S 0, by simp [Hid], World.ownsRow_nil .., (Below.refl _ _).alloc (Nat.le_refl _) _⟩
  case round =>
    obtain ⟨p, st, op, q, cv, Av, acc, hp, hst, hop, hq, rfl, rfl, rfl, hit, HE, HO, HBw⟩ := hrel
    have hlt := (Array.getElem?_eq_some_iff.1 hit).1
    by_cases hps : p < S.size
    · obtain ⟨c, hc⟩ := at_lt (show p < s.length by rw [← HSZ.out]; exact hps)
      have hbyte : S[p]'hps = c := by
        have hS := HS.out
        subst hS
        exact byte_at hc hps
      have HIT := Lib.hid hit
      by_cases hasc : c.toNat < 128
      · have hnx : ∀ ty, (Instr.next (.pointer (some ⟨w.heap.size, 0, none⟩)) true ty).run Try.prog wr = _ := fun ty => Lib.run_next_ascii_at wr w.heap.size S p ty hit hps (by rw [hbyte]; exact hasc)
        rw [hbyte] at hnx
        have hit2 := Lib.iterAt_heap wr w.heap.size S p (p + 1) hit
        have HO2 := Lib.hid (own_iterAt (p' := p + 1) HO.out hit)
        have HB2 := Lib.hid (Lib.below_iterAt HBw (k := w.heap.size) (Nat.le_refl _) S (p + 1))
        have hsz2 : (wr.iterAt w.heap.size S (p + 1)).heap.size = wr.heap.size := Lib.iterAt_size ..
        have hW1 : w.heap.size < (wr.iterAt w.heap.size S (p + 1)).heap.size := by rw [hsz2]; exact hlt
        by_cases h91 : c = 91
        · subst h91
          have e91 : ((91 : UInt8).toNat : Int) = 91 := rfl
          rw [e91] at hnx
          have HE2 : Hid (Tr.trF [] 0 [] s = Tr.trF ((s.drop st).take (p + 1 - st)) (op + 1) acc (s.drop (p + 1))) := by rw [Hid, HE.out, tr_open hc, cut_step hc hst]
          generalize hW : wr.iterAt w.heap.size S (p + 1) = W at *
          have HH2 := Lib.hid hit2
          have t0 : ((op : Int) + 1 == 0) = false := beq_f (by omega)
          clear hc hbyte hasc HE HBw HO hit hW hit2 hsz2
          go_wp2
          go_roundw
          case rel => exact ⟨p + 1, st, op + 1, q, cv, Av, acc, by omega, by omega, by omega, by omega, rfl, rfl, by go_num, HH2.out, HE2, HO2, HB2.out⟩
          case measure =>
            simp only [World.iterPos, HH2.out, HIT.out]
            omega
        · by_cases h93 : c = 93
          · subst h93
            have e93 : ((93 : UInt8).toNat : Int) = 93 := rfl
            rw [e93] at hnx
            have HTC := Lib.hid (HE.out.trans (tr_close hc))
            have HCUT : Hid ((s.drop st).take (p + 1 - st) = (s.drop st).take (p - st) ++ [93]) := cut_step hc hst
            generalize hW : wr.iterAt w.heap.size S (p + 1) = W at *
            have HH2 := Lib.hid hit2
            clear hc hbyte hasc HE HBw HO hit hW hit2 hsz2
            rcases (show op = 0 ∨ op = 1 ∨ 2 ≤ op by omega) with rfl | rfl | h2
            · have G : Hid (Tr.trF [] 0 [] s = ([], false)) := by rw [Hid, HTC.out, if_pos rfl]
              clear HTC
              go_wp2
              go_ret2
              exact ResT.none G.out HB2.out
            · have HE2 : Hid (Tr.trF [] 0 [] s = Tr.trF ((s.drop (p + 1)).take (p + 1 - (p + 1))) 0 (acc ++ [(s.drop st).take (p + 1 - st)]) (s.drop (p + 1))) := by
                rw [Hid, HTC.out, if_neg (by decide), if_pos rfl, Nat.sub_self, List.take_zero, HCUT.out]
              have HX : Hid (S.extract st (p + 1) = ⟨((s.drop st).take (p + 1 - st)).toArray⟩) := by rw [Hid, HS.out]; exact extract_S s st (p + 1)
              obtain ⟨X, hX⟩ : ∃ X, X = S.extract st (p + 1) := ⟨_, rfl⟩
              have HXX : Hid (S.extract st (p + 1) = X) := hX.symm
              have hown2 := HO2.out
              have hp1 : p + 1 ≤ S.size := hps
              clear HTC
              have hsl : ∀ W, (Instr.slice 9 (.string S) (some (.int .i64 (st : Int))) (some (.int .i64 ((p : Int) + 1))) none).run Try.prog W = .ok (.string X) W := fun W => by
                rw [run_slice_string W 9 S .i64 .i64 st ((p : Int) + 1) Try.underlying9 (by omega) (by omega) (by omega)]
                rw [← HXX.out]
                congr 3
              clear hX
              go_wp2_with (at_builtin; (refine wpList_append_lies _ rfl (.tmp 28) (.tmp 34) 79 rfl w.heap.size 59 i0 _ 1 16 Try.underlying79 hi hz0 hz1 hz2 rfl (by omega) (.slice Av q cv) q (strs acc) rfl (hown2.alloc _) ⟨W.heap.size, 0, none⟩ 1 1 [.string X] rfl rfl (World.news_of_block (cs := #[.string X]) (heap_alloc_new _ _)) (by simp [Value.oneCell']) (by omega) (by simp only [maxLen]; omega) (by omega) (by simp; omega) (W.heap.size + 1) (by simp) ?_); intro g2 cap2 w3 hown3 hgrow3 hat3 hlt3)
              have e1 : strs acc ++ [Value.string X] = strs (acc ++ [(s.drop st).take (p + 1 - st)]) := by rw [← HXX.out, HX.out]; simp [strs]
              rw [e1] at hown3
              have GI : Hid (w3.heap[w.heap.size]? = some (.stringIter S (p + 1))) := by
                rw [Hid, hgrow3.block _ (by simp; omega) (own_ne_iter HO2.out HH2.out), Lib.alloc_old _ _ _ hW1]
                exact HH2.out
              have G3 := Lib.hid hown3
              have GB3 : Hid (Below w.heap.size w w3) := (HB2.out.alloc (by omega) _).grown hgrow3 (by simp; omega) (fun z hz => (HO2.out.lt z hz).1)
              clear hown3 hgrow3 hat3 hown2 e1 hsl
              go_wp2
              go_roundw
              case rel => exact ⟨p + 1, p + 1, 0, q + 1, cap2, _, _, by omega, by omega, by omega, by omega, rfl, by go_num, rfl, GI.out, HE2, G3, GB3.out⟩
              case measure =>
                simp only [World.iterPos, GI.out, HIT.out]
                omega
            · have HE2 : Hid (Tr.trF [] 0 [] s = Tr.trF ((s.drop st).take (p + 1 - st)) (op - 1) acc (s.drop (p + 1))) := by
                rw [Hid, HTC.out, if_neg (by omega), if_neg (by omega), HCUT.out]
              have t0 : ((op : Int) - 1 == 0) = false := beq_f (by omega)
              clear HTC
              go_wp2
              go_roundw
              case rel => exact ⟨p + 1, st, op - 1, q, cv, Av, acc, by omega, by omega, by omega, by omega, rfl, rfl, by go_num, HH2.out, HE2, HO2, HB2.out⟩
              case measure =>
                simp only [World.iterPos, HH2.out, HIT.out]
                omega
          · have G : Hid (Tr.trF [] 0 [] s = ([], false)) := by rw [Hid, HE.out]; exact tr_other hc h91 h93
            have t1 : ((c.toNat : Int) == 91) = false := beq_f (fun e => h91 (UInt8.toNat_inj.1 (by simp; omega)))
            have t2 : ((c.toNat : Int) == 93) = false := beq_f (fun e => h93 (UInt8.toNat_inj.1 (by simp; omega)))
            generalize hW : wr.iterAt w.heap.size S (p + 1) = W at *
            clear hc hbyte hasc HE HBw HO hit hW hit2 hsz2 h91 h93
            go_wp2
            go_ret2
            exact ResT.none G.out HB2.out
      · have hd := decode_high S p hps (by rw [hbyte]; omega)
        have hnx : ∀ ty, (Instr.next (.pointer (some ⟨w.heap.size, 0, none⟩)) true ty).run Try.prog wr = _ := fun ty => Lib.run_next_any_at wr w.heap.size S p ty hit hps
        have h91 : c ≠ 91 := fun e => by subst e; exact hasc (by decide)
        have h93 : c ≠ 93 := fun e => by subst e; exact hasc (by decide)
        have G : Hid (Tr.trF [] 0 [] s = ([], false)) := by rw [Hid, HE.out]; exact tr_other hc h91 h93
        have HB2 := Lib.hid (Lib.below_iterAt HBw (k := w.heap.size) (Nat.le_refl _) S (p + (Utf8.decode S p).2))
        generalize hW : wr.iterAt w.heap.size S (p + (Utf8.decode S p).2) = W at *
        obtain ⟨rn, hrn⟩ : ∃ rn, rn = (Utf8.decode S p).1 := ⟨_, rfl⟩
        rw [← hrn] at hnx hd
        have t1 : ((rn : Int) == 91) = false := beq_f (by have := hd.1; omega)
        have t2 : ((rn : Int) == 93) = false := beq_f (by have := hd.1; omega)
        clear hc hbyte hasc HE HBw HO hit hW h91 h93 hrn hd
        go_wp2
        go_ret2
        exact ResT.none G.out HB2.out
    · have hnx : ∀ ty, (Instr.next (.pointer (some ⟨w.heap.size, 0, none⟩)) true ty).run Try.prog wr = _ := fun ty => Lib.run_next_end_at wr w.heap.size S p ty hit hps
      have e : Tr.trF [] 0 [] s = (acc, op == 0) := by
        have hl : s.length ≤ p := by have := HSZ.out; unfold Hid at this; omega
        have := HE.out
        rw [List.drop_of_length_le hl] at this
        rw [this]
        simp [Tr.trF]
      have G : Hid (ResT (Tr.trF [] 0 [] s) w (.returned (.tuple #[.slice Av q cv, .bool (op == 0)])) wr) := by
        rw [Hid, e]; exact ⟨Av, q, cv, rfl, HO.out, HBw⟩
      by_cases h0 : op = 0
      · subst h0
        clear HBw HE e hit
        go_wp2
        go_ret2
        exact G.out
      · have t0 : ((op : Int) == 0) = false := beq_f (by omega)
        have t1 : (op == 0) = false := by simp [h0]
        rw [t1] at G
        clear HBw HE e hit h0 t1
        go_wp2
        go_ret2
        exact G.out
end Go.Proofs.Ytfehjjaebdgjlaa
/-
  The branches of a tree by its text.
-/
namespace Go.Proofs.Ytfehjjaebdgjlaa
open Go.RowKit Fld
set_option linter.unusedVariables false
set_option linter.unusedSimpArgs false
set_option maxRecDepth 100000

/-- texts of the call's own -/
def ResTs (l : List (List UInt8)) (w : World) (e : Ending) (w' : World) : Prop :=
  ∃ A q c, e = .returned (.slice A q c) ∧ q = l.length ∧ w'.ownsRow w.heap.size 59 1 (.slice A q c) q (strs l) ∧ Below w.heap.size w w'
theorem branches_any (x : List UInt8) (w : World) (hx : Tr.isTx x = true) :
    Calls Try.prog 101 #[.string ⟨x.toArray⟩] w (ResTs (Tr.brT x) w) := by
  obtain ⟨⟨h2, h16⟩, _, _⟩ := Tr.br_parts hx
  obtain ⟨S, hS⟩ : ∃ S : ByteArray, S = ⟨x.toArray⟩ := ⟨_, rfl⟩
  have hsz : S.size = x.length := by rw [hS]; exact size_S x
  have HX : Hid (S.extract 1 (x.length - 1) = ⟨(Tr.inner x).toArray⟩) := by
    rw [Hid, hS, extract_S]; unfold Tr.inner; rw [show x.length - 1 - 1 = x.length - 2 from by omega]
  obtain ⟨X, hX⟩ : ∃ X, X = S.extract 1 (x.length - 1) := ⟨_, rfl⟩
  have hXX : X = ⟨(Tr.inner x).toArray⟩ := by rw [hX]; exact HX.out
  have HXX : Hid (S.extract 1 (x.length - 1) = X) := hX.symm
  have hil : (Tr.inner x).length ≤ 1048576 := by unfold Tr.inner; rw [List.length_take]; omega
  have C0 := treesIn_any (Tr.inner x) w hil
  rw [← hXX] at C0
  have hsl : ∀ W, (Instr.slice 59 (.string S) (some (.int .i64 1)) (some (.int .i64 ((S.size : Int) - 1))) none).run Try.prog W = .ok (.string X) W := fun W => by
    have h9 := run_slice_string W 59 S .i64 .i64 1 ((S.size : Int) - 1) Try.underlying59 (by omega) (by omega) (by omega)
    rw [show (S.size : Int) - 1 = ((x.length - 1 : Nat) : Int) from by omega] at h9 ⊢
    rw [h9, ← HXX.out]
    congr 3
  rw [← hS]
  have hs2 : 2 ≤ S.size := by omega
  have hs16 : S.size ≤ 16 := by omega
  clear hX hXX hS hsz h2 h16 hil hx
  go_enter Try.func101, Try.ntmps101
  go_wp2_with fail
  refine C0.mono ?_
  rintro e w1 ⟨A, q, c, rfl, own1, bel1⟩
  have G : Hid (ResTs (Tr.brT x) w (.returned (.slice A q c)) w1) := by
    refine ⟨A, q, c, rfl, ?_, own1, bel1⟩
    have := own_len own1
    rw [strs_length] at this
    exact this.symm
  clear own1 bel1
  go_wp2
  go_ret
  exact G.out
end Go.Proofs.Ytfehjjaebdgjlaa
/-
  A text is taken out of a row of the call's own.
-/
namespace Go.Proofs.Ytfehjjaebdgjlaa
open Go.RowKit Fld
set_option linter.unusedVariables false
set_option linter.unusedSimpArgs false
set_option maxRecDepth 100000

theorem own_prefix {w : World} {base g n k cap : Nat} {T : TypeId} {xs : List Value} (h : w.ownsRow base T 1 (.slice (some ⟨g, 0, none⟩) n cap) n xs) (hk : k ≤ n) : w.ownsRow base T 1 (.slice (some ⟨g, 0, none⟩) k cap) k (xs.take k) := by
  obtain ⟨hl, h⟩ := h
  refine ⟨by rw [List.length_take, hl]; omega, ?_⟩
  rcases h with ⟨e, _⟩ | ⟨g', cap', cur, e, hb, hh, h1, h2, h3, h4⟩
  · cases e
  · cases e
    refine .inr ⟨g, cap, cur, rfl, hb, hh, by omega, h2, h3, ?_⟩
    rw [← h4, List.take_take]
    congr 1; omega
def putL : List Value → Nat → List Value → List Value
  | xs, _, [] => xs
  | xs, o, v :: r => putL (xs.set o v) (o + 1) r
theorem own_sets {base g n cap : Nat} {T : TypeId} : ∀ (vs : List Value) (o : Nat) (w : World) (xs : List Value), w.ownsRow base T 1 (.slice (some ⟨g, 0, none⟩) n cap) n xs → (w.setCells g o vs).ownsRow base T 1 (.slice (some ⟨g, 0, none⟩) n cap) n (putL xs o vs)
  | [], _, _, _, h => h
  | v :: r, o, w, xs, h => own_sets r (o + 1) _ _ (h.stored o v).1
theorem below_sets {B g : Nat} (hg : B ≤ g) {a : World} : ∀ (vs : List Value) (o : Nat) (w : World), Below B a w → Below B a (w.setCells g o vs)
  | [], _, _, h => h
  | v :: r, o, w, h => below_sets hg r (o + 1) _ (below_set h hg v)
theorem putL_eq : ∀ (vs : List Value) (xs : List Value) (o : Nat), o + vs.length ≤ xs.length → putL xs o vs = xs.take o ++ vs ++ xs.drop (o + vs.length)
  | [], xs, o, _ => by simp [putL]
  | v :: r, xs, o, h => by
    rw [List.length_cons] at h
    rw [putL, putL_eq r _ _ (by rw [List.length_set]; omega)]
    apply List.ext_getElem?
    intro k
    rw [List.length_cons]
    simp only [List.getElem?_append, List.length_append, List.length_take, List.length_set, List.getElem?_take, List.getElem?_drop, List.getElem?_set, List.length_cons]
    rw [Nat.min_eq_left (by omega), Nat.min_eq_left (by omega)]
    rcases Nat.lt_trichotomy k o with g | g | g
    · rw [if_pos (show k < o + 1 + r.length by omega), if_pos (show k < o + 1 by omega), if_pos (show k < o + 1 by omega), if_neg (by omega), if_pos (show k < o + (r.length + 1) by omega), if_pos g, if_pos g]
    · subst g
      rw [if_pos (show k < k + 1 + r.length by omega), if_pos (show k < k + 1 by omega), if_pos (show k < k + 1 by omega), if_pos rfl, if_pos (show k < xs.length by omega), if_pos (show k < k + (r.length + 1) by omega), if_neg (by omega), Nat.sub_self]; rfl
    · by_cases g2 : k < o + 1 + r.length
      · rw [if_pos g2, if_neg (by omega), if_pos (show k < o + (r.length + 1) by omega), if_neg (by omega), show k - o = (k - (o + 1)) + 1 from by omega, List.getElem?_cons_succ]
      · rw [if_neg g2, if_neg (show ¬ k < o + (r.length + 1) by omega), if_neg (by omega), show o + 1 + r.length + (k - (o + 1 + r.length)) = o + (r.length + 1) + (k - (o + (r.length + 1))) from by omega]
/-- what is left when one is taken out -/
theorem del_list (ss : List (List UInt8)) {i n : Nat} (hl : ss.length = n) (hi : i < n) (e : Value) : (putL (putL (strs ss) i (strs (ss.drop (i + 1)))) (n - 1) [e]).take (n - 1) = strs (ss.eraseIdx i) := by
  have h0 : (strs ss).length = n := by rw [strs_length, hl]
  have h1 : (strs (ss.drop (i + 1))).length = n - (i + 1) := by rw [strs_length, List.length_drop, hl]
  have e1 := putL_eq (strs (ss.drop (i + 1))) (strs ss) i (by omega)
  have h2 : (putL (strs ss) i (strs (ss.drop (i + 1)))).length = n := by
    rw [e1]; simp only [List.length_append, List.length_take, List.length_drop]; omega
  rw [putL_eq _ _ _ (by rw [h2]; simp; omega)]
  rw [List.append_assoc, List.take_append_of_le_length (by rw [List.length_take, h2]; omega), List.take_take, Nat.min_self, e1]
  rw [List.take_append_of_le_length (by simp only [List.length_append, List.length_take]; omega), List.take_of_length_le (by simp only [List.length_append, List.length_take]; omega)]
  rw [List.eraseIdx_eq_take_drop_succ]
  unfold strs
  rw [List.map_append, List.map_take]
set_option maxHeartbeats 4000000 in
theorem delete_raw (g off i j n c : Nat) (news : List Value) (A : Addr) (w W1 : World) (hij : i < j) (hjn : j ≤ n) (hnc : n ≤ c) (hc : c ≤ 9223372036854775807)
    (hA : (if c = j then (some ⟨g, off, none⟩ : Option Addr) else some ⟨g, off + j, none⟩) = some A) (hsrc : Hid (∀ t u, news[t]? = some u → w.drew.cell? (A.add t) = some u))
    (s1 : Hid (news.length = (n - j) * 1)) (s2 : Hid (∀ u ∈ news, u.oneCell' = true)) (s3 : Hid (∀ t, t < news.length → (w.drew.cell? ⟨g, off + i * 1 + t, none⟩).isSome = true ∧ w.drew.frozen? ⟨g, off + i * 1 + t, none⟩ = false))
    (hW : Hid (W1 = w.drew.setCells g (off + i * 1) news))
    (hcl : ∀ ty, (Builtin.clear_ #[79] ty #[.slice (some ⟨g, off + (i + (n - j)), none⟩) (n - (i + (n - j))) (c - (i + (n - j)))]).run Try.prog W1 = .ok (.tuple #[]) (W1.setCells g (off + (i + (n - j))) (List.replicate (n - (i + (n - j))) (.string ⟨#[]⟩)))) :
    Calls Try.prog 108 #[.slice (some ⟨g, off, none⟩) n c, .int .i64 i, .int .i64 j] w fun e w' => e = .returned (.slice (some ⟨g, off, none⟩) (i + (n - j)) c) ∧ w' = W1.setCells g (off + (i + (n - j))) (List.replicate (n - (i + (n - j))) (.string ⟨#[]⟩)) := by
  obtain ⟨i0, hi0, hz0, hz1, hz2⟩ := info_parts info_tree
  have hic : i ≤ c := by omega
  have hjc : j ≤ c := by omega
  have mixed : Try.prog.follows Departure.mixedOrders = true := by kernel_rfl
  go_enter Try.func108, Try.ntmps108
  go_wp2_with fail
  go_region_law_o (refine step_append_room rfl (.tmp 22) (.tmp 25) 79 rfl 59 i0 1 Try.underlying79 hi0 hz1 g off i c (by simp [Act.eval, Act.put]) A (n - j) (c - j) news (by simp [Act.eval, Act.put]) s1.out hsrc.out s2.out (by omega) s3.out ?_; rw [← hW.out])
  go_wp2
  go_ret
  exact ⟨rfl, rfl⟩
set_option maxHeartbeats 2000000 in
theorem delete_any (base g i j n c : Nat) (ss : List (List UInt8)) (w : World) (hl : ss.length = n) (hi : i < n) (hj : j = i + 1) (hn : n ≤ 12) (hbase : base ≤ w.heap.size) (h : w.ownsRow base 59 1 (.slice (some ⟨g, 0, none⟩) n c) n (strs ss)) :
    Calls Try.prog 108 #[.slice (some ⟨g, 0, none⟩) n c, .int .i64 i, .int .i64 j] w fun e w' => e = .returned (.slice (some ⟨g, 0, none⟩) (n - 1) c) ∧ w'.ownsRow base 59 1 (.slice (some ⟨g, 0, none⟩) (n - 1) c) (n - 1) (strs (ss.eraseIdx i)) ∧ Below base w w' ∧ base ≤ w'.heap.size := by
  have hcap := own_cap h
  have HB : Hid (base ≤ g) := (h.lt g rfl).1
  have HL := Lib.hid hl
  have hlen : (strs (ss.drop j)).length = n - j := by rw [strs_length, List.length_drop, hl]
  have s1 : Hid ((strs (ss.drop j)).length = (n - j) * 1) := by rw [Hid, Nat.mul_one]; exact hlen
  have s2 : Hid (∀ u ∈ strs (ss.drop j), u.oneCell' = true) := fun u hu => by
    unfold strs at hu
    rw [List.mem_map] at hu
    obtain ⟨x, _, rfl⟩ := hu
    rfl
  have hcell : ∀ k, k < n → ∃ u, w.cell? ⟨g, k, none⟩ = some u ∧ (strs ss)[k]? = some u := fun k hk => by
    obtain ⟨x, hx⟩ := at_lt (show k < ss.length by omega)
    have := h.cellAt k (by omega)
    rw [strs_at hx] at this
    exact ⟨_, this, strs_at hx⟩
  have s3 : Hid (∀ t, t < (strs (ss.drop j)).length → (w.drew.cell? ⟨g, 0 + i * 1 + t, none⟩).isSome = true ∧ w.drew.frozen? ⟨g, 0 + i * 1 + t, none⟩ = false) := fun t ht => by
    rw [hlen] at ht
    rw [Nat.mul_one, Nat.zero_add]
    obtain ⟨u, hu, _⟩ := hcell (i + t) (by omega)
    exact ⟨by show (w.cell? _).isSome = true; rw [hu]; rfl, h.frozenAt (i + t)⟩
  obtain ⟨A, hA, hsrc⟩ : ∃ A : Addr, (if c = j then some (⟨g, 0, none⟩ : Addr) else some ⟨g, j, none⟩) = some A ∧ Hid (∀ t u, (strs (ss.drop j))[t]? = some u → w.drew.cell? (A.add t) = some u) := by
    by_cases hc : c = j
    · refine ⟨⟨g, 0, none⟩, by simp [hc], fun t u hu => ?_⟩
      have h0 : (strs (ss.drop j)).length = 0 := by rw [hlen]; omega
      rw [List.length_eq_zero_iff.1 h0] at hu
      simp at hu
    · refine ⟨⟨g, j, none⟩, by simp [hc], fun t u hu => ?_⟩
      have ht : t < n - j := by
        have := (List.getElem?_eq_some_iff.1 hu).1
        rwa [hlen] at this
      obtain ⟨v, hv, hv2⟩ := hcell (j + t) (by omega)
      rw [show (⟨g, j, none⟩ : Addr).add t = ⟨g, j + t, none⟩ from by unfold Addr.add; split <;> simp_all]
      unfold strs at hu hv2
      rw [List.map_drop, List.getElem?_drop, hv2] at hu
      injection hu with hu
      rw [← hu]; exact hv
  obtain ⟨W1, hW1⟩ : ∃ W1, W1 = w.drew.setCells g (0 + i * 1) (strs (ss.drop j)) := ⟨_, rfl⟩
  have HW := Lib.hid hW1
  have hO1 : W1.ownsRow base 59 1 (.slice (some ⟨g, 0, none⟩) n c) n (putL (strs ss) i (strs (ss.drop j))) := by
    rw [hW1, Nat.mul_one, Nat.zero_add]
    exact own_sets _ _ _ _ (by exact (OwnR.of h).drewN 1 |>.1)
  have HO1 := Lib.hid hO1
  have HB1 : Hid (Below base w W1) := by rw [Hid, hW1]; exact below_sets HB.out _ _ _ (below_drewN (Below.refl _ _) 1)
  have hcell1 : ∀ k, k < n → (W1.cell? ⟨g, k, none⟩).isSome = true ∧ W1.frozen? ⟨g, k, none⟩ = false := fun k hk => by
    have h9 := hO1.cellAt k (by omega)
    have h8 : k < (putL (strs ss) i (strs (ss.drop j))).length := by rw [own_len hO1]; exact hk
    rw [List.getElem?_eq_getElem h8] at h9
    exact ⟨by rw [h9]; rfl, hO1.frozenAt k⟩
  have e1 : i + (n - j) = n - 1 := by omega
  have e2 : n - (n - 1) = 1 := by omega
  have hcl : ∀ ty, (Builtin.clear_ #[79] ty #[.slice (some ⟨g, 0 + (i + (n - j)), none⟩) (n - (i + (n - j))) (c - (i + (n - j)))]).run Try.prog W1 = .ok (.tuple #[]) (W1.setCells g (0 + (i + (n - j))) (List.replicate (n - (i + (n - j))) (.string ⟨#[]⟩))) := fun ty =>
    Lib.run_clear_slice W1 _ _ ty (.string ⟨#[]⟩) Try.underlying79 (fun w => by rfl) rfl rfl g (0 + (i + (n - j))) _ _ (by omega) (fun t ht => by rw [Nat.zero_add, e1]; exact (hcell1 (n - 1 + t) (by omega)).1) (fun t ht => by rw [Nat.zero_add, e1]; exact (hcell1 (n - 1 + t) (by omega)).2)
  have G : Hid ((W1.setCells g (n - 1) [.string ⟨#[]⟩]).ownsRow base 59 1 (.slice (some ⟨g, 0, none⟩) (n - 1) c) (n - 1) (strs (ss.eraseIdx i)) ∧ Below base w (W1.setCells g (n - 1) [.string ⟨#[]⟩]) ∧ base ≤ (W1.setCells g (n - 1) [.string ⟨#[]⟩]).heap.size) := by
    have h7 := own_prefix (own_sets [.string ⟨#[]⟩] (n - 1) W1 _ HO1.out) (show n - 1 ≤ n by omega)
    subst hj
    rw [del_list ss HL.out hi] at h7
    have h6 := below_sets HB.out [.string ⟨#[]⟩] (n - 1) W1 HB1.out
    exact ⟨h7, h6, Nat.le_trans hbase h6.size⟩
  have C0 := delete_raw g 0 i j n c _ A w W1 (by omega) (by omega) hcap.1 hcap.2 (by rw [Nat.zero_add]; exact hA) hsrc s1 s2 s3 HW hcl
  refine C0.mono ?_
  rintro e w' ⟨rfl, rfl⟩
  rw [Nat.zero_add, e1, e2]
  exact ⟨rfl, G.out⟩
end Go.Proofs.Ytfehjjaebdgjlaa
/-
  Trees compared: by nodes, then by text.
-/
namespace Go.Proofs.Ytfehjjaebdgjlaa
open Go.RowKit Fld
set_option linter.unusedVariables false
set_option linter.unusedSimpArgs false
set_option maxRecDepth 100000

theorem intNaN_any (x : Int) (w : World) : Calls Try.prog 131 #[.int .i64 x] w fun e w' => e = .returned (.bool false) ∧ w = w' := by
  go_enter Try.func131, Try.ntmps131
  go_wp2
  go_ret
  exact ⟨by simp, rfl⟩
def cmpI (a b : Int) : Int := if a < b then -1 else if b < a then 1 else 0
theorem intCompare_any (a b : Int) (w : World) : Calls Try.prog 113 #[.int .i64 a, .int .i64 b] w fun e w' => e = .returned (.int .i64 (cmpI a b)) ∧ w = w' := by
  rcases Int.lt_trichotomy a b with g | g | g
  · have H : Hid (cmpI a b = -1) := if_pos g
    go_enter Try.func113, Try.ntmps113
    go_wp2_with (go_at_call 131; refine (intNaN_any _ _).mono ?_; rintro e w' ⟨rfl, rfl⟩)
    go_ret
    exact ⟨ret_i64 H.out.symm, rfl⟩
  · have H : Hid (cmpI a b = 0) := by unfold cmpI; rw [Hid, if_neg (by omega), if_neg (by omega)]
    have t1 : ¬ a < b := by omega
    have t2 : ¬ b < a := by omega
    clear g
    go_enter Try.func113, Try.ntmps113
    go_wp2_with (go_at_call 131; refine (intNaN_any _ _).mono ?_; rintro e w' ⟨rfl, rfl⟩)
    go_ret
    exact ⟨ret_i64 H.out.symm, rfl⟩
  · have H : Hid (cmpI a b = 1) := by unfold cmpI; rw [Hid, if_neg (by omega), if_pos g]
    have t1 : ¬ a < b := by omega
    go_enter Try.func113, Try.ntmps113
    go_wp2_with (go_at_call 131; refine (intNaN_any _ _).mono ?_; rintro e w' ⟨rfl, rfl⟩)
    go_ret
    exact ⟨ret_i64 H.out.symm, rfl⟩
def cmpX (x y : List UInt8) : Int := if Tr.ltS x y then -1 else if Tr.ltS y x then 1 else 0
theorem run_gtr_str (x y : List UInt8) (w : World) : Sem.run Try.prog (binOp .gtr 59 (.string ⟨x.toArray⟩) (.string ⟨y.toArray⟩)) w = .ok (.bool (Op.bytesLess y x)) w := by
  have e : (!Op.bytesLess x y && !x == y) = Op.bytesLess y x := by
    rw [less_eq, less_eq, Bool.not_not]
    cases h : Tr.leS x y
    · have h1 := Tr.leS_to h
      have hne : (x == y) = false := by
        rw [beq_eq_false_iff_ne]
        intro e
        subst e
        rw [h1] at h; cases h
      rw [h1, hne]; rfl
    · cases h2 : Tr.leS y x
      · rfl
      · have := Tr.leS_as h h2
        subst this
        simp
  simp [binOp, Op.stringOp, e]
theorem treeCompare_any (x y : List UInt8) (w : World) : Calls Try.prog 114 #[.string ⟨x.toArray⟩, .string ⟨y.toArray⟩] w fun e w' => e = .returned (.int .i64 (cmpX x y)) ∧ w = w' := by
  have l1 : Op.bytesLess x y = Tr.ltS x y := less_eq x y
  have l2 : Op.bytesLess y x = Tr.ltS y x := less_eq y x
  have l3 := run_gtr_str x y
  cases h1 : Tr.ltS x y
  · cases h2 : Tr.ltS y x
    · have H : Hid (cmpX x y = 0) := by unfold cmpX; rw [Hid, h1, h2]; rfl
      rw [h1] at l1
      rw [h2] at l2
      clear h1 h2
      go_enter Try.func114, Try.ntmps114
      go_wp2_with (go_at_call 132; refine (treeNaN_any _ _).mono ?_; rintro e w' ⟨rfl, rfl⟩)
      go_ret
      exact ⟨ret_i64 H.out.symm, rfl⟩
    · have H : Hid (cmpX x y = 1) := by unfold cmpX; rw [Hid, h1, h2]; rfl
      rw [h1] at l1
      rw [h2] at l2
      clear h1 h2
      go_enter Try.func114, Try.ntmps114
      go_wp2_with (go_at_call 132; refine (treeNaN_any _ _).mono ?_; rintro e w' ⟨rfl, rfl⟩)
      go_ret
      exact ⟨ret_i64 H.out.symm, rfl⟩
  · have H : Hid (cmpX x y = -1) := by unfold cmpX; rw [Hid, h1]; rfl
    rw [h1] at l1
    clear h1 l2
    go_enter Try.func114, Try.ntmps114
    go_wp2_with (go_at_call 132; refine (treeNaN_any _ _).mono ?_; rintro e w' ⟨rfl, rfl⟩)
    go_ret
    exact ⟨ret_i64 H.out.symm, rfl⟩
theorem orInt_any (a b : Int) (g : Nat) (w : World) (h0 : w.cell? ⟨g, 0, none⟩ = some (.int .i64 a)) (h1 : w.cell? ⟨g, 1, none⟩ = some (.int .i64 b)) :
    Calls Try.prog 112 #[.slice (some ⟨g, 0, none⟩) 2 2] w fun e w' => e = .returned (.int .i64 (if a ≠ 0 then a else b)) ∧ w = w' := by
  by_cases ha : a = 0
  · subst ha
    have H : Hid ((if (0 : Int) ≠ 0 then (0 : Int) else b) = b) := by rw [Hid]; simp
    by_cases hb : b = 0
    · subst hb
      go_enter Try.func112, Try.ntmps112
      go_wp2_with fail
      go_loop [8] (fun i => ∃ k : Nat, k ≤ 2 ∧ i = .int .i64 k) (fun i => 2 - (intOf i).toNat)
      case atStart => exact ⟨0, by omega, rfl⟩
      case round =>
        obtain ⟨k, hk, rfl⟩ := hrel
        rcases (show k = 0 ∨ k = 1 ∨ k = 2 by omega) with rfl | rfl | rfl
        · go_wp2
          go_round
          case rel => exact ⟨1, by omega, rfl⟩
          case measure => simp [intOf]
        · go_wp2
          go_round
          case rel => exact ⟨2, by omega, rfl⟩
          case measure => simp [intOf]
        · go_wp2
          go_ret
          exact ⟨by simp, rfl⟩
    · have tb := bne_t hb
      go_enter Try.func112, Try.ntmps112
      go_wp2_with fail
      go_loop [8] (fun i => ∃ k : Nat, k ≤ 1 ∧ i = .int .i64 k) (fun i => 2 - (intOf i).toNat)
      case atStart => exact ⟨0, by omega, rfl⟩
      case round =>
        obtain ⟨k, hk, rfl⟩ := hrel
        rcases (show k = 0 ∨ k = 1 by omega) with rfl | rfl
        · go_wp2
          go_round
          case rel => exact ⟨1, by omega, rfl⟩
          case measure => simp [intOf]
        · go_wp2
          go_ret
          exact ⟨ret_i64 H.out.symm, rfl⟩
  · have ta := bne_t ha
    have H : Hid ((if a ≠ 0 then a else b) = a) := if_pos ha
    go_enter Try.func112, Try.ntmps112
    go_wp2_with fail
    go_loop [8] (fun i => i = .int .i64 0) (fun i => 0)
    case atStart => rfl
    case round =>
      obtain rfl := hrel
      go_wp2
      go_ret
      exact ⟨by first | exact ret_i64 H.out.symm | exact ret_i64 rfl, rfl⟩
theorem cmp_or (x y : List UInt8) : (if cmpI ((x.length / 2 : Nat) : Int) ((y.length / 2 : Nat) : Int) ≠ 0 then cmpI ((x.length / 2 : Nat) : Int) ((y.length / 2 : Nat) : Int) else cmpX x y) = Tr.cmpT x y := by
  unfold cmpI cmpX Tr.cmpT
  by_cases h1 : x.length / 2 < y.length / 2
  · have e1 : ((x.length / 2 : Nat) : Int) < ((y.length / 2 : Nat) : Int) := by omega
    rw [if_pos e1, if_pos h1]; rfl
  · have e1 : ¬ ((x.length / 2 : Nat) : Int) < ((y.length / 2 : Nat) : Int) := by omega
    by_cases h2 : y.length / 2 < x.length / 2
    · have e2 : ((y.length / 2 : Nat) : Int) < ((x.length / 2 : Nat) : Int) := by omega
      rw [if_neg e1, if_neg h1, if_pos e2, if_pos h2]; rfl
    · have e2 : ¬ ((y.length / 2 : Nat) : Int) < ((x.length / 2 : Nat) : Int) := by omega
      rw [if_neg e1, if_neg h1, if_neg e2, if_neg h2]; rfl
set_option maxHeartbeats 400000 in
theorem compare_any (x y : List UInt8) (w : World) (hx : x.length ≤ 1048576) (hy : y.length ≤ 1048576) : Calls Try.prog 88 #[.string ⟨x.toArray⟩, .string ⟨y.toArray⟩] w fun e w' => e = .returned (.int .i64 (Tr.cmpT x y)) ∧ Below w.heap.size w w' := by
  have G := Lib.hid (cmp_or x y)
  obtain ⟨a, ha⟩ : ∃ a, a = cmpI ((x.length / 2 : Nat) : Int) ((y.length / 2 : Nat) : Int) := ⟨_, rfl⟩
  have C3 := fun w => intCompare_any ((x.length / 2 : Nat) : Int) ((y.length / 2 : Nat) : Int) w
  rw [← ha] at G
  simp only [← ha] at C3
  have C1 := fun w => nodes_any x w hx
  have C2 := fun w => nodes_any y w hy
  obtain ⟨p, hp⟩ : ∃ p, p = x.length / 2 := ⟨_, rfl⟩
  obtain ⟨q, hq⟩ : ∃ q, q = y.length / 2 := ⟨_, rfl⟩
  rw [← hp] at C1 C3
  rw [← hq] at C2 C3
  clear ha hx hy hp hq
  go_enter Try.func88, Try.ntmps88
  go_wp2_with fail
  refine (C1 _).mono ?_
  rintro e w' ⟨rfl, rfl⟩
  go_wp2_with fail
  refine (C2 _).mono ?_
  rintro e w' ⟨rfl, rfl⟩
  go_wp2_with fail
  refine (C3 _).mono ?_
  rintro e w' ⟨rfl, rfl⟩
  go_wp2_with fail
  refine (treeCompare_any x y _).mono ?_
  rintro e w' ⟨rfl, rfl⟩
  go_wp2_with fail
  have hal : Below w.heap.size w (w.alloc (.cells #[.int .i64 a, .int .i64 (cmpX x y)] 3)) := (Below.refl _ _).alloc (Nat.le_refl _) _
  refine (orInt_any a (cmpX x y) w.heap.size _ (by rw [World.cell?_alloc_at (hn := by simp)]; rfl) (by rw [World.cell?_alloc_at (hn := by simp)]; rfl)).mono ?_
  rintro e w' ⟨rfl, rfl⟩
  rw [G.out]
  go_wp2
  go_ret
  exact ⟨rfl, hal⟩
end Go.Proofs.Ytfehjjaebdgjlaa
/-
  The program's canonical lists and its test on them.
-/
namespace Go.Proofs.Ytfehjjaebdgjlaa
open Go.RowKit Fld
set_option linter.unusedVariables false
set_option linter.unusedSimpArgs false
set_option maxRecDepth 100000

theorem wrap_brk {ss : List (List UInt8)} (h : ∀ x ∈ ss, Brk x) : Brk (Tr.wrap ss) := by
  intro c hc
  unfold Tr.wrap at hc
  rw [List.mem_cons, List.mem_append, List.mem_flatten, List.mem_singleton] at hc
  rcases hc with rfl | ⟨x, hx, hcx⟩ | rfl
  · exact .inl rfl
  · exact h x hx c hcx
  · exact .inr rfl
theorem txt_brk : ∀ (d : Nat) (t : List Int), Brk (Tr.txtF d t)
  | 0, t => fun c hc => by simp [Tr.txtF] at hc
  | d+1, t => by
    rw [Tr.txtF]
    refine wrap_brk fun x hx => ?_
    rw [(Tr.sortS_perm _).mem_iff, List.mem_map] at hx
    obtain ⟨p, _, rfl⟩ := hx
    exact txt_brk d p
theorem lv_txt {t : List Int} (h : Tr.isLv t = true) : Tr.lvl (Tr.txt t) = Tr.can t ∧ Tr.isLv (Tr.can t) = true ∧ (Tr.can t).length = t.length ∧ (Tr.txt t).length = 2 * t.length := by
  have h1 := Tr.all_of Tr.chk1_all (Tr.isLv_iff.1 h)
  unfold Tr.chk1 at h1
  simp only [Bool.and_eq_true, beq_iff_eq] at h1
  exact ⟨h1.1.1.1, h1.1.1.2, h1.1.2, h1.2⟩
theorem lv_bd {t : List Int} (h : Tr.isLv t = true) : 1 ≤ t.length ∧ t.length ≤ 8 := by
  have := Tr.isLv_iff.1 h
  exact ⟨this.1, this.2.1⟩
def isTr (t : List Int) : Bool := Tr.isLv t && eqL (Tr.can t) t
/-- levels of the text of a level list -/
theorem levelsOf_any (t : List Int) (w : World) (h : Tr.isLv t = true) : Calls Try.prog 54 #[.string ⟨(Tr.txt t).toArray⟩] w (NewRow 2 t.length (ints (Tr.can t)) w) := by
  obtain ⟨e1, _, e2, e3⟩ := lv_txt h
  have h1 := levels_any (Tr.txt t) w (by have := (lv_bd h).2; omega) (txt_brk _ _)
  rw [e1, e2] at h1
  exact h1
/-- what CanonicalTree is to answer -/
def canA (t : List Int) : List Int × Int := if Tr.isLv t = true then (Tr.can t, 0) else ([], 1)
theorem canA_yes {t : List Int} (h : Tr.isLv t = true) : canA t = (Tr.can t, 0) := if_pos h
theorem canA_no {t : List Int} (h : Tr.isLv t = false) : canA t = ([], 1) := if_neg (by rw [h]; simp)
set_option maxHeartbeats 400000 in
theorem pCanonicalTree_L (A : Option Addr) (n c B : Nat) (t : List Int) (w : World) (hl : t.length = n) (hn : n ≤ 1048576) (hB : B ≤ w.heap.size) (h : Row w B A (ints t)) (hc : n ≤ c) :
    Calls Try.prog 16 #[.slice A n c] w (ResL (canA t) w) := by
  cases hlv : Tr.isLv t
  · have G := Lib.hid (canA_no hlv)
    go_enter Try.func16, Try.ntmps16
    go_wp2_with fail
    have C0 := isLevels_any A n c B t w hl (by omega) h
    rw [hlv] at C0
    refine C0.mono ?_
    rintro e w' ⟨rfl, m, rfl⟩
    go_wp2
    go_ret2
    exact ResL.nil G.out (below_drewN (Below.refl _ _) _)
  · obtain ⟨b1, b8⟩ := lv_bd hlv
    rw [hl] at b1 b8
    have HL := Lib.hid hl
    have HLV := Lib.hid hlv
    have C0 := isLevels_any A n c B t w hl (by omega) h
    rw [hlv] at C0
    have HE : Hid ((Tr.can t).length = n) := by rw [Hid, (lv_txt hlv).2.2.1, hl]
    have G := Lib.hid (canA_yes hlv)
    clear hl hlv
    go_enter Try.func16, Try.ntmps16
    go_wp2_with fail
    refine C0.mono ?_
    rintro e w' ⟨rfl, m, rfl⟩
    go_wp2_with fail
    refine (treeOf_any A n c B t _ HL.out b1 b8 hc (by exact hB) (h.drewN m)).mono ?_
    rintro e w2 ⟨rfl, bel2⟩
    go_wp2_with fail
    refine (levelsOf_any t _ HLV.out).mono ?_
    rintro e w3 ⟨A3, c3, rfl, own3, bel3⟩
    have hs2 : w.heap.size ≤ w2.heap.size := bel2.size
    have GB : Hid (Below w.heap.size w w3) := (below_undrew' bel2).trans (bel3.mono hs2)
    have GO : Hid (w3.ownsRow w.heap.size 2 1 (.slice A3 n c3) n (ints (Tr.can t))) := by rw [HL.out] at own3; exact ((OwnR.of own3).more hs2 (Nat.le_refl _)).1
    rw [HL.out]
    clear own3 bel2 bel3
    go_wp2
    go_ret2
    exact ResL.of G.out HE.out (by omega) GO.out GB.out
end Go.Proofs.Ytfehjjaebdgjlaa
/-
  The branch with a node, and the others.
-/
namespace Go.Proofs.Ytfehjjaebdgjlaa
open Go.RowKit Fld
set_option linter.unusedVariables false
set_option linter.unusedSimpArgs false
set_option maxRecDepth 100000

theorem tx_brk' {x : List UInt8} (h : Tr.isTx x = true) : Brk x := by
  unfold Tr.isTx at h
  simp only [Bool.and_eq_true, beq_iff_eq] at h
  rw [← h.2]; exact txt_brk _ _
theorem tx_even {x : List UInt8} (h : Tr.isTx x = true) : x.length = 2 * (x.length / 2) := by
  unfold Tr.isTx at h
  simp only [Bool.and_eq_true, beq_iff_eq] at h
  have := (lv_txt h.1).2.2.2
  rw [h.2] at this
  omega
theorem pick_drop {bs : List (List UInt8)} {k p : Nat} {b : List UInt8} (h : bs[k]? = some b) : Tr.pick (bs.drop k) p = if p < b.length / 2 then (0, p) else ((Tr.pick (bs.drop (k + 1)) (p - b.length / 2)).1 + 1, (Tr.pick (bs.drop (k + 1)) (p - b.length / 2)).2) := by
  have hlt : k < bs.length := by
    rcases Nat.lt_or_ge k bs.length with g | g
    · exact g
    · rw [List.getElem?_eq_none g] at h; cases h
  rw [List.getElem?_eq_getElem hlt] at h
  injection h with h
  rw [List.drop_eq_getElem_cons hlt, h, Tr.pick]
set_option maxHeartbeats 2000000 in
theorem branchWith_any (x : List UInt8) (n : Nat) (w : World) (hx : Tr.isTx x = true) (hn : n + 1 < x.length / 2) :
    Calls Try.prog 81 #[.string ⟨x.toArray⟩, .int .i64 ((n + 1 : Nat) : Int)] w fun e w' => ∃ g c q, e = .returned (.tuple #[.string ⟨(Tr.bAt x n).toArray⟩, .int .i64 ((Tr.pAt x n : Nat) : Int), .slice (some ⟨g, 0, none⟩) q c]) ∧ q = (Tr.oAt x n).length ∧ w'.ownsRow w.heap.size 59 1 (.slice (some ⟨g, 0, none⟩) q c) q (strs (Tr.oAt x n)) ∧ Below w.heap.size w w' := by
  have hx16 := (Tr.br_parts hx).1.2
  have hb7 := (Tr.br_parts hx).2.2
  have hbb := (Tr.br_parts hx).2.1
  have HPK := Lib.hid (Tr.pick_parts hx hn).1
  have C0 := branches_any x w hx
  obtain ⟨bs, hbs⟩ : ∃ bs, bs = Tr.brT x := ⟨_, rfl⟩
  have HBA : Hid (Tr.bAt x n = bs.getD (Tr.pick bs n).1 []) := by rw [Hid, hbs]; rfl
  have HPA : Hid (Tr.pAt x n = (Tr.pick bs n).2) := by rw [Hid, hbs]; rfl
  have HOA : Hid (Tr.oAt x n = bs.eraseIdx (Tr.pick bs n).1) := by rw [Hid, hbs]; rfl
  rw [← hbs] at hb7 hbb HPK C0
  have HBB : Hid (∀ b ∈ bs, b.length ≤ 16) := fun b hb => by have := (hbb b hb).2; omega
  have hnr : n ≤ 8 := by omega
  have hn1 : ((n + 1 : Nat) : Int) - 1 = (n : Int) := by omega
  clear hbs hbb hx hn
  go_enter Try.func81, Try.ntmps81
  go_wp2_with fail
  refine C0.mono ?_
  rintro e w1 ⟨A1, q1, c1, rfl, hq1, own1, bel1⟩
  have HO1 := Lib.hid own1
  have HB1 := Lib.hid bel1
  have hq0 : 0 < q1 := by have := HPK.out; omega
  obtain ⟨g, cap, hv⟩ := own_form own1 hq0
  injection hv with hA _ hcap
  subst hA hcap
  have HQ := Lib.hid hq1
  have hq7 : q1 ≤ 7 := by omega
  clear own1 bel1 hq1 C0
  go_wp2_with fail
  go_loopw [8, 9] (fun pl i wr => ∃ (k p : Nat), k < q1 ∧ p ≤ n ∧ pl = .int .i64 p ∧ i = .int .i64 k ∧ wr = w1 ∧ Hid (Tr.pick bs n = (k + (Tr.pick (bs.drop k) p).1, (Tr.pick (bs.drop k) p).2))) (fun _ i _ => q1 - (intOf i).toNat)
  case atStart => exact ⟨0, n, hq0, Nat.le_refl _, by go_num, rfl, rfl, by rw [Hid, List.drop_zero]; simp⟩
  case round =>
    obtain ⟨k, p, hk, hp, rfl, rfl, rfl, HK⟩ := hrel
    obtain ⟨b, hb⟩ := at_lt (show k < bs.length by have := HQ.out; omega)
    have hb16 := HBB.out b (List.mem_of_getElem? hb)
    have hcell := HO1.out.cellAt k (by omega)
    rw [strs_at hb] at hcell
    have HPD := Lib.hid (pick_drop (p := p) hb)
    have C1 := fun w => nodes_any b w (by omega)
    obtain ⟨nb, hnb⟩ : ∃ nb, nb = b.length / 2 := ⟨_, rfl⟩
    rw [← hnb] at HPD
    simp only [← hnb] at C1
    have hnb8 : nb ≤ 8 := by omega
    have HBK := Lib.hid hb
    obtain ⟨X, hX⟩ : ∃ X : ByteArray, X = ⟨b.toArray⟩ := ⟨_, rfl⟩
    have HX := Lib.hid hX
    rw [← hX] at hcell
    simp only [← hX] at C1
    clear hb hnb hX
    by_cases hpb : p < nb
    · have HE : Hid (Tr.pick bs n = (k, p)) := by rw [Hid, HK.out, HPD.out, if_pos hpb]; rfl
      have C2 := delete_any w.heap.size g k (k + 1) q1 c1 bs wr HQ.out.symm hk rfl (by omega) HB1.out.size HO1.out
      rw [show ((k + 1 : Nat) : Int) = (k : Int) + 1 from rfl] at C2
      have GB : Hid (Tr.bAt x n = b) := by
        rw [Hid, HBA.out, HE.out]
        show bs.getD k [] = b
        rw [List.getD_eq_getElem?_getD, HBK.out]; rfl
      have GP : Hid (Tr.pAt x n = p) := by rw [Hid, HPA.out, HE.out]
      have GO : Hid (Tr.oAt x n = bs.eraseIdx k) := by rw [Hid, HOA.out, HE.out]
      have hpb' : ¬ (nb : Int) ≤ (p : Int) := by omega
      clear HPD HK
      go_wp2_with fail
      refine (C1 _).mono ?_
      rintro e w2 ⟨rfl, rfl⟩
      go_wp2_with fail
      refine C2.mono ?_
      rintro e w3 ⟨rfl, own3, bel3, hs3⟩
      have G3 : Hid (w3.ownsRow w.heap.size 59 1 (.slice (some ⟨g, 0, none⟩) (q1 - 1) c1) (q1 - 1) (strs (Tr.oAt x n))) := by rw [Hid, GO.out]; exact own3
      have GB3 := Lib.hid (HB1.out.trans bel3)
      have GL : Hid (q1 - 1 = (Tr.oAt x n).length) := by rw [Hid, GO.out, List.length_eraseIdx, if_pos (by have := HQ.out; omega), ← HQ.out]
      clear own3 bel3 C1 C2 hcell
      go_wp2
      go_ret3
      exact ⟨g, c1, q1 - 1, by rw [GB.out, GP.out, ← HX.out]; rfl, GL.out, G3.out, GB3.out⟩
    · have HE : Hid (Tr.pick bs n = (k + 1 + (Tr.pick (bs.drop (k + 1)) (p - nb)).1, (Tr.pick (bs.drop (k + 1)) (p - nb)).2)) := by
        rw [Hid, HK.out, HPD.out, if_neg hpb]
        simp only [Prod.mk.injEq, and_true]; omega
      have hk1 : k + 1 < q1 := by
        have h1 := HPK.out
        rw [HE.out] at h1
        have := HQ.out; simp only at h1; omega
      have hpb' : (nb : Int) ≤ (p : Int) := by omega
      clear HPD HK hpb
      go_wp2_with fail
      refine (C1 _).mono ?_
      rintro e w2 ⟨rfl, rfl⟩
      go_wp2_with fail
      refine (C1 _).mono ?_
      rintro e w2 ⟨rfl, rfl⟩
      go_wp2
      go_roundw
      case rel => exact ⟨k + 1, p - nb, by omega, by omega, by go_num, by go_num, by first | rfl | trivial, HE⟩
      case measure => simp [intOf]; omega
end Go.Proofs.Ytfehjjaebdgjlaa
/-
  The program's grafting on texts.
-/
namespace Go.Proofs.Ytfehjjaebdgjlaa
open Go.RowKit Fld
set_option linter.unusedVariables false
set_option linter.unusedSimpArgs false
set_option maxRecDepth 100000

theorem flat_small : ∀ {l : List (List UInt8)} {m : Nat}, (∀ b ∈ l, b.length ≤ m) → l.flatten.length ≤ l.length * m
  | [], m, _ => by simp
  | b :: l, m, h => by
    have h1 := flat_small (l := l) (fun x hx => h x (by simp [hx]))
    have h2 := h b (by simp)
    rw [List.flatten_cons, List.length_append, List.length_cons, Nat.add_mul, Nat.one_mul]; omega
theorem rootT_len (l : List (List UInt8)) : (Tr.rootT l).length = l.flatten.length + 2 := by
  unfold Tr.rootT Tr.wrap
  rw [List.length_cons, List.length_append, flat_sorted]; rfl
theorem flat_snoc (l : List (List UInt8)) (b : List UInt8) : (l ++ [b]).flatten.length = l.flatten.length + b.length := by simp
theorem brT_small {x : List UInt8} (h : Tr.isTx x = true) : (Tr.brT x).flatten.length ≤ 112 := by
  obtain ⟨⟨_, h16⟩, hb, h7⟩ := Tr.br_parts h
  have := flat_small (l := Tr.brT x) (m := 16) (fun b hb' => by have := (hb b hb').2; omega)
  omega
theorem oAt_small {x : List UInt8} (h : Tr.isTx x = true) {n : Nat} (hn : n + 1 < x.length / 2) : (Tr.oAt x n).flatten.length ≤ 112 := by
  obtain ⟨_, _, _, _, hb, h7⟩ := Tr.pick_parts h hn
  have := flat_small (l := Tr.oAt x n) (m := 16) (fun b hb' => (hb b hb').2)
  omega
theorem bAt_less {x : List UInt8} (h : Tr.isTx x = true) {n d : Nat} (hn : n + 1 < x.length / 2) (hd : x.length / 2 ≤ d + 1) : (Tr.bAt x n).length / 2 ≤ d := by
  have h1 := tx_even h
  obtain ⟨_, h2, _, h3, _⟩ := Tr.pick_parts h hn
  have h4 := tx_even h2
  omega
theorem grf_len : ∀ (d : Nat) (x : List UInt8) (k : Nat) (v : List UInt8), Tr.isTx x = true → k < x.length / 2 → x.length / 2 ≤ d → (Tr.grfF d x k v).length ≤ 200 * d + v.length
  | 0, x, k, v, h, hk, hd => by simp [Tr.grfF]
  | d+1, x, 0, v, h, hk, hd => by
    rw [Tr.grfF, rootT_len, flat_snoc]
    have := brT_small h
    omega
  | d+1, x, n+1, v, h, hk, hd => by
    rw [Tr.grfF, rootT_len, flat_snoc]
    obtain ⟨_, h2, h3, _⟩ := Tr.pick_parts h hk
    have h1 := grf_len d (Tr.bAt x n) (Tr.pAt x n) v h2 h3 (bAt_less h hk hd)
    have := oAt_small h hk
    omega
theorem strs_snoc (l : List (List UInt8)) (b : List UInt8) : strs l ++ [.string ⟨b.toArray⟩] = strs (l ++ [b]) := by simp [strs]
theorem tTimes_any (x v : List UInt8) (w : World) (hx : Tr.isTx x = true) (hv : v.length ≤ 100000) :
    Calls Try.prog 89 #[.string ⟨x.toArray⟩, .string ⟨v.toArray⟩] w fun e w' => e = .returned (.string ⟨(Tr.rootT (Tr.brT x ++ [v])).toArray⟩) ∧ Below w.heap.size w w' := by
  obtain ⟨i0, hi, hz0, hz1, hz2⟩ := info_parts info_tree
  have h7 := (Tr.br_parts hx).2.2
  have HF : Hid ((Tr.brT x ++ [v]).flatten.length ≤ 1048574) := by rw [Hid, flat_snoc]; have := brT_small hx; omega
  have C0 := branches_any x w hx
  have HS := Lib.hid (strs_snoc (Tr.brT x) v)
  obtain ⟨V, hV⟩ : ∃ V : ByteArray, V = ⟨v.toArray⟩ := ⟨_, rfl⟩
  rw [← hV] at HS ⊢
  clear hV hx
  go_enter Try.func89, Try.ntmps89
  go_wp2_with fail
  refine C0.mono ?_
  rintro e w1 ⟨A, q, c, rfl, hq, own1, bel1⟩
  have hs1 := bel1.size
  have HB1 := Lib.hid bel1
  have HO1 := Lib.hid own1
  have hq7 : q ≤ 7 := by omega
  clear bel1 hq C0
  go_wp2_with (at_builtin; (refine wpList_append_lies _ rfl (.tmp 6) (.tmp 8) 79 rfl w.heap.size 59 i0 _ 1 16 Try.underlying79 hi hz0 hz1 hz2 rfl (by omega) (.slice A q c) q (strs (Tr.brT x)) rfl (own1.alloc _) ⟨w1.heap.size, 0, none⟩ 1 1 [.string V] rfl rfl (World.news_of_block (cs := #[.string V]) (heap_alloc_new _ _)) (by simp [Value.oneCell']) (by omega) (by simp only [maxLen]; omega) (by omega) (by simp; omega) (w1.heap.size + 1) (by simp) ?_); intro g2 cap2 w3 hown3 hgrow3 hat3 hlt3)
  rw [HS.out] at hown3
  have HB3 : Hid (Below w.heap.size w w3) := (HB1.out.alloc (by omega) _).grown hgrow3 (by simp; omega) (fun z hz => (HO1.out.lt z hz).1)
  have HO3 := Lib.hid hown3
  clear hown3 hgrow3 hat3 own1
  go_wp2_with fail
  refine (rootOn_any _ w.heap.size _ _ _ _ (by omega) HF.out HB3.out.size HO3.out).mono ?_
  rintro e w4 ⟨rfl, bel4⟩
  have GB := Lib.hid (HB3.out.trans bel4)
  obtain ⟨Z, hZ⟩ : ∃ Z : ByteArray, Z = ⟨(Tr.wrap (Tr.sortS (Tr.brT x ++ [v]))).toArray⟩ := ⟨_, rfl⟩
  have HZ : Hid (Z = ⟨(Tr.rootT (Tr.brT x ++ [v])).toArray⟩) := hZ
  rw [← hZ]
  clear bel4 hZ
  go_wp2
  go_ret
  exact ⟨by rw [← HZ.out]; rfl, GB.out⟩
def GrfAt (d : Nat) : Prop := ∀ (x : List UInt8) (k : Nat) (v : List UInt8) (w : World), Tr.isTx x = true → k < x.length / 2 → x.length / 2 ≤ d → v.length ≤ 16 →
    Calls Try.prog 63 #[.string ⟨x.toArray⟩, .int .i64 k, .string ⟨v.toArray⟩] w fun e w' => e = .returned (.string ⟨(Tr.grfF d x k v).toArray⟩) ∧ Below w.heap.size w w'
theorem grfAt_zero : GrfAt 0 := fun x k v w _ hk hd _ => by omega
set_option maxHeartbeats 1000000 in
theorem grfAt_succ (d : Nat) (hd8 : d ≤ 8) (IH : GrfAt d) : GrfAt (d + 1) := by
  intro x k v w hx hk hd hv
  obtain ⟨i0, hi, hz0, hz1, hz2⟩ := info_parts info_tree
  cases k with
  | zero =>
    have C0 := tTimes_any x v w hx (by omega)
    have HZ : Hid (Tr.grfF (d + 1) x 0 v = Tr.rootT (Tr.brT x ++ [v])) := rfl
    rw [HZ.out]
    clear HZ
    obtain ⟨Z, hZ⟩ : ∃ Z : ByteArray, Z = ⟨(Tr.rootT (Tr.brT x ++ [v])).toArray⟩ := ⟨_, rfl⟩
    rw [← hZ] at C0 ⊢
    obtain ⟨X, hX⟩ : ∃ X : ByteArray, X = ⟨x.toArray⟩ := ⟨_, rfl⟩
    obtain ⟨V, hV⟩ : ∃ V : ByteArray, V = ⟨v.toArray⟩ := ⟨_, rfl⟩
    rw [← hX, ← hV] at C0 ⊢
    clear hZ hX hV hx hk hd hv
    go_enter Try.func63, Try.ntmps63
    go_wp2_with fail
    refine C0.mono ?_
    rintro e w1 ⟨rfl, bel1⟩
    have GB := Lib.hid bel1
    clear bel1 C0
    go_wp2
    go_ret
    exact ⟨rfl, GB.out⟩
  | succ n =>
    obtain ⟨_, h2, h3, _, _, h7⟩ := Tr.pick_parts hx hk
    have C0 := branchWith_any x n w hx hk
    have C1 := fun w => IH (Tr.bAt x n) (Tr.pAt x n) v w h2 h3 (bAt_less hx hk hd) hv
    have HL := grf_len d (Tr.bAt x n) (Tr.pAt x n) v h2 h3 (bAt_less hx hk hd)
    have HZ : Hid (Tr.grfF (d + 1) x (n + 1) v = Tr.rootT (Tr.oAt x n ++ [Tr.grfF d (Tr.bAt x n) (Tr.pAt x n) v])) := rfl
    have HF : Hid ((Tr.oAt x n ++ [Tr.grfF d (Tr.bAt x n) (Tr.pAt x n) v]).flatten.length ≤ 1048574) := by rw [Hid, flat_snoc]; have := oAt_small hx hk; omega
    have HS := Lib.hid (strs_snoc (Tr.oAt x n) (Tr.grfF d (Tr.bAt x n) (Tr.pAt x n) v))
    rw [HZ.out]
    obtain ⟨V, hV⟩ : ∃ V : ByteArray, V = ⟨v.toArray⟩ := ⟨_, rfl⟩
    obtain ⟨X, hX⟩ : ∃ X : ByteArray, X = ⟨x.toArray⟩ := ⟨_, rfl⟩
    obtain ⟨Bb, hBb⟩ : ∃ Bb : ByteArray, Bb = ⟨(Tr.bAt x n).toArray⟩ := ⟨_, rfl⟩
    obtain ⟨Gg, hGg⟩ : ∃ Gg : ByteArray, Gg = ⟨(Tr.grfF d (Tr.bAt x n) (Tr.pAt x n) v).toArray⟩ := ⟨_, rfl⟩
    rw [← hX, ← hBb] at C0
    rw [← hX, ← hV]
    rw [← hGg] at HS
    simp only [← hV, ← hBb, ← hGg] at C1
    obtain ⟨p, hp⟩ : ∃ p, p = Tr.pAt x n := ⟨_, rfl⟩
    rw [← hp] at C0
    simp only [← hp] at C1
    have hk0 : ((n + 1 : Nat) : Int) ≠ 0 := by omega
    have tk : (((n + 1 : Nat) : Int) == 0) = false := beq_f hk0
    obtain ⟨kk, hkk⟩ : ∃ kk, kk = ((n + 1 : Nat) : Int) := ⟨_, rfl⟩
    rw [← hkk] at C0 tk ⊢
    clear hV hX hBb hGg hp HL HZ h2 h3 hkk hk0 hx hk hd hv IH
    go_enter Try.func63, Try.ntmps63
    go_wp2_with fail
    refine C0.mono ?_
    rintro e w1 ⟨g, c, q, rfl, hq, own1, bel1⟩
    have hq7 : q ≤ 7 := by omega
    have HO1 := Lib.hid own1
    have HB1 := Lib.hid bel1
    have hs1 := bel1.size
    clear own1 bel1 hq C0
    go_wp2_with fail
    refine (C1 _).mono ?_
    rintro e w2 ⟨rfl, bel2⟩
    have hs2 := bel2.size
    have HB2 := Lib.hid (HB1.out.trans (bel2.mono hs1))
    have own2 := ((OwnR.of HO1.out).below bel2 (Nat.le_refl _)).1
    have HO2 := Lib.hid own2
    have hs02 := HB2.out.size
    clear bel2 C1
    go_wp2_with (at_builtin; (refine wpList_append_lies _ rfl (.tmp 22) (.tmp 27) 79 rfl w.heap.size 59 i0 _ 1 16 Try.underlying79 hi hz0 hz1 hz2 rfl (by omega) (.slice (some ⟨g, 0, none⟩) q c) q (strs (Tr.oAt x n)) rfl (own2.alloc _) ⟨w2.heap.size, 0, none⟩ 1 1 [.string Gg] rfl rfl (World.news_of_block (cs := #[.string Gg]) (heap_alloc_new _ _)) (by simp [Value.oneCell']) (by omega) (by simp only [maxLen]; omega) (by omega) (by simp; omega) (w2.heap.size + 1) (by simp) ?_); intro g2 cap2 w3 hown3 hgrow3 hat3 hlt3)
    rw [HS.out] at hown3
    have HB3 : Hid (Below w.heap.size w w3) := (HB2.out.alloc (by omega) _).grown hgrow3 (by simp; omega) (fun z hz => (HO2.out.lt z hz).1)
    have HO3 := Lib.hid hown3
    clear hown3 hgrow3 hat3 own2
    go_wp2_with fail
    refine (rootOn_any _ w.heap.size _ _ _ _ (by omega) HF.out HB3.out.size HO3.out).mono ?_
    rintro e w4 ⟨rfl, bel4⟩
    have GB := Lib.hid (HB3.out.trans bel4)
    obtain ⟨Z, hZ⟩ : ∃ Z : ByteArray, Z = ⟨(Tr.wrap (Tr.sortS (Tr.oAt x n ++ [Tr.grfF d (Tr.bAt x n) (Tr.pAt x n) v]))).toArray⟩ := ⟨_, rfl⟩
    have HZ : Hid (Z = ⟨(Tr.rootT (Tr.oAt x n ++ [Tr.grfF d (Tr.bAt x n) (Tr.pAt x n) v])).toArray⟩) := hZ
    rw [← hZ]
    clear bel4 hZ
    go_wp2
    go_ret
    exact ⟨by rw [← HZ.out]; rfl, GB.out⟩
theorem grfAt_all : ∀ d, d ≤ 8 → GrfAt d
  | 0, _ => grfAt_zero
  | d+1, h => grfAt_succ d (by omega) (grfAt_all d (by omega))
theorem graftAt_any (x : List UInt8) (k : Nat) (v : List UInt8) (w : World) (hx : Tr.isTx x = true) (hk : k < x.length / 2) (hv : v.length ≤ 16) :
    Calls Try.prog 63 #[.string ⟨x.toArray⟩, .int .i64 k, .string ⟨v.toArray⟩] w fun e w' => e = .returned (.string ⟨(Tr.grfF 8 x k v).toArray⟩) ∧ Below w.heap.size w w' :=
  grfAt_all 8 (Nat.le_refl _) x k v w hx hk (by have := (Tr.br_parts hx).1.2; omega) hv
end Go.Proofs.Ytfehjjaebdgjlaa
/-
  The program's cutting of texts.
-/
namespace Go.Proofs.Ytfehjjaebdgjlaa
open Go.RowKit Fld
set_option linter.unusedVariables false
set_option linter.unusedSimpArgs false
set_option maxRecDepth 100000

theorem cut_len : ∀ (d : Nat) (x : List UInt8) (k : Nat), Tr.isTx x = true → k < x.length / 2 → x.length / 2 ≤ d → (Tr.cutF d x k).1.length ≤ 200 * d + 200
  | 0, x, k, h, hk, hd => by simp [Tr.cutF]
  | d+1, x, 0, h, hk, hd => by simp [Tr.cutF]
  | d+1, x, n+1, h, hk, hd => by
    rw [Tr.cutF]
    have := oAt_small h hk
    split
    · simp only
      rw [rootT_len]; omega
    · simp only
      rw [rootT_len, flat_snoc]
      obtain ⟨_, h2, h3, _⟩ := Tr.pick_parts h hk
      have h1 := cut_len d (Tr.bAt x n) (Tr.pAt x n) h2 h3 (bAt_less h hk hd)
      omega
def CutAt (d : Nat) : Prop := ∀ (x : List UInt8) (n : Nat) (w : World), Tr.isTx x = true → n + 1 < x.length / 2 → x.length / 2 ≤ d →
    Calls Try.prog 53 #[.string ⟨x.toArray⟩, .int .i64 ((n + 1 : Nat) : Int)] w fun e w' => e = .returned (.tuple #[.string ⟨(Tr.cutF d x (n + 1)).1.toArray⟩, .string ⟨(Tr.cutF d x (n + 1)).2.toArray⟩]) ∧ Below w.heap.size w w'
theorem cutAt_zero : CutAt 0 := fun x n w _ hk hd => by omega
set_option maxHeartbeats 1000000 in
theorem cutAt_succ (d : Nat) (hd8 : d ≤ 8) (IH : CutAt d) : CutAt (d + 1) := by
  intro x n w hx hk hd
  obtain ⟨i0, hi, hz0, hz1, hz2⟩ := info_parts info_tree
  obtain ⟨_, h2, h3, _, _, h7⟩ := Tr.pick_parts hx hk
  have C0 := branchWith_any x n w hx hk
  obtain ⟨X, hX⟩ : ∃ X : ByteArray, X = ⟨x.toArray⟩ := ⟨_, rfl⟩
  obtain ⟨Bb, hBb⟩ : ∃ Bb : ByteArray, Bb = ⟨(Tr.bAt x n).toArray⟩ := ⟨_, rfl⟩
  have HBb := Lib.hid hBb
  rw [← hX, ← hBb] at C0
  rw [← hX]
  obtain ⟨kk, hkk⟩ : ∃ kk, kk = ((n + 1 : Nat) : Int) := ⟨_, rfl⟩
  rw [← hkk] at C0 ⊢
  by_cases hp0 : Tr.pAt x n = 0
  · have HZ : Hid (Tr.cutF (d + 1) x (n + 1) = (Tr.rootT (Tr.oAt x n), Tr.bAt x n)) := by rw [Hid, Tr.cutF, if_pos hp0]
    have HF : Hid ((Tr.oAt x n).flatten.length ≤ 1048574) := by rw [Hid]; have := oAt_small hx hk; omega
    rw [hp0] at C0
    clear hX hBb hkk h2 h3 hx hk hd IH hp0
    go_enter Try.func53, Try.ntmps53
    go_wp2_with fail
    refine C0.mono ?_
    rintro e w1 ⟨g, c, q, rfl, hq, own1, bel1⟩
    have hq7 : q ≤ 7 := by omega
    have HO1 := Lib.hid own1
    have HB1 := Lib.hid bel1
    have hs1 := bel1.size
    clear own1 bel1 hq C0
    go_wp2_with fail
    refine (rootOn_any _ w.heap.size _ _ _ _ (by omega) HF.out hs1 HO1.out).mono ?_
    rintro e w4 ⟨rfl, bel4⟩
    have GB := Lib.hid (HB1.out.trans bel4)
    obtain ⟨Z, hZ⟩ : ∃ Z : ByteArray, Z = ⟨(Tr.wrap (Tr.sortS (Tr.oAt x n))).toArray⟩ := ⟨_, rfl⟩
    have HZZ : Hid (Z = ⟨(Tr.rootT (Tr.oAt x n)).toArray⟩) := hZ
    rw [← hZ]
    clear bel4 hZ
    go_wp2
    go_ret2
    exact ⟨by rw [HZ.out, HZZ.out, HBb.out]; rfl, GB.out⟩
  · obtain ⟨p, hp⟩ : ∃ p, Tr.pAt x n = p + 1 := ⟨Tr.pAt x n - 1, by omega⟩
    rw [hp] at C0 h3
    have C1 := fun w => IH (Tr.bAt x n) p w h2 h3 (bAt_less hx hk hd)
    have HL := cut_len d (Tr.bAt x n) (p + 1) h2 h3 (bAt_less hx hk hd)
    obtain ⟨R, hR⟩ : ∃ R, R = Tr.cutF d (Tr.bAt x n) (p + 1) := ⟨_, rfl⟩
    have HZ : Hid (Tr.cutF (d + 1) x (n + 1) = (Tr.rootT (Tr.oAt x n ++ [R.1]), R.2)) := by rw [Hid, Tr.cutF, if_neg hp0, hp, hR]
    simp only [← hR] at C1
    rw [← hR] at HL
    have HF : Hid ((Tr.oAt x n ++ [R.1]).flatten.length ≤ 1048574) := by rw [Hid, flat_snoc]; have := oAt_small hx hk; omega
    have HS := Lib.hid (strs_snoc (Tr.oAt x n) R.1)
    obtain ⟨G1, hG1⟩ : ∃ G1 : ByteArray, G1 = ⟨R.1.toArray⟩ := ⟨_, rfl⟩
    obtain ⟨G2, hG2⟩ : ∃ G2 : ByteArray, G2 = ⟨R.2.toArray⟩ := ⟨_, rfl⟩
    have HG2 := Lib.hid hG2
    rw [← hG1] at HS
    simp only [← hBb, ← hG1, ← hG2] at C1
    have hpe : ((p + 1 : Nat) : Int) ≠ 0 := by omega
    have tp := beq_f hpe
    obtain ⟨pp, hpp⟩ : ∃ pp, pp = ((p + 1 : Nat) : Int) := ⟨_, rfl⟩
    rw [← hpp] at C0 tp
    simp only [← hpp] at C1
    clear hX hBb hG1 hG2 hkk hpp hpe hp hR HL h2 h3 hx hk hd IH hp0
    go_enter Try.func53, Try.ntmps53
    go_wp2_with fail
    refine C0.mono ?_
    rintro e w1 ⟨g, c, q, rfl, hq, own1, bel1⟩
    have hq7 : q ≤ 7 := by omega
    have HO1 := Lib.hid own1
    have HB1 := Lib.hid bel1
    have hs1 := bel1.size
    clear own1 bel1 hq C0
    go_wp2_with fail
    refine (C1 _).mono ?_
    rintro e w2 ⟨rfl, bel2⟩
    have HB2 := Lib.hid (HB1.out.trans (bel2.mono hs1))
    have own2 := ((OwnR.of HO1.out).below bel2 (Nat.le_refl _)).1
    have HO2 := Lib.hid own2
    have hs02 := HB2.out.size
    clear bel2 C1
    go_wp2_with (at_builtin; (refine wpList_append_lies _ rfl (.tmp 29) (.tmp 31) 79 rfl w.heap.size 59 i0 _ 1 16 Try.underlying79 hi hz0 hz1 hz2 rfl (by omega) (.slice (some ⟨g, 0, none⟩) q c) q (strs (Tr.oAt x n)) rfl (own2.alloc _) ⟨w2.heap.size, 0, none⟩ 1 1 [.string G1] rfl rfl (World.news_of_block (cs := #[.string G1]) (heap_alloc_new _ _)) (by simp [Value.oneCell']) (by omega) (by simp only [maxLen]; omega) (by omega) (by simp; omega) (w2.heap.size + 1) (by simp) ?_); intro g2 cap2 w3 hown3 hgrow3 hat3 hlt3)
    rw [HS.out] at hown3
    have HB3 : Hid (Below w.heap.size w w3) := (HB2.out.alloc (by omega) _).grown hgrow3 (by simp; omega) (fun z hz => (HO2.out.lt z hz).1)
    have HO3 := Lib.hid hown3
    clear hown3 hgrow3 hat3 own2
    go_wp2_with fail
    refine (rootOn_any _ w.heap.size _ _ _ _ (by omega) HF.out HB3.out.size HO3.out).mono ?_
    rintro e w4 ⟨rfl, bel4⟩
    have GB := Lib.hid (HB3.out.trans bel4)
    obtain ⟨Z, hZ⟩ : ∃ Z : ByteArray, Z = ⟨(Tr.wrap (Tr.sortS (Tr.oAt x n ++ [R.1]))).toArray⟩ := ⟨_, rfl⟩
    have HZZ : Hid (Z = ⟨(Tr.rootT (Tr.oAt x n ++ [R.1])).toArray⟩) := hZ
    rw [← hZ]
    clear bel4 hZ
    go_wp2
    go_ret2
    exact ⟨by rw [HZ.out, HZZ.out, HG2.out]; rfl, GB.out⟩
theorem cutAt_all : ∀ d, d ≤ 8 → CutAt d
  | 0, _ => cutAt_zero
  | d+1, h => cutAt_succ d (by omega) (cutAt_all d (by omega))
theorem cutAbove_any (x : List UInt8) (n : Nat) (w : World) (hx : Tr.isTx x = true) (hk : n + 1 < x.length / 2) :
    Calls Try.prog 53 #[.string ⟨x.toArray⟩, .int .i64 ((n + 1 : Nat) : Int)] w fun e w' => e = .returned (.tuple #[.string ⟨(Tr.cutF 8 x (n + 1)).1.toArray⟩, .string ⟨(Tr.cutF 8 x (n + 1)).2.toArray⟩]) ∧ Below w.heap.size w w' :=
  cutAt_all 8 (Nat.le_refl _) x n w hx hk (by have := (Tr.br_parts hx).1.2; omega)
end Go.Proofs.Ytfehjjaebdgjlaa
/-
  Cutting, gone through.
-/
namespace Go.Proofs.Ytfehjjaebdgjlaa.Tr
set_option maxRecDepth 100000

/-! ## cutting -/
def chkJ (t : List Int) : Bool := !decide (can t = t) || (List.range t.length).all fun k => decide (k = 0) || (decide (txt (trunkL t k) = (cutF 8 (txt t) k).1) && decide (txt (branchL t k) = (cutF 8 (txt t) k).2) && isLv (trunkL t k) && isLv (branchL t k))
theorem chkJ_all : allLv.all chkJ = true := by decide +kernel
theorem cut_at {t : List Int} (ht : isLv t = true) (hc : can t = t) {k : Nat} (h1 : 1 ≤ k) (hk : k < t.length) : txt (trunkL t k) = (cutF 8 (txt t) k).1 ∧ txt (branchL t k) = (cutF 8 (txt t) k).2 ∧ isLv (trunkL t k) = true ∧ isLv (branchL t k) = true := by
  have h2 := all_of chkJ_all (isLv_iff.1 ht)
  unfold chkJ at h2
  rw [decide_eq_true hc] at h2
  simp only [Bool.not_true, Bool.false_or, List.all_eq_true] at h2
  have h3 := h2 k (by rw [List.mem_range]; exact hk)
  rw [decide_eq_false (show ¬ k = 0 by omega), Bool.false_or] at h3
  simp only [Bool.and_eq_true, decide_eq_true_eq] at h3
  exact ⟨h3.1.1.1, h3.1.1.2, h3.1.2, h3.2⟩
end Go.Proofs.Ytfehjjaebdgjlaa.Tr
/-
  Does a node exist?
-/
namespace Go.Proofs.Ytfehjjaebdgjlaa
open Go.RowKit Fld
set_option linter.unusedVariables false
set_option linter.unusedSimpArgs false
set_option maxRecDepth 100000

theorem hasNode_any' (A : Option Addr) (n c : Nat) (k : Int) (w : World) (hn : n ≤ 1048576) : Calls Try.prog 51 #[.slice A n c, .int .i64 k] w fun e w' => e = .returned (.bool (decide (0 ≤ k ∧ k < (n : Int)))) ∧ ∃ m, w' = w.drewN m := by
  by_cases h0 : 0 ≤ k
  · by_cases h1 : k < (n : Int)
    · have G : Hid (decide (0 ≤ k ∧ k < (n : Int)) = true) := decide_eq_true ⟨h0, h1⟩
      have d0 : decide (0 ≤ k) = true := decide_eq_true h0
      have d1 : decide (k < (n : Int)) = true := decide_eq_true h1
      go_enter Try.func51, Try.ntmps51
      go_wp2
      go_ret
      exact ⟨by first | rfl | exact ret_bool G.out.symm, 0, rfl⟩
    · have G : Hid (decide (0 ≤ k ∧ k < (n : Int)) = false) := decide_eq_false (fun h => h1 h.2)
      have d0 : decide (0 ≤ k) = true := decide_eq_true h0
      have d1 : decide (k < (n : Int)) = false := decide_eq_false h1
      go_enter Try.func51, Try.ntmps51
      go_wp2
      go_ret
      exact ⟨by first | rfl | exact ret_bool G.out.symm, 0, rfl⟩
  · have G : Hid (decide (0 ≤ k ∧ k < (n : Int)) = false) := decide_eq_false (fun h => h0 h.1)
    have d0 : decide (0 ≤ k) = false := decide_eq_false h0
    go_enter Try.func51, Try.ntmps51
    go_wp2
    go_ret
    exact ⟨by first | rfl | exact ret_bool G.out.symm, 0, rfl⟩
end Go.Proofs.Ytfehjjaebdgjlaa
/-
  A list in memory that is known by its cells alone.
-/
namespace Go.Proofs.Ytfehjjaebdgjlaa
open Go.RowKit Fld
set_option linter.unusedVariables false

/-- a list in memory below a bound: the model's -/
def LowRow (w : World) (hi : Nat) (A : Option Addr) (xs : List Int) : Prop := Row w hi A (ints xs)
theorem LowRow.below {w w' : World} {hi B : Nat} {A : Option Addr} {xs : List Int} (h : LowRow w hi A xs) (hb : Below B w w') (hB : hi ≤ B) : LowRow w' hi A xs := Row.below h hb hB
theorem LowRow.within {w w' : World} {hi lo' hi' : Nat} {A : Option Addr} {xs : List Int} (h : LowRow w hi A xs) (hb : Within lo' hi' w w') (hs : hi ≤ w.heap.size) (hd : hi ≤ lo') : LowRow w' hi A xs :=
  Row.keep h fun b o hbb => World.cell?_of_block (hb.block b (by omega) (by omega))
theorem LowRow.row {w : World} {hi : Nat} {A : Option Addr} {xs : List Int} (h : LowRow w hi A xs) : Row w hi A (ints xs) := h
theorem LowRow.drewN {w : World} {hi : Nat} {A : Option Addr} {xs : List Int} (h : LowRow w hi A xs) (k : Nat) : LowRow (w.drewN k) hi A xs := h
/-- a list beside a code, known by its cells -/
def ResLow (r : List Int × Int) (w : World) (e : Ending) (w' : World) : Prop :=
  r.1.length ≤ 1048576 ∧ ∃ A c, e = .returned (.tuple #[.slice A r.1.length c, .int .i64 r.2]) ∧ LowRow w' w'.heap.size A r.1 ∧ Below w.heap.size w w'
theorem ResLow.nil {r : List Int × Int} {w w' : World} {k : Int} (h : r = ([], k)) (hb : Below w.heap.size w w') : ResLow r w (.returned (.tuple #[.slice none 0 0, .int .i64 k])) w' := by
  subst h
  exact ⟨Nat.zero_le _, none, 0, rfl, Row.nil _ _ _, hb⟩
theorem ResLow.of {r : List Int × Int} {w w' : World} {A : Option Addr} {n c : Nat} {xs : List Int} {k : Int} (h : r = (xs, k)) (hl : xs.length = n) (hn : n ≤ 1048576)
    (ho : Row w' w'.heap.size A (ints xs)) (hb : Below w.heap.size w w') : ResLow r w (.returned (.tuple #[.slice A n c, .int .i64 k])) w' := by
  subst h; subst hl
  exact ⟨hn, A, c, rfl, ho, hb⟩
end Go.Proofs.Ytfehjjaebdgjlaa
/-
  What CutAbove answers, the program's and the model's.
-/
namespace Go.Proofs.Ytfehjjaebdgjlaa
open Go.RowKit Fld
set_option linter.unusedVariables false
set_option linter.unusedSimpArgs false
set_option maxRecDepth 100000

def cutA (t : List Int) (k : Int) : List Int × List Int × Int :=
  if Tr.isLv t = true then (if 1 ≤ k ∧ k < (t.length : Int) then (Tr.can (Tr.trunkL (Tr.can t) k.toNat), Tr.can (Tr.branchL (Tr.can t) k.toNat), 0) else ([], [], 2)) else ([], [], 1)
theorem cutA_no {t : List Int} {k : Int} (h : Tr.isLv t = false) : cutA t k = ([], [], 1) := if_neg (by rw [h]; simp)
theorem cutA_out {t : List Int} {k : Int} (h : Tr.isLv t = true) (hk : ¬ (1 ≤ k ∧ k < (t.length : Int))) : cutA t k = ([], [], 2) := by unfold cutA; rw [if_pos h, if_neg hk]
theorem cutA_yes {t : List Int} {k : Nat} (h : Tr.isLv t = true) (h1 : 1 ≤ k) (hk : k < t.length) : cutA t (k : Int) = (Tr.can (Tr.trunkL (Tr.can t) k), Tr.can (Tr.branchL (Tr.can t) k), 0) := by
  unfold cutA; rw [if_pos h, if_pos (by omega)]; rfl
/-- two lists of the call's own beside a code -/
def ResP (r : List Int × List Int × Int) (w : World) (e : Ending) (w' : World) : Prop :=
  r.1.length ≤ 1048576 ∧ r.2.1.length ≤ 1048576 ∧ ∃ A c A' c' mid, e = .returned (.tuple #[.slice A r.1.length c, .slice A' r.2.1.length c', .int .i64 r.2.2]) ∧ w.heap.size ≤ mid ∧ mid ≤ w'.heap.size ∧ OwnR w' w.heap.size mid 2 (.slice A r.1.length c) r.1.length (ints r.1) ∧ OwnR w' mid w'.heap.size 2 (.slice A' r.2.1.length c') r.2.1.length (ints r.2.1) ∧ Below w.heap.size w w'
theorem ResP.nil {r : List Int × List Int × Int} {w w' : World} {k : Int} (h : r = ([], [], k)) (hb : Below w.heap.size w w') : ResP r w (.returned (.tuple #[.slice none 0 0, .slice none 0 0, .int .i64 k])) w' := by
  subst h
  exact ⟨by simp, by simp, none, 0, none, 0, w.heap.size, rfl, Nat.le_refl _, hb.size, ⟨World.ownsRow_nil _ _ _ _, fun g e => by simp [Value.ownBlock] at e⟩, ⟨World.ownsRow_nil _ _ _ _, fun g e => by simp [Value.ownBlock] at e⟩, hb⟩
theorem ResP.of {r : List Int × List Int × Int} {w w' : World} {A A' : Option Addr} {n n' c c' mid : Nat} {xs ys : List Int} {k : Int} (h : r = (xs, ys, k)) (hl : xs.length = n) (hl' : ys.length = n') (hn : n ≤ 1048576) (hn' : n' ≤ 1048576) (h1 : w.heap.size ≤ mid) (h2 : mid ≤ w'.heap.size)
    (ho : OwnR w' w.heap.size mid 2 (.slice A n c) n (ints xs)) (ho' : OwnR w' mid w'.heap.size 2 (.slice A' n' c') n' (ints ys)) (hb : Below w.heap.size w w') : ResP r w (.returned (.tuple #[.slice A n c, .slice A' n' c', .int .i64 k])) w' := by
  subst h hl hl'
  exact ⟨hn, hn', A, c, A', c', mid, rfl, h1, h2, ho, ho', hb⟩
def ResPl (r : List Int × List Int × Int) (w : World) (e : Ending) (w' : World) : Prop :=
  r.1.length ≤ 1048576 ∧ r.2.1.length ≤ 1048576 ∧ ∃ A c A' c', e = .returned (.tuple #[.slice A r.1.length c, .slice A' r.2.1.length c', .int .i64 r.2.2]) ∧ LowRow w' w'.heap.size A r.1 ∧ LowRow w' w'.heap.size A' r.2.1 ∧ Below w.heap.size w w'
theorem ResPl.nil {r : List Int × List Int × Int} {w w' : World} {k : Int} (h : r = ([], [], k)) (hb : Below w.heap.size w w') : ResPl r w (.returned (.tuple #[.slice none 0 0, .slice none 0 0, .int .i64 k])) w' := by
  subst h
  exact ⟨by simp, by simp, none, 0, none, 0, rfl, Row.nil _ _ _, Row.nil _ _ _, hb⟩
theorem ResPl.of {r : List Int × List Int × Int} {w w' : World} {A A' : Option Addr} {n n' c c' : Nat} {xs ys : List Int} {k : Int} (h : r = (xs, ys, k)) (hl : xs.length = n) (hl' : ys.length = n') (hn : n ≤ 1048576) (hn' : n' ≤ 1048576)
    (ho : Row w' w'.heap.size A (ints xs)) (ho' : Row w' w'.heap.size A' (ints ys)) (hb : Below w.heap.size w w') : ResPl r w (.returned (.tuple #[.slice A n c, .slice A' n' c', .int .i64 k])) w' := by
  subst h hl hl'
  exact ⟨hn, hn', A, c, A', c', rfl, ho, ho', hb⟩
theorem cut_parts {t : List Int} {k : Nat} (h : Tr.isLv t = true) (h1 : 1 ≤ k) (hk : k < t.length) :
    Tr.txt (Tr.trunkL (Tr.can t) k) = (Tr.cutF 8 (Tr.txt t) k).1 ∧ Tr.txt (Tr.branchL (Tr.can t) k) = (Tr.cutF 8 (Tr.txt t) k).2 ∧ Tr.isLv (Tr.trunkL (Tr.can t) k) = true ∧ Tr.isLv (Tr.branchL (Tr.can t) k) = true := by
  obtain ⟨c1, c2⟩ := lv_can h
  obtain ⟨c3, c4⟩ := Tr.can_can h
  have := Tr.cut_at c1 c3 h1 (by omega)
  rw [c4] at this
  exact this
set_option maxHeartbeats 2000000 in
theorem pCutAbove_L (A : Option Addr) (n c B : Nat) (t : List Int) (k : Int) (w : World) (hl : t.length = n) (hn : n ≤ 1048576) (hB : B ≤ w.heap.size) (h : Row w B A (ints t)) (hk64 : -9223372036854775808 ≤ k ∧ k ≤ 9223372036854775807) (hc : n ≤ c) :
    Calls Try.prog 14 #[.slice A n c, .int .i64 k] w (ResP (cutA t k) w) := by
  have C0 := isLevels_any A n c B t w hl (by omega) h
  cases h1 : Tr.isLv t
  · have G := Lib.hid (cutA_no (k := k) h1)
    rw [h1] at C0
    clear hl h1
    go_enter Try.func14, Try.ntmps14
    go_wp2_with fail
    refine C0.mono ?_
    rintro e w1 ⟨rfl, d, rfl⟩
    go_wp2
    go_ret3
    exact ResP.nil G.out (below_drewN (Below.refl _ _) _)
  · rw [h1] at C0
    obtain ⟨a1, a8⟩ := lv_bd h1
    rw [hl] at a1 a8
    have z1 := (lv_txt h1).2.2.2
    have C1 := fun w => hasNode_any' A n c k w hn
    by_cases hk : 1 ≤ k ∧ k < (n : Int)
    · obtain ⟨kn, rfl⟩ : ∃ kn : Nat, k = ((kn + 1 : Nat) : Int) := ⟨(k - 1).toNat, by omega⟩
      have G := Lib.hid (cutA_yes h1 (k := kn + 1) (by omega) (by omega))
      obtain ⟨p1, p2, p3, p4⟩ := cut_parts h1 (k := kn + 1) (by omega) (by omega)
      rw [decide_eq_true (show 0 ≤ ((kn + 1 : Nat) : Int) ∧ ((kn + 1 : Nat) : Int) < (n : Int) by omega)] at C1
      have C2 := fun w => cutAbove_any (Tr.txt t) kn w (Tr.tx_txt h1) (by omega)
      have hcl := (lv_can h1).2
      rw [hl] at hcl
      have HTL := Lib.hid (trunk_length (t := Tr.can t) (k := kn + 1) (by omega))
      have HRL := Lib.hid (branch_length (t := Tr.can t) (k := kn + 1) (by omega))
      have HEL := Lib.hid (Tr.endL_le (t := Tr.can t) (k := kn + 1) (by omega))
      have HCN := Lib.hid hcl
      have H3 := Lib.hid p3
      have H4 := Lib.hid p4
      have HC3 := Lib.hid (lv_can p3).2
      have HC4 := Lib.hid (lv_can p4).2
      rw [← p1, ← p2] at C2
      obtain ⟨T, hT⟩ : ∃ T, T = Tr.trunkL (Tr.can t) (kn + 1) := ⟨_, rfl⟩
      obtain ⟨R, hR⟩ : ∃ R, R = Tr.branchL (Tr.can t) (kn + 1) := ⟨_, rfl⟩
      rw [← hT] at G HTL H3 HC3
      rw [← hR] at G HRL H4 HC4
      simp only [← hT, ← hR] at C2
      have hTn : T.length ≤ 8 := by have := HTL.out; have := HCN.out; omega
      have hRn : R.length ≤ 8 := by have := HRL.out; have := HEL.out; have := HCN.out; omega
      obtain ⟨tn, htn⟩ : ∃ tn, tn = T.length := ⟨_, rfl⟩
      obtain ⟨rn, hrn⟩ : ∃ rn, rn = R.length := ⟨_, rfl⟩
      rw [← htn] at hTn HC3
      rw [← hrn] at hRn HC4
      have HTN := Lib.hid htn
      have HRN := Lib.hid hrn
      have HL := Lib.hid hl
      obtain ⟨hk1, hk2⟩ := hk
      have tk0 := beq_f (show ¬ ((kn + 1 : Nat) : Int) = 0 by omega)
      obtain ⟨kk, hkk⟩ : ∃ kk, kk = ((kn + 1 : Nat) : Int) := ⟨_, rfl⟩
      rw [← hkk] at hk1 hk2 tk0 hk64
      simp only [← hkk] at C1 C2
      rw [← hkk] at G
      rw [← hkk]
      clear hl h1 z1 p1 p2 p3 p4 hcl hT hR htn hrn hkk
      go_enter Try.func14, Try.ntmps14
      go_wp2_with fail
      refine C0.mono ?_
      rintro e w1 ⟨rfl, d, rfl⟩
      go_wp2_with fail
      refine (C1 _).mono ?_
      rintro e w1 ⟨rfl, d1, rfl⟩
      have B1 : Hid (Below w.heap.size w ((w.drewN d).drewN d1)) := below_drewN (below_drewN (Below.refl _ _) d) d1
      generalize (w.drewN d).drewN d1 = W1 at *
      go_wp2_with fail
      refine (treeOf_any A n c B t _ HL.out a1 a8 hc (Nat.le_trans hB B1.out.size) (Row.below h B1.out hB)).mono ?_
      rintro e w2 ⟨rfl, bel2⟩
      have B2 : Hid (Below w.heap.size w w2) := B1.out.trans (bel2.mono B1.out.size)
      clear bel2
      go_wp2_with fail
      refine (C2 _).mono ?_
      rintro e w3 ⟨rfl, bel3⟩
      have B3 : Hid (Below w.heap.size w w3) := B2.out.trans (bel3.mono B2.out.size)
      clear bel3 C2
      go_wp2_with fail
      refine (levelsOf_any T _ H3.out).mono ?_
      rintro e w4 ⟨A4, c4, rfl, own4, bel4⟩
      rw [← HTN.out] at own4 ⊢
      have B4 : Hid (Below w.heap.size w w4) := B3.out.trans (bel4.mono B3.out.size)
      have HO4 : Hid (OwnR w4 w.heap.size w4.heap.size 2 (.slice A4 tn c4) tn (ints (Tr.can T))) := (OwnR.of own4).more B3.out.size (Nat.le_refl _)
      clear own4 bel4
      go_wp2_with fail
      refine (levelsOf_any R _ H4.out).mono ?_
      rintro e w5 ⟨A5, c5, rfl, own5, bel5⟩
      rw [← HRN.out] at own5 ⊢
      have hs5 := bel5.size
      have B5 : Hid (Below w.heap.size w w5) := B4.out.trans (bel5.mono B4.out.size)
      have HO4' := Lib.hid (HO4.out.below bel5 (Nat.le_refl _))
      have HO5 : Hid (OwnR w5 w4.heap.size w5.heap.size 2 (.slice A5 rn c5) rn (ints (Tr.can R))) := OwnR.of own5
      have hs4 := B4.out.size
      clear own5 bel5
      go_wp2
      go_ret3
      exact ResP.of G.out HC3.out HC4.out (by omega) (by omega) hs4 hs5 HO4'.out HO5.out B5.out
    · have G := Lib.hid (cutA_out (k := k) h1 (by rw [hl]; exact hk))
      by_cases hk0 : 0 ≤ k ∧ k < (n : Int)
      · have e0 : k = 0 := by omega
        subst e0
        rw [decide_eq_true hk0] at C1
        clear hl h1 z1 hk
        go_enter Try.func14, Try.ntmps14
        go_wp2_with fail
        refine C0.mono ?_
        rintro e w1 ⟨rfl, d, rfl⟩
        go_wp2_with fail
        refine (C1 _).mono ?_
        rintro e w1 ⟨rfl, d1, rfl⟩
        go_wp2
        go_ret3
        exact ResP.nil G.out (below_drewN (Below.refl _ _) _)
      · rw [decide_eq_false hk0] at C1
        clear hl h1 z1 hk hk0
        go_enter Try.func14, Try.ntmps14
        go_wp2_with fail
        refine C0.mono ?_
        rintro e w1 ⟨rfl, d, rfl⟩
        go_wp2_with fail
        refine (C1 _).mono ?_
        rintro e w1 ⟨rfl, d1, rfl⟩
        go_wp2
        go_ret3
        exact ResP.nil G.out (below_drewN (Below.refl _ _) _)
set_option maxHeartbeats 2000000 in
theorem sCutAbove_L (A : Option Addr) (n c B : Nat) (t : List Int) (k : Int) (w : World) (hl : t.length = n) (hn : n ≤ 1048576) (hB : B ≤ w.heap.size) (h : Row w B A (ints t)) (hk64 : -9223372036854775808 ≤ k ∧ k ≤ 9223372036854775807) :
    Calls Try.prog 15 #[.slice A n c, .int .i64 k] w (ResPl (cutA t k) w) := by
  have C0 := l03Is_any A n c B t w hl hn h
  cases h1 : Tr.isLv t
  · have G := Lib.hid (cutA_no (k := k) h1)
    rw [h1] at C0
    clear hl h1
    go_enter Try.func15, Try.ntmps15
    go_wp2_with fail
    refine C0.mono ?_
    rintro e w1 ⟨rfl, d, rfl⟩
    go_wp2
    go_ret3
    exact ResPl.nil G.out (below_drewN (Below.refl _ _) _)
  · rw [h1] at C0
    obtain ⟨a1, a8⟩ := lv_bd h1
    rw [hl] at a1 a8
    have C2 := fun w => l01In_any k 1 ((n : Int) - 1) w
    by_cases hk : 1 ≤ k ∧ k < (n : Int)
    · have T0 := isIn_yes (n := k) (l := 1) (h := (n : Int) - 1) (by omega) (by omega)
      obtain ⟨kn, rfl⟩ : ∃ kn : Nat, k = (kn : Int) := ⟨k.toNat, by omega⟩
      have G := Lib.hid (cutA_yes h1 (k := kn) (by omega) (by omega))
      obtain ⟨p1, p2, p3, p4⟩ := cut_parts h1 (k := kn) (by omega) (by omega)
      have hcl := (lv_can h1).2
      rw [hl] at hcl
      have HCN := Lib.hid hcl
      have H1 := Lib.hid h1
      have H3 := Lib.hid p3
      have H4 := Lib.hid p4
      have HC3 := Lib.hid (lv_can p3).2
      have HC4 := Lib.hid (lv_can p4).2
      have HTL := Lib.hid (trunk_length (t := Tr.can t) (k := kn) (by omega))
      have HRL := Lib.hid (branch_length (t := Tr.can t) (k := kn) (by omega))
      have HEL := Lib.hid (Tr.endL_le (t := Tr.can t) (k := kn) (by omega))
      have HL := Lib.hid hl
      obtain ⟨hk1, hk2⟩ := hk
      have hk1' : 1 ≤ kn := by omega
      have hk2' : kn < n := by omega
      clear hl h1 p1 p2 p3 p4 hcl
      go_enter Try.func15, Try.ntmps15
      go_wp2_with fail
      refine C0.mono ?_
      rintro e w1 ⟨rfl, d, rfl⟩
      go_wp2_with fail
      refine (C2 _).mono ?_
      rintro e w1 ⟨rfl, rfl⟩
      rw [T0]
      have B1 : Hid (Below w.heap.size w (w.drewN d)) := below_drewN (Below.refl _ _) d
      generalize w.drewN d = W1 at *
      go_wp2_with fail
      refine (l03Canon_any A n c B t _ HL.out H1.out (Nat.le_trans hB B1.out.size) (Row.below h B1.out hB)).mono ?_
      rintro e w2 ⟨A2, c2, rfl, own2, bel2⟩
      have B2 : Hid (Below w.heap.size w w2) := B1.out.trans (bel2.mono B1.out.size)
      have R2 : Hid (Row w2 w2.heap.size A2 (ints (Tr.can t))) := row_of_own own2
      have hc2 := (own_cap own2).1
      clear own2 bel2
      go_wp2_with fail
      refine (l04Cut_any A2 n c2 w2.heap.size kn (Tr.can t) w2 HCN.out a8 hk1' hk2' hc2 (lv_can H1.out).1 H3.out H4.out (Nat.le_refl _) R2.out).mono ?_
      rintro e w3 ⟨A3, c3, A4, c4, rfl, o3, o4, bel3⟩
      have GB : Hid (Below w.heap.size w w3) := B2.out.trans (bel3.mono B2.out.size)
      have G3 := Lib.hid o3
      have G4 := Lib.hid o4
      have HT8 : (Tr.can (Tr.trunkL (Tr.can t) kn)).length ≤ 8 := by have := HC3.out; have := HTL.out; have := HCN.out; omega
      have HR8 : (Tr.can (Tr.branchL (Tr.can t) kn)).length ≤ 8 := by have := HC4.out; have := HRL.out; have := HEL.out; have := HCN.out; omega
      clear o3 o4 bel3
      go_wp2
      go_ret3
      exact ResPl.of G.out rfl rfl (by omega) (by omega) G3.out G4.out GB.out
    · have T0 := isIn_no (n := k) (l := 1) (h := (n : Int) - 1) (by omega)
      have G := Lib.hid (cutA_out (k := k) h1 (by rw [hl]; exact hk))
      clear hl h1 hk
      go_enter Try.func15, Try.ntmps15
      go_wp2_with fail
      refine C0.mono ?_
      rintro e w1 ⟨rfl, d, rfl⟩
      go_wp2_with fail
      refine (C2 _).mono ?_
      rintro e w1 ⟨rfl, rfl⟩
      rw [T0]
      go_wp2
      go_ret3
      exact ResPl.nil G.out (below_drewN (Below.refl _ _) _)
end Go.Proofs.Ytfehjjaebdgjlaa
/-
  Are all lists level lists?
-/
namespace Go.Proofs.Ytfehjjaebdgjlaa
open Go.RowKit Fld
set_option linter.unusedVariables false
set_option linter.unusedSimpArgs false
set_option maxRecDepth 100000

/-- lists that stand side by side in memory -/
def Lsts (w : World) (B : Nat) (A : Option Addr) (m : List (List Int)) : Prop :=
  ∀ (k : Nat) (r : List Int), m[k]? = some r → ∃ b o Ak ck, A = some ⟨b, o, none⟩ ∧ w.cell? ⟨b, o + k, none⟩ = some (.slice Ak r.length ck) ∧ Row w B Ak (ints r)
theorem Lsts.drewN {w : World} {B : Nat} {A : Option Addr} {m : List (List Int)} (h : Lsts w B A m) (d : Nat) : Lsts (w.drewN d) B A m := h
theorem Lsts.of_mat {w : World} {B : Nat} {A : Option Addr} {m : List (List Int)} (h : Mat w B A m) : Lsts w B A m := fun k r hr => by
  obtain ⟨b, o, Ak, ck, e, _, hc, _, _, hrow⟩ := h k r hr
  exact ⟨b, o, Ak, ck, e, hc, hrow⟩
def allLvM (m : List (List Int)) : Bool := m.all Tr.isLv
theorem allLvM_take {m : List (List Int)} {k : Nat} {r : List Int} (h : allLvM (m.take k) = true) (hr : m[k]? = some r) (hl : Tr.isLv r = true) : allLvM (m.take (k + 1)) = true := by
  unfold allLvM at *
  rw [List.take_add_one, hr, Option.toList_some, List.all_append, h]; simp [hl]
theorem allLvM_no {m : List (List Int)} {k : Nat} {r : List Int} (hr : m[k]? = some r) (hl : Tr.isLv r = false) : allLvM m = false := by
  unfold allLvM
  rw [List.all_eq_false]
  exact ⟨r, List.mem_of_getElem? hr, by rw [hl]; simp⟩
set_option maxHeartbeats 400000 in
theorem areLevels_any (A : Option Addr) (n c B : Nat) (m : List (List Int)) (w : World) (hl : m.length = n) (hn : n ≤ 1048576) (hr : ∀ r ∈ m, r.length ≤ 1048576) (h : Lsts w B A m) :
    Calls Try.prog 59 #[.slice A n c] w fun e w' => e = .returned (.bool (allLvM m)) ∧ ∃ d, w' = w.drewN d := by
  have HL := Lib.hid hl
  have HR := Lib.hid hr
  clear hl hr
  go_enter Try.func59, Try.ntmps59
  go_wp2_with fail
  go_loopw [7] (fun i wr => ∃ k d : Nat, k ≤ n ∧ i = .int .i64 k ∧ wr = w.drewN d ∧ Hid (allLvM (m.take k) = true)) (fun i _ => n - (intOf i).toNat)
  case atStart => exact ⟨0, 0, Nat.zero_le _, rfl, rfl, rfl⟩
  case round =>
    obtain ⟨k, d, hk, rfl, rfl, HT⟩ := hrel
    by_cases hlt : k < n
    · obtain ⟨r, hr⟩ := at_lt (show k < m.length by rw [HL.out]; exact hlt)
      obtain ⟨b, o, Ak, ck, rfl, hc, hrow⟩ := (h.drewN d) k r hr
      have C1 := isLevels_any Ak r.length ck B r (w.drewN d) rfl (by have := HR.out r (List.mem_of_getElem? hr); omega) hrow
      cases hlv : Tr.isLv r
      · have G := Lib.hid (allLvM_no hr hlv)
        rw [hlv] at C1
        clear hr hrow HT
        go_wp2_with fail
        refine C1.mono ?_
        rintro e w' ⟨rfl, d2, rfl⟩
        go_wp2
        go_ret
        exact ⟨ret_bool G.out.symm, _, rfl⟩
      · have G := Lib.hid (allLvM_take HT.out hr hlv)
        rw [hlv] at C1
        clear hr hrow HT
        go_wp2_with fail
        refine C1.mono ?_
        rintro e w' ⟨rfl, d2, rfl⟩
        go_wp2
        go_roundw
        case rel => exact ⟨k + 1, _, by omega, by go_num, rfl, G⟩
        case measure => simp [intOf]; omega
    · obtain rfl : k = n := by omega
      have G : Hid (allLvM m = true) := by
        have := HT.out
        rw [List.take_of_length_le (by rw [HL.out]; exact Nat.le_refl _)] at this
        exact this
      clear HT
      go_wp2
      go_ret
      exact ⟨ret_bool G.out.symm, _, rfl⟩
end Go.Proofs.Ytfehjjaebdgjlaa
/-
  What CountCutsTo answers, the program's and the model's.
-/
namespace Go.Proofs.Ytfehjjaebdgjlaa
open Go.RowKit Fld
set_option linter.unusedVariables false
set_option linter.unusedSimpArgs false
set_option maxRecDepth 100000

theorem ResI.ofc {r : Int × Int} {w w' : World} {x k : Int} (h : r = (x, k)) (hb : Below w.heap.size w w') : ResI r w (.returned (.tuple #[.int .i64 x, .int .i64 k])) w' := by
  subst h; exact ⟨rfl, hb⟩
def cntA (t u v : List Int) : Int × Int := if Tr.isLv t = true ∧ Tr.isLv u = true ∧ Tr.isLv v = true then (((Tr.cntT (Tr.txt t) (Tr.txt u) (Tr.txt v) (t.length - 1) : Nat) : Int), 0) else (0, 1)
theorem cntA_no {t u v : List Int} (h : ¬ (Tr.isLv t = true ∧ Tr.isLv u = true ∧ Tr.isLv v = true)) : cntA t u v = (0, 1) := if_neg h
theorem cntA_yes {t u v : List Int} (h1 : Tr.isLv t = true) (h2 : Tr.isLv u = true) (h3 : Tr.isLv v = true) : cntA t u v = (((Tr.cntT (Tr.txt t) (Tr.txt u) (Tr.txt v) (t.length - 1) : Nat) : Int), 0) := if_pos ⟨h1, h2, h3⟩
theorem three_lists {A A' A'' : Option Addr} {n n' n'' c c' c'' B B' B'' : Nat} {s t u : List Int} {w : World} (hl : s.length = n) (hl' : t.length = n') (hl'' : u.length = n'') (hB : B ≤ w.heap.size) (hB' : B' ≤ w.heap.size) (hB'' : B'' ≤ w.heap.size) (h : Row w B A (ints s)) (h' : Row w B' A' (ints t)) (h'' : Row w B'' A'' (ints u)) :
    Lsts (w.alloc (.cells #[.slice A n c, .slice A' n' c', .slice A'' n'' c''] 24)) w.heap.size (some ⟨w.heap.size, 0, none⟩) [s, t, u] := fun k r hr => by
  have hal : Below w.heap.size w (w.alloc (.cells #[.slice A n c, .slice A' n' c', .slice A'' n'' c''] 24)) := (Below.refl _ _).alloc (Nat.le_refl _) _
  match k, hr with
  | 0, hr =>
    simp only [List.getElem?_cons_zero, Option.some.injEq] at hr
    subst hr
    exact ⟨_, _, A, c, rfl, by rw [hl, World.cell?_alloc_at (hn := by simp)]; rfl, (Row.below h hal hB).more hB⟩
  | 1, hr =>
    simp only [List.getElem?_cons_succ, List.getElem?_cons_zero, Option.some.injEq] at hr
    subst hr
    exact ⟨_, _, A', c', rfl, by rw [hl', World.cell?_alloc_at (hn := by simp)]; rfl, (Row.below h' hal hB').more hB'⟩
  | 2, hr =>
    simp only [List.getElem?_cons_succ, List.getElem?_cons_zero, Option.some.injEq] at hr
    subst hr
    exact ⟨_, _, A'', c'', rfl, by rw [hl'', World.cell?_alloc_at (hn := by simp)]; rfl, (Row.below h'' hal hB'').more hB''⟩
  | k+3, hr => simp at hr
theorem allLvM_mem' {m : List (List Int)} (h : allLvM m = true) : ∀ r ∈ m, Tr.isLv r = true := by
  unfold allLvM at h
  rw [List.all_eq_true] at h
  exact h
theorem str_eq (a b : List UInt8) : ((⟨a.toArray⟩ : ByteArray).toList == (⟨b.toArray⟩ : ByteArray).toList) = decide (a = b) := by
  rw [ByteArray.toList_eq, ByteArray.toList_eq]
  by_cases h : a = b
  · subst h; simp
  · rw [decide_eq_false h]; exact beq_eq_false_iff_ne.2 h
set_option maxHeartbeats 2000000 in
theorem pCountCutsTo_L (A A' A'' : Option Addr) (n n' n'' c c' c'' B B' B'' : Nat) (s t u : List Int) (w : World) (hl : s.length = n) (hl' : t.length = n') (hl'' : u.length = n'') (hn : n ≤ 1048576) (hn' : n' ≤ 1048576) (hn'' : n'' ≤ 1048576) (hB : B ≤ w.heap.size) (hB' : B' ≤ w.heap.size) (hB'' : B'' ≤ w.heap.size)
    (h : Row w B A (ints s)) (h' : Row w B' A' (ints t)) (h'' : Row w B'' A'' (ints u)) (hc : n ≤ c) (hc' : n' ≤ c') (hc'' : n'' ≤ c'') :
    Calls Try.prog 18 #[.slice A n c, .slice A' n' c', .slice A'' n'' c''] w (ResI (cntA s t u) w) := by
  have hal : Below w.heap.size w (w.alloc (.cells #[.slice A n c, .slice A' n' c', .slice A'' n'' c''] 24)) := (Below.refl _ _).alloc (Nat.le_refl _) _
  have C0 := areLevels_any (some ⟨w.heap.size, 0, none⟩) 3 3 w.heap.size [s, t, u] _ rfl (by omega) (fun r hr => by
    simp only [List.mem_cons, List.not_mem_nil, or_false] at hr
    rcases hr with rfl | rfl | rfl <;> omega) (three_lists (c := c) (c' := c') (c'' := c'') hl hl' hl'' hB hB' hB'' h h' h'')
  by_cases hlv : Tr.isLv s = true ∧ Tr.isLv t = true ∧ Tr.isLv u = true
  · obtain ⟨h1, h2, h3⟩ := hlv
    have hb : allLvM [s, t, u] = true := by simp [allLvM, h1, h2, h3]
    rw [hb] at C0
    have G := Lib.hid (cntA_yes h1 h2 h3)
    obtain ⟨a1, a8⟩ := lv_bd h1
    obtain ⟨b1, b8⟩ := lv_bd h2
    obtain ⟨d1, d8⟩ := lv_bd h3
    have z1 := (lv_txt h1).2.2.2
    have z2 := (lv_txt h2).2.2.2
    have z3 := (lv_txt h3).2.2.2
    rw [hl] at a1 a8 z1 G
    rw [hl'] at b1 b8 z2
    rw [hl''] at d1 d8 z3
    have HL := Lib.hid hl
    have HL' := Lib.hid hl'
    have HL'' := Lib.hid hl''
    have CC := fun k (hk : k + 1 < n) w => cutAbove_any (Tr.txt s) k w (Tr.tx_txt h1) (by omega)
    have CN := fun w => nodes_any (Tr.txt s) w (by omega)
    rw [show (Tr.txt s).length / 2 = n from by omega] at CN
    have HCL := Lib.hid (Tr.cntT_le (Tr.txt s) (Tr.txt t) (Tr.txt u))
    clear hl hl' hl'' hb z1 z2 z3 h1 h2 h3
    go_enter Try.func18, Try.ntmps18
    go_wp2_with fail
    refine C0.mono ?_
    rintro e w1 ⟨rfl, d, rfl⟩
    have B1 : Hid (Below w.heap.size w ((w.alloc (.cells #[.slice A n c, .slice A' n' c', .slice A'' n'' c''] 24)).drewN d)) := below_drewN hal d
    generalize (w.alloc (.cells #[.slice A n c, .slice A' n' c', .slice A'' n'' c''] 24)).drewN d = W1 at *
    go_wp2_with fail
    refine (treeOf_any A n c B s _ HL.out a1 a8 hc (Nat.le_trans hB B1.out.size) (Row.below h B1.out hB)).mono ?_
    rintro e w2 ⟨rfl, bel2⟩
    have B2 : Hid (Below w.heap.size w w2) := B1.out.trans (bel2.mono B1.out.size)
    clear bel2
    go_wp2_with fail
    refine (treeOf_any A' n' c' B' t _ HL'.out b1 b8 hc' (Nat.le_trans hB' B2.out.size) (Row.below h' B2.out hB')).mono ?_
    rintro e w3 ⟨rfl, bel3⟩
    have B3 : Hid (Below w.heap.size w w3) := B2.out.trans (bel3.mono B2.out.size)
    clear bel3
    go_wp2_with fail
    refine (treeOf_any A'' n'' c'' B'' u _ HL''.out d1 d8 hc'' (Nat.le_trans hB'' B3.out.size) (Row.below h'' B3.out hB'')).mono ?_
    rintro e w4 ⟨rfl, bel4⟩
    have B4 : Hid (Below w.heap.size w w4) := B3.out.trans (bel4.mono B3.out.size)
    clear bel4
    obtain ⟨X, hX⟩ : ∃ X : ByteArray, X = ⟨(Tr.txt s).toArray⟩ := ⟨_, rfl⟩
    obtain ⟨Y, hY⟩ : ∃ Y : ByteArray, Y = ⟨(Tr.txt t).toArray⟩ := ⟨_, rfl⟩
    obtain ⟨Z, hZ⟩ : ∃ Z : ByteArray, Z = ⟨(Tr.txt u).toArray⟩ := ⟨_, rfl⟩
    have HY := Lib.hid hY
    have HZ := Lib.hid hZ
    rw [← hX, ← hY, ← hZ]
    simp only [← hX] at CC CN
    clear hX hY hZ C0
    go_wp2_with fail
    go_loopw [11, 12] (fun cv k wr => ∃ (q m : Nat), q + 1 ≤ n ∧ cv = .int .i64 m ∧ k = .int .i64 ((q + 1 : Nat) : Int) ∧ m ≤ q ∧ Hid (m = Tr.cntT (Tr.txt s) (Tr.txt t) (Tr.txt u) q) ∧ Below w.heap.size w wr) (fun _ k _ => n - (intOf k).toNat)
    case atStart => exact ⟨0, 0, a1, rfl, rfl, Nat.le_refl _, rfl, B4.out⟩
    case round =>
      obtain ⟨q, m, hq, rfl, rfl, hmq, HM, HBW⟩ := hrel
      have hsz := HBW.size
      by_cases hlt : q + 1 < n
      · have C1 := CC q hlt wr
        obtain ⟨R, hR⟩ : ∃ R, R = Tr.cutF 8 (Tr.txt s) (q + 1) := ⟨_, rfl⟩
        have HST := Lib.hid (Tr.cntT_step (Tr.txt s) (Tr.txt t) (Tr.txt u) q)
        rw [← hR] at C1 HST
        have e1 := str_eq R.1 (Tr.txt t)
        have e2 := str_eq R.2 (Tr.txt u)
        rw [← HY.out] at e1
        rw [← HZ.out] at e2
        obtain ⟨P1, hP1⟩ : ∃ P1 : ByteArray, P1 = ⟨R.1.toArray⟩ := ⟨_, rfl⟩
        obtain ⟨P2, hP2⟩ : ∃ P2 : ByteArray, P2 = ⟨R.2.toArray⟩ := ⟨_, rfl⟩
        rw [← hP1] at C1 e1
        rw [← hP2] at C1 e2
        have HBW' := Lib.hid HBW
        have hltI : ((q : Int) + 1) < (n : Int) := by omega
        have C2 := CN wr
        clear hR hP1 hP2 HBW
        by_cases x1 : R.1 = Tr.txt t
        · rw [decide_eq_true x1] at e1
          by_cases x2 : R.2 = Tr.txt u
          · rw [decide_eq_true x2] at e2
            have G2 : Hid (m + 1 = Tr.cntT (Tr.txt s) (Tr.txt t) (Tr.txt u) (q + 1)) := by rw [Hid, HST.out, if_pos ⟨x1, x2⟩, HM.out]
            clear HST HM x1 x2
            go_wp2_with fail
            refine C2.mono ?_
            rintro e w5 ⟨rfl, rfl⟩
            go_wp2_with fail
            refine C1.mono ?_
            rintro e w5 ⟨rfl, bel5⟩
            have GB := HBW'.out.trans (bel5.mono hsz)
            have GBB := Lib.hid GB
            clear bel5 GB C1 C2
            go_wp2
            go_roundw
            case rel => exact ⟨q + 1, m + 1, by omega, by go_num, by go_num, by omega, G2, GBB.out⟩
            case measure => simp [intOf]; omega
          · rw [decide_eq_false x2] at e2
            have G2 : Hid (m = Tr.cntT (Tr.txt s) (Tr.txt t) (Tr.txt u) (q + 1)) := by rw [Hid, HST.out, if_neg (fun e => x2 e.2), HM.out]; rfl
            clear HST HM x1 x2
            go_wp2_with fail
            refine C2.mono ?_
            rintro e w5 ⟨rfl, rfl⟩
            go_wp2_with fail
            refine C1.mono ?_
            rintro e w5 ⟨rfl, bel5⟩
            have GBB := Lib.hid (HBW'.out.trans (bel5.mono hsz))
            clear bel5 C1 C2
            go_wp2
            go_roundw
            case rel => exact ⟨q + 1, m, by omega, by go_num, by go_num, by omega, G2, GBB.out⟩
            case measure => simp [intOf]; omega
        · rw [decide_eq_false x1] at e1
          have G2 : Hid (m = Tr.cntT (Tr.txt s) (Tr.txt t) (Tr.txt u) (q + 1)) := by rw [Hid, HST.out, if_neg (fun e => x1 e.1), HM.out]; rfl
          clear HST HM x1 e2
          go_wp2_with fail
          refine C2.mono ?_
          rintro e w5 ⟨rfl, rfl⟩
          go_wp2_with fail
          refine C1.mono ?_
          rintro e w5 ⟨rfl, bel5⟩
          have GBB := Lib.hid (HBW'.out.trans (bel5.mono hsz))
          clear bel5 C1 C2
          go_wp2
          go_roundw
          case rel => exact ⟨q + 1, m, by omega, by go_num, by go_num, by omega, G2, GBB.out⟩
          case measure => simp [intOf]; omega
      · have hqe : q = n - 1 := by omega
        have G2 : Hid (cntA s t u = ((m : Int), 0)) := by rw [Hid, G.out, ← hqe, ← HM.out]
        have GBB := Lib.hid HBW
        have hqn : ¬ ((q : Int) + 1 < (n : Int)) := by omega
        have C2 := CN wr
        clear HM HBW hqe CC CN
        go_wp2_with fail
        refine C2.mono ?_
        rintro e w5 ⟨rfl, rfl⟩
        clear C2
        go_wp2
        go_ret2
        exact ResI.ofc G2.out GBB.out
  · have G := Lib.hid (cntA_no hlv)
    have hb : allLvM [s, t, u] = false := by
      cases e : allLvM [s, t, u]
      · rfl
      · have := allLvM_mem' e
        exact absurd ⟨this s (by simp), this t (by simp), this u (by simp)⟩ hlv
    rw [hb] at C0
    clear hl hl' hl'' hb hlv
    go_enter Try.func18, Try.ntmps18
    go_wp2_with fail
    refine C0.mono ?_
    rintro e w1 ⟨rfl, d, rfl⟩
    go_wp2
    go_ret2
    exact ResI.ofc G.out (below_drewN hal d)
theorem cans_eq {a b : List Int} (ha : Tr.isLv a = true) (hb : Tr.isLv b = true) : eqL (Tr.can a) (Tr.can b) = decide (Tr.txt a = Tr.txt b) := by
  unfold eqL
  have := Tr.txt_can_iff ha hb (fun t ht => (lv_txt ht).1)
  by_cases h : Tr.txt a = Tr.txt b
  · rw [decide_eq_true h, decide_eq_true (this.2 h)]
  · rw [decide_eq_false h, decide_eq_false (fun e => h (this.1 e))]
end Go.Proofs.Ytfehjjaebdgjlaa
/-
  Grafting at all nodes, gone through.
-/
namespace Go.Proofs.Ytfehjjaebdgjlaa.Tr
set_option maxRecDepth 100000

def chkI (u : List Int) : Bool := upTo (8 - u.length) fun v => (List.range u.length).all fun k => decide (txt (gl u k v) = grfF 8 (txt u) k (txt v)) && isLv (gl u k v)
def chkI' (u : List Int) : Bool := !decide (can u = u) || chkI u
theorem chkI_all : allLv.all chkI' = true := by decide +kernel
theorem graft_at {u v : List Int} (hu : isLv u = true) (hc : can u = u) (hv : isLv v = true) (h8 : u.length + v.length ≤ 8) {k : Nat} (hk : k < u.length) : txt (gl u k v) = grfF 8 (txt u) k (txt v) ∧ isLv (gl u k v) = true := by
  have h1 := all_of chkI_all (isLv_iff.1 hu)
  unfold chkI' chkI at h1
  rw [decide_eq_true hc] at h1
  have h2 := upTo_of (by simpa using h1) hv (by omega)
  rw [List.all_eq_true] at h2
  have h3 := h2 k (by rw [List.mem_range]; exact hk)
  simp only [Bool.and_eq_true, decide_eq_true_eq] at h3
  exact h3
end Go.Proofs.Ytfehjjaebdgjlaa.Tr
/-
  What GraftAt and ButcherProduct answer, the program's and the model's.
-/
namespace Go.Proofs.Ytfehjjaebdgjlaa
open Go.RowKit Fld
set_option linter.unusedVariables false
set_option linter.unusedSimpArgs false
set_option maxRecDepth 100000

def graftAtA (u : List Int) (k : Int) (v : List Int) : List Int × Int :=
  if Tr.isLv u = true ∧ Tr.isLv v = true then (if 0 ≤ k ∧ k < (u.length : Int) then (if u.length + v.length ≤ 8 then (Tr.can (Tr.gl (Tr.can u) k.toNat v), 0) else ([], 3)) else ([], 2)) else ([], 1)
def butcherA (u v : List Int) : List Int × Int := graftAtA u 0 v
theorem graftA_no1 {u v : List Int} {k : Int} (h : Tr.isLv u = false) : graftAtA u k v = ([], 1) := if_neg (by rw [h]; simp)
theorem graftA_no2 {u v : List Int} {k : Int} (h : Tr.isLv v = false) : graftAtA u k v = ([], 1) := if_neg (by rw [h]; simp)
theorem graftA_out {u v : List Int} {k : Int} (h : Tr.isLv u = true) (h' : Tr.isLv v = true) (hk : ¬ (0 ≤ k ∧ k < (u.length : Int))) : graftAtA u k v = ([], 2) := by
  unfold graftAtA; rw [if_pos ⟨h, h'⟩, if_neg hk]
theorem graftA_big {u v : List Int} {k : Int} (h : Tr.isLv u = true) (h' : Tr.isLv v = true) (hk : 0 ≤ k ∧ k < (u.length : Int)) (h8 : ¬ u.length + v.length ≤ 8) : graftAtA u k v = ([], 3) := by
  unfold graftAtA; rw [if_pos ⟨h, h'⟩, if_pos hk, if_neg h8]
theorem graftA_yes {u v : List Int} {k : Nat} (h : Tr.isLv u = true) (h' : Tr.isLv v = true) (hk : k < u.length) (h8 : u.length + v.length ≤ 8) : graftAtA u (k : Int) v = (Tr.can (Tr.gl (Tr.can u) k v), 0) := by
  unfold graftAtA; rw [if_pos ⟨h, h'⟩, if_pos (by omega), if_pos h8]; rfl
/-- all that is known of a graft -/
theorem graft_parts {u v : List Int} {k : Nat} (h : Tr.isLv u = true) (h' : Tr.isLv v = true) (hk : k < u.length) (h8 : u.length + v.length ≤ 8) :
    Tr.txt (Tr.gl (Tr.can u) k v) = Tr.grfF 8 (Tr.txt u) k (Tr.txt v) ∧ Tr.isLv (Tr.gl (Tr.can u) k v) = true ∧ (Tr.gl (Tr.can u) k v).length = u.length + v.length := by
  obtain ⟨c1, c2⟩ := lv_can h
  obtain ⟨c3, c4⟩ := Tr.can_can h
  obtain ⟨g1, g2⟩ := Tr.graft_at c1 c3 h' (by omega) (k := k) (by omega)
  rw [c4] at g1
  exact ⟨g1, g2, by rw [Tr.gl_length (Tr.endL_le (by omega)).2, c2]⟩
theorem butcher_eq {u v : List Int} (h : Tr.isLv u = true) (h' : Tr.isLv v = true) (h8 : u.length + v.length ≤ 8) : Tr.can (Tr.gl u 0 v) = Tr.can (Tr.gl (Tr.can u) 0 v) := by
  have h1 : 0 < u.length := (Tr.isLv_iff.1 h).1
  obtain ⟨g1, g2⟩ := Tr.graft_root h h' h8
  obtain ⟨p1, p2, _⟩ := graft_parts h h' h1 h8
  have e : Tr.txt (Tr.gl u 0 v) = Tr.txt (Tr.gl (Tr.can u) 0 v) := by rw [g1, p1]
  rw [← (lv_txt g2).1, ← (lv_txt p2).1, e]
theorem hasNode_any (A : Option Addr) (n c : Nat) (k : Int) (w : World) (hn : n ≤ 1048576) : Calls Try.prog 51 #[.slice A n c, .int .i64 k] w fun e w' => e = .returned (.bool (decide (0 ≤ k ∧ k < (n : Int)))) ∧ ∃ m, w' = w.drewN m := by
  by_cases h0 : 0 ≤ k
  · by_cases h1 : k < (n : Int)
    · have G : Hid (decide (0 ≤ k ∧ k < (n : Int)) = true) := decide_eq_true ⟨h0, h1⟩
      have d0 : decide (0 ≤ k) = true := decide_eq_true h0
      have d1 : decide (k < (n : Int)) = true := decide_eq_true h1
      go_enter Try.func51, Try.ntmps51
      go_wp2
      go_ret
      exact ⟨by first | rfl | exact ret_bool G.out.symm, 0, rfl⟩
    · have G : Hid (decide (0 ≤ k ∧ k < (n : Int)) = false) := decide_eq_false (fun h => h1 h.2)
      have d0 : decide (0 ≤ k) = true := decide_eq_true h0
      have d1 : decide (k < (n : Int)) = false := decide_eq_false h1
      go_enter Try.func51, Try.ntmps51
      go_wp2
      go_ret
      exact ⟨by first | rfl | exact ret_bool G.out.symm, 0, rfl⟩
  · have G : Hid (decide (0 ≤ k ∧ k < (n : Int)) = false) := decide_eq_false (fun h => h0 h.1)
    have d0 : decide (0 ≤ k) = false := decide_eq_false h0
    go_enter Try.func51, Try.ntmps51
    go_wp2
    go_ret
    exact ⟨by first | rfl | exact ret_bool G.out.symm, 0, rfl⟩
theorem two_lists {A A' : Option Addr} {n n' c c' B B' : Nat} {s t : List Int} {w : World} (hl : s.length = n) (hl' : t.length = n') (hB : B ≤ w.heap.size) (hB' : B' ≤ w.heap.size) (h : Row w B A (ints s)) (h' : Row w B' A' (ints t)) :
    Lsts (w.alloc (.cells #[.slice A n c, .slice A' n' c'] 24)) w.heap.size (some ⟨w.heap.size, 0, none⟩) [s, t] := fun k r hr => by
  have hal : Below w.heap.size w (w.alloc (.cells #[.slice A n c, .slice A' n' c'] 24)) := (Below.refl _ _).alloc (Nat.le_refl _) _
  match k, hr with
  | 0, hr =>
    simp only [List.getElem?_cons_zero, Option.some.injEq] at hr
    subst hr
    exact ⟨_, _, A, c, rfl, by rw [hl, World.cell?_alloc_at (hn := by simp)]; rfl, (Row.below h hal hB).more hB⟩
  | 1, hr =>
    simp only [List.getElem?_cons_succ, List.getElem?_cons_zero, Option.some.injEq] at hr
    subst hr
    exact ⟨_, _, A', c', rfl, by rw [hl', World.cell?_alloc_at (hn := by simp)]; rfl, (Row.below h' hal hB').more hB'⟩
  | k+2, hr => simp at hr
set_option maxHeartbeats 2000000 in
theorem pGraftAt_L (A A' : Option Addr) (n n' c c' B B' : Nat) (s t : List Int) (k : Int) (w : World) (hl : s.length = n) (hl' : t.length = n') (hn : n ≤ 1048576) (hn' : n' ≤ 1048576) (hB : B ≤ w.heap.size) (hB' : B' ≤ w.heap.size) (h : Row w B A (ints s)) (h' : Row w B' A' (ints t)) (hk64 : -9223372036854775808 ≤ k ∧ k ≤ 9223372036854775807) (hc : n ≤ c) (hc' : n' ≤ c') :
    Calls Try.prog 20 #[.slice A n c, .int .i64 k, .slice A' n' c'] w (ResL (graftAtA s k t) w) := by
  have hal : Below w.heap.size w (w.alloc (.cells #[.slice A n c, .slice A' n' c'] 24)) := (Below.refl _ _).alloc (Nat.le_refl _) _
  have C0 := areLevels_any (some ⟨w.heap.size, 0, none⟩) 2 2 w.heap.size [s, t] _ rfl (by omega) (fun r hr => by
    simp only [List.mem_cons, List.not_mem_nil, or_false] at hr
    rcases hr with rfl | rfl <;> omega) (two_lists (c := c) (c' := c') hl hl' hB hB' h h')
  have hb : allLvM [s, t] = (Tr.isLv s && Tr.isLv t) := by simp [allLvM]
  rw [hb] at C0
  have C1 := fun w => hasNode_any A n c k w hn
  by_cases hlv : Tr.isLv s = true ∧ Tr.isLv t = true
  · obtain ⟨h1, h2⟩ := hlv
    rw [h1, h2] at C0
    obtain ⟨a1, a8⟩ := lv_bd h1
    obtain ⟨b1, b8⟩ := lv_bd h2
    have z1 := (lv_txt h1).2.2.2
    have z2 := (lv_txt h2).2.2.2
    rw [hl] at a1 a8
    rw [hl'] at b1 b8
    by_cases hk : 0 ≤ k ∧ k < (n : Int)
    · rw [decide_eq_true hk] at C1
      by_cases h8 : s.length + t.length ≤ 8
      · obtain ⟨kn, rfl⟩ : ∃ kn : Nat, k = (kn : Int) := ⟨k.toNat, by omega⟩
        have G := Lib.hid (graftA_yes h1 h2 (k := kn) (by omega) h8)
        obtain ⟨p1, p2, p3⟩ := graft_parts h1 h2 (k := kn) (by omega) h8
        have HCL : Hid ((Tr.can (Tr.gl (Tr.can s) kn t)).length = n + n') := by rw [Hid, (lv_can p2).2, p3, hl, hl']
        have HGL : Hid ((Tr.gl (Tr.can s) kn t).length = n + n') := by rw [Hid, p3, hl, hl']
        have HPT := Lib.hid p1
        have HLV := Lib.hid p2
        have C2 := fun w => graftAt_any (Tr.txt s) kn (Tr.txt t) w (Tr.tx_txt h1) (by omega) (by omega)
        rw [hl, hl'] at h8
        have HL := Lib.hid hl
        have HL' := Lib.hid hl'
        obtain ⟨hk0, hk1⟩ := hk
        clear hl hl' hb z1 z2 h1 h2 p1 p2 p3
        go_enter Try.func20, Try.ntmps20
        go_wp2_with fail
        refine C0.mono ?_
        rintro e w1 ⟨rfl, d, rfl⟩
        go_wp2_with fail
        refine (C1 _).mono ?_
        rintro e w1 ⟨rfl, d1, rfl⟩
        have B1 : Hid (Below w.heap.size w (((w.alloc (.cells #[.slice A n c, .slice A' n' c'] 24)).drewN d).drewN d1)) := below_drewN (below_drewN hal d) d1
        generalize ((w.alloc (.cells #[.slice A n c, .slice A' n' c'] 24)).drewN d).drewN d1 = W1 at *
        go_wp2_with fail
        refine (treeOf_any A n c B s _ HL.out a1 a8 hc (Nat.le_trans hB B1.out.size) (Row.below h B1.out hB)).mono ?_
        rintro e w2 ⟨rfl, bel2⟩
        have B2 : Hid (Below w.heap.size w w2) := B1.out.trans (bel2.mono B1.out.size)
        clear bel2
        go_wp2_with fail
        refine (treeOf_any A' n' c' B' t _ HL'.out b1 b8 hc' (Nat.le_trans hB' B2.out.size) (Row.below h' B2.out hB')).mono ?_
        rintro e w3 ⟨rfl, bel3⟩
        have B3 : Hid (Below w.heap.size w w3) := B2.out.trans (bel3.mono B2.out.size)
        clear bel3
        go_wp2_with fail
        refine (C2 _).mono ?_
        rintro e w4 ⟨rfl, bel4⟩
        have B4 : Hid (Below w.heap.size w w4) := B3.out.trans (bel4.mono B3.out.size)
        rw [← HPT.out]
        clear bel4 C2
        go_wp2_with fail
        refine (levelsOf_any (Tr.gl (Tr.can s) kn t) _ HLV.out).mono ?_
        rintro e w5 ⟨A5, c5, rfl, own5, bel5⟩
        rw [HGL.out] at own5 ⊢
        have GB : Hid (Below w.heap.size w w5) := B4.out.trans (bel5.mono B4.out.size)
        have GO : Hid (w5.ownsRow w.heap.size 2 1 (.slice A5 (n + n') c5) (n + n') (ints (Tr.can (Tr.gl (Tr.can s) kn t)))) := ((OwnR.of own5).more B4.out.size (Nat.le_refl _)).1
        clear own5 bel5
        go_wp2
        go_ret2
        exact ResL.of G.out HCL.out (by omega) GO.out GB.out
      · have G := Lib.hid (graftA_big h1 h2 (k := k) (by rw [hl]; exact hk) h8)
        rw [hl, hl'] at h8
        have h8' : 8 < (n : Int) + (n' : Int) := by omega
        clear hl hl' hb z1 z2 h1 h2 h8
        go_enter Try.func20, Try.ntmps20
        go_wp2_with fail
        refine C0.mono ?_
        rintro e w1 ⟨rfl, d, rfl⟩
        go_wp2_with fail
        refine (C1 _).mono ?_
        rintro e w1 ⟨rfl, d1, rfl⟩
        go_wp2
        go_ret2
        exact ResL.nil G.out (below_drewN hal _)
    · rw [decide_eq_false hk] at C1
      have G := Lib.hid (graftA_out h1 h2 (k := k) (by rw [hl]; exact hk))
      clear hl hl' hb z1 z2 h1 h2 hk
      go_enter Try.func20, Try.ntmps20
      go_wp2_with fail
      refine C0.mono ?_
      rintro e w1 ⟨rfl, d, rfl⟩
      go_wp2_with fail
      refine (C1 _).mono ?_
      rintro e w1 ⟨rfl, d1, rfl⟩
      go_wp2
      go_ret2
      exact ResL.nil G.out (below_drewN hal _)
  · have G : Hid (graftAtA s k t = ([], 1)) := if_neg hlv
    have e : (Tr.isLv s && Tr.isLv t) = false := by
      cases h1 : Tr.isLv s
      · rfl
      · cases h2 : Tr.isLv t
        · rfl
        · exact absurd ⟨h1, h2⟩ hlv
    rw [e] at C0
    clear hb e hlv hl hl'
    go_enter Try.func20, Try.ntmps20
    go_wp2_with fail
    refine C0.mono ?_
    rintro e w1 ⟨rfl, d, rfl⟩
    go_wp2
    go_ret2
    exact ResL.nil G.out (below_drewN hal d)
end Go.Proofs.Ytfehjjaebdgjlaa
