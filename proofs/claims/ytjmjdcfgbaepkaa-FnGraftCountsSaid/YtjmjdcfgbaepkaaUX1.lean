/-
  Texts of this seat, joined: what several laws lean on.
-/
import Derived.Test.YtjmjdcfgbaepkaaTests
import Derived.RegionTactic
import Derived.ChangeAlike
import Derived.Deep.QuietTactic
import Derived.BigQuiet
import Derived.Laws.BitsAllLaws
import Derived.Laws.BitsLemmas
import Derived.Laws.OwnMore
import Derived.OwnWalk
import Derived.Test.YtjmjdcfgbaepkaaSlices
import Derived.Test.YtjmjdcfgbaepkaaRes1
import Derived.Test.YtjmjdcfgbaepkaaNest
import Derived.Test.YtjmjdcfgbaepkaaMark1
import Derived.Deep.AppendLies
import Derived.Deep.RegionHeld3
import Derived.Test.YtjmjdcfgbaepkaaCnts
import Derived.Test.YtjmjdcfgbaepkaaGrow
import Derived.Deep.DeepCutAuto
import Derived.Deep.CutBlock
import Derived.Test.YtjmjdcfgbaepkaaSumP
import Derived.Test.YtjmjdcfgbaepkaaCmp
import Derived.Maps.OwnSet
import Derived.Sort.KeysCollected
import Derived.Test.YtjmjdcfgbaepkaaBase
import Derived.BigRegion
import Derived.Test.YtjmjdcfgbaepkaaCan
import Derived.Test.YtjmjdcfgbaepkaaNestc
import Derived.Test.YtjmjdcfgbaepkaaSrt
import Derived.Test.YtjmjdcfgbaepkaaIter
import Derived.CallsIn
import Derived.Test.YtjmjdcfgbaepkaaLvl
import Derived.Test.YtjmjdcfgbaepkaaTreeD
import Derived.Outline
import Derived.Laws.DeepStrings4
import Derived.Test.YtjmjdcfgbaepkaaTreeE
import Derived.Laws.Strings2
import Derived.Lib.SliceRun
import Derived.Deep.RegionLaw
import Derived.Shelf.RegionOpenPlain
import Derived.Test.YtjmjdcfgbaepkaaGrfP
import Derived.Test.YtjmjdcfgbaepkaaTxt
import Derived.Maps.RangeWalk
import Derived.Test.YtjmjdcfgbaepkaaSCan
import Derived.Test.YtjmjdcfgbaepkaaParts
import Derived.Test.YtjmjdcfgbaepkaaOwn1
import Derived.Test.YtjmjdcfgbaepkaaPutS
import Derived.Test.YtjmjdcfgbaepkaaGrfV
import Derived.Test.YtjmjdcfgbaepkaaAre
import Derived.Test.YtjmjdcfgbaepkaaTreeOf
import Derived.Test.YtjmjdcfgbaepkaaCmpX
import Derived.Test.YtjmjdcfgbaepkaaTreeX
/-
  Sources of numbers in memory, as the laws and the models draw from: each number lies below what was asked for.
-/
namespace Go.Proofs.Ytjmjdcfgbaepkaa
open Go.RowKit Fld
set_option linter.unusedVariables false
set_option linter.unusedSimpArgs false
set_option maxRecDepth 100000

theorem Row.drewNd {w : World} {B : Nat} {A : Option Addr} {vs : List Value} (h : Row w B A vs) (n : Nat) : Row (w.drewN n) B A vs := h
theorem below_drewNd {B : Nat} {a w : World} (h : Below B a w) (n : Nat) : Below B a (w.drewN n) := ⟨h.os, h.tape, h.output, h.size, h.block⟩
/-- a source of numbers in memory: three cells -/
def SrcAt (w : World) (T : TypeId) (G : Nat) (A : Option Addr) (n c i : Nat) (h : Int) : Prop := w.heap[G]? = some (.cells #[.slice A n c, .int .i64 i, .int .u64 h] T (0, 0))
section
variable {w w' : World} {T : TypeId} {G n c i : Nat} {A : Option Addr} {h : Int}
theorem SrcAt.c0 (s : SrcAt w T G A n c i h) : w.cell? ⟨G, 0, none⟩ = some (.slice A n c) := by rw [cell_of_row w G 0 _ _ _ s]; rfl
theorem SrcAt.c1 (s : SrcAt w T G A n c i h) : w.cell? ⟨G, 1, none⟩ = some (.int .i64 i) := by rw [cell_of_row w G 1 _ _ _ s]; rfl
theorem SrcAt.c2 (s : SrcAt w T G A n c i h) : w.cell? ⟨G, 2, none⟩ = some (.int .u64 h) := by rw [cell_of_row w G 2 _ _ _ s]; rfl
theorem SrcAt.fr (s : SrcAt w T G A n c i h) (j : Nat) : w.frozen? ⟨G, j, none⟩ = false := frozen_of_row w G j _ _ s
theorem SrcAt.set1 (s : SrcAt w T G A n c i h) (i' : Nat) (v : Int) (hv : v = i') : SrcAt (w.setCell ⟨G, 1, none⟩ (.int .i64 v)) T G A n c i' h := by
  subst hv; exact heap_setCell_same w G 1 _ _ _ s
theorem SrcAt.set2 (s : SrcAt w T G A n c i h) (h' : Int) : SrcAt (w.setCell ⟨G, 2, none⟩ (.int .u64 h')) T G A n c i h' := heap_setCell_same w G 2 _ _ _ s
theorem SrcAt.drewN (s : SrcAt w T G A n c i h) (k : Nat) : SrcAt (w.drewN k) T G A n c i h := s
theorem SrcAt.lt (s : SrcAt w T G A n c i h) : G < w.heap.size := by
  rcases Nat.lt_or_ge G w.heap.size with g | g
  · exact g
  · unfold SrcAt at s; rw [Array.getElem?_eq_none g] at s; cases s
end
theorem mask_bd (z : Int) : 0 ≤ wrap64 (bits BinOp.and IntKind.u64 z 16777215) ∧ wrap64 (bits BinOp.and IntKind.u64 z 16777215) ≤ 16777215 := by
  have e : bits BinOp.and IntKind.u64 z 16777215 = ((BitVec.ofInt 64 z &&& BitVec.ofInt 64 16777215).toNat : Int) % 18446744073709551616 := rfl
  have h2 : (BitVec.ofInt 64 z &&& BitVec.ofInt 64 16777215).toNat ≤ 16777215 := by
    rw [BitVec.toNat_and]
    exact Nat.le_trans Nat.and_le_right (by decide)
  have h3 : bits BinOp.and IntKind.u64 z 16777215 = ((BitVec.ofInt 64 z &&& BitVec.ofInt 64 16777215).toNat : Int) := by rw [e]; omega
  rw [h3]
  unfold wrap64
  omega


def Src (w : World) (T : TypeId) (G B : Nat) (xs : List Int) : Prop :=
  ∃ A c i h, SrcAt w T G A xs.length c i h ∧ i ≤ xs.length ∧ B ≤ G ∧ Row w B A (intsK .u8 xs) ∧ xs.length ≤ 4096 ∧ ∀ x ∈ xs, 0 ≤ x ∧ x ≤ 255
/-- a number below m is drawn, and only the source turns -/
def Rolled (T : TypeId) (G B : Nat) (xs : List Int) (m : Int) (w : World) (e : Ending) (w' : World) : Prop :=
  ∃ r : Int, e = .returned (.int .i64 r) ∧ 0 ≤ r ∧ r < m ∧ Src w' T G B xs ∧ w.grownBy w' (some G)
theorem only_set {w w' : World} {G j : Nat} (h : w.grownBy w' (some G)) (u : Value) : w.grownBy (w'.setCell ⟨G, j, none⟩ u) (some G) :=
  ⟨h.os, h.tape, h.output, by simpa [World.setCell] using h.size, fun k hk hne => (Below.heap_setCell w' ⟨G, j, none⟩ u k (fun e => hne (by rw [e]))).trans (h.block k hk hne)⟩
theorem only_drewN {w w' : World} {G : Nat} (h : w.grownBy w' (some G)) (n : Nat) : w.grownBy (w'.drewN n) (some G) := ⟨h.os, h.tape, h.output, h.size, h.block⟩
theorem only_trans {a b c : World} {G : Nat} (h : a.grownBy b (some G)) (k : b.grownBy c (some G)) : a.grownBy c (some G) :=
  ⟨k.os.trans h.os, k.tape.trans h.tape, k.output.trans h.output, Nat.le_trans h.size k.size, fun i hi hne => (k.block i (Nat.lt_of_lt_of_le hi h.size) hne).trans (h.block i hi hne)⟩
theorem Row.only {w w' : World} {B G : Nat} {A : Option Addr} {vs : List Value} (h : Row w B A vs) (hg : w.grownBy w' (some G)) (hB : B ≤ G) : Row w' B A vs :=
  fun k v hv => by
    obtain ⟨b, o, e, hb, hc⟩ := h k v hv
    exact ⟨b, o, e, hb, hg.cell hc (fun e => by have := Option.some.inj e; simp at this; omega)⟩
theorem below_only {B : Nat} {a w w' : World} {G : Nat} (h : Below B a w) (hg : w.grownBy w' (some G)) (hB : B ≤ w.heap.size) (hG : B ≤ G) : Below B a w' :=
  h.grown hg hB (fun k hk => by cases hk; exact hG)


theorem big_any (A : Option Addr) (n c : Nat) (w : World) (hn : n ≤ 9223372036854775807) : Calls Try.prog 9 #[.slice A n c] w fun e w' => e = .returned (.bool (decide ((4096 : Int) < n))) ∧ w = w' := by
  go_enter Try.func9, Try.ntmps9
  go_wp2
  go_ret
  exact ⟨rfl, rfl⟩
set_option maxHeartbeats 800000 in
theorem l01Next_any (G B : Nat) (xs : List Int) (m : Int) (w : World) (hm : 1 ≤ m) (s : Src w 140 G B xs) :
    Calls Try.prog 73 #[.pointer (some ⟨G, 0, none⟩), .int .i64 m] w (Rolled 140 G B xs m w) := by
  obtain ⟨A, c, i, h, s, hi0, hBG, row, hn, hx⟩ := s
  have HX := Lib.hid hx
  clear hx
  have c2 := s.c2
  have f2 := s.fr 2
  have HS := Lib.hid s
  have HO : Hid (w.grownBy w (some G)) := World.grownBy.refl w (some G)
  clear s
  go_enter Try.func73, Try.ntmps73
  go_wp2_with fail
  generalize IntKind.u64.wrap (IntKind.u64.wrap (h * 6364136223846793005) + 1442695040888963407) = q
  obtain ⟨x0, x1⟩ := mask_bd (q / 8589934592)
  generalize wrap64 (bits BinOp.and IntKind.u64 (q / 8589934592) 16777215) = x at *
  have s2 := HS.out.set2 q
  have HO2 := Lib.hid (only_set (j := 2) HO.out (.int .u64 q))
  have row2 := row.only HO2.out hBG
  clear c2 f2 HS HO row
  generalize w.setCell ⟨G, 2, none⟩ (.int .u64 q) = W1 at *
  have c0 := s2.c0
  have c1 := s2.c1
  have f1 := s2.fr 1
  have HS := Lib.hid s2
  clear s2
  by_cases hi : i < xs.length
  · obtain ⟨y, hy⟩ := at_lt hi
    obtain ⟨b, o, rfl, hb, hc⟩ := row2 i _ (intsK_at hy)
    obtain ⟨y0, y1⟩ := HX.out y (List.mem_of_getElem? hy)
    have hne : b ≠ G := by omega
    clear hy
    go_quiet (fail)
    go_wp2_with fail
    go_quiet (fail)
    go_wp2
    go_ret
    exact ⟨_, rfl, Int.emod_nonneg _ (by omega), Int.emod_lt_of_pos _ (by omega), ⟨_, _, _, _, (HS.out.drewN _).set1 (i + 1) _ (by omega), by omega, hBG, Row.only (row2.drewNd _) (only_set (World.grownBy.refl _ _) _) hBG, hn, HX.out⟩, only_set (only_drewN HO2.out _) _⟩
  · go_quiet (fail)
    go_wp2
    go_ret
    exact ⟨_, rfl, Int.emod_nonneg _ (by omega), Int.emod_lt_of_pos _ (by omega), ⟨_, _, _, _, HS.out.drewN _, by omega, hBG, row2.drewNd _, hn, HX.out⟩, only_drewN HO2.out _⟩

/-- a new source over a list of bytes -/
def NewSrc (T : TypeId) (B : Nat) (xs : List Int) (w : World) (e : Ending) (w' : World) : Prop :=
  ∃ G, e = .returned (.pointer (some ⟨G, 0, none⟩)) ∧ w.heap.size ≤ G ∧ Src w' T G B xs ∧ Below w.heap.size w w'
def Hashing (w : World) (T : TypeId) (A : Option Addr) (n c : Nat) (wr : World) : Prop :=
  ∃ h, SrcAt wr T w.heap.size A n c (0 : Nat) h ∧ Below w.heap.size w wr
theorem Hashing.start (w : World) (T : TypeId) (A : Option Addr) (n c : Nat) (h : Int) : Hashing w T A n c (w.alloc (.cells #[.slice A n c, .int .i64 0, .int .u64 h] T)) :=
  ⟨h, heap_alloc_new w _, (Below.refl _ _).alloc (Nat.le_refl _) _⟩
theorem SrcAt.drew {w : World} {T : TypeId} {G n c i : Nat} {A : Option Addr} {h : Int} (s : SrcAt w T G A n c i h) : SrcAt w.drew T G A n c i h := s
theorem Hashing.step {w wr : World} {T : TypeId} {A : Option Addr} {n c : Nat} {h q : Int} (s : SrcAt wr T w.heap.size A n c (0 : Nat) h) (b : Below w.heap.size w wr) : Hashing w T A n c (wr.setCell ⟨w.heap.size, 2, none⟩ (.int .u64 q)).drew :=
  ⟨q, (s.set2 q).drew, (b.setCell (p := ⟨w.heap.size, 2, none⟩) (Nat.le_refl _) _).drew⟩
theorem Hashing.done {w wr : World} {T : TypeId} {A : Option Addr} {n c B : Nat} {h : Int} {xs : List Int} (s : SrcAt wr T w.heap.size A n c (0 : Nat) h) (b : Below w.heap.size w wr) (hl : xs.length = n) (hn : n ≤ 4096) (hB : B ≤ w.heap.size)
    (hr : Row w B A (intsK .u8 xs)) (hx : ∀ x ∈ xs, 0 ≤ x ∧ x ≤ 255) : NewSrc T B xs w (.returned (.pointer (some ⟨w.heap.size, 0, none⟩))) wr := by
  subst hl
  exact ⟨_, rfl, Nat.le_refl _, ⟨A, c, 0, h, s, by omega, hB, hr.below b hB, hn, hx⟩, b⟩
set_option maxRecDepth 100000 in
set_option maxHeartbeats 800000 in
theorem l01From_any (A : Option Addr) (n c B : Nat) (xs : List Int) (w : World) (hl : xs.length = n) (hn : n ≤ 4096) (hB : B ≤ w.heap.size) (h : Row w B A (intsK .u8 xs)) (hx : ∀ x ∈ xs, 0 ≤ x ∧ x ≤ 255) :
    Calls Try.prog 68 #[.slice A n c] w (NewSrc 140 B xs w) := by
  have HX := Lib.hid hx
  have HL := Lib.hid hl
  clear hx hl
  go_enter Try.func68, Try.ntmps68
  go_wp2_with fail
  go_loopw [4] (fun i wr => ∃ k : Nat, k ≤ n ∧ i = .int .i64 k ∧ Hashing w 140 A n c wr) (fun i _ => n - (intOf i).toNat)
  case atStart => exact ⟨0, Nat.zero_le _, rfl, Hashing.start ..⟩
  case round =>
    obtain ⟨k, hk, rfl, q0, hs, hb⟩ := hrel
    have c2 := hs.c2
    have f2 := hs.fr 2
    have HS := Lib.hid hs
    clear hs
    by_cases hlt : k < n
    · obtain ⟨y, hy⟩ := at_lt (show k < xs.length by rw [HL.out]; exact hlt)
      obtain ⟨b, o, rfl, hbB, hc⟩ := h.below hb hB k _ (intsK_at hy)
      obtain ⟨y0, y1⟩ := HX.out y (List.mem_of_getElem? hy)
      have hne : b ≠ w.heap.size := by omega
      clear hy
      go_wp2_with fail
      go_region
      all_goals
        go_wp2
        go_roundw
        case rel => exact ⟨k + 1, by omega, by go_num, Hashing.step HS.out hb⟩
        case measure => simp [intOf]; omega
    · obtain rfl : k = n := by omega
      have G := Lib.hid (Hashing.done HS.out hb HL.out hn hB h HX.out)
      clear c2 f2 HS
      go_wp2
      go_ret
      exact G.out

/-- a number of the field is drawn, and only the source (and new memory) turns -/
def Drawn (P : Int → Prop) (T : TypeId) (G B : Nat) (xs : List Int) (w : World) (e : Ending) (w' : World) : Prop :=
  ∃ r : Int, e = .returned (.int .i64 r) ∧ P r ∧ Src w' T G B xs ∧ w.grownBy w' (some G)
theorem only_alloc {w w' : World} {G : Nat} (h : w.grownBy w' (some G)) (o : Obj) : w.grownBy (w'.alloc o) (some G) :=
  ⟨h.os, h.tape, h.output, Nat.le_trans h.size (by simp), fun k hk hne => (Below.heap_alloc w' o k (Nat.lt_of_lt_of_le hk h.size)).trans (h.block k hk hne)⟩
theorem Src.lt {w : World} {T : TypeId} {G B : Nat} {xs : List Int} (s : Src w T G B xs) : G < w.heap.size := by
  obtain ⟨_, _, _, _, h, _⟩ := s; exact h.lt
theorem Src.alloc {w : World} {T : TypeId} {G B : Nat} {xs : List Int} (s : Src w T G B xs) (o : Obj) : Src (w.alloc o) T G B xs := by
  obtain ⟨A, c, i, h, h1, h2, h3, h4, h5⟩ := s
  exact ⟨A, c, i, h, (Below.heap_alloc w o G h1.lt).trans h1, h2, h3, h4.alloc (by have := h1.lt; omega) o, h5⟩
theorem Src.below {w w' : World} {T : TypeId} {G B : Nat} {xs : List Int} (s : Src w T G B xs) (hb : Below w.heap.size w w') : Src w' T G B xs := by
  obtain ⟨A, c, i, h, h1, h2, h3, h4, h5⟩ := s
  exact ⟨A, c, i, h, (hb.block G h1.lt).trans h1, h2, h3, h4.below hb (by have := h1.lt; omega), h5⟩
def IsN (r : Int) : Prop := 0 ≤ r ∧ r < 10007
def IsI64 (r : Int) : Prop := -9223372036854775808 ≤ r ∧ r ≤ 9223372036854775807

/-- one of a list is drawn -/
theorem l01Pick_any (G B : Nat) (xs : List Int) (A : Option Addr) (n c C : Nat) (ys : List Int) (w : World) (s : Src w 140 G B xs) (h : Row w C A (ints ys)) (hG : ∀ b o, A = some ⟨b, o, none⟩ → b ≠ G) (hl : ys.length = n) (hn : 1 ≤ n) (hm : n ≤ 1048576) :
    Calls Try.prog 70 #[.pointer (some ⟨G, 0, none⟩), .slice A n c] w (Drawn (· ∈ ys) 140 G B xs w) := by
  have HL := Lib.hid hl
  clear hl
  go_enter Try.func70, Try.ntmps70
  go_wp2_with fail
  refine (l01Next_any G B xs _ _ (by omega) s).mono ?_
  rintro e w1 ⟨r, rfl, r0, r1, s1, o1⟩
  obtain ⟨k, rfl⟩ := Int.eq_ofNat_of_zero_le r0
  obtain ⟨y, hy⟩ := at_lt (show k < ys.length by rw [HL.out]; omega)
  obtain ⟨b, o, rfl, hb, hc⟩ := h k _ (ints_at hy)
  have hne := hG b o rfl
  have hc1 := o1.cell hc (fun e => hne (by have := Option.some.inj e; simpa using this))
  have HY := Lib.hid (List.mem_of_getElem? hy)
  clear hy hc
  go_wp2
  go_ret
  exact ⟨_, rfl, HY.out, s1, o1⟩

theorem mem_small {r : Int} (h : r ∈ ([0, 1, 0, 1, 10006, 2] : List Int)) : IsN r := by
  simp at h; unfold IsN; omega
theorem mem_spoil {r : Int} (h : r ∈ ([-1, 10007, 1099511627776, -4611686018427387904] : List Int)) : IsI64 r := by
  simp at h; unfold IsI64; omega
theorem i64_of_n {r : Int} (h : IsN r) : IsI64 r := by unfold IsN at h; unfold IsI64; omega
/-- two numbers that are drawn out of a code -/
def DrawnTwo (P Q : Int → Prop) (w : World) (e : Ending) (w' : World) : Prop := ∃ a b : Int, e = .returned (.tuple #[.int .i64 a, .int .i64 b]) ∧ P a ∧ Q b ∧ Below w.heap.size w w'
def DrawnOne (P : Int → Prop) (w : World) (e : Ending) (w' : World) : Prop := ∃ a : Int, e = .returned (.int .i64 a) ∧ P a ∧ Below w.heap.size w w'
/-- a code that came in -/
def IsCode (w : World) (A : Option Addr) (n : Nat) (xs : List Int) : Prop := xs.length = n ∧ Row w w.heap.size A (intsK .u8 xs) ∧ ∀ x ∈ xs, 0 ≤ x ∧ x ≤ 255
theorem isCode_of {w : World} {A : Option Addr} {n c : Nat} {xs : List Int} (h : IsRow .u8 w A n c xs) : IsCode w A n xs := by
  obtain ⟨h1, _, _, h4, h5⟩ := h
  exact ⟨h1, h4, fun x hx => by simpa [Lit.wf, IntKind.min, IntKind.max, IntKind.signed, IntKind.bits] using h5 x hx⟩
theorem IsCode.below {w w' : World} {A : Option Addr} {n : Nat} {xs : List Int} (h : IsCode w A n xs) (hb : Below w.heap.size w w') : IsCode w' A n xs :=
  ⟨h.1, (h.2.1.below hb (Nat.le_refl _)).more hb.size, h.2.2⟩
end Go.Proofs.Ytjmjdcfgbaepkaa
/-
  The laws' comparison of lists; lists in memory.
-/
namespace Go.Proofs.Ytjmjdcfgbaepkaa
open Go.RowKit Fld
set_option linter.unusedVariables false
set_option linter.unusedSimpArgs false
set_option maxRecDepth 100000

set_option maxHeartbeats 400000 in
theorem likeInts_any (A A' : Option Addr) (n n' c c' B B' : Nat) (xs ys : List Int) (w : World) (hl : xs.length = n) (hl' : ys.length = n') (hn : n ≤ 9223372036854775807) (hn' : n' ≤ 9223372036854775807) (h : Row w B A (ints xs)) (h' : Row w B' A' (ints ys)) :
    Calls Try.prog 27 #[.slice A n c, .slice A' n' c'] w fun e w' => e = .returned (.bool (eqL xs ys)) ∧ ∃ m, w' = w.drewN m := by
  have HL := Lib.hid hl
  have HL' := Lib.hid hl'
  clear hl hl'
  by_cases hnn : n = n'
  · subst hnn
    go_enter Try.func27, Try.ntmps27
    go_wp2_with fail
    go_loopw [5] (fun i wr => ∃ k m : Nat, k ≤ n ∧ i = .int .i64 k ∧ wr = w.drewN m ∧ Hid (xs.take k = ys.take k)) (fun i _ => n - (intOf i).toNat)
    case atStart => exact ⟨0, 0, Nat.zero_le _, rfl, rfl, rfl⟩
    case round =>
      obtain ⟨k, m, hk, rfl, rfl, HT⟩ := hrel
      by_cases hlt : k < n
      · obtain ⟨x, hx⟩ := at_lt (show k < xs.length by rw [HL.out]; exact hlt)
        obtain ⟨y, hy⟩ := at_lt (show k < ys.length by rw [HL'.out]; exact hlt)
        obtain ⟨b, o, rfl, _, hc⟩ := h k _ (ints_at hx)
        obtain ⟨b', o', rfl, _, hc'⟩ := h' k _ (ints_at hy)
        by_cases hxy : x = y
        · subst hxy
          have G := Lib.hid (take_same HT.out hx hy)
          clear hx hy HT
          go_wp2_with fail
          go_quiet (fail)
          go_wp2
          go_roundw
          case rel => exact ⟨k + 1, _, by omega, by go_num, rfl, G⟩
          case measure => simp [intOf]; omega
        · have G := Lib.hid (eqL_at hx hy hxy)
          have t := bne_t hxy
          clear hx hy HT hxy
          go_wp2_with fail
          go_quiet (fail)
          go_wp2
          go_ret
          exact ⟨ret_bool G.out.symm, _, World.drewN_drewN ..⟩
      · obtain rfl : k = n := by omega
        have G := Lib.hid (eqL_end HT.out HL.out HL'.out)
        clear HT
        go_wp2
        go_ret
        exact ⟨ret_bool G.out.symm, _, rfl⟩
  · have G := Lib.hid (eqL_len (xs := xs) (ys := ys) (by rw [HL.out, HL'.out]; exact hnn))
    have t := bne_t (show (n : Int) ≠ (n' : Int) by omega)
    clear hnn
    go_enter Try.func27, Try.ntmps27
    go_wp2
    go_ret
    exact ⟨ret_bool G.out.symm, 0, rfl⟩

/-- a list in memory -/
def Lst (w : World) (A : Option Addr) (L : List Int) : Prop := Row w w.heap.size A (ints L)
theorem Lst.next {w w' : World} {A : Option Addr} {L : List Int} (h : Lst w A L) (b : Below w.heap.size w w') : Lst w' A L := (Row.below h b (Nat.le_refl _)).more b.size
theorem Lst.drew {w : World} {A : Option Addr} {L : List Int} (h : Lst w A L) (n : Nat) : Lst (w.drewN n) A L := h
theorem Lst.redrew {w : World} {A : Option Addr} {L : List Int} {a : Nat} (h : Lst (w.drewN a) A L) (n : Nat) : Lst (w.drewN (a + n)) A L := h
theorem below_redrewN {B : Nat} {a w : World} {m : Nat} (h : Below B a (w.drewN m)) (n : Nat) : Below B a (w.drewN (m + n)) := below_drewN (w := w) ⟨h.os, h.tape, h.output, h.size, h.block⟩ _
theorem Src.drew {w : World} {T : TypeId} {G B : Nat} {xs : List Int} (s : Src w T G B xs) (n : Nat) : Src (w.drewN n) T G B xs := s
theorem Src.redrew {w : World} {T : TypeId} {G B a : Nat} {xs : List Int} (s : Src (w.drewN a) T G B xs) (n : Nat) : Src (w.drewN (a + n)) T G B xs := s
theorem Lst.alloc {w : World} {A : Option Addr} {L : List Int} (h : Lst w A L) (o : Obj) : Lst (w.alloc o) A L := h.next ((Below.refl _ _).alloc (Nat.le_refl _) _)
theorem Lst.only {w w' : World} {A : Option Addr} {L : List Int} {G B : Nat} (h : Row w B A (ints L)) (hB : B ≤ w.heap.size) (k : w.grownBy w' (some G)) (hG : B ≤ G) : Lst w' A L := (Row.only h k hG).more (Nat.le_trans hB k.size)
theorem below_step {B : Nat} {a w w' : World} (h : Below B a w) (hB : B ≤ w.heap.size) (k : Below w.heap.size w w') : Below B a w' := h.trans (k.mono hB)
/-- a list in memory below B -/
def Low (w : World) (B : Nat) (A : Option Addr) (L : List Int) : Prop := Row w B A (ints L) ∧ B ≤ w.heap.size
theorem Low.of {w : World} {A : Option Addr} {L : List Int} (h : Lst w A L) : Low w w.heap.size A L := ⟨h, Nat.le_refl _⟩
theorem Low.next {w w' : World} {B : Nat} {A : Option Addr} {L : List Int} (h : Low w B A L) (b : Below w.heap.size w w') : Low w' B A L := ⟨Row.below h.1 b h.2, Nat.le_trans h.2 b.size⟩
theorem Low.drew {w : World} {B : Nat} {A : Option Addr} {L : List Int} (h : Low w B A L) (n : Nat) : Low (w.drewN n) B A L := h
theorem Low.redrew {w : World} {B a : Nat} {A : Option Addr} {L : List Int} (h : Low (w.drewN a) B A L) (n : Nat) : Low (w.drewN (a + n)) B A L := h
theorem Low.only {w w' : World} {B G : Nat} {A : Option Addr} {L : List Int} (h : Low w B A L) (k : w.grownBy w' (some G)) (hG : B ≤ G) : Low w' B A L := ⟨Row.only h.1 k hG, Nat.le_trans h.2 k.size⟩
theorem Low.lst {w : World} {B : Nat} {A : Option Addr} {L : List Int} (h : Low w B A L) : Lst w A L := Row.more h.1 h.2
theorem likeInts_yes (A A' : Option Addr) (n n' c c' : Nat) (xs ys : List Int) (w : World) (e : xs = ys) (hl : xs.length = n) (hl' : ys.length = n') (hn : n ≤ 1048576) (h : Lst w A xs) (h' : Lst w A' ys) :
    Calls Try.prog 27 #[.slice A n c, .slice A' n' c'] w fun e w' => e = .returned (.bool true) ∧ ∃ m, w' = w.drewN m := by
  subst e
  refine (likeInts_any A A' n n' c c' _ _ xs xs w hl hl' (by omega) (by omega) h h').mono ?_
  rintro e w' ⟨rfl, m, rfl⟩
  exact ⟨by rw [eqL_self], m, rfl⟩
end Go.Proofs.Ytjmjdcfgbaepkaa
/-
  What contracts give, taken out for the walks of laws: a list or a number beside a code.
-/
namespace Go.Proofs.Ytjmjdcfgbaepkaa
open Go.RowKit Fld
set_option linter.unusedVariables false
set_option linter.unusedSimpArgs false
set_option maxRecDepth 100000

theorem resL_out {a : List Int} {k : Int} {r : List Int × Int} {w w' : World} {e : Ending} (h : ResL r w e w') (hr : r = (a, k)) : ∃ A c, e = .returned (.tuple #[.slice A a.length c, .int .i64 k]) ∧ Lst w' A a ∧ a.length ≤ c ∧ Below w.heap.size w w' := by
  subst hr
  obtain ⟨_, A, c, rfl, o1, hb⟩ := h
  exact ⟨A, c, rfl, row_of_own o1, (own_cap o1).1, hb⟩
theorem resI_out {x k : Int} {r : Int × Int} {w w' : World} {e : Ending} (h : ResI r w e w') (hr : r = (x, k)) : e = .returned (.tuple #[.int .i64 x, .int .i64 k]) ∧ Below w.heap.size w w' := by
  subst hr; exact h
end Go.Proofs.Ytjmjdcfgbaepkaa
/-
  Values of nested types in memory: numbers, structs, slices of those. What a call owns, what can be read, marks.
-/
namespace Go.Proofs.Ytjmjdcfgbaepkaa
open Go.RowKit Fld
set_option linter.unusedVariables false
set_option linter.unusedSimpArgs false
set_option maxRecDepth 100000

/-- the shape of a type: a number, a slice (its element type, the cells of an element), two parts of a struct -/
inductive Sh where
  | int : Sh
  | slc (T : TypeId) (k : Nat) (s : Sh) : Sh
  | pair (a b : Sh) : Sh
@[reducible] def Sh.Ty : Sh → Type
  | .int => Int
  | .slc _ _ s => List s.Ty
  | .pair a b => a.Ty × b.Ty
def blk (v : Value) : List Nat := match v.ownBlock with | some g => [g] | none => []
theorem blk_mem {v : Value} {g : Nat} : g ∈ blk v ↔ v.ownBlock = some g := by
  unfold blk
  cases h : v.ownBlock with
  | none => simp
  | some b => simp [eq_comm]
/-- the cells cs are the value x, whose blocks are B -/
def Own : (s : Sh) → List Value → s.Ty → List Nat → World → Prop
  | .int, cs, x, B, _ => cs = [.int .i64 x] ∧ B = []
  | .pair a b, cs, x, B, w => ∃ ca cb Ba Bb, cs = ca ++ cb ∧ B = Ba ++ Bb ∧ Own a ca x.1 Ba w ∧ Own b cb x.2 Bb w
  | .slc T k s, cs, xs, B, w => ∃ (v : Value) (css : List (List Value)) (Bs : List (List Nat)), cs = [v] ∧ w.ownsRow 0 T k v (xs : List s.Ty).length css.flatten ∧ B = blk v ++ Bs.flatten ∧ css.length = (xs : List s.Ty).length ∧ Bs.length = (xs : List s.Ty).length ∧
      (∀ c ∈ css, c.length = k) ∧ ∀ (i : Nat) (x : s.Ty), (xs : List s.Ty)[i]? = some x → ∃ (c : List Value) (b : List Nat), css[i]? = some c ∧ Bs[i]? = some b ∧ Own s c x b w
/-- what can be read, in blocks below hi -/
def Has : (s : Sh) → List Value → s.Ty → Nat → World → Prop
  | .int, cs, x, _, _ => cs = [.int .i64 x]
  | .pair a b, cs, x, hi, w => ∃ ca cb, cs = ca ++ cb ∧ Has a ca x.1 hi w ∧ Has b cb x.2 hi w
  | .slc _ k s, cs, xs, hi, w => ∃ (A : Option Addr) (c : Nat) (css : List (List Value)), cs = [.slice A (xs : List s.Ty).length c] ∧ (xs : List s.Ty).length ≤ c ∧ c ≤ maxLen ∧ Row w hi A css.flatten ∧ css.length = (xs : List s.Ty).length ∧
      (∀ c ∈ css, c.length = k) ∧ ∀ (i : Nat) (x : s.Ty), (xs : List s.Ty)[i]? = some x → ∃ (c : List Value), css[i]? = some c ∧ Has s c x hi w

theorem ownsRow_keep {w w' : World} {base k n : Nat} {T : TypeId} {v : Value} {vs : List Value} (h : w.ownsRow base T k v n vs) (hk : ∀ g ∈ blk v, w'.heap[g]? = w.heap[g]?) : w'.ownsRow base T k v n vs := by
  refine ⟨h.1, ?_⟩
  rcases h.2 with h1 | ⟨g, cap, cur, hv, hb, hg, r⟩
  · exact .inl h1
  · exact .inr ⟨g, cap, cur, hv, hb, by rw [hk g (blk_mem.2 (by rw [hv]; rfl))]; exact hg, r⟩
theorem Own.keep : ∀ {s : Sh} {cs : List Value} {x : s.Ty} {B : List Nat} {w w' : World}, Own s cs x B w → (∀ g ∈ B, w'.heap[g]? = w.heap[g]?) → Own s cs x B w'
  | .int, _, _, _, _, _, h, _ => by unfold Own at h ⊢; exact h
  | .pair _ _, _, _, _, _, _, h, hk => by
    obtain ⟨ca, cb, Ba, Bb, e1, e2, h1, h2⟩ := h
    exact ⟨ca, cb, Ba, Bb, e1, e2, h1.keep (fun g hg => hk g (by rw [e2]; simp [hg])), h2.keep (fun g hg => hk g (by rw [e2]; simp [hg]))⟩
  | .slc _ _ _, _, _, _, _, _, h, hk => by
    obtain ⟨v, css, Bs, e1, h1, e2, h2, h3, h4, h5⟩ := h
    refine ⟨v, css, Bs, e1, ownsRow_keep h1 (fun g hg => hk g (by rw [e2]; simp [hg])), e2, h2, h3, h4, fun i x hx => ?_⟩
    obtain ⟨c, b, q1, q2, q3⟩ := h5 i x hx
    exact ⟨c, b, q1, q2, q3.keep (fun g hg => hk g (by rw [e2, List.mem_append, List.mem_flatten]; exact .inr ⟨b, List.mem_of_getElem? q2, hg⟩))⟩
def Sh.wid : Sh → Nat
  | .int => 1
  | .slc _ _ _ => 1
  | .pair a b => a.wid + b.wid
theorem Own.len : ∀ {s : Sh} {cs : List Value} {x : s.Ty} {B : List Nat} {w : World}, Own s cs x B w → cs.length = s.wid
  | .int, _, _, _, _, h => by unfold Own at h; rw [h.1]; rfl
  | .pair _ _, _, _, _, _, h => by
    obtain ⟨ca, cb, Ba, Bb, e1, e2, h1, h2⟩ := h
    rw [e1, List.length_append, h1.len, h2.len]; rfl
  | .slc _ _ _, _, _, _, _, h => by
    obtain ⟨v, css, Bs, e1, _⟩ := h
    rw [e1]; rfl
theorem Own.lt : ∀ {s : Sh} {cs : List Value} {x : s.Ty} {B : List Nat} {w : World}, Own s cs x B w → ∀ g ∈ B, g < w.heap.size
  | .int, _, _, _, _, h, g, hg => by unfold Own at h; rw [h.2] at hg; cases hg
  | .pair _ _, _, _, _, _, h, g, hg => by
    obtain ⟨ca, cb, Ba, Bb, e1, e2, h1, h2⟩ := h
    rw [e2, List.mem_append] at hg
    rcases hg with hg | hg
    · exact h1.lt g hg
    · exact h2.lt g hg
  | .slc _ _ _, _, xs, _, _, h, g, hg => by
    obtain ⟨v, css, Bs, e1, h1, e2, h2, h3, h4, h5⟩ := h
    rw [e2, List.mem_append, List.mem_flatten] at hg
    rcases hg with hg | ⟨b, hb, hg⟩
    · exact (h1.lt g (blk_mem.1 hg)).2
    · obtain ⟨i, hi⟩ := List.mem_iff_getElem?.1 hb
      have hil : i < (xs : List _).length := by
        rw [← h3]
        rcases Nat.lt_or_ge i Bs.length with q | q
        · exact q
        · rw [List.getElem?_eq_none q] at hi; cases hi
      obtain ⟨c, b', q1, q2, q3⟩ := h5 i _ (List.getElem?_eq_getElem hil)
      rw [hi] at q2; injection q2 with q2
      subst q2
      exact q3.lt g hg

/-! cells of elements -/
theorem flat_at : ∀ {css : List (List Value)} {k i j : Nat} {c : List Value}, (∀ c ∈ css, c.length = k) → css[i]? = some c → j < k → css.flatten[i * k + j]? = c[j]?
  | [], _, _, _, _, _, h, _ => by simp at h
  | d :: r, k, 0, j, c, hk, h, hj => by
    simp only [List.getElem?_cons_zero, Option.some.injEq] at h
    subst h
    rw [List.flatten_cons, Nat.zero_mul, Nat.zero_add, List.getElem?_append_left (by rw [hk d (by simp)]; exact hj)]
  | d :: r, k, i+1, j, c, hk, h, hj => by
    simp only [List.getElem?_cons_succ] at h
    have e := hk d (by simp)
    rw [List.flatten_cons, List.getElem?_append_right (by rw [e, Nat.succ_mul]; omega), e, show (i + 1) * k + j - k = i * k + j from by rw [Nat.succ_mul]; omega]
    exact flat_at (fun c hc => hk c (by simp [hc])) h hj
theorem flat_set : ∀ {css : List (List Value)} {k i j : Nat} {c : List Value} {u : Value}, (∀ c ∈ css, c.length = k) → css[i]? = some c → j < k → css.flatten.set (i * k + j) u = (css.set i (c.set j u)).flatten
  | [], _, _, _, _, _, _, h, _ => by simp at h
  | d :: r, k, 0, j, c, u, hk, h, hj => by
    simp only [List.getElem?_cons_zero, Option.some.injEq] at h
    subst h
    rw [List.flatten_cons, Nat.zero_mul, Nat.zero_add, List.set_append, if_pos (by rw [hk d (by simp)]; exact hj), List.set_cons_zero, List.flatten_cons]
  | d :: r, k, i+1, j, c, u, hk, h, hj => by
    simp only [List.getElem?_cons_succ] at h
    have e := hk d (by simp)
    rw [List.flatten_cons, List.set_append, if_neg (by rw [e, Nat.succ_mul]; omega), e, show (i + 1) * k + j - k = i * k + j from by rw [Nat.succ_mul]; omega, List.set_cons_succ, List.flatten_cons, flat_set (fun c hc => hk c (by simp [hc])) h hj]
theorem flat_len : ∀ {css : List (List Value)} {k : Nat}, (∀ c ∈ css, c.length = k) → css.flatten.length = css.length * k
  | [], k, _ => by simp
  | d :: r, k, h => by rw [List.flatten_cons, List.length_append, h d (by simp), flat_len (fun c hc => h c (by simp [hc])), List.length_cons, Nat.succ_mul]; omega
theorem flat_nodup_mem : ∀ {Bs : List (List Nat)} {i j : Nat} {b b' : List Nat} {g : Nat}, Bs.flatten.Nodup → Bs[i]? = some b → Bs[j]? = some b' → i ≠ j → g ∈ b → g ∉ b'
  | [], _, _, _, _, _, _, h, _, _, _ => by simp at h
  | d :: r, 0, 0, _, _, _, _, _, _, h, _ => absurd rfl h
  | d :: r, 0, j+1, b, b', g, hn, h1, h2, _, hg => by
    simp only [List.getElem?_cons_zero, Option.some.injEq, List.getElem?_cons_succ] at h1 h2
    subst h1
    rw [List.flatten_cons, List.nodup_append] at hn
    exact fun hg' => hn.2.2 g hg g (List.mem_flatten.2 ⟨b', List.mem_of_getElem? h2, hg'⟩) rfl
  | d :: r, i+1, 0, b, b', g, hn, h1, h2, _, hg => by
    simp only [List.getElem?_cons_zero, Option.some.injEq, List.getElem?_cons_succ] at h1 h2
    subst h2
    rw [List.flatten_cons, List.nodup_append] at hn
    exact fun hg' => hn.2.2 g hg' g (List.mem_flatten.2 ⟨b, List.mem_of_getElem? h1, hg⟩) rfl
  | d :: r, i+1, j+1, b, b', g, hn, h1, h2, hne, hg => by
    simp only [List.getElem?_cons_succ] at h1 h2
    rw [List.flatten_cons, List.nodup_append] at hn
    exact flat_nodup_mem hn.2.1 h1 h2 (fun e => hne (by rw [e])) hg
theorem flat_nodup_one {Bs : List (List Nat)} {i : Nat} {b : List Nat} (hn : Bs.flatten.Nodup) (h : Bs[i]? = some b) : b.Nodup := by
  induction Bs generalizing i with
  | nil => simp at h
  | cons d r ih =>
    rw [List.flatten_cons, List.nodup_append] at hn
    cases i with
    | zero => simp only [List.getElem?_cons_zero, Option.some.injEq] at h; subst h; exact hn.1
    | succ i => simp only [List.getElem?_cons_succ] at h; exact ih hn.2.1 h
/-- what a slice is: no element and nil, or a block -/
theorem ownsRow_form {w : World} {base k n : Nat} {T : TypeId} {v : Value} {vs : List Value} (h : w.ownsRow base T k v n vs) : ∃ A c, v = .slice A n c ∧ n ≤ c ∧ c ≤ maxLen := by
  rcases h.2 with ⟨h1, h2⟩ | ⟨g, cap, cur, hv, _, _, h3, h4, _⟩
  · exact ⟨none, 0, by rw [h1, h2], by omega, Nat.zero_le _⟩
  · exact ⟨_, cap, hv, h3, h4⟩
/-- an element of a slice that is owned, and the ways to put it back -/
theorem Own.child {T : TypeId} {k : Nat} {s : Sh} {v : Value} {xs : List s.Ty} {B : List Nat} {w : World} (h : Own (.slc T k s) [v] xs B w) (hn : B.Nodup) {i : Nat} {x : s.Ty} (hx : xs[i]? = some x) :
    ∃ g cap c b, v = .slice (some ⟨g, 0, none⟩) xs.length cap ∧ Own s c x b w ∧ c.length = k ∧ (∀ j u, c[j]? = some u → w.cell? ⟨g, i * k + j, none⟩ = some u) ∧ (∀ j, w.frozen? ⟨g, j, none⟩ = false) ∧ g ∈ B ∧ (∀ q ∈ b, q ∈ B) ∧ b.Nodup ∧ g ∉ b ∧
      (∀ x' w', Own s c x' b w' → (∀ q ∈ B, q ∉ b → w'.heap[q]? = w.heap[q]?) → Own (.slc T k s) [v] (xs.set i x') B w') ∧
      (∀ j u x', j < k → Own s (c.set j u) x' b w → Own (.slc T k s) [v] (xs.set i x') B (w.setCell ⟨g, i * k + j, none⟩ u)) := by
  obtain ⟨v0, css, Bs, e1, h1, e2, h2, h3, h4, h5⟩ := h
  injection e1 with e1 _
  subst e1
  have hil : i < xs.length := by
    rcases Nat.lt_or_ge i xs.length with q | q
    · exact q
    · rw [List.getElem?_eq_none q] at hx; cases hx
  rcases h1.2 with ⟨_, h0⟩ | ⟨g, cap, cur, hv, _, hg, hcap⟩
  · omega
  obtain ⟨c, b, q1, q2, q3⟩ := h5 i x hx
  have hck := h4 c (List.mem_of_getElem? q1)
  subst hv
  have hgB : g ∈ B := by rw [e2, List.mem_append]; exact .inl (blk_mem.2 rfl)
  have hbB : ∀ q ∈ b, q ∈ B := fun q hq => by rw [e2, List.mem_append, List.mem_flatten]; exact .inr ⟨b, List.mem_of_getElem? q2, hq⟩
  have hn2 : (blk (.slice (some ⟨g, 0, none⟩) xs.length cap) ++ Bs.flatten).Nodup := by rw [← e2]; exact hn
  rw [List.nodup_append] at hn2
  have hgb : g ∉ Bs.flatten := fun hq => hn2.2.2 g (blk_mem.2 rfl) g hq rfl
  have hgb1 : g ∉ b := fun hq => hgb (List.mem_flatten.2 ⟨b, List.mem_of_getElem? q2, hq⟩)
  refine ⟨g, cap, c, b, rfl, q3, hck, fun j u hu => ?_, fun j => h1.frozenAt j, hgB, hbB, flat_nodup_one hn2.2.1 q2, hgb1, fun x' w' ho hk => ?_, fun j u x' hj ho => ?_⟩
  · have hjk : j < k := by
      rcases Nat.lt_or_ge j k with q | q
      · exact q
      · rw [List.getElem?_eq_none (by omega)] at hu; cases hu
    have hlt : i * k + j < xs.length * k := by
      have : (i + 1) * k ≤ xs.length * k := Nat.mul_le_mul_right k hil
      rw [Nat.succ_mul] at this; omega
    rw [h1.cellAt _ hlt, flat_at h4 q1 hjk]; exact hu
  · refine ⟨_, css, Bs, rfl, ?_, e2, by rw [List.length_set]; exact h2, by rw [List.length_set]; exact h3, h4, fun m y hy => ?_⟩
    · rw [List.length_set]
      exact ownsRow_keep h1 (fun q hq => hk q (by rw [e2]; simp [hq]) (fun hqb => by
        have := blk_mem.1 hq
        have e : g = q := by simpa [Value.ownBlock] using this
        exact hgb1 (e ▸ hqb)))
    · by_cases hmi : i = m
      · subst hmi
        rw [List.getElem?_set_self hil] at hy
        injection hy with hy
        subst hy
        exact ⟨c, b, q1, q2, ho⟩
      · rw [List.getElem?_set_ne hmi] at hy
        obtain ⟨c', b', r1, r2, r3⟩ := h5 m y hy
        exact ⟨c', b', r1, r2, r3.keep (fun q hq => hk q (by rw [e2, List.mem_append, List.mem_flatten]; exact .inr ⟨b', List.mem_of_getElem? r2, hq⟩) (fun hqb => flat_nodup_mem hn2.2.1 q2 r2 hmi hqb hq))⟩
  · have hs := h1.stored (i * k + j) u
    rw [flat_set h4 q1 hj] at hs
    have hkeep : ∀ q, q ≠ g → (w.setCell ⟨g, i * k + j, none⟩ u).heap[q]? = w.heap[q]? := fun q hq => Below.heap_setCell _ _ _ q hq
    refine ⟨_, css.set i (c.set j u), Bs, rfl, ?_, e2, by rw [List.length_set, List.length_set]; exact h2, by rw [List.length_set]; exact h3, fun d hd => ?_, fun m y hy => ?_⟩
    · rw [List.length_set]; exact hs.1
    · rcases List.mem_or_eq_of_mem_set hd with hd | hd
      · exact h4 d hd
      · rw [hd, List.length_set]; exact hck
    · by_cases hmi : i = m
      · subst hmi
        rw [List.getElem?_set_self hil] at hy
        injection hy with hy
        subst hy
        exact ⟨_, b, List.getElem?_set_self (by rw [h2]; exact hil), q2, ho.keep (fun q hq => hkeep q (fun e => hgb1 (e ▸ hq)))⟩
      · rw [List.getElem?_set_ne hmi] at hy
        obtain ⟨c', b', r1, r2, r3⟩ := h5 m y hy
        refine ⟨c', b', by rw [List.getElem?_set_ne hmi]; exact r1, r2, r3.keep (fun q hq => hkeep q (fun e => hgb (by rw [← e]; exact List.mem_flatten.2 ⟨b', List.mem_of_getElem? r2, hq⟩)))⟩
/-- an element is added behind the last one -/
theorem Own.push {T : TypeId} {k : Nat} {s : Sh} {v v2 : Value} {xs : List s.Ty} {x : s.Ty} {B b : List Nat} {c : List Value} {css0 : List Value} {w w2 : World} (h : Own (.slc T k s) [v] xs B w) (ho : Own s c x b w) (hck : c.length = k) (hn : (B ++ b).Nodup)
    (h2 : ∀ vs, w.ownsRow 0 T k v xs.length vs → w2.ownsRow 0 T k v2 (xs.length + 1) (vs ++ c)) (hk : ∀ q ∈ B ++ b, q ∉ blk v → w2.heap[q]? = w.heap[q]?) : ∃ B2, Own (.slc T k s) [v2] (xs ++ [x]) B2 w2 ∧ (∀ q ∈ B2, q ∈ blk v2 ∨ q ∈ B ++ b) ∧ ((∀ q ∈ blk v2, q ∈ blk v ∨ q ∉ B ++ b) → B2.Nodup) := by
  obtain ⟨v0, css, Bs, e1, h1, e2, h3, h4, h5, h6⟩ := h
  injection e1 with e1 _
  subst e1
  have hn0 := hn
  rw [e2] at hn0
  rw [List.append_assoc, List.nodup_append] at hn0
  have hdis : ∀ q ∈ Bs.flatten ++ b, q ∉ blk v := fun q hq hq' => hn0.2.2 q hq' q hq rfl
  refine ⟨blk v2 ++ (Bs ++ [b]).flatten, ⟨v2, css ++ [c], Bs ++ [b], rfl, ?_, rfl, by simp [h3], by simp [h4], fun d hd => ?_, fun i y hy => ?_⟩, fun q hq => ?_, fun hq => ?_⟩
  · have := h2 _ h1
    simpa using this
  · rw [List.mem_append, List.mem_singleton] at hd
    rcases hd with hd | hd
    · exact h5 d hd
    · rw [hd]; exact hck
  · rcases Nat.lt_or_ge i xs.length with q | q
    · rw [List.getElem?_append_left q] at hy
      obtain ⟨c', b', r1, r2, r3⟩ := h6 i y hy
      refine ⟨c', b', by rw [List.getElem?_append_left (by omega)]; exact r1, by rw [List.getElem?_append_left (by omega)]; exact r2, r3.keep (fun z hz => ?_)⟩
      have hz' : z ∈ Bs.flatten := List.mem_flatten.2 ⟨b', List.mem_of_getElem? r2, hz⟩
      exact hk z (by rw [e2]; simp [hz']) (hdis z (by simp [hz']))
    · rw [List.getElem?_append_right q] at hy
      have hx0 : i - xs.length = 0 := by
        rcases Nat.eq_zero_or_pos (i - xs.length) with y | y
        · exact y
        · rw [List.getElem?_eq_none (by simp; omega)] at hy; cases hy
      rw [hx0] at hy
      simp only [List.getElem?_cons_zero, Option.some.injEq] at hy
      subst hy
      exact ⟨c, b, by rw [List.getElem?_append_right (by omega), h3, hx0]; rfl, by rw [List.getElem?_append_right (by omega), h4, hx0]; rfl, ho.keep (fun z hz => hk z (by simp [hz]) (hdis z (by simp [hz])))⟩
  · rw [List.flatten_append, List.mem_append, List.mem_append] at hq
    simp only [List.flatten_cons, List.flatten_nil, List.append_nil] at hq
    rcases hq with hq | hq | hq
    · exact .inl hq
    · exact .inr (by rw [e2]; simp [hq])
    · exact .inr (by simp [hq])
  · have e : (Bs ++ [b]).flatten = Bs.flatten ++ b := by simp
    rw [e, List.nodup_append]
    refine ⟨?_, hn0.2.1, fun q h1 q' h2 hqq => ?_⟩
    · unfold blk; split <;> simp
    · subst hqq
      rcases hq q h1 with r | r
      · exact hdis q h2 r
      · exact r (by rw [e2, List.append_assoc, List.mem_append]; exact .inr h2)
end Go.Proofs.Ytjmjdcfgbaepkaa
/-
  Values of nested types in memory: what can be read, ranges of blocks, rows of numbers among them, marks.
-/
namespace Go.Proofs.Ytjmjdcfgbaepkaa
open Go.RowKit Fld
set_option linter.unusedVariables false
set_option linter.unusedSimpArgs false
set_option maxRecDepth 100000

/-! reading -/
theorem Has.keep : ∀ {s : Sh} {cs : List Value} {x : s.Ty} {hi : Nat} {w w' : World}, Has s cs x hi w → (∀ g, g < hi → w'.heap[g]? = w.heap[g]?) → Has s cs x hi w'
  | .int, _, _, _, _, _, h, _ => by unfold Has at h ⊢; exact h
  | .pair _ _, _, _, _, _, _, h, hk => by
    obtain ⟨ca, cb, e1, h1, h2⟩ := h
    exact ⟨ca, cb, e1, h1.keep hk, h2.keep hk⟩
  | .slc _ _ _, _, _, _, _, _, h, hk => by
    obtain ⟨A, c, css, e1, h1, h2, h3, h4, h5, h6⟩ := h
    refine ⟨A, c, css, e1, h1, h2, Row.keep h3 (fun b o hb => World.cell?_of_block (hk b hb)), h4, h5, fun i x hx => ?_⟩
    obtain ⟨c', q1, q2⟩ := h6 i x hx
    exact ⟨c', q1, q2.keep hk⟩
theorem Has.more : ∀ {s : Sh} {cs : List Value} {x : s.Ty} {hi hi' : Nat} {w : World}, Has s cs x hi w → hi ≤ hi' → Has s cs x hi' w
  | .int, _, _, _, _, _, h, _ => by unfold Has at h ⊢; exact h
  | .pair _ _, _, _, _, _, _, h, hk => by
    obtain ⟨ca, cb, e1, h1, h2⟩ := h
    exact ⟨ca, cb, e1, h1.more hk, h2.more hk⟩
  | .slc _ _ _, _, _, _, _, _, h, hk => by
    obtain ⟨A, c, css, e1, h1, h2, h3, h4, h5, h6⟩ := h
    refine ⟨A, c, css, e1, h1, h2, Row.more h3 hk, h4, h5, fun i x hx => ?_⟩
    obtain ⟨c', q1, q2⟩ := h6 i x hx
    exact ⟨c', q1, q2.more hk⟩
theorem Has.below {s : Sh} {cs : List Value} {x : s.Ty} {hi B : Nat} {w w' : World} (h : Has s cs x hi w) (hb : Below B w w') (hB : hi ≤ B) : Has s cs x hi w' := h.keep fun g hg => hb.block g (by omega)
theorem Has.drewN {s : Sh} {cs : List Value} {x : s.Ty} {hi : Nat} {w : World} (h : Has s cs x hi w) (k : Nat) : Has s cs x hi (w.drewN k) := h.keep fun _ _ => rfl
theorem Has.within {s : Sh} {cs : List Value} {x : s.Ty} {hi lo' hi' : Nat} {w w' : World} (h : Has s cs x hi w) (hb : Within lo' hi' w w') (hs : hi ≤ w.heap.size) (hd : hi ≤ lo') : Has s cs x hi w' := h.keep fun g hg => hb.block g (by omega) (by omega)
theorem Own.has : ∀ {s : Sh} {cs : List Value} {x : s.Ty} {B : List Nat} {w : World} {hi : Nat}, Own s cs x B w → (∀ g ∈ B, g < hi) → Has s cs x hi w
  | .int, _, _, _, _, _, h, _ => by unfold Own at h; unfold Has; exact h.1
  | .pair _ _, _, _, _, _, _, h, hk => by
    obtain ⟨ca, cb, Ba, Bb, e1, e2, h1, h2⟩ := h
    exact ⟨ca, cb, e1, h1.has (fun g hg => hk g (by rw [e2]; simp [hg])), h2.has (fun g hg => hk g (by rw [e2]; simp [hg]))⟩
  | .slc T k s, _, xs, B, w, hi, h, hk => by
    obtain ⟨v, css, Bs, e1, h1, e2, h2, h3, h4, h5⟩ := h
    obtain ⟨A, c, hv, hc, hm⟩ := ownsRow_form h1
    subst hv
    refine ⟨A, c, css, e1, hc, hm, fun j u hu => ?_, h2, h4, fun i x hx => ?_⟩
    · rcases h1.2 with ⟨hA, h0⟩ | ⟨g, cap, cur, hA, _, hg, _⟩
      · have e0 := h1.1
        rw [h0, Nat.zero_mul] at e0
        rw [List.eq_nil_of_length_eq_zero e0] at hu
        simp at hu
      · injection hA with a1 a2 a3
        subst a1 a3
        have hjl : j < xs.length * k := by
          rw [← h1.1]
          rcases Nat.lt_or_ge j css.flatten.length with q | q
          · exact q
          · rw [List.getElem?_eq_none q] at hu; cases hu
        refine ⟨g, 0, rfl, hk g (by rw [e2, List.mem_append]; exact .inl (blk_mem.2 rfl)), ?_⟩
        rw [Nat.zero_add, h1.cellAt j hjl]; exact hu
    · obtain ⟨c', b, q1, q2, q3⟩ := h5 i x hx
      exact ⟨c', q1, q3.has (fun g hg => hk g (by rw [e2, List.mem_append, List.mem_flatten]; exact .inr ⟨b, List.mem_of_getElem? q2, hg⟩))⟩
/-- an element of a slice that can be read -/
theorem Has.child {T : TypeId} {k : Nat} {s : Sh} {A : Option Addr} {n cap : Nat} {xs : List s.Ty} {hi : Nat} {w : World} (h : Has (.slc T k s) [.slice A n cap] xs hi w) (hk : 0 < k) {i : Nat} {x : s.Ty} (hx : xs[i]? = some x) :
    ∃ b o c, A = some ⟨b, o, none⟩ ∧ b < hi ∧ c.length = k ∧ (∀ j u, c[j]? = some u → w.cell? ⟨b, o + (i * k + j), none⟩ = some u) ∧ Has s c x hi w := by
  obtain ⟨A', c', css, e1, h1, h2, h3, h4, h5, h6⟩ := h
  injection e1 with e1 _
  injection e1 with a1 a2 a3
  subst a1 a3
  obtain ⟨c, q1, q2⟩ := h6 i x hx
  have hck := h5 c (List.mem_of_getElem? q1)
  have h0 := flat_at h5 q1 hk
  obtain ⟨u0, hu0⟩ : ∃ u, c[0]? = some u := ⟨_, List.getElem?_eq_getElem (by omega)⟩
  rw [hu0] at h0
  obtain ⟨b, o, e, hb, _⟩ := h3 _ _ h0
  refine ⟨b, o, c, e, hb, hck, fun j u hu => ?_, q2⟩
  have hjk : j < k := by
    rcases Nat.lt_or_ge j k with q | q
    · exact q
    · rw [List.getElem?_eq_none (by omega)] at hu; cases hu
  have hj := flat_at h5 q1 hjk
  rw [hu] at hj
  obtain ⟨b', o', e', _, hc⟩ := h3 _ _ hj
  rw [e] at e'
  injection e' with e'
  injection e' with r1 r2
  subst r1 r2
  exact hc
theorem Has.len {T : TypeId} {k : Nat} {s : Sh} {A : Option Addr} {n cap : Nat} {xs : List s.Ty} {hi : Nat} {w : World} (h : Has (.slc T k s) [.slice A n cap] xs hi w) : xs.length = n ∧ n ≤ cap ∧ cap ≤ maxLen := by
  obtain ⟨A', c', css, e1, h1, h2, _⟩ := h
  injection e1 with e1 _
  injection e1 with a1 a2 a3
  exact ⟨a2.symm, by omega, by omega⟩
theorem Has.pair_parts {a b : Sh} {cs : List Value} {x : (Sh.pair a b).Ty} {hi : Nat} {w : World} (h : Has (.pair a b) cs x hi w) : ∃ ca cb, cs = ca ++ cb ∧ Has a ca x.1 hi w ∧ Has b cb x.2 hi w := h
theorem Has.int_eq {cs : List Value} {x : Int} {hi : Nat} {w : World} (h : Has .int cs x hi w) : cs = [.int .i64 x] := by unfold Has at h; exact h
theorem Has.slc_one {T : TypeId} {k : Nat} {s : Sh} {cs : List Value} {xs : List s.Ty} {hi : Nat} {w : World} (h : Has (.slc T k s) cs xs hi w) : ∃ A c, cs = [.slice A xs.length c] := by
  obtain ⟨A, c, css, e1, _⟩ := h
  exact ⟨A, c, e1⟩
theorem Own.int_eq {cs : List Value} {x : Int} {B : List Nat} {w : World} (h : Own .int cs x B w) : cs = [.int .i64 x] ∧ B = [] := by unfold Own at h; exact h
theorem Own.int_mk (x : Int) (w : World) : Own .int [.int .i64 x] x [] w := ⟨rfl, rfl⟩
theorem Own.slc_one {T : TypeId} {k : Nat} {s : Sh} {cs : List Value} {xs : List s.Ty} {B : List Nat} {w : World} (h : Own (.slc T k s) cs xs B w) : ∃ A c, cs = [.slice A xs.length c] ∧ xs.length ≤ c ∧ c ≤ maxLen := by
  obtain ⟨v, css, Bs, e1, h1, _⟩ := h
  obtain ⟨A, c, hv, hc⟩ := ownsRow_form h1
  exact ⟨A, c, by rw [e1, hv], hc⟩

/-! rows of numbers -/
abbrev ShL : Sh := .slc 2 1 .int
theorem flat_ones (xs : List Int) : ((ints xs).map fun v => [v]).flatten = ints xs := by
  induction xs with
  | nil => rfl
  | cons x r ih => simp only [ints, intsK, List.map_cons, List.flatten_cons] at ih ⊢; rw [ih]; rfl
theorem Own.of_row {w : World} {base n : Nat} {v : Value} {xs : List Int} (h : w.ownsRow base 2 1 v n (ints xs)) : Own ShL [v] xs (blk v) w := by
  have hl : xs.length = n := by have := h.1; rw [ints_length] at this; omega
  refine ⟨v, (ints xs).map fun v => [v], List.replicate xs.length [], rfl, ?_, by simp, by simp [ints_length], by simp, fun c hc => ?_, fun i x hx => ?_⟩
  · rw [flat_ones, hl]
    refine ⟨h.1, ?_⟩
    rcases h.2 with h1 | ⟨g, cap, cur, hv, hb, r⟩
    · exact .inl h1
    · exact .inr ⟨g, cap, cur, hv, Nat.zero_le _, r⟩
  · rw [List.mem_map] at hc
    obtain ⟨u, _, e⟩ := hc
    rw [← e]; rfl
  · have hil : i < xs.length := by
      rcases Nat.lt_or_ge i xs.length with q | q
      · exact q
      · rw [List.getElem?_eq_none q] at hx; cases hx
    exact ⟨[.int .i64 x], [], by rw [List.getElem?_map, ints_at hx]; rfl, by rw [List.getElem?_replicate, if_pos hil], Own.int_mk _ _⟩
theorem css_ints {xs : List Int} {css : List (List Value)} (h2 : css.length = xs.length) (h : ∀ (i : Nat) (x : Int), xs[i]? = some x → css[i]? = some [.int .i64 x]) : css = (ints xs).map fun v => [v] := by
  refine List.ext_getElem? fun i => ?_
  rcases Nat.lt_or_ge i xs.length with q | q
  · rw [h i _ (List.getElem?_eq_getElem q), List.getElem?_map, ints_at (List.getElem?_eq_getElem q)]; rfl
  · rw [List.getElem?_eq_none (by omega), List.getElem?_eq_none (by simp [ints_length]; omega)]
theorem Own.row {w : World} {v : Value} {xs : List Int} {B : List Nat} (h : Own ShL [v] xs B w) : w.ownsRow 0 2 1 v xs.length (ints xs) ∧ B = blk v := by
  obtain ⟨v', css, Bs, e1, h1, e2, h2, h3, h4, h5⟩ := h
  injection e1 with e1 _
  subst e1
  have hc : css = (ints xs).map fun v => [v] := css_ints h2 fun i x hx => by
    obtain ⟨c, b, q1, q2, q3⟩ := h5 i x hx
    rw [q1, q3.int_eq.1]
  have hb : Bs.flatten = [] := by
    rw [List.flatten_eq_nil_iff]
    intro b hb
    obtain ⟨i, hi⟩ := List.mem_iff_getElem?.1 hb
    have hil : i < xs.length := by
      rw [← h3]
      rcases Nat.lt_or_ge i Bs.length with q | q
      · exact q
      · rw [List.getElem?_eq_none q] at hi; cases hi
    obtain ⟨c, b', q1, q2, q3⟩ := h5 i _ (List.getElem?_eq_getElem hil)
    rw [hi] at q2
    injection q2 with q2
    rw [q2, q3.int_eq.2]
  rw [hc, flat_ones] at h1
  rw [hb, List.append_nil] at e2
  exact ⟨h1, e2⟩
theorem Has.row {w : World} {A : Option Addr} {n c hi : Nat} {xs : List Int} (h : Has ShL [.slice A n c] xs hi w) : xs.length = n ∧ n ≤ c ∧ c ≤ maxLen ∧ Row w hi A (ints xs) := by
  have hl := h.len
  obtain ⟨A', c', css, e1, h1, h2, h3, h4, h5, h6⟩ := h
  injection e1 with e1 _
  injection e1 with a1 a2 a3
  subst a1
  have hc : css = (ints xs).map fun v => [v] := css_ints h4 fun i x hx => by
    obtain ⟨c, q1, q3⟩ := h6 i x hx
    rw [q1, q3.int_eq]
  rw [hc, flat_ones] at h3
  exact ⟨hl.1, hl.2.1, hl.2.2, h3⟩
theorem Has.of_row {w : World} {A : Option Addr} {n c hi : Nat} {xs : List Int} (hl : xs.length = n) (hc : n ≤ c) (hm : c ≤ maxLen) (h : Row w hi A (ints xs)) : Has ShL [.slice A n c] xs hi w := by
  subst hl
  refine ⟨A, c, (ints xs).map fun v => [v], rfl, hc, hm, by rw [flat_ones]; exact h, by simp [ints_length], fun c hc => ?_, fun i x hx => ?_⟩
  · rw [List.mem_map] at hc
    obtain ⟨u, _, e⟩ := hc
    rw [← e]; rfl
  · exact ⟨[.int .i64 x], by rw [List.getElem?_map, ints_at hx]; rfl, by unfold Has; rfl⟩

/-! ranges of blocks -/
def OwnD (s : Sh) (lo hi : Nat) (cs : List Value) (x : s.Ty) (w : World) : Prop := ∃ B, Own s cs x B w ∧ B.Nodup ∧ ∀ g ∈ B, lo ≤ g ∧ g < hi
theorem OwnD.keep {s : Sh} {lo hi : Nat} {cs : List Value} {x : s.Ty} {w w' : World} (h : OwnD s lo hi cs x w) (hk : ∀ g, lo ≤ g → g < hi → w'.heap[g]? = w.heap[g]?) : OwnD s lo hi cs x w' := by
  obtain ⟨B, h1, h2, h3⟩ := h
  exact ⟨B, h1.keep (fun g hg => hk g (h3 g hg).1 (h3 g hg).2), h2, h3⟩
theorem OwnD.below {s : Sh} {lo hi B : Nat} {cs : List Value} {x : s.Ty} {w w' : World} (h : OwnD s lo hi cs x w) (hb : Below B w w') (hB : hi ≤ B) : OwnD s lo hi cs x w' := h.keep fun g _ hg => hb.block g (by omega)
theorem OwnD.within {s : Sh} {lo hi lo' hi' : Nat} {cs : List Value} {x : s.Ty} {w w' : World} (h : OwnD s lo hi cs x w) (hb : Within lo' hi' w w') (hs : hi ≤ w.heap.size) (hd : hi ≤ lo' ∨ hi' ≤ lo) : OwnD s lo hi cs x w' :=
  h.keep fun g h1 h2 => hb.block g (by omega) (by omega)
theorem OwnD.more {s : Sh} {lo hi lo' hi' : Nat} {cs : List Value} {x : s.Ty} {w : World} (h : OwnD s lo hi cs x w) (h1 : lo' ≤ lo) (h2 : hi ≤ hi') : OwnD s lo' hi' cs x w := by
  obtain ⟨B, q1, q2, q3⟩ := h
  exact ⟨B, q1, q2, fun g hg => by have := q3 g hg; omega⟩
theorem OwnD.drewN {s : Sh} {lo hi : Nat} {cs : List Value} {x : s.Ty} {w : World} (h : OwnD s lo hi cs x w) (k : Nat) : OwnD s lo hi cs x (w.drewN k) := h.keep fun _ _ _ => rfl
theorem OwnD.has {s : Sh} {lo hi : Nat} {cs : List Value} {x : s.Ty} {w : World} (h : OwnD s lo hi cs x w) : Has s cs x hi w := by
  obtain ⟨B, q1, q2, q3⟩ := h
  exact q1.has (fun g hg => (q3 g hg).2)

/-! marks -/
def markL {α : Type} (f : α → Int → α) (c : α → Nat) : List α → Int → List α
  | [], _ => []
  | x :: r, k => f x k :: markL f c r (k + (c x : Nat))
def sumC {α : Type} (c : α → Nat) (xs : List α) : Nat := (xs.map c).sum
def cntD : (s : Sh) → s.Ty → Nat
  | .int, _ => 1
  | .pair a b, x => cntD a x.1 + cntD b x.2
  | .slc _ _ s, xs => sumC (cntD s) xs
def markD : (s : Sh) → s.Ty → Int → s.Ty
  | .int, _, k => k
  | .pair a b, x, k => (markD a x.1 k, markD b x.2 (k + (cntD a x.1 : Nat)))
  | .slc _ _ s, xs, k => markL (markD s) (cntD s) xs k
theorem sumC_take {α : Type} {c : α → Nat} {xs : List α} {r : Nat} {x : α} (h : xs[r]? = some x) : sumC c (xs.take (r + 1)) = sumC c (xs.take r) + c x := by
  unfold sumC; rw [List.take_add_one, h]; simp
theorem sumC_le {α : Type} (c : α → Nat) (xs : List α) (r : Nat) : sumC c (xs.take r) ≤ sumC c xs := by
  have : sumC c xs = sumC c (xs.take r) + sumC c (xs.drop r) := by
    unfold sumC; rw [← List.sum_append, ← List.map_append, List.take_append_drop]
  omega
theorem markL_length {α : Type} (f : α → Int → α) (c : α → Nat) : ∀ (xs : List α) (k : Int), (markL f c xs k).length = xs.length
  | [], _ => rfl
  | x :: r, k => by rw [markL, List.length_cons, List.length_cons, markL_length f c r]
theorem markL_at {α : Type} {f : α → Int → α} {c : α → Nat} : ∀ {xs : List α} {k : Int} {r : Nat} {x : α}, xs[r]? = some x → (markL f c xs k)[r]? = some (f x (k + (sumC c (xs.take r) : Nat)))
  | [], _, _, _, h => by simp at h
  | y :: rest, k, 0, x, h => by
    simp only [List.getElem?_cons_zero, Option.some.injEq] at h
    subst h
    simp [markL, sumC]
  | y :: rest, k, r+1, x, h => by
    simp only [List.getElem?_cons_succ] at h
    have := markL_at (f := f) (c := c) (k := k + (c y : Nat)) h
    simp only [markL, List.getElem?_cons_succ, this]
    congr 2
    simp [sumC]; omega
theorem mixL_step {α : Type} {xs us : List α} {r : Nat} {u : α} (hr : r < xs.length) (hl : us.length = xs.length) (hu : us[r]? = some u) : (us.take r ++ xs.drop r).set r u = us.take (r + 1) ++ xs.drop (r + 1) := by
  have e1 : (us.take r).length = r := by simp; omega
  rw [List.set_append, if_neg (by omega), e1, Nat.sub_self, List.take_add_one, hu, List.drop_eq_getElem_cons hr, List.set_cons_zero]
  simp
theorem mixL_at {α : Type} {xs us : List α} {r : Nat} {x : α} (hl : us.length = xs.length) (hx : xs[r]? = some x) : (us.take r ++ xs.drop r)[r]? = some x := by
  have hr : r < xs.length := by
    rcases Nat.lt_or_ge r xs.length with g | g
    · exact g
    · rw [List.getElem?_eq_none g] at hx; cases hx
  have e1 : (us.take r).length = r := by simp; omega
  rw [List.getElem?_append_right (by omega), e1, Nat.sub_self, List.getElem?_drop, Nat.add_zero]; exact hx
theorem mixL_end {α : Type} {xs us : List α} {n : Nat} (hl : us.length = n) (hx : xs.length = n) : us.take n ++ xs.drop n = us := by
  rw [List.take_of_length_le (by omega), List.drop_eq_nil_of_le (by omega), List.append_nil]
theorem sumC_ints : ∀ xs : List Int, sumC (cntD .int) xs = xs.length
  | [] => rfl
  | x :: r => by
    have h := sumC_ints r
    unfold sumC at h ⊢
    rw [List.map_cons, List.sum_cons, h, List.length_cons]
    show 1 + r.length = _
    omega
theorem markL_ints (k : Int) : ∀ xs : List Int, markL (markD .int) (cntD .int) xs k = marks k xs.length := by
  intro xs
  refine List.ext_getElem? fun i => ?_
  rcases Nat.lt_or_ge i xs.length with q | q
  · rw [markL_at (List.getElem?_eq_getElem q), marks_at k q]
    congr 1
    show k + ((sumC (cntD .int) (xs.take i) : Nat) : Int) = _
    rw [sumC_ints, List.length_take]
    omega
  · rw [List.getElem?_eq_none (by rw [markL_length]; exact q), List.getElem?_eq_none (by rw [marks_length]; exact q)]
theorem cntD_ints (xs : List Int) : cntD ShL xs = xs.length := sumC_ints xs
/-- of what was there only the blocks B may have turned -/
structure Turn (B : List Nat) (w w' : World) : Prop where
  os : w'.os = w.os
  tape : w'.tape = w.tape
  output : w'.output = w.output
  size : w.heap.size ≤ w'.heap.size
  block : ∀ q, q < w.heap.size → q ∉ B → w'.heap[q]? = w.heap[q]?
theorem Turn.refl (B : List Nat) (w : World) : Turn B w w := ⟨rfl, rfl, rfl, Nat.le_refl _, fun _ _ _ => rfl⟩
theorem Turn.trans {B : List Nat} {a b c : World} (h : Turn B a b) (k : Turn B b c) : Turn B a c :=
  ⟨k.os.trans h.os, k.tape.trans h.tape, k.output.trans h.output, Nat.le_trans h.size k.size, fun q hq hn => (k.block q (Nat.lt_of_lt_of_le hq h.size) hn).trans (h.block q hq hn)⟩
theorem Turn.grown {B : List Nat} {w w' : World} {v : Value} (h : w.grownBy w' v.ownBlock) (hv : ∀ g ∈ blk v, g ∈ B) : Turn B w w' :=
  ⟨h.os, h.tape, h.output, h.size, fun q hq hn => h.block q hq (fun e => hn (hv q (blk_mem.2 e.symm)))⟩
theorem Turn.set {B : List Nat} {w : World} {g j : Nat} (hg : g ∈ B) (u : Value) : Turn B w (w.setCell ⟨g, j, none⟩ u) :=
  ⟨rfl, rfl, rfl, by simp [World.setCell], fun q _ hn => Below.heap_setCell _ _ _ q (fun e => hn (by rw [e]; exact hg))⟩
theorem Turn.within {B : List Nat} {w w' : World} {lo hi : Nat} (h : Turn B w w') (hB : ∀ g ∈ B, lo ≤ g ∧ g < hi) : Within lo hi w w' :=
  ⟨h.os, h.tape, h.output, h.size, fun k hk hr => h.block k hk (fun e => by have := hB k e; omega)⟩
/-- what a function of the laws leaves that marks a value of this type -/
def MarkedD (s : Sh) (cs : List Value) (B : List Nat) (k : Int) (x : s.Ty) (w : World) (e : Ending) (w' : World) : Prop :=
  e = .returned (.int .i64 (k + (cntD s x : Nat))) ∧ Own s cs (markD s x k) B w' ∧ Turn B w w'
theorem ownsRow_uniq {w : World} {base base' k n n' : Nat} {T : TypeId} {v : Value} {vs vs' : List Value} (h : w.ownsRow base T k v n vs) (h' : w.ownsRow base' T k v n' vs') : vs = vs' := by
  rcases h.2 with ⟨h1, h2⟩ | ⟨g, cap, cur, hv, _, hg, _, _, _, ht⟩
  · rcases h'.2 with ⟨_, h2'⟩ | ⟨g', cap', cur', hv', _⟩
    · have e := h.1; have e' := h'.1
      rw [h2, Nat.zero_mul] at e
      rw [h2', Nat.zero_mul] at e'
      rw [List.eq_nil_of_length_eq_zero e, List.eq_nil_of_length_eq_zero e']
    · rw [h1] at hv'; injection hv' with a1; cases a1
  · rcases h'.2 with ⟨h1', _⟩ | ⟨g', cap', cur', hv', _, hg', _, _, _, ht'⟩
    · rw [h1'] at hv; injection hv with a1; cases a1
    · rw [hv] at hv'
      injection hv' with a1 a2 a3
      injection a1 with a1
      injection a1 with a1
      subst a1 a2
      rw [hg] at hg'
      injection hg' with hg'
      injection hg' with hg'
      subst hg'
      rw [← ht, ← ht']
theorem Own.outer {T : TypeId} {k : Nat} {s : Sh} {v : Value} {xs : List s.Ty} {B : List Nat} {w : World} (h : Own (.slc T k s) [v] xs B w) : ∃ vs, w.ownsRow 0 T k v xs.length vs ∧ ∀ g ∈ blk v, g ∈ B := by
  obtain ⟨v', css, Bs, e1, h1, e2, _⟩ := h
  injection e1 with e1 _
  subst e1
  exact ⟨_, h1, fun g hg => by rw [e2]; simp [hg]⟩
end Go.Proofs.Ytjmjdcfgbaepkaa
/-
  Lists of trees with their numbers that a call owns: marks, reading, comparison, growing.
-/
namespace Go.Proofs.Ytjmjdcfgbaepkaa
open Go.RowKit Fld
set_option linter.unusedVariables false
set_option linter.unusedSimpArgs false
set_option maxRecDepth 100000

abbrev ShP : Sh := .pair ShL .int
abbrev ShC : Sh := .slc 32 2 ShP
theorem cnt_child {v : Value} {S : List (List Int × Int)} {B : List Nat} {w : World} {r : Nat} {t : List Int} {x : Int} (h : Own ShC [v] S B w) (hn : B.Nodup) (hx : S[r]? = some (t, x)) :
    ∃ g cap A cp, v = .slice (some ⟨g, 0, none⟩) S.length cap ∧ w.cell? ⟨g, r * 2, none⟩ = some (.slice A t.length cp) ∧ w.cell? ⟨g, r * 2 + 1, none⟩ = some (.int .i64 x) ∧ w.frozen? ⟨g, r * 2 + 1, none⟩ = false ∧ t.length ≤ cp ∧ cp ≤ maxLen ∧
      w.ownsRow 0 2 1 (.slice A t.length cp) t.length (ints t) ∧ (∀ q ∈ blk (.slice A t.length cp), q ∈ B) ∧ g ∈ B ∧
      (∀ t' w', t'.length = t.length → w'.ownsRow 0 2 1 (.slice A t.length cp) t.length (ints t') → w.grownBy w' (Value.ownBlock (.slice A t.length cp)) → Own ShC [v] (S.set r (t', x)) B w') ∧
      (∀ y, Own ShC [v] (S.set r (t, y)) B (w.setCell ⟨g, r * 2 + 1, none⟩ (.int .i64 y))) := by
  obtain ⟨g, cap, c, b, hv, ho, hck, hc, hf, hgB, hbB, hbn, hgb, hp1, hp2⟩ := h.child hn hx
  obtain ⟨ca, cb, Ba, Bb, e1, e2, o1, o2⟩ := ho
  obtain ⟨A, cp, q1, q2, q3⟩ := o1.slc_one
  obtain ⟨q4, q5⟩ := o2.int_eq
  subst q1 q4 q5
  simp only [List.append_nil] at e2
  subst e2
  have hrow := o1.row
  subst e1
  have hltB : ∀ q ∈ B, q < w.heap.size := h.lt
  refine ⟨g, cap, A, cp, hv, hc 0 _ rfl, hc 1 _ rfl, hf _, q2, q3, hrow.1, fun q hq => hbB q (by rw [hrow.2]; exact hq), hgB, fun t' w' hl ho' hg => ?_, fun y => ?_⟩
  · refine hp1 (t', x) w' ⟨[.slice A t.length cp], [.int .i64 x], b, [], rfl, by simp, ?_, Own.int_mk _ _⟩ (fun q hq hqb => hg.block q (hltB q hq) (fun e => hqb (by rw [hrow.2]; exact blk_mem.2 e.symm)))
    have := Own.of_row ho'
    rw [← hrow.2] at this
    exact this
  · exact hp2 1 (.int .i64 y) (t, y) (by omega) ⟨[.slice A t.length cp], [.int .i64 y], b, [], rfl, by simp, o1, Own.int_mk _ _⟩
theorem cnt_read {A : Option Addr} {n cap hi : Nat} {S : List (List Int × Int)} {w : World} {r : Nat} {t : List Int} {x : Int} (h : Has ShC [.slice A n cap] S hi w) (hx : S[r]? = some (t, x)) :
    ∃ b o Ak ck, A = some ⟨b, o, none⟩ ∧ b < hi ∧ w.cell? ⟨b, o + r * 2, none⟩ = some (.slice Ak t.length ck) ∧ w.cell? ⟨b, o + r * 2 + 1, none⟩ = some (.int .i64 x) ∧ t.length ≤ ck ∧ ck ≤ maxLen ∧ Row w hi Ak (ints t) := by
  obtain ⟨b, o, c, e, hb, hck, hc, ho⟩ := h.child (by omega) hx
  obtain ⟨ca, cb, e1, o1, o2⟩ := ho
  obtain ⟨Ak, ck, q1⟩ := o1.slc_one
  have q4 := o2.int_eq
  subst q1 q4
  obtain ⟨_, q2, q3, q5⟩ := Has.row o1
  subst e1
  exact ⟨b, o, Ak, ck, e, hb, by have := hc 0 _ rfl; simpa using this, by have := hc 1 _ rfl; rw [← Nat.add_assoc] at this; exact this, q2, q3, q5⟩
theorem cntD_pair (t : List Int) (x : Int) : cntD ShP (t, x) = t.length + 1 := by
  show cntD ShL t + 1 = _
  rw [cntD_ints]
theorem markD_pair (t : List Int) (x k : Int) : markD ShP (t, x) k = (marks k t.length, k + (t.length : Int)) := by
  show (markD ShL t k, k + ((cntD ShL t : Nat) : Int)) = _
  rw [cntD_ints]
  congr 1
  exact markL_ints k t
def markedC (S : List (List Int × Int)) (k : Int) : List (List Int × Int) := markD ShC S k
theorem markedC_length (S : List (List Int × Int)) (k : Int) : (markedC S k).length = S.length := markL_length _ _ _ _
def cntC (S : List (List Int × Int)) : Nat := cntD ShC S
def cntTake (S : List (List Int × Int)) (r : Nat) : Nat := sumC (cntD ShP) (S.take r)
theorem cntTake_step {S : List (List Int × Int)} {r : Nat} {t : List Int} {x : Int} (h : S[r]? = some (t, x)) : cntTake S (r + 1) = cntTake S r + (t.length + 1) := by
  unfold cntTake
  rw [sumC_take h]
  congr 1
  exact cntD_pair t x
theorem cntTake_le (S : List (List Int × Int)) (r : Nat) : cntTake S r ≤ cntC S := sumC_le _ _ _
theorem cntTake_end (S : List (List Int × Int)) {n : Nat} (h : S.length = n) : cntTake S n = cntC S := by
  unfold cntTake
  rw [List.take_of_length_le (by omega)]; rfl
theorem markedC_at {S : List (List Int × Int)} {k : Int} {r : Nat} {t : List Int} {x : Int} (h : S[r]? = some (t, x)) : (markedC S k)[r]? = some (marks (k + (cntTake S r : Nat)) t.length, k + (cntTake S r : Nat) + (t.length : Int)) := by
  have h1 := markL_at (f := markD ShP) (c := cntD ShP) (k := k) h
  rw [markD_pair] at h1
  exact h1
def mixC (S : List (List Int × Int)) (k : Int) (r : Nat) : List (List Int × Int) := (markedC S k).take r ++ S.drop r
theorem mixC_at {S : List (List Int × Int)} {k : Int} {r : Nat} {p : List Int × Int} (h : S[r]? = some p) : (mixC S k r)[r]? = some p := mixL_at (markedC_length S k) h
theorem mixC_step {S : List (List Int × Int)} {k : Int} {r : Nat} {t : List Int} {x : Int} (h : S[r]? = some (t, x)) : (mixC S k r).set r (marks (k + (cntTake S r : Nat)) t.length, k + (cntTake S r : Nat) + (t.length : Int)) = mixC S k (r + 1) := by
  have hr : r < S.length := by
    rcases Nat.lt_or_ge r S.length with g | g
    · exact g
    · rw [List.getElem?_eq_none g] at h; cases h
  exact mixL_step hr (markedC_length S k) (markedC_at h)
end Go.Proofs.Ytjmjdcfgbaepkaa
/-
  Lists of trees with their numbers: the comparison of two that hold the same, and lists that grow.
-/
namespace Go.Proofs.Ytjmjdcfgbaepkaa
open Go.RowKit Fld
set_option linter.unusedVariables false
set_option linter.unusedSimpArgs false
set_option maxRecDepth 100000

/-- a list of trees with their numbers that grows -/
def BldC (W : World) (S : List (List Int × Int)) (v : Value) (wr : World) : Prop := ∃ B, Own ShC [v] S B wr ∧ B.Nodup ∧ (∀ b ∈ B, W.heap.size ≤ b ∧ b < wr.heap.size) ∧ Below W.heap.size W wr
theorem BldC.start {W w1 : World} {v : Value} (h : w1.ownsRow W.heap.size 32 2 v 0 []) (hg : W.grownBy w1 none) : BldC W [] v w1 := by
  refine ⟨blk v, ⟨v, [], [], rfl, ?_, (by simp), rfl, rfl, (fun c hc => by cases hc), (fun i x hx => by cases hx)⟩, by unfold blk; split <;> simp, fun b hb => h.lt b (blk_mem.1 hb), (Below.refl _ _).grown hg (Nat.le_refl _) (fun k hk => by cases hk)⟩
  refine ⟨by simp, ?_⟩
  rcases h.2 with h1 | ⟨g, cap, cur, hv, hb, hgg, r1, r2, r3, r4⟩
  · exact .inl h1
  · exact .inr ⟨g, cap, cur, hv, Nat.zero_le _, hgg, r1, r2, r3, by simp⟩
theorem BldC.row {W wr : World} {S : List (List Int × Int)} {v : Value} (h : BldC W S v wr) : ∃ vs, wr.ownsRow 0 32 2 v S.length vs := by
  obtain ⟨B, h1, _⟩ := h
  obtain ⟨vs, h2, _⟩ := h1.outer
  exact ⟨vs, h2⟩
theorem BldC.below {W wr w2 : World} {S : List (List Int × Int)} {v : Value} (h : BldC W S v wr) (hb : Below wr.heap.size wr w2) : BldC W S v w2 := by
  obtain ⟨B, h1, h2, h3, h4⟩ := h
  exact ⟨B, h1.keep (fun g hg => hb.block g (h3 g hg).2), h2, fun b hb' => by have := h3 b hb'; have := hb.size; omega, h4.trans (hb.mono h4.size)⟩
theorem BldC.push {W wr w2 w3 w4 : World} {S : List (List Int × Int)} {v : Value} {g4 cap4 c H : Nat} {A : Option Addr} {t : List Int} {x : Int} {vs : List Value} (h : BldC W S v wr) (hb : Below wr.heap.size wr w2) (ho : w2.ownsRow wr.heap.size 2 1 (.slice A t.length c) t.length (ints t)) (hb3 : Below w2.heap.size w2 w3)
    (hvs : wr.ownsRow 0 32 2 v S.length vs) (h4 : w4.ownsRow 0 32 2 (.slice (some ⟨g4, 0, none⟩) (S.length + 1) cap4) (S.length + 1) (vs ++ [.slice A t.length c, .int .i64 x])) (hg : w3.grownBy w4 v.ownBlock) (hat : v.ownBlock = some g4 ∨ g4 = H) (hH : w3.heap.size = H) (hlt : g4 < w4.heap.size) :
    BldC W (S ++ [(t, x)]) (.slice (some ⟨g4, 0, none⟩) (S.length + 1) cap4) w4 := by
  have hs2 := hb.size
  have hs3 := hb3.size
  have hs4 := hg.size
  have h2 := h.below hb
  obtain ⟨B, k1, k2, k3, k4⟩ := h
  have k1' : Own ShC [v] S B w3 := (k1.keep (fun g hg => hb.block g (k3 g hg).2)).keep (fun g hg => hb3.block g (by have := k3 g hg; omega))
  have hnew : Own ShP [.slice A t.length c, .int .i64 x] (t, x) (blk (.slice A t.length c)) w3 := ⟨[.slice A t.length c], [.int .i64 x], blk (.slice A t.length c), [], rfl, by simp, (Own.of_row ho).keep (fun g hg => hb3.block g (ho.lt g (blk_mem.1 hg)).2), Own.int_mk _ _⟩
  have hnb : ∀ q ∈ blk (.slice A t.length c), wr.heap.size ≤ q ∧ q < w2.heap.size := fun q hq => ho.lt q (blk_mem.1 hq)
  have hvB : ∀ q ∈ blk v, q ∈ B := by obtain ⟨_, _, r⟩ := k1.outer; exact r
  have hnd : (B ++ blk (.slice A t.length c)).Nodup := by
    rw [List.nodup_append]
    refine ⟨k2, by unfold blk; split <;> simp, fun a ha b hb' e => ?_⟩
    have := k3 a ha; have := hnb b hb'; omega
  have hlt3 : ∀ q ∈ B ++ blk (.slice A t.length c), q < w3.heap.size := fun q hq => by
    rw [List.mem_append] at hq
    rcases hq with hq | hq
    · have := k3 q hq; omega
    · have := hnb q hq; omega
  obtain ⟨B2, r1, r2, r3⟩ := Own.push (css0 := []) (v2 := .slice (some ⟨g4, 0, none⟩) (S.length + 1) cap4) (w2 := w4) k1' hnew rfl hnd (fun vs' hvs' => by
      have e : vs' = vs := ownsRow_uniq hvs' (ownsRow_keep (ownsRow_keep hvs (fun g hg => hb.block g (k3 g (hvB g hg)).2)) (fun g hg => hb3.block g (by have := k3 g (hvB g hg); omega)))
      rw [e]; exact h4) (fun q hq hqv => hg.block q (hlt3 q hq) (fun e => hqv (blk_mem.2 e.symm)))
  have hg4 : ∀ q ∈ blk (.slice (some ⟨g4, 0, none⟩) (S.length + 1) cap4), q = g4 := fun q hq => by
    have := blk_mem.1 hq
    have : g4 = q := by simpa [Value.ownBlock] using this
    exact this.symm
  have hW := k4.size
  refine ⟨B2, r1, r3 (fun q hq => ?_), fun b hb' => ?_, ((k4.trans (hb.mono hW)).trans (hb3.mono (by omega))).grown hg (by omega) (fun q e => (k3 q (hvB q (blk_mem.2 e))).1)⟩
  · rw [hg4 q hq]
    rcases hat with e | e
    · exact .inl (blk_mem.2 e)
    · refine .inr (fun hq' => ?_)
      have := hlt3 _ hq'; omega
  · rcases r2 b hb' with q | q
    · rw [hg4 b q]
      rcases hat with e | e
      · exact ⟨(k3 g4 (hvB g4 (blk_mem.2 e))).1, hlt⟩
      · omega
    · have h9 := hlt3 b q
      rw [List.mem_append] at q
      rcases q with q | q
      · have := k3 b q; omega
      · have := hnb b q; omega
theorem BldC.own {W wr : World} {S : List (List Int × Int)} {v : Value} (h : BldC W S v wr) : OwnD ShC W.heap.size wr.heap.size [v] S wr ∧ Below W.heap.size W wr := by
  obtain ⟨B, h1, h2, h3, h4⟩ := h
  exact ⟨⟨B, h1, h2, h3⟩, h4⟩
end Go.Proofs.Ytjmjdcfgbaepkaa
/-
  A list of trees with their numbers beside a code, as calls hand it back.
-/
namespace Go.Proofs.Ytjmjdcfgbaepkaa
open Go.RowKit Fld
set_option linter.unusedVariables false
set_option linter.unusedSimpArgs false
set_option maxRecDepth 100000

/-- a list that the call owns, beside a code -/
def ResC (r : List (List Int × Int) × Int) (w : World) (e : Ending) (w' : World) : Prop :=
  (r.1.length ≤ 1048576 ∧ cntC r.1 ≤ 1048576) ∧ ∃ A c, e = .returned (.tuple #[.slice A r.1.length c, .int .i64 r.2]) ∧ OwnD ShC w.heap.size w'.heap.size [.slice A r.1.length c] r.1 w' ∧ Below w.heap.size w w'
/-- one that is known by its cells -/
def ResCl (r : List (List Int × Int) × Int) (w : World) (e : Ending) (w' : World) : Prop :=
  (r.1.length ≤ 1048576 ∧ cntC r.1 ≤ 1048576) ∧ ∃ A c, e = .returned (.tuple #[.slice A r.1.length c, .int .i64 r.2]) ∧ Has ShC [.slice A r.1.length c] r.1 w'.heap.size w' ∧ Below w.heap.size w w'
theorem OwnD.nilC (w : World) (lo hi : Nat) : OwnD ShC lo hi [.slice none 0 0] [] w :=
  ⟨[], ⟨.slice none 0 0, [], [], rfl, World.ownsRow_nil _ _ _ _, rfl, rfl, rfl, (fun c hc => by cases hc), (fun i x hx => by cases hx)⟩, List.nodup_nil, fun g hg => by cases hg⟩
theorem ResC.nil {r : List (List Int × Int) × Int} {w w' : World} {k : Int} (h : r = ([], k)) (hb : Below w.heap.size w w') : ResC r w (.returned (.tuple #[.slice none 0 0, .int .i64 k])) w' := by
  subst h
  exact ⟨⟨Nat.zero_le _, Nat.zero_le _⟩, none, 0, rfl, OwnD.nilC _ _ _, hb⟩
theorem ResC.of {r : List (List Int × Int) × Int} {w w' : World} {A : Option Addr} {n c : Nat} {S : List (List Int × Int)} {k : Int} (h : r = (S, k)) (hl : S.length = n) (hn : S.length ≤ 1048576 ∧ cntC S ≤ 1048576)
    (ho : OwnD ShC w.heap.size w'.heap.size [.slice A n c] S w') (hb : Below w.heap.size w w') : ResC r w (.returned (.tuple #[.slice A n c, .int .i64 k])) w' := by
  subst h hl
  exact ⟨hn, A, c, rfl, ho, hb⟩
theorem ResCl.nil {r : List (List Int × Int) × Int} {w w' : World} {k : Int} (h : r = ([], k)) (hb : Below w.heap.size w w') : ResCl r w (.returned (.tuple #[.slice none 0 0, .int .i64 k])) w' := by
  subst h
  exact ⟨⟨Nat.zero_le _, Nat.zero_le _⟩, none, 0, rfl, (OwnD.nilC w' 0 w'.heap.size).has, hb⟩
theorem ResCl.of {r : List (List Int × Int) × Int} {w w' : World} {A : Option Addr} {n c : Nat} {S : List (List Int × Int)} {k : Int} (h : r = (S, k)) (hl : S.length = n) (hn : S.length ≤ 1048576 ∧ cntC S ≤ 1048576)
    (ho : Has ShC [.slice A n c] S w'.heap.size w') (hb : Below w.heap.size w w') : ResCl r w (.returned (.tuple #[.slice A n c, .int .i64 k])) w' := by
  subst h hl
  exact ⟨hn, A, c, rfl, ho, hb⟩
/-- the model's sums -/
theorem Sms.has {w : World} {A : Option Addr} {S : List (List Int × Int)} {c : Nat} (h : Sms w A S) (hc : S.length ≤ c) (hm : c ≤ maxLen) : Has ShC [.slice A S.length c] S w.heap.size w := by
  obtain ⟨vs, h1, h2⟩ := h
  have hl := h2.1
  refine ⟨A, c, (List.range S.length).map fun k => [vs.getD (2 * k) undef, vs.getD (2 * k + 1) undef], rfl, hc, hm, ?_, by simp, fun c' hc' => ?_, fun i x hx => ?_⟩
  · have e : ((List.range S.length).map fun k => [vs.getD (2 * k) undef, vs.getD (2 * k + 1) undef]).flatten = vs := by
      refine List.ext_getElem? fun j => ?_
      have hk : ∀ c' ∈ ((List.range S.length).map fun k => [vs.getD (2 * k) undef, vs.getD (2 * k + 1) undef]), c'.length = 2 := fun c' hc' => by
        rw [List.mem_map] at hc'
        obtain ⟨q, _, e⟩ := hc'
        rw [← e]; rfl
      rcases Nat.lt_or_ge j vs.length with q | q
      · have hj : j / 2 < S.length := by omega
        have h9 := flat_at (i := j / 2) (j := j % 2) hk (by rw [List.getElem?_map, List.getElem?_range hj]; rfl) (by omega)
        rw [show j / 2 * 2 + j % 2 = j from by omega] at h9
        rw [h9]
        rcases Nat.mod_two_eq_zero_or_one j with e | e
        · rw [e]
          show some (vs.getD (2 * (j / 2)) undef) = _
          rw [show 2 * (j / 2) = j by omega, List.getD_eq_getElem?_getD, List.getElem?_eq_getElem q]; rfl
        · rw [e]
          show some (vs.getD (2 * (j / 2) + 1) undef) = _
          rw [show 2 * (j / 2) + 1 = j by omega, List.getD_eq_getElem?_getD, List.getElem?_eq_getElem q]; rfl
      · rw [List.getElem?_eq_none q, List.getElem?_eq_none]
        rw [flat_len hk, List.length_map, List.length_range]; omega
    rw [e]; exact h1
  · rw [List.mem_map] at hc'
    obtain ⟨q, _, e⟩ := hc'
    rw [← e]; rfl
  · obtain ⟨t, y⟩ := x
    have hil : i < S.length := by
      rcases Nat.lt_or_ge i S.length with q | q
      · exact q
      · rw [List.getElem?_eq_none q] at hx; cases hx
    obtain ⟨A', c', e1, e2, e3, e4, e5⟩ := h2.2 i _ hx
    refine ⟨_, by rw [List.getElem?_map, List.getElem?_range hil]; rfl, [.slice A' t.length c'], [.int .i64 y], ?_, ?_, by unfold Has; rfl⟩
    · show [vs.getD (2 * i) undef, vs.getD (2 * i + 1) undef] = _
      rw [List.getD_eq_getElem?_getD, List.getD_eq_getElem?_getD, e1, e2]; rfl
    · exact Has.of_row rfl e3 e4 e5.row
end Go.Proofs.Ytjmjdcfgbaepkaa
/-
  How often a tree stands in a sum in memory.
-/
namespace Go.Proofs.Ytjmjdcfgbaepkaa
open Go.RowKit Fld
set_option linter.unusedVariables false
set_option linter.unusedSimpArgs false
set_option maxRecDepth 100000

/-- how often a tree stands among the first entries of a sum -/
def tmsTo (S : List (List Int × Int)) (t : List Int) : Nat → Int
  | 0 => 0
  | r + 1 => tmsTo S t r + (if (S.getD r ([], 0)).1 = t then (S.getD r ([], 0)).2 else 0)
theorem tms_step {S : List (List Int × Int)} {t u : List Int} {r : Nat} {x : Int} (h : S[r]? = some (u, x)) : tmsTo S t (r + 1) = tmsTo S t r + (if u = t then x else 0) := by
  rw [tmsTo, List.getD_eq_getElem?_getD, h]; rfl
theorem tms_bd {S : List (List Int × Int)} {t : List Int} (h : ∀ p ∈ S, 0 ≤ p.2 ∧ p.2 ≤ 1048576) : ∀ r : Nat, 0 ≤ tmsTo S t r ∧ tmsTo S t r ≤ 1048576 * (r : Int)
  | 0 => ⟨Int.le_refl _, by simp [tmsTo]⟩
  | r + 1 => by
    have ih := tms_bd (t := t) h r
    have e : 0 ≤ (S.getD r ([], 0)).2 ∧ (S.getD r ([], 0)).2 ≤ 1048576 := by
      rw [List.getD_eq_getElem?_getD]
      cases hr : S[r]? with
      | none => exact ⟨by decide, by decide⟩
      | some p => exact h p (List.mem_of_getElem? hr)
    rw [tmsTo]
    split <;> omega
theorem eqL_dec {a b : List Int} : eqL a b = decide (a = b) := rfl
set_option maxHeartbeats 1000000 in
theorem times9_any (A A' : Option Addr) (n n' c c' hi : Nat) (S : List (List Int × Int)) (t : List Int) (w : World) (hl : S.length = n) (hl' : t.length = n') (hn : n ≤ 1048576) (hn' : n' ≤ 1048576) (ht : ∀ p ∈ S, (0 ≤ p.2 ∧ p.2 ≤ 1048576) ∧ p.1.length ≤ 1048576) (h : Has ShC [.slice A n c] S hi w) (h' : Lst w A' t) :
    Calls Try.prog 16 #[.slice A n c, .slice A' n' c'] w fun e w' => e = .returned (.int .i64 (tmsTo S t n)) ∧ ∃ m, w' = w.drewN m := by
  have HL := Lib.hid hl
  have HL' := Lib.hid hl'
  have HT := Lib.hid ht
  have HB := fun r => Lib.hid (tms_bd (S := S) (t := t) (fun p hp => (ht p hp).1) r)
  clear hl hl' ht
  go_enter Try.func16, Try.ntmps16
  go_wp2_with fail
  go_loopw [5, 6] (fun s i wr => ∃ r m : Nat, r ≤ n ∧ s = .int .i64 (tmsTo S t r) ∧ i = .int .i64 r ∧ wr = w.drewN m) (fun _ i _ => n - (intOf i).toNat)
  case atStart => exact ⟨0, 0, Nat.zero_le _, rfl, rfl, rfl⟩
  case round =>
    obtain ⟨r, m, hr, rfl, rfl, rfl⟩ := hrel
    by_cases hlt : r < n
    · obtain ⟨⟨u, x⟩, hx⟩ := at_lt (show r < S.length by rw [HL.out]; exact hlt)
      have HST := Lib.hid (tms_step (t := t) hx)
      obtain ⟨b, o, Ak, ck, rfl, hb, hc0, hc1, _, _, hrow⟩ := cnt_read h hx
      obtain ⟨⟨x0, x1⟩, hul⟩ := HT.out _ (List.mem_of_getElem? hx)
      have hb0 := (HB r).out
      have HX := Lib.hid hx
      have HR : Hid (Row (w.drewN m) hi Ak (ints u)) := Row.drewN hrow m
      have HR' : Hid (Row (w.drewN m) w.heap.size A' (ints t)) := Row.drewN h' m
      obtain ⟨ss, hss⟩ : ∃ ss, ss = tmsTo S t r := ⟨_, rfl⟩
      rw [← hss] at hb0 HST
      have HS := Lib.hid hss
      rw [← hss]
      clear hx hrow hss
      go_wp2_with fail
      refine (likeInts_any Ak A' u.length n' ck c' hi w.heap.size u t _ rfl HL'.out (by omega) (by omega) HR.out HR'.out).mono ?_
      rintro e w2 ⟨rfl, m2, rfl⟩
      have e1 := eqL_dec (a := u) (b := t)
      by_cases hut : u = t
      · rw [e1, decide_eq_true hut]
        rw [if_pos hut] at HST
        clear e1 hut
        go_wp2
        go_roundw
        case rel => exact ⟨r + 1, _, by omega, by rw [HST.out], by go_num, rfl⟩
        case measure => simp [intOf]; omega
      · rw [e1, decide_eq_false hut]
        rw [if_neg hut] at HST
        clear e1 hut
        go_wp2
        go_roundw
        case rel => exact ⟨r + 1, _, by omega, by rw [HST.out, Int.add_zero], by go_num, rfl⟩
        case measure => simp [intOf]; omega
    · obtain rfl : r = n := by omega
      go_wp2
      go_ret
      exact ⟨rfl, _, rfl⟩
end Go.Proofs.Ytjmjdcfgbaepkaa
/-
  What contracts give, taken out for the walks of laws: a sum beside a code; a tree that stands in a sum.
-/
namespace Go.Proofs.Ytjmjdcfgbaepkaa
open Go.RowKit Fld
set_option linter.unusedVariables false
set_option linter.unusedSimpArgs false
set_option maxRecDepth 100000

theorem resC_out {S : List (List Int × Int)} {k : Int} {r : List (List Int × Int) × Int} {w w' : World} {e : Ending} (h : ResC r w e w') (hr : r = (S, k)) : ∃ A c, e = .returned (.tuple #[.slice A S.length c, .int .i64 k]) ∧ Has ShC [.slice A S.length c] S w'.heap.size w' ∧ Below w.heap.size w w' := by
  subst hr
  obtain ⟨_, A, c, rfl, o1, hb⟩ := h
  exact ⟨A, c, rfl, o1.has, hb⟩
theorem tms_pos {S : List (List Int × Int)} {t : List Int} (h : ∀ p ∈ S, 0 ≤ p.2 ∧ p.2 ≤ 1048576) {r : Nat} {x : Int} (hr : S[r]? = some (t, x)) (hx : 0 < x) : ∀ n, r < n → 0 < tmsTo S t n
  | 0, hn => by omega
  | n + 1, hn => by
    have hb := (tms_bd (t := t) h n).1
    by_cases e : r = n
    · subst e
      rw [tms_step hr, if_pos rfl]; omega
    · have ih := tms_pos h hr hx n (by omega)
      have e2 : 0 ≤ (S.getD n ([], 0)).2 := by
        rw [List.getD_eq_getElem?_getD]
        cases hn : S[n]? with
        | none => exact Int.le_refl _
        | some p => exact (h p (List.mem_of_getElem? hn)).1
      rw [tmsTo]
      split <;> omega
end Go.Proofs.Ytjmjdcfgbaepkaa
/-
  Draws of lists: worlds in which a source and rows of the call's own have turned.
-/
namespace Go.Proofs.Ytjmjdcfgbaepkaa
open Go.RowKit Fld
set_option linter.unusedVariables false
set_option linter.unusedSimpArgs false
set_option maxRecDepth 100000

/-- a row of the call's own has turned, and the source -/
theorem only_row {w a b : World} {G g : Nat} (h : w.grownBy a (some G)) (k : a.grownBy b (some g)) (hg : w.heap.size ≤ g) : w.grownBy b (some G) :=
  ⟨k.os.trans h.os, k.tape.trans h.tape, k.output.trans h.output, Nat.le_trans h.size k.size, fun i hi hne => (k.block i (Nat.lt_of_lt_of_le hi h.size) (fun e => by have := Option.some.inj e; omega)).trans (h.block i hi hne)⟩
theorem Src.only {w w' : World} {T : TypeId} {G B g : Nat} {xs : List Int} (s : Src w T G B xs) (k : w.grownBy w' (some g)) (hg : g ≠ G) (hB : B ≤ g) : Src w' T G B xs := by
  obtain ⟨A, c, i, h, h1, h2, h3, h4, h5⟩ := s
  exact ⟨A, c, i, h, (k.block G h1.lt (fun e => hg (Option.some.inj e).symm)).trans h1, h2, h3, h4.only k hB, h5⟩
/-- a list that was drawn: its own memory, and only the source has turned -/
def DrawnL (P : List Int → Prop) (T : TypeId) (G B : Nat) (xs : List Int) (w : World) (e : Ending) (w' : World) : Prop :=
  ∃ g c n, ∃ ys : List Int, e = .returned (.slice (some ⟨g, 0, none⟩) n c) ∧ ys.length = n ∧ P ys ∧ w'.ownsRow w.heap.size 2 1 (.slice (some ⟨g, 0, none⟩) n c) n (ints ys) ∧ Src w' T G B xs ∧ w.grownBy w' (some G)
theorem own_past {w w1 : World} {base G g n c : Nat} {vs : List Value} (h : w.ownsRow base 2 1 (.slice (some ⟨g, 0, none⟩) n c) n vs) (hG : G < base) (o : w.grownBy w1 (some G)) : w1.ownsRow base 2 1 (.slice (some ⟨g, 0, none⟩) n c) n vs :=
  h.kept o (.inr (fun e => by have h1 := (h.lt g rfl).1; have h2 : g = G := (by simpa [Value.ownBlock] using e); omega))
theorem own_room {w : World} {base n c : Nat} {A : Option Addr} {vs : List Value} (h : w.ownsRow base 2 1 (.slice A n c) n vs) : n ≤ c := by
  rcases h.2 with ⟨e1, e2⟩ | ⟨g, cap, cur, e1, _, _, e2, _⟩
  · omega
  · injection e1 with e3 e4 e5; omega
theorem row_only {w w' : World} {base G g n c : Nat} {vs : List Value} (h : w.ownsRow base 2 1 (.slice (some ⟨g, 0, none⟩) n c) n vs) (hG : G < base) (o : w.grownBy w' (some G)) : Row w' w'.heap.size (some ⟨g, 0, none⟩) vs := row_of_own (own_past h hG o)
theorem own_pastv {w w1 : World} {base G n k : Nat} {T : TypeId} {v : Value} {vs : List Value} (h : w.ownsRow base T k v n vs) (hG : G < base) (o : w.grownBy w1 (some G)) : w1.ownsRow base T k v n vs := h.kept o (.inr (fun e => by have := (h.lt G e).1; omega))
/-- a list that was drawn, or none -/
def DrawnR (P : List Int → Prop) (T : TypeId) (G B : Nat) (xs : List Int) (w : World) (e : Ending) (w' : World) : Prop :=
  ∃ A c n, ∃ ys : List Int, e = .returned (.slice A n c) ∧ ys.length = n ∧ P ys ∧ w'.ownsRow w.heap.size 2 1 (.slice A n c) n (ints ys) ∧ Src w' T G B xs ∧ w.grownBy w' (some G)
end Go.Proofs.Ytjmjdcfgbaepkaa
/-
  Draws of level lists: what is mostly one.
-/
namespace Go.Proofs.Ytjmjdcfgbaepkaa
open Go.RowKit Fld
set_option linter.unusedVariables false
set_option linter.unusedSimpArgs false
set_option maxRecDepth 100000

theorem at_lastT {ys : List Int} {j : Nat} (h : ys.length = j + 1) : ∃ y, ys[j]? = some y ∧ y ∈ ys := by
  have hj : j < ys.length := by omega
  exact ⟨ys[j], List.getElem?_eq_getElem hj, List.getElem_mem hj⟩
theorem ints_snocT (ys : List Int) (r : Int) : ints ys ++ [.int .i64 r] = ints (ys ++ [r]) := by simp [ints, intsK]
def UpTo (ys : List Int) (j : Nat) : Prop := ∀ y ∈ ys, 0 ≤ y ∧ y ≤ (j : Int)
theorem UpTo.snoc {ys : List Int} {j : Nat} {r : Int} (h : UpTo ys j) (h0 : 0 ≤ r) (h1 : r ≤ (j : Int) + 1) : UpTo (ys ++ [r]) (j + 1) := fun y hy => by
  rcases List.mem_append.1 hy with h2 | h2
  · have := h y h2; omega
  · obtain rfl : y = r := by simpa using h2
    omega
set_option maxHeartbeats 1000000 in
theorem l03Draw_any (G B : Nat) (xs : List Int) (n : Nat) (w : World) (h1 : 1 ≤ n) (hn : n ≤ 64) (s : Src w 140 G B xs) :
    Calls Try.prog 120 #[.pointer (some ⟨G, 0, none⟩), .int .i64 n] w (DrawnL (fun ys => 1 ≤ ys.length ∧ ys.length ≤ n) 140 G B xs w) := by
  obtain ⟨i0, hi, hz0, hz1, hz2⟩ := info_parts info_i64
  have HG := s.lt
  have S0 := Lib.hid (s.alloc (.cells #[.int .i64 0] 2))
  have O0 : Hid ((w.alloc (.cells #[.int .i64 0] 2)).ownsRow w.heap.size 2 1 (.slice (some ⟨w.heap.size, 0, none⟩) 1 1) 1 (ints [0])) := World.ownsRow_lit w #[.int .i64 0] 1 (Nat.le_refl _) (by decide) rfl
  have U0 : Hid (UpTo [0] 0) := fun y hy => by
    obtain rfl : y = 0 := by simpa using hy
    omega
  clear s
  go_enter Try.func120, Try.ntmps120
  go_wp2_with fail
  refine (l01Next_any G B xs _ _ (by omega) S0.out).mono ?_
  rintro e w1 ⟨r, rfl, r0, r1, s1, o1⟩
  obtain ⟨rn, rfl⟩ : ∃ rn : Nat, r = (rn : Int) := ⟨r.toNat, by omega⟩
  have O1 := Lib.hid (own_pastv O0.out HG o1)
  have G1 := Lib.hid (only_trans (World.grownBy_alloc w (.cells #[.int .i64 0] 2) (some G)) o1)
  have S1 := Lib.hid s1
  clear O0 S0 s1 o1
  go_wp2_with fail
  go_loopw [5, 6] (fun v q wr => ∃ j g cap : Nat, ∃ ys : List Int, j ≤ rn ∧ v = .slice (some ⟨g, 0, none⟩) (j + 1) cap ∧ q = .int .i64 ((rn : Int) - j) ∧ ys.length = j + 1 ∧ Hid (UpTo ys j) ∧ wr.ownsRow w.heap.size 2 1 (.slice (some ⟨g, 0, none⟩) (j + 1) cap) (j + 1) (ints ys) ∧ Src wr 140 G B xs ∧ w.grownBy wr (some G)) (fun _ q _ => (intOf q).toNat)
  case atStart => exact ⟨0, _, _, [0], by omega, rfl, by simp, rfl, U0, O1.out, S1.out, G1.out⟩
  case round =>
    obtain ⟨j, g, cap, ys, hj, rfl, rfl, hy1, HU, hown, hs, ho⟩ := hrel
    by_cases hlt : j < rn
    · have h0 : (0 : Int) < (rn : Int) - j := by omega
      have hg := (hown.lt g rfl).1
      obtain ⟨y, hy, hm⟩ := at_lastT hy1
      have hy2 := HU.out y hm
      have hc := hown.cellAt j (by omega)
      rw [ints_at hy] at hc
      have HY1 := Lib.hid hy1
      have HO := Lib.hid hown
      have HGR := Lib.hid ho
      have hsz := ho.size
      clear hown hy1 ho hy hm O1 S1 G1 U0
      go_wp2_with fail
      refine (l01Next_any G B xs _ _ (by omega) hs).mono ?_
      rintro e w1 ⟨r, rfl, q0, q1, s1, o1⟩
      have own1 := own_pastv HO.out HG o1
      have hsz1 := o1.size
      have HR : Hid (UpTo (ys ++ [1 + r]) (j + 1)) := HU.out.snoc (by omega) (by omega)
      have HR' := Lib.hid (ints_snocT ys (1 + r))
      have O1 := Lib.hid o1
      clear hs o1 HU
      go_wp2_with (at_builtin; refine wpList_append_lies _ rfl (.tmp 15) (.tmp 26) 24 rfl w.heap.size 2 i0 _ 1 8 Try.underlying24 hi hz0 hz1 hz2 rfl (by omega) (.slice (some ⟨g, 0, none⟩) (j + 1) cap) (j + 1) (ints ys) rfl (own1.alloc _) ⟨w1.heap.size, 0, none⟩ 1 1 [.int .i64 (1 + r)] rfl rfl (World.news_of_block (cs := #[.int .i64 (1 + r)]) (heap_alloc_new _ _)) (by simp [Value.oneCell']) (by omega) (by simp only [maxLen]; omega) (by omega) (by simp; omega) (w1.heap.size + 1) (by simp) ?_; intro g2 cap2 w2 hown2 hgrow2 hat2 hlt2)
      rw [HR'.out] at hown2
      have s2 := (s1.alloc (.cells #[.int .i64 (1 + r)] 2)).only (g := g) hgrow2 (by omega) (by obtain ⟨_, _, _, _, _, _, h3, _⟩ := s1; omega)
      have G2 := Lib.hid (only_row (only_alloc (only_trans HGR.out O1.out) _) hgrow2 hg)
      have S2 := Lib.hid s2
      have OW2 := Lib.hid hown2
      clear hown2 hgrow2 hat2 s1 s2 own1
      go_wp2
      go_roundw
      case rel => exact ⟨j + 1, _, _, ys ++ [1 + r], by omega, rfl, by go_num, by simp [HY1.out], HR, OW2.out, S2.out, G2.out⟩
      case measure => simp [intOf]; omega
    · obtain rfl : j = rn := by omega
      have HD : Hid (DrawnL (fun ys => 1 ≤ ys.length ∧ ys.length ≤ n) 140 G B xs w (.returned (.slice (some ⟨g, 0, none⟩) (j + 1) cap)) wr) := ⟨g, cap, j + 1, ys, rfl, hy1, ⟨by omega, by omega⟩, hown, hs, ho⟩
      have h0 : ¬ (0 : Int) < (j : Int) - j := by omega
      clear hown hs ho hy1 HU O1 S1 G1 U0
      go_wp2
      go_ret
      exact HD.out
theorem ints_setT (ys : List Int) (r : Int) (k : Nat) : (ints ys).set k (.int .i64 r) = ints (ys.set k r) := by simp [ints, intsK, List.map_set]
set_option maxHeartbeats 2000000 in
theorem l03DrawAny_any (G B : Nat) (xs : List Int) (n : Nat) (w : World) (h1 : 1 ≤ n) (hn : n ≤ 64) (s : Src w 140 G B xs) :
    Calls Try.prog 69 #[.pointer (some ⟨G, 0, none⟩), .int .i64 n] w (DrawnR (fun ys => ys.length ≤ n + 8) 140 G B xs w) := by
  obtain ⟨i0, hi, hz0, hz1, hz2⟩ := info_parts info_i64
  have HG := s.lt
  go_enter Try.func69, Try.ntmps69
  go_wp2_with fail
  refine (l03Draw_any G B xs n _ h1 hn s).mono ?_
  rintro e w1 ⟨g, c, l, ys, rfl, hl, ⟨p1, p2⟩, own1, s1, o1⟩
  rw [hl] at p1 p2
  have hg := (own1.lt g rfl).1
  have HGw := s1.lt
  have O1 := Lib.hid own1
  have G1 := Lib.hid o1
  have HL := Lib.hid hl
  clear s own1 o1 hl
  go_wp2_with fail
  refine (l01Next_any G B xs _ _ (by omega) s1).mono ?_
  rintro e w2 ⟨r, rfl, r0, r1, s2, o2⟩
  have O2 := Lib.hid (own_pastv O1.out HG o2)
  have G2 := Lib.hid (only_trans G1.out o2)
  clear O1 G1 s1 o2
  by_cases c0 : r = 0
  · have t0 := beq_t c0
    clear c0
    go_wp2_with fail
    refine (l01Next_any G B xs _ _ (by omega) s2).mono ?_
    rintro e w3 ⟨q, rfl, q0, q1, s3, o3⟩
    obtain ⟨qn, rfl⟩ : ∃ qn : Nat, q = (qn : Int) := ⟨q.toNat, by omega⟩
    have O3 := Lib.hid (own_pastv O2.out HG o3)
    have G3 := Lib.hid (only_trans G2.out o3)
    clear O2 G2 s2 o3
    go_wp2_with fail
    refine (l01Next_any G B xs _ _ (by omega) s3).mono ?_
    rintro e w4 ⟨p, rfl, q2, q3, s4, o4⟩
    have O4 := Lib.hid (own_pastv O3.out HG o4)
    have G4 := Lib.hid (only_trans G3.out o4)
    clear O3 G3 s3 o4
    have hf := O4.out.frozenAt qn
    have hc := O4.out.cellAt qn (by omega)
    obtain ⟨y, hy⟩ := at_lt (show qn < ys.length by rw [HL.out]; omega)
    rw [ints_at hy] at hc
    obtain ⟨O5, H5⟩ := O4.out.stored qn (.int .i64 (p - 1))
    rw [ints_setT] at O5
    have HD : Hid (DrawnR (fun ys => ys.length ≤ n + 8) 140 G B xs w (.returned (.slice (some ⟨g, 0, none⟩) l c)) (w4.setCell ⟨g, qn, none⟩ (.int .i64 (p - 1)))) := ⟨_, c, l, _, rfl, by rw [List.length_set]; exact HL.out, by show (ys.set _ _).length ≤ n + 8; rw [List.length_set, HL.out]; omega, O5, s4.only H5 (by omega) (by obtain ⟨_, _, _, _, _, _, h3, _⟩ := s4; omega), only_row G4.out H5 hg⟩
    clear O4 G4 O5 H5 hy s4
    go_wp2
    go_ret
    exact HD.out
  · have t0 := beq_f c0
    by_cases c1 : r = 1
    · have t1 := beq_t c1
      have HD : Hid (DrawnR (fun ys => ys.length ≤ n + 8) 140 G B xs w (.returned (.slice none 0 0)) w2) := ⟨none, 0, 0, [], rfl, rfl, by simp, World.ownsRow_nil .., s2, G2.out⟩
      clear c0 c1 s2 G2 O2
      go_wp2
      go_ret
      exact HD.out
    · have t1 := beq_f c1
      by_cases c2 : r = 2
      · have t2 := beq_t c2
        have S2 := Lib.hid s2
        clear c0 c1 c2 s2
        go_wp2_with fail
        go_loopw [5, 6] (fun v q wr => ∃ j g cap : Nat, ∃ ys : List Int, j ≤ 8 ∧ v = .slice (some ⟨g, 0, none⟩) (l + j) cap ∧ q = .int .i64 j ∧ ys.length = l + j ∧ wr.ownsRow w.heap.size 2 1 (.slice (some ⟨g, 0, none⟩) (l + j) cap) (l + j) (ints ys) ∧ Src wr 140 G B xs ∧ w.grownBy wr (some G)) (fun _ q _ => 8 - (intOf q).toNat)
        case atStart => exact ⟨0, _, _, ys, by omega, rfl, rfl, HL.out, O2.out, S2.out, G2.out⟩
        case round =>
          obtain ⟨j, g, cap, ys, hj, rfl, rfl, hy1, hown, hs, ho⟩ := hrel
          by_cases hlt : j < 8
          · have hg := (hown.lt g rfl).1
            have HY1 := Lib.hid hy1
            have HO := Lib.hid hown
            have HGR := Lib.hid ho
            have hsz := ho.size
            have HS := Lib.hid hs
            have HB := Lib.hid (show B ≤ g from by obtain ⟨_, _, _, _, _, _, h3, _⟩ := hs; omega)
            have HR' := Lib.hid (ints_snocT ys 1)
            clear hown hy1 ho hs O2 S2 G2 HL
            go_wp2_with (at_builtin; refine wpList_append_lies _ rfl (.tmp 31) (.tmp 32) 24 rfl w.heap.size 2 i0 _ 1 8 Try.underlying24 hi hz0 hz1 hz2 rfl (by omega) (.slice (some ⟨g, 0, none⟩) (l + j) cap) (l + j) (ints ys) rfl (HO.out.alloc _) ⟨wr.heap.size, 0, none⟩ 1 1 [.int .i64 1] rfl rfl (World.news_of_block (cs := #[.int .i64 1]) (heap_alloc_new _ _)) (by simp [Value.oneCell']) (by omega) (by simp only [maxLen]; omega) (by omega) (by simp; omega) (wr.heap.size + 1) (by simp) ?_; intro g2 cap2 w2 hown2 hgrow2 hat2 hlt2)
            rw [HR'.out] at hown2
            have s2 := (HS.out.alloc (.cells #[.int .i64 1] 2)).only (g := g) hgrow2 (by omega) HB.out
            have G2 := Lib.hid (only_row (only_alloc HGR.out _) hgrow2 hg)
            have S2 := Lib.hid s2
            have OW2 := Lib.hid hown2
            clear hown2 hgrow2 hat2 s2
            go_wp2
            go_roundw
            case rel => exact ⟨j + 1, _, _, ys ++ [1], by omega, rfl, by go_num, by simp [HY1.out]; omega, OW2.out, S2.out, G2.out⟩
            case measure => simp [intOf]; omega
          · obtain rfl : j = 8 := by omega
            have HD : Hid (DrawnR (fun ys => ys.length ≤ n + 8) 140 G B xs w (.returned (.slice (some ⟨g, 0, none⟩) (l + 8) cap)) wr) := ⟨_, cap, l + 8, ys, rfl, hy1, by show ys.length ≤ n + 8; omega, hown, hs, ho⟩
            clear hown hs ho hy1 O2 S2 G2 HL
            go_wp2
            go_ret
            exact HD.out
      · have t2 := beq_f c2
        have HD : Hid (DrawnR (fun ys => ys.length ≤ n + 8) 140 G B xs w (.returned (.slice (some ⟨g, 0, none⟩) l c)) w2) := ⟨_, c, l, ys, rfl, HL.out, by show ys.length ≤ n + 8; rw [HL.out]; omega, O2.out, s2, G2.out⟩
        clear c0 c1 c2 s2 G2 O2
        go_wp2
        go_ret
        exact HD.out
/-- a tree and a node -/
def DrawnN (w : World) (e : Ending) (w' : World) : Prop := ∃ A c n, ∃ ys : List Int, ∃ k : Int, e = .returned (.tuple #[.slice A n c, .int .i64 k]) ∧ ys.length = n ∧ n ≤ 16 ∧ n ≤ c ∧ Row w' w'.heap.size A (ints ys) ∧ (-1 ≤ k ∧ k ≤ 17) ∧ Below w.heap.size w w'
theorem drawCountRising_any (A : Option Addr) (n c : Nat) (xs : List Int) (w : World) (hn : n ≤ 4096) (hx : IsCode w A n xs) : Calls Try.prog 17 #[.slice A n c] w (DrawnN w) := by
  obtain ⟨hl, h, hx⟩ := hx
  go_enter Try.func17, Try.ntmps17
  go_wp2_with fail
  refine (l01From_any A n c w.heap.size xs w hl hn (Nat.le_refl _) h hx).mono ?_
  rintro e w1 ⟨G, rfl, hG, s1, b1⟩
  have HG1 := s1.lt
  clear h hx hl
  go_wp2_with fail
  refine (l03DrawAny_any G w.heap.size xs 7 _ (by omega) (by omega) s1).mono ?_
  rintro e w2 ⟨A2, c2, l, ys, rfl, hl, hl2, own2, s2, o2⟩
  have hl16 : l ≤ 16 := by have : ys.length ≤ 7 + 8 := hl2; omega
  have hcp := own_room own2
  have OW := Lib.hid own2
  have HL := Lib.hid hl
  have GR := Lib.hid (below_only b1 o2 b1.size hG)
  have HG2 := s2.lt
  clear own2 hl hl2 s1 o2 b1
  go_wp2_with fail
  refine (l01Pick_any G _ xs _ 10 _ _ [0, 1, 2, 2, 3, 3, 4, 5, -1, 11] _ (s2.alloc _) (Row.new w2 _ (ints [0, 1, 2, 2, 3, 3, 4, 5, -1, 11])) (fun b o e => by injection e with e; injection e with e1; omega) rfl (by omega) (by omega)).mono ?_
  rintro e w3 ⟨v, rfl, hv, s3, o3⟩
  have hvb : -1 ≤ v ∧ v ≤ 17 := by
    simp only [List.mem_cons, List.not_mem_nil, or_false] at hv
    omega
  have OW3 := Lib.hid (own_pastv (OW.out.alloc _) HG1 o3)
  have GR3 := Lib.hid (below_only (GR.out.alloc GR.out.size _) o3 (by have := GR.out.size; simp; omega) hG)
  clear OW GR s2 o3 hv
  go_wp2
  go_ret2
  exact ⟨A2, c2, l, ys, _, rfl, HL.out, hl16, hcp, row_of_own OW3.out, hvb, GR3.out⟩
/-- two lists -/
def DrawnP (w : World) (e : Ending) (w' : World) : Prop := ∃ A c n A2 c2 n2, ∃ ys zs : List Int, e = .returned (.tuple #[.slice A n c, .slice A2 n2 c2]) ∧ (ys.length = n ∧ zs.length = n2) ∧ (n ≤ 1024 ∧ n2 ≤ 1024) ∧ (n ≤ c ∧ n2 ≤ c2) ∧ Row w' w'.heap.size A (ints ys) ∧ Row w' w'.heap.size A2 (ints zs) ∧ Below w.heap.size w w'
theorem l04DrawPair_any (A : Option Addr) (n c : Nat) (xs : List Int) (w : World) (hn : n ≤ 4096) (hx : IsCode w A n xs) : Calls Try.prog 58 #[.slice A n c] w (DrawnP w) := by
  obtain ⟨hl, h, hx⟩ := hx
  go_enter Try.func58, Try.ntmps58
  go_wp2_with fail
  refine (l01From_any A n c w.heap.size xs w hl hn (Nat.le_refl _) h hx).mono ?_
  rintro e w1 ⟨G, rfl, hG, s1, b1⟩
  have HG1 := s1.lt
  clear h hx hl
  go_wp2_with fail
  refine (l03DrawAny_any G w.heap.size xs 5 _ (by omega) (by omega) s1).mono ?_
  rintro e w2 ⟨A2, c2, l, ys, rfl, hl, hl2, own2, s2, o2⟩
  have hl16 : l ≤ 1024 := by have : ys.length ≤ 5 + 8 := hl2; omega
  have hcp := own_room own2
  have OW := Lib.hid own2
  have HL := Lib.hid hl
  have GR := Lib.hid (below_only b1 o2 b1.size hG)
  have HG2 := s2.lt
  clear own2 hl hl2 s1 o2 b1
  go_wp2_with fail
  refine (l03DrawAny_any G w.heap.size xs 4 _ (by omega) (by omega) s2).mono ?_
  rintro e w3 ⟨A3, c3, l3, zs, rfl, hl3, hl4, own3, s3, o3⟩
  have hl17 : l3 ≤ 1024 := by have : zs.length ≤ 4 + 8 := hl4; omega
  have hcp3 := own_room own3
  have OW1 := Lib.hid (own_pastv OW.out HG1 o3)
  have OW3 := Lib.hid own3
  have HL3 := Lib.hid hl3
  have GR3 := Lib.hid (below_only GR.out o3 GR.out.size hG)
  clear own3 hl3 hl4 s2 o3 OW GR
  go_wp2
  go_ret2
  exact ⟨A2, c2, l, A3, c3, l3, ys, zs, rfl, ⟨HL.out, HL3.out⟩, ⟨hl16, hl17⟩, ⟨hcp, hcp3⟩, row_of_own OW1.out, row_of_own OW3.out, GR3.out⟩
theorem drawGraftSum_any (A : Option Addr) (n c : Nat) (xs : List Int) (w : World) (hn : n ≤ 4096) (hx : IsCode w A n xs) : Calls Try.prog 10 #[.slice A n c] w (DrawnP w) := by
  go_enter Try.func10, Try.ntmps10
  go_wp2_with fail
  refine (l04DrawPair_any A n c xs w hn hx).mono ?_
  rintro e w1 ⟨A1, c1, n1, A2, c2, n2, ys, zs, rfl, h1⟩
  have H := Lib.hid h1
  clear h1
  go_wp2
  go_ret2
  exact ⟨A1, c1, n1, A2, c2, n2, ys, zs, rfl, H.out⟩
end Go.Proofs.Ytjmjdcfgbaepkaa
/-
  The counts of a sum of trees, added: as many as were put in.
-/
namespace Go.Proofs.Ytjmjdcfgbaepkaa
set_option linter.unusedVariables false
set_option maxRecDepth 100000

theorem insU_sum (t : List Int) (c : Int) : ∀ S : List (List Int × Int), ((Tr.insU t c S).map (·.2)).sum = (S.map (·.2)).sum + c
  | [] => by simp [Tr.insU]
  | e :: r => by
    have ih := insU_sum t c r
    rw [Tr.insU]
    split
    · simp only [List.map_cons, List.sum_cons, ih]; omega
    · split
      · simp only [List.map_cons, List.sum_cons]; omega
      · simp only [List.map_cons, List.sum_cons]; omega
theorem sumTo_sum (f : Nat → List Int) : ∀ n : Nat, ((Tr.sumTo f n).map (·.2)).sum = (n : Int)
  | 0 => rfl
  | n + 1 => by rw [Tr.sumTo_ins, insU_sum, sumTo_sum f n]; omega
/-- the counts of the first entries, added -/
def cntsTo (S : List (List Int × Int)) (r : Nat) : Int := ((S.take r).map (·.2)).sum
theorem cnts_step {S : List (List Int × Int)} {r : Nat} {u : List Int} {x : Int} (h : S[r]? = some (u, x)) : cntsTo S (r + 1) = cntsTo S r + x := by
  unfold cntsTo
  rw [List.take_add_one, h, Option.toList_some, List.map_append, List.sum_append]
  simp
theorem cnts_bd {S : List (List Int × Int)} (h : ∀ p ∈ S, 0 ≤ p.2 ∧ p.2 ≤ 1048576) : ∀ r : Nat, 0 ≤ cntsTo S r ∧ cntsTo S r ≤ 1048576 * (r : Int)
  | 0 => ⟨Int.le_refl _, by simp [cntsTo]⟩
  | r + 1 => by
    have ih := cnts_bd h r
    rcases Nat.lt_or_ge r S.length with q | q
    · obtain ⟨⟨v, x⟩, hx⟩ := List.getElem?_eq_some_iff.2 ⟨q, rfl⟩ |> fun e => (⟨S[r], e⟩ : ∃ p, S[r]? = some p)
      rw [cnts_step hx]
      have := h _ (List.mem_of_getElem? hx)
      simp only at this
      omega
    · have e : cntsTo S (r + 1) = cntsTo S r := by
        unfold cntsTo
        rw [List.take_of_length_le (by omega), List.take_of_length_le q]
      omega
theorem cnts_all (S : List (List Int × Int)) : cntsTo S S.length = (S.map (·.2)).sum := by unfold cntsTo; rw [List.take_length]
end Go.Proofs.Ytjmjdcfgbaepkaa
/-
  Sums of trees in a map of the program: what the map holds is told as a function of texts; a tree is added to it.
-/
namespace Go.Proofs.Ytjmjdcfgbaepkaa
open Go.RowKit Fld Go.Maps Go.Sort
set_option linter.unusedVariables false
set_option linter.unusedSimpArgs false
set_option maxRecDepth 100000

theorem keyed : Keyed Try.prog 75 := Maps.string_keyed Try.underlying75
theorem zeroCount (w : World) : (zeroValue 2).run Try.prog w = .ok (.int .i64 0) w := by kernel_rfl
theorem keyTx {x : List UInt8} (h : x.length ≤ 1048576) : keyOf Try.prog 75 (.string ⟨x.toArray⟩) = some (.string x) := by
  have h1 := Go.WideMaps.keyOf_string_mk (P := Try.prog) (k := 75) Try.underlying75 (s := ⟨x.toArray⟩) (by simp [ByteArray.size, maxLen]; omega)
  simpa using h1
theorem keyLit {x : List UInt8} : WideAt.IsKeyLit (.string x) := by simp [WideAt.IsKeyLit]
/-- the datum of a map that holds the numbers f, and no 0 -/
def HoldsF (D : DataW Unit) (f : List UInt8 → Int) : Prop :=
  (∀ x, D.atKey (.string x) (.lit (.int .i64 0)) = .lit (.int .i64 (f x))) ∧ ∀ x, Maps.has D (.string x) = decide (f x ≠ 0)
/-- block b is a map that holds the numbers f -/
def MapF (w : World) (b n : Nat) (f : List UInt8 → Int) : Prop :=
  ∃ D : DataW Unit, w.ownsMap Try.prog 75 (plainElem Try.prog 2) b n D ∧ HoldsF D f
def bump (f : List UInt8 → Int) (x : List UInt8) (c : Int) : List UInt8 → Int := fun y => if y = x then f x + c else f y
theorem MapF.made (w : World) : MapF (w.alloc (.map #[] 0)) w.heap.size 0 (fun _ => 0) :=
  ⟨.map [], World.ownsMap_made _ _ _ _, fun x => by simp [DataW.atKey], fun x => by simp [Maps.has]⟩
theorem MapF.lt {w : World} {b n : Nat} {f : List UInt8 → Int} (h : MapF w b n f) : b < w.heap.size := by
  obtain ⟨D, h1, _⟩ := h
  exact h1.lt
theorem MapF.below {w w' : World} {b n B : Nat} {f : List UInt8 → Int} (h : MapF w b n f) (hb : Below B w w') (hB : b < B) : MapF w' b n f := by
  obtain ⟨D, ⟨es, clock, h1, r⟩, h2⟩ := h
  exact ⟨D, ⟨es, clock, (hb.block b hB).trans h1, r⟩, h2⟩
theorem MapF.next {w w' : World} {b n : Nat} {f : List UInt8 → Int} (h : MapF w b n f) (hb : Below w.heap.size w w') : MapF w' b n f := h.below hb h.lt
theorem MapF.kept {w w' : World} {b n : Nat} {row : Option Nat} {f : List UInt8 → Int} (h : MapF w b n f) (hg : w.grownBy w' row) (hne : some b ≠ row) : MapF w' b n f := by
  obtain ⟨D, h1, h2⟩ := h
  exact ⟨D, h1.kept hg hne, h2⟩
theorem HoldsF.put {D : DataW Unit} {f : List UInt8 → Int} {x : List UInt8} {c : Int} (h : HoldsF D f) (hm : IsMap D) (hz : f x + c ≠ 0) : HoldsF (D.put (.string x) (.lit (.int .i64 (f x + c)))) (bump f x c) := by
  refine ⟨fun y => ?_, fun y => ?_⟩
  · unfold bump
    by_cases e : y = x
    · subst e
      rw [if_pos rfl, Maps.atKey_put_same hm keyLit]
    · rw [if_neg e, Maps.atKey_put_other (fun q => e (by injection q))]; exact h.1 y
  · unfold bump
    by_cases e : y = x
    · subst e
      rw [if_pos rfl, Maps.has_put_same hm keyLit, decide_eq_true hz]
    · rw [if_neg e, Maps.has_put_other (fun q => e (by injection q))]; exact h.2 y
theorem HoldsF.del {D : DataW Unit} {f : List UInt8 → Int} {x : List UInt8} {c : Int} {d : DataW Unit} (h : HoldsF D f) (hz : f x + c = 0) : HoldsF ((D.put (.string x) d).del (.string x)) (bump f x c) := by
  refine ⟨fun y => ?_, fun y => ?_⟩
  · unfold bump
    by_cases e : y = x
    · subst e
      rw [if_pos rfl, Maps.atKey_del_same, hz]
    · rw [if_neg e, Maps.atKey_del_other (fun q => e (by injection q)), Maps.atKey_put_other (fun q => e (by injection q))]; exact h.1 y
  · unfold bump
    by_cases e : y = x
    · subst e
      rw [if_pos rfl, Maps.has_del_same, hz]; rfl
    · rw [if_neg e, Maps.has_del_other (fun q => e (by injection q)), Maps.has_put_other (fun q => e (by injection q))]; exact h.2 y
set_option maxHeartbeats 1000000 in
theorem add_any (b n : Nat) (x : List UInt8) (c : Int) (f : List UInt8 → Int) (w : World) (h : MapF w b n f) (hx : x.length ≤ 1048576) (hn : n ≤ 1000000) (hf : -1000000000000 ≤ f x ∧ f x ≤ 1000000000000) (hc : -1000000000000 ≤ c ∧ c ≤ 1000000000000) :
    Calls Try.prog 111 #[.map (some b), .string ⟨x.toArray⟩, .int .i64 c] w fun e w' => e = .returned (.tuple #[]) ∧ MapF w' b (n + 1) (bump f x c) ∧ w.grownBy w' (some b) := by
  obtain ⟨D, hown, hD⟩ := h
  have hkey := keyTx hx
  have HD := Lib.hid hD
  have hw : IntKind.i64.wrap (f x + c) = f x + c := IntWalk.i64_in _ (by omega)
  obtain ⟨a, ha⟩ : ∃ a, a = f x := ⟨_, rfl⟩
  have HA := Lib.hid ha
  have hat0 : D.atKey (.string x) (.lit (.int .i64 0)) = .lit (.int .i64 a) := by rw [ha]; exact hD.1 x
  have HAT := Lib.hid hat0
  have hm : IsMap D := hown.isMap
  have HP1 : Hid (a + c ≠ 0 → HoldsF (D.put (.string x) (.lit (.int .i64 (a + c)))) (bump f x c)) := fun hz => by rw [ha] at hz ⊢; exact hD.put hm hz
  have HP2 : Hid (∀ d, a + c = 0 → HoldsF ((D.put (.string x) d).del (.string x)) (bump f x c)) := fun d hz => by rw [ha] at hz; exact hD.del hz
  have HPA : Hid ((D.put (.string x) (.lit (.int .i64 (a + c)))).atKey (.string x) (.lit (.int .i64 0)) = .lit (.int .i64 (a + c))) := Maps.atKey_put_same hm keyLit _ _
  rw [← ha] at hw hf
  have hwf : (Lit.int .i64 (a + c)).wf = true := by simp [Lit.wf, IntKind.min, IntKind.max, IntKind.signed, IntKind.bits]; omega
  obtain ⟨X, hX⟩ : ∃ X : ByteArray, X = ⟨x.toArray⟩ := ⟨_, rfl⟩
  rw [← hX] at hkey ⊢
  clear hD ha hat0 hm hX hx
  by_cases hz : a + c = 0
  · have hzb : (a + c == 0) = true := beq_t hz
    have HZ := Lib.hid (HP2.out (.lit (.int .i64 (a + c))) hz)
    clear hz HP1 HP2
    go_enter Try.func111, Try.ntmps111
    go_wp2_with (first
      | (at_lookup; refine wpList_lookup_own_int _ rfl _ _ 74 rfl 75 2 .i64 keyed Try.underlying74 Try.underlying2 (zeroCount _) b n D rfl hown _ _ rfl hkey ?_; intro c0 hat hwc; (have h9 := hat.symm.trans HAT.out); (obtain rfl : c0 = a := by simpa using h9); clear hat h9)
      | (at_mapUpdate; refine wpList_mapUpdate_own _ rfl _ _ _ 74 rfl 75 2 keyed Try.underlying74 _ b n _ rfl hown (by unfold maxLen; omega) _ _ _ rfl rfl hkey _ [] (plainElem_int Try.underlying2 hwf) ?_; intro w1 hown1 hgrow1)
      | (at_lookup; refine wpList_lookup_own_int _ rfl _ _ 74 rfl 75 2 .i64 keyed Try.underlying74 Try.underlying2 (zeroCount _) b (n + 1) _ rfl hown1 _ _ rfl hkey ?_; intro c1 hat hwc1; (have h9 := hat.symm.trans HPA.out); (obtain rfl : c1 = c0 + c := by simpa using h9); clear hat h9)
      | (at_delete; refine wpList_delete_own _ rfl _ _ 74 75 rfl 2 keyed Try.underlying74 _ b (n + 1) _ rfl hown1 _ _ rfl hkey ?_; intro w2 hown2 hturn2)
      | fail)
    go_end0
    exact ⟨rfl, ⟨_, hown2, HZ.out⟩, hgrow1.trans hturn2.grown⟩
  · have hzb : (a + c == 0) = false := beq_f hz
    have HZ := Lib.hid (HP1.out hz)
    clear hz HP1 HP2
    go_enter Try.func111, Try.ntmps111
    go_wp2_with (first
      | (at_lookup; refine wpList_lookup_own_int _ rfl _ _ 74 rfl 75 2 .i64 keyed Try.underlying74 Try.underlying2 (zeroCount _) b n D rfl hown _ _ rfl hkey ?_; intro c0 hat hwc; (have h9 := hat.symm.trans HAT.out); (obtain rfl : c0 = a := by simpa using h9); clear hat h9)
      | (at_mapUpdate; refine wpList_mapUpdate_own _ rfl _ _ _ 74 rfl 75 2 keyed Try.underlying74 _ b n _ rfl hown (by unfold maxLen; omega) _ _ _ rfl rfl hkey _ [] (plainElem_int Try.underlying2 hwf) ?_; intro w1 hown1 hgrow1)
      | (at_lookup; refine wpList_lookup_own_int _ rfl _ _ 74 rfl 75 2 .i64 keyed Try.underlying74 Try.underlying2 (zeroCount _) b (n + 1) _ rfl hown1 _ _ rfl hkey ?_; intro c1 hat hwc1; (have h9 := hat.symm.trans HPA.out); (obtain rfl : c1 = c0 + c := by simpa using h9); clear hat h9)
      | (at_delete; refine wpList_delete_own _ rfl _ _ 74 75 rfl 2 keyed Try.underlying74 _ b (n + 1) _ rfl hown1 _ _ rfl hkey ?_; intro w2 hown2 hturn2)
      | fail)
    go_end0
    exact ⟨rfl, ⟨_, hown1, HZ.out⟩, hgrow1⟩
end Go.Proofs.Ytjmjdcfgbaepkaa
/-
  A region that draws its order: operations that their guards pass over, taken at once.
-/
namespace Go.Proofs.Ytjmjdcfgbaepkaa
open Go.RowKit
set_option linter.unusedVariables false
set_option maxRecDepth 100000

def skip1 (md : Region.Mode) (ops : Array Oper) (i d : Nat) (listed : Array Bool) (a : Act) : Bool :=
  (match ops[i]? with
    | some o => (match o.dst with | some d' => d' == d | none => false) && !Region.wanted o (yielded ops a.tmps)
    | none => false) && Region.noSelect ops && Region.free md ops listed i && (Region.ready md ops listed).contains i
theorem wpAnyH_skip1 {P : Program} {md : Region.Mode} {ops : Array Oper} {Q : Exit → Act → World → Prop} {S : World → Prop} {i d fuel : Nat} {listed : Array Bool} {a : Act} {w : World}
    (hc : skip1 md ops i d listed a = true) (hS : S w)
    (h : wpAnyH P md ops (NoPanic Q) S fuel (listed.setIfInBounds i true) (a.put (some d) undef) w) : wpAnyH P md ops (NoPanic Q) S (fuel + 1) listed a w := by
  unfold skip1 at hc
  simp only [Bool.and_eq_true] at hc
  obtain ⟨⟨⟨h1, h2⟩, h3⟩, h4⟩ := hc
  cases ho : ops[i]? with
  | none => rw [ho] at h1; simp at h1
  | some o =>
    rw [ho] at h1
    simp only [Bool.and_eq_true, Bool.not_eq_true'] at h1
    obtain ⟨hd, hw⟩ := h1
    cases hdd : o.dst with
    | none => rw [hdd] at hd; simp at hd
    | some d' =>
      rw [hdd] at hd
      have e : d' = d := by simpa using hd
      subst e
      exact wpAnyH_take (i := i) (oi := o) (v := undef) ho h2 h3 h4 (fun _ _ _ h => h) (.inr ⟨hw, rfl⟩) hS (by rw [hdd]; exact h)
def skipN (md : Region.Mode) (ops : Array Oper) : List (Nat × Nat) → Array Bool → Act → Bool
  | [], _, _ => true
  | (i, d) :: l, listed, a => skip1 md ops i d listed a && skipN md ops l (listed.setIfInBounds i true) (a.put (some d) undef)
theorem wpAnyH_skipN {P : Program} {md : Region.Mode} {ops : Array Oper} {Q : Exit → Act → World → Prop} {S : World → Prop} {w : World} (hS : S w) : ∀ (l : List (Nat × Nat)) (fuel : Nat) (listed : Array Bool) (a : Act),
    skipN md ops l listed a = true → wpAnyH P md ops (NoPanic Q) S fuel (l.foldl (fun x p => x.setIfInBounds p.1 true) listed) (l.foldl (fun a p => a.put (some p.2) undef) a) w → wpAnyH P md ops (NoPanic Q) S (fuel + l.length) listed a w
  | [], _, _, _, _, h => h
  | (i, d) :: l, fuel, listed, a, hc, h => by
    rw [skipN, Bool.and_eq_true] at hc
    exact wpAnyH_skip1 hc.1 hS (wpAnyH_skipN hS l fuel _ _ hc.2 h)
end Go.Proofs.Ytjmjdcfgbaepkaa
/-
  The lists of trees by their texts.
-/
namespace Go.Proofs.Ytjmjdcfgbaepkaa
open Go.RowKit Fld
set_option linter.unusedVariables false
set_option linter.unusedSimpArgs false
set_option maxRecDepth 100000

set_option maxHeartbeats 400000 in
theorem listsOf_any (A : Option Addr) (n c B : Nat) (ss : List (List UInt8)) (w : World) (hl : ss.length = n) (hn : n ≤ 1048576) (hs : ∀ s ∈ ss, s.length ≤ 1048576 ∧ Brk s) (hB : B ≤ w.heap.size) (h : Row w B A (strs ss)) :
    Calls Try.prog 97 #[.slice A n c] w (NewMat n (ss.map Tr.lvl) w) := by
  obtain ⟨i0, hi, hz0, hz1, hz2⟩ := info_parts info_row
  have HL := Lib.hid hl
  have HS := Lib.hid hs
  have HML : Hid ((ss.map Tr.lvl).length = n) := by rw [Hid, List.length_map]; exact hl
  clear hl hs
  go_enter Try.func97, Try.ntmps97
  go_wp2_with (at_make; refine wpList_make_full _ rfl (.tmp 7) (.tmp 7) 44 rfl w.heap.size 24 i0 _ 1 Try.underlying44 hi hz0 hz1 .i64 .i64 _ _ n rfl rfl rfl rfl (by rw [hz2]; omega) (by simp only [maxLen]; omega) (Nat.le_refl _) ?_; intro w1 hown hg)
  have F0 := FillM.start (m := ss.map Tr.lvl) hown hg
  clear hown hg hz0 hz1 hz2 hi
  go_wp2_with fail
  go_loopw [11] (fun i wr => ∃ k : Nat, k ≤ n ∧ i = .int .i64 k ∧ FillM w n (ss.map Tr.lvl) k wr) (fun i _ => n - (intOf i).toNat)
  case atStart => exact ⟨0, Nat.zero_le _, rfl, F0⟩
  case round =>
    obtain ⟨k, hk, rfl, HF⟩ := hrel
    by_cases hlt : k < n
    · obtain ⟨s, hs⟩ := at_lt (show k < ss.length by rw [HL.out]; exact hlt)
      obtain ⟨hs1, hs2⟩ := HS.out s (List.mem_of_getElem? hs)
      obtain ⟨vs, hvs, hbel, hsz⟩ := id HF
      obtain ⟨b, o, rfl, _, hc⟩ := (Row.below h hbel hB) k _ (strs_at hs)
      have HR : Hid ((ss.map Tr.lvl)[k]? = some (Tr.lvl s)) := by rw [Hid, List.getElem?_map, hs]; rfl
      have C1 := fun w => levels_any s w hs1 hs2
      obtain ⟨S, hS⟩ : ∃ S : ByteArray, S = ⟨s.toArray⟩ := ⟨_, rfl⟩
      rw [← hS] at C1 hc
      have HF' := Lib.hid HF
      clear hs hs1 hs2 F0 HF hvs hbel hS
      go_wp2_with fail
      refine (C1 _).mono ?_
      rintro e w2 ⟨A2, c2, rfl, own2, be2⟩
      obtain ⟨⟨u, hu⟩, hf⟩ := HF'.out.cell HML.out hlt be2
      have G := Lib.hid (HF'.out.step HML.out HR.out own2 be2)
      clear own2
      go_wp2
      go_roundw
      case rel => exact ⟨k + 1, by omega, by go_num, G.out⟩
      case measure => simp [intOf]; omega
    · obtain rfl : k = n := by omega
      have G := Lib.hid (HF.done HML.out)
      clear HF F0
      go_wp2
      go_ret
      exact G.out
end Go.Proofs.Ytjmjdcfgbaepkaa
/-
  slices.SortFunc of a few texts by tree.compare; forestOf.
-/
namespace Go.Proofs.Ytjmjdcfgbaepkaa
open Go.RowKit Fld
set_option linter.unusedVariables false
set_option linter.unusedSimpArgs false
set_option maxRecDepth 100000

theorem cmp_lt (x y : List UInt8) : decide (Tr.cmpT x y < 0) = !Tr.leT y x := by
  unfold Tr.leT Tr.cmpT
  by_cases h1 : x.length / 2 < y.length / 2
  · have h2 : ¬ y.length / 2 < x.length / 2 := by omega
    simp [h1, h2]
  · by_cases h2 : y.length / 2 < x.length / 2
    · simp [h1, h2]
    · rw [if_neg h1, if_neg h2, if_neg h2, if_neg h1]
      unfold Tr.ltS
      cases h3 : Tr.leS x y <;> cases h4 : Tr.leS y x <;> simp
      have := Tr.leS_to h3
      rw [h4] at this; cases this
theorem insT_le (p s : List UInt8) : (Tr.cmpT p s ≤ 0) = (Tr.leT p s = true) := by unfold Tr.leT; simp
theorem insT_perm (p : List UInt8) : ∀ l, (Tr.insT p l).Perm (p :: l)
  | [] => List.Perm.refl _
  | s :: r => by
    rw [Tr.insT]
    split
    · exact List.Perm.refl _
    · exact ((insT_perm p r).cons s).trans (List.Perm.swap p s r)
theorem sortT_perm : ∀ l, (Tr.sortT l).Perm l
  | [] => List.Perm.refl _
  | p :: r => (insT_perm p (Tr.sortT r)).trans ((sortT_perm r).cons p)
theorem insT_sorted (p : List UInt8) : ∀ l, l.Pairwise (fun a b => Tr.leT a b = true) → (Tr.insT p l).Pairwise (fun a b => Tr.leT a b = true)
  | [], _ => by simp [Tr.insT]
  | s :: r, h => by
    rw [Tr.insT]
    rw [List.pairwise_cons] at h
    cases e : Tr.leT p s
    · rw [if_neg (by rw [insT_le, e]; simp)]
      rw [List.pairwise_cons]
      refine ⟨fun x hx => ?_, insT_sorted p r h.2⟩
      rw [(insT_perm p r).mem_iff, List.mem_cons] at hx
      rcases hx with rfl | hx
      · exact Tr.leT_to e
      · exact h.1 x hx
    · rw [if_pos (by rw [insT_le]; exact e), List.pairwise_cons, List.pairwise_cons]
      refine ⟨fun x hx => ?_, h⟩
      rw [List.mem_cons] at hx
      rcases hx with rfl | hx
      · exact e
      · exact Tr.leT_tr e (h.1 x hx)
theorem sortT_sorted : ∀ l, (Tr.sortT l).Pairwise (fun a b => Tr.leT a b = true)
  | [] => List.Pairwise.nil
  | p :: r => insT_sorted p _ (sortT_sorted r)
/-- a row of texts that a sort turns, beside memory that it makes -/
def Frow (base g n cap : Nat) (w : World) (ls : List (List UInt8)) (wr : World) : Prop := wr.ownsRow base 75 1 (.slice (some ⟨g, 0, none⟩) n cap) n (strs ls) ∧ Below base w wr ∧ base ≤ wr.heap.size
theorem Frow.swap {base g n cap j : Nat} {w wr : World} {ls : List (List UInt8)} {x y : List UInt8} (h : Frow base g n cap w ls wr) :
    Frow base g n cap w ((ls.set (j + 1) y).set j x) ((wr.setCell ⟨g, j + 1, none⟩ (.string ⟨y.toArray⟩)).setCell ⟨g, j, none⟩ (.string ⟨x.toArray⟩)) := by
  obtain ⟨h1, h2⟩ := h.1.stored (j + 1) (.string ⟨y.toArray⟩)
  obtain ⟨h3, h4⟩ := h1.stored j (.string ⟨x.toArray⟩)
  rw [← strs_set, ← strs_set] at h3
  have hg : base ≤ g := (h.1.lt g rfl).1
  refine ⟨h3, below_set (below_set h.2.1 hg _) hg _, ?_⟩
  have e1 : ∀ (W : World) (p : Addr) (v : Value), (W.setCell p v).heap.size = W.heap.size := fun W p v => by simp [World.setCell]
  rw [e1, e1]; exact h.2.2
theorem Frow.below {base g n cap : Nat} {w wr w2 : World} {ls : List (List UInt8)} (h : Frow base g n cap w ls wr) (hb : Below wr.heap.size wr w2) : Frow base g n cap w ls w2 :=
  ⟨((OwnR.of h.1).below hb (Nat.le_refl _)).1, h.2.1.trans (hb.mono h.2.2), Nat.le_trans h.2.2 hb.size⟩
theorem Frow.drewN {base g n cap : Nat} {w wr : World} {ls : List (List UInt8)} (h : Frow base g n cap w ls wr) (m : Nat) : Frow base g n cap w ls (wr.drewN m) := h.below (below_drewN (Below.refl _ _) m)
set_option maxHeartbeats 4000000 in
theorem fInsert_any (base g n cap : Nat) (ss : List (List UInt8)) (w : World) (hl : ss.length = n) (h1 : 1 ≤ n) (hn : n ≤ 12) (hs16 : ∀ s ∈ ss, s.length ≤ 16) (hbase : base ≤ w.heap.size) (h : w.ownsRow base 75 1 (.slice (some ⟨g, 0, none⟩) n cap) n (strs ss)) :
    Calls Try.prog 162 #[.slice (some ⟨g, 0, none⟩) n cap, .int .i64 0, .int .i64 n, (.func (.func 75) #[] #[])] w fun e w' => e = .returned (.tuple #[]) ∧ Frow base g n cap w (Tr.sortT ss) w' := by
  have HL := Lib.hid hl
  have F0 : Hid (Frow base g n cap w (ss.take 1 ++ ss.drop 1) w) := by rw [Hid, List.take_append_drop]; exact ⟨h, Below.refl _ _, hbase⟩
  have H16 := Lib.hid hs16
  have I0 := Lib.hid (Insd.one (le := Tr.leT) ss (by omega))
  clear hl h hs16
  go_enter Try.func162, Try.ntmps162
  go_wp2_with fail
  go_loopw [8] (fun i wr => ∃ (k : Nat) (S : List (List UInt8)), 1 ≤ k ∧ k ≤ n ∧ i = .int .i64 k ∧ Hid (Insd Tr.leT ss k S) ∧ Frow base g n cap w (S ++ ss.drop k) wr) (fun i _ => n - (intOf i).toNat)
  case atStart => exact ⟨1, _, Nat.le_refl _, h1, rfl, I0, F0.out⟩
  case round =>
    obtain ⟨i, S, i1, hi, rfl, HI, HF⟩ := hrel
    by_cases hlt : i < n
    · obtain ⟨x, hx⟩ := at_lt (show i < ss.length by rw [HL.out]; exact hlt)
      have HX := Lib.hid hx
      have hin : Hid (∀ j T W, j ≤ i → Frow base g n cap w (insAt S j x (ss.drop (i + 1))) W → Insd Tr.leT ss (i + 1) T → T = S.take j ++ x :: S.drop j → Frow base g n cap w (T ++ ss.drop (i + 1)) W) := by
        intro j T W hj hW hT e
        subst e
        unfold insAt at hW
        simpa using hW
      have F1 : Hid (Frow base g n cap w (insAt S i x (ss.drop (i + 1))) wr) := by
        rw [Hid]
        have e := insAt_start (S := S) (R := ss.drop (i + 1)) (x := x)
        rw [HI.out.len] at e
        rw [e]
        have e2 : ss.drop i = x :: ss.drop (i + 1) := by
          have hlt2 : i < ss.length := by rw [HL.out]; exact hlt
          rw [List.drop_eq_getElem_cons hlt2]
          rw [List.getElem?_eq_getElem hlt2] at hx
          injection hx with hx
          rw [hx]
        rw [← e2]; exact HF
      clear hx HF F0 I0
      go_wp2_with fail
      go_loopw [9] (fun jj wr => ∃ j : Nat, j ≤ i ∧ jj = .int .i64 j ∧ Hid (∀ s ∈ S.drop j, Tr.leT x s = true) ∧ Frow base g n cap w (insAt S j x (ss.drop (i + 1))) wr) (fun jj _ => (intOf jj).toNat)
      case atStart => exact ⟨i, Nat.le_refl _, rfl, (fun s hs => by rw [List.drop_of_length_le (by rw [HI.out.len]; exact Nat.le_refl _)] at hs; cases hs), F1.out⟩
      case round =>
        obtain ⟨j, hj, rfl, HD, HF⟩ := hrel
        by_cases h0 : j = 0
        · have G : Hid (∃ T, Insd Tr.leT ss (i + 1) T ∧ Frow base g n cap w (T ++ ss.drop (i + 1)) wr) :=
            have hT := HI.out.step (le := Tr.leT) Tr.leT_tr HX.out HD.out hj (fun y hy => by omega)
            ⟨_, hT, hin.out j _ _ hj HF hT rfl⟩
          obtain rfl : j = 0 := h0
          obtain ⟨T, hT, hW⟩ := G.out
          have GT := Lib.hid hT
          have GW := Lib.hid hW
          clear HF HD F1 G hT hW hin
          go_wp2_with fail
          go_quiet (fail)
          go_wp2
          go_roundw
          case rel => exact ⟨i + 1, T, by omega, by omega, by go_num, GT, GW.out.drewN _⟩
          case measure => simp [intOf]; omega
        · obtain ⟨k, rfl⟩ : ∃ k, j = k + 1 := ⟨j - 1, by omega⟩
          obtain ⟨y, hy⟩ := at_lt (show k < S.length by rw [HI.out.len]; omega)
          have hjl : k + 1 ≤ S.length := by rw [HI.out.len]; exact hj
          have hx16 := H16.out x (List.mem_of_getElem? HX.out)
          have hy16 : y.length ≤ 16 := H16.out y (List.mem_of_mem_take ((HI.out.perm.mem_iff).1 (List.mem_of_getElem? hy)))
          have c1 := HF.1.cellAt (k + 1) (by omega)
          have c2 := HF.1.cellAt k (by omega)
          have f1 := HF.1.frozenAt (k + 1)
          have f2 := HF.1.frozenAt k
          rw [strs_at (insAt_x hjl)] at c1
          rw [strs_at (insAt_y hjl hy)] at c2
          have hd : decide ((0 : Int) < (k : Int) + 1) = true := decide_eq_true (by omega)
          have HFF := Lib.hid HF
          have HIX : Hid ((strs (insAt S (k + 1) x (ss.drop (i + 1))))[k + 1]? = some (.string ⟨x.toArray⟩)) := strs_at (insAt_x hjl)
          have HIY : Hid ((strs (insAt S (k + 1) x (ss.drop (i + 1))))[k]? = some (.string ⟨y.toArray⟩)) := strs_at (insAt_y hjl hy)
          cases hyx : Tr.leT y x
          · have HD2 : Hid (∀ s ∈ S.drop k, Tr.leT x s = true) := ins_low HD.out hy (Tr.leT_to hyx)
            have HS : Hid (insAt S k x (ss.drop (i + 1)) = ((insAt S (k + 1) x (ss.drop (i + 1))).set (k + 1) y).set k x) := (insAt_swap hjl hy).symm
            have hcl := cmp_lt x y
            rw [hyx] at hcl
            have C0 := fun w => compare_any x y w (by omega) (by omega)
            obtain ⟨v, hv⟩ : ∃ v, v = Tr.cmpT x y := ⟨_, rfl⟩
            simp only [← hv] at C0
            rw [← hv] at hcl
            have hvd : v < 0 := by simpa using hcl
            obtain ⟨X, hX⟩ : ∃ X : ByteArray, X = ⟨x.toArray⟩ := ⟨_, rfl⟩
            obtain ⟨Y, hY⟩ : ∃ Y : ByteArray, Y = ⟨y.toArray⟩ := ⟨_, rfl⟩
            rw [← hX] at c1 C0
            rw [← hY] at c2 C0
            have KK : Hid (∀ W, Below wr.heap.size wr W → W.cell? ⟨g, k + 1, none⟩ = some (.string X) ∧ W.cell? ⟨g, k, none⟩ = some (.string Y)) := fun W hb => by
              have hF := HFF.out.below hb
              have d1 := hF.1.cellAt (k + 1) (by omega)
              have d2 := hF.1.cellAt k (by omega)
              rw [HIX.out, ← hX] at d1
              rw [HIY.out, ← hY] at d2
              exact ⟨d1, d2⟩
            have ek : (((k + 1 : Nat)) : Int) = (k : Int) + 1 := by omega
            have hwk : IntKind.i64.wrap (k : Int) = (k : Int) := IntWalk.i64_in _ (by omega)
            have hk0 : (0 : Int) ≤ (k : Int) := Int.natCast_nonneg _
            have hk1 : (k : Int) + 1 < (n : Int) := by omega
            have hk2 : (k : Int) < (n : Int) := by omega
            have hk3 : (0 : Int) ≤ (k : Int) + 1 := by omega
            have GG : Hid (∀ W, Below wr.heap.size wr W → Frow base g n cap w (insAt S k x (ss.drop (i + 1))) ((W.setCell ⟨g, k + 1, none⟩ (.string Y)).setCell ⟨g, k, none⟩ (.string X))) := fun W hb => by rw [HS.out, hX, hY]; exact (HFF.out.below hb).swap
            have FZ : Hid (∀ W, Below wr.heap.size wr W → W.frozen? ⟨g, k + 1, none⟩ = false ∧ W.frozen? ⟨g, k, none⟩ = false) := fun W hb => ⟨(HFF.out.below hb).1.frozenAt (k + 1), (HFF.out.below hb).1.frozenAt k⟩
            rw [ek]
            clear HF HD F1 hjl hy hin h0 HS hcl hv hX hY HFF HIX HIY hyx hx16 hy16 f1 f2 ek hd
            go_wp2_with fail
            refine wp_region_noPanic ?_
            refine wp_region_held_drew (S := (fun w' => w'.cell? ⟨g, k + 1, none⟩ = some (.string X) ∧ w'.cell? ⟨g, k, none⟩ = some (.string Y))) (by kernel_rfl) ?_ (fun hHeld => ?_)
            · first | exact ⟨c1, c2⟩ | exact KK.out _ ⟨bel2.os, bel2.tape, bel2.output, bel2.size, bel2.block⟩
            refine wpAnyH_take (i := 0) (oi := _) (v := ?_) rfl (by kernel_rfl) (by kernel_rfl) (by kernel_rfl) (fun _ _ _ h => h) (Or.inl ⟨by kernel_rfl, ?_⟩) (by assumption) ?_
            rotate_left
            · (intro w hSw; (try dsimp only at hSw); go_simp; try (with_reducible rfl))
            try simp only [Act.put, List.setIfInBounds_toArray, List.set_cons_zero, List.set_cons_succ, List.getElem_toArray, List.getElem_cons_zero, List.getElem_cons_succ]
            refine wpAnyH_take (i := 1) (oi := _) (v := ?_) rfl (by kernel_rfl) (by kernel_rfl) (by kernel_rfl) (fun _ _ _ h => h) (Or.inl ⟨by kernel_rfl, ?_⟩) (by assumption) ?_
            rotate_left
            · (intro w hSw; (try dsimp only at hSw); go_simp; try (with_reducible rfl))
            try simp only [Act.put, List.setIfInBounds_toArray, List.set_cons_zero, List.set_cons_succ, List.getElem_toArray, List.getElem_cons_zero, List.getElem_cons_succ]
            refine wpAnyH_take (i := 2) (oi := _) (v := ?_) rfl (by kernel_rfl) (by kernel_rfl) (by kernel_rfl) (fun _ _ _ h => h) (Or.inl ⟨by kernel_rfl, ?_⟩) (by assumption) ?_
            rotate_left
            · (intro w hSw; (try dsimp only at hSw); go_simp; try (with_reducible rfl))
            try simp only [Act.put, List.setIfInBounds_toArray, List.set_cons_zero, List.set_cons_succ, List.getElem_toArray, List.getElem_cons_zero, List.getElem_cons_succ]
            refine wpAnyH_take (i := 3) (oi := _) (v := ?_) rfl (by kernel_rfl) (by kernel_rfl) (by kernel_rfl) (fun _ _ _ h => h) (Or.inl ⟨by kernel_rfl, ?_⟩) (by assumption) ?_
            rotate_left
            · (intro w hSw; (try dsimp only at hSw); go_simp; try (with_reducible rfl))
            try simp only [Act.put, List.setIfInBounds_toArray, List.set_cons_zero, List.set_cons_succ, List.getElem_toArray, List.getElem_cons_zero, List.getElem_cons_succ]
            refine wpAnyH_take (i := 4) (oi := _) (v := ?_) rfl (by kernel_rfl) (by kernel_rfl) (by kernel_rfl) (fun _ _ _ h => h) (Or.inl ⟨by kernel_rfl, ?_⟩) (by assumption) ?_
            rotate_left
            · (intro w hSw; (try dsimp only at hSw); go_simp; try (with_reducible rfl))
            try simp only [Act.put, List.setIfInBounds_toArray, List.set_cons_zero, List.set_cons_succ, List.getElem_toArray, List.getElem_cons_zero, List.getElem_cons_succ]
            refine wpAnyH_take (i := 5) (oi := _) (v := ?_) rfl (by kernel_rfl) (by kernel_rfl) (by kernel_rfl) (fun _ _ _ h => h) (Or.inl ⟨by kernel_rfl, ?_⟩) (by assumption) ?_
            rotate_left
            · (intro w hSw; (try dsimp only at hSw); go_simp; try (with_reducible rfl))
            try simp only [Act.put, List.setIfInBounds_toArray, List.set_cons_zero, List.set_cons_succ, List.getElem_toArray, List.getElem_cons_zero, List.getElem_cons_succ]
            refine wpAnyH_take (i := 6) (oi := _) (v := ?_) rfl (by kernel_rfl) (by kernel_rfl) (by kernel_rfl) (fun _ _ _ h => h) (Or.inl ⟨by kernel_rfl, ?_⟩) (by assumption) ?_
            rotate_left
            · (intro w hSw; (try dsimp only at hSw); go_simp; try (with_reducible rfl))
            try simp only [Act.put, List.setIfInBounds_toArray, List.set_cons_zero, List.set_cons_succ, List.getElem_toArray, List.getElem_cons_zero, List.getElem_cons_succ]
            refine wpAnyH_take (i := 7) (oi := _) (v := ?_) rfl (by kernel_rfl) (by kernel_rfl) (by kernel_rfl) (fun _ _ _ h => h) (Or.inl ⟨by kernel_rfl, ?_⟩) (by assumption) ?_
            rotate_left
            · (intro w hSw; (try dsimp only at hSw); go_simp; try (with_reducible rfl))
            try simp only [Act.put, List.setIfInBounds_toArray, List.set_cons_zero, List.set_cons_succ, List.getElem_toArray, List.getElem_cons_zero, List.getElem_cons_succ]
            refine wpAnyH_take (i := 8) (oi := _) (v := ?_) rfl (by kernel_rfl) (by kernel_rfl) (by kernel_rfl) (fun _ _ _ h => h) (Or.inl ⟨by kernel_rfl, ?_⟩) (by assumption) ?_
            rotate_left
            · (intro w hSw; (try dsimp only at hSw); go_simp; try (with_reducible rfl))
            try simp only [Act.put, List.setIfInBounds_toArray, List.set_cons_zero, List.set_cons_succ, List.getElem_toArray, List.getElem_cons_zero, List.getElem_cons_succ]
            refine wpAnyH_take (i := 9) (oi := _) (v := ?_) rfl (by kernel_rfl) (by kernel_rfl) (by kernel_rfl) (fun _ _ _ h => h) (Or.inl ⟨by kernel_rfl, ?_⟩) (by assumption) ?_
            rotate_left
            · (intro w hSw; (try dsimp only at hSw); go_simp; try (with_reducible rfl))
            try simp only [Act.put, List.setIfInBounds_toArray, List.set_cons_zero, List.set_cons_succ, List.getElem_toArray, List.getElem_cons_zero, List.getElem_cons_succ]
            refine wpAnyH_take (i := 10) (oi := _) (v := ?_) rfl (by kernel_rfl) (by kernel_rfl) (by kernel_rfl) (fun _ _ _ h => h) (Or.inl ⟨by kernel_rfl, ?_⟩) (by assumption) ?_
            rotate_left
            · (intro w hSw; (try dsimp only at hSw); go_simp; try (with_reducible rfl))
            try simp only [Act.put, List.setIfInBounds_toArray, List.set_cons_zero, List.set_cons_succ, List.getElem_toArray, List.getElem_cons_zero, List.getElem_cons_succ]
            refine wpAnyH_take (i := 11) (oi := _) (v := ?_) rfl (by kernel_rfl) (by kernel_rfl) (by kernel_rfl) (fun _ _ _ h => h) (Or.inl ⟨by kernel_rfl, ?_⟩) (by assumption) ?_
            rotate_left
            · (intro w hSw; (try dsimp only at hSw); go_simp; try (with_reducible rfl))
            try simp only [Act.put, List.setIfInBounds_toArray, List.set_cons_zero, List.set_cons_succ, List.getElem_toArray, List.getElem_cons_zero, List.getElem_cons_succ]
            refine wpAnyH_take (i := 12) (oi := _) (v := ?_) rfl (by kernel_rfl) (by kernel_rfl) (by kernel_rfl) (fun _ _ _ h => h) (Or.inl ⟨by kernel_rfl, ?_⟩) (by assumption) ?_
            rotate_left
            · (intro w hSw; (try dsimp only at hSw); go_simp; try (with_reducible rfl))
            try simp only [Act.put, List.setIfInBounds_toArray, List.set_cons_zero, List.set_cons_succ, List.getElem_toArray, List.getElem_cons_zero, List.getElem_cons_succ]
            refine wpAnyH_take (i := 13) (oi := _) (v := ?_) rfl (by kernel_rfl) (by kernel_rfl) (by kernel_rfl) (fun _ _ _ h => h) (Or.inl ⟨by kernel_rfl, ?_⟩) (by assumption) ?_
            rotate_left
            · (intro w hSw; (try dsimp only at hSw); go_simp; try (with_reducible rfl))
            try simp only [Act.put, List.setIfInBounds_toArray, List.set_cons_zero, List.set_cons_succ, List.getElem_toArray, List.getElem_cons_zero, List.getElem_cons_succ]
            refine wpAnyH_ready (rs := [14]) (by kernel_rfl) (by simp) (AllReadyH.cons (o := _) rfl (fun K hK => ?_) AllReadyH.nil)
            go_simp
            (go_at_call 75; refine (C0 _).mono ?_; rintro e w2 ⟨rfl, bel2⟩)
            go_wp2_with fail
            refine hK.out _ _ ?_ (fun hHeld => ?_)
            · first | exact ⟨c1, c2⟩ | exact KK.out _ ⟨bel2.os, bel2.tape, bel2.output, bel2.size, bel2.block⟩
            clear hK K
            try simp only [Act.put, List.setIfInBounds_toArray, List.set_cons_zero, List.set_cons_succ, List.getElem_toArray, List.getElem_cons_zero, List.getElem_cons_succ]
            refine wpAnyH_take (i := 15) (oi := _) (v := ?_) rfl (by kernel_rfl) (by kernel_rfl) (by kernel_rfl) (fun _ _ _ h => h) (Or.inl ⟨by kernel_rfl, ?_⟩) (by assumption) ?_
            rotate_left
            · (intro w hSw; (try dsimp only at hSw); go_simp; try (with_reducible rfl))
            try simp only [Act.put, List.setIfInBounds_toArray, List.set_cons_zero, List.set_cons_succ, List.getElem_toArray, List.getElem_cons_zero, List.getElem_cons_succ]
            refine wpAnyH_take (i := 16) (oi := _) (v := ?_) rfl (by kernel_rfl) (by kernel_rfl) (by kernel_rfl) (fun _ _ _ h => h) (Or.inl ⟨by kernel_rfl, ?_⟩) (by assumption) ?_
            rotate_left
            · (intro w hSw; (try dsimp only at hSw); go_simp; try (with_reducible rfl))
            try simp only [Act.put, List.setIfInBounds_toArray, List.set_cons_zero, List.set_cons_succ, List.getElem_toArray, List.getElem_cons_zero, List.getElem_cons_succ]
            refine wpAnyH_done (by kernel_rfl) ?_ _
            refine NoPanic.normal ?_
            have B2 : Below wr.heap.size wr w2 := ⟨bel2.os, bel2.tape, bel2.output, bel2.size, bel2.block⟩
            obtain ⟨d1, d2⟩ := KK.out _ B2
            obtain ⟨z1, z2⟩ := FZ.out _ B2
            have G2 := Lib.hid (fun m : Nat => GG.out (w2.drewN m) (below_drewN B2 m))
            clear bel2 B2 c1 c2 KK FZ GG C0
            go_wp2_with fail
            go_region
            go_wp2
            go_roundw
            case rel => exact ⟨k, by omega, by go_num, HD2, G2.out _⟩
            case measure => simp [intOf]
          · have hT := HI.out.step (le := Tr.leT) Tr.leT_tr HX.out HD.out hj (fun z _ hz => by rw [Nat.add_sub_cancel, hy] at hz; injection hz with hz; rw [← hz]; exact hyx)
            have GT : Hid (∃ T, Insd Tr.leT ss (i + 1) T ∧ ∀ W, Below wr.heap.size wr W → Frow base g n cap w (T ++ ss.drop (i + 1)) W) := ⟨_, hT, fun W hb => hin.out (k + 1) _ _ hj (HFF.out.below hb) hT rfl⟩
            have hcl := cmp_lt x y
            rw [hyx] at hcl
            have C0 := fun w => compare_any x y w (by omega) (by omega)
            obtain ⟨v, hv⟩ : ∃ v, v = Tr.cmpT x y := ⟨_, rfl⟩
            simp only [← hv] at C0
            rw [← hv] at hcl
            have hvd : ¬ v < 0 := by simpa using hcl
            obtain ⟨X, hX⟩ : ∃ X : ByteArray, X = ⟨x.toArray⟩ := ⟨_, rfl⟩
            obtain ⟨Y, hY⟩ : ∃ Y : ByteArray, Y = ⟨y.toArray⟩ := ⟨_, rfl⟩
            rw [← hX] at c1 C0
            rw [← hY] at c2 C0
            have KK : Hid (∀ W, Below wr.heap.size wr W → W.cell? ⟨g, k + 1, none⟩ = some (.string X) ∧ W.cell? ⟨g, k, none⟩ = some (.string Y)) := fun W hb => by
              have hF := HFF.out.below hb
              have d1 := hF.1.cellAt (k + 1) (by omega)
              have d2 := hF.1.cellAt k (by omega)
              rw [HIX.out, ← hX] at d1
              rw [HIY.out, ← hY] at d2
              exact ⟨d1, d2⟩
            have ek : (((k + 1 : Nat)) : Int) = (k : Int) + 1 := by omega
            have hwk : IntKind.i64.wrap (k : Int) = (k : Int) := IntWalk.i64_in _ (by omega)
            have hk0 : (0 : Int) ≤ (k : Int) := Int.natCast_nonneg _
            have hk1 : (k : Int) + 1 < (n : Int) := by omega
            have hk2 : (k : Int) < (n : Int) := by omega
            have hk3 : (0 : Int) ≤ (k : Int) + 1 := by omega
            obtain ⟨T, hT1, hT2⟩ := GT.out
            have GT1 := Lib.hid hT1
            have GT2 := Lib.hid hT2
            rw [ek]
            clear HF HD F1 hjl hy hin h0 hcl hv hX hY HFF HIX HIY hyx hx16 hy16 f1 f2 ek hd hT GT hT1 hT2
            go_wp2_with fail
            refine wp_region_noPanic ?_
            refine wp_region_held_drew (S := (fun w' => w'.cell? ⟨g, k + 1, none⟩ = some (.string X) ∧ w'.cell? ⟨g, k, none⟩ = some (.string Y))) (by kernel_rfl) ?_ (fun hHeld => ?_)
            · first | exact ⟨c1, c2⟩ | exact KK.out _ ⟨bel2.os, bel2.tape, bel2.output, bel2.size, bel2.block⟩
            refine wpAnyH_take (i := 0) (oi := _) (v := ?_) rfl (by kernel_rfl) (by kernel_rfl) (by kernel_rfl) (fun _ _ _ h => h) (Or.inl ⟨by kernel_rfl, ?_⟩) (by assumption) ?_
            rotate_left
            · (intro w hSw; (try dsimp only at hSw); go_simp; try (with_reducible rfl))
            try simp only [Act.put, List.setIfInBounds_toArray, List.set_cons_zero, List.set_cons_succ, List.getElem_toArray, List.getElem_cons_zero, List.getElem_cons_succ]
            refine wpAnyH_take (i := 1) (oi := _) (v := ?_) rfl (by kernel_rfl) (by kernel_rfl) (by kernel_rfl) (fun _ _ _ h => h) (Or.inl ⟨by kernel_rfl, ?_⟩) (by assumption) ?_
            rotate_left
            · (intro w hSw; (try dsimp only at hSw); go_simp; try (with_reducible rfl))
            try simp only [Act.put, List.setIfInBounds_toArray, List.set_cons_zero, List.set_cons_succ, List.getElem_toArray, List.getElem_cons_zero, List.getElem_cons_succ]
            refine wpAnyH_take (i := 2) (oi := _) (v := ?_) rfl (by kernel_rfl) (by kernel_rfl) (by kernel_rfl) (fun _ _ _ h => h) (Or.inl ⟨by kernel_rfl, ?_⟩) (by assumption) ?_
            rotate_left
            · (intro w hSw; (try dsimp only at hSw); go_simp; try (with_reducible rfl))
            try simp only [Act.put, List.setIfInBounds_toArray, List.set_cons_zero, List.set_cons_succ, List.getElem_toArray, List.getElem_cons_zero, List.getElem_cons_succ]
            refine wpAnyH_take (i := 3) (oi := _) (v := ?_) rfl (by kernel_rfl) (by kernel_rfl) (by kernel_rfl) (fun _ _ _ h => h) (Or.inl ⟨by kernel_rfl, ?_⟩) (by assumption) ?_
            rotate_left
            · (intro w hSw; (try dsimp only at hSw); go_simp; try (with_reducible rfl))
            try simp only [Act.put, List.setIfInBounds_toArray, List.set_cons_zero, List.set_cons_succ, List.getElem_toArray, List.getElem_cons_zero, List.getElem_cons_succ]
            refine wpAnyH_take (i := 4) (oi := _) (v := ?_) rfl (by kernel_rfl) (by kernel_rfl) (by kernel_rfl) (fun _ _ _ h => h) (Or.inl ⟨by kernel_rfl, ?_⟩) (by assumption) ?_
            rotate_left
            · (intro w hSw; (try dsimp only at hSw); go_simp; try (with_reducible rfl))
            try simp only [Act.put, List.setIfInBounds_toArray, List.set_cons_zero, List.set_cons_succ, List.getElem_toArray, List.getElem_cons_zero, List.getElem_cons_succ]
            refine wpAnyH_take (i := 5) (oi := _) (v := ?_) rfl (by kernel_rfl) (by kernel_rfl) (by kernel_rfl) (fun _ _ _ h => h) (Or.inl ⟨by kernel_rfl, ?_⟩) (by assumption) ?_
            rotate_left
            · (intro w hSw; (try dsimp only at hSw); go_simp; try (with_reducible rfl))
            try simp only [Act.put, List.setIfInBounds_toArray, List.set_cons_zero, List.set_cons_succ, List.getElem_toArray, List.getElem_cons_zero, List.getElem_cons_succ]
            refine wpAnyH_take (i := 6) (oi := _) (v := ?_) rfl (by kernel_rfl) (by kernel_rfl) (by kernel_rfl) (fun _ _ _ h => h) (Or.inl ⟨by kernel_rfl, ?_⟩) (by assumption) ?_
            rotate_left
            · (intro w hSw; (try dsimp only at hSw); go_simp; try (with_reducible rfl))
            try simp only [Act.put, List.setIfInBounds_toArray, List.set_cons_zero, List.set_cons_succ, List.getElem_toArray, List.getElem_cons_zero, List.getElem_cons_succ]
            refine wpAnyH_take (i := 7) (oi := _) (v := ?_) rfl (by kernel_rfl) (by kernel_rfl) (by kernel_rfl) (fun _ _ _ h => h) (Or.inl ⟨by kernel_rfl, ?_⟩) (by assumption) ?_
            rotate_left
            · (intro w hSw; (try dsimp only at hSw); go_simp; try (with_reducible rfl))
            try simp only [Act.put, List.setIfInBounds_toArray, List.set_cons_zero, List.set_cons_succ, List.getElem_toArray, List.getElem_cons_zero, List.getElem_cons_succ]
            refine wpAnyH_take (i := 8) (oi := _) (v := ?_) rfl (by kernel_rfl) (by kernel_rfl) (by kernel_rfl) (fun _ _ _ h => h) (Or.inl ⟨by kernel_rfl, ?_⟩) (by assumption) ?_
            rotate_left
            · (intro w hSw; (try dsimp only at hSw); go_simp; try (with_reducible rfl))
            try simp only [Act.put, List.setIfInBounds_toArray, List.set_cons_zero, List.set_cons_succ, List.getElem_toArray, List.getElem_cons_zero, List.getElem_cons_succ]
            refine wpAnyH_take (i := 9) (oi := _) (v := ?_) rfl (by kernel_rfl) (by kernel_rfl) (by kernel_rfl) (fun _ _ _ h => h) (Or.inl ⟨by kernel_rfl, ?_⟩) (by assumption) ?_
            rotate_left
            · (intro w hSw; (try dsimp only at hSw); go_simp; try (with_reducible rfl))
            try simp only [Act.put, List.setIfInBounds_toArray, List.set_cons_zero, List.set_cons_succ, List.getElem_toArray, List.getElem_cons_zero, List.getElem_cons_succ]
            refine wpAnyH_take (i := 10) (oi := _) (v := ?_) rfl (by kernel_rfl) (by kernel_rfl) (by kernel_rfl) (fun _ _ _ h => h) (Or.inl ⟨by kernel_rfl, ?_⟩) (by assumption) ?_
            rotate_left
            · (intro w hSw; (try dsimp only at hSw); go_simp; try (with_reducible rfl))
            try simp only [Act.put, List.setIfInBounds_toArray, List.set_cons_zero, List.set_cons_succ, List.getElem_toArray, List.getElem_cons_zero, List.getElem_cons_succ]
            refine wpAnyH_take (i := 11) (oi := _) (v := ?_) rfl (by kernel_rfl) (by kernel_rfl) (by kernel_rfl) (fun _ _ _ h => h) (Or.inl ⟨by kernel_rfl, ?_⟩) (by assumption) ?_
            rotate_left
            · (intro w hSw; (try dsimp only at hSw); go_simp; try (with_reducible rfl))
            try simp only [Act.put, List.setIfInBounds_toArray, List.set_cons_zero, List.set_cons_succ, List.getElem_toArray, List.getElem_cons_zero, List.getElem_cons_succ]
            refine wpAnyH_take (i := 12) (oi := _) (v := ?_) rfl (by kernel_rfl) (by kernel_rfl) (by kernel_rfl) (fun _ _ _ h => h) (Or.inl ⟨by kernel_rfl, ?_⟩) (by assumption) ?_
            rotate_left
            · (intro w hSw; (try dsimp only at hSw); go_simp; try (with_reducible rfl))
            try simp only [Act.put, List.setIfInBounds_toArray, List.set_cons_zero, List.set_cons_succ, List.getElem_toArray, List.getElem_cons_zero, List.getElem_cons_succ]
            refine wpAnyH_take (i := 13) (oi := _) (v := ?_) rfl (by kernel_rfl) (by kernel_rfl) (by kernel_rfl) (fun _ _ _ h => h) (Or.inl ⟨by kernel_rfl, ?_⟩) (by assumption) ?_
            rotate_left
            · (intro w hSw; (try dsimp only at hSw); go_simp; try (with_reducible rfl))
            try simp only [Act.put, List.setIfInBounds_toArray, List.set_cons_zero, List.set_cons_succ, List.getElem_toArray, List.getElem_cons_zero, List.getElem_cons_succ]
            refine wpAnyH_ready (rs := [14]) (by kernel_rfl) (by simp) (AllReadyH.cons (o := _) rfl (fun K hK => ?_) AllReadyH.nil)
            go_simp
            (go_at_call 75; refine (C0 _).mono ?_; rintro e w2 ⟨rfl, bel2⟩)
            go_wp2_with fail
            refine hK.out _ _ ?_ (fun hHeld => ?_)
            · first | exact ⟨c1, c2⟩ | exact KK.out _ ⟨bel2.os, bel2.tape, bel2.output, bel2.size, bel2.block⟩
            clear hK K
            try simp only [Act.put, List.setIfInBounds_toArray, List.set_cons_zero, List.set_cons_succ, List.getElem_toArray, List.getElem_cons_zero, List.getElem_cons_succ]
            refine wpAnyH_take (i := 15) (oi := _) (v := ?_) rfl (by kernel_rfl) (by kernel_rfl) (by kernel_rfl) (fun _ _ _ h => h) (Or.inl ⟨by kernel_rfl, ?_⟩) (by assumption) ?_
            rotate_left
            · (intro w hSw; (try dsimp only at hSw); go_simp; try (with_reducible rfl))
            try simp only [Act.put, List.setIfInBounds_toArray, List.set_cons_zero, List.set_cons_succ, List.getElem_toArray, List.getElem_cons_zero, List.getElem_cons_succ]
            refine wpAnyH_take (i := 16) (oi := _) (v := ?_) rfl (by kernel_rfl) (by kernel_rfl) (by kernel_rfl) (fun _ _ _ h => h) (Or.inl ⟨by kernel_rfl, ?_⟩) (by assumption) ?_
            rotate_left
            · (intro w hSw; (try dsimp only at hSw); go_simp; try (with_reducible rfl))
            try simp only [Act.put, List.setIfInBounds_toArray, List.set_cons_zero, List.set_cons_succ, List.getElem_toArray, List.getElem_cons_zero, List.getElem_cons_succ]
            refine wpAnyH_done (by kernel_rfl) ?_ _
            refine NoPanic.normal ?_
            have G2 := Lib.hid (GT2.out w2 ⟨bel2.os, bel2.tape, bel2.output, bel2.size, bel2.block⟩)
            clear bel2 c1 c2 KK C0
            go_wp2
            go_roundw
            case rel => exact ⟨i + 1, T, by omega, by omega, by go_num, GT1, G2.out⟩
            case measure => simp [intOf]; omega
    · obtain rfl : i = n := by omega
      have G : Hid (Frow base g i cap w (Tr.sortT ss) wr) := by
        have e := HI.out.eq (fun h k => Tr.leT_as h k) HL.out (sortT_perm ss) (sortT_sorted ss)
        rw [e, List.drop_of_length_le (by rw [HL.out]; exact Nat.le_refl _), List.append_nil] at HF
        exact HF
      clear HF F0 HI I0
      go_wp2
      go_end0
      exact ⟨rfl, G.out⟩
theorem fInsert_all (A : Option Addr) (base n c : Nat) (ss : List (List UInt8)) (w : World) (hn : n ≤ 12) (hs16 : ∀ s ∈ ss, s.length ≤ 16) (hbase : base ≤ w.heap.size) (h : w.ownsRow base 75 1 (.slice A n c) n (strs ss)) :
    Calls Try.prog 162 #[.slice A n c, .int .i64 0, .int .i64 n, (.func (.func 75) #[] #[])] w (fun e w' => e = .returned (.tuple #[]) ∧ w'.ownsRow base 75 1 (.slice A n c) n (strs (Tr.sortT ss)) ∧ Below base w w' ∧ base ≤ w'.heap.size) := by
  have hl : ss.length = n := by rw [← strs_length]; exact own_len h
  rcases Nat.eq_zero_or_pos n with h0 | h0
  · subst h0
    have e : ss = [] := List.eq_nil_of_length_eq_zero hl
    subst e
    clear hl
    go_enter Try.func162, Try.ntmps162
    go_wp2_with fail
    go_loopw [8] (fun i wr => i = .int .i64 1 ∧ wr = w) (fun i _ => 0)
    case atStart => exact ⟨rfl, rfl⟩
    case round =>
      obtain ⟨rfl, rfl⟩ := hrel
      go_wp2
      go_end0
      exact ⟨rfl, h, Below.refl _ _, hbase⟩
  · obtain ⟨g, cap, hv⟩ := own_form h h0
    injection hv with hA _ hcap
    subst hA hcap
    refine (fInsert_any base g n c ss w hl h0 hn hs16 hbase h).mono ?_
    rintro e w' ⟨rfl, h1, h2, h3⟩
    exact ⟨rfl, h1, h2, h3⟩
theorem fPdq_any (A : Option Addr) (base n c : Nat) (ss : List (List UInt8)) (l : Int) (w : World) (hn : n ≤ 12) (hs16 : ∀ s ∈ ss, s.length ≤ 16) (hbase : base ≤ w.heap.size) (h : w.ownsRow base 75 1 (.slice A n c) n (strs ss)) :
    Calls Try.prog 151 #[.slice A n c, .int .i64 0, .int .i64 n, .int .i64 l, (.func (.func 75) #[] #[])] w (fun e w' => e = .returned (.tuple #[]) ∧ w'.ownsRow base 75 1 (.slice A n c) n (strs (Tr.sortT ss)) ∧ Below base w w' ∧ base ≤ w'.heap.size) := by
  go_enter Try.func151, Try.ntmps151
  go_wp2_with fail
  go_loopw [1, 2] (fun a b wr => a = .int .i64 0 ∧ b = .int .i64 n ∧ wr = w) (fun _ _ _ => 0)
  case atStart => exact ⟨rfl, rfl, rfl⟩
  case round =>
    obtain ⟨rfl, rfl, rfl⟩ := hrel
    go_wp2_with fail
    refine (fInsert_all A base n c ss _ hn hs16 hbase h).mono ?_
    rintro e w' ⟨rfl, h1, h2, h3⟩
    go_wp2
    (try simp only [Exit.inBlock, Exit.then])
    refine bodyPost_ret (results_none rfl _ _ _) rfl ?_
    exact ⟨rfl, h1, h2, h3⟩
theorem sortFunc_any (A : Option Addr) (base n c : Nat) (ss : List (List UInt8)) (w : World) (hn : n ≤ 12) (hs16 : ∀ s ∈ ss, s.length ≤ 16) (hbase : base ≤ w.heap.size) (h : w.ownsRow base 75 1 (.slice A n c) n (strs ss)) :
    Calls Try.prog 127 #[.slice A n c, (.func (.func 75) #[] #[])] w (fun e w' => e = .returned (.tuple #[]) ∧ w'.ownsRow base 75 1 (.slice A n c) n (strs (Tr.sortT ss)) ∧ Below base w w' ∧ base ≤ w'.heap.size) := by
  go_enter Try.func127, Try.ntmps127
  go_wp2_with fail
  refine (bitsLen n hn _).mono ?_
  rintro e w' ⟨⟨l, rfl⟩, rfl⟩
  go_wp2_with fail
  refine (fPdq_any A base n c ss l _ hn hs16 hbase h).mono ?_
  rintro e w' ⟨rfl, h1, h2, h3⟩
  go_wp2
  go_end0
  exact ⟨rfl, h1, h2, h3⟩
theorem forestOf_any (A : Option Addr) (base n c : Nat) (ss : List (List UInt8)) (w : World) (hn : n ≤ 12) (hs16 : ∀ s ∈ ss, s.length ≤ 16 ∧ Brk s) (hbase : base ≤ w.heap.size) (h : w.ownsRow base 75 1 (.slice A n c) n (strs ss)) :
    Calls Try.prog 80 #[.slice A n c] w fun e w' => ∃ A' c' vs, e = .returned (.slice A' n c') ∧ OwnMat w' base w'.heap.size (.slice A' n c') n ((Tr.sortT ss).map Tr.lvl) vs ∧ Below base w w' := by
  have hl : ss.length = n := by rw [← strs_length]; exact own_len h
  have hsl : (Tr.sortT ss).length = n := by rw [(sortT_perm ss).length_eq]; exact hl
  have HSL := Lib.hid hsl
  have HSS : Hid (∀ s ∈ Tr.sortT ss, s.length ≤ 1048576 ∧ Brk s) := fun s hs => by
    have := hs16 s ((sortT_perm ss).mem_iff.1 hs)
    exact ⟨by omega, this.2⟩
  have C0 := sortFunc_any A base n c ss w hn (fun s hs => (hs16 s hs).1) hbase h
  clear hl hsl hs16 h
  go_enter Try.func80, Try.ntmps80
  go_wp2_with fail
  refine C0.mono ?_
  rintro e w1 ⟨rfl, h1, h2, h3⟩
  have HR : Hid (Row w1 w1.heap.size A (strs (Tr.sortT ss))) := row_of_own h1
  have HB1 := Lib.hid h2
  clear h1 h2 C0
  go_wp2_with fail
  refine (listsOf_any A n c w1.heap.size (Tr.sortT ss) w1 HSL.out (by omega) HSS.out (Nat.le_refl _) HR.out).mono ?_
  rintro e w2 ⟨A2, c2, vs2, rfl, own2, bel2⟩
  have G : Hid (OwnMat w2 base w2.heap.size (.slice A2 n c2) n ((Tr.sortT ss).map Tr.lvl) vs2) := own2.more h3 (Nat.le_refl _)
  have GB := Lib.hid (HB1.out.trans (bel2.mono h3))
  clear own2 bel2
  go_wp2
  go_ret
  exact ⟨_, _, _, rfl, G.out, GB.out⟩
end Go.Proofs.Ytjmjdcfgbaepkaa
/-
  The keys of a map of the program, collected and sorted.
-/
namespace Go.Proofs.Ytjmjdcfgbaepkaa
open Go.RowKit Fld Go.Maps Go.Sort Go.Shelf
set_option linter.unusedVariables false
set_option linter.unusedSimpArgs false
set_option maxRecDepth 100000

/-- the texts that a map holds, each once, in some order -/
def KeysF (f : List UInt8 → Int) (n : Nat) (ss : List (List UInt8)) : Prop := ss.Nodup ∧ (∀ x, x ∈ ss ↔ f x ≠ 0) ∧ ss.length ≤ n
theorem own_slice {w : World} {base k n : Nat} {T : TypeId} {v : Value} {vs : List Value} (h : w.ownsRow base T k v n vs) : ∃ A c, v = .slice A n c := by
  rcases h.2 with ⟨h1, h2⟩ | ⟨g, cap, cur, hv, _⟩
  · exact ⟨none, 0, by rw [h1, h2]⟩
  · exact ⟨_, cap, hv⟩
theorem keysF_of {w : World} {b n : Nat} {D : DataW Unit} {f : List UInt8 → Int} {ss : List (List UInt8)} (h : w.ownsMap Try.prog 75 (plainElem Try.prog 2) b n D) (hD : HoldsF D f) (hp : ss.Perm (strKeys D)) : KeysF f n ss := by
  obtain ⟨es, e1, hpw, _⟩ := h.entries keyed
  obtain ⟨es', e2, hko⟩ := h.keysOf
  have hsz := h.size_le
  obtain rfl : es = es' := by rw [e1] at e2; simpa using e2
  subst e1
  have hk : ∀ p ∈ es, ∃ x, p.1 = .string x := fun p hp => by
    obtain ⟨v, hv⟩ := hko p hp
    obtain ⟨x, _, hx, _⟩ := Maps.keyOf_str Try.underlying75 hv
    exact ⟨x, hx⟩
  have hnd : (es.map fun p => strOf p.1).Nodup := by
    refine List.pairwise_map.2 (hpw.imp_of_mem fun {p q} hp' hq' hne e => hne ?_)
    obtain ⟨a, ha⟩ := hk p hp'
    obtain ⟨b, hb⟩ := hk q hq'
    rw [ha, hb] at e ⊢
    exact congrArg _ e
  have hmem : ∀ x, x ∈ strKeys (DataW.map es) ↔ Maps.has (DataW.map es) (.string x) = true := fun x => by
    rw [has_eq, List.any_eq_true]
    show (x ∈ es.map fun p => strOf p.1) ↔ _
    rw [List.mem_map]
    constructor
    · rintro ⟨p, hp', rfl⟩
      obtain ⟨a, ha⟩ := hk p hp'
      exact ⟨p, hp', by rw [ha]; simp [Lit.sameKey, strOf]⟩
    · rintro ⟨p, hp', hs⟩
      obtain ⟨a, ha⟩ := hk p hp'
      rw [ha] at hs
      exact ⟨p, hp', by rw [ha]; simpa [Lit.sameKey, strOf] using hs⟩
  refine ⟨hp.nodup_iff.2 hnd, fun x => ?_, ?_⟩
  · rw [hp.mem_iff, hmem, hD.2, decide_eq_true_iff]
  · rw [hp.length_eq]
    show (es.map _).length ≤ n
    rw [List.length_map]; exact hsz
theorem keys_any (b : Nat) (w : World) : Calls Try.prog 114 #[.map (some b)] w fun e w' => e = .returned (.func (.func 145) #[] #[.pointer (some ⟨w.heap.size, 0, none⟩)]) ∧ w' = w.alloc (.cells #[.map (some b)] 74) :=
  callsIn_wide.1 (AnyZ.keys_in Try.keysL Fence.wide 5 trivial rfl (some b) w)
set_option maxHeartbeats 1000000 in
theorem collect_any (b n : Nat) (f : List UInt8 → Int) (w : World) (h : MapF w b n f) (hn : n ≤ 1000000) :
    Calls Try.prog 144 #[.func (.func 145) #[] #[.pointer (some ⟨w.heap.size, 0, none⟩)]] (w.alloc (.cells #[.map (some b)] 74)) fun e w' =>
      ∃ A c ss, e = .returned (.slice A ss.length c) ∧ KeysF f n ss ∧ w'.ownsRow (w.heap.size + 1) 75 1 (.slice A ss.length c) ss.length (strs ss) ∧ Below (w.heap.size + 1) (w.alloc (.cells #[.map (some b)] 74)) w' := by
  obtain ⟨D, hown, hD⟩ := h
  have hsz := hown.size_le
  have hbl := hown.lt
  have hseq : SeqGives Fence.wide 2 Try.prog 145 #[.pointer (some ⟨w.heap.size, 0, none⟩)] encStr (fun ss => ss.Perm (strKeys D)) (Maps.size D) (w.alloc (.cells #[.map (some b)] 74)) :=
    AnyZ.keys_gives (ρ := Try.keysL_ren) { Try.keysL with } Fence.wide _ trivial rfl (by omega) w.heap.size b n D _ (by simp) (by simp) (by
      obtain ⟨es, clock, hb, Ft, hs, hD⟩ := hown
      exact ⟨es, clock, (Below.heap_alloc _ _ b hbl).trans hb, Ft, hs, hD⟩)
  refine (callsIn_wide.1 (AnyZ.collect_in Try.collectL Fence.wide 4 trivial trivial rfl (by omega) 145 #[.pointer (some ⟨w.heap.size, 0, none⟩)] trivial (enters_of Try.func145 (by kernel_rfl) rfl) _ _ (by unfold maxLen; omega) (by omega) _ hseq)).mono ?_
  rintro e w' ⟨v, ss, rfl, hp, hrow, _, hb⟩
  obtain ⟨A, c, rfl⟩ := own_slice hrow
  have e1 : (w.alloc (.cells #[.map (some b)] 74)).heap.size = w.heap.size + 1 := by simp
  rw [e1] at hrow hb
  exact ⟨A, c, ss, rfl, keysF_of hown hD hp, hrow, hb⟩
theorem sortedFunc_any (b n : Nat) (f : List UInt8 → Int) (w : World) (h : MapF w b n f) (hn : n ≤ 12) (hf : ∀ x, f x ≠ 0 → x.length ≤ 16) :
    Calls Try.prog 113 #[.func (.func 145) #[] #[.pointer (some ⟨w.heap.size, 0, none⟩)], .func (.func 75) #[] #[]] (w.alloc (.cells #[.map (some b)] 74)) fun e w' =>
      ∃ A c ss, e = .returned (.slice A ss.length c) ∧ KeysF f n ss ∧ w'.ownsRow (w.heap.size + 1) 75 1 (.slice A ss.length c) ss.length (strs (Tr.sortT ss)) ∧ Below (w.heap.size + 1) (w.alloc (.cells #[.map (some b)] 74)) w' := by
  have C0 := collect_any b n f w h (by omega)
  have hs : (w.alloc (.cells #[.map (some b)] 74)).heap.size = w.heap.size + 1 := by simp
  generalize (w.alloc (.cells #[.map (some b)] 74)) = W at *
  go_enter Try.func113, Try.ntmps113
  go_wp2_with fail
  refine C0.mono ?_
  rintro e w1 ⟨A, c, ss, rfl, hK, own1, bel1⟩
  have hs1 : w.heap.size + 1 ≤ w1.heap.size := by have := bel1.size; omega
  have hl : ss.length ≤ 12 := by have := hK.2.2; omega
  have C1 := sortFunc_any A (w.heap.size + 1) ss.length c ss w1 hl (fun s hs => hf s ((hK.2.1 s).1 hs)) hs1 own1
  obtain ⟨q, hq⟩ : ∃ q, q = ss.length := ⟨_, rfl⟩
  have HQ := Lib.hid hq
  have HK := Lib.hid hK
  have HB := Lib.hid bel1
  rw [← hq] at C1 ⊢
  clear C0 own1 bel1 hK hl hq hs hs1
  go_wp2_with fail
  refine C1.mono ?_
  rintro e w2 ⟨rfl, own2, bel2, _⟩
  have HO := Lib.hid own2
  have HB2 := Lib.hid (HB.out.trans bel2)
  clear own2 bel2
  go_wp2
  go_ret
  exact ⟨A, c, ss, by rw [← HQ.out]; rfl, HK.out, by rw [← HQ.out]; exact HO.out, HB2.out⟩
end Go.Proofs.Ytjmjdcfgbaepkaa
/-
  A text is split into those of trees.
-/
namespace Go.Proofs.Ytjmjdcfgbaepkaa
open Go.RowKit Fld
set_option linter.unusedVariables false
set_option linter.unusedSimpArgs false
set_option maxRecDepth 100000

theorem extract_S (s : List UInt8) (a b : Nat) : (⟨s.toArray⟩ : ByteArray).extract a b = ⟨((s.drop a).take (b - a)).toArray⟩ := by
  apply ByteArray.ext
  simp [ByteArray.data_extract]
theorem tr_open {cur : List UInt8} {o : Nat} {acc : List (List UInt8)} {s : List UInt8} {p : Nat} (h : s[p]? = some 91) : Tr.trF cur o acc (s.drop p) = Tr.trF (cur ++ [91]) (o + 1) acc (s.drop (p + 1)) := by
  have hlt : p < s.length := by
    rcases Nat.lt_or_ge p s.length with g | g
    · exact g
    · rw [List.getElem?_eq_none g] at h; cases h
  rw [List.getElem?_eq_getElem hlt] at h
  injection h with h
  rw [List.drop_eq_getElem_cons hlt, h, Tr.trF, if_pos rfl]
theorem tr_close {cur : List UInt8} {o : Nat} {acc : List (List UInt8)} {s : List UInt8} {p : Nat} (h : s[p]? = some 93) : Tr.trF cur o acc (s.drop p) = if o = 0 then ([], false) else if o = 1 then Tr.trF [] 0 (acc ++ [cur ++ [93]]) (s.drop (p + 1)) else Tr.trF (cur ++ [93]) (o - 1) acc (s.drop (p + 1)) := by
  have hlt : p < s.length := by
    rcases Nat.lt_or_ge p s.length with g | g
    · exact g
    · rw [List.getElem?_eq_none g] at h; cases h
  rw [List.getElem?_eq_getElem hlt] at h
  injection h with h
  rw [List.drop_eq_getElem_cons hlt, h, Tr.trF, if_neg (by decide), if_pos rfl]
theorem tr_other {cur : List UInt8} {o : Nat} {acc : List (List UInt8)} {s : List UInt8} {p : Nat} {c : UInt8} (h : s[p]? = some c) (h1 : c ≠ 91) (h2 : c ≠ 93) : Tr.trF cur o acc (s.drop p) = ([], false) := by
  have hlt : p < s.length := by
    rcases Nat.lt_or_ge p s.length with g | g
    · exact g
    · rw [List.getElem?_eq_none g] at h; cases h
  rw [List.getElem?_eq_getElem hlt] at h
  injection h with h
  rw [List.drop_eq_getElem_cons hlt, h, Tr.trF, if_neg h1, if_neg h2]
theorem cut_step {s : List UInt8} {a p : Nat} {c : UInt8} (h : s[p]? = some c) (ha : a ≤ p) : (s.drop a).take (p + 1 - a) = (s.drop a).take (p - a) ++ [c] := by
  rw [show p + 1 - a = p - a + 1 from by omega, List.take_add_one, List.getElem?_drop, show a + (p - a) = p from by omega, h]; rfl
/-- the texts of trees, and whether there are no others -/
def ResT (r : List (List UInt8) × Bool) (w : World) (e : Ending) (w' : World) : Prop :=
  ∃ A q c, e = .returned (.tuple #[.slice A q c, .bool r.2]) ∧ w'.ownsRow w.heap.size 75 1 (.slice A q c) q (strs r.1) ∧ Below w.heap.size w w'
theorem ResT.none {r : List (List UInt8) × Bool} {w w' : World} (h : r = ([], false)) (hb : Below w.heap.size w w') : ResT r w (.returned (.tuple #[.slice none 0 0, .bool false])) w' := by
  subst h; exact ⟨_, _, _, rfl, World.ownsRow_nil .., hb⟩
set_option maxHeartbeats 2000000 in
theorem treesIn_any (s : List UInt8) (w : World) (hn : s.length ≤ 1048576) :
    Calls Try.prog 96 #[.string ⟨s.toArray⟩] w (ResT (Tr.trF [] 0 [] s) w) := by
  obtain ⟨i0, hi, hz0, hz1, hz2⟩ := info_parts info_tree
  have HN := Lib.hid hn
  obtain ⟨S, hS⟩ : ∃ S : ByteArray, S = ⟨s.toArray⟩ := ⟨_, rfl⟩
  have HSZ : Hid (S.size = s.length) := by rw [Hid, hS]; exact size_S s
  have HS := Lib.hid hS
  rw [← hS]
  have hs20 : S.size ≤ 1048576 := by rw [HSZ.out]; exact hn
  clear hS hn
  go_enter Try.func96, Try.ntmps96
  go_wp2_with fail
  go_loopw [4, 5, 6] (fun v a o wr => ∃ (p st op q cv : Nat) (Av : Option Addr) (acc : List (List UInt8)), p ≤ S.size ∧ st ≤ p ∧ op ≤ p ∧ q ≤ p ∧ v = .slice Av q cv ∧ a = .int .i64 st ∧ o = .int .i64 op ∧ wr.heap[w.heap.size]? = some (.stringIter S p) ∧ Hid (Tr.trF [] 0 [] s = Tr.trF ((s.drop st).take (p - st)) op acc (s.drop p)) ∧ Hid (wr.ownsRow w.heap.size 75 1 (.slice Av q cv) q (strs acc)) ∧ Below w.heap.size w wr) (fun _ _ _ wr => S.size - wr.iterPos w.heap.size)
  case atStart => exact ⟨0, 0, 0, 0, 0, none, [], Nat.zero_le _, Nat.le_refl _, Nat.le_refl _, Nat.le_refl _, rfl, rfl, rfl, World.iter_heap w S 0, by simp [Hid], World.ownsRow_nil .., (Below.refl _ _).alloc (Nat.le_refl _) _⟩
  case round =>
    obtain ⟨p, st, op, q, cv, Av, acc, hp, hst, hop, hq, rfl, rfl, rfl, hit, HE, HO, HBw⟩ := hrel
    have hlt := (Array.getElem?_eq_some_iff.1 hit).1
    by_cases hps : p < S.size
    · obtain ⟨c, hc⟩ := at_lt (show p < s.length by rw [← HSZ.out]; exact hps)
      have hbyte : S[p]'hps = c := by
        have hS := HS.out
        subst hS
        exact byte_at hc hps
      have HIT := Lib.hid hit
      by_cases hasc : c.toNat < 128
      · have hnx : ∀ ty, (Instr.next (.pointer (some ⟨w.heap.size, 0, none⟩)) true ty).run Try.prog wr = _ := fun ty => Lib.run_next_ascii_at wr w.heap.size S p ty hit hps (by rw [hbyte]; exact hasc)
        rw [hbyte] at hnx
        have hit2 := Lib.iterAt_heap wr w.heap.size S p (p + 1) hit
        have HO2 := Lib.hid (own_iterAt (p' := p + 1) HO.out hit)
        have HB2 := Lib.hid (Lib.below_iterAt HBw (k := w.heap.size) (Nat.le_refl _) S (p + 1))
        have hsz2 : (wr.iterAt w.heap.size S (p + 1)).heap.size = wr.heap.size := Lib.iterAt_size ..
        have hW1 : w.heap.size < (wr.iterAt w.heap.size S (p + 1)).heap.size := by rw [hsz2]; exact hlt
        by_cases h91 : c = 91
        · subst h91
          have e91 : ((91 : UInt8).toNat : Int) = 91 := rfl
          rw [e91] at hnx
          have HE2 : Hid (Tr.trF [] 0 [] s = Tr.trF ((s.drop st).take (p + 1 - st)) (op + 1) acc (s.drop (p + 1))) := by rw [Hid, HE.out, tr_open hc, cut_step hc hst]
          generalize hW : wr.iterAt w.heap.size S (p + 1) = W at *
          have HH2 := Lib.hid hit2
          have t0 : ((op : Int) + 1 == 0) = false := beq_f (by omega)
          clear hc hbyte hasc HE HBw HO hit hW hit2 hsz2
          go_wp2
          go_roundw
          case rel => exact ⟨p + 1, st, op + 1, q, cv, Av, acc, by omega, by omega, by omega, by omega, rfl, rfl, by go_num, HH2.out, HE2, HO2, HB2.out⟩
          case measure =>
            simp only [World.iterPos, HH2.out, HIT.out]
            omega
        · by_cases h93 : c = 93
          · subst h93
            have e93 : ((93 : UInt8).toNat : Int) = 93 := rfl
            rw [e93] at hnx
            have HTC := Lib.hid (HE.out.trans (tr_close hc))
            have HCUT : Hid ((s.drop st).take (p + 1 - st) = (s.drop st).take (p - st) ++ [93]) := cut_step hc hst
            generalize hW : wr.iterAt w.heap.size S (p + 1) = W at *
            have HH2 := Lib.hid hit2
            clear hc hbyte hasc HE HBw HO hit hW hit2 hsz2
            rcases (show op = 0 ∨ op = 1 ∨ 2 ≤ op by omega) with rfl | rfl | h2
            · have G : Hid (Tr.trF [] 0 [] s = ([], false)) := by rw [Hid, HTC.out, if_pos rfl]
              clear HTC
              go_wp2
              go_ret2
              exact ResT.none G.out HB2.out
            · have HE2 : Hid (Tr.trF [] 0 [] s = Tr.trF ((s.drop (p + 1)).take (p + 1 - (p + 1))) 0 (acc ++ [(s.drop st).take (p + 1 - st)]) (s.drop (p + 1))) := by
                rw [Hid, HTC.out, if_neg (by decide), if_pos rfl, Nat.sub_self, List.take_zero, HCUT.out]
              have HX : Hid (S.extract st (p + 1) = ⟨((s.drop st).take (p + 1 - st)).toArray⟩) := by rw [Hid, HS.out]; exact extract_S s st (p + 1)
              obtain ⟨X, hX⟩ : ∃ X, X = S.extract st (p + 1) := ⟨_, rfl⟩
              have HXX : Hid (S.extract st (p + 1) = X) := hX.symm
              have hown2 := HO2.out
              have hp1 : p + 1 ≤ S.size := hps
              clear HTC
              have hsl : ∀ W, (Instr.slice 9 (.string S) (some (.int .i64 (st : Int))) (some (.int .i64 ((p : Int) + 1))) none).run Try.prog W = .ok (.string X) W := fun W => by
                rw [run_slice_string W 9 S .i64 .i64 st ((p : Int) + 1) Try.underlying9 (by omega) (by omega) (by omega)]
                rw [← HXX.out]
                congr 3
              clear hX
              go_wp2_with (at_builtin; (refine wpList_append_lies _ rfl (.tmp 28) (.tmp 34) 96 rfl w.heap.size 75 i0 _ 1 16 Try.underlying96 hi hz0 hz1 hz2 rfl (by omega) (.slice Av q cv) q (strs acc) rfl (hown2.alloc _) ⟨W.heap.size, 0, none⟩ 1 1 [.string X] rfl rfl (World.news_of_block (cs := #[.string X]) (heap_alloc_new _ _)) (by simp [Value.oneCell']) (by omega) (by simp only [maxLen]; omega) (by omega) (by simp; omega) (W.heap.size + 1) (by simp) ?_); intro g2 cap2 w3 hown3 hgrow3 hat3 hlt3)
              have e1 : strs acc ++ [Value.string X] = strs (acc ++ [(s.drop st).take (p + 1 - st)]) := by rw [← HXX.out, HX.out]; simp [strs]
              rw [e1] at hown3
              have GI : Hid (w3.heap[w.heap.size]? = some (.stringIter S (p + 1))) := by
                rw [Hid, hgrow3.block _ (by simp; omega) (own_ne_iter HO2.out HH2.out), Lib.alloc_old _ _ _ hW1]
                exact HH2.out
              have G3 := Lib.hid hown3
              have GB3 : Hid (Below w.heap.size w w3) := (HB2.out.alloc (by omega) _).grown hgrow3 (by simp; omega) (fun z hz => (HO2.out.lt z hz).1)
              clear hown3 hgrow3 hat3 hown2 e1 hsl
              go_wp2
              go_roundw
              case rel => exact ⟨p + 1, p + 1, 0, q + 1, cap2, _, _, by omega, by omega, by omega, by omega, rfl, by go_num, rfl, GI.out, HE2, G3, GB3.out⟩
              case measure =>
                simp only [World.iterPos, GI.out, HIT.out]
                omega
            · have HE2 : Hid (Tr.trF [] 0 [] s = Tr.trF ((s.drop st).take (p + 1 - st)) (op - 1) acc (s.drop (p + 1))) := by
                rw [Hid, HTC.out, if_neg (by omega), if_neg (by omega), HCUT.out]
              have t0 : ((op : Int) - 1 == 0) = false := beq_f (by omega)
              clear HTC
              go_wp2
              go_roundw
              case rel => exact ⟨p + 1, st, op - 1, q, cv, Av, acc, by omega, by omega, by omega, by omega, rfl, rfl, by go_num, HH2.out, HE2, HO2, HB2.out⟩
              case measure =>
                simp only [World.iterPos, HH2.out, HIT.out]
                omega
          · have G : Hid (Tr.trF [] 0 [] s = ([], false)) := by rw [Hid, HE.out]; exact tr_other hc h91 h93
            have t1 : ((c.toNat : Int) == 91) = false := beq_f (fun e => h91 (UInt8.toNat_inj.1 (by simp; omega)))
            have t2 : ((c.toNat : Int) == 93) = false := beq_f (fun e => h93 (UInt8.toNat_inj.1 (by simp; omega)))
            generalize hW : wr.iterAt w.heap.size S (p + 1) = W at *
            clear hc hbyte hasc HE HBw HO hit hW hit2 hsz2 h91 h93
            go_wp2
            go_ret2
            exact ResT.none G.out HB2.out
      · have hd := decode_high S p hps (by rw [hbyte]; omega)
        have hnx : ∀ ty, (Instr.next (.pointer (some ⟨w.heap.size, 0, none⟩)) true ty).run Try.prog wr = _ := fun ty => Lib.run_next_any_at wr w.heap.size S p ty hit hps
        have h91 : c ≠ 91 := fun e => by subst e; exact hasc (by decide)
        have h93 : c ≠ 93 := fun e => by subst e; exact hasc (by decide)
        have G : Hid (Tr.trF [] 0 [] s = ([], false)) := by rw [Hid, HE.out]; exact tr_other hc h91 h93
        have HB2 := Lib.hid (Lib.below_iterAt HBw (k := w.heap.size) (Nat.le_refl _) S (p + (Utf8.decode S p).2))
        generalize hW : wr.iterAt w.heap.size S (p + (Utf8.decode S p).2) = W at *
        obtain ⟨rn, hrn⟩ : ∃ rn, rn = (Utf8.decode S p).1 := ⟨_, rfl⟩
        rw [← hrn] at hnx hd
        have t1 : ((rn : Int) == 91) = false := beq_f (by have := hd.1; omega)
        have t2 : ((rn : Int) == 93) = false := beq_f (by have := hd.1; omega)
        clear hc hbyte hasc HE HBw HO hit hW h91 h93 hrn hd
        go_wp2
        go_ret2
        exact ResT.none G.out HB2.out
    · have hnx : ∀ ty, (Instr.next (.pointer (some ⟨w.heap.size, 0, none⟩)) true ty).run Try.prog wr = _ := fun ty => Lib.run_next_end_at wr w.heap.size S p ty hit hps
      have e : Tr.trF [] 0 [] s = (acc, op == 0) := by
        have hl : s.length ≤ p := by have := HSZ.out; unfold Hid at this; omega
        have := HE.out
        rw [List.drop_of_length_le hl] at this
        rw [this]
        simp [Tr.trF]
      have G : Hid (ResT (Tr.trF [] 0 [] s) w (.returned (.tuple #[.slice Av q cv, .bool (op == 0)])) wr) := by
        rw [Hid, e]; exact ⟨Av, q, cv, rfl, HO.out, HBw⟩
      by_cases h0 : op = 0
      · subst h0
        clear HBw HE e hit
        go_wp2
        go_ret2
        exact G.out
      · have t0 : ((op : Int) == 0) = false := beq_f (by omega)
        have t1 : (op == 0) = false := by simp [h0]
        rw [t1] at G
        clear HBw HE e hit h0 t1
        go_wp2
        go_ret2
        exact G.out
end Go.Proofs.Ytjmjdcfgbaepkaa
/-
  The branches of a tree by its text.
-/
namespace Go.Proofs.Ytjmjdcfgbaepkaa
open Go.RowKit Fld
set_option linter.unusedVariables false
set_option linter.unusedSimpArgs false
set_option maxRecDepth 100000

/-- texts of the call's own -/
def ResTs (l : List (List UInt8)) (w : World) (e : Ending) (w' : World) : Prop :=
  ∃ A q c, e = .returned (.slice A q c) ∧ q = l.length ∧ w'.ownsRow w.heap.size 75 1 (.slice A q c) q (strs l) ∧ Below w.heap.size w w'
theorem branches_any (x : List UInt8) (w : World) (hx : Tr.isTx x = true) :
    Calls Try.prog 81 #[.string ⟨x.toArray⟩] w (ResTs (Tr.brT x) w) := by
  obtain ⟨⟨h2, h16⟩, _, _⟩ := Tr.br_parts hx
  obtain ⟨S, hS⟩ : ∃ S : ByteArray, S = ⟨x.toArray⟩ := ⟨_, rfl⟩
  have hsz : S.size = x.length := by rw [hS]; exact size_S x
  have HX : Hid (S.extract 1 (x.length - 1) = ⟨(Tr.inner x).toArray⟩) := by
    rw [Hid, hS, extract_S]; unfold Tr.inner; rw [show x.length - 1 - 1 = x.length - 2 from by omega]
  obtain ⟨X, hX⟩ : ∃ X, X = S.extract 1 (x.length - 1) := ⟨_, rfl⟩
  have hXX : X = ⟨(Tr.inner x).toArray⟩ := by rw [hX]; exact HX.out
  have HXX : Hid (S.extract 1 (x.length - 1) = X) := hX.symm
  have hil : (Tr.inner x).length ≤ 1048576 := by unfold Tr.inner; rw [List.length_take]; omega
  have C0 := treesIn_any (Tr.inner x) w hil
  rw [← hXX] at C0
  have hsl : ∀ W, (Instr.slice 75 (.string S) (some (.int .i64 1)) (some (.int .i64 ((S.size : Int) - 1))) none).run Try.prog W = .ok (.string X) W := fun W => by
    have h9 := run_slice_string W 75 S .i64 .i64 1 ((S.size : Int) - 1) Try.underlying75 (by omega) (by omega) (by omega)
    rw [show (S.size : Int) - 1 = ((x.length - 1 : Nat) : Int) from by omega] at h9 ⊢
    rw [h9, ← HXX.out]
    congr 3
  rw [← hS]
  have hs2 : 2 ≤ S.size := by omega
  have hs16 : S.size ≤ 16 := by omega
  clear hX hXX hS hsz h2 h16 hil hx
  go_enter Try.func81, Try.ntmps81
  go_wp2_with fail
  refine C0.mono ?_
  rintro e w1 ⟨A, q, c, rfl, own1, bel1⟩
  have G : Hid (ResTs (Tr.brT x) w (.returned (.slice A q c)) w1) := by
    refine ⟨A, q, c, rfl, ?_, own1, bel1⟩
    have := own_len own1
    rw [strs_length] at this
    exact this.symm
  clear own1 bel1
  go_wp2
  go_ret
  exact G.out
end Go.Proofs.Ytjmjdcfgbaepkaa
/-
  A text is taken out of a row of the call's own.
-/
namespace Go.Proofs.Ytjmjdcfgbaepkaa
open Go.RowKit Fld
set_option linter.unusedVariables false
set_option linter.unusedSimpArgs false
set_option maxRecDepth 100000

theorem own_prefix {w : World} {base g n k cap : Nat} {T : TypeId} {xs : List Value} (h : w.ownsRow base T 1 (.slice (some ⟨g, 0, none⟩) n cap) n xs) (hk : k ≤ n) : w.ownsRow base T 1 (.slice (some ⟨g, 0, none⟩) k cap) k (xs.take k) := by
  obtain ⟨hl, h⟩ := h
  refine ⟨by rw [List.length_take, hl]; omega, ?_⟩
  rcases h with ⟨e, _⟩ | ⟨g', cap', cur, e, hb, hh, h1, h2, h3, h4⟩
  · cases e
  · cases e
    refine .inr ⟨g, cap, cur, rfl, hb, hh, by omega, h2, h3, ?_⟩
    rw [← h4, List.take_take]
    congr 1; omega
def putL : List Value → Nat → List Value → List Value
  | xs, _, [] => xs
  | xs, o, v :: r => putL (xs.set o v) (o + 1) r
theorem own_sets {base g n cap : Nat} {T : TypeId} : ∀ (vs : List Value) (o : Nat) (w : World) (xs : List Value), w.ownsRow base T 1 (.slice (some ⟨g, 0, none⟩) n cap) n xs → (w.setCells g o vs).ownsRow base T 1 (.slice (some ⟨g, 0, none⟩) n cap) n (putL xs o vs)
  | [], _, _, _, h => h
  | v :: r, o, w, xs, h => own_sets r (o + 1) _ _ (h.stored o v).1
theorem below_sets {B g : Nat} (hg : B ≤ g) {a : World} : ∀ (vs : List Value) (o : Nat) (w : World), Below B a w → Below B a (w.setCells g o vs)
  | [], _, _, h => h
  | v :: r, o, w, h => below_sets hg r (o + 1) _ (below_set h hg v)
theorem putL_eq : ∀ (vs : List Value) (xs : List Value) (o : Nat), o + vs.length ≤ xs.length → putL xs o vs = xs.take o ++ vs ++ xs.drop (o + vs.length)
  | [], xs, o, _ => by simp [putL]
  | v :: r, xs, o, h => by
    rw [List.length_cons] at h
    rw [putL, putL_eq r _ _ (by rw [List.length_set]; omega)]
    apply List.ext_getElem?
    intro k
    rw [List.length_cons]
    simp only [List.getElem?_append, List.length_append, List.length_take, List.length_set, List.getElem?_take, List.getElem?_drop, List.getElem?_set, List.length_cons]
    rw [Nat.min_eq_left (by omega), Nat.min_eq_left (by omega)]
    rcases Nat.lt_trichotomy k o with g | g | g
    · rw [if_pos (show k < o + 1 + r.length by omega), if_pos (show k < o + 1 by omega), if_pos (show k < o + 1 by omega), if_neg (by omega), if_pos (show k < o + (r.length + 1) by omega), if_pos g, if_pos g]
    · subst g
      rw [if_pos (show k < k + 1 + r.length by omega), if_pos (show k < k + 1 by omega), if_pos (show k < k + 1 by omega), if_pos rfl, if_pos (show k < xs.length by omega), if_pos (show k < k + (r.length + 1) by omega), if_neg (by omega), Nat.sub_self]; rfl
    · by_cases g2 : k < o + 1 + r.length
      · rw [if_pos g2, if_neg (by omega), if_pos (show k < o + (r.length + 1) by omega), if_neg (by omega), show k - o = (k - (o + 1)) + 1 from by omega, List.getElem?_cons_succ]
      · rw [if_neg g2, if_neg (show ¬ k < o + (r.length + 1) by omega), if_neg (by omega), show o + 1 + r.length + (k - (o + 1 + r.length)) = o + (r.length + 1) + (k - (o + (r.length + 1))) from by omega]
/-- what is left when one is taken out -/
theorem del_list (ss : List (List UInt8)) {i n : Nat} (hl : ss.length = n) (hi : i < n) (e : Value) : (putL (putL (strs ss) i (strs (ss.drop (i + 1)))) (n - 1) [e]).take (n - 1) = strs (ss.eraseIdx i) := by
  have h0 : (strs ss).length = n := by rw [strs_length, hl]
  have h1 : (strs (ss.drop (i + 1))).length = n - (i + 1) := by rw [strs_length, List.length_drop, hl]
  have e1 := putL_eq (strs (ss.drop (i + 1))) (strs ss) i (by omega)
  have h2 : (putL (strs ss) i (strs (ss.drop (i + 1)))).length = n := by
    rw [e1]; simp only [List.length_append, List.length_take, List.length_drop]; omega
  rw [putL_eq _ _ _ (by rw [h2]; simp; omega)]
  rw [List.append_assoc, List.take_append_of_le_length (by rw [List.length_take, h2]; omega), List.take_take, Nat.min_self, e1]
  rw [List.take_append_of_le_length (by simp only [List.length_append, List.length_take]; omega), List.take_of_length_le (by simp only [List.length_append, List.length_take]; omega)]
  rw [List.eraseIdx_eq_take_drop_succ]
  unfold strs
  rw [List.map_append, List.map_take]
set_option maxHeartbeats 4000000 in
theorem delete_raw (g off i j n c : Nat) (news : List Value) (A : Addr) (w W1 : World) (hij : i < j) (hjn : j ≤ n) (hnc : n ≤ c) (hc : c ≤ 9223372036854775807)
    (hA : (if c = j then (some ⟨g, off, none⟩ : Option Addr) else some ⟨g, off + j, none⟩) = some A) (hsrc : Hid (∀ t u, news[t]? = some u → w.drew.cell? (A.add t) = some u))
    (s1 : Hid (news.length = (n - j) * 1)) (s2 : Hid (∀ u ∈ news, u.oneCell' = true)) (s3 : Hid (∀ t, t < news.length → (w.drew.cell? ⟨g, off + i * 1 + t, none⟩).isSome = true ∧ w.drew.frozen? ⟨g, off + i * 1 + t, none⟩ = false))
    (hW : Hid (W1 = w.drew.setCells g (off + i * 1) news))
    (hcl : ∀ ty, (Builtin.clear_ #[96] ty #[.slice (some ⟨g, off + (i + (n - j)), none⟩) (n - (i + (n - j))) (c - (i + (n - j)))]).run Try.prog W1 = .ok (.tuple #[]) (W1.setCells g (off + (i + (n - j))) (List.replicate (n - (i + (n - j))) (.string ⟨#[]⟩)))) :
    Calls Try.prog 148 #[.slice (some ⟨g, off, none⟩) n c, .int .i64 i, .int .i64 j] w fun e w' => e = .returned (.slice (some ⟨g, off, none⟩) (i + (n - j)) c) ∧ w' = W1.setCells g (off + (i + (n - j))) (List.replicate (n - (i + (n - j))) (.string ⟨#[]⟩)) := by
  obtain ⟨i0, hi0, hz0, hz1, hz2⟩ := info_parts info_tree
  have hic : i ≤ c := by omega
  have hjc : j ≤ c := by omega
  have mixed : Try.prog.follows Departure.mixedOrders = true := by kernel_rfl
  go_enter Try.func148, Try.ntmps148
  go_wp2_with fail
  go_region_law_o (refine step_append_room rfl (.tmp 22) (.tmp 25) 96 rfl 75 i0 1 Try.underlying96 hi0 hz1 g off i c (by simp [Act.eval, Act.put]) A (n - j) (c - j) news (by simp [Act.eval, Act.put]) s1.out hsrc.out s2.out (by omega) s3.out ?_; rw [← hW.out])
  go_wp2
  go_ret
  exact ⟨rfl, rfl⟩
set_option maxHeartbeats 2000000 in
theorem delete_any (base g i j n c : Nat) (ss : List (List UInt8)) (w : World) (hl : ss.length = n) (hi : i < n) (hj : j = i + 1) (hn : n ≤ 12) (hbase : base ≤ w.heap.size) (h : w.ownsRow base 75 1 (.slice (some ⟨g, 0, none⟩) n c) n (strs ss)) :
    Calls Try.prog 148 #[.slice (some ⟨g, 0, none⟩) n c, .int .i64 i, .int .i64 j] w fun e w' => e = .returned (.slice (some ⟨g, 0, none⟩) (n - 1) c) ∧ w'.ownsRow base 75 1 (.slice (some ⟨g, 0, none⟩) (n - 1) c) (n - 1) (strs (ss.eraseIdx i)) ∧ Below base w w' ∧ base ≤ w'.heap.size := by
  have hcap := own_cap h
  have HB : Hid (base ≤ g) := (h.lt g rfl).1
  have HL := Lib.hid hl
  have hlen : (strs (ss.drop j)).length = n - j := by rw [strs_length, List.length_drop, hl]
  have s1 : Hid ((strs (ss.drop j)).length = (n - j) * 1) := by rw [Hid, Nat.mul_one]; exact hlen
  have s2 : Hid (∀ u ∈ strs (ss.drop j), u.oneCell' = true) := fun u hu => by
    unfold strs at hu
    rw [List.mem_map] at hu
    obtain ⟨x, _, rfl⟩ := hu
    rfl
  have hcell : ∀ k, k < n → ∃ u, w.cell? ⟨g, k, none⟩ = some u ∧ (strs ss)[k]? = some u := fun k hk => by
    obtain ⟨x, hx⟩ := at_lt (show k < ss.length by omega)
    have := h.cellAt k (by omega)
    rw [strs_at hx] at this
    exact ⟨_, this, strs_at hx⟩
  have s3 : Hid (∀ t, t < (strs (ss.drop j)).length → (w.drew.cell? ⟨g, 0 + i * 1 + t, none⟩).isSome = true ∧ w.drew.frozen? ⟨g, 0 + i * 1 + t, none⟩ = false) := fun t ht => by
    rw [hlen] at ht
    rw [Nat.mul_one, Nat.zero_add]
    obtain ⟨u, hu, _⟩ := hcell (i + t) (by omega)
    exact ⟨by show (w.cell? _).isSome = true; rw [hu]; rfl, h.frozenAt (i + t)⟩
  obtain ⟨A, hA, hsrc⟩ : ∃ A : Addr, (if c = j then some (⟨g, 0, none⟩ : Addr) else some ⟨g, j, none⟩) = some A ∧ Hid (∀ t u, (strs (ss.drop j))[t]? = some u → w.drew.cell? (A.add t) = some u) := by
    by_cases hc : c = j
    · refine ⟨⟨g, 0, none⟩, by simp [hc], fun t u hu => ?_⟩
      have h0 : (strs (ss.drop j)).length = 0 := by rw [hlen]; omega
      rw [List.length_eq_zero_iff.1 h0] at hu
      simp at hu
    · refine ⟨⟨g, j, none⟩, by simp [hc], fun t u hu => ?_⟩
      have ht : t < n - j := by
        have := (List.getElem?_eq_some_iff.1 hu).1
        rwa [hlen] at this
      obtain ⟨v, hv, hv2⟩ := hcell (j + t) (by omega)
      rw [show (⟨g, j, none⟩ : Addr).add t = ⟨g, j + t, none⟩ from by unfold Addr.add; split <;> simp_all]
      unfold strs at hu hv2
      rw [List.map_drop, List.getElem?_drop, hv2] at hu
      injection hu with hu
      rw [← hu]; exact hv
  obtain ⟨W1, hW1⟩ : ∃ W1, W1 = w.drew.setCells g (0 + i * 1) (strs (ss.drop j)) := ⟨_, rfl⟩
  have HW := Lib.hid hW1
  have hO1 : W1.ownsRow base 75 1 (.slice (some ⟨g, 0, none⟩) n c) n (putL (strs ss) i (strs (ss.drop j))) := by
    rw [hW1, Nat.mul_one, Nat.zero_add]
    exact own_sets _ _ _ _ (by exact (OwnR.of h).drewN 1 |>.1)
  have HO1 := Lib.hid hO1
  have HB1 : Hid (Below base w W1) := by rw [Hid, hW1]; exact below_sets HB.out _ _ _ (below_drewN (Below.refl _ _) 1)
  have hcell1 : ∀ k, k < n → (W1.cell? ⟨g, k, none⟩).isSome = true ∧ W1.frozen? ⟨g, k, none⟩ = false := fun k hk => by
    have h9 := hO1.cellAt k (by omega)
    have h8 : k < (putL (strs ss) i (strs (ss.drop j))).length := by rw [own_len hO1]; exact hk
    rw [List.getElem?_eq_getElem h8] at h9
    exact ⟨by rw [h9]; rfl, hO1.frozenAt k⟩
  have e1 : i + (n - j) = n - 1 := by omega
  have e2 : n - (n - 1) = 1 := by omega
  have hcl : ∀ ty, (Builtin.clear_ #[96] ty #[.slice (some ⟨g, 0 + (i + (n - j)), none⟩) (n - (i + (n - j))) (c - (i + (n - j)))]).run Try.prog W1 = .ok (.tuple #[]) (W1.setCells g (0 + (i + (n - j))) (List.replicate (n - (i + (n - j))) (.string ⟨#[]⟩))) := fun ty =>
    Lib.run_clear_slice W1 _ _ ty (.string ⟨#[]⟩) Try.underlying96 (fun w => by rfl) rfl rfl g (0 + (i + (n - j))) _ _ (by omega) (fun t ht => by rw [Nat.zero_add, e1]; exact (hcell1 (n - 1 + t) (by omega)).1) (fun t ht => by rw [Nat.zero_add, e1]; exact (hcell1 (n - 1 + t) (by omega)).2)
  have G : Hid ((W1.setCells g (n - 1) [.string ⟨#[]⟩]).ownsRow base 75 1 (.slice (some ⟨g, 0, none⟩) (n - 1) c) (n - 1) (strs (ss.eraseIdx i)) ∧ Below base w (W1.setCells g (n - 1) [.string ⟨#[]⟩]) ∧ base ≤ (W1.setCells g (n - 1) [.string ⟨#[]⟩]).heap.size) := by
    have h7 := own_prefix (own_sets [.string ⟨#[]⟩] (n - 1) W1 _ HO1.out) (show n - 1 ≤ n by omega)
    subst hj
    rw [del_list ss HL.out hi] at h7
    have h6 := below_sets HB.out [.string ⟨#[]⟩] (n - 1) W1 HB1.out
    exact ⟨h7, h6, Nat.le_trans hbase h6.size⟩
  have C0 := delete_raw g 0 i j n c _ A w W1 (by omega) (by omega) hcap.1 hcap.2 (by rw [Nat.zero_add]; exact hA) hsrc s1 s2 s3 HW hcl
  refine C0.mono ?_
  rintro e w' ⟨rfl, rfl⟩
  rw [Nat.zero_add, e1, e2]
  exact ⟨rfl, G.out⟩
end Go.Proofs.Ytjmjdcfgbaepkaa
/-
  The branch with a node, and the others.
-/
namespace Go.Proofs.Ytjmjdcfgbaepkaa
open Go.RowKit Fld
set_option linter.unusedVariables false
set_option linter.unusedSimpArgs false
set_option maxRecDepth 100000

theorem tx_brk' {x : List UInt8} (h : Tr.isTx x = true) : Brk x := by
  unfold Tr.isTx at h
  simp only [Bool.and_eq_true, beq_iff_eq] at h
  rw [← h.2]; exact txt_brk _ _
theorem tx_even {x : List UInt8} (h : Tr.isTx x = true) : x.length = 2 * (x.length / 2) := by
  unfold Tr.isTx at h
  simp only [Bool.and_eq_true, beq_iff_eq] at h
  have := (lv_txt h.1).2.2.2
  rw [h.2] at this
  omega
theorem pick_drop {bs : List (List UInt8)} {k p : Nat} {b : List UInt8} (h : bs[k]? = some b) : Tr.pick (bs.drop k) p = if p < b.length / 2 then (0, p) else ((Tr.pick (bs.drop (k + 1)) (p - b.length / 2)).1 + 1, (Tr.pick (bs.drop (k + 1)) (p - b.length / 2)).2) := by
  have hlt : k < bs.length := by
    rcases Nat.lt_or_ge k bs.length with g | g
    · exact g
    · rw [List.getElem?_eq_none g] at h; cases h
  rw [List.getElem?_eq_getElem hlt] at h
  injection h with h
  rw [List.drop_eq_getElem_cons hlt, h, Tr.pick]
set_option maxHeartbeats 2000000 in
theorem branchWith_any (x : List UInt8) (n : Nat) (w : World) (hx : Tr.isTx x = true) (hn : n + 1 < x.length / 2) :
    Calls Try.prog 118 #[.string ⟨x.toArray⟩, .int .i64 ((n + 1 : Nat) : Int)] w fun e w' => ∃ g c q, e = .returned (.tuple #[.string ⟨(Tr.bAt x n).toArray⟩, .int .i64 ((Tr.pAt x n : Nat) : Int), .slice (some ⟨g, 0, none⟩) q c]) ∧ q = (Tr.oAt x n).length ∧ w'.ownsRow w.heap.size 75 1 (.slice (some ⟨g, 0, none⟩) q c) q (strs (Tr.oAt x n)) ∧ Below w.heap.size w w' := by
  have hx16 := (Tr.br_parts hx).1.2
  have hb7 := (Tr.br_parts hx).2.2
  have hbb := (Tr.br_parts hx).2.1
  have HPK := Lib.hid (Tr.pick_parts hx hn).1
  have C0 := branches_any x w hx
  obtain ⟨bs, hbs⟩ : ∃ bs, bs = Tr.brT x := ⟨_, rfl⟩
  have HBA : Hid (Tr.bAt x n = bs.getD (Tr.pick bs n).1 []) := by rw [Hid, hbs]; rfl
  have HPA : Hid (Tr.pAt x n = (Tr.pick bs n).2) := by rw [Hid, hbs]; rfl
  have HOA : Hid (Tr.oAt x n = bs.eraseIdx (Tr.pick bs n).1) := by rw [Hid, hbs]; rfl
  rw [← hbs] at hb7 hbb HPK C0
  have HBB : Hid (∀ b ∈ bs, b.length ≤ 16) := fun b hb => by have := (hbb b hb).2; omega
  have hnr : n ≤ 8 := by omega
  have hn1 : ((n + 1 : Nat) : Int) - 1 = (n : Int) := by omega
  clear hbs hbb hx hn
  go_enter Try.func118, Try.ntmps118
  go_wp2_with fail
  refine C0.mono ?_
  rintro e w1 ⟨A1, q1, c1, rfl, hq1, own1, bel1⟩
  have HO1 := Lib.hid own1
  have HB1 := Lib.hid bel1
  have hq0 : 0 < q1 := by have := HPK.out; omega
  obtain ⟨g, cap, hv⟩ := own_form own1 hq0
  injection hv with hA _ hcap
  subst hA hcap
  have HQ := Lib.hid hq1
  have hq7 : q1 ≤ 7 := by omega
  clear own1 bel1 hq1 C0
  go_wp2_with fail
  go_loopw [8, 9] (fun pl i wr => ∃ (k p : Nat), k < q1 ∧ p ≤ n ∧ pl = .int .i64 p ∧ i = .int .i64 k ∧ wr = w1 ∧ Hid (Tr.pick bs n = (k + (Tr.pick (bs.drop k) p).1, (Tr.pick (bs.drop k) p).2))) (fun _ i _ => q1 - (intOf i).toNat)
  case atStart => exact ⟨0, n, hq0, Nat.le_refl _, by go_num, rfl, rfl, by rw [Hid, List.drop_zero]; simp⟩
  case round =>
    obtain ⟨k, p, hk, hp, rfl, rfl, rfl, HK⟩ := hrel
    obtain ⟨b, hb⟩ := at_lt (show k < bs.length by have := HQ.out; omega)
    have hb16 := HBB.out b (List.mem_of_getElem? hb)
    have hcell := HO1.out.cellAt k (by omega)
    rw [strs_at hb] at hcell
    have HPD := Lib.hid (pick_drop (p := p) hb)
    have C1 := fun w => nodes_any b w (by omega)
    obtain ⟨nb, hnb⟩ : ∃ nb, nb = b.length / 2 := ⟨_, rfl⟩
    rw [← hnb] at HPD
    simp only [← hnb] at C1
    have hnb8 : nb ≤ 8 := by omega
    have HBK := Lib.hid hb
    obtain ⟨X, hX⟩ : ∃ X : ByteArray, X = ⟨b.toArray⟩ := ⟨_, rfl⟩
    have HX := Lib.hid hX
    rw [← hX] at hcell
    simp only [← hX] at C1
    clear hb hnb hX
    by_cases hpb : p < nb
    · have HE : Hid (Tr.pick bs n = (k, p)) := by rw [Hid, HK.out, HPD.out, if_pos hpb]; rfl
      have C2 := delete_any w.heap.size g k (k + 1) q1 c1 bs wr HQ.out.symm hk rfl (by omega) HB1.out.size HO1.out
      rw [show ((k + 1 : Nat) : Int) = (k : Int) + 1 from rfl] at C2
      have GB : Hid (Tr.bAt x n = b) := by
        rw [Hid, HBA.out, HE.out]
        show bs.getD k [] = b
        rw [List.getD_eq_getElem?_getD, HBK.out]; rfl
      have GP : Hid (Tr.pAt x n = p) := by rw [Hid, HPA.out, HE.out]
      have GO : Hid (Tr.oAt x n = bs.eraseIdx k) := by rw [Hid, HOA.out, HE.out]
      have hpb' : ¬ (nb : Int) ≤ (p : Int) := by omega
      clear HPD HK
      go_wp2_with fail
      refine (C1 _).mono ?_
      rintro e w2 ⟨rfl, rfl⟩
      go_wp2_with fail
      refine C2.mono ?_
      rintro e w3 ⟨rfl, own3, bel3, hs3⟩
      have G3 : Hid (w3.ownsRow w.heap.size 75 1 (.slice (some ⟨g, 0, none⟩) (q1 - 1) c1) (q1 - 1) (strs (Tr.oAt x n))) := by rw [Hid, GO.out]; exact own3
      have GB3 := Lib.hid (HB1.out.trans bel3)
      have GL : Hid (q1 - 1 = (Tr.oAt x n).length) := by rw [Hid, GO.out, List.length_eraseIdx, if_pos (by have := HQ.out; omega), ← HQ.out]
      clear own3 bel3 C1 C2 hcell
      go_wp2
      go_ret3
      exact ⟨g, c1, q1 - 1, by rw [GB.out, GP.out, ← HX.out]; rfl, GL.out, G3.out, GB3.out⟩
    · have HE : Hid (Tr.pick bs n = (k + 1 + (Tr.pick (bs.drop (k + 1)) (p - nb)).1, (Tr.pick (bs.drop (k + 1)) (p - nb)).2)) := by
        rw [Hid, HK.out, HPD.out, if_neg hpb]
        simp only [Prod.mk.injEq, and_true]; omega
      have hk1 : k + 1 < q1 := by
        have h1 := HPK.out
        rw [HE.out] at h1
        have := HQ.out; simp only at h1; omega
      have hpb' : (nb : Int) ≤ (p : Int) := by omega
      clear HPD HK hpb
      go_wp2_with fail
      refine (C1 _).mono ?_
      rintro e w2 ⟨rfl, rfl⟩
      go_wp2_with fail
      refine (C1 _).mono ?_
      rintro e w2 ⟨rfl, rfl⟩
      go_wp2
      go_roundw
      case rel => exact ⟨k + 1, p - nb, by omega, by omega, by go_num, by go_num, by first | rfl | trivial, HE⟩
      case measure => simp [intOf]; omega
end Go.Proofs.Ytjmjdcfgbaepkaa
/-
  The program's grafting on texts.
-/
namespace Go.Proofs.Ytjmjdcfgbaepkaa
open Go.RowKit Fld
set_option linter.unusedVariables false
set_option linter.unusedSimpArgs false
set_option maxRecDepth 100000

theorem flat_small : ∀ {l : List (List UInt8)} {m : Nat}, (∀ b ∈ l, b.length ≤ m) → l.flatten.length ≤ l.length * m
  | [], m, _ => by simp
  | b :: l, m, h => by
    have h1 := flat_small (l := l) (fun x hx => h x (by simp [hx]))
    have h2 := h b (by simp)
    rw [List.flatten_cons, List.length_append, List.length_cons, Nat.add_mul, Nat.one_mul]; omega
theorem rootT_len (l : List (List UInt8)) : (Tr.rootT l).length = l.flatten.length + 2 := by
  unfold Tr.rootT Tr.wrap
  rw [List.length_cons, List.length_append, flat_sorted]; rfl
theorem flat_snoc (l : List (List UInt8)) (b : List UInt8) : (l ++ [b]).flatten.length = l.flatten.length + b.length := by simp
theorem brT_small {x : List UInt8} (h : Tr.isTx x = true) : (Tr.brT x).flatten.length ≤ 112 := by
  obtain ⟨⟨_, h16⟩, hb, h7⟩ := Tr.br_parts h
  have := flat_small (l := Tr.brT x) (m := 16) (fun b hb' => by have := (hb b hb').2; omega)
  omega
theorem oAt_small {x : List UInt8} (h : Tr.isTx x = true) {n : Nat} (hn : n + 1 < x.length / 2) : (Tr.oAt x n).flatten.length ≤ 112 := by
  obtain ⟨_, _, _, _, hb, h7⟩ := Tr.pick_parts h hn
  have := flat_small (l := Tr.oAt x n) (m := 16) (fun b hb' => (hb b hb').2)
  omega
theorem bAt_less {x : List UInt8} (h : Tr.isTx x = true) {n d : Nat} (hn : n + 1 < x.length / 2) (hd : x.length / 2 ≤ d + 1) : (Tr.bAt x n).length / 2 ≤ d := by
  have h1 := tx_even h
  obtain ⟨_, h2, _, h3, _⟩ := Tr.pick_parts h hn
  have h4 := tx_even h2
  omega
theorem grf_len : ∀ (d : Nat) (x : List UInt8) (k : Nat) (v : List UInt8), Tr.isTx x = true → k < x.length / 2 → x.length / 2 ≤ d → (Tr.grfF d x k v).length ≤ 200 * d + v.length
  | 0, x, k, v, h, hk, hd => by simp [Tr.grfF]
  | d+1, x, 0, v, h, hk, hd => by
    rw [Tr.grfF, rootT_len, flat_snoc]
    have := brT_small h
    omega
  | d+1, x, n+1, v, h, hk, hd => by
    rw [Tr.grfF, rootT_len, flat_snoc]
    obtain ⟨_, h2, h3, _⟩ := Tr.pick_parts h hk
    have h1 := grf_len d (Tr.bAt x n) (Tr.pAt x n) v h2 h3 (bAt_less h hk hd)
    have := oAt_small h hk
    omega
theorem strs_snoc (l : List (List UInt8)) (b : List UInt8) : strs l ++ [.string ⟨b.toArray⟩] = strs (l ++ [b]) := by simp [strs]
theorem tTimes_any (x v : List UInt8) (w : World) (hx : Tr.isTx x = true) (hv : v.length ≤ 100000) :
    Calls Try.prog 143 #[.string ⟨x.toArray⟩, .string ⟨v.toArray⟩] w fun e w' => e = .returned (.string ⟨(Tr.rootT (Tr.brT x ++ [v])).toArray⟩) ∧ Below w.heap.size w w' := by
  obtain ⟨i0, hi, hz0, hz1, hz2⟩ := info_parts info_tree
  have h7 := (Tr.br_parts hx).2.2
  have HF : Hid ((Tr.brT x ++ [v]).flatten.length ≤ 1048574) := by rw [Hid, flat_snoc]; have := brT_small hx; omega
  have C0 := branches_any x w hx
  have HS := Lib.hid (strs_snoc (Tr.brT x) v)
  obtain ⟨V, hV⟩ : ∃ V : ByteArray, V = ⟨v.toArray⟩ := ⟨_, rfl⟩
  rw [← hV] at HS ⊢
  clear hV hx
  go_enter Try.func143, Try.ntmps143
  go_wp2_with fail
  refine C0.mono ?_
  rintro e w1 ⟨A, q, c, rfl, hq, own1, bel1⟩
  have hs1 := bel1.size
  have HB1 := Lib.hid bel1
  have HO1 := Lib.hid own1
  have hq7 : q ≤ 7 := by omega
  clear bel1 hq C0
  go_wp2_with (at_builtin; (refine wpList_append_lies _ rfl (.tmp 6) (.tmp 8) 96 rfl w.heap.size 75 i0 _ 1 16 Try.underlying96 hi hz0 hz1 hz2 rfl (by omega) (.slice A q c) q (strs (Tr.brT x)) rfl (own1.alloc _) ⟨w1.heap.size, 0, none⟩ 1 1 [.string V] rfl rfl (World.news_of_block (cs := #[.string V]) (heap_alloc_new _ _)) (by simp [Value.oneCell']) (by omega) (by simp only [maxLen]; omega) (by omega) (by simp; omega) (w1.heap.size + 1) (by simp) ?_); intro g2 cap2 w3 hown3 hgrow3 hat3 hlt3)
  rw [HS.out] at hown3
  have HB3 : Hid (Below w.heap.size w w3) := (HB1.out.alloc (by omega) _).grown hgrow3 (by simp; omega) (fun z hz => (HO1.out.lt z hz).1)
  have HO3 := Lib.hid hown3
  clear hown3 hgrow3 hat3 own1
  go_wp2_with fail
  refine (rootOn_any _ w.heap.size _ _ _ _ (by omega) HF.out HB3.out.size HO3.out).mono ?_
  rintro e w4 ⟨rfl, bel4⟩
  have GB := Lib.hid (HB3.out.trans bel4)
  obtain ⟨Z, hZ⟩ : ∃ Z : ByteArray, Z = ⟨(Tr.wrap (Tr.sortS (Tr.brT x ++ [v]))).toArray⟩ := ⟨_, rfl⟩
  have HZ : Hid (Z = ⟨(Tr.rootT (Tr.brT x ++ [v])).toArray⟩) := hZ
  rw [← hZ]
  clear bel4 hZ
  go_wp2
  go_ret
  exact ⟨by rw [← HZ.out]; rfl, GB.out⟩
def GrfAt (d : Nat) : Prop := ∀ (x : List UInt8) (k : Nat) (v : List UInt8) (w : World), Tr.isTx x = true → k < x.length / 2 → x.length / 2 ≤ d → v.length ≤ 16 →
    Calls Try.prog 112 #[.string ⟨x.toArray⟩, .int .i64 k, .string ⟨v.toArray⟩] w fun e w' => e = .returned (.string ⟨(Tr.grfF d x k v).toArray⟩) ∧ Below w.heap.size w w'
theorem grfAt_zero : GrfAt 0 := fun x k v w _ hk hd _ => by omega
set_option maxHeartbeats 1000000 in
theorem grfAt_succ (d : Nat) (hd8 : d ≤ 8) (IH : GrfAt d) : GrfAt (d + 1) := by
  intro x k v w hx hk hd hv
  obtain ⟨i0, hi, hz0, hz1, hz2⟩ := info_parts info_tree
  cases k with
  | zero =>
    have C0 := tTimes_any x v w hx (by omega)
    have HZ : Hid (Tr.grfF (d + 1) x 0 v = Tr.rootT (Tr.brT x ++ [v])) := rfl
    rw [HZ.out]
    clear HZ
    obtain ⟨Z, hZ⟩ : ∃ Z : ByteArray, Z = ⟨(Tr.rootT (Tr.brT x ++ [v])).toArray⟩ := ⟨_, rfl⟩
    rw [← hZ] at C0 ⊢
    obtain ⟨X, hX⟩ : ∃ X : ByteArray, X = ⟨x.toArray⟩ := ⟨_, rfl⟩
    obtain ⟨V, hV⟩ : ∃ V : ByteArray, V = ⟨v.toArray⟩ := ⟨_, rfl⟩
    rw [← hX, ← hV] at C0 ⊢
    clear hZ hX hV hx hk hd hv
    go_enter Try.func112, Try.ntmps112
    go_wp2_with fail
    refine C0.mono ?_
    rintro e w1 ⟨rfl, bel1⟩
    have GB := Lib.hid bel1
    clear bel1 C0
    go_wp2
    go_ret
    exact ⟨rfl, GB.out⟩
  | succ n =>
    obtain ⟨_, h2, h3, _, _, h7⟩ := Tr.pick_parts hx hk
    have C0 := branchWith_any x n w hx hk
    have C1 := fun w => IH (Tr.bAt x n) (Tr.pAt x n) v w h2 h3 (bAt_less hx hk hd) hv
    have HL := grf_len d (Tr.bAt x n) (Tr.pAt x n) v h2 h3 (bAt_less hx hk hd)
    have HZ : Hid (Tr.grfF (d + 1) x (n + 1) v = Tr.rootT (Tr.oAt x n ++ [Tr.grfF d (Tr.bAt x n) (Tr.pAt x n) v])) := rfl
    have HF : Hid ((Tr.oAt x n ++ [Tr.grfF d (Tr.bAt x n) (Tr.pAt x n) v]).flatten.length ≤ 1048574) := by rw [Hid, flat_snoc]; have := oAt_small hx hk; omega
    have HS := Lib.hid (strs_snoc (Tr.oAt x n) (Tr.grfF d (Tr.bAt x n) (Tr.pAt x n) v))
    rw [HZ.out]
    obtain ⟨V, hV⟩ : ∃ V : ByteArray, V = ⟨v.toArray⟩ := ⟨_, rfl⟩
    obtain ⟨X, hX⟩ : ∃ X : ByteArray, X = ⟨x.toArray⟩ := ⟨_, rfl⟩
    obtain ⟨Bb, hBb⟩ : ∃ Bb : ByteArray, Bb = ⟨(Tr.bAt x n).toArray⟩ := ⟨_, rfl⟩
    obtain ⟨Gg, hGg⟩ : ∃ Gg : ByteArray, Gg = ⟨(Tr.grfF d (Tr.bAt x n) (Tr.pAt x n) v).toArray⟩ := ⟨_, rfl⟩
    rw [← hX, ← hBb] at C0
    rw [← hX, ← hV]
    rw [← hGg] at HS
    simp only [← hV, ← hBb, ← hGg] at C1
    obtain ⟨p, hp⟩ : ∃ p, p = Tr.pAt x n := ⟨_, rfl⟩
    rw [← hp] at C0
    simp only [← hp] at C1
    have hk0 : ((n + 1 : Nat) : Int) ≠ 0 := by omega
    have tk : (((n + 1 : Nat) : Int) == 0) = false := beq_f hk0
    obtain ⟨kk, hkk⟩ : ∃ kk, kk = ((n + 1 : Nat) : Int) := ⟨_, rfl⟩
    rw [← hkk] at C0 tk ⊢
    clear hV hX hBb hGg hp HL HZ h2 h3 hkk hk0 hx hk hd hv IH
    go_enter Try.func112, Try.ntmps112
    go_wp2_with fail
    refine C0.mono ?_
    rintro e w1 ⟨g, c, q, rfl, hq, own1, bel1⟩
    have hq7 : q ≤ 7 := by omega
    have HO1 := Lib.hid own1
    have HB1 := Lib.hid bel1
    have hs1 := bel1.size
    clear own1 bel1 hq C0
    go_wp2_with fail
    refine (C1 _).mono ?_
    rintro e w2 ⟨rfl, bel2⟩
    have hs2 := bel2.size
    have HB2 := Lib.hid (HB1.out.trans (bel2.mono hs1))
    have own2 := ((OwnR.of HO1.out).below bel2 (Nat.le_refl _)).1
    have HO2 := Lib.hid own2
    have hs02 := HB2.out.size
    clear bel2 C1
    go_wp2_with (at_builtin; (refine wpList_append_lies _ rfl (.tmp 22) (.tmp 27) 96 rfl w.heap.size 75 i0 _ 1 16 Try.underlying96 hi hz0 hz1 hz2 rfl (by omega) (.slice (some ⟨g, 0, none⟩) q c) q (strs (Tr.oAt x n)) rfl (own2.alloc _) ⟨w2.heap.size, 0, none⟩ 1 1 [.string Gg] rfl rfl (World.news_of_block (cs := #[.string Gg]) (heap_alloc_new _ _)) (by simp [Value.oneCell']) (by omega) (by simp only [maxLen]; omega) (by omega) (by simp; omega) (w2.heap.size + 1) (by simp) ?_); intro g2 cap2 w3 hown3 hgrow3 hat3 hlt3)
    rw [HS.out] at hown3
    have HB3 : Hid (Below w.heap.size w w3) := (HB2.out.alloc (by omega) _).grown hgrow3 (by simp; omega) (fun z hz => (HO2.out.lt z hz).1)
    have HO3 := Lib.hid hown3
    clear hown3 hgrow3 hat3 own2
    go_wp2_with fail
    refine (rootOn_any _ w.heap.size _ _ _ _ (by omega) HF.out HB3.out.size HO3.out).mono ?_
    rintro e w4 ⟨rfl, bel4⟩
    have GB := Lib.hid (HB3.out.trans bel4)
    obtain ⟨Z, hZ⟩ : ∃ Z : ByteArray, Z = ⟨(Tr.wrap (Tr.sortS (Tr.oAt x n ++ [Tr.grfF d (Tr.bAt x n) (Tr.pAt x n) v]))).toArray⟩ := ⟨_, rfl⟩
    have HZ : Hid (Z = ⟨(Tr.rootT (Tr.oAt x n ++ [Tr.grfF d (Tr.bAt x n) (Tr.pAt x n) v])).toArray⟩) := hZ
    rw [← hZ]
    clear bel4 hZ
    go_wp2
    go_ret
    exact ⟨by rw [← HZ.out]; rfl, GB.out⟩
theorem grfAt_all : ∀ d, d ≤ 8 → GrfAt d
  | 0, _ => grfAt_zero
  | d+1, h => grfAt_succ d (by omega) (grfAt_all d (by omega))
theorem graftAt_any (x : List UInt8) (k : Nat) (v : List UInt8) (w : World) (hx : Tr.isTx x = true) (hk : k < x.length / 2) (hv : v.length ≤ 16) :
    Calls Try.prog 112 #[.string ⟨x.toArray⟩, .int .i64 k, .string ⟨v.toArray⟩] w fun e w' => e = .returned (.string ⟨(Tr.grfF 8 x k v).toArray⟩) ∧ Below w.heap.size w w' :=
  grfAt_all 8 (Nat.le_refl _) x k v w hx hk (by have := (Tr.br_parts hx).1.2; omega) hv
end Go.Proofs.Ytjmjdcfgbaepkaa
/-
  A tree grafted at all nodes of all trees of a sum.
-/
namespace Go.Proofs.Ytjmjdcfgbaepkaa
open Go.RowKit Fld Go.Maps Go.Sort
set_option linter.unusedVariables false
set_option linter.unusedSimpArgs false
set_option maxRecDepth 100000

def grafts (x v : List UInt8) : List (List UInt8) := (List.range (x.length / 2)).map fun k => Tr.grfF 8 x k v
theorem grafts_len (x v : List UInt8) : (grafts x v).length = x.length / 2 := by simp [grafts]
theorem grafts_at {x v : List UInt8} {k : Nat} (h : k < x.length / 2) : (grafts x v)[k]? = some (Tr.grfF 8 x k v) := by
  unfold grafts; rw [List.getElem?_map, List.getElem?_range h]; rfl
def gsum (f : List UInt8 → Int) (v : List UInt8) (ss : List (List UInt8)) : List UInt8 → Int := fun y => (ss.map fun x => f x * ((grafts x v).count y : Int)).sum
def gpart (f : List UInt8 → Int) (v : List UInt8) (ss : List (List UInt8)) (x : List UInt8) (j : Nat) : List UInt8 → Int := fun y => gsum f v ss y + f x * (((grafts x v).take j).count y : Int)
theorem gsum_nil (f : List UInt8 → Int) (v : List UInt8) : gsum f v [] = fun _ => 0 := by funext y; simp [gsum]
theorem gpart_zero (f : List UInt8 → Int) (v : List UInt8) (ss : List (List UInt8)) (x : List UInt8) : gpart f v ss x 0 = gsum f v ss := by funext y; simp [gpart]
theorem gpart_end (f : List UInt8 → Int) (v : List UInt8) (ss : List (List UInt8)) (x : List UInt8) : gpart f v ss x (x.length / 2) = gsum f v (ss ++ [x]) := by
  funext y
  unfold gpart gsum
  rw [List.take_of_length_le (by rw [grafts_len]; exact Nat.le_refl _), List.map_append, List.sum_append]
  simp
theorem gpart_step {f : List UInt8 → Int} {v : List UInt8} {ss : List (List UInt8)} {x : List UInt8} {j : Nat} (h : j < x.length / 2) : bump (gpart f v ss x j) (Tr.grfF 8 x j v) (f x) = gpart f v ss x (j + 1) := by
  funext y
  unfold bump gpart
  rw [List.take_add_one, grafts_at h, Option.toList_some, List.count_append, List.count_singleton]
  by_cases e : y = Tr.grfF 8 x j v
  · subst e
    rw [if_pos rfl]
    simp only [beq_self_eq_true, if_true, Int.natCast_add, Int.mul_add]
    omega
  · rw [if_neg e, if_neg (by simpa using fun q => e q.symm)]; simp
theorem mul_bd {a c : Int} (h0 : -1000000 ≤ a) (h1 : a ≤ 1000000) (c0 : 0 ≤ c) (c1 : c ≤ 8) : -8000000 ≤ a * c ∧ a * c ≤ 8000000 := by
  have k1 := Int.mul_le_mul_of_nonneg_right h1 c0
  have k0 := Int.mul_le_mul_of_nonneg_right h0 c0
  omega
theorem count_bd (x v y : List UInt8) (j : Nat) (h : x.length ≤ 16) : 0 ≤ (((grafts x v).take j).count y : Int) ∧ (((grafts x v).take j).count y : Int) ≤ 8 := by
  have h1 := List.count_le_length (a := y) (l := (grafts x v).take j)
  have h2 : ((grafts x v).take j).length ≤ 8 := by rw [List.length_take, grafts_len]; omega
  omega
theorem gsum_bd {f : List UInt8 → Int} {v : List UInt8} (hf : ∀ x, -1000000 ≤ f x ∧ f x ≤ 1000000) : ∀ {ss : List (List UInt8)}, (∀ x ∈ ss, x.length ≤ 16) → ∀ y, -(8000000 * (ss.length : Int)) ≤ gsum f v ss y ∧ gsum f v ss y ≤ 8000000 * (ss.length : Int)
  | [], _, y => by simp [gsum]
  | x :: r, h, y => by
    have ih := gsum_bd hf (ss := r) (v := v) (fun x hx => h x (by simp [hx])) y
    have e : gsum f v (x :: r) y = f x * ((grafts x v).count y : Int) + gsum f v r y := by unfold gsum; rw [List.map_cons, List.sum_cons]
    have hx := h x (by simp)
    have hc := count_bd x v y (x.length / 2) hx
    rw [List.take_of_length_le (by rw [grafts_len]; exact Nat.le_refl _)] at hc
    have hm := mul_bd (hf x).1 (hf x).2 hc.1 hc.2
    rw [e, List.length_cons]
    omega
theorem gpart_bd {f : List UInt8 → Int} {v : List UInt8} (hf : ∀ x, -1000000 ≤ f x ∧ f x ≤ 1000000) {ss : List (List UInt8)} (h : ∀ x ∈ ss, x.length ≤ 16) (hl : ss.length ≤ 100) {x : List UInt8} (hx : x.length ≤ 16) (j : Nat) (y : List UInt8) : -1000000000000 ≤ gpart f v ss x j y ∧ gpart f v ss x j y ≤ 1000000000000 := by
  have h1 := gsum_bd (v := v) hf h y
  have hc := count_bd x v y j hx
  have hm := mul_bd (hf x).1 (hf x).2 hc.1 hc.2
  unfold gpart
  omega
set_option maxHeartbeats 4000000 in
theorem graft_any (b n : Nat) (f : List UInt8 → Int) (v : List UInt8) (w : World) (h : MapF w b n f) (hn : n ≤ 100) (hf : ∀ x, f x ≠ 0 → Tr.isTx x = true) (hb : ∀ x, -1000000 ≤ f x ∧ f x ≤ 1000000) (hv : v.length ≤ 16) :
    Calls Try.prog 61 #[.map (some b), .string ⟨v.toArray⟩] w fun e w' => ∃ b2 m ss, e = .returned (.map (some b2)) ∧ KeysF f n ss ∧ MapF w' b2 m (gsum f v ss) ∧ m ≤ 8 * ss.length ∧ w.heap.size ≤ b2 ∧ Below w.heap.size w w' := by
  obtain ⟨D, hown, hD⟩ := h
  have hsz := hown.size_le
  have hblt := hown.lt
  have HO := Lib.hid hown
  have HD := Lib.hid hD
  have HF := Lib.hid hf
  have HB := Lib.hid hb
  have hmm := @run_makeMap Try.prog
  have HS0 : Hid (MapF (w.alloc (.map #[] 0)) w.heap.size 0 (gsum f v [])) := by rw [gsum_nil]; exact MapF.made w
  obtain ⟨Y, hY⟩ : ∃ Y : ByteArray, Y = ⟨v.toArray⟩ := ⟨_, rfl⟩
  rw [← hY]
  have HY := Lib.hid hY
  have hownA := hown.alloc (.map #[] 0)
  clear hY hf hb hD hown
  go_enter Try.func61, Try.ntmps61
  go_wp2_with (first
    | (at_range; refine wpList_range_own _ rfl _ 74 rfl 75 2 keyed Try.underlying74 _ b n _ rfl hownA ?_; intro w0 hrg0 hg0 hs0)
    | fail)
  go_frame
  obtain ⟨r, hr⟩ : ∃ r, r = (w.alloc (.map #[] 0)).heap.size := ⟨_, rfl⟩
  rw [← hr] at hrg0 ⊢
  have hr1 : w.heap.size < r ∧ r ≤ w.heap.size + 1 := by rw [hr]; simp
  have HM0 : Hid (MapF w0 w.heap.size 0 (gsum f v [])) := HS0.out.kept hg0 (by simp)
  have HB0 : Hid (Below w.heap.size w w0) := ((Below.refl _ _).alloc (Nat.le_refl _) _).grown hg0 (by simp) (fun k e => by cases e)
  clear hr hs0 hg0 HS0 hownA
  go_loopw [6] (fun _ wr => ∃ (left : Lit → Bool) (cnt m : Nat) (ss : List (List UInt8)), wr.ranges Try.prog 75 (plainElem Try.prog 2) b r n D left cnt ∧ Collected D left ss ∧ ss.length + cnt ≤ n ∧ (∀ x ∈ ss, x.length ≤ 16) ∧ MapF wr w.heap.size m (gsum f v ss) ∧ m ≤ 8 * ss.length ∧ Below w.heap.size w wr) (fun _ wr => wr.rangeLeft b r)
  case atStart => exact ⟨_, _, 0, [], hrg0, Collected.start D, by simpa using hsz, (fun x hx => by cases hx), HM0.out, Nat.zero_le _, HB0.out⟩
  case round =>
    obtain ⟨left, cnt, m, ss, hrg, hC, hcn, h16, hM, hm, hB⟩ := hrel
    go_wp2_with (first
      | (at_next; refine wpList_next_ranges _ rfl _ rfl 75 keyed (plainElem Try.prog 2) (fun x : List UInt8 => (.string ⟨x.toArray⟩ : Value)) (fun z : Int => (.int .i64 z : Value)) (fun key kl hk => by obtain ⟨x, hx, _⟩ := Maps.keyOf_str Try.underlying75 hk; exact ⟨x, hx⟩) (fun v y hv => by obtain ⟨z, hz, _⟩ := plainElem_int_inv Try.underlying2 hv; exact ⟨z, hz⟩) b r n _ _ _ rfl hrg ?_ ?_)
      | fail)
    · intro hc0 hl0
      have HK := Lib.hid (keysF_of HO.out HD.out (hC.perm HO.out keyed Try.underlying75 hl0))
      have HM := Lib.hid hM
      have HBB := Lib.hid hB
      clear hrg hC hM hB HM0 hrg0 hl0
      go_wp2
      go_ret
      exact ⟨_, m, ss, rfl, HK.out, HM.out, hm, Nat.le_refl _, HBB.out⟩
    · intro x c kl yd yp w1 cnt1 hkey hlk hvv hat hrg1 hlt hg1 hs1 hen
      obtain ⟨x', ex, rfl, _⟩ := Maps.keyOf_str Try.underlying75 hkey
      obtain rfl : x = x' := encStr_inj ex
      obtain ⟨c', ec, hyd, _⟩ := plainElem_int_inv Try.underlying2 hvv
      obtain rfl : c = c' := by simpa using ec
      obtain ⟨rfl, rfl⟩ : yd = .lit (.int .i64 c) ∧ yp = [] := by simpa using hyd
      have hfx : f x = c := by
        have h9 := (HD.out.1 x).symm.trans (hat _)
        simpa using h9
      have hne : f x ≠ 0 := by
        have h9 := HD.out.2 x
        rw [has_true_of_atKey hat] at h9
        simpa using h9.symm
      have hxt := HF.out x hne
      have hx16 := (Tr.br_parts hxt).1.2
      have hC1 := hC.step hlk hat
      have hM1 := hM.kept hg1 (by intro e; injection e with e; omega)
      have HB1 : Hid (Below w.heap.size w w1) := hB.grown hg1 hB.size (fun k e => by injection e with e; omega)
      have CN := nodes_any x w1 (by omega)
      obtain ⟨N, hN⟩ : ∃ N, N = x.length / 2 := ⟨_, rfl⟩
      have hN8 : N ≤ 8 := by omega
      have hlc : cnt1 < cnt := hlt
      have hl100 : ss.length ≤ 100 := by omega
      have HP0 : Hid (MapF w1 w.heap.size m (gpart f v ss x 0)) := by rw [gpart_zero]; exact hM1
      have HPB : Hid (∀ j y, -1000000000000 ≤ gpart f v ss x j y ∧ gpart f v ss x j y ≤ 1000000000000) := gpart_bd HB.out h16 hl100 hx16
      have HPS : Hid (∀ j, j < N → bump (gpart f v ss x j) (Tr.grfF 8 x j v) c = gpart f v ss x (j + 1)) := fun j hj => by rw [← hfx]; exact gpart_step (by omega)
      have HPE : Hid (gpart f v ss x N = gsum f v (ss ++ [x])) := by rw [hN]; exact gpart_end f v ss x
      have HGL : Hid (∀ j, j < N → (Tr.grfF 8 x j v).length ≤ 1048576) := fun j hj => by
        have := grf_len 8 x j v hxt (by omega) (by omega); omega
      have hleft := hrg.left_eq
      have CG := fun j W (hj : j < N) => graftAt_any x j v W hxt (by omega) hv
      have hcb : -1000000 ≤ c ∧ c ≤ 1000000 := by rw [← hfx]; exact HB.out x
      rw [← hN] at CN
      obtain ⟨X, hX⟩ : ∃ X : ByteArray, X = ⟨x.toArray⟩ := ⟨_, rfl⟩
      rw [← hX] at CN hen ⊢
      simp only [← hX, ← HY.out] at CG
      have HC1 := Lib.hid hC1
      have HRG := Lib.hid hrg1
      have h16' : ∀ y ∈ ss ++ [x], y.length ≤ 16 := fun y hy => by
        rw [List.mem_append, List.mem_singleton] at hy
        rcases hy with hy | rfl
        · exact h16 y hy
        · exact hx16
      have H16 := Lib.hid h16'
      clear hkey hlk hvv hat hs1 hlt hrg hC hM hB hM1 ex ec hyd hfx hne hxt hC1 hrg1 hN hX HM0 hrg0 h16 h16'
      go_wp2_with fail
      refine CN.mono ?_
      rintro e w9 ⟨rfl, rfl⟩
      clear CN hen
      go_wp2_with fail
      go_loopw [19] (fun i wr => ∃ (j m2 : Nat), j ≤ N ∧ i = .int .i64 j ∧ m2 ≤ m + j ∧ Hid (MapF wr w.heap.size m2 (gpart f v ss x j)) ∧ Hid (wr.ranges Try.prog 75 (plainElem Try.prog 2) b r n D (fun z => left z && !z.sameKey (.string x)) cnt1) ∧ Hid (Below w.heap.size w wr)) (fun i _ => N - (intOf i).toNat)
      case atStart => exact ⟨0, m, Nat.zero_le _, rfl, Nat.le_refl _, HP0.out, HRG.out, HB1.out⟩
      case round =>
        obtain ⟨j, m2, hj, rfl, hm2, HM2, HR2, HB2⟩ := hrel
        have hsz2 := HB2.out.size
        by_cases hjl : j < N
        · have CJ := CG j wr hjl
          have HLj := HGL.out j hjl
          have HBj := HPB.out j (Tr.grfF 8 x j v)
          have HSj := HPS.out j hjl
          obtain ⟨Z, hZ⟩ : ∃ Z : ByteArray, Z = ⟨(Tr.grfF 8 x j v).toArray⟩ := ⟨_, rfl⟩
          have HZ := Lib.hid hZ
          rw [← hZ] at CJ
          clear hZ
          go_wp2_with fail
          refine CJ.mono ?_
          rintro e w4 ⟨rfl, bel4⟩
          have hg4 : wr.grownBy w4 none := ⟨bel4.os, bel4.tape, bel4.output, bel4.size, fun i hi _ => bel4.block i hi⟩
          have HM4 := HM2.out.next bel4
          have HR4 := HR2.out.kept hg4 (by simp) (by simp)
          have HB4 : Hid (Below w.heap.size w w4) := HB2.out.trans (bel4.mono hsz2)
          have hs4 : wr.heap.size ≤ w4.heap.size := bel4.size
          have CA := add_any w.heap.size m2 (Tr.grfF 8 x j v) c (gpart f v ss x j) w4 HM4 HLj (by omega) HBj (by omega)
          rw [HSj, ← HZ.out] at CA
          have HR4' := Lib.hid HR4
          clear bel4 hg4 HM4 HR4 HSj HBj HLj CJ HM2 HR2 HB2
          go_wp2_with fail
          refine CA.mono ?_
          rintro e w5 ⟨rfl, hm5, hg5⟩
          have G1 := Lib.hid hm5
          have G2 := Lib.hid (HR4'.out.kept hg5 (by intro e; injection e with e; omega) (by intro e; injection e with e; omega))
          have G3 : Hid (Below w.heap.size w w5) := HB4.out.grown hg5 HB4.out.size (fun k e => by injection e with e; omega)
          clear hm5 hg5 CA HR4' HB4
          go_wp2
          go_roundw
          case rel => exact ⟨j + 1, m2 + 1, by omega, by go_num, by omega, G1, G2, G3⟩
          case measure => simp [intOf]; omega
        · obtain rfl : j = N := by omega
          have G1 : Hid (MapF wr w.heap.size m2 (gsum f v (ss ++ [x]))) := by rw [← HPE.out]; exact HM2.out
          clear HM2
          go_wp2
          go_roundw
          case rel => exact ⟨_, cnt1, m2, ss ++ [x], HR2.out, HC1.out, by simp; omega, H16.out, G1.out, by simp; omega, HB2.out⟩
          case measure => rw [HR2.out.left_eq, hleft]; exact hlc
end Go.Proofs.Ytjmjdcfgbaepkaa
/-
  The model's grafting on lists.
-/
namespace Go.Proofs.Ytjmjdcfgbaepkaa
open Go.RowKit Fld
set_option linter.unusedVariables false
set_option linter.unusedSimpArgs false
set_option maxRecDepth 100000

theorem tw_step (p : Int → Bool) : ∀ (s : List Int) (j : Nat), j ≤ (s.takeWhile p).length → (j < (s.takeWhile p).length ↔ ∃ x, s[j]? = some x ∧ p x = true)
  | [], j, h => by simp
  | a :: s, j, h => by
    rw [List.takeWhile_cons] at h ⊢
    by_cases hp : p a = true
    · rw [if_pos hp] at h ⊢
      cases j with
      | zero => simp [hp]
      | succ j =>
        have ih := tw_step p s j (by simpa using h)
        simpa using ih
    · rw [if_neg hp] at h ⊢
      have h0 : j = 0 := by simpa using h
      subst h0
      simp [hp]
theorem end_step {t : List Int} {k q : Nat} (h1 : k + 1 ≤ q) (hq : q ≤ Tr.endL t k) : q < Tr.endL t k ↔ ∃ x, t[q]? = some x ∧ t.getD k 0 < x := by
  unfold Tr.endL at *
  have h2 := tw_step (fun y => decide (t.getD k 0 < y)) (t.drop (k + 1)) (q - (k + 1)) (by omega)
  rw [List.getElem?_drop, show k + 1 + (q - (k + 1)) = q from by omega] at h2
  simp only [decide_eq_true_eq] at h2
  rw [← h2]; omega
theorem l04End_any (A : Option Addr) (n c B k : Nat) (t : List Int) (w : World) (hl : t.length = n) (hn : n ≤ 1048576) (hk : k < n) (h : Row w B A (ints t)) :
    Calls Try.prog 147 #[.slice A n c, .int .i64 k] w fun e w' => e = .returned (.int .i64 ((Tr.endL t k : Nat) : Int)) ∧ ∃ m, w' = w.drewN m := by
  have HL := Lib.hid hl
  obtain ⟨y, hy⟩ := at_lt (show k < t.length by omega)
  have HY : Hid (t.getD k 0 = y) := by rw [Hid, List.getD_eq_getElem?_getD, hy]; rfl
  obtain ⟨b, o, rfl, hbB, hcy⟩ := h k _ (ints_at hy)
  have hE := Tr.endL_le (t := t) (k := k) (by omega)
  rw [hl] at hE
  obtain ⟨en, hen⟩ : ∃ en, en = Tr.endL t k := ⟨_, rfl⟩
  have HEN := Lib.hid hen
  rw [← hen] at hE ⊢
  clear hl hy hen
  go_enter Try.func147, Try.ntmps147
  go_wp2_with fail
  go_loopw [5] (fun e wr => ∃ (q m : Nat), k + 1 ≤ q ∧ q ≤ en ∧ e = .int .i64 q ∧ wr = w.drewN m) (fun e _ => en - (intOf e).toNat)
  case atStart => exact ⟨k + 1, 0, Nat.le_refl _, hE.1, by go_num, rfl⟩
  case round =>
    obtain ⟨q, m, h1, hq, rfl, rfl⟩ := hrel
    have HS := Lib.hid (end_step (t := t) h1 (by rw [← HEN.out]; exact hq))
    have hk0 : (0 : Int) ≤ (k : Int) := Int.natCast_nonneg _
    have hq0 : (0 : Int) ≤ (q : Int) := Int.natCast_nonneg _
    have hkn : (k : Int) < (n : Int) := by omega
    by_cases hqn : q < n
    · obtain ⟨x, hx⟩ := at_lt (show q < t.length by rw [HL.out]; exact hqn)
      obtain ⟨_, _, e1, _, hcx⟩ := h q _ (ints_at hx)
      cases e1
      have hqi : (q : Int) < (n : Int) := by omega
      have hd : decide ((q : Int) < (n : Int)) = true := decide_eq_true hqi
      by_cases hlt : y < x
      · have hqe : q < en := by
          rw [HEN.out]; refine HS.out.2 ⟨x, hx, ?_⟩
          rw [HY.out]; exact hlt
        have hd2 : decide (y < x) = true := decide_eq_true hlt
        clear hx HS
        go_wp2_with fail
        go_quiet (fail)
        go_wp2
        go_roundw
        case rel => exact ⟨q + 1, _, by omega, by omega, by go_num, rfl⟩
        case measure => simp [intOf]; omega
      · have hqe : q = en := by
          rcases Nat.lt_or_ge q en with g | g
          · rw [HEN.out] at g
            obtain ⟨x', hx', hlt'⟩ := HS.out.1 g
            rw [hx] at hx'; injection hx' with hx'
            rw [HY.out] at hlt'
            omega
          · omega
        have hd2 : decide (y < x) = false := decide_eq_false hlt
        clear hx HS
        subst hqe
        go_wp2_with fail
        go_quiet (fail)
        go_wp2
        go_ret
        exact ⟨rfl, m + nq, World.drewN_drewN ..⟩
    · have hqe : q = en := by omega
      have hqn2 : q = n := by omega
      have hd : decide ((q : Int) < (n : Int)) = false := decide_eq_false (by omega)
      clear HS
      subst hqe
      go_wp2_with fail
      go_quiet (fail)
      go_wp2
      go_ret
      exact ⟨rfl, m + nq, World.drewN_drewN ..⟩
theorem grf_take {u v : List Int} {en j : Nat} {x z : Int} (h : v[j]? = some x) : (u.take en ++ (v.take (j + 1)).map (z + ·)) = (u.take en ++ (v.take j).map (z + ·)) ++ [z + x] := by
  rw [List.take_add_one, h, Option.toList_some, List.map_append, List.append_assoc]; rfl
theorem ints_snoc' (l : List Int) (x : Int) : ints l ++ [.int .i64 x] = ints (l ++ [x]) := by simp [ints, intsK]
theorem ints_app (x y : List Int) : ints (x ++ y) = ints x ++ ints y := by unfold ints intsK; rw [List.map_append]
set_option maxHeartbeats 2000000 in
theorem l04Graft_any (A A' : Option Addr) (n n' c c' B B' k : Nat) (u v : List Int) (w : World) (hl : u.length = n) (hl' : v.length = n') (hn : n ≤ 8) (hn' : n' ≤ 8) (hk : k < n) (hc : n ≤ c) (hu : Tr.isLv u = true) (hv : Tr.isLv v = true) (hlv : Tr.isLv (Tr.gl u k v) = true) (hB : B ≤ w.heap.size) (hB' : B' ≤ w.heap.size) (h : Row w B A (ints u)) (h' : Row w B' A' (ints v)) :
    Calls Try.prog 117 #[.slice A n c, .int .i64 k, .slice A' n' c'] w (NewRow 2 (n + n') (ints (Tr.can (Tr.gl u k v))) w) := by
  obtain ⟨i0, hi, hz0, hz1, hz2⟩ := info_parts info_i64
  have HL := Lib.hid hl
  have HL' := Lib.hid hl'
  obtain ⟨y, hy⟩ := at_lt (show k < u.length by omega)
  have hyb := lv_el hu hy
  have HY : Hid (u.getD k 0 = y) := by rw [Hid, List.getD_eq_getElem?_getD, hy]; rfl
  obtain ⟨b, o, rfl, hbB, hcy⟩ := h k _ (ints_at hy)
  have hE := Tr.endL_le (t := u) (k := k) (by omega)
  rw [hl] at hE
  have C0 := l04End_any (some ⟨b, o, none⟩) n c B k u w hl (by omega) hk h
  obtain ⟨en, hen⟩ : ∃ en, en = Tr.endL u k := ⟨_, rfl⟩
  have HGL : Hid (Tr.gl u k v = u.take en ++ v.map (y + 1 + ·) ++ u.drop en) := by
    rw [Hid]; unfold Tr.gl; rw [← hen, HY.out, List.append_assoc]
  have HGN : Hid ((Tr.gl u k v).length = n + n') := by rw [Hid, Tr.gl_length (by rw [← hen, hl]; rw [← hen] at hE; exact hE.2), hl, hl']
  rw [← hen] at hE C0
  have HV := Lib.hid hv
  have HG := Lib.hid hlv
  have HTK : Hid ((u.take en).length = en) := by rw [Hid, List.length_take, hl]; omega
  have hen8 : en ≤ 8 := by omega
  have henc : (en : Int) ≤ (c : Int) := by omega
  have hen0 : (0 : Int) ≤ (en : Int) := Int.natCast_nonneg _
  clear hl hl' hy hen hu hv hlv
  go_enter Try.func117, Try.ntmps117
  go_wp2_with fail
  refine C0.mono ?_
  rintro e w1 ⟨rfl, m1, rfl⟩
  go_wp2_with fail
  refine (l01Own_any ⟨b, o, none⟩ en c B (u.take en) _ HTK.out (by omega) (by exact hB) (by
    have := Row.takeA (h.drewN m1) en
    unfold ints intsK at *
    rwa [← List.map_take] at this)).mono ?_
  rintro e w2 ⟨A2, c2, rfl, own2, bel2'⟩
  have bel2 : Below w.heap.size w w2 := below_undrew' bel2'
  have own2' : w2.ownsRow w.heap.size 2 1 (.slice A2 en c2) en (ints (u.take en)) := own2
  obtain ⟨g2, cap2, hv2⟩ := own_form own2' (by omega)
  injection hv2 with hA _ hcp
  subst hA hcp
  have F0 : Hid (Growing w 2 g2 (en + 0) c2 (ints (u.take en ++ (v.take 0).map (y + 1 + ·))) w2) := by
    rw [Hid, List.take_zero, List.map_nil, List.append_nil]; exact ⟨own2', bel2⟩
  clear own2 own2' bel2 bel2' C0
  go_wp2_with fail
  go_loopw [8, 9] (fun s i W => ∃ (j g cap : Nat), j ≤ n' ∧ s = .slice (some ⟨g, 0, none⟩) (en + j) cap ∧ i = .int .i64 j ∧ Growing w 2 g (en + j) cap (ints (u.take en ++ (v.take j).map (y + 1 + ·))) W) (fun _ i _ => n' - (intOf i).toNat)
  case atStart => exact ⟨0, g2, c2, Nat.zero_le _, rfl, rfl, F0.out⟩
  case round =>
    obtain ⟨j, g, cap, hj, rfl, rfl, HGr⟩ := hrel
    have hsz := HGr.2.size
    by_cases hlt : j < n'
    · obtain ⟨x, hx⟩ := at_lt (show j < v.length by rw [HL'.out]; exact hlt)
      obtain ⟨b', o', rfl, hb', hcx⟩ := (h'.below HGr.2 hB') j _ (ints_at hx)
      obtain ⟨x0, x8⟩ := lv_el HV.out hx
      have hcy2 : wr.cell? ⟨b, o + k, none⟩ = some (.int .i64 y) := (HGr.2.cell (p := ⟨b, o + k, none⟩) (by show b < w.heap.size; omega)).trans hcy
      have HXS := Lib.hid (grf_take (u := u) (en := en) (z := y + 1) hx)
      have HG' := Lib.hid HGr
      have hown : wr.drew.ownsRow w.heap.size 2 1 (.slice (some ⟨g, 0, none⟩) (en + j) cap) (en + j) (ints (u.take en ++ (v.take j).map (y + 1 + ·))) := ((OwnR.of HGr.1).keep (w' := wr.drew) fun _ _ _ => rfl).1
      have hy0 := hyb.1
      have hy8 := hyb.2
      have hcx' : wr.drew.cell? ⟨b', o' + j, none⟩ = some (.int .i64 x) := hcx
      have hcy' : wr.drew.cell? ⟨b, o + k, none⟩ = some (.int .i64 y) := hcy2
      have hwd : w.heap.size ≤ wr.drew.heap.size := hsz
      have hw1 : IntKind.i64.wrap (y + 1) = y + 1 := IntWalk.i64_in _ (by omega)
      have hw2 : IntKind.i64.wrap (y + 1 + x) = y + 1 + x := IntWalk.i64_in _ (by omega)
      have s0 : (0 : Int) ≤ (k : Int) := Int.natCast_nonneg _
      have s1 : (k : Int) < (n : Int) := by omega
      have s2 : (0 : Int) ≤ (j : Int) := Int.natCast_nonneg _
      have s3 : (j : Int) < (n' : Int) := by omega
      have HG : Hid (∀ (ob : Obj) (W2 : World) (g5 cap5 : Nat), W2.ownsRow w.heap.size 2 1 (.slice (some ⟨g5, 0, none⟩) (en + j + 1) cap5) (en + j + 1) (ints (u.take en ++ (v.take j).map (y + 1 + ·)) ++ [.int .i64 (y + 1 + x)]) → (wr.drew.alloc ob).grownBy W2 (Value.ownBlock (.slice (some ⟨g, 0, none⟩) (en + j) cap)) → Growing w 2 g5 (en + j + 1) cap5 (ints (u.take en ++ (v.take (j + 1)).map (y + 1 + ·))) W2) := fun ob W2 g5 cap5 hown5 hgrow5 => by
        rw [ints_snoc', ← HXS.out] at hown5
        exact HG'.out.step (show Below wr.heap.size wr (wr.drew.alloc ob) from (below_drew' (Below.refl _ _)).alloc (Nat.le_refl _) _) hown5 hgrow5
      clear hx HGr
      go_wp2_with fail
      go_region_law (first | (go_loud (refine step_append_lies _ (by rfl) _ _ 24 (by rfl) w.heap.size 2 i0 _ 1 8 Try.underlying24 hi hz0 hz1 hz2 rfl (by omega) (.slice (some ⟨g, 0, none⟩) (en + j) cap) (en + j) (ints (u.take en ++ (v.take j).map (y + 1 + ·))) rfl (hown.alloc _) ⟨wr.drew.heap.size, 0, none⟩ 1 1 [.int .i64 (y + 1 + x)] rfl rfl (World.news_of_block (cs := #[.int .i64 (y + 1 + x)]) (heap_alloc_new _ _)) (by simp [Value.oneCell']) (by omega) (by simp only [maxLen]; omega) (by omega) (by simp; omega) (wr.drew.heap.size + 1) (by simp) ?_); intro g4 cap4 w4 hown4 hgrow4 hat4 hlt4))
      all_goals
        have G := Lib.hid (HG.out _ _ _ _ hown4 hgrow4)
        clear hown4 hgrow4 hat4 hown
        go_wp2
        go_roundw
        case rel => exact ⟨j + 1, g4, cap4, by omega, rfl, by go_num, G.out⟩
        case measure => simp [intOf]; omega
    · obtain rfl : j = n' := by omega
      rw [show v.take j = v from List.take_of_length_le (by rw [HL'.out]; exact Nat.le_refl _)] at HGr
      have HB1 := Lib.hid HGr.2
      have hown := HGr.1
      have HOWN := Lib.hid hown
      have HROW := Lib.hid (h.below HGr.2 hB)
      have HDL : Hid ((ints (u.drop en)).length = (n - en) * 1) := by rw [Hid, ints_length, List.length_drop, HL.out]; omega
      have HON := Lib.hid (ints_cells (u.drop en))
      have HSUM : Hid (en + j + (n - en) = n + j) := by rw [Hid]; omega
      clear HGr
      have fin : ∀ (A9 : Option Addr) (c9 : Nat) (w9 : World), w9.ownsRow w.heap.size 2 1 (.slice A9 (n + j) c9) (n + j) (ints (Tr.gl u k v)) → Below w.heap.size w w9 → Calls Try.prog 76 #[.slice A9 (n + j) c9] w9 (NewRow 2 (n + j) (ints (Tr.can (Tr.gl u k v))) w) := by
        intro A9 c9 w9 ho hb
        refine (l03Canon_any A9 (n + j) c9 w9.heap.size (Tr.gl u k v) w9 HGN.out HG.out (Nat.le_refl _) (row_of_own ho)).mono ?_
        rintro e w10 ⟨A10, c10, rfl, own10, bel10⟩
        exact ⟨A10, c10, rfl, ((OwnR.of own10).more hb.size (Nat.le_refl _)).1, hb.trans (bel10.mono hb.size)⟩
      have HFIN := Lib.hid fin
      clear fin
      by_cases hec : en = c
      · have hz : n - en = 0 := by omega
        have HDZ : Hid ((ints (u.drop en)).length = 0 * 1) := by rw [Hid, HDL.out, hz]
        have HSZ : Hid (en + j + 0 = n + j) := by rw [Hid]; omega
        have HNW : Hid (∀ q z, (ints (u.drop en))[q]? = some z → wr.cell? ((⟨b, o, none⟩ : Addr).add q) = some z) := fun q z hz' => by
          have := HDL.out
          rw [hz, Nat.zero_mul] at this
          rw [List.length_eq_zero_iff.1 this] at hz'; simp at hz'
        go_wp2_with (at_builtin; go_loud (refine wpList_append_own _ rfl (.tmp 36) (.tmp 39) 24 rfl w.heap.size 2 i0 _ 1 8 Try.underlying24 hi hz0 hz1 hz2 rfl (by omega) (.slice (some ⟨g, 0, none⟩) (en + j) cap) (en + j) (ints (u.take en ++ v.map (y + 1 + ·))) rfl hown ⟨b, o, none⟩ 0 0 (ints (u.drop en)) rfl HDZ.out HNW.out HON.out (by simp only [maxLen]; omega) (by omega) (by omega) ?_); intro v5 w5 own5 hgrow5 _; rw [HSZ.out] at own5; obtain ⟨A5, c5, rfl⟩ := own_shape' own5)
        rw [← ints_app, ← HGL.out] at own5
        have GB : Hid (Below w.heap.size w w5) := HB1.out.grown hgrow5 (by omega) (fun z hz => (HOWN.out.lt z hz).1)
        have GO := Lib.hid own5
        clear own5 hgrow5 hown
        go_wp2_with fail
        refine (HFIN.out A5 c5 w5 GO.out GB.out).mono ?_
        rintro e w6 ⟨A6, c6, rfl, own6, bel6⟩
        have GF : Hid (NewRow 2 (n + j) (ints (Tr.can (Tr.gl u k v))) w (.returned (.slice A6 (n + j) c6)) w6) := ⟨_, _, rfl, own6, bel6⟩
        clear own6 bel6
        go_wp2
        go_ret
        exact GF.out
      · have HNW : Hid (∀ q z, (ints (u.drop en))[q]? = some z → wr.cell? ((⟨b, o + en, none⟩ : Addr).add q) = some z) := by
          have := Row.dropA (k := en) HROW.out
          have h9 := row_news this
          unfold ints intsK at *
          rwa [← List.map_drop] at h9
        go_wp2_with (at_builtin; go_loud (refine wpList_append_own _ rfl (.tmp 36) (.tmp 39) 24 rfl w.heap.size 2 i0 _ 1 8 Try.underlying24 hi hz0 hz1 hz2 rfl (by omega) (.slice (some ⟨g, 0, none⟩) (en + j) cap) (en + j) (ints (u.take en ++ v.map (y + 1 + ·))) rfl hown ⟨b, o + en, none⟩ (n - en) (c - en) (ints (u.drop en)) rfl HDL.out HNW.out HON.out (by simp only [maxLen]; omega) (by omega) (by omega) ?_); intro v5 w5 own5 hgrow5 _; rw [HSUM.out] at own5; obtain ⟨A5, c5, rfl⟩ := own_shape' own5)
        rw [← ints_app, ← HGL.out] at own5
        have GB : Hid (Below w.heap.size w w5) := HB1.out.grown hgrow5 (by omega) (fun z hz => (HOWN.out.lt z hz).1)
        have GO := Lib.hid own5
        clear own5 hgrow5 hown
        go_wp2_with fail
        refine (HFIN.out A5 c5 w5 GO.out GB.out).mono ?_
        rintro e w6 ⟨A6, c6, rfl, own6, bel6⟩
        have GF : Hid (NewRow 2 (n + j) (ints (Tr.can (Tr.gl u k v))) w (.returned (.slice A6 (n + j) c6)) w6) := ⟨_, _, rfl, own6, bel6⟩
        clear own6 bel6
        go_wp2
        go_ret
        exact GF.out
end Go.Proofs.Ytjmjdcfgbaepkaa
/-
  The model's graft sum.
-/
namespace Go.Proofs.Ytjmjdcfgbaepkaa
open Go.RowKit Fld
set_option linter.unusedVariables false
set_option linter.unusedSimpArgs false
set_option maxRecDepth 100000

def gAt (u v : List Int) (k : Nat) : List Int := Tr.can (Tr.gl u k v)
def gsumL (u v : List Int) : Sum := Tr.sumTo (gAt u v) u.length
theorem gAt_lv {u v : List Int} (hu : Tr.isLv u = true) (hv : Tr.isLv v = true) (h8 : u.length + v.length ≤ 8) {k : Nat} (hk : k < u.length) : Tr.isLv (gAt u v k) = true ∧ Tr.can (gAt u v k) = gAt u v k ∧ (gAt u v k).length = u.length + v.length ∧ Tr.txt (gAt u v k) = Tr.txt (Tr.gl u k v) := by
  have h1 := (Tr.graft_perm hu hv h8).2 k hk
  obtain ⟨c1, c2⟩ := lv_can h1
  obtain ⟨c3, c4⟩ := Tr.can_can h1
  exact ⟨c1, c3, by unfold gAt; rw [c2, Tr.gl_length (Tr.endL_le hk).2], c4⟩
theorem gsumTo_bd {u v : List Int} (hu : Tr.isLv u = true) (hv : Tr.isLv v = true) (h8 : u.length + v.length ≤ 8) {k : Nat} (hk : k ≤ u.length) : ∀ e ∈ Tr.sumTo (gAt u v) k, e.1.length ≤ 8 ∧ -1000000 ≤ e.2 ∧ e.2 ≤ 1000000 := fun e he => by
  obtain ⟨j, hj, q⟩ := Tr.sumTo_mem he
  have h1 := Tr.sumTo_le _ _ he
  have h2 := (gAt_lv hu hv h8 (k := j) (by omega)).2.2.1
  rw [← q] at h2
  have := (lv_bd hu).2
  omega
set_option maxHeartbeats 2000000 in
theorem l04Sum_any (A A' : Option Addr) (n n' c c' B B' : Nat) (u v : List Int) (w : World) (hl : u.length = n) (hl' : v.length = n') (hu : Tr.isLv u = true) (hv : Tr.isLv v = true) (h8 : n + n' ≤ 8) (hc : n ≤ c) (hB : B ≤ w.heap.size) (hB' : B' ≤ w.heap.size) (h : Row w B A (ints u)) (h' : Row w B' A' (ints v)) :
    Calls Try.prog 64 #[.slice A n c, .slice A' n' c'] w (NewSum (gsumL u v).length (gsumL u v) w) := by
  have h8' : u.length + v.length ≤ 8 := by omega
  have HBD : Hid (∀ k, k ≤ n → ∀ e ∈ Tr.sumTo (gAt u v) k, e.1.length ≤ 8 ∧ -1000000 ≤ e.2 ∧ e.2 ≤ 1000000) := fun k hk => gsumTo_bd hu hv h8' (by omega)
  have HTL : Hid (∀ k, k < n → (gAt u v k).length = n + n' ∧ Tr.isLv (Tr.gl u k v) = true) := fun k hk => ⟨by rw [(gAt_lv hu hv h8' (k := k) (by omega)).2.2.1, hl, hl'], (Tr.graft_perm hu hv h8').2 k (by omega)⟩
  have HRT : Hid (gsumL u v = Tr.sumTo (gAt u v) n) := by unfold gsumL; rw [hl]; rfl
  have HL := Lib.hid hl
  have HL' := Lib.hid hl'
  have HU := Lib.hid hu
  have HV := Lib.hid hv
  have hn1 : 1 ≤ n + n' := by have := (lv_bd hu).1; omega
  clear hl hl' hu hv h8'
  go_enter Try.func64, Try.ntmps64
  go_wp2_with fail
  go_loopw [5, 6] (fun v' i wr => ∃ (k q cap : Nat) (A2 : Option Addr), k ≤ n ∧ v' = .slice A2 q cap ∧ i = .int .i64 k ∧ Hid ((Tr.sumTo (gAt u v) k).length = q) ∧ Hid (Sms wr A2 (Tr.sumTo (gAt u v) k)) ∧ Hid (Below w.heap.size w wr) ∧ q ≤ cap ∧ cap ≤ maxLen) (fun _ i _ => n - (intOf i).toNat)
  case atStart => exact ⟨0, 0, 0, some ⟨w.heap.size, 0, none⟩, Nat.zero_le _, rfl, rfl, rfl, Sms.nil _ _, (Below.refl _ _).alloc (Nat.le_refl _) _, Nat.le_refl _, Nat.zero_le _⟩
  case round =>
    obtain ⟨k, q, cap, A2, hk, rfl, rfl, HQ, HS, HB, hqc, hcm⟩ := hrel
    have hsz := HB.out.size
    have hq8 : q ≤ 8 := by have := Tr.sumTo_length (gAt u v) k; rw [HQ.out] at this; omega
    by_cases hlt : k < n
    · have CT := l04Graft_any A A' n n' c c' B B' k u v wr HL.out HL'.out (by omega) (by omega) hlt hc HU.out HV.out (HTL.out k hlt).2 (by omega) (by omega) (h.below HB.out hB) (h'.below HB.out hB')
      obtain ⟨T, hT⟩ : ∃ T, T = gAt u v k := ⟨_, rfl⟩
      have HST : Hid (Tr.sumTo (gAt u v) (k + 1) = Tr.putL (Tr.sumTo (gAt u v) k) T 1) := by rw [hT]; rfl
      have HTn : Hid (T.length = n + n') := by rw [hT]; exact (HTL.out k hlt).1
      have hT' : Tr.can (Tr.gl u k v) = T := by rw [hT]; rfl
      rw [hT'] at CT
      clear hT hT'
      go_wp2_with fail
      refine CT.mono ?_
      rintro e w1 ⟨A1, c1, rfl, own1, bel1⟩
      have hs1 : wr.heap.size ≤ w1.heap.size := bel1.size
      have HS1 := HS.out.next bel1
      have HB1 := Lib.hid (HB.out.trans (bel1.mono hsz))
      have C1 := l04Put_any A2 A1 q cap (n + n') c1 _ T 1 w1 HQ.out (by omega) (HBD.out k hk) (by omega) HTn.out (by omega) h8 HS1 (row_of_own own1)
      rw [← HST.out] at C1
      clear bel1 own1 HS1 CT
      go_wp2_with fail
      refine C1.mono ?_
      rintro e w2 ⟨A3, c3, rfl, hc3, hcm3, HS2, bel2⟩
      have HB2 := Lib.hid (HB1.out.trans (bel2.mono HB1.out.size))
      have HS2' := Lib.hid HS2
      obtain ⟨q2, hq2⟩ : ∃ q2, q2 = (Tr.sumTo (gAt u v) (k + 1)).length := ⟨_, rfl⟩
      rw [← hq2] at hc3 ⊢
      have HQ2 := Lib.hid hq2.symm
      clear bel2 HS2 C1 hq2
      go_wp2
      go_roundw
      case rel => exact ⟨k + 1, q2, c3, A3, by omega, rfl, by go_num, HQ2, HS2', HB2, hc3, hcm3⟩
      case measure => simp [intOf]; omega
    · have hkn : k = n := by omega
      have G : Hid (NewSum (gsumL u v).length (gsumL u v) w (.returned (.slice A2 q cap)) wr) := by
        rw [Hid, HRT.out, ← hkn, HQ.out]
        exact ⟨A2, cap, rfl, hqc, hcm, HS.out, HB.out⟩
      clear hkn
      go_wp2
      go_ret
      exact G.out
end Go.Proofs.Ytjmjdcfgbaepkaa
/-
  Grafting at the root, gone through.
-/
namespace Go.Proofs.Ytjmjdcfgbaepkaa.Tr
set_option maxRecDepth 100000

def chkH (u : List Int) : Bool := upTo (8 - u.length) fun v => decide (txt (gl u 0 v) = grfF 8 (txt u) 0 (txt v)) && isLv (gl u 0 v)
theorem chkH_all : allLv.all chkH = true := by decide +kernel
theorem graft_root {u v : List Int} (hu : isLv u = true) (hv : isLv v = true) (h8 : u.length + v.length ≤ 8) : txt (gl u 0 v) = grfF 8 (txt u) 0 (txt v) ∧ isLv (gl u 0 v) = true := by
  have h1 := all_of chkH_all (isLv_iff.1 hu)
  unfold chkH at h1
  have h2 := upTo_of h1 hv (by omega)
  simp only [Bool.and_eq_true, decide_eq_true_eq] at h2
  exact h2
end Go.Proofs.Ytjmjdcfgbaepkaa.Tr
/-
  Grafting at all nodes, gone through.
-/
namespace Go.Proofs.Ytjmjdcfgbaepkaa.Tr
set_option maxRecDepth 100000

def chkI (u : List Int) : Bool := upTo (8 - u.length) fun v => (List.range u.length).all fun k => decide (txt (gl u k v) = grfF 8 (txt u) k (txt v)) && isLv (gl u k v)
def chkI' (u : List Int) : Bool := !decide (can u = u) || chkI u
theorem chkI_all : allLv.all chkI' = true := by decide +kernel
theorem graft_at {u v : List Int} (hu : isLv u = true) (hc : can u = u) (hv : isLv v = true) (h8 : u.length + v.length ≤ 8) {k : Nat} (hk : k < u.length) : txt (gl u k v) = grfF 8 (txt u) k (txt v) ∧ isLv (gl u k v) = true := by
  have h1 := all_of chkI_all (isLv_iff.1 hu)
  unfold chkI' chkI at h1
  rw [decide_eq_true hc] at h1
  have h2 := upTo_of (by simpa using h1) hv (by omega)
  rw [List.all_eq_true] at h2
  have h3 := h2 k (by rw [List.mem_range]; exact hk)
  simp only [Bool.and_eq_true, decide_eq_true_eq] at h3
  exact h3
end Go.Proofs.Ytjmjdcfgbaepkaa.Tr
/-
  What GraftAt and ButcherProduct answer, the program's and the model's.
-/
namespace Go.Proofs.Ytjmjdcfgbaepkaa
open Go.RowKit Fld
set_option linter.unusedVariables false
set_option linter.unusedSimpArgs false
set_option maxRecDepth 100000

def graftAtA (u : List Int) (k : Int) (v : List Int) : List Int × Int :=
  if Tr.isLv u = true ∧ Tr.isLv v = true then (if 0 ≤ k ∧ k < (u.length : Int) then (if u.length + v.length ≤ 8 then (Tr.can (Tr.gl (Tr.can u) k.toNat v), 0) else ([], 3)) else ([], 2)) else ([], 1)
def butcherA (u v : List Int) : List Int × Int := graftAtA u 0 v
theorem graftA_no1 {u v : List Int} {k : Int} (h : Tr.isLv u = false) : graftAtA u k v = ([], 1) := if_neg (by rw [h]; simp)
theorem graftA_no2 {u v : List Int} {k : Int} (h : Tr.isLv v = false) : graftAtA u k v = ([], 1) := if_neg (by rw [h]; simp)
theorem graftA_out {u v : List Int} {k : Int} (h : Tr.isLv u = true) (h' : Tr.isLv v = true) (hk : ¬ (0 ≤ k ∧ k < (u.length : Int))) : graftAtA u k v = ([], 2) := by
  unfold graftAtA; rw [if_pos ⟨h, h'⟩, if_neg hk]
theorem graftA_big {u v : List Int} {k : Int} (h : Tr.isLv u = true) (h' : Tr.isLv v = true) (hk : 0 ≤ k ∧ k < (u.length : Int)) (h8 : ¬ u.length + v.length ≤ 8) : graftAtA u k v = ([], 3) := by
  unfold graftAtA; rw [if_pos ⟨h, h'⟩, if_pos hk, if_neg h8]
theorem graftA_yes {u v : List Int} {k : Nat} (h : Tr.isLv u = true) (h' : Tr.isLv v = true) (hk : k < u.length) (h8 : u.length + v.length ≤ 8) : graftAtA u (k : Int) v = (Tr.can (Tr.gl (Tr.can u) k v), 0) := by
  unfold graftAtA; rw [if_pos ⟨h, h'⟩, if_pos (by omega), if_pos h8]; rfl
/-- all that is known of a graft -/
theorem graft_parts {u v : List Int} {k : Nat} (h : Tr.isLv u = true) (h' : Tr.isLv v = true) (hk : k < u.length) (h8 : u.length + v.length ≤ 8) :
    Tr.txt (Tr.gl (Tr.can u) k v) = Tr.grfF 8 (Tr.txt u) k (Tr.txt v) ∧ Tr.isLv (Tr.gl (Tr.can u) k v) = true ∧ (Tr.gl (Tr.can u) k v).length = u.length + v.length := by
  obtain ⟨c1, c2⟩ := lv_can h
  obtain ⟨c3, c4⟩ := Tr.can_can h
  obtain ⟨g1, g2⟩ := Tr.graft_at c1 c3 h' (by omega) (k := k) (by omega)
  rw [c4] at g1
  exact ⟨g1, g2, by rw [Tr.gl_length (Tr.endL_le (by omega)).2, c2]⟩
theorem butcher_eq {u v : List Int} (h : Tr.isLv u = true) (h' : Tr.isLv v = true) (h8 : u.length + v.length ≤ 8) : Tr.can (Tr.gl u 0 v) = Tr.can (Tr.gl (Tr.can u) 0 v) := by
  have h1 : 0 < u.length := (Tr.isLv_iff.1 h).1
  obtain ⟨g1, g2⟩ := Tr.graft_root h h' h8
  obtain ⟨p1, p2, _⟩ := graft_parts h h' h1 h8
  have e : Tr.txt (Tr.gl u 0 v) = Tr.txt (Tr.gl (Tr.can u) 0 v) := by rw [g1, p1]
  rw [← (lv_txt g2).1, ← (lv_txt p2).1, e]
theorem hasNode_any (A : Option Addr) (n c : Nat) (k : Int) (w : World) (hn : n ≤ 1048576) : Calls Try.prog 119 #[.slice A n c, .int .i64 k] w fun e w' => e = .returned (.bool (decide (0 ≤ k ∧ k < (n : Int)))) ∧ ∃ m, w' = w.drewN m := by
  by_cases h0 : 0 ≤ k
  · by_cases h1 : k < (n : Int)
    · have G : Hid (decide (0 ≤ k ∧ k < (n : Int)) = true) := decide_eq_true ⟨h0, h1⟩
      have d0 : decide (0 ≤ k) = true := decide_eq_true h0
      have d1 : decide (k < (n : Int)) = true := decide_eq_true h1
      go_enter Try.func119, Try.ntmps119
      go_wp2
      go_ret
      exact ⟨by first | rfl | exact ret_bool G.out.symm, 0, rfl⟩
    · have G : Hid (decide (0 ≤ k ∧ k < (n : Int)) = false) := decide_eq_false (fun h => h1 h.2)
      have d0 : decide (0 ≤ k) = true := decide_eq_true h0
      have d1 : decide (k < (n : Int)) = false := decide_eq_false h1
      go_enter Try.func119, Try.ntmps119
      go_wp2
      go_ret
      exact ⟨by first | rfl | exact ret_bool G.out.symm, 0, rfl⟩
  · have G : Hid (decide (0 ≤ k ∧ k < (n : Int)) = false) := decide_eq_false (fun h => h0 h.1)
    have d0 : decide (0 ≤ k) = false := decide_eq_false h0
    go_enter Try.func119, Try.ntmps119
    go_wp2
    go_ret
    exact ⟨by first | rfl | exact ret_bool G.out.symm, 0, rfl⟩
theorem two_lists {A A' : Option Addr} {n n' c c' B B' : Nat} {s t : List Int} {w : World} (hl : s.length = n) (hl' : t.length = n') (hB : B ≤ w.heap.size) (hB' : B' ≤ w.heap.size) (h : Row w B A (ints s)) (h' : Row w B' A' (ints t)) :
    Lsts (w.alloc (.cells #[.slice A n c, .slice A' n' c'] 24)) w.heap.size (some ⟨w.heap.size, 0, none⟩) [s, t] := fun k r hr => by
  have hal : Below w.heap.size w (w.alloc (.cells #[.slice A n c, .slice A' n' c'] 24)) := (Below.refl _ _).alloc (Nat.le_refl _) _
  match k, hr with
  | 0, hr =>
    simp only [List.getElem?_cons_zero, Option.some.injEq] at hr
    subst hr
    exact ⟨_, _, A, c, rfl, by rw [hl, World.cell?_alloc_at (hn := by simp)]; rfl, (Row.below h hal hB).more hB⟩
  | 1, hr =>
    simp only [List.getElem?_cons_succ, List.getElem?_cons_zero, Option.some.injEq] at hr
    subst hr
    exact ⟨_, _, A', c', rfl, by rw [hl', World.cell?_alloc_at (hn := by simp)]; rfl, (Row.below h' hal hB').more hB'⟩
  | k+2, hr => simp at hr
set_option maxHeartbeats 2000000 in
theorem pGraftAt_L (A A' : Option Addr) (n n' c c' B B' : Nat) (s t : List Int) (k : Int) (w : World) (hl : s.length = n) (hl' : t.length = n') (hn : n ≤ 1048576) (hn' : n' ≤ 1048576) (hB : B ≤ w.heap.size) (hB' : B' ≤ w.heap.size) (h : Row w B A (ints s)) (h' : Row w B' A' (ints t)) (hk64 : -9223372036854775808 ≤ k ∧ k ≤ 9223372036854775807) (hc : n ≤ c) (hc' : n' ≤ c') :
    Calls Try.prog 67 #[.slice A n c, .int .i64 k, .slice A' n' c'] w (ResL (graftAtA s k t) w) := by
  have hal : Below w.heap.size w (w.alloc (.cells #[.slice A n c, .slice A' n' c'] 24)) := (Below.refl _ _).alloc (Nat.le_refl _) _
  have C0 := areLevels_any (some ⟨w.heap.size, 0, none⟩) 2 2 w.heap.size [s, t] _ rfl (by omega) (fun r hr => by
    simp only [List.mem_cons, List.not_mem_nil, or_false] at hr
    rcases hr with rfl | rfl <;> omega) (two_lists (c := c) (c' := c') hl hl' hB hB' h h')
  have hb : allLvM [s, t] = (Tr.isLv s && Tr.isLv t) := by simp [allLvM]
  rw [hb] at C0
  have C1 := fun w => hasNode_any A n c k w hn
  by_cases hlv : Tr.isLv s = true ∧ Tr.isLv t = true
  · obtain ⟨h1, h2⟩ := hlv
    rw [h1, h2] at C0
    obtain ⟨a1, a8⟩ := lv_bd h1
    obtain ⟨b1, b8⟩ := lv_bd h2
    have z1 := (lv_txt h1).2.2.2
    have z2 := (lv_txt h2).2.2.2
    rw [hl] at a1 a8
    rw [hl'] at b1 b8
    by_cases hk : 0 ≤ k ∧ k < (n : Int)
    · rw [decide_eq_true hk] at C1
      by_cases h8 : s.length + t.length ≤ 8
      · obtain ⟨kn, rfl⟩ : ∃ kn : Nat, k = (kn : Int) := ⟨k.toNat, by omega⟩
        have G := Lib.hid (graftA_yes h1 h2 (k := kn) (by omega) h8)
        obtain ⟨p1, p2, p3⟩ := graft_parts h1 h2 (k := kn) (by omega) h8
        have HCL : Hid ((Tr.can (Tr.gl (Tr.can s) kn t)).length = n + n') := by rw [Hid, (lv_can p2).2, p3, hl, hl']
        have HGL : Hid ((Tr.gl (Tr.can s) kn t).length = n + n') := by rw [Hid, p3, hl, hl']
        have HPT := Lib.hid p1
        have HLV := Lib.hid p2
        have C2 := fun w => graftAt_any (Tr.txt s) kn (Tr.txt t) w (Tr.tx_txt h1) (by omega) (by omega)
        rw [hl, hl'] at h8
        have HL := Lib.hid hl
        have HL' := Lib.hid hl'
        obtain ⟨hk0, hk1⟩ := hk
        clear hl hl' hb z1 z2 h1 h2 p1 p2 p3
        go_enter Try.func67, Try.ntmps67
        go_wp2_with fail
        refine C0.mono ?_
        rintro e w1 ⟨rfl, d, rfl⟩
        go_wp2_with fail
        refine (C1 _).mono ?_
        rintro e w1 ⟨rfl, d1, rfl⟩
        have B1 : Hid (Below w.heap.size w (((w.alloc (.cells #[.slice A n c, .slice A' n' c'] 24)).drewN d).drewN d1)) := below_drewN (below_drewN hal d) d1
        generalize ((w.alloc (.cells #[.slice A n c, .slice A' n' c'] 24)).drewN d).drewN d1 = W1 at *
        go_wp2_with fail
        refine (treeOf_any A n c B s _ HL.out a1 a8 hc (Nat.le_trans hB B1.out.size) (Row.below h B1.out hB)).mono ?_
        rintro e w2 ⟨rfl, bel2⟩
        have B2 : Hid (Below w.heap.size w w2) := B1.out.trans (bel2.mono B1.out.size)
        clear bel2
        go_wp2_with fail
        refine (treeOf_any A' n' c' B' t _ HL'.out b1 b8 hc' (Nat.le_trans hB' B2.out.size) (Row.below h' B2.out hB')).mono ?_
        rintro e w3 ⟨rfl, bel3⟩
        have B3 : Hid (Below w.heap.size w w3) := B2.out.trans (bel3.mono B2.out.size)
        clear bel3
        go_wp2_with fail
        refine (C2 _).mono ?_
        rintro e w4 ⟨rfl, bel4⟩
        have B4 : Hid (Below w.heap.size w w4) := B3.out.trans (bel4.mono B3.out.size)
        rw [← HPT.out]
        clear bel4 C2
        go_wp2_with fail
        refine (levelsOf_any (Tr.gl (Tr.can s) kn t) _ HLV.out).mono ?_
        rintro e w5 ⟨A5, c5, rfl, own5, bel5⟩
        rw [HGL.out] at own5 ⊢
        have GB : Hid (Below w.heap.size w w5) := B4.out.trans (bel5.mono B4.out.size)
        have GO : Hid (w5.ownsRow w.heap.size 2 1 (.slice A5 (n + n') c5) (n + n') (ints (Tr.can (Tr.gl (Tr.can s) kn t)))) := ((OwnR.of own5).more B4.out.size (Nat.le_refl _)).1
        clear own5 bel5
        go_wp2
        go_ret2
        exact ResL.of G.out HCL.out (by omega) GO.out GB.out
      · have G := Lib.hid (graftA_big h1 h2 (k := k) (by rw [hl]; exact hk) h8)
        rw [hl, hl'] at h8
        have h8' : 8 < (n : Int) + (n' : Int) := by omega
        clear hl hl' hb z1 z2 h1 h2 h8
        go_enter Try.func67, Try.ntmps67
        go_wp2_with fail
        refine C0.mono ?_
        rintro e w1 ⟨rfl, d, rfl⟩
        go_wp2_with fail
        refine (C1 _).mono ?_
        rintro e w1 ⟨rfl, d1, rfl⟩
        go_wp2
        go_ret2
        exact ResL.nil G.out (below_drewN hal _)
    · rw [decide_eq_false hk] at C1
      have G := Lib.hid (graftA_out h1 h2 (k := k) (by rw [hl]; exact hk))
      clear hl hl' hb z1 z2 h1 h2 hk
      go_enter Try.func67, Try.ntmps67
      go_wp2_with fail
      refine C0.mono ?_
      rintro e w1 ⟨rfl, d, rfl⟩
      go_wp2_with fail
      refine (C1 _).mono ?_
      rintro e w1 ⟨rfl, d1, rfl⟩
      go_wp2
      go_ret2
      exact ResL.nil G.out (below_drewN hal _)
  · have G : Hid (graftAtA s k t = ([], 1)) := if_neg hlv
    have e : (Tr.isLv s && Tr.isLv t) = false := by
      cases h1 : Tr.isLv s
      · rfl
      · cases h2 : Tr.isLv t
        · rfl
        · exact absurd ⟨h1, h2⟩ hlv
    rw [e] at C0
    clear hb e hlv hl hl'
    go_enter Try.func67, Try.ntmps67
    go_wp2_with fail
    refine C0.mono ?_
    rintro e w1 ⟨rfl, d, rfl⟩
    go_wp2
    go_ret2
    exact ResL.nil G.out (below_drewN hal d)
theorem pButcherProduct_L (A A' : Option Addr) (n n' c c' B B' : Nat) (s t : List Int) (w : World) (hl : s.length = n) (hl' : t.length = n') (hn : n ≤ 1048576) (hn' : n' ≤ 1048576) (hB : B ≤ w.heap.size) (hB' : B' ≤ w.heap.size) (h : Row w B A (ints s)) (h' : Row w B' A' (ints t)) (hc : n ≤ c) (hc' : n' ≤ c') :
    Calls Try.prog 15 #[.slice A n c, .slice A' n' c'] w (ResL (butcherA s t) w) := by
  have C0 := pGraftAt_L A A' n n' c c' B B' s t 0 w hl hl' hn hn' hB hB' h h' (by omega) hc hc'
  unfold butcherA
  clear h h' hl hl'
  go_enter Try.func15, Try.ntmps15
  go_wp2_with fail
  refine C0.mono ?_
  rintro e w1 ⟨z, A1, c1, rfl, own1, bel1⟩
  have G : Hid (ResL (graftAtA s 0 t) w (.returned (.tuple #[.slice A1 (graftAtA s 0 t).1.length c1, .int .i64 (graftAtA s 0 t).2])) w1) := ⟨z, A1, c1, rfl, own1, bel1⟩
  obtain ⟨r, hr⟩ : ∃ r, r = graftAtA s 0 t := ⟨_, rfl⟩
  have HR := Lib.hid hr
  rw [← hr] at G ⊢
  clear z own1 bel1 hr C0
  go_wp2
  go_ret2
  rw [← HR.out]
  exact G.out
end Go.Proofs.Ytjmjdcfgbaepkaa
/-
  The order of trees by lists and by texts.
-/
namespace Go.Proofs.Ytjmjdcfgbaepkaa
open Go.RowKit Fld
set_option linter.unusedVariables false
set_option linter.unusedSimpArgs false
set_option maxRecDepth 100000

theorem lessL_asym : ∀ x y : List Int, Tr.lessL x y = true → Tr.lessL y x = false
  | [], [], _ => rfl
  | [], _ :: _, _ => rfl
  | _ :: _, [], h => by simp [Tr.lessL] at h
  | a :: x, b :: y, h => by
    rw [Tr.lessL] at h ⊢
    by_cases e : a = b
    · subst e
      rw [if_pos rfl] at h ⊢
      exact lessL_asym x y h
    · rw [if_neg e] at h
      rw [if_neg (fun e' => e e'.symm)]
      simp at h ⊢; omega
theorem beforeL_asym {x y : List Int} (h : Tr.beforeL x y = true) : Tr.beforeL y x = false := by
  unfold Tr.beforeL at h ⊢
  by_cases e : x.length = y.length
  · rw [if_neg (by simpa using e)] at h
    rw [if_neg (by simpa using e.symm)]
    exact lessL_asym _ _ h
  · rw [if_pos e] at h
    rw [if_pos (fun e' => e e'.symm)]
    simp at h ⊢; omega
theorem tr_lv {t : List Int} (h : isTr t = true) : Tr.isLv t = true ∧ Tr.can t = t := by
  unfold isTr at h
  rw [Bool.and_eq_true] at h
  have h2 := h.2
  unfold eqL at h2
  exact ⟨h.1, by simpa using h2⟩
theorem cmp_tr {s t : List Int} (hs : isTr s = true) (ht : isTr t = true) : decide (0 < Tr.cmpT (Tr.txt s) (Tr.txt t)) = Tr.beforeL t s := by
  obtain ⟨s1, s2⟩ := tr_lv hs
  obtain ⟨t1, t2⟩ := tr_lv ht
  rw [Tr.cmp_eq s1 t1, s2, t2]
  unfold Tr.cmpL
  cases h1 : Tr.beforeL s t
  · cases h2 : Tr.beforeL t s <;> simp
  · rw [beforeL_asym h1]; simp
theorem cmpT_swap {a b : List UInt8} (h : ¬ Tr.cmpT a b < 0) : Tr.cmpT b a ≤ 0 := by
  unfold Tr.cmpT at *
  by_cases h1 : a.length / 2 < b.length / 2
  · rw [if_pos h1] at h; omega
  · rw [if_neg h1] at h
    by_cases h2 : b.length / 2 < a.length / 2
    · rw [if_pos h2]; omega
    · rw [if_neg h2] at h
      rw [if_neg h2, if_neg h1]
      by_cases h3 : Tr.ltS a b = true
      · rw [if_pos h3] at h; omega
      · rw [if_neg h3] at h
        by_cases h4 : Tr.ltS b a = true
        · rw [if_pos h4]; omega
        · rw [if_neg h4, if_neg h3]; omega
theorem leT_self (a : List UInt8) : Tr.leT a a = true := by
  unfold Tr.leT
  have : Tr.cmpT a a ≤ 0 := by
    by_cases h : Tr.cmpT a a < 0
    · omega
    · exact cmpT_swap h
  exact decide_eq_true this
theorem leT_txt {s t : List Int} (hs : isTr s = true) (ht : isTr t = true) : Tr.leT (Tr.txt s) (Tr.txt t) = !Tr.beforeL t s := by
  rw [← cmp_tr hs ht]
  unfold Tr.leT
  by_cases h : Tr.cmpT (Tr.txt s) (Tr.txt t) ≤ 0
  · rw [decide_eq_true h, decide_eq_false (by omega)]; rfl
  · rw [decide_eq_false h, decide_eq_true (by omega)]; rfl
theorem isTr_of {t : List Int} (h : Tr.isLv t = true) (hc : Tr.can t = t) : isTr t = true := by
  unfold isTr
  rw [h, hc, eqL_self]; rfl
end Go.Proofs.Ytjmjdcfgbaepkaa
