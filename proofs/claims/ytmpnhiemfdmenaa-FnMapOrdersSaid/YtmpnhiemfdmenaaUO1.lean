/-
  Texts of this seat, joined: what several laws lean on.
-/
import Derived.Test.YtmpnhiemfdmenaaTests
import Derived.RegionTactic
import Derived.ChangeAlike
import Derived.Deep.QuietTactic
import Derived.BigQuiet
import Derived.Laws.BitsAllLaws
import Derived.Laws.BitsLemmas
import Derived.Laws.OwnMore
import Derived.OwnWalk
import Derived.Test.YtmpnhiemfdmenaaGrow
import Derived.Test.YtmpnhiemfdmenaaNest
import Derived.Deep.DeepCutAuto
import Derived.Deep.CutBlock
import Derived.Test.YtmpnhiemfdmenaaLvl
import Derived.Test.YtmpnhiemfdmenaaTreeD
import Derived.Outline
import Derived.Laws.DeepStrings4
import Derived.Test.YtmpnhiemfdmenaaTreeE
import Derived.Laws.Strings2
import Derived.Test.YtmpnhiemfdmenaaBase
import Derived.Test.YtmpnhiemfdmenaaResO
import Derived.Test.YtmpnhiemfdmenaaCan
import Derived.Test.YtmpnhiemfdmenaaRes1
import Derived.Test.YtmpnhiemfdmenaaParts
import Derived.Test.YtmpnhiemfdmenaaTreeC
import Derived.Test.YtmpnhiemfdmenaaMpA
import Derived.Test.YtmpnhiemfdmenaaMpN
import Derived.Test.YtmpnhiemfdmenaaMpSc
import Derived.Test.YtmpnhiemfdmenaaOwn1
import Derived.Test.YtmpnhiemfdmenaaMpP
import Derived.Test.YtmpnhiemfdmenaaSlices
/-
  Sources of numbers in memory, as the laws and the models draw from: each number lies below what was asked for.
-/
namespace Go.Proofs.Ytmpnhiemfdmenaa
open Go.RowKit Fld
set_option linter.unusedVariables false
set_option linter.unusedSimpArgs false
set_option maxRecDepth 100000

theorem Row.drewNd {w : World} {B : Nat} {A : Option Addr} {vs : List Value} (h : Row w B A vs) (n : Nat) : Row (w.drewN n) B A vs := h
theorem below_drewNd {B : Nat} {a w : World} (h : Below B a w) (n : Nat) : Below B a (w.drewN n) := ⟨h.os, h.tape, h.output, h.size, h.block⟩
/-- a source of numbers in memory: three cells -/
def SrcAt (w : World) (T : TypeId) (G : Nat) (A : Option Addr) (n c i : Nat) (h : Int) : Prop := w.heap[G]? = some (.cells #[.slice A n c, .int .i64 i, .int .u64 h] T (0, 0))
section
variable {w w' : World} {T : TypeId} {G n c i : Nat} {A : Option Addr} {h : Int}
theorem SrcAt.c0 (s : SrcAt w T G A n c i h) : w.cell? ⟨G, 0, none⟩ = some (.slice A n c) := by rw [cell_of_row w G 0 _ _ _ s]; rfl
theorem SrcAt.c1 (s : SrcAt w T G A n c i h) : w.cell? ⟨G, 1, none⟩ = some (.int .i64 i) := by rw [cell_of_row w G 1 _ _ _ s]; rfl
theorem SrcAt.c2 (s : SrcAt w T G A n c i h) : w.cell? ⟨G, 2, none⟩ = some (.int .u64 h) := by rw [cell_of_row w G 2 _ _ _ s]; rfl
theorem SrcAt.fr (s : SrcAt w T G A n c i h) (j : Nat) : w.frozen? ⟨G, j, none⟩ = false := frozen_of_row w G j _ _ s
theorem SrcAt.set1 (s : SrcAt w T G A n c i h) (i' : Nat) (v : Int) (hv : v = i') : SrcAt (w.setCell ⟨G, 1, none⟩ (.int .i64 v)) T G A n c i' h := by
  subst hv; exact heap_setCell_same w G 1 _ _ _ s
theorem SrcAt.set2 (s : SrcAt w T G A n c i h) (h' : Int) : SrcAt (w.setCell ⟨G, 2, none⟩ (.int .u64 h')) T G A n c i h' := heap_setCell_same w G 2 _ _ _ s
theorem SrcAt.drewN (s : SrcAt w T G A n c i h) (k : Nat) : SrcAt (w.drewN k) T G A n c i h := s
theorem SrcAt.lt (s : SrcAt w T G A n c i h) : G < w.heap.size := by
  rcases Nat.lt_or_ge G w.heap.size with g | g
  · exact g
  · unfold SrcAt at s; rw [Array.getElem?_eq_none g] at s; cases s
end
theorem mask_bd (z : Int) : 0 ≤ wrap64 (bits BinOp.and IntKind.u64 z 16777215) ∧ wrap64 (bits BinOp.and IntKind.u64 z 16777215) ≤ 16777215 := by
  have e : bits BinOp.and IntKind.u64 z 16777215 = ((BitVec.ofInt 64 z &&& BitVec.ofInt 64 16777215).toNat : Int) % 18446744073709551616 := rfl
  have h2 : (BitVec.ofInt 64 z &&& BitVec.ofInt 64 16777215).toNat ≤ 16777215 := by
    rw [BitVec.toNat_and]
    exact Nat.le_trans Nat.and_le_right (by decide)
  have h3 : bits BinOp.and IntKind.u64 z 16777215 = ((BitVec.ofInt 64 z &&& BitVec.ofInt 64 16777215).toNat : Int) := by rw [e]; omega
  rw [h3]
  unfold wrap64
  omega


def Src (w : World) (T : TypeId) (G B : Nat) (xs : List Int) : Prop :=
  ∃ A c i h, SrcAt w T G A xs.length c i h ∧ i ≤ xs.length ∧ B ≤ G ∧ Row w B A (intsK .u8 xs) ∧ xs.length ≤ 4096 ∧ ∀ x ∈ xs, 0 ≤ x ∧ x ≤ 255
/-- a number below m is drawn, and only the source turns -/
def Rolled (T : TypeId) (G B : Nat) (xs : List Int) (m : Int) (w : World) (e : Ending) (w' : World) : Prop :=
  ∃ r : Int, e = .returned (.int .i64 r) ∧ 0 ≤ r ∧ r < m ∧ Src w' T G B xs ∧ w.grownBy w' (some G)
theorem only_set {w w' : World} {G j : Nat} (h : w.grownBy w' (some G)) (u : Value) : w.grownBy (w'.setCell ⟨G, j, none⟩ u) (some G) :=
  ⟨h.os, h.tape, h.output, by simpa [World.setCell] using h.size, fun k hk hne => (Below.heap_setCell w' ⟨G, j, none⟩ u k (fun e => hne (by rw [e]))).trans (h.block k hk hne)⟩
theorem only_drewN {w w' : World} {G : Nat} (h : w.grownBy w' (some G)) (n : Nat) : w.grownBy (w'.drewN n) (some G) := ⟨h.os, h.tape, h.output, h.size, h.block⟩
theorem only_trans {a b c : World} {G : Nat} (h : a.grownBy b (some G)) (k : b.grownBy c (some G)) : a.grownBy c (some G) :=
  ⟨k.os.trans h.os, k.tape.trans h.tape, k.output.trans h.output, Nat.le_trans h.size k.size, fun i hi hne => (k.block i (Nat.lt_of_lt_of_le hi h.size) hne).trans (h.block i hi hne)⟩
theorem Row.only {w w' : World} {B G : Nat} {A : Option Addr} {vs : List Value} (h : Row w B A vs) (hg : w.grownBy w' (some G)) (hB : B ≤ G) : Row w' B A vs :=
  fun k v hv => by
    obtain ⟨b, o, e, hb, hc⟩ := h k v hv
    exact ⟨b, o, e, hb, hg.cell hc (fun e => by have := Option.some.inj e; simp at this; omega)⟩
theorem below_only {B : Nat} {a w w' : World} {G : Nat} (h : Below B a w) (hg : w.grownBy w' (some G)) (hB : B ≤ w.heap.size) (hG : B ≤ G) : Below B a w' :=
  h.grown hg hB (fun k hk => by cases hk; exact hG)


theorem big_any (A : Option Addr) (n c : Nat) (w : World) (hn : n ≤ 9223372036854775807) : Calls Try.prog 5 #[.slice A n c] w fun e w' => e = .returned (.bool (decide ((4096 : Int) < n))) ∧ w = w' := by
  go_enter Try.func5, Try.ntmps5
  go_wp2
  go_ret
  exact ⟨rfl, rfl⟩
set_option maxHeartbeats 800000 in
theorem l01Next_any (G B : Nat) (xs : List Int) (m : Int) (w : World) (hm : 1 ≤ m) (s : Src w 73 G B xs) :
    Calls Try.prog 24 #[.pointer (some ⟨G, 0, none⟩), .int .i64 m] w (Rolled 73 G B xs m w) := by
  obtain ⟨A, c, i, h, s, hi0, hBG, row, hn, hx⟩ := s
  have HX := Lib.hid hx
  clear hx
  have c2 := s.c2
  have f2 := s.fr 2
  have HS := Lib.hid s
  have HO : Hid (w.grownBy w (some G)) := World.grownBy.refl w (some G)
  clear s
  go_enter Try.func24, Try.ntmps24
  go_wp2_with fail
  generalize IntKind.u64.wrap (IntKind.u64.wrap (h * 6364136223846793005) + 1442695040888963407) = q
  obtain ⟨x0, x1⟩ := mask_bd (q / 8589934592)
  generalize wrap64 (bits BinOp.and IntKind.u64 (q / 8589934592) 16777215) = x at *
  have s2 := HS.out.set2 q
  have HO2 := Lib.hid (only_set (j := 2) HO.out (.int .u64 q))
  have row2 := row.only HO2.out hBG
  clear c2 f2 HS HO row
  generalize w.setCell ⟨G, 2, none⟩ (.int .u64 q) = W1 at *
  have c0 := s2.c0
  have c1 := s2.c1
  have f1 := s2.fr 1
  have HS := Lib.hid s2
  clear s2
  by_cases hi : i < xs.length
  · obtain ⟨y, hy⟩ := at_lt hi
    obtain ⟨b, o, rfl, hb, hc⟩ := row2 i _ (intsK_at hy)
    obtain ⟨y0, y1⟩ := HX.out y (List.mem_of_getElem? hy)
    have hne : b ≠ G := by omega
    clear hy
    go_quiet (fail)
    go_wp2_with fail
    go_quiet (fail)
    go_wp2
    go_ret
    exact ⟨_, rfl, Int.emod_nonneg _ (by omega), Int.emod_lt_of_pos _ (by omega), ⟨_, _, _, _, (HS.out.drewN _).set1 (i + 1) _ (by omega), by omega, hBG, Row.only (row2.drewNd _) (only_set (World.grownBy.refl _ _) _) hBG, hn, HX.out⟩, only_set (only_drewN HO2.out _) _⟩
  · go_quiet (fail)
    go_wp2
    go_ret
    exact ⟨_, rfl, Int.emod_nonneg _ (by omega), Int.emod_lt_of_pos _ (by omega), ⟨_, _, _, _, HS.out.drewN _, by omega, hBG, row2.drewNd _, hn, HX.out⟩, only_drewN HO2.out _⟩

/-- a new source over a list of bytes -/
def NewSrc (T : TypeId) (B : Nat) (xs : List Int) (w : World) (e : Ending) (w' : World) : Prop :=
  ∃ G, e = .returned (.pointer (some ⟨G, 0, none⟩)) ∧ w.heap.size ≤ G ∧ Src w' T G B xs ∧ Below w.heap.size w w'
def Hashing (w : World) (T : TypeId) (A : Option Addr) (n c : Nat) (wr : World) : Prop :=
  ∃ h, SrcAt wr T w.heap.size A n c (0 : Nat) h ∧ Below w.heap.size w wr
theorem Hashing.start (w : World) (T : TypeId) (A : Option Addr) (n c : Nat) (h : Int) : Hashing w T A n c (w.alloc (.cells #[.slice A n c, .int .i64 0, .int .u64 h] T)) :=
  ⟨h, heap_alloc_new w _, (Below.refl _ _).alloc (Nat.le_refl _) _⟩
theorem SrcAt.drew {w : World} {T : TypeId} {G n c i : Nat} {A : Option Addr} {h : Int} (s : SrcAt w T G A n c i h) : SrcAt w.drew T G A n c i h := s
theorem Hashing.step {w wr : World} {T : TypeId} {A : Option Addr} {n c : Nat} {h q : Int} (s : SrcAt wr T w.heap.size A n c (0 : Nat) h) (b : Below w.heap.size w wr) : Hashing w T A n c (wr.setCell ⟨w.heap.size, 2, none⟩ (.int .u64 q)).drew :=
  ⟨q, (s.set2 q).drew, (b.setCell (p := ⟨w.heap.size, 2, none⟩) (Nat.le_refl _) _).drew⟩
theorem Hashing.done {w wr : World} {T : TypeId} {A : Option Addr} {n c B : Nat} {h : Int} {xs : List Int} (s : SrcAt wr T w.heap.size A n c (0 : Nat) h) (b : Below w.heap.size w wr) (hl : xs.length = n) (hn : n ≤ 4096) (hB : B ≤ w.heap.size)
    (hr : Row w B A (intsK .u8 xs)) (hx : ∀ x ∈ xs, 0 ≤ x ∧ x ≤ 255) : NewSrc T B xs w (.returned (.pointer (some ⟨w.heap.size, 0, none⟩))) wr := by
  subst hl
  exact ⟨_, rfl, Nat.le_refl _, ⟨A, c, 0, h, s, by omega, hB, hr.below b hB, hn, hx⟩, b⟩
set_option maxRecDepth 100000 in
set_option maxHeartbeats 800000 in
theorem l01From_any (A : Option Addr) (n c B : Nat) (xs : List Int) (w : World) (hl : xs.length = n) (hn : n ≤ 4096) (hB : B ≤ w.heap.size) (h : Row w B A (intsK .u8 xs)) (hx : ∀ x ∈ xs, 0 ≤ x ∧ x ≤ 255) :
    Calls Try.prog 22 #[.slice A n c] w (NewSrc 73 B xs w) := by
  have HX := Lib.hid hx
  have HL := Lib.hid hl
  clear hx hl
  go_enter Try.func22, Try.ntmps22
  go_wp2_with fail
  go_loopw [4] (fun i wr => ∃ k : Nat, k ≤ n ∧ i = .int .i64 k ∧ Hashing w 73 A n c wr) (fun i _ => n - (intOf i).toNat)
  case atStart => exact ⟨0, Nat.zero_le _, rfl, Hashing.start ..⟩
  case round =>
    obtain ⟨k, hk, rfl, q0, hs, hb⟩ := hrel
    have c2 := hs.c2
    have f2 := hs.fr 2
    have HS := Lib.hid hs
    clear hs
    by_cases hlt : k < n
    · obtain ⟨y, hy⟩ := at_lt (show k < xs.length by rw [HL.out]; exact hlt)
      obtain ⟨b, o, rfl, hbB, hc⟩ := h.below hb hB k _ (intsK_at hy)
      obtain ⟨y0, y1⟩ := HX.out y (List.mem_of_getElem? hy)
      have hne : b ≠ w.heap.size := by omega
      clear hy
      go_wp2_with fail
      go_region
      all_goals
        go_wp2
        go_roundw
        case rel => exact ⟨k + 1, by omega, by go_num, Hashing.step HS.out hb⟩
        case measure => simp [intOf]; omega
    · obtain rfl : k = n := by omega
      have G := Lib.hid (Hashing.done HS.out hb HL.out hn hB h HX.out)
      clear c2 f2 HS
      go_wp2
      go_ret
      exact G.out

/-- a number of the field is drawn, and only the source (and new memory) turns -/
def Drawn (P : Int → Prop) (T : TypeId) (G B : Nat) (xs : List Int) (w : World) (e : Ending) (w' : World) : Prop :=
  ∃ r : Int, e = .returned (.int .i64 r) ∧ P r ∧ Src w' T G B xs ∧ w.grownBy w' (some G)
theorem only_alloc {w w' : World} {G : Nat} (h : w.grownBy w' (some G)) (o : Obj) : w.grownBy (w'.alloc o) (some G) :=
  ⟨h.os, h.tape, h.output, Nat.le_trans h.size (by simp), fun k hk hne => (Below.heap_alloc w' o k (Nat.lt_of_lt_of_le hk h.size)).trans (h.block k hk hne)⟩
theorem Src.lt {w : World} {T : TypeId} {G B : Nat} {xs : List Int} (s : Src w T G B xs) : G < w.heap.size := by
  obtain ⟨_, _, _, _, h, _⟩ := s; exact h.lt
theorem Src.alloc {w : World} {T : TypeId} {G B : Nat} {xs : List Int} (s : Src w T G B xs) (o : Obj) : Src (w.alloc o) T G B xs := by
  obtain ⟨A, c, i, h, h1, h2, h3, h4, h5⟩ := s
  exact ⟨A, c, i, h, (Below.heap_alloc w o G h1.lt).trans h1, h2, h3, h4.alloc (by have := h1.lt; omega) o, h5⟩
theorem Src.below {w w' : World} {T : TypeId} {G B : Nat} {xs : List Int} (s : Src w T G B xs) (hb : Below w.heap.size w w') : Src w' T G B xs := by
  obtain ⟨A, c, i, h, h1, h2, h3, h4, h5⟩ := s
  exact ⟨A, c, i, h, (hb.block G h1.lt).trans h1, h2, h3, h4.below hb (by have := h1.lt; omega), h5⟩
def IsN (r : Int) : Prop := 0 ≤ r ∧ r < 10007
def IsI64 (r : Int) : Prop := -9223372036854775808 ≤ r ∧ r ≤ 9223372036854775807

/-- one of a list is drawn -/
theorem l01Pick_any (G B : Nat) (xs : List Int) (A : Option Addr) (n c C : Nat) (ys : List Int) (w : World) (s : Src w 73 G B xs) (h : Row w C A (ints ys)) (hG : ∀ b o, A = some ⟨b, o, none⟩ → b ≠ G) (hl : ys.length = n) (hn : 1 ≤ n) (hm : n ≤ 1048576) :
    Calls Try.prog 54 #[.pointer (some ⟨G, 0, none⟩), .slice A n c] w (Drawn (· ∈ ys) 73 G B xs w) := by
  have HL := Lib.hid hl
  clear hl
  go_enter Try.func54, Try.ntmps54
  go_wp2_with fail
  refine (l01Next_any G B xs _ _ (by omega) s).mono ?_
  rintro e w1 ⟨r, rfl, r0, r1, s1, o1⟩
  obtain ⟨k, rfl⟩ := Int.eq_ofNat_of_zero_le r0
  obtain ⟨y, hy⟩ := at_lt (show k < ys.length by rw [HL.out]; omega)
  obtain ⟨b, o, rfl, hb, hc⟩ := h k _ (ints_at hy)
  have hne := hG b o rfl
  have hc1 := o1.cell hc (fun e => hne (by have := Option.some.inj e; simpa using this))
  have HY := Lib.hid (List.mem_of_getElem? hy)
  clear hy hc
  go_wp2
  go_ret
  exact ⟨_, rfl, HY.out, s1, o1⟩

theorem mem_small {r : Int} (h : r ∈ ([0, 1, 0, 1, 10006, 2] : List Int)) : IsN r := by
  simp at h; unfold IsN; omega
theorem mem_spoil {r : Int} (h : r ∈ ([-1, 10007, 1099511627776, -4611686018427387904] : List Int)) : IsI64 r := by
  simp at h; unfold IsI64; omega
theorem i64_of_n {r : Int} (h : IsN r) : IsI64 r := by unfold IsN at h; unfold IsI64; omega
set_option maxHeartbeats 400000 in
theorem l01Number_any (G B : Nat) (xs : List Int) (w : World) (s : Src w 73 G B xs) : Calls Try.prog 26 #[.pointer (some ⟨G, 0, none⟩)] w (Drawn IsN 73 G B xs w) := by
  go_enter Try.func26, Try.ntmps26
  go_wp2_with fail
  refine (l01Next_any G B xs _ _ (by omega) s).mono ?_
  rintro e w1 ⟨r, rfl, r0, r1, s1, o1⟩
  by_cases h : r = 0
  · have t := beq_t h
    clear h
    go_wp2_with fail
    refine (l01Next_any G B xs _ _ (by omega) s1).mono ?_
    rintro e w2 ⟨r', rfl, r0', r1', s2, o2⟩
    go_wp2
    go_ret
    exact ⟨_, rfl, ⟨r0', r1'⟩, s2, only_trans o1 o2⟩
  · by_cases h1 : r = 1
    · have t := beq_f h
      have t1 := beq_t h1
      clear h h1
      go_wp2_with fail
      refine (l01Pick_any G B xs _ 6 _ _ [0, 1, 0, 1, 10006, 2] _ (s1.alloc _) (Row.new w1 _ (ints [0, 1, 0, 1, 10006, 2])) (fun b o e => by have := s1.lt; injection e with e; injection e with e1; omega) rfl (by omega) (by omega)).mono ?_
      rintro e w2 ⟨r', rfl, hr, s2, o2⟩
      go_wp2
      go_ret
      exact ⟨_, rfl, mem_small hr, s2, only_trans (only_alloc o1 _) o2⟩
    · have t := beq_f h
      have t1 := beq_f h1
      clear h h1
      go_wp2_with fail
      refine (l01Next_any G B xs _ _ (by omega) s1).mono ?_
      rintro e w2 ⟨r2, rfl, r20, r21, s2, o2⟩
      go_wp2_with fail
      refine (l01Next_any G B xs _ _ (by omega) s2).mono ?_
      rintro e w3 ⟨r3, rfl, r30, r31, s3, o3⟩
      go_wp2_with (go_at_call 55; refine (l01Frac_any _ _ _).mono ?_; rintro e w' ⟨rfl, rfl⟩)
      go_ret
      exact ⟨_, rfl, ⟨by omega, by omega⟩, s3, only_trans (only_trans o1 o2) o3⟩
set_option maxHeartbeats 400000 in
theorem l01Spoil_any (G B : Nat) (xs : List Int) (w : World) (s : Src w 73 G B xs) : Calls Try.prog 53 #[.pointer (some ⟨G, 0, none⟩)] w (Drawn IsI64 73 G B xs w) := by
  go_enter Try.func53, Try.ntmps53
  go_wp2_with fail
  refine (l01Next_any G B xs _ _ (by omega) s).mono ?_
  rintro e w1 ⟨r, rfl, r0, r1, s1, o1⟩
  by_cases h : r = 0
  · have t := beq_t h
    clear h
    go_wp2_with fail
    refine (l01Pick_any G B xs _ 4 _ _ [-1, 10007, 1099511627776, -4611686018427387904] _ (s1.alloc _) (Row.new w1 _ (ints [-1, 10007, 1099511627776, -4611686018427387904])) (fun b o e => by have := s1.lt; injection e with e; injection e with e1; omega) rfl (by omega) (by omega)).mono ?_
    rintro e w2 ⟨r', rfl, hr, s2, o2⟩
    go_wp2
    go_ret
    exact ⟨_, rfl, mem_spoil hr, s2, only_trans (only_alloc o1 _) o2⟩
  · have t := beq_f h
    clear h
    go_wp2_with fail
    refine (l01Number_any G B xs _ s1).mono ?_
    rintro e w2 ⟨r', rfl, hr, s2, o2⟩
    go_wp2
    go_ret
    exact ⟨_, rfl, i64_of_n hr, s2, only_trans o1 o2⟩
/-- two numbers that are drawn out of a code -/
def DrawnTwo (P Q : Int → Prop) (w : World) (e : Ending) (w' : World) : Prop := ∃ a b : Int, e = .returned (.tuple #[.int .i64 a, .int .i64 b]) ∧ P a ∧ Q b ∧ Below w.heap.size w w'
def DrawnOne (P : Int → Prop) (w : World) (e : Ending) (w' : World) : Prop := ∃ a : Int, e = .returned (.int .i64 a) ∧ P a ∧ Below w.heap.size w w'
/-- a code that came in -/
def IsCode (w : World) (A : Option Addr) (n : Nat) (xs : List Int) : Prop := xs.length = n ∧ Row w w.heap.size A (intsK .u8 xs) ∧ ∀ x ∈ xs, 0 ≤ x ∧ x ≤ 255
theorem isCode_of {w : World} {A : Option Addr} {n c : Nat} {xs : List Int} (h : IsRow .u8 w A n c xs) : IsCode w A n xs := by
  obtain ⟨h1, _, _, h4, h5⟩ := h
  exact ⟨h1, h4, fun x hx => by simpa [Lit.wf, IntKind.min, IntKind.max, IntKind.signed, IntKind.bits] using h5 x hx⟩
theorem IsCode.below {w w' : World} {A : Option Addr} {n : Nat} {xs : List Int} (h : IsCode w A n xs) (hb : Below w.heap.size w w') : IsCode w' A n xs :=
  ⟨h.1, (h.2.1.below hb (Nat.le_refl _)).more hb.size, h.2.2⟩
end Go.Proofs.Ytmpnhiemfdmenaa
/-
  Draws of lists: worlds in which a source and rows of the call's own have turned.
-/
namespace Go.Proofs.Ytmpnhiemfdmenaa
open Go.RowKit Fld
set_option linter.unusedVariables false
set_option linter.unusedSimpArgs false
set_option maxRecDepth 100000

/-- a row of the call's own has turned, and the source -/
theorem only_row {w a b : World} {G g : Nat} (h : w.grownBy a (some G)) (k : a.grownBy b (some g)) (hg : w.heap.size ≤ g) : w.grownBy b (some G) :=
  ⟨k.os.trans h.os, k.tape.trans h.tape, k.output.trans h.output, Nat.le_trans h.size k.size, fun i hi hne => (k.block i (Nat.lt_of_lt_of_le hi h.size) (fun e => by have := Option.some.inj e; omega)).trans (h.block i hi hne)⟩
theorem Src.only {w w' : World} {T : TypeId} {G B g : Nat} {xs : List Int} (s : Src w T G B xs) (k : w.grownBy w' (some g)) (hg : g ≠ G) (hB : B ≤ g) : Src w' T G B xs := by
  obtain ⟨A, c, i, h, h1, h2, h3, h4, h5⟩ := s
  exact ⟨A, c, i, h, (k.block G h1.lt (fun e => hg (Option.some.inj e).symm)).trans h1, h2, h3, h4.only k hB, h5⟩
/-- a list that was drawn: its own memory, and only the source has turned -/
def DrawnL (P : List Int → Prop) (T : TypeId) (G B : Nat) (xs : List Int) (w : World) (e : Ending) (w' : World) : Prop :=
  ∃ g c n, ∃ ys : List Int, e = .returned (.slice (some ⟨g, 0, none⟩) n c) ∧ ys.length = n ∧ P ys ∧ w'.ownsRow w.heap.size 2 1 (.slice (some ⟨g, 0, none⟩) n c) n (ints ys) ∧ Src w' T G B xs ∧ w.grownBy w' (some G)
theorem own_past {w w1 : World} {base G g n c : Nat} {vs : List Value} (h : w.ownsRow base 2 1 (.slice (some ⟨g, 0, none⟩) n c) n vs) (hG : G < base) (o : w.grownBy w1 (some G)) : w1.ownsRow base 2 1 (.slice (some ⟨g, 0, none⟩) n c) n vs :=
  h.kept o (.inr (fun e => by have h1 := (h.lt g rfl).1; have h2 : g = G := (by simpa [Value.ownBlock] using e); omega))
theorem own_room {w : World} {base n c : Nat} {A : Option Addr} {vs : List Value} (h : w.ownsRow base 2 1 (.slice A n c) n vs) : n ≤ c := by
  rcases h.2 with ⟨e1, e2⟩ | ⟨g, cap, cur, e1, _, _, e2, _⟩
  · omega
  · injection e1 with e3 e4 e5; omega
theorem row_only {w w' : World} {base G g n c : Nat} {vs : List Value} (h : w.ownsRow base 2 1 (.slice (some ⟨g, 0, none⟩) n c) n vs) (hG : G < base) (o : w.grownBy w' (some G)) : Row w' w'.heap.size (some ⟨g, 0, none⟩) vs := row_of_own (own_past h hG o)
theorem own_pastv {w w1 : World} {base G n k : Nat} {T : TypeId} {v : Value} {vs : List Value} (h : w.ownsRow base T k v n vs) (hG : G < base) (o : w.grownBy w1 (some G)) : w1.ownsRow base T k v n vs := h.kept o (.inr (fun e => by have := (h.lt G e).1; omega))
/-- a list that was drawn, or none -/
def DrawnR (P : List Int → Prop) (T : TypeId) (G B : Nat) (xs : List Int) (w : World) (e : Ending) (w' : World) : Prop :=
  ∃ A c n, ∃ ys : List Int, e = .returned (.slice A n c) ∧ ys.length = n ∧ P ys ∧ w'.ownsRow w.heap.size 2 1 (.slice A n c) n (ints ys) ∧ Src w' T G B xs ∧ w.grownBy w' (some G)
theorem only_below {w a b : World} {G : Nat} (h : w.grownBy a (some G)) (k : Below a.heap.size a b) : w.grownBy b (some G) :=
  ⟨k.os.trans h.os, k.tape.trans h.tape, k.output.trans h.output, Nat.le_trans h.size k.size, fun i hi hne => (k.block i (Nat.lt_of_lt_of_le hi h.size)).trans (h.block i hi hne)⟩
end Go.Proofs.Ytmpnhiemfdmenaa
/-
  Draws of lists of numbers: the model's lists and series, the laws' lists.
-/
namespace Go.Proofs.Ytmpnhiemfdmenaa
open Go.RowKit Fld
set_option linter.unusedVariables false
set_option linter.unusedSimpArgs false
set_option maxRecDepth 100000

theorem nums_snoc {ys : List Int} {r : Int} (h : allNum ys = true) (hr : IsN r) : allNum (ys ++ [r]) = true := by
  rw [allNum_iff] at *
  intro x hx
  rcases List.mem_append.1 hx with h1 | h1
  · exact h x h1
  · obtain rfl : x = r := by simpa using h1
    exact hr
theorem ints_snoc (ys : List Int) (r : Int) : ints ys ++ [.int .i64 r] = ints (ys ++ [r]) := by simp [ints, intsK]
set_option maxHeartbeats 1000000 in
theorem l01List_any (G B : Nat) (xs : List Int) (n : Nat) (w : World) (hn : n ≤ 64) (s : Src w 73 G B xs) :
    Calls Try.prog 78 #[.pointer (some ⟨G, 0, none⟩), .int .i64 n] w (DrawnL (fun ys => ys.length = n ∧ allNum ys = true) 73 G B xs w) := by
  obtain ⟨i0, hi, hz0, hz1, hz2⟩ := info_parts info_i64
  have HG := s.lt
  have HS := Lib.hid s
  clear s
  go_enter Try.func78, Try.ntmps78
  go_wp2_with fail
  go_loopw [1, 5] (fun q v wr => ∃ j g cap : Nat, ∃ ys : List Int, j ≤ n ∧ q = .int .i64 ((n : Int) - j) ∧ v = .slice (some ⟨g, 0, none⟩) j cap ∧ ys.length = j ∧ allNum ys = true ∧ wr.ownsRow w.heap.size 2 1 (.slice (some ⟨g, 0, none⟩) j cap) j (ints ys) ∧ Src wr 73 G B xs ∧ w.grownBy wr (some G)) (fun q _ _ => (intOf q).toNat)
  case atStart => exact ⟨0, _, 0, [], by omega, by simp, rfl, rfl, rfl, (Growing.start w 2).1, HS.out.alloc _, World.grownBy_alloc w _ _⟩
  case round =>
    obtain ⟨j, g, cap, ys, hj, rfl, rfl, hy1, hy2, hown, hs, ho⟩ := hrel
    by_cases hlt : j < n
    · have h0 : (0 : Int) < (n : Int) - j := by omega
      have hg := (hown.lt g rfl).1
      have HY1 := Lib.hid hy1
      have HY2 := Lib.hid hy2
      have HO := Lib.hid hown
      have HGR := Lib.hid ho
      have hsz := ho.size
      clear hown hy1 hy2 HS ho
      go_wp2_with fail
      refine (l01Number_any G B xs _ hs).mono ?_
      rintro e w1 ⟨r, rfl, hr, s1, o1⟩
      have own1 := own_past HO.out HG o1
      have hsz1 := o1.size
      have HR := Lib.hid hr
      have O1 := Lib.hid o1
      clear hr hs o1
      go_wp2_with (at_builtin; refine wpList_append_lies _ rfl (.tmp 11) (.tmp 14) 24 rfl w.heap.size 2 i0 _ 1 8 Try.underlying24 hi hz0 hz1 hz2 rfl (by omega) (.slice (some ⟨g, 0, none⟩) j cap) j (ints ys) rfl (own1.alloc _) ⟨w1.heap.size, 0, none⟩ 1 1 [.int .i64 r] rfl rfl (World.news_of_block (cs := #[.int .i64 r]) (heap_alloc_new _ _)) (by simp [Value.oneCell']) (by omega) (by simp only [maxLen]; omega) (by omega) (by simp; omega) (w1.heap.size + 1) (by simp) ?_; intro g2 cap2 w2 hown2 hgrow2 hat2 hlt2)
      rw [ints_snoc] at hown2
      have s2 := (s1.alloc (.cells #[.int .i64 r] 2)).only (g := g) hgrow2 (by omega) (by obtain ⟨_, _, _, _, _, _, h3, _⟩ := s1; omega)
      have G2 := Lib.hid (only_row (only_alloc (only_trans HGR.out O1.out) _) hgrow2 hg)
      have S2 := Lib.hid s2
      have OW2 := Lib.hid hown2
      clear hown2 hgrow2 hat2 s1 s2 own1
      go_wp2
      go_roundw
      case rel => exact ⟨j + 1, _, _, ys ++ [r], by omega, by go_num, rfl, by simp [HY1.out], nums_snoc HY2.out HR.out, OW2.out, S2.out, G2.out⟩
      case measure => simp [intOf]; omega
    · obtain rfl : j = n := by omega
      have HD : Hid (DrawnL (fun ys => ys.length = j ∧ allNum ys = true) 73 G B xs w (.returned (.slice (some ⟨g, 0, none⟩) j cap)) wr) := ⟨g, cap, j, ys, rfl, hy1, ⟨hy1, hy2⟩, hown, hs, ho⟩
      have h0 : ¬ (0 : Int) < (j : Int) - j := by omega
      clear hown hs ho hy1 hy2 HS
      go_wp2
      go_ret
      exact HD.out
theorem ints_put (L : List Int) (k : Nat) (u : Int) : (ints L).set k (.int .i64 u) = ints (L.set k u) := by unfold ints intsK; rw [List.map_set]
theorem nums_put {L : List Int} {k : Nat} {v : Int} (h : allNum L = true) (h0 : 0 ≤ v) (h1 : v < 10007) : allNum (L.set k v) = true := by
  rw [allNum_iff] at *
  intro x hx
  rcases List.mem_or_eq_of_mem_set hx with h2 | rfl
  · exact h x h2
  · exact ⟨h0, h1⟩
theorem Src.put {w : World} {T : TypeId} {G B g k : Nat} {xs : List Int} {v : Value} (s : Src w T G B xs) (hg : g ≠ G) (hB : B ≤ g) : Src (w.setCell ⟨g, k, none⟩ v) T G B xs :=
  s.only (g := g) ⟨rfl, rfl, rfl, by simp [World.setCell], fun i hi hne => Below.heap_setCell w ⟨g, k, none⟩ v i (fun e => hne (by rw [e]))⟩ hg hB
theorem only_put {w a : World} {G g k : Nat} {v : Value} (h : w.grownBy a (some G)) (hg : w.heap.size ≤ g) : w.grownBy (a.setCell ⟨g, k, none⟩ v) (some G) :=
  only_row (g := g) h ⟨rfl, rfl, rfl, by simp [World.setCell], fun i hi hne => Below.heap_setCell a ⟨g, k, none⟩ v i (fun e => hne (by rw [e]))⟩ hg
theorem Src.base {w : World} {T : TypeId} {G B : Nat} {xs : List Int} (s : Src w T G B xs) : B ≤ G := by
  obtain ⟨_, _, _, _, _, _, h3, _⟩ := s; exact h3
/-- one list, two lists, drawn out of a code -/
def DrawnS (w : World) (e : Ending) (w' : World) : Prop :=
  ∃ A c n, ∃ ys : List Int, e = .returned (.slice A n c) ∧ ys.length = n ∧ n ≤ 64 ∧ Row w' w'.heap.size A (ints ys) ∧ Below w.heap.size w w'
def DrawnSS (w : World) (e : Ending) (w' : World) : Prop :=
  ∃ A c n, ∃ ys : List Int, ∃ A' c' n', ∃ zs : List Int, e = .returned (.tuple #[.slice A n c, .slice A' n' c']) ∧ ys.length = n ∧ n ≤ 64 ∧ Row w' w'.heap.size A (ints ys) ∧ zs.length = n' ∧ n' ≤ 64 ∧ Row w' w'.heap.size A' (ints zs) ∧ Below w.heap.size w w' ∧ n ≤ c
end Go.Proofs.Ytmpnhiemfdmenaa
/-
  A text is split into those of trees.
-/
namespace Go.Proofs.Ytmpnhiemfdmenaa
open Go.RowKit Fld
set_option linter.unusedVariables false
set_option linter.unusedSimpArgs false
set_option maxRecDepth 100000

theorem extract_S (s : List UInt8) (a b : Nat) : (⟨s.toArray⟩ : ByteArray).extract a b = ⟨((s.drop a).take (b - a)).toArray⟩ := by
  apply ByteArray.ext
  simp [ByteArray.data_extract]
theorem tr_open {cur : List UInt8} {o : Nat} {acc : List (List UInt8)} {s : List UInt8} {p : Nat} (h : s[p]? = some 91) : Tr.trF cur o acc (s.drop p) = Tr.trF (cur ++ [91]) (o + 1) acc (s.drop (p + 1)) := by
  have hlt : p < s.length := by
    rcases Nat.lt_or_ge p s.length with g | g
    · exact g
    · rw [List.getElem?_eq_none g] at h; cases h
  rw [List.getElem?_eq_getElem hlt] at h
  injection h with h
  rw [List.drop_eq_getElem_cons hlt, h, Tr.trF, if_pos rfl]
theorem tr_close {cur : List UInt8} {o : Nat} {acc : List (List UInt8)} {s : List UInt8} {p : Nat} (h : s[p]? = some 93) : Tr.trF cur o acc (s.drop p) = if o = 0 then ([], false) else if o = 1 then Tr.trF [] 0 (acc ++ [cur ++ [93]]) (s.drop (p + 1)) else Tr.trF (cur ++ [93]) (o - 1) acc (s.drop (p + 1)) := by
  have hlt : p < s.length := by
    rcases Nat.lt_or_ge p s.length with g | g
    · exact g
    · rw [List.getElem?_eq_none g] at h; cases h
  rw [List.getElem?_eq_getElem hlt] at h
  injection h with h
  rw [List.drop_eq_getElem_cons hlt, h, Tr.trF, if_neg (by decide), if_pos rfl]
theorem tr_other {cur : List UInt8} {o : Nat} {acc : List (List UInt8)} {s : List UInt8} {p : Nat} {c : UInt8} (h : s[p]? = some c) (h1 : c ≠ 91) (h2 : c ≠ 93) : Tr.trF cur o acc (s.drop p) = ([], false) := by
  have hlt : p < s.length := by
    rcases Nat.lt_or_ge p s.length with g | g
    · exact g
    · rw [List.getElem?_eq_none g] at h; cases h
  rw [List.getElem?_eq_getElem hlt] at h
  injection h with h
  rw [List.drop_eq_getElem_cons hlt, h, Tr.trF, if_neg h1, if_neg h2]
theorem cut_step {s : List UInt8} {a p : Nat} {c : UInt8} (h : s[p]? = some c) (ha : a ≤ p) : (s.drop a).take (p + 1 - a) = (s.drop a).take (p - a) ++ [c] := by
  rw [show p + 1 - a = p - a + 1 from by omega, List.take_add_one, List.getElem?_drop, show a + (p - a) = p from by omega, h]; rfl
/-- the texts of trees, and whether there are no others -/
def ResT (r : List (List UInt8) × Bool) (w : World) (e : Ending) (w' : World) : Prop :=
  ∃ A q c, e = .returned (.tuple #[.slice A q c, .bool r.2]) ∧ w'.ownsRow w.heap.size 57 1 (.slice A q c) q (strs r.1) ∧ Below w.heap.size w w'
theorem ResT.none {r : List (List UInt8) × Bool} {w w' : World} (h : r = ([], false)) (hb : Below w.heap.size w w') : ResT r w (.returned (.tuple #[.slice none 0 0, .bool false])) w' := by
  subst h; exact ⟨_, _, _, rfl, World.ownsRow_nil .., hb⟩
set_option maxHeartbeats 2000000 in
theorem treesIn_any (s : List UInt8) (w : World) (hn : s.length ≤ 1048576) :
    Calls Try.prog 100 #[.string ⟨s.toArray⟩] w (ResT (Tr.trF [] 0 [] s) w) := by
  obtain ⟨i0, hi, hz0, hz1, hz2⟩ := info_parts info_tree
  have HN := Lib.hid hn
  obtain ⟨S, hS⟩ : ∃ S : ByteArray, S = ⟨s.toArray⟩ := ⟨_, rfl⟩
  have HSZ : Hid (S.size = s.length) := by rw [Hid, hS]; exact size_S s
  have HS := Lib.hid hS
  rw [← hS]
  have hs20 : S.size ≤ 1048576 := by rw [HSZ.out]; exact hn
  clear hS hn
  go_enter Try.func100, Try.ntmps100
  go_wp2_with fail
  go_loopw [4, 5, 6] (fun v a o wr => ∃ (p st op q cv : Nat) (Av : Option Addr) (acc : List (List UInt8)), p ≤ S.size ∧ st ≤ p ∧ op ≤ p ∧ q ≤ p ∧ v = .slice Av q cv ∧ a = .int .i64 st ∧ o = .int .i64 op ∧ wr.heap[w.heap.size]? = some (.stringIter S p) ∧ Hid (Tr.trF [] 0 [] s = Tr.trF ((s.drop st).take (p - st)) op acc (s.drop p)) ∧ Hid (wr.ownsRow w.heap.size 57 1 (.slice Av q cv) q (strs acc)) ∧ Below w.heap.size w wr) (fun _ _ _ wr => S.size - wr.iterPos w.heap.size)
  case atStart => exact ⟨0, 0, 0, 0, 0, none, [], Nat.zero_le _, Nat.le_refl _, Nat.le_refl _, Nat.le_refl _, rfl, rfl, rfl, World.iter_heap w S 0, by simp [Hid], World.ownsRow_nil .., (Below.refl _ _).alloc (Nat.le_refl _) _⟩
  case round =>
    obtain ⟨p, st, op, q, cv, Av, acc, hp, hst, hop, hq, rfl, rfl, rfl, hit, HE, HO, HBw⟩ := hrel
    have hlt := (Array.getElem?_eq_some_iff.1 hit).1
    by_cases hps : p < S.size
    · obtain ⟨c, hc⟩ := at_lt (show p < s.length by rw [← HSZ.out]; exact hps)
      have hbyte : S[p]'hps = c := by
        have hS := HS.out
        subst hS
        exact byte_at hc hps
      have HIT := Lib.hid hit
      by_cases hasc : c.toNat < 128
      · have hnx : ∀ ty, (Instr.next (.pointer (some ⟨w.heap.size, 0, none⟩)) true ty).run Try.prog wr = _ := fun ty => Lib.run_next_ascii_at wr w.heap.size S p ty hit hps (by rw [hbyte]; exact hasc)
        rw [hbyte] at hnx
        have hit2 := Lib.iterAt_heap wr w.heap.size S p (p + 1) hit
        have HO2 := Lib.hid (own_iterAt (p' := p + 1) HO.out hit)
        have HB2 := Lib.hid (Lib.below_iterAt HBw (k := w.heap.size) (Nat.le_refl _) S (p + 1))
        have hsz2 : (wr.iterAt w.heap.size S (p + 1)).heap.size = wr.heap.size := Lib.iterAt_size ..
        have hW1 : w.heap.size < (wr.iterAt w.heap.size S (p + 1)).heap.size := by rw [hsz2]; exact hlt
        by_cases h91 : c = 91
        · subst h91
          have e91 : ((91 : UInt8).toNat : Int) = 91 := rfl
          rw [e91] at hnx
          have HE2 : Hid (Tr.trF [] 0 [] s = Tr.trF ((s.drop st).take (p + 1 - st)) (op + 1) acc (s.drop (p + 1))) := by rw [Hid, HE.out, tr_open hc, cut_step hc hst]
          generalize hW : wr.iterAt w.heap.size S (p + 1) = W at *
          have HH2 := Lib.hid hit2
          have t0 : ((op : Int) + 1 == 0) = false := beq_f (by omega)
          clear hc hbyte hasc HE HBw HO hit hW hit2 hsz2
          go_wp2
          go_roundw
          case rel => exact ⟨p + 1, st, op + 1, q, cv, Av, acc, by omega, by omega, by omega, by omega, rfl, rfl, by go_num, HH2.out, HE2, HO2, HB2.out⟩
          case measure =>
            simp only [World.iterPos, HH2.out, HIT.out]
            omega
        · by_cases h93 : c = 93
          · subst h93
            have e93 : ((93 : UInt8).toNat : Int) = 93 := rfl
            rw [e93] at hnx
            have HTC := Lib.hid (HE.out.trans (tr_close hc))
            have HCUT : Hid ((s.drop st).take (p + 1 - st) = (s.drop st).take (p - st) ++ [93]) := cut_step hc hst
            generalize hW : wr.iterAt w.heap.size S (p + 1) = W at *
            have HH2 := Lib.hid hit2
            clear hc hbyte hasc HE HBw HO hit hW hit2 hsz2
            rcases (show op = 0 ∨ op = 1 ∨ 2 ≤ op by omega) with rfl | rfl | h2
            · have G : Hid (Tr.trF [] 0 [] s = ([], false)) := by rw [Hid, HTC.out, if_pos rfl]
              clear HTC
              go_wp2
              go_ret2
              exact ResT.none G.out HB2.out
            · have HE2 : Hid (Tr.trF [] 0 [] s = Tr.trF ((s.drop (p + 1)).take (p + 1 - (p + 1))) 0 (acc ++ [(s.drop st).take (p + 1 - st)]) (s.drop (p + 1))) := by
                rw [Hid, HTC.out, if_neg (by decide), if_pos rfl, Nat.sub_self, List.take_zero, HCUT.out]
              have HX : Hid (S.extract st (p + 1) = ⟨((s.drop st).take (p + 1 - st)).toArray⟩) := by rw [Hid, HS.out]; exact extract_S s st (p + 1)
              obtain ⟨X, hX⟩ : ∃ X, X = S.extract st (p + 1) := ⟨_, rfl⟩
              have HXX : Hid (S.extract st (p + 1) = X) := hX.symm
              have hown2 := HO2.out
              have hp1 : p + 1 ≤ S.size := hps
              clear HTC
              have hsl : ∀ W, (Instr.slice 9 (.string S) (some (.int .i64 (st : Int))) (some (.int .i64 ((p : Int) + 1))) none).run Try.prog W = .ok (.string X) W := fun W => by
                rw [run_slice_string W 9 S .i64 .i64 st ((p : Int) + 1) Try.underlying9 (by omega) (by omega) (by omega)]
                rw [← HXX.out]
                congr 3
              clear hX
              go_wp2_with (at_builtin; (refine wpList_append_lies _ rfl (.tmp 28) (.tmp 34) 55 rfl w.heap.size 57 i0 _ 1 16 Try.underlying55 hi hz0 hz1 hz2 rfl (by omega) (.slice Av q cv) q (strs acc) rfl (hown2.alloc _) ⟨W.heap.size, 0, none⟩ 1 1 [.string X] rfl rfl (World.news_of_block (cs := #[.string X]) (heap_alloc_new _ _)) (by simp [Value.oneCell']) (by omega) (by simp only [maxLen]; omega) (by omega) (by simp; omega) (W.heap.size + 1) (by simp) ?_); intro g2 cap2 w3 hown3 hgrow3 hat3 hlt3)
              have e1 : strs acc ++ [Value.string X] = strs (acc ++ [(s.drop st).take (p + 1 - st)]) := by rw [← HXX.out, HX.out]; simp [strs]
              rw [e1] at hown3
              have GI : Hid (w3.heap[w.heap.size]? = some (.stringIter S (p + 1))) := by
                rw [Hid, hgrow3.block _ (by simp; omega) (own_ne_iter HO2.out HH2.out), Lib.alloc_old _ _ _ hW1]
                exact HH2.out
              have G3 := Lib.hid hown3
              have GB3 : Hid (Below w.heap.size w w3) := (HB2.out.alloc (by omega) _).grown hgrow3 (by simp; omega) (fun z hz => (HO2.out.lt z hz).1)
              clear hown3 hgrow3 hat3 hown2 e1 hsl
              go_wp2
              go_roundw
              case rel => exact ⟨p + 1, p + 1, 0, q + 1, cap2, _, _, by omega, by omega, by omega, by omega, rfl, by go_num, rfl, GI.out, HE2, G3, GB3.out⟩
              case measure =>
                simp only [World.iterPos, GI.out, HIT.out]
                omega
            · have HE2 : Hid (Tr.trF [] 0 [] s = Tr.trF ((s.drop st).take (p + 1 - st)) (op - 1) acc (s.drop (p + 1))) := by
                rw [Hid, HTC.out, if_neg (by omega), if_neg (by omega), HCUT.out]
              have t0 : ((op : Int) - 1 == 0) = false := beq_f (by omega)
              clear HTC
              go_wp2
              go_roundw
              case rel => exact ⟨p + 1, st, op - 1, q, cv, Av, acc, by omega, by omega, by omega, by omega, rfl, rfl, by go_num, HH2.out, HE2, HO2, HB2.out⟩
              case measure =>
                simp only [World.iterPos, HH2.out, HIT.out]
                omega
          · have G : Hid (Tr.trF [] 0 [] s = ([], false)) := by rw [Hid, HE.out]; exact tr_other hc h91 h93
            have t1 : ((c.toNat : Int) == 91) = false := beq_f (fun e => h91 (UInt8.toNat_inj.1 (by simp; omega)))
            have t2 : ((c.toNat : Int) == 93) = false := beq_f (fun e => h93 (UInt8.toNat_inj.1 (by simp; omega)))
            generalize hW : wr.iterAt w.heap.size S (p + 1) = W at *
            clear hc hbyte hasc HE HBw HO hit hW hit2 hsz2 h91 h93
            go_wp2
            go_ret2
            exact ResT.none G.out HB2.out
      · have hd := decode_high S p hps (by rw [hbyte]; omega)
        have hnx : ∀ ty, (Instr.next (.pointer (some ⟨w.heap.size, 0, none⟩)) true ty).run Try.prog wr = _ := fun ty => Lib.run_next_any_at wr w.heap.size S p ty hit hps
        have h91 : c ≠ 91 := fun e => by subst e; exact hasc (by decide)
        have h93 : c ≠ 93 := fun e => by subst e; exact hasc (by decide)
        have G : Hid (Tr.trF [] 0 [] s = ([], false)) := by rw [Hid, HE.out]; exact tr_other hc h91 h93
        have HB2 := Lib.hid (Lib.below_iterAt HBw (k := w.heap.size) (Nat.le_refl _) S (p + (Utf8.decode S p).2))
        generalize hW : wr.iterAt w.heap.size S (p + (Utf8.decode S p).2) = W at *
        obtain ⟨rn, hrn⟩ : ∃ rn, rn = (Utf8.decode S p).1 := ⟨_, rfl⟩
        rw [← hrn] at hnx hd
        have t1 : ((rn : Int) == 91) = false := beq_f (by have := hd.1; omega)
        have t2 : ((rn : Int) == 93) = false := beq_f (by have := hd.1; omega)
        clear hc hbyte hasc HE HBw HO hit hW h91 h93 hrn hd
        go_wp2
        go_ret2
        exact ResT.none G.out HB2.out
    · have hnx : ∀ ty, (Instr.next (.pointer (some ⟨w.heap.size, 0, none⟩)) true ty).run Try.prog wr = _ := fun ty => Lib.run_next_end_at wr w.heap.size S p ty hit hps
      have e : Tr.trF [] 0 [] s = (acc, op == 0) := by
        have hl : s.length ≤ p := by have := HSZ.out; unfold Hid at this; omega
        have := HE.out
        rw [List.drop_of_length_le hl] at this
        rw [this]
        simp [Tr.trF]
      have G : Hid (ResT (Tr.trF [] 0 [] s) w (.returned (.tuple #[.slice Av q cv, .bool (op == 0)])) wr) := by
        rw [Hid, e]; exact ⟨Av, q, cv, rfl, HO.out, HBw⟩
      by_cases h0 : op = 0
      · subst h0
        clear HBw HE e hit
        go_wp2
        go_ret2
        exact G.out
      · have t0 : ((op : Int) == 0) = false := beq_f (by omega)
        have t1 : (op == 0) = false := by simp [h0]
        rw [t1] at G
        clear HBw HE e hit h0 t1
        go_wp2
        go_ret2
        exact G.out
end Go.Proofs.Ytmpnhiemfdmenaa
/-
  The branches of a tree by its text.
-/
namespace Go.Proofs.Ytmpnhiemfdmenaa
open Go.RowKit Fld
set_option linter.unusedVariables false
set_option linter.unusedSimpArgs false
set_option maxRecDepth 100000

/-- texts of the call's own -/
def ResTs (l : List (List UInt8)) (w : World) (e : Ending) (w' : World) : Prop :=
  ∃ A q c, e = .returned (.slice A q c) ∧ q = l.length ∧ w'.ownsRow w.heap.size 57 1 (.slice A q c) q (strs l) ∧ Below w.heap.size w w'
theorem branches_any (x : List UInt8) (w : World) (hx : Tr.isTx x = true) :
    Calls Try.prog 85 #[.string ⟨x.toArray⟩] w (ResTs (Tr.brT x) w) := by
  obtain ⟨⟨h2, h16⟩, _, _⟩ := Tr.br_parts hx
  obtain ⟨S, hS⟩ : ∃ S : ByteArray, S = ⟨x.toArray⟩ := ⟨_, rfl⟩
  have hsz : S.size = x.length := by rw [hS]; exact size_S x
  have HX : Hid (S.extract 1 (x.length - 1) = ⟨(Tr.inner x).toArray⟩) := by
    rw [Hid, hS, extract_S]; unfold Tr.inner; rw [show x.length - 1 - 1 = x.length - 2 from by omega]
  obtain ⟨X, hX⟩ : ∃ X, X = S.extract 1 (x.length - 1) := ⟨_, rfl⟩
  have hXX : X = ⟨(Tr.inner x).toArray⟩ := by rw [hX]; exact HX.out
  have HXX : Hid (S.extract 1 (x.length - 1) = X) := hX.symm
  have hil : (Tr.inner x).length ≤ 1048576 := by unfold Tr.inner; rw [List.length_take]; omega
  have C0 := treesIn_any (Tr.inner x) w hil
  rw [← hXX] at C0
  have hsl : ∀ W, (Instr.slice 57 (.string S) (some (.int .i64 1)) (some (.int .i64 ((S.size : Int) - 1))) none).run Try.prog W = .ok (.string X) W := fun W => by
    have h9 := run_slice_string W 57 S .i64 .i64 1 ((S.size : Int) - 1) Try.underlying57 (by omega) (by omega) (by omega)
    rw [show (S.size : Int) - 1 = ((x.length - 1 : Nat) : Int) from by omega] at h9 ⊢
    rw [h9, ← HXX.out]
    congr 3
  rw [← hS]
  have hs2 : 2 ≤ S.size := by omega
  have hs16 : S.size ≤ 16 := by omega
  clear hX hXX hS hsz h2 h16 hil hx
  go_enter Try.func85, Try.ntmps85
  go_wp2_with fail
  refine C0.mono ?_
  rintro e w1 ⟨A, q, c, rfl, own1, bel1⟩
  have G : Hid (ResTs (Tr.brT x) w (.returned (.slice A q c)) w1) := by
    refine ⟨A, q, c, rfl, ?_, own1, bel1⟩
    have := own_len own1
    rw [strs_length] at this
    exact this.symm
  clear own1 bel1
  go_wp2
  go_ret
  exact G.out
end Go.Proofs.Ytmpnhiemfdmenaa
/-
  A number that a call hands back.
-/
namespace Go.Proofs.Ytmpnhiemfdmenaa
open Go.RowKit
/-- one number, with memory made -/
def Res1 (r : Int) (w : World) (e : Ending) (w' : World) : Prop := e = .returned (.int .i64 r) ∧ Below w.heap.size w w'
theorem Res1.of {r x : Int} {w w' : World} (h : r = x) (hb : Below w.heap.size w w') : Res1 r w (.returned (.int .i64 x)) w' := by subst h; exact ⟨rfl, hb⟩
end Go.Proofs.Ytmpnhiemfdmenaa
/-
  Densities.
-/
namespace Go.Proofs.Ytmpnhiemfdmenaa
open Go.RowKit Fld
set_option linter.unusedVariables false
set_option linter.unusedSimpArgs false
set_option maxRecDepth 100000

def PDen (d : Nat) : Prop := ∀ (x : List UInt8) (w : World), x.length ≤ d → Tr.isTx x = true → Calls Try.prog 63 #[.string ⟨x.toArray⟩] w (Res1 (Tr.den x) w)
theorem pDen_succ (d : Nat) (IH : PDen d) : PDen (d + 1) := by
  intro x w hxd hx
  obtain ⟨⟨h2, h16⟩, HB, h7⟩ := Tr.br_parts hx
  obtain ⟨hD, hK⟩ := Tr.den_parts hx
  have C1 := fun w => branches_any x w hx
  have C0 := nodes_any x w (by omega)
  have HD := Lib.hid hD
  have HK := Lib.hid hK
  have HBR := Lib.hid HB
  obtain ⟨P, hP⟩ : ∃ P, P = (Tr.brT x).length := ⟨_, rfl⟩
  have HP : Hid ((Tr.brT x).length = P) := hP.symm
  have hP7 : P ≤ 7 := by rw [hP]; exact h7
  have HXD := Lib.hid hxd
  obtain ⟨S, hS⟩ : ∃ S : ByteArray, S = ⟨x.toArray⟩ := ⟨_, rfl⟩
  rw [← hS] at C0 C1 ⊢
  clear hD hK HB h7 hP hxd hx hS
  go_enter Try.func63, Try.ntmps63
  go_wp2_with fail
  refine C0.mono ?_
  rintro e w0 ⟨rfl, rfl⟩
  have hw0 : IntKind.i64.wrap ((x.length / 2 : Nat) : Int) = ((x.length / 2 : Nat) : Int) := IntWalk.i64_in _ (by omega)
  go_wp2_with fail
  refine (C1 _).mono ?_
  rintro e w1 ⟨A, q, c, rfl, hq, own1, bel1⟩
  have hqP : q = P := by rw [hq]; exact HP.out
  subst hqP
  have hs1 := bel1.size
  have HROW : Hid (Row w1 w1.heap.size A (strs (Tr.brT x))) := row_of_own own1
  have HB1 := Lib.hid bel1
  clear hq own1 bel1 C0 C1
  go_wp2_with fail
  go_loopw [3, 11] (fun v i wr => ∃ k : Nat, k ≤ q ∧ v = .int .i64 (Tr.mulK Tr.den ((x.length / 2 : Nat) : Int) (Tr.brT x) k) ∧ i = .int .i64 k ∧ Below w1.heap.size w1 wr) (fun _ i _ => q - (intOf i).toNat)
  case atStart => exact ⟨0, Nat.zero_le _, by simp [Tr.mulK_zero], rfl, Below.refl _ _⟩
  case round =>
    obtain ⟨k, hk, rfl, rfl, HBw⟩ := hrel
    have hsz := HBw.size
    by_cases hlt : k < q
    · obtain ⟨y, hy⟩ := at_lt (show k < (Tr.brT x).length by rw [HP.out]; exact hlt)
      obtain ⟨hyt, hyl⟩ := HBR.out y (List.mem_of_getElem? hy)
      obtain ⟨b, o, rfl, _, hc⟩ := (HROW.out.below HBw (Nat.le_refl _)) k _ (strs_at hy)
      have C2 := fun w => IH y w (by have := HXD.out; omega) hyt
      have hk1 := HK.out k (by rw [HP.out]; omega)
      have hk2 := HK.out (k + 1) (by rw [HP.out]; omega)
      have hstep := Tr.mulK_step (f := Tr.den) (a := ((x.length / 2 : Nat) : Int)) hy
      obtain ⟨a, ha⟩ : ∃ a, a = Tr.mulK Tr.den ((x.length / 2 : Nat) : Int) (Tr.brT x) k := ⟨_, rfl⟩
      rw [hstep] at hk2
      rw [← ha] at hk1 hk2 ⊢
      have HST : Hid (Tr.mulK Tr.den ((x.length / 2 : Nat) : Int) (Tr.brT x) (k + 1) = a * Tr.den y) := by rw [ha]; exact hstep
      obtain ⟨z, hz⟩ : ∃ z, z = Tr.den y := ⟨_, rfl⟩
      rw [← hz] at hk2 HST C2
      obtain ⟨Y, hY⟩ : ∃ Y : ByteArray, Y = ⟨y.toArray⟩ := ⟨_, rfl⟩
      rw [← hY] at C2 hc
      have hmw : IntKind.i64.wrap (a * z) = a * z := IntWalk.i64_in _ (by omega)
      have HBW := Lib.hid HBw
      clear hy hyt hyl hstep ha hz hY HBw hk1
      go_wp2_with fail
      refine (C2 _).mono ?_
      rintro e w2 ⟨rfl, bel2⟩
      have HB2 : Hid (Below w1.heap.size w1 w2) := HBW.out.trans (bel2.mono hsz)
      clear bel2 hk2
      go_wp2
      go_roundw
      case rel => exact ⟨k + 1, by omega, by rw [HST.out], by go_num, HB2.out⟩
      case measure => simp [intOf]; omega
    · obtain rfl : k = q := by omega
      have G : Hid (Res1 (Tr.den x) w (.returned (.int .i64 (Tr.mulK Tr.den ((x.length / 2 : Nat) : Int) (Tr.brT x) k))) wr) :=
        Res1.of (by rw [HD.out, HP.out]) (HB1.out.trans (HBw.mono hs1))
      clear HBw
      go_wp2
      go_ret
      exact G.out
theorem density_any (x : List UInt8) (w : World) (hx : Tr.isTx x = true) : Calls Try.prog 63 #[.string ⟨x.toArray⟩] w (Res1 (Tr.den x) w) := by
  have key : ∀ d, PDen d := fun d => by
    induction d with
    | zero => intro y w hy ht; have := (Tr.br_parts ht).1.1; omega
    | succ d ih => exact pDen_succ d ih
  exact key x.length x w (Nat.le_refl _) hx
def densityA (t : List Int) : Int × Int := if Tr.isLv t = true then (Tr.denM t, 0) else (0, 1)
theorem densityA_yes {t : List Int} (h : Tr.isLv t = true) : densityA t = (Tr.denM t, 0) := if_pos h
theorem densityA_no {t : List Int} (h : Tr.isLv t = false) : densityA t = (0, 1) := if_neg (by rw [h]; simp)
def SDen (d : Nat) : Prop := ∀ (A : Option Addr) (n c B : Nat) (t : List Int) (w : World), t.length = n → n ≤ d → Tr.isLv t = true → B ≤ w.heap.size → Row w B A (ints t) → Calls Try.prog 61 #[.slice A n c] w (Res1 (Tr.denM t) w)
theorem sDen_succ (d : Nat) (IH : SDen d) : SDen (d + 1) := by
  intro A n c B t w hl hnd hlv hB h
  have n8 : n ≤ 8 := by have := (Tr.isLv_iff.1 hlv).2.1; omega
  obtain ⟨_, PS, P7⟩ := Tr.can_parts hlv
  obtain ⟨⟨hD, hK⟩, _⟩ := Tr.denM_parts hlv
  rw [hl] at hD hK
  have HD := Lib.hid hD
  have HK := Lib.hid hK
  have HPS := Lib.hid PS
  have HL := Lib.hid hl
  obtain ⟨P, hP⟩ : ∃ P, P = (Tr.partsL t).length := ⟨_, rfl⟩
  have HP : Hid ((Tr.partsL t).length = P) := hP.symm
  have C0 := l03Parts_any A n c B t w hl hlv hB h
  rw [HP.out] at C0
  have hP7 : P ≤ 7 := by rw [hP]; exact P7
  clear hl hlv PS P7 hP hD hK
  go_enter Try.func61, Try.ntmps61
  have hw0 : IntKind.i64.wrap (n : Int) = (n : Int) := IntWalk.i64_in _ (by omega)
  go_wp2_with fail
  refine C0.mono ?_
  rintro e w1 ⟨Ap, cp, pvs, rfl, ownp, belp⟩
  have HMP : Hid (Mat w1 w1.heap.size Ap (Tr.partsL t)) := ownp.mat
  have HB1 := Lib.hid belp
  have hs1 := belp.size
  clear ownp belp C0
  go_wp2_with fail
  go_loopw [3, 5] (fun v i wr => ∃ k : Nat, k ≤ P ∧ v = .int .i64 (Tr.mulK Tr.denM (n : Int) (Tr.partsL t) k) ∧ i = .int .i64 k ∧ Below w1.heap.size w1 wr) (fun _ i _ => P - (intOf i).toNat)
  case atStart => exact ⟨0, Nat.zero_le _, by simp [Tr.mulK_zero], rfl, Below.refl _ _⟩
  case round =>
    obtain ⟨k, hk, rfl, rfl, HBw⟩ := hrel
    have hsz := HBw.size
    by_cases hlt : k < P
    · obtain ⟨p, hp⟩ := at_lt (show k < (Tr.partsL t).length by rw [HP.out]; exact hlt)
      obtain ⟨bp, op, Ak, ck, rfl, hbp, hcp, hlc, hcm, hrp⟩ := HMP.out.below HBw (Nat.le_refl _) k p hp
      obtain ⟨hpl, hpt⟩ := HPS.out p (List.mem_of_getElem? hp)
      have C2 := fun w' (hw' : w1.heap.size ≤ w'.heap.size) hr => IH Ak p.length ck w1.heap.size p w' rfl (by have := HL.out; omega) hpl hw' hr
      have hk2 := HK.out (k + 1) (by rw [HP.out]; omega)
      have hstep := Tr.mulK_step (f := Tr.denM) (a := (n : Int)) hp
      obtain ⟨a, ha⟩ : ∃ a, a = Tr.mulK Tr.denM (n : Int) (Tr.partsL t) k := ⟨_, rfl⟩
      rw [hstep] at hk2
      rw [← ha] at hk2 ⊢
      have HST : Hid (Tr.mulK Tr.denM (n : Int) (Tr.partsL t) (k + 1) = a * Tr.denM p) := by rw [ha]; exact hstep
      obtain ⟨z, hz⟩ : ∃ z, z = Tr.denM p := ⟨_, rfl⟩
      rw [← hz] at hk2 HST C2
      have hmw : IntKind.i64.wrap (a * z) = a * z := IntWalk.i64_in _ (by omega)
      have HBW := Lib.hid HBw
      clear hp hpl hpt hstep ha hz HBw
      go_wp2_with fail
      refine (C2 _ (by exact hsz) (by exact hrp)).mono ?_
      rintro e w2 ⟨rfl, bel2⟩
      have HB2 : Hid (Below w1.heap.size w1 w2) := HBW.out.trans (bel2.mono hsz)
      clear bel2 hk2 hcp
      go_wp2
      go_roundw
      case rel => exact ⟨k + 1, by omega, by rw [HST.out], by go_num, HB2.out⟩
      case measure => simp [intOf]; omega
    · obtain rfl : k = P := by omega
      have G : Hid (Res1 (Tr.denM t) w (.returned (.int .i64 (Tr.mulK Tr.denM (n : Int) (Tr.partsL t) k))) wr) :=
        Res1.of (by rw [HD.out, HP.out]) (HB1.out.trans (HBw.mono hs1))
      clear HBw
      go_wp2
      go_ret
      exact G.out
theorem l03Density_any (A : Option Addr) (n c B : Nat) (t : List Int) (w : World) (hl : t.length = n) (hlv : Tr.isLv t = true) (hB : B ≤ w.heap.size) (h : Row w B A (ints t)) : Calls Try.prog 61 #[.slice A n c] w (Res1 (Tr.denM t) w) := by
  have key : ∀ d, SDen d := fun d => by
    induction d with
    | zero => intro A n c B t w hl hn hlv; have := (Tr.isLv_iff.1 hlv).1; omega
    | succ d ih => exact sDen_succ d ih
  exact key n A n c B t w hl (Nat.le_refl _) hlv hB h
end Go.Proofs.Ytmpnhiemfdmenaa
/-
  The exact map, the program's and the model's.
-/
namespace Go.Proofs.Ytmpnhiemfdmenaa
open Go.RowKit Fld
set_option linter.unusedVariables false
set_option linter.unusedSimpArgs false
set_option maxRecDepth 100000

def exactV (t : List Int) : Int := inv (Tr.denM t % 10007)
def exactL : List Int := 1 :: (treesTo 6).map exactV
theorem exactL_length : exactL.length = 38 := by unfold exactL; rw [List.length_cons, List.length_map, to_len]
theorem exactL_num : allNum exactL = true := by
  rw [allNum_iff]
  intro x hx
  unfold exactL at hx
  rw [List.mem_cons, List.mem_map] at hx
  rcases hx with rfl | ⟨t, _, rfl⟩
  · omega
  · exact ⟨inv_lo _, inv_hi _⟩
theorem exactL_at {k : Nat} {t : List Int} (h : (treesTo 6)[k]? = some t) : exactL[k + 1]? = some (exactV t) := by
  unfold exactL; rw [List.getElem?_cons_succ, List.getElem?_map, h]; rfl
theorem mapTx_tree {k : Nat} {t : List Int} (h : (treesTo 6)[k]? = some t) : mapTx[k + 1]? = some (Tr.txt t) := by
  unfold mapTx; rw [List.getElem?_cons_succ, List.getElem?_map, h]; rfl
theorem to_lv {k : Nat} {t : List Int} (h : (treesTo 6)[k]? = some t) : Tr.isLv t = true := by
  have hm := List.mem_of_getElem? h
  unfold treesTo at hm
  rw [List.mem_flatMap] at hm
  obtain ⟨n, hn, ht⟩ := hm
  rw [List.mem_range] at hn
  exact ((trees_all (n := n + 1) (by omega) (by omega)).1 t ht).1
theorem unit_mix : unitL = exactL.take (0 + 1) ++ unitL.drop (0 + 1) := rfl
theorem unitL_at {k : Nat} (h : k < 37) : unitL[k + 1]? = some 0 := by
  unfold unitL; rw [List.getElem?_cons_succ, List.getElem?_replicate, if_pos h]
set_option maxHeartbeats 2000000 in
theorem exactMap_any (w : World) : Calls Try.prog 38 #[] w fun e w' => e = .returned (.agg (arrM exactL)) ∧ Below w.heap.size w w' := by
  have EL := Lib.hid exactL_length
  have UL := Lib.hid unitL_length
  go_enter Try.func38, Try.ntmps38
  go_wp2_with (refine wpList_store_row rfl 50 (.tmp 1) (.tmp 4) rfl (w.heap.size + 1) (arrM unitL) rfl rfl 50 (arrM zero38) (arrM_two w zero38 zero38).2.1 (by rw [arrM_size UL.out]; exact info_arrM) (by rw [arrM_size UL.out]; rfl) (arrM_cells _) ?_)
  refine (mapTrees_any _).mono ?_
  rintro e w2 ⟨A2, c2, rfl, own2, bel2⟩
  have FX0 : ArrM (((w.alloc (.cells (arrM zero38) 50)).alloc (.cells (arrM zero38) 50)).setRow (w.heap.size + 1) (arrM unitL)) (w.heap.size + 1) unitL := setRow_heap _ _ _ _ _ _ (arrM_two w zero38 zero38).2.1
  have FZ0 : ArrM (((w.alloc (.cells (arrM zero38) 50)).alloc (.cells (arrM zero38) 50)).setRow (w.heap.size + 1) (arrM unitL)) w.heap.size zero38 := (setRow_other _ _ _ _ (by omega)).trans (arrM_two w zero38 zero38).1
  have FX : Hid (ArrM w2 (w.heap.size + 1) (exactL.take (0 + 1) ++ unitL.drop (0 + 1))) := FX0.below bel2 (by simp [World.setRow])
  have FZ : Hid (ArrM w2 w.heap.size zero38) := FZ0.below bel2 (by simp [World.setRow]; omega)
  have FB : Hid (Below w.heap.size w w2) := (below_setRow (arrM_two w zero38 zero38).2.2 (by omega) (arrM unitL)).trans (bel2.mono (by simp [World.setRow]; omega))
  obtain ⟨g2, rfl⟩ := own_addr own2 (by omega)
  have hg2 : w.heap.size + 1 < g2 := by have := (own2.lt g2 rfl).1; simp [World.setRow] at this; omega
  have FT := Lib.hid (strs_cell (row_of_own own2))
  have hcap := (own_cap own2).1
  have hc1 : ¬ c2 = 1 := by omega
  clear own2 bel2 FX0 FZ0
  go_wp2_with fail
  go_loopw [8] (fun i wr => ∃ k : Nat, k ≤ 37 ∧ i = .int .i64 k ∧ Hid (ArrM wr (w.heap.size + 1) (exactL.take (k + 1) ++ unitL.drop (k + 1))) ∧ Hid (ArrM wr w.heap.size zero38) ∧ Hid (∀ k t, mapTx[k]? = some t → wr.cell? ⟨g2, k, none⟩ = some (.string ⟨t.toArray⟩)) ∧ Hid (Below w.heap.size w wr)) (fun i _ => 37 - (intOf i).toNat)
  case atStart => exact ⟨0, by omega, rfl, FX, FZ, FT, FB⟩
  case round =>
    obtain ⟨k, hk, rfl, HX, HZ, HT, HB⟩ := hrel
    by_cases hlt : k < 37
    · obtain ⟨t, ht⟩ := at_lt (show k < (treesTo 6).length by rw [to_len]; exact hlt)
      have hlv := to_lv ht
      have hct := HT.out (k + 1) _ (mapTx_tree ht)
      have hc := HX.out.cell (mixM_at (us := exactL) (by rw [EL.out, UL.out]) (unitL_at hlt))
      have hf := HX.out.free (k + 1)
      have C1 := fun w' => density_any (Tr.txt t) w' (Tr.tx_txt hlv)
      rw [(Tr.denM_parts hlv).2] at C1
      obtain ⟨d1, d2⟩ := Tr.denM_bd hlv
      have TA : exactL[k + 1]? = some (inv (Tr.denM t % 10007)) := exactL_at ht
      have k0 : (0 : Int) ≤ (k : Int) + 1 := by omega
      have k1 : (k : Int) + 1 < 38 := by omega
      have kk0 : (0 : Int) ≤ (k : Int) := Int.natCast_nonneg _
      have kk1 : (k : Int) < 37 := by omega
      have ew : IntKind.i64.wrap ((k : Int) + 1) = (k : Int) + 1 := IntWalk.i64_in _ (by omega)
      have en : ((k : Int) + 1).toNat = k + 1 := by omega
      have ek : 1 + k = k + 1 := by omega
      obtain ⟨X, hX⟩ : ∃ X : ByteArray, X = ⟨(Tr.txt t).toArray⟩ := ⟨_, rfl⟩
      rw [← hX] at hct C1
      obtain ⟨D, hD⟩ : ∃ D : Int, D = Tr.denM t := ⟨_, rfl⟩
      rw [← hD] at C1 TA d1 d2
      obtain ⟨V, hV⟩ : ∃ V : Int, V = inv (D % 10007) := ⟨_, rfl⟩
      rw [← hV] at TA
      have C3 := fun w' => inverse_any (D % 10007) w' (by omega) (by omega)
      rw [← hV] at C3
      have HGX : Hid (∀ W : World, ArrM W (w.heap.size + 1) (exactL.take (k + 1) ++ unitL.drop (k + 1)) → ArrM (W.setCell ⟨w.heap.size + 1, k + 1, none⟩ (.int .i64 V)) (w.heap.size + 1) (exactL.take (k + 1 + 1) ++ unitL.drop (k + 1 + 1))) := fun W hW => by
        have := hW.store (k := k + 1) V
        rw [mixM_step (by rw [UL.out]; omega) (by rw [EL.out, UL.out]) TA] at this
        exact this
      have hs1 := HB.out.size
      have hsg : g2 < wr.heap.size := by
        have h9 := hct
        rcases Nat.lt_or_ge g2 wr.heap.size with h8 | h8
        · exact h8
        · exfalso
          unfold World.cell? at h9
          simp [Array.getElem?_eq_none h8] at h9
      clear ht hlv hX hD hV TA FX FZ FT FB hc hf
      go_wp2_with fail
      refine (C1 _).mono ?_
      rintro e w3 ⟨rfl, bel3⟩
      have hx1 : w.heap.size + 1 < wr.heap.size := by omega
      have HX3 := HX.out.below bel3 hx1
      have HZ3 := Lib.hid (HZ.out.below bel3 (by omega))
      have HT3 : Hid (∀ k t, mapTx[k]? = some t → w3.cell? ⟨g2, k, none⟩ = some (.string ⟨t.toArray⟩)) := fun j u hu => (bel3.cell (p := ⟨g2, j, none⟩) hsg).trans (HT.out j u hu)
      have HB3 := Lib.hid (HB.out.trans (bel3.mono hs1))
      have hc3 : ∃ v, w3.cell? ⟨w.heap.size + 1, k + 1, none⟩ = some v := ⟨_, HX3.cell (mixM_at (us := exactL) (by rw [EL.out, UL.out]) (unitL_at hlt))⟩
      obtain ⟨v9, hc3⟩ := hc3
      have hf3 := HX3.free (k + 1)
      have GX := Lib.hid (HGX.out w3 HX3)
      have GZ : Hid (ArrM (w3.setCell ⟨w.heap.size + 1, k + 1, none⟩ (.int .i64 V)) w.heap.size zero38) := HZ3.out.other (by omega) _
      have GT : Hid (∀ j t, mapTx[j]? = some t → (w3.setCell ⟨w.heap.size + 1, k + 1, none⟩ (.int .i64 V)).cell? ⟨g2, j, none⟩ = some (.string ⟨t.toArray⟩)) := fun j t ht => cell_other (HT3.out j t ht) (by omega)
      have GB : Hid (Below w.heap.size w (w3.setCell ⟨w.heap.size + 1, k + 1, none⟩ (.int .i64 V))) := below_set HB3.out (by omega) _
      clear HX HZ HT HB HX3 HZ3 HT3 HB3 bel3 hct C1 HGX
      go_wp2_with fail
      refine (reduced_any D _).mono ?_
      rintro e w' ⟨rfl, rfl⟩
      go_wp2_with fail
      refine (C3 _).mono ?_
      rintro e w' ⟨rfl, rfl⟩
      go_wp2
      go_roundw
      case rel => exact ⟨k + 1, by omega, by go_num, GX, GZ, GT, GB⟩
      case measure => simp [intOf]; omega
    · obtain rfl : k = 37 := by omega
      have GX : Hid (ArrM wr (w.heap.size + 1) exactL) := by
        have := HX.out
        rw [mixM_end EL.out UL.out] at this
        exact this
      clear HX FX FZ FT FB HT
      go_wp2_with (first
        | (refine wpList_load_row rfl 50 (.tmp 1) rfl (w.heap.size + 1) rfl 50 (arrM exactL) (0, 0) _ GX.out Try.underlying50 rfl (by rw [arrM_size EL.out]; exact info_arrM) ?_)
        | (refine wpList_store_row rfl 50 (.tmp 0) (.tmp 21) rfl w.heap.size (arrM exactL) rfl rfl 50 (arrM zero38) HZ.out (by rw [arrM_size EL.out]; exact info_arrM) (by rw [arrM_size EL.out]; rfl) (arrM_cells _) ?_))
      refine bodyPost_ret (v := .agg (arrM exactL)) ?_ rfl ⟨rfl, below_setRow HB.out (Nat.le_refl _) _⟩
      exact results_cell_row rfl _ _ w.heap.size 50 _ (0, 0) _ rfl (setRow_heap _ _ _ _ _ _ HZ.out) Try.underlying50 rfl (by rw [arrM_size EL.out]; exact info_arrM)
theorem pExactMap_L (w : World) : Calls Try.prog 14 #[] w (NewRow 2 38 (ints exactL) w) := by
  go_enter Try.func14, Try.ntmps14
  go_wp2_with fail
  refine (exactMap_any _).mono ?_
  rintro e w1 ⟨rfl, b1⟩
  go_wp2_with fail
  refine (listM_any exactL _ exactL_length).mono ?_
  rintro e w2 ⟨A2, c2, rfl, own2, bel2⟩
  have N := Lib.hid (NewRow.after b1 ⟨A2, c2, rfl, own2, bel2⟩)
  clear own2 bel2 b1
  go_wp2
  go_ret
  exact N.out
set_option maxHeartbeats 1000000 in
theorem l07Exact_any (w : World) : Calls Try.prog 36 #[] w (NewRow 2 38 (ints exactL) w) := by
  obtain ⟨i0, hi, hz0, hz1, hz2⟩ := info_parts info_i64
  have C1 := fun w' => l03All_any 6 w' (by omega) (by omega)
  rw [to_len] at C1
  go_enter Try.func36, Try.ntmps36
  go_wp2_with fail
  refine (C1 _).mono ?_
  rintro e w1 ⟨A1, c1, vs1, rfl, own1, bel1⟩
  have hs1 := bel1.size
  have FM : Hid (Mat w1 w1.heap.size A1 (treesTo 6)) := own1.mat
  have B1 := Lib.hid bel1
  have F0 : Hid ((w1.alloc (.cells #[.int .i64 1] 2)).ownsRow w1.heap.size 2 1 (.slice (some ⟨w1.heap.size, 0, none⟩) 1 1) 1 (ints (exactL.take (0 + 1)))) := World.ownsRow_lit (base := w1.heap.size) (size := 1) (e := 2) w1 #[.int .i64 1] 1 (Nat.le_refl _) (by simp [maxLen]) rfl
  have FB : Hid (Below w1.heap.size w1 (w1.alloc (.cells #[.int .i64 1] 2))) := (Below.refl _ _).alloc (Nat.le_refl _) _
  clear own1 bel1 C1
  go_wp2_with fail
  go_loopw [2, 3] (fun v i wr => ∃ (k g cap : Nat), k ≤ 37 ∧ v = .slice (some ⟨g, 0, none⟩) (k + 1) cap ∧ i = .int .i64 k ∧ Hid (wr.ownsRow w1.heap.size 2 1 (.slice (some ⟨g, 0, none⟩) (k + 1) cap) (k + 1) (ints (exactL.take (k + 1)))) ∧ Hid (Below w1.heap.size w1 wr)) (fun _ i _ => 37 - (intOf i).toNat)
  case atStart => exact ⟨0, w1.heap.size, 1, by omega, rfl, rfl, F0, FB⟩
  case round =>
    obtain ⟨k, g, cap, hk, rfl, rfl, HO, HBB⟩ := hrel
    by_cases hlt : k < 37
    · obtain ⟨t, ht⟩ := at_lt (show k < (treesTo 6).length by rw [to_len]; exact hlt)
      have hlv := to_lv ht
      obtain ⟨q1, q8⟩ := lv_bd hlv
      obtain ⟨b1, o1, Ak, ck, rfl, _, hct, hlc, hcm, hrow⟩ := (Mat.below FM.out HBB.out (Nat.le_refl _)) k t ht
      have hsz := HBB.out.size
      obtain ⟨d1, d2⟩ := Tr.denM_bd hlv
      have TA : exactL[k + 1]? = some (inv (Tr.denM t % 10007)) := exactL_at ht
      have C1 := l03Density_any Ak t.length ck w1.heap.size t wr rfl hlv hsz hrow
      have i0' := inv_lo (Tr.denM t % 10007)
      have i1' := inv_hi (Tr.denM t % 10007)
      obtain ⟨D, hD⟩ : ∃ D : Int, D = Tr.denM t := ⟨_, rfl⟩
      rw [← hD] at C1 TA d1 d2 i0' i1'
      have C2 := fun w' => l01Frac_any 1 D w'
      obtain ⟨V, hV⟩ : ∃ V : Int, V = inv (D % 10007) := ⟨_, rfl⟩
      rw [← hV] at TA C2 i0' i1'
      have ev : 1 % 10007 * V % 10007 = V := by omega
      rw [ev] at C2
      have HE : Hid (ints (exactL.take (k + 1)) ++ [.int .i64 V] = ints (exactL.take (k + 1 + 1))) := grow_ints TA
      have k0 : (0 : Int) ≤ (k : Int) := Int.natCast_nonneg _
      clear ht hlv hD hV TA hrow ev
      go_wp2_with fail
      refine C1.mono ?_
      rintro e w2 ⟨rfl, bel2⟩
      have hs2 := bel2.size
      have HO2 := ((OwnR.of HO.out).below bel2 (Nat.le_refl _)).1
      have HB2 := Lib.hid (HBB.out.trans (bel2.mono hsz))
      clear bel2 C1 HO HBB
      go_wp2_with fail
      refine (C2 _).mono ?_
      rintro e w' ⟨rfl, rfl⟩
      go_wp2_with (at_builtin; refine wpList_append_lies _ rfl (.tmp 12) (.tmp 19) 24 rfl w1.heap.size 2 i0 _ 1 8 Try.underlying24 hi hz0 hz1 hz2 rfl (by omega) (.slice (some ⟨g, 0, none⟩) (k + 1) cap) (k + 1) (ints (exactL.take (k + 1))) rfl (HO2.alloc _) ⟨w2.heap.size, 0, none⟩ 1 1 [.int .i64 V] rfl rfl (World.news_of_block (cs := #[.int .i64 V]) (heap_alloc_new _ _)) (by simp [Value.oneCell']) (by omega) (by simp only [maxLen]; omega) (by omega) (by simp; omega) (w2.heap.size + 1) (by simp) ?_; intro g5 cap5 w5 hown5 hgrow5 hat5 hlt5)
      have hown5' := hown5
      rw [HE.out] at hown5'
      have GO := Lib.hid hown5'
      have GB : Hid (Below w1.heap.size w1 w5) := (HB2.out.alloc (by omega) _).grown hgrow5 (by simp; omega) (fun z hz => (HO2.lt z hz).1)
      clear hown5 hown5' hgrow5 hat5 HO2
      go_wp2
      go_roundw
      case rel => exact ⟨k + 1, g5, cap5, by omega, rfl, by go_num, GO, GB⟩
      case measure => simp [intOf]; omega
    · obtain rfl : k = 37 := by omega
      have GO : Hid (wr.ownsRow w.heap.size 2 1 (.slice (some ⟨g, 0, none⟩) 38 cap) 38 (ints exactL)) := by
        have := HO.out
        rw [List.take_of_length_le (by rw [exactL_length]; omega)] at this
        exact ((OwnR.of this).more hs1 (Nat.le_refl _)).1
      have GB := Lib.hid (B1.out.trans (HBB.out.mono hs1))
      clear HO HBB
      go_wp2
      go_ret
      exact ⟨_, _, rfl, GO.out, GB.out⟩
end Go.Proofs.Ytmpnhiemfdmenaa
/-
  Draws of maps.
-/
namespace Go.Proofs.Ytmpnhiemfdmenaa
open Go.RowKit Fld
set_option linter.unusedVariables false
set_option linter.unusedSimpArgs false
set_option maxRecDepth 100000

theorem exact_zero : exactL[0]? = some 1 := rfl
theorem exact_set : exactL.set 0 1 = exactL := rfl
theorem one_zero : zero38.set 0 1 = unitL := rfl
/-- a list of the call's own with 38 numbers, beside a source -/
def HeldM (G B : Nat) (xs : List Int) (w W : World) (g c : Nat) (ys : List Int) : Prop :=
  ys.length = 38 ∧ W.ownsRow w.heap.size 2 1 (.slice (some ⟨g, 0, none⟩) 38 c) 38 (ints ys) ∧ Src W 73 G B xs ∧ w.grownBy W (some G)
theorem HeldM.past {G B g c : Nat} {xs ys : List Int} {w W W' : World} (h : HeldM G B xs w W g c ys) (hG : G < w.heap.size) (s : Src W' 73 G B xs) (k : W.grownBy W' (some G)) : HeldM G B xs w W' g c ys :=
  ⟨h.1, own_past h.2.1 hG k, s, only_trans h.2.2.2 k⟩
theorem HeldM.put {G B g c j : Nat} {xs ys : List Int} {v : Int} {w W : World} (h : HeldM G B xs w W g c ys) (hG : G < w.heap.size) (hBG : B ≤ G) : HeldM G B xs w (W.setCell ⟨g, j, none⟩ (.int .i64 v)) g c (ys.set j v) := by
  have hg := (h.2.1.lt g rfl).1
  refine ⟨by rw [List.length_set]; exact h.1, ?_, h.2.2.1.put (by omega) (by omega), only_put h.2.2.2 hg⟩
  have := (h.2.1.stored j (.int .i64 v)).1
  rw [ints_put] at this
  exact this
theorem HeldM.cell {G B g c j : Nat} {xs ys : List Int} {w W : World} (h : HeldM G B xs w W g c ys) (hj : j < 38) : ∃ x, W.cell? ⟨g, j, none⟩ = some (.int .i64 x) := by
  obtain ⟨x, hx⟩ := at_lt (show j < ys.length by rw [h.1]; exact hj)
  exact ⟨x, (h.2.1.cellAt j hj).trans (ints_at hx)⟩
theorem HeldM.drawn {G B g c : Nat} {xs ys : List Int} {w W : World} (h : HeldM G B xs w W g c ys) : DrawnL (fun ys => ys.length = 38) 73 G B xs w (.returned (.slice (some ⟨g, 0, none⟩) 38 c)) W := ⟨g, c, 38, ys, rfl, h.1, h.1, h.2.1, h.2.2.1, h.2.2.2⟩

set_option maxHeartbeats 4000000 in
theorem l07Draw_any (G B : Nat) (xs : List Int) (w : World) (s : Src w 73 G B xs) :
    Calls Try.prog 52 #[.pointer (some ⟨G, 0, none⟩), .int .i64 1] w (DrawnL (fun ys => ys.length = 38) 73 G B xs w) := by
  obtain ⟨i0, hi, hz0, hz1, hz2⟩ := info_parts info_i64
  have HG := s.lt
  have HBG := s.base
  have OL := World.ownsRow_lit (base := w.heap.size) (size := 1) (e := 2) w #[.int .i64 1] 1 (Nat.le_refl _) (by simp [maxLen]) rfl
  have SA := s.alloc (.cells #[.int .i64 1] 2)
  have GA := World.grownBy_alloc w (.cells #[.int .i64 1] 2) (some G)
  go_enter Try.func52, Try.ntmps52
  go_wp2_with fail
  refine (l01Next_any G B xs _ _ (by omega) SA).mono ?_
  rintro e w2 ⟨r, rfl, r0, r1, s2, o2⟩
  have OW := Lib.hid (own_past OL HG o2)
  have G2 := Lib.hid (only_trans GA o2)
  have S2 := Lib.hid s2
  have hs2 := G2.out.size
  clear OL SA GA o2 s2
  rcases (show r = 0 ∨ r = 1 ∨ 2 ≤ r by omega) with rfl | rfl | hr
  · clear OW
    go_wp2_with fail
    refine (l07Exact_any _).mono ?_
    rintro e w3 ⟨A3, c, rfl, own3, bel3⟩
    obtain ⟨g, rfl⟩ := own_addr own3 (by omega)
    have H3 : Hid (HeldM G B xs w w3 g c exactL) := ⟨exactL_length, ((OwnR.of own3).more hs2 (Nat.le_refl _)).1, S2.out.below bel3, only_below G2.out bel3⟩
    have ho := (H3.out.2.1.cellAt 0 (by omega)).trans (ints_at exact_zero)
    have hf := H3.out.2.1.frozenAt 0
    have H4 : Hid (HeldM G B xs w (w3.setCell ⟨g, 0, none⟩ (.int .i64 1)) g c exactL) := by
      have := H3.out.put (j := 0) (v := 1) HG HBG
      rw [exact_set] at this
      exact this
    clear own3 bel3 G2 S2 H3
    go_wp2_with fail
    refine (l01Next_any G B xs _ _ (by omega) H4.out.2.2.1).mono ?_
    rintro e w5 ⟨r5, rfl, p0, p1, s5, o5⟩
    have H5 := Lib.hid (H4.out.past HG s5 o5)
    clear s5 o5 H4 ho hf
    by_cases hr5 : r5 = 0
    · have t5 := beq_t hr5
      clear hr5
      go_wp2_with fail
      refine (l01Number_any G B xs _ H5.out.2.2.1).mono ?_
      rintro e w6 ⟨v, rfl, hv, s6, o6⟩
      have H6 := Lib.hid (H5.out.past HG s6 o6)
      clear s6 o6 H5
      go_wp2_with fail
      refine (l07Scale_any g 0 c w6.heap.size exactL v _ exactL_length exactL_num (Nat.le_refl _) (row_of_own H6.out.2.1) hv.1 hv.2).mono ?_
      rintro e w7 ⟨A7, c7, rfl, own7, bel7⟩
      obtain ⟨g7, rfl⟩ := own_addr own7 (by omega)
      have H7 : Hid (HeldM G B xs w w7 g7 c7 (scaleL exactL v)) := ⟨scaleL_length exactL_length v, ((OwnR.of own7).more H6.out.2.2.2.size (Nat.le_refl _)).1, H6.out.2.2.1.below bel7, only_below H6.out.2.2.2 bel7⟩
      clear own7 bel7 H6 t5
      go_wp2_with fail
      refine (l01Next_any G B xs _ _ (by omega) H7.out.2.2.1).mono ?_
      rintro e w8 ⟨r8, rfl, v0, v1, s8, o8⟩
      have H0 := Lib.hid (H7.out.past HG s8 o8)
      clear s8 o8 H7
      obtain ⟨g9, hg9⟩ : ∃ g9, g9 = g7 := ⟨_, rfl⟩
      go_wp2_with fail
      go_loopw [6] (fun i wr => ∃ (q : Int) (ys : List Int), 0 ≤ q ∧ q ≤ 2 ∧ i = .int .i64 q ∧ Hid (HeldM G B xs w wr g7 c7 ys)) (fun i _ => (intOf i).toNat)
      case atStart => exact ⟨_, _, by omega, by omega, rfl, H0⟩
      case round =>
        obtain ⟨q, ys, q0, q1, rfl, H⟩ := hrel
        by_cases hq : 0 < q
        · go_wp2_with fail
          refine (l01Next_any G B xs _ _ (by omega) H.out.2.2.1).mono ?_
          rintro e w8 ⟨r, rfl, r0, r1, s8, o8⟩
          have H8 := Lib.hid (H.out.past HG s8 o8)
          obtain ⟨j, rfl⟩ : ∃ j : Nat, r = (j : Int) := ⟨r.toNat, by omega⟩
          have ew : IntKind.i64.wrap (1 + (j : Int)) = 1 + (j : Int) := IntWalk.i64_in _ (by omega)
          have en : (1 + (j : Int)).toNat = j + 1 := by omega
          have k0 : (0 : Int) ≤ 1 + (j : Int) := by omega
          have k1 : 1 + (j : Int) < 38 := by omega
          have hj : j + 1 < 38 := by omega
          clear s8 o8 H
          go_wp2_with fail
          refine (l01Number_any G B xs _ H8.out.2.2.1).mono ?_
          rintro e w9 ⟨v, rfl, hv, s9, o9⟩
          have H9 := Lib.hid (H8.out.past HG s9 o9)
          obtain ⟨old, ho⟩ := H9.out.cell hj
          have hf := H9.out.2.1.frozenAt (j + 1)
          have H10 := Lib.hid (H9.out.put (j := j + 1) (v := v) HG HBG)
          clear s9 o9 H8
          go_wp2
          go_roundw
          case rel => exact ⟨q - 1, _, by omega, by omega, by go_num, H10⟩
          case measure => simp [intOf]; omega
        · have HD := Lib.hid H.out.drawn
          clear H
          go_wp2
          go_ret
          exact HD.out
    · have t5 := beq_f hr5
      clear hr5
      go_wp2_with fail
      refine (l01Next_any G B xs _ _ (by omega) H5.out.2.2.1).mono ?_
      rintro e w8 ⟨r8, rfl, v0, v1, s8, o8⟩
      have H0 := Lib.hid (H5.out.past HG s8 o8)
      clear s8 o8 H5 t5
      go_wp2_with fail
      go_loopw [6] (fun i wr => ∃ (q : Int) (ys : List Int), 0 ≤ q ∧ q ≤ 2 ∧ i = .int .i64 q ∧ Hid (HeldM G B xs w wr g c ys)) (fun i _ => (intOf i).toNat)
      case atStart => exact ⟨_, _, by omega, by omega, rfl, H0⟩
      case round =>
        obtain ⟨q, ys, q0, q1, rfl, H⟩ := hrel
        by_cases hq : 0 < q
        · go_wp2_with fail
          refine (l01Next_any G B xs _ _ (by omega) H.out.2.2.1).mono ?_
          rintro e w8 ⟨r, rfl, r0, r1, s8, o8⟩
          have H8 := Lib.hid (H.out.past HG s8 o8)
          obtain ⟨j, rfl⟩ : ∃ j : Nat, r = (j : Int) := ⟨r.toNat, by omega⟩
          have ew : IntKind.i64.wrap (1 + (j : Int)) = 1 + (j : Int) := IntWalk.i64_in _ (by omega)
          have en : (1 + (j : Int)).toNat = j + 1 := by omega
          have k0 : (0 : Int) ≤ 1 + (j : Int) := by omega
          have k1 : 1 + (j : Int) < 38 := by omega
          have hj : j + 1 < 38 := by omega
          clear s8 o8 H
          go_wp2_with fail
          refine (l01Number_any G B xs _ H8.out.2.2.1).mono ?_
          rintro e w9 ⟨v, rfl, hv, s9, o9⟩
          have H9 := Lib.hid (H8.out.past HG s9 o9)
          obtain ⟨old, ho⟩ := H9.out.cell hj
          have hf := H9.out.2.1.frozenAt (j + 1)
          have H10 := Lib.hid (H9.out.put (j := j + 1) (v := v) HG HBG)
          clear s9 o9 H8
          go_wp2
          go_roundw
          case rel => exact ⟨q - 1, _, by omega, by omega, by go_num, H10⟩
          case measure => simp [intOf]; omega
        · have HD := Lib.hid H.out.drawn
          clear H
          go_wp2
          go_ret
          exact HD.out
  · clear OW
    go_wp2_with (at_make; refine wpList_make_full _ rfl _ _ 24 rfl w2.heap.size 2 i0 _ 1 Try.underlying24 hi hz0 hz1 .i64 .i64 _ _ 38 rfl rfl rfl rfl (by rw [hz2]; omega) (by simp only [maxLen]; omega) (Nat.le_refl _) ?_; intro w3 hown hg; have H3 : Hid (HeldM G B xs w w3 w2.heap.size 38 zero38) := ⟨rfl, ((OwnR.of (zero_row hown)).more hs2 (Nat.le_refl _)).1, S2.out.below ((Below.refl _ _).grown hg (Nat.le_refl _) (fun k hk => by cases hk)), only_below G2.out ((Below.refl _ _).grown hg (Nat.le_refl _) (fun k hk => by cases hk))⟩; have ho := (H3.out.2.1.cellAt 0 (by omega)).trans (ints_at (zero38_at (k := 0) (by omega))); have hf := H3.out.2.1.frozenAt 0; have H4 := Lib.hid (H3.out.put (j := 0) (v := 1) HG HBG); clear hown hg H3)
    refine (l01Next_any G B xs _ _ (by omega) H4.out.2.2.1).mono ?_
    rintro e w5 ⟨r5, rfl, p0, p1, s5, o5⟩
    have H0 := Lib.hid (H4.out.past HG s5 o5)
    have ew5 : IntKind.i64.wrap (1 + r5) = 1 + r5 := IntWalk.i64_in _ (by omega)
    clear s5 o5 H4 ho hf G2 S2
    go_wp2_with fail
    go_loopw [7] (fun i wr => ∃ (q : Int) (ys : List Int), 0 ≤ q ∧ q ≤ 4 ∧ i = .int .i64 q ∧ Hid (HeldM G B xs w wr w2.heap.size 38 ys)) (fun i _ => (intOf i).toNat)
    case atStart => exact ⟨_, _, by omega, by omega, rfl, H0⟩
    case round =>
      obtain ⟨q, ys, q0, q1, rfl, H⟩ := hrel
      by_cases hq : 0 < q
      · go_wp2_with fail
        refine (l01Next_any G B xs _ _ (by omega) H.out.2.2.1).mono ?_
        rintro e w8 ⟨r, rfl, r0, r1, s8, o8⟩
        have H8 := Lib.hid (H.out.past HG s8 o8)
        obtain ⟨j, rfl⟩ : ∃ j : Nat, r = (j : Int) := ⟨r.toNat, by omega⟩
        have ew : IntKind.i64.wrap (1 + (j : Int)) = 1 + (j : Int) := IntWalk.i64_in _ (by omega)
        have en : (1 + (j : Int)).toNat = j + 1 := by omega
        have k0 : (0 : Int) ≤ 1 + (j : Int) := by omega
        have k1 : 1 + (j : Int) < 38 := by omega
        have hj : j + 1 < 38 := by omega
        clear s8 o8 H
        go_wp2_with fail
        refine (l01Number_any G B xs _ H8.out.2.2.1).mono ?_
        rintro e w9 ⟨v, rfl, hv, s9, o9⟩
        have H9 := Lib.hid (H8.out.past HG s9 o9)
        obtain ⟨old, ho⟩ := H9.out.cell hj
        have hf := H9.out.2.1.frozenAt (j + 1)
        have H10 := Lib.hid (H9.out.put (j := j + 1) (v := v) HG HBG)
        clear s9 o9 H8
        go_wp2
        go_roundw
        case rel => exact ⟨q - 1, _, by omega, by omega, by go_num, H10⟩
        case measure => simp [intOf]; omega
      · have HD := Lib.hid H.out.drawn
        clear H
        go_wp2
        go_ret
        exact HD.out
  · have t0 := beq_f (show r ≠ 0 by omega)
    have t1 := beq_f (show r ≠ 1 by omega)
    go_wp2_with fail
    refine (l01List_any G B xs 37 _ (by omega) S2.out).mono ?_
    rintro e w3 ⟨g3, c3, n3, ys, rfl, hy, ⟨hy1, hy2⟩, own3, s3, o3⟩
    obtain rfl : n3 = 37 := by omega
    have OW3 := own_past OW.out HG o3
    have G3 := Lib.hid (only_trans G2.out o3)
    have S3 := Lib.hid s3
    have HY := Lib.hid hy1
    have HYL : Hid ((ints ys).length = 37 * 1) := by rw [Hid, ints_length, hy1]
    have HNW : Hid (∀ q z, (ints ys)[q]? = some z → w3.cell? ((⟨g3, 0, none⟩ : Addr).add q) = some z) := (row_of_own own3).news
    have hs3 := G3.out.size
    clear own3 s3 o3 hy hy1 hy2 OW G2 S2
    go_wp2_with (at_builtin; refine wpList_append_own _ rfl (.tmp 60) (.tmp 62) 24 rfl w.heap.size 2 i0 _ 1 8 Try.underlying24 hi hz0 hz1 hz2 rfl (by omega) (.slice (some ⟨w.heap.size, 0, none⟩) 1 1) 1 [.int .i64 1] rfl OW3 ⟨g3, 0, none⟩ 37 c3 (ints ys) rfl HYL.out HNW.out (ints_cells _) (by simp only [maxLen]; omega) (by omega) hs3 ?_; intro v5 w5 own5 hgrow5 _; obtain ⟨g5, c5, rfl⟩ := own_form own5 (by omega))
    have HD : Hid (DrawnL (fun ys => ys.length = 38) 73 G B xs w (.returned (.slice (some ⟨g5, 0, none⟩) (1 + 37) c5)) w5) := ⟨g5, c5, 1 + 37, 1 :: ys, rfl, by rw [List.length_cons, HY.out], by show (1 :: ys).length = 38; rw [List.length_cons, HY.out], own5, S3.out.only (g := w.heap.size) hgrow5 (by omega) (by omega), only_row (g := w.heap.size) G3.out hgrow5 (Nat.le_refl _)⟩
    clear own5 hgrow5 OW3
    go_wp2
    go_ret
    exact HD.out
/-- a map that was drawn, or what is not one: 38 numbers or 37 -/
def DrawnM (T : TypeId) (G B : Nat) (xs : List Int) (w : World) (e : Ending) (w' : World) : Prop :=
  ∃ b o n c, ∃ ys : List Int, e = .returned (.slice (some ⟨b, o, none⟩) n c) ∧ ys.length = n ∧ 1 ≤ n ∧ n ≤ 38 ∧ n ≤ c ∧ (w.heap.size ≤ b ∧ b < w'.heap.size) ∧ Row w' w'.heap.size (some ⟨b, o, none⟩) (ints ys) ∧ Src w' T G B xs ∧ w.grownBy w' (some G)
theorem HeldM.drawnM {G B g c : Nat} {xs ys : List Int} {w W : World} (h : HeldM G B xs w W g c ys) : DrawnM 73 G B xs w (.returned (.slice (some ⟨g, 0, none⟩) 38 c)) W :=
  ⟨g, 0, 38, c, ys, rfl, h.1, by omega, by omega, own_room h.2.1, h.2.1.lt g rfl, row_of_own h.2.1, h.2.2.1, h.2.2.2⟩
set_option maxHeartbeats 4000000 in
theorem l07DrawAny_any (G B : Nat) (xs : List Int) (w : World) (s : Src w 73 G B xs) :
    Calls Try.prog 23 #[.pointer (some ⟨G, 0, none⟩)] w (DrawnM 73 G B xs w) := by
  have HG := s.lt
  have HBG := s.base
  go_enter Try.func23, Try.ntmps23
  go_wp2_with fail
  refine (l07Draw_any G B xs _ s).mono ?_
  rintro e w1 ⟨g, c, n, ys, rfl, hy, hy38, own1, s1, o1⟩
  obtain rfl : n = 38 := by rw [← hy]; exact hy38
  have H1 : Hid (HeldM G B xs w w1 g c ys) := ⟨hy38, own1, s1, o1⟩
  clear hy hy38 own1 s1 o1 s
  go_wp2_with fail
  refine (l01Next_any G B xs _ _ (by omega) H1.out.2.2.1).mono ?_
  rintro e w2 ⟨r, rfl, r0, r1, s2, o2⟩
  have H2 := Lib.hid (H1.out.past HG s2 o2)
  clear s2 o2 H1
  rcases (show r = 0 ∨ r = 1 ∨ r = 2 ∨ 3 ≤ r by omega) with rfl | rfl | rfl | hr
  · go_wp2_with fail
    refine (l01Next_any G B xs _ _ (by omega) H2.out.2.2.1).mono ?_
    rintro e w3 ⟨v, rfl, v0, v1, s3, o3⟩
    have H3 := Lib.hid (H2.out.past HG s3 o3)
    obtain ⟨old, ho⟩ := H3.out.cell (j := 0) (by omega)
    have hf := H3.out.2.1.frozenAt 0
    have H4 := Lib.hid (H3.out.put (j := 0) (v := v) HG HBG)
    clear s3 o3 H2 H3
    go_wp2
    go_ret
    exact H4.out.drawnM
  · go_wp2_with fail
    refine (l01Next_any G B xs _ _ (by omega) H2.out.2.2.1).mono ?_
    rintro e w3 ⟨r3, rfl, v0, v1, s3, o3⟩
    have H3 := Lib.hid (H2.out.past HG s3 o3)
    obtain ⟨j, rfl⟩ : ∃ j : Nat, r3 = (j : Int) := ⟨r3.toNat, by omega⟩
    have hj : j < 38 := by omega
    clear s3 o3 H2
    go_wp2_with fail
    refine (l01Spoil_any G B xs _ H3.out.2.2.1).mono ?_
    rintro e w4 ⟨v, rfl, hv, s4, o4⟩
    have H4 := Lib.hid (H3.out.past HG s4 o4)
    obtain ⟨old, ho⟩ := H4.out.cell hj
    have hf := H4.out.2.1.frozenAt j
    have H5 := Lib.hid (H4.out.put (j := j) (v := v) HG HBG)
    clear s4 o4 H3 H4
    go_wp2
    go_ret
    exact H5.out.drawnM
  · have hc := own_room H2.out.2.1
    have hc1 : ¬ c = 1 := by omega
    have HD : Hid (DrawnM 73 G B xs w (.returned (.slice (some ⟨g, 1, none⟩) 37 (c - 1))) w2) := by
      refine ⟨g, 1, 37, c - 1, ys.drop 1, rfl, by rw [List.length_drop, H2.out.1], by omega, by omega, by omega, H2.out.2.1.lt g rfl, fun k v hv => ?_, H2.out.2.2.1, H2.out.2.2.2⟩
      have hv' : (ints ys)[1 + k]? = some v := by
        have e : ints (ys.drop 1) = (ints ys).drop 1 := by unfold ints intsK; rw [List.map_drop]
        rw [e, List.getElem?_drop] at hv
        exact hv
      obtain ⟨b, o, e, hb, hcell⟩ := row_of_own H2.out.2.1 (1 + k) v hv'
      injection e with e
      injection e with e1 e2 _
      subst e1 e2
      rw [Nat.zero_add] at hcell
      exact ⟨g, 1, rfl, hb, hcell⟩
    clear H2
    go_wp2
    go_ret
    exact HD.out
  · have t0 := beq_f (show r ≠ 0 by omega)
    have t1 := beq_f (show r ≠ 1 by omega)
    have t2 := beq_f (show r ≠ 2 by omega)
    go_wp2
    go_ret
    exact H2.out.drawnM
theorem row_past9 {w w' : World} {lo G b o : Nat} {vs : List Value} (h : Row w w.heap.size (some ⟨b, o, none⟩) vs) (hl : lo ≤ b) (hG : G < lo) (k : w.grownBy w' (some G)) : Row w' w'.heap.size (some ⟨b, o, none⟩) vs := fun j v hv => by
  obtain ⟨b', o', e, hb, hc⟩ := h j v hv
  injection e with e
  injection e with e1 e2 _
  subst e1 e2
  exact ⟨b, o, rfl, by have := k.size; omega, (World.cell?_of_block (k.block b hb (fun e => by have := Option.some.inj e; omega))).trans hc⟩
set_option maxHeartbeats 4000000 in
theorem drawAgreeTo_any (A : Option Addr) (n c : Nat) (xs : List Int) (w : World) (hn : n ≤ 4096) (hx : IsCode w A n xs) : Calls Try.prog 6 #[.slice A n c] w (DrawnSS w) := by
  obtain ⟨hl, h, hx⟩ := hx
  go_enter Try.func6, Try.ntmps6
  go_wp2_with fail
  refine (l01From_any A n c w.heap.size xs w hl hn (Nat.le_refl _) h hx).mono ?_
  rintro e w1 ⟨G, rfl, hG, s1, b1⟩
  have HG1 := s1.lt
  have hz1 := b1.size
  clear h hx hl
  go_wp2_with fail
  refine (l07DrawAny_any G w.heap.size xs _ s1).mono ?_
  rintro e w2 ⟨ba, oa, na, ca, a, rfl, la, na1, na38, nca, ⟨hba, hbu⟩, ra, s2, o2⟩
  have B2 := Lib.hid (below_only b1 o2 hz1 hG)
  have RA := Lib.hid ra
  have LA := Lib.hid la
  have hz2 := o2.size
  clear ra la s1 o2 b1
  go_wp2_with fail
  refine (l07DrawAny_any G w.heap.size xs _ s2).mono ?_
  rintro e w3 ⟨bb, ob, nb, cb, b, rfl, lb, nb1, nb38, ncb, ⟨hbb, hbv⟩, rb, s3, o3⟩
  have B3 := Lib.hid (below_only B2.out o3 B2.out.size hG)
  have RA3 := Lib.hid (row_past9 RA.out hba HG1 o3)
  have RB := Lib.hid rb
  have LB := Lib.hid lb
  have hz3 := o3.size
  clear rb lb s2 o3 B2 RA
  go_wp2_with fail
  refine (l01Next_any G w.heap.size xs _ _ (by omega) s3).mono ?_
  rintro e w4 ⟨r, rfl, r0, r1, s4, o4⟩
  have B4 := Lib.hid (below_only B3.out o4 B3.out.size hG)
  have RA4 := Lib.hid (row_past9 RA3.out hba HG1 o4)
  have RB4 := Lib.hid (row_past9 RB.out hbb (by omega) o4)
  have S4 := Lib.hid s4
  have hz4 := o4.size
  clear s3 s4 o4 B3 RA3 RB
  by_cases hr : 0 < r
  · go_wp2_with fail
    refine (l01Own_any ⟨ba, oa, none⟩ na ca w4.heap.size a _ LA.out (by omega) (Nat.le_refl _) RA4.out).mono ?_
    rintro e w5 ⟨A5, c5, rfl, own5, bel5⟩
    obtain ⟨g5, rfl⟩ := own_addr own5 (by omega)
    have hg5 := (own5.lt g5 rfl).1
    have B5 := Lib.hid (B4.out.trans (bel5.mono B4.out.size))
    have RA5 : Hid (Row w5 w5.heap.size (some ⟨ba, oa, none⟩) (ints a)) := (RA4.out.below bel5 (Nat.le_refl _)).more bel5.size
    have RA5L : Hid (Row w5 w4.heap.size (some ⟨ba, oa, none⟩) (ints a)) := RA4.out.below bel5 (Nat.le_refl _)
    have S5 := Lib.hid (S4.out.below bel5)
    have O5 := Lib.hid own5
    have hz5 := bel5.size
    clear own5 bel5 RA4 RB4 B4 S4
    go_wp2_with fail
    refine (l01Next_any G w.heap.size xs _ _ (by omega) S5.out).mono ?_
    rintro e w6 ⟨r6, rfl, v0, v1, s6, o6⟩
    have B6 := Lib.hid (below_only B5.out o6 B5.out.size hG)
    have RA6 := Lib.hid (row_past9 RA5.out hba HG1 o6)
    have O6 := Lib.hid (own_past O5.out (show G < w4.heap.size by omega) o6)
    obtain ⟨j, rfl⟩ : ∃ j : Nat, r6 = (j : Int) := ⟨r6.toNat, by omega⟩
    have hj : j < na := by omega
    clear o6 B5 RA5 O5 S5 RA5L
    go_wp2_with fail
    refine (l01Number_any G w.heap.size xs _ s6).mono ?_
    rintro e w7 ⟨v, rfl, hv, s7, o7⟩
    have B7 := Lib.hid (below_only B6.out o7 B6.out.size hG)
    have RA7 := Lib.hid (row_past9 RA6.out hba HG1 o7)
    have O7 := Lib.hid (own_past O6.out (show G < w4.heap.size by omega) o7)
    obtain ⟨old, hold⟩ := at_lt (show j < a.length by rw [LA.out]; exact hj)
    have ho := (O7.out.cellAt j (by omega)).trans (ints_at hold)
    have hf := O7.out.frozenAt j
    have RA8 : Hid (Row (w7.setCell ⟨g5, j, none⟩ (.int .i64 v)) w7.heap.size (some ⟨ba, oa, none⟩) (ints a)) := fun q u hu => by
      obtain ⟨b', o', e, hb, hc⟩ := RA7.out q u hu
      injection e with e
      injection e with e1 e2 _
      subst e1 e2
      exact ⟨ba, oa, rfl, hb, cell_other hc (by omega)⟩
    have O8 : Hid ((w7.setCell ⟨g5, j, none⟩ (.int .i64 v)).ownsRow w4.heap.size 2 1 (.slice (some ⟨g5, 0, none⟩) na c5) na (ints (a.set j v))) := by
      have := (O7.out.stored j (.int .i64 v)).1
      rw [ints_put] at this
      exact this
    have B8 : Hid (Below w.heap.size w (w7.setCell ⟨g5, j, none⟩ (.int .i64 v))) := below_set B7.out (by omega) _
    clear o7 s6 s7 B6 B7 RA6 RA7 O6 O7 hold
    go_wp2
    go_ret2
    exact ⟨_, ca, na, a, _, c5, na, a.set j v, rfl, LA.out, by omega, RA8.out.more (by simp [World.setCell]), by rw [List.length_set]; exact LA.out, by omega, row_of_own O8.out, B8.out, nca⟩
  · go_wp2
    go_ret2
    exact ⟨_, ca, na, a, _, cb, nb, b, rfl, LA.out, by omega, RA4.out, LB.out, by omega, RB4.out, B4.out, nca⟩
set_option maxHeartbeats 4000000 in
theorem drawOrderOfMap_any (A : Option Addr) (n c : Nat) (xs : List Int) (w : World) (hn : n ≤ 4096) (hx : IsCode w A n xs) : Calls Try.prog 11 #[.slice A n c] w (DrawnS w) := by
  obtain ⟨hl, h, hx⟩ := hx
  go_enter Try.func11, Try.ntmps11
  go_wp2_with fail
  refine (l01From_any A n c w.heap.size xs w hl hn (Nat.le_refl _) h hx).mono ?_
  rintro e w1 ⟨G, rfl, hG, s1, b1⟩
  have HG1 := s1.lt
  have hz1 := b1.size
  clear h hx hl
  go_wp2_with fail
  refine (l07DrawAny_any G w.heap.size xs _ s1).mono ?_
  rintro e w2 ⟨ba, oa, na, ca, a, rfl, la, na1, na38, nca, ⟨hba, hbu⟩, ra, s2, o2⟩
  have B2 := Lib.hid (below_only b1 o2 hz1 hG)
  have RA := Lib.hid ra
  have LA := Lib.hid la
  have hz2 := o2.size
  clear ra la s1 o2 b1
  go_wp2_with fail
  refine (l01Next_any G w.heap.size xs _ _ (by omega) s2).mono ?_
  rintro e w4 ⟨r, rfl, r0, r1, s4, o4⟩
  have B4 := Lib.hid (below_only B2.out o4 B2.out.size hG)
  have RA4 := Lib.hid (row_past9 RA.out hba HG1 o4)
  have S4 := Lib.hid s4
  have hz4 := o4.size
  clear s2 s4 o4 B2 RA
  by_cases hr : r = 0
  · have t0 := beq_t hr
    clear hr
    go_wp2_with fail
    refine (l07Exact_any _).mono ?_
    rintro e w5 ⟨A5, c5, rfl, own5, bel5⟩
    obtain ⟨g5, rfl⟩ := own_addr own5 (by omega)
    have hg5 := (own5.lt g5 rfl).1
    have B5 := Lib.hid (B4.out.trans (bel5.mono B4.out.size))
    have S5 := Lib.hid (S4.out.below bel5)
    have O5 := Lib.hid own5
    have hz5 := bel5.size
    clear own5 bel5 RA4 B4 S4
    go_wp2_with fail
    refine (l01Next_any G w.heap.size xs _ _ (by omega) S5.out).mono ?_
    rintro e w6 ⟨r6, rfl, v0, v1, s6, o6⟩
    have B6 := Lib.hid (below_only B5.out o6 B5.out.size hG)
    have O6 := Lib.hid (own_past O5.out (show G < w4.heap.size by omega) o6)
    obtain ⟨j, rfl⟩ : ∃ j : Nat, r6 = (j : Int) := ⟨r6.toNat, by omega⟩
    have ew : IntKind.i64.wrap (1 + (j : Int)) = 1 + (j : Int) := IntWalk.i64_in _ (by omega)
    have en : (1 + (j : Int)).toNat = j + 1 := by omega
    have k0 : (0 : Int) ≤ 1 + (j : Int) := by omega
    have k1 : 1 + (j : Int) < 38 := by omega
    have hj : j + 1 < 38 := by omega
    clear o6 B5 O5 S5
    go_wp2_with fail
    refine (l01Number_any G w.heap.size xs _ s6).mono ?_
    rintro e w7 ⟨v, rfl, hv, s7, o7⟩
    have B7 := Lib.hid (below_only B6.out o7 B6.out.size hG)
    have O7 := Lib.hid (own_past O6.out (show G < w4.heap.size by omega) o7)
    obtain ⟨old, hold⟩ := at_lt (show j + 1 < exactL.length by rw [exactL_length]; exact hj)
    have ho := (O7.out.cellAt (j + 1) hj).trans (ints_at hold)
    have hf := O7.out.frozenAt (j + 1)
    have O8 : Hid ((w7.setCell ⟨g5, j + 1, none⟩ (.int .i64 v)).ownsRow w4.heap.size 2 1 (.slice (some ⟨g5, 0, none⟩) 38 c5) 38 (ints (exactL.set (j + 1) v))) := by
      have := (O7.out.stored (j + 1) (.int .i64 v)).1
      rw [ints_put] at this
      exact this
    have B8 : Hid (Below w.heap.size w (w7.setCell ⟨g5, j + 1, none⟩ (.int .i64 v))) := below_set B7.out (by omega) _
    have HL : Hid ((exactL.set (j + 1) v).length = 38) := by rw [Hid, List.length_set]; exact exactL_length
    clear o7 s6 s7 B6 B7 O6 O7 hold
    go_wp2
    go_ret
    exact ⟨_, c5, 38, exactL.set (j + 1) v, rfl, HL.out, by omega, row_of_own O8.out, B8.out⟩
  · have t0 := beq_f hr
    go_wp2
    go_ret
    exact ⟨_, ca, na, a, rfl, LA.out, by omega, RA4.out, B4.out⟩
end Go.Proofs.Ytmpnhiemfdmenaa
/-
  Maps that agree, plainly: what is left of them up to a number of nodes is the same as far as they agree.
-/
namespace Go.Proofs.Ytmpnhiemfdmenaa
open Go.RowKit Fld
set_option linter.unusedVariables false
set_option linter.unusedSimpArgs false
set_option maxRecDepth 100000

def trZ (k : Int) (xs : List Int) (ls : List Nat) : List Int := List.zipWith (fun x (l : Nat) => if k < (l : Int) then 0 else x) xs ls
theorem trZ_zero {k : Int} : ∀ (ls : List Nat) (xs ys : List Int), xs.length = ls.length → ys.length = ls.length → (∀ l ∈ ls, k < (l : Int)) → trZ k xs ls = trZ k ys ls
  | [], xs, ys, h1, h2, _ => by
    obtain rfl : xs = [] := List.eq_nil_of_length_eq_zero h1
    obtain rfl : ys = [] := List.eq_nil_of_length_eq_zero h2
    rfl
  | l :: ls, [], _, h1, _, _ => by simp at h1
  | l :: ls, _ :: _, [], _, h2, _ => by simp at h2
  | l :: ls, x :: xs, y :: ys, h1, h2, h => by
    have hl := h l (by simp)
    have ih := trZ_zero ls xs ys (by simpa using h1) (by simpa using h2) (fun m hm => h m (by simp [hm]))
    show (if k < (l : Int) then 0 else x) :: trZ k xs ls = (if k < (l : Int) then 0 else y) :: trZ k ys ls
    rw [if_pos hl, if_pos hl, ih]
theorem trZ_agr {k : Int} (hk : k ≤ 6) : ∀ (ls : List Nat) (xs ys : List Int), xs.length = ls.length → ys.length = ls.length → ls.Pairwise (fun a b => a ≤ b) → (trZ k xs ls = trZ k ys ls ↔ k ≤ agrL xs ys ls)
  | [], xs, ys, h1, h2, _ => by
    obtain rfl : xs = [] := List.eq_nil_of_length_eq_zero h1
    obtain rfl : ys = [] := List.eq_nil_of_length_eq_zero h2
    simp [trZ, agrL, hk]
  | l :: ls, [], _, h1, _, _ => by simp at h1
  | l :: ls, _ :: _, [], _, h2, _ => by simp at h2
  | l :: ls, x :: xs, y :: ys, h1, h2, h => by
    rw [List.pairwise_cons] at h
    have e : trZ k (x :: xs) (l :: ls) = trZ k (y :: ys) (l :: ls) ↔ ((if k < (l : Int) then 0 else x) = (if k < (l : Int) then 0 else y) ∧ trZ k xs ls = trZ k ys ls) := by
      show (if k < (l : Int) then 0 else x) :: trZ k xs ls = (if k < (l : Int) then 0 else y) :: trZ k ys ls ↔ _
      rw [List.cons.injEq]
    rw [e, agrL]
    by_cases hxy : x = y
    · rw [if_pos hxy, ← trZ_agr hk ls xs ys (by simpa using h1) (by simpa using h2) h.2, hxy]
      simp
    · rw [if_neg hxy]
      by_cases hl : k < (l : Int)
      · rw [if_pos hl, if_pos hl]
        have := trZ_zero (k := k) ls xs ys (by simpa using h1) (by simpa using h2) (fun m hm => by have := h.1 m hm; omega)
        constructor
        · intro _; omega
        · intro _; exact ⟨rfl, this⟩
      · rw [if_neg hl, if_neg hl]
        constructor
        · intro h9; exact absurd h9.1 hxy
        · intro h9; omega
theorem lens_up : lens.Pairwise (fun a b => a ≤ b) := by decide
theorem trunc_agree {a b : List Int} {k : Int} (ha : a.length = 38) (hb : b.length = 38) (hk : k ≤ 6) : eqL (truncL a k) (truncL b k) = decide (k ≤ agrA a b) := by
  unfold eqL
  have := trZ_agr hk lens a b (by rw [ha, lens_len]) (by rw [hb, lens_len]) lens_up
  exact decide_eq_decide.2 this
theorem agrL_bd : ∀ (ls : List Nat) (xs ys : List Int), (∀ l ∈ ls, l ≤ 6) → -1 ≤ agrL xs ys ls ∧ agrL xs ys ls ≤ 6
  | [], [], _, _ => by simp [agrL]
  | [], _ :: _, [], _ => by simp [agrL]
  | [], _ :: _, _ :: _, _ => by simp [agrL]
  | l :: ls, [], _, _ => by simp [agrL]
  | l :: ls, _ :: _, [], _ => by simp [agrL]
  | l :: ls, x :: xs, y :: ys, h => by
    rw [agrL]
    have hl := h l (by simp)
    by_cases hxy : x = y
    · rw [if_pos hxy]; exact agrL_bd ls xs ys (fun m hm => h m (by simp [hm]))
    · rw [if_neg hxy]; omega
theorem agrA_bd (a b : List Int) : -1 ≤ agrA a b ∧ agrA a b ≤ 6 := agrL_bd lens a b lens_bd
theorem exactL_map : isMp exactL = true := isMp_iff.2 ⟨exactL_length, exactL_num⟩
end Go.Proofs.Ytmpnhiemfdmenaa
/-
  Up to which number of nodes maps agree: AgreeTo, the program's and the model's.
-/
namespace Go.Proofs.Ytmpnhiemfdmenaa
open Go.RowKit Fld
set_option linter.unusedVariables false
set_option linter.unusedSimpArgs false
set_option maxRecDepth 100000

/-- lists that stand side by side in memory -/
def ListsM (w : World) (B : Nat) (A : Option Addr) (m : List (List Int)) : Prop :=
  ∀ k r, m[k]? = some r → ∃ b o Ak ck, A = some ⟨b, o, none⟩ ∧ w.cell? ⟨b, o + k, none⟩ = some (.slice Ak r.length ck) ∧ Row w B Ak (ints r)
def mapsM (m : List (List Int)) : Bool := m.all isMp
theorem mapsM_no {m : List (List Int)} {k : Nat} {r : List Int} (h : m[k]? = some r) (hr : isMp r = false) : mapsM m = false := by
  unfold mapsM
  rw [List.all_eq_false]
  exact ⟨r, List.mem_of_getElem? h, by rw [hr]; simp⟩
theorem mapsM_two (xs ys : List Int) : mapsM [xs, ys] = (isMp xs && isMp ys) := by simp [mapsM]
set_option maxHeartbeats 400000 in
theorem areMaps_any (A : Option Addr) (n c B : Nat) (m : List (List Int)) (w : World) (hl : m.length = n) (hn : n ≤ 1048576) (hq : ∀ r ∈ m, r.length ≤ 1048576) (h : ListsM w B A m) :
    Calls Try.prog 27 #[.slice A n c] w fun e w' => e = .returned (.bool (mapsM m)) ∧ w = w' := by
  have HL := Lib.hid hl
  have HQ := Lib.hid hq
  clear hl hq
  go_enter Try.func27, Try.ntmps27
  go_wp2_with fail
  go_loop [7] (fun i => ∃ k : Nat, k ≤ n ∧ i = .int .i64 k ∧ Hid ((m.take k).all isMp = true)) (fun i => n - (intOf i).toNat)
  case atStart => exact ⟨0, Nat.zero_le _, rfl, rfl⟩
  case round =>
    obtain ⟨k, hk, rfl, HT⟩ := hrel
    by_cases hlt : k < n
    · obtain ⟨r, hr⟩ := at_lt (show k < m.length by rw [HL.out]; exact hlt)
      obtain ⟨b, o, Ak, ck, rfl, hc, hrow⟩ := h k r hr
      have hrl := HQ.out r (List.mem_of_getElem? hr)
      cases hs : isMp r
      · have G := Lib.hid (mapsM_no hr hs)
        have C0 := fun w' => isMap_any Ak r.length ck B r w' rfl (by omega)
        rw [hs] at C0
        clear hr HT
        go_wp2_with (go_at_call 32; refine (C0 _ hrow).mono ?_; rintro e w' ⟨rfl, rfl⟩)
        go_ret
        exact ⟨ret_bool G.out.symm, rfl⟩
      · have G : Hid ((m.take (k + 1)).all isMp = true) := by
          unfold Hid
          rw [List.take_add_one, hr, List.all_append, HT.out]
          simp [hs]
        have C0 := fun w' => isMap_any Ak r.length ck B r w' rfl (by omega)
        rw [hs] at C0
        clear hr HT
        go_wp2_with (go_at_call 32; refine (C0 _ hrow).mono ?_; rintro e w' ⟨rfl, rfl⟩)
        go_round
        case rel => exact ⟨k + 1, by omega, by go_num, G⟩
        case measure => simp [intOf]; omega
    · have G : Hid (mapsM m = true) := by
        have := HT.out
        rw [List.take_of_length_le (by rw [HL.out]; omega)] at this
        exact this
      clear HT
      go_wp2
      go_ret
      exact ⟨ret_bool G.out.symm, rfl⟩
theorem ListsM.two {w : World} {A A' : Option Addr} {n n' c c' B : Nat} {xs ys : List Int} (T : TypeId) (hl : xs.length = n) (hl' : ys.length = n') (hB : B ≤ w.heap.size) (h : Row w B A (ints xs)) (h' : Row w B A' (ints ys)) : ListsM (w.alloc (.cells #[.slice A n c, .slice A' n' c'] T)) B (some ⟨w.heap.size, 0, none⟩) [xs, ys] := by
  intro k r hr
  match k, hr with
  | 0, hr =>
    obtain rfl : xs = r := by simpa using hr
    exact ⟨_, 0, A, c, rfl, by rw [World.cell?_alloc_at (hn := by simp)]; rw [hl]; rfl, h.alloc hB _⟩
  | 1, hr =>
    obtain rfl : ys = r := by simpa using hr
    exact ⟨_, 0, A', c', rfl, by rw [World.cell?_alloc_at (hn := by simp)]; rw [hl']; rfl, h'.alloc hB _⟩
  | k+2, hr => simp at hr

/-- an integer, and only new memory -/
def ResN1 (x : Int) (w : World) (e : Ending) (w' : World) : Prop := e = .returned (.int .i64 x) ∧ Below w.heap.size w w'
set_option maxHeartbeats 1000000 in
theorem agreesTo_any (xs ys : List Int) (w : World) (hl : xs.length = 38) (hl' : ys.length = 38) :
    Calls Try.prog 29 #[.agg (arrM xs), .agg (arrM ys)] w (ResN1 (agrA xs ys) w) := by
  have HL := Lib.hid hl
  have HL' := Lib.hid hl'
  have HIF := Lib.hid info_arrM
  clear hl hl'
  have F := Lib.hid (arrM_two w xs ys)
  go_enter Try.func29, Try.ntmps29
  go_wp2_with fail
  refine (mapTrees_any _).mono ?_
  rintro e w1 ⟨A1, c1, rfl, own1, bel1⟩
  have B1 : Hid (Below w.heap.size w w1) := F.out.2.2.trans (bel1.mono (by simp; omega))
  have FX : Hid (ArrM w1 w.heap.size xs) := F.out.1.below bel1 (by simp; omega)
  have FY : Hid (ArrM w1 (w.heap.size + 1) ys) := F.out.2.1.below bel1 (by simp)
  have FT : Hid (Row w1 w1.heap.size A1 (strs mapTx)) := row_of_own own1
  clear own1 bel1 F
  go_wp2_with fail
  go_loopw [9] (fun i wr => ∃ k d : Nat, k ≤ 38 ∧ i = .int .i64 k ∧ wr = w1.drewN d ∧ Hid (agrA xs ys = agrL (xs.drop k) (ys.drop k) (lens.drop k))) (fun i _ => 38 - (intOf i).toNat)
  case atStart => exact ⟨0, 0, by omega, rfl, rfl, agr_start xs ys⟩
  case round =>
    obtain ⟨k, d, hk, rfl, rfl, HI⟩ := hrel
    by_cases hlt : k < 38
    · obtain ⟨x, hx⟩ := at_lt (show k < xs.length by rw [HL.out]; exact hlt)
      obtain ⟨y, hy⟩ := at_lt (show k < ys.length by rw [HL'.out]; exact hlt)
      obtain ⟨l, hll, l6⟩ := lens_at hlt
      obtain ⟨t, ht, htl⟩ := mapTx_at hll
      obtain ⟨b, o, rfl, hb, hc⟩ := FT.out k _ (strs_at ht)
      have hcx : w1.cell? ⟨w.heap.size, k, none⟩ = some (.int .i64 x) := FX.out.cell hx
      have hcy : w1.cell? ⟨w.heap.size + 1, k, none⟩ = some (.int .i64 y) := FY.out.cell hy
      have hct : w1.cell? ⟨b, o + k, none⟩ = some (.string ⟨t.toArray⟩) := hc
      have k0 : (0 : Int) ≤ (k : Int) := Int.natCast_nonneg _
      have k1 : (k : Int) < 38 := by omega
      by_cases hxy : x = y
      · have G := Lib.hid (HI.out.trans (agr_next hx hy hll hxy))
        have tt : (x != y) = false := bne_f hxy
        obtain ⟨X, hX⟩ : ∃ X : ByteArray, X = ⟨t.toArray⟩ := ⟨_, rfl⟩
        rw [← hX] at hct
        clear hx hy hll ht htl hc HI hxy hX
        go_wp2_with fail
        go_quiet (fail)
        go_wp2
        go_roundw
        case rel => exact ⟨k + 1, _, by omega, by go_num, rfl, G⟩
        case measure => simp [intOf]; omega
      · have G := Lib.hid (HI.out.trans (agr_stop hx hy hll hxy))
        have tt : (x != y) = true := bne_t hxy
        have htl2 : t.length / 2 = l := by omega
        have C1 := fun w' => nodes_any t w' (by omega)
        rw [htl2] at C1
        obtain ⟨X, hX⟩ : ∃ X : ByteArray, X = ⟨t.toArray⟩ := ⟨_, rfl⟩
        rw [← hX] at hct C1
        clear hx hy hll ht htl htl2 hc HI hxy hX
        go_wp2_with fail
        go_quiet (fail)
        go_wp2_with fail
        refine (C1 _).mono ?_
        rintro e w' ⟨rfl, rfl⟩
        go_wp2
        go_ret
        exact ⟨ret_i64 G.out.symm, below_drewN B1.out _⟩
    · obtain rfl : k = 38 := by omega
      have G := Lib.hid (HI.out.trans agr_end)
      clear HI
      go_wp2
      go_ret
      exact ⟨ret_i64 G.out.symm, below_drewN B1.out _⟩
set_option maxHeartbeats 1000000 in
theorem l07Agree_any (A A' : Option Addr) (c c' B B' : Nat) (xs ys : List Int) (w : World) (hl : xs.length = 38) (hl' : ys.length = 38) (hB : B ≤ w.heap.size) (hB' : B' ≤ w.heap.size) (h : Row w B A (ints xs)) (h' : Row w B' A' (ints ys)) :
    Calls Try.prog 31 #[.slice A 38 c, .slice A' 38 c'] w (ResN1 (agrA xs ys) w) := by
  have HL := Lib.hid hl
  have HL' := Lib.hid hl'
  clear hl hl'
  obtain ⟨x, hx⟩ := at_lt (show 0 < xs.length by rw [HL.out]; omega)
  obtain ⟨y, hy⟩ := at_lt (show 0 < ys.length by rw [HL'.out]; omega)
  obtain ⟨b, o, rfl, hb, hc⟩ := h 0 _ (ints_at hx)
  obtain ⟨b', o', rfl, hb', hc'⟩ := h' 0 _ (ints_at hy)
  rw [Nat.add_zero] at hc hc'
  have hl0 : lens[0]? = some 0 := rfl
  by_cases hxy : x = y
  · have G := Lib.hid ((agr_start xs ys).trans (agr_next hx hy hl0 hxy))
    have tt : (x != y) = false := bne_f hxy
    have C1 := fun w' => l03All_any 6 w' (by omega) (by omega)
    rw [to_len] at C1
    clear hx hy hl0 hxy
    go_enter Try.func31, Try.ntmps31
    go_wp2_with fail
    go_quiet (fail)
    go_wp2_with fail
    refine (C1 _).mono ?_
    rintro e w1 ⟨A1, c1, vs1, rfl, own1, bel1⟩
    have B1 : Hid (Below w.heap.size w w1) := below_undrew' bel1
    have FM : Hid (Mat w1 w1.heap.size A1 (treesTo 6)) := own1.mat
    have FX : Hid (Row w1 B (some ⟨b, o, none⟩) (ints xs)) := h.below B1.out hB
    have FY : Hid (Row w1 B' (some ⟨b', o', none⟩) (ints ys)) := h'.below B1.out hB'
    clear own1 bel1 C1 hc hc'
    go_wp2_with fail
    go_loopw [6] (fun i wr => ∃ k d : Nat, k ≤ 37 ∧ i = .int .i64 k ∧ wr = w1.drewN d ∧ Hid (agrA xs ys = agrL (xs.drop (k + 1)) (ys.drop (k + 1)) (lens.drop (k + 1)))) (fun i _ => 37 - (intOf i).toNat)
    case atStart => exact ⟨0, 0, by omega, rfl, rfl, G⟩
    case round =>
      obtain ⟨k, d, hk, rfl, rfl, HI⟩ := hrel
      by_cases hlt : k < 37
      · obtain ⟨x, hx⟩ := at_lt (show k + 1 < xs.length by rw [HL.out]; omega)
        obtain ⟨y, hy⟩ := at_lt (show k + 1 < ys.length by rw [HL'.out]; omega)
        obtain ⟨t, ht⟩ := at_lt (show k < (treesTo 6).length by rw [to_len]; exact hlt)
        have hll := to_at ht
        obtain ⟨b1, o1, Ak, ck, rfl, _, hct, _, hcm, hrow⟩ := FM.out k t ht
        obtain ⟨b2, o2, e2, _, hcx⟩ := FX.out (k + 1) _ (ints_at hx)
        obtain ⟨b3, o3, e3, _, hcy⟩ := FY.out (k + 1) _ (ints_at hy)
        injection e2 with e2
        injection e2 with e4 e5 _
        injection e3 with e3
        injection e3 with e6 e7 _
        subst e4 e5 e6 e7
        have k0 : (0 : Int) ≤ (k : Int) + 1 := by omega
        have k1 : (k : Int) + 1 < 38 := by omega
        have ew : IntKind.i64.wrap ((k : Int) + 1) = (k : Int) + 1 := IntWalk.i64_in _ (by omega)
        have en : ((k : Int) + 1).toNat = k + 1 := by omega
        have l6 := lens_bd _ (List.mem_of_getElem? hll)
        have ewt : IntKind.i64.wrap ((t.length : Int) - 1) = (t.length : Int) - 1 := IntWalk.i64_in _ (by omega)
        by_cases hxy : x = y
        · have G := Lib.hid (HI.out.trans (agr_next hx hy hll hxy))
          have tt : (x != y) = false := bne_f hxy
          clear hx hy hll ht HI hxy
          go_wp2_with fail
          go_quiet (fail)
          go_wp2
          go_roundw
          case rel => exact ⟨k + 1, _, by omega, by go_num, rfl, G⟩
          case measure => simp [intOf]; omega
        · have G := Lib.hid (HI.out.trans (agr_stop hx hy hll hxy))
          have tt : (x != y) = true := bne_t hxy
          clear hx hy hll ht HI hxy
          go_wp2_with fail
          go_quiet (fail)
          go_wp2
          go_ret
          exact ⟨ret_i64 G.out.symm, below_drewN B1.out _⟩
      · obtain rfl : k = 37 := by omega
        have G := Lib.hid (HI.out.trans agr_end)
        clear HI
        go_wp2
        go_ret
        exact ⟨ret_i64 G.out.symm, below_drewN B1.out _⟩
  · have G := Lib.hid ((agr_start xs ys).trans (agr_stop hx hy hl0 hxy))
    have tt : (x != y) = true := bne_t hxy
    clear hx hy hl0 hxy
    go_enter Try.func31, Try.ntmps31
    go_wp2_with fail
    go_quiet (fail)
    go_wp2
    go_ret
    exact ⟨ret_i64 G.out.symm, below_drewN (Below.refl _ _) _⟩
set_option maxHeartbeats 1000000 in
theorem sAgreeTo_L (A A' : Option Addr) (n n' c c' B B' : Nat) (a b : List Int) (w : World) (hl : a.length = n) (hl' : b.length = n') (hn : n ≤ 1048576) (hn' : n' ≤ 1048576) (hB : B ≤ w.heap.size) (hB' : B' ≤ w.heap.size) (h : Row w B A (ints a)) (h' : Row w B' A' (ints b)) :
    Calls Try.prog 8 #[.slice A n c, .slice A' n' c'] w (ResI (agreeA a b) w) := by
  have C0 := l07Is_any A n c B a w hl (by omega) h
  have C1 := l07Is_any A' n' c' B' b w hl' (by omega) h'
  cases ha : isMp a
  · have G := Lib.hid (agreeA_no1 (b := b) ha)
    rw [ha] at C0
    clear hl hl' C1
    go_enter Try.func8, Try.ntmps8
    go_wp2_with fail
    refine C0.mono ?_
    rintro e w' ⟨rfl, rfl⟩
    go_wp2
    go_ret2
    exact ResI.of' G.out (Below.refl _ _)
  · rw [ha] at C0
    cases hb : isMp b
    · have G := Lib.hid (agreeA_no2 (a := a) hb)
      rw [hb] at C1
      clear hl hl'
      go_enter Try.func8, Try.ntmps8
      go_wp2_with fail
      refine C0.mono ?_
      rintro e w' ⟨rfl, rfl⟩
      go_wp2_with fail
      refine C1.mono ?_
      rintro e w' ⟨rfl, rfl⟩
      go_wp2
      go_ret2
      exact ResI.of' G.out (Below.refl _ _)
    · have G := Lib.hid (agreeA_yes ha hb)
      rw [hb] at C1
      have HP := Lib.hid (isMp_parts ha hl)
      have HP' := Lib.hid (isMp_parts hb hl')
      have HL := Lib.hid hl
      have HL' := Lib.hid hl'
      obtain ⟨e1, _⟩ := isMp_parts ha hl
      obtain ⟨e2, _⟩ := isMp_parts hb hl'
      clear hl hl' ha hb
      subst e1 e2
      go_enter Try.func8, Try.ntmps8
      go_wp2_with fail
      refine C0.mono ?_
      rintro e w' ⟨rfl, rfl⟩
      go_wp2_with fail
      refine C1.mono ?_
      rintro e w' ⟨rfl, rfl⟩
      go_wp2_with fail
      refine (l07Agree_any A A' c c' B B' a b _ HL.out HL'.out hB hB' h h').mono ?_
      rintro e w1 ⟨rfl, b1⟩
      have GB := Lib.hid b1
      clear b1
      go_wp2
      go_ret2
      exact ResI.of' G.out GB.out
set_option maxHeartbeats 1000000 in
theorem pAgreeTo_L (A A' : Option Addr) (n n' c c' B B' : Nat) (a b : List Int) (w : World) (hl : a.length = n) (hl' : b.length = n') (hn : n ≤ 1048576) (hn' : n' ≤ 1048576) (hB : B ≤ w.heap.size) (hB' : B' ≤ w.heap.size) (h : Row w B A (ints a)) (h' : Row w B' A' (ints b)) :
    Calls Try.prog 7 #[.slice A n c, .slice A' n' c'] w (ResI (agreeA a b) w) := by
  have HM : Hid (ListsM (w.alloc (.cells #[.slice A n c, .slice A' n' c'] 24)) w.heap.size (some ⟨w.heap.size, 0, none⟩) [a, b]) := ListsM.two _ hl hl' (Nat.le_refl _) (h.more hB) (h'.more hB')
  have HQ : Hid (∀ r ∈ [a, b], r.length ≤ 1048576) := by intro r hr; simp at hr; rcases hr with rfl | rfl <;> omega
  have HT := mapsM_two a b
  cases hs : (isMp a && isMp b)
  · have G : Hid (agreeA a b = (0, 1)) := by
      cases ha : isMp a
      · exact agreeA_no1 ha
      · rw [ha, Bool.true_and] at hs
        exact agreeA_no2 hs
    rw [hs] at HT
    have HT' := Lib.hid HT
    clear HT hl hl' hs
    go_enter Try.func7, Try.ntmps7
    go_wp2_with (go_at_call 27; refine (areMaps_any _ 2 _ w.heap.size [a, b] _ rfl (by omega) HQ.out (by exact HM.out)).mono ?_; rintro e w' ⟨rfl, rfl⟩; rw [HT'.out])
    go_ret2
    exact ResI.of' G.out ((Below.refl _ _).alloc (Nat.le_refl _) _)
  · obtain ⟨ha, hb⟩ := (Bool.and_eq_true _ _ ▸ hs : isMp a = true ∧ isMp b = true)
    have G := Lib.hid (agreeA_yes ha hb)
    rw [hs] at HT
    have HT' := Lib.hid HT
    obtain ⟨e1, na⟩ := isMp_parts ha hl
    obtain ⟨e2, nb⟩ := isMp_parts hb hl'
    subst e1 e2
    have HL := Lib.hid hl
    have HL' := Lib.hid hl'
    have NA := Lib.hid na
    have NB := Lib.hid nb
    clear HT hl hl' ha hb hs na nb
    go_enter Try.func7, Try.ntmps7
    go_wp2_with fail
    refine (areMaps_any _ 2 _ w.heap.size [a, b] _ rfl (by omega) HQ.out (by exact HM.out)).mono ?_
    rintro e w' ⟨rfl, rfl⟩
    rw [HT'.out]
    have B1 : Below w.heap.size w (w.alloc (.cells #[.slice A 38 c, .slice A' 38 c'] 24)) := (Below.refl _ _).alloc (Nat.le_refl _) _
    go_wp2_with fail
    refine (treeMapOf_any _ _ B a _ HL.out NA.out (by simp; omega) (by exact h.below B1 hB)).mono ?_
    rintro e w1 ⟨rfl, b1⟩
    have B2 := B1.trans (b1.mono B1.size)
    clear b1
    go_wp2_with fail
    refine (treeMapOf_any _ _ B' b _ HL'.out NB.out (Nat.le_trans hB' B2.size) (by exact h'.below B2 hB')).mono ?_
    rintro e w2 ⟨rfl, b2⟩
    have B3 := B2.trans (b2.mono B2.size)
    clear b2
    go_wp2_with fail
    refine (agreesTo_any a b _ HL.out HL'.out).mono ?_
    rintro e w3 ⟨rfl, b3⟩
    have B4 := Lib.hid (B3.trans (b3.mono B3.size))
    clear b3
    go_wp2
    go_ret2
    exact ResI.of' G.out B4.out
end Go.Proofs.Ytmpnhiemfdmenaa
/-
  The order of a map, the program's and the model's.
-/
namespace Go.Proofs.Ytmpnhiemfdmenaa
open Go.RowKit Fld
set_option linter.unusedVariables false
set_option linter.unusedSimpArgs false
set_option maxRecDepth 100000

def orderA (a : List Int) : Int × Int := if isMp a = true then (if a.getD 0 0 = 1 then (agrA a exactL, 0) else (0, 5)) else (0, 1)
theorem orderA_no {a : List Int} (h : isMp a = false) : orderA a = (0, 1) := if_neg (by rw [h]; simp)
theorem orderA_one {a : List Int} {x : Int} (h : isMp a = true) (hx : a[0]? = some x) (e : x = 1) : orderA a = (agrA a exactL, 0) := by
  unfold orderA; rw [if_pos h, List.getD_eq_getElem?_getD, hx]; exact if_pos e
theorem orderA_not {a : List Int} {x : Int} (h : isMp a = true) (hx : a[0]? = some x) (e : x ≠ 1) : orderA a = (0, 5) := by
  unfold orderA; rw [if_pos h, List.getD_eq_getElem?_getD, hx]; exact if_neg e
set_option maxHeartbeats 1000000 in
theorem l07Code_same (A : Option Addr) (n c B : Nat) (a : List Int) (w : World) (hl : a.length = n) (hn : n ≤ 1048576) (h : Row w B A (ints a)) :
    Calls Try.prog 39 #[.slice A n c, .slice A n c] w fun e w' => e = .returned (.int .i64 (orderA a).2) ∧ w = w' := by
  have C0 := l07Is_any A n c B a w hl (by omega) h
  cases ha : isMp a
  · have G := Lib.hid (orderA_no ha)
    rw [ha] at C0
    clear hl
    go_enter Try.func39, Try.ntmps39
    go_wp2_with (go_at_call 30; refine C0.mono ?_; rintro e w' ⟨rfl, rfl⟩)
    go_ret
    exact ⟨ret_i64 (by rw [G.out]), rfl⟩
  · obtain ⟨x, b, o, hx, rfl, hc, p1, x0, x1⟩ := map_first ha hl h
    rw [ha] at C0
    by_cases hx1 : x = 1
    · have G := Lib.hid (orderA_one ha hx hx1)
      have t : (x != 1) = false := bne_f hx1
      clear hl hx hx1
      go_enter Try.func39, Try.ntmps39
      go_wp2_with (go_at_call 30; refine C0.mono ?_; rintro e w' ⟨rfl, rfl⟩)
      go_ret
      exact ⟨ret_i64 (by rw [G.out]), rfl⟩
    · have G := Lib.hid (orderA_not ha hx hx1)
      have t : (x != 1) = true := bne_t hx1
      clear hl hx hx1
      go_enter Try.func39, Try.ntmps39
      go_wp2_with (go_at_call 30; refine C0.mono ?_; rintro e w' ⟨rfl, rfl⟩)
      go_ret
      exact ⟨ret_i64 (by rw [G.out]), rfl⟩
set_option maxHeartbeats 1000000 in
theorem sOrderOfMap_L (A : Option Addr) (n c B : Nat) (a : List Int) (w : World) (hl : a.length = n) (hn : n ≤ 1048576) (hB : B ≤ w.heap.size) (h : Row w B A (ints a)) :
    Calls Try.prog 13 #[.slice A n c] w (ResI (orderA a) w) := by
  have C0 := l07Code_same A n c B a w hl hn h
  have done : ∀ k : Int, k ≠ 0 → orderA a = (0, k) → Calls Try.prog 13 #[.slice A n c] w (ResI (orderA a) w) := by
    intro k hk e
    rw [e] at C0
    have t : (k != 0) = true := bne_t hk
    have G := Lib.hid e
    clear hl e
    go_enter Try.func13, Try.ntmps13
    go_wp2_with fail
    refine C0.mono ?_
    rintro e w' ⟨rfl, rfl⟩
    go_wp2
    go_ret2
    exact ResI.of' G.out (Below.refl _ _)
  cases ha : isMp a
  · exact done 1 (by omega) (orderA_no ha)
  · obtain ⟨x, b, o, hx, rfl, hc, p1, x0, x1⟩ := map_first ha hl h
    by_cases hx1 : x = 1
    · have e := orderA_one ha hx hx1
      have G := Lib.hid e
      rw [e] at C0
      obtain ⟨e1, _⟩ := isMp_parts ha hl
      have HL0 := hl
      subst e1
      have HL := Lib.hid HL0
      clear hl HL0 hx hx1 ha done e
      go_enter Try.func13, Try.ntmps13
      go_wp2_with fail
      refine C0.mono ?_
      rintro e w' ⟨rfl, rfl⟩
      go_wp2_with fail
      refine (l07Exact_any _).mono ?_
      rintro e w1 ⟨A1, c1, rfl, own1, bel1⟩
      have hs1 := bel1.size
      have HR := Lib.hid (h.below bel1 hB)
      have HE : Hid (Row w1 w1.heap.size A1 (ints exactL)) := row_of_own own1
      have B1 := Lib.hid bel1
      clear own1 bel1 hc
      go_wp2_with fail
      refine (l07Agree_any _ A1 c c1 B w1.heap.size a exactL _ HL.out exactL_length (by omega) (Nat.le_refl _) HR.out HE.out).mono ?_
      rintro e w2 ⟨rfl, b2⟩
      have GB := Lib.hid (B1.out.trans (b2.mono hs1))
      clear b2
      go_wp2
      go_ret2
      exact ResI.of' G.out GB.out
    · exact done 5 (by omega) (orderA_not ha hx hx1)
set_option maxHeartbeats 1000000 in
theorem pOrderOfMap_L (A : Option Addr) (n c B : Nat) (a : List Int) (w : World) (hl : a.length = n) (hn : n ≤ 1048576) (hB : B ≤ w.heap.size) (h : Row w B A (ints a)) :
    Calls Try.prog 12 #[.slice A n c] w (ResI (orderA a) w) := by
  have C0 := isMap_any A n c B a w hl (by omega) h
  have C1 := isCharacter_any A n c B a w hl (by omega) h
  cases ha : isMp a
  · have G := Lib.hid (orderA_no ha)
    rw [ha] at C0
    clear hl C1
    go_enter Try.func12, Try.ntmps12
    go_wp2_with fail
    refine C0.mono ?_
    rintro e w' ⟨rfl, rfl⟩
    go_wp2
    go_ret2
    exact ResI.of' G.out (Below.refl _ _)
  · obtain ⟨x, b, o, hx, rfl, hc, p1, x0, x1⟩ := map_first ha hl h
    have hch := isChr_at ha hx
    rw [ha] at C0
    by_cases hx1 : x = 1
    · have G := Lib.hid (orderA_one ha hx hx1)
      rw [hch, decide_eq_true hx1] at C1
      obtain ⟨e1, na⟩ := isMp_parts ha hl
      have HL0 := hl
      subst e1
      have HL := Lib.hid HL0
      have NA := Lib.hid na
      clear hl HL0 hx hx1 ha hch na
      go_enter Try.func12, Try.ntmps12
      go_wp2_with fail
      refine C0.mono ?_
      rintro e w' ⟨rfl, rfl⟩
      go_wp2_with fail
      refine C1.mono ?_
      rintro e w' ⟨rfl, rfl⟩
      go_wp2_with fail
      refine (treeMapOf_any _ c B a _ HL.out NA.out hB h).mono ?_
      rintro e w1 ⟨rfl, b1⟩
      go_wp2_with fail
      refine (exactMap_any _).mono ?_
      rintro e w2 ⟨rfl, b2⟩
      have B2 := Lib.hid (b1.trans (b2.mono b1.size))
      clear b1 b2 hc
      go_wp2_with fail
      refine (agreesTo_any a exactL _ HL.out exactL_length).mono ?_
      rintro e w3 ⟨rfl, b3⟩
      have GB := Lib.hid (B2.out.trans (b3.mono B2.out.size))
      clear b3
      go_wp2
      go_ret2
      exact ResI.of' G.out GB.out
    · have G := Lib.hid (orderA_not ha hx hx1)
      rw [hch, decide_eq_false hx1] at C1
      clear hl hx hx1 hch
      go_enter Try.func12, Try.ntmps12
      go_wp2_with fail
      refine C0.mono ?_
      rintro e w' ⟨rfl, rfl⟩
      go_wp2_with fail
      refine C1.mono ?_
      rintro e w' ⟨rfl, rfl⟩
      go_wp2
      go_ret2
      exact ResI.of' G.out (Below.refl _ _)
end Go.Proofs.Ytmpnhiemfdmenaa
/-
  What TruncateMap answers, the program's and the model's.
-/
namespace Go.Proofs.Ytmpnhiemfdmenaa
open Go.RowKit Fld
set_option linter.unusedVariables false
set_option linter.unusedSimpArgs false
set_option maxRecDepth 100000

set_option maxHeartbeats 2000000 in
theorem pTruncateMap_L (A : Option Addr) (n c B : Nat) (a : List Int) (y : Int) (w : World) (hl : a.length = n) (hn : n ≤ 1048576) (hB : B ≤ w.heap.size) (h : Row w B A (ints a)) (hy : -9223372036854775808 ≤ y ∧ y ≤ 9223372036854775807) :
    Calls Try.prog 9 #[.slice A n c, .int .i64 y] w (ResL (truncA a y) w) := by
  have C0 := isMap_any A n c B a w hl (by omega) h
  cases ha : isMp a
  · have G := Lib.hid (truncA_no (y := y) ha)
    rw [ha] at C0
    clear hl
    go_enter Try.func9, Try.ntmps9
    go_wp2_with fail
    refine C0.mono ?_
    rintro e w' ⟨rfl, rfl⟩
    go_wp2
    go_ret2
    exact ResL.nil G.out (Below.refl _ _)
  · obtain ⟨e1, na⟩ := isMp_parts ha hl
    rw [ha] at C0
    have HL0 := hl
    subst e1
    have HL := Lib.hid HL0
    have NA := Lib.hid na
    by_cases hyy : 0 ≤ y ∧ y ≤ 6
    · have G := Lib.hid (truncA_yes ha hyy)
      obtain ⟨y0, y6⟩ := hyy
      have hTL := Lib.hid (truncL_length HL0 y)
      clear hl ha na HL0
      go_enter Try.func9, Try.ntmps9
      go_wp2_with fail
      refine C0.mono ?_
      rintro e w' ⟨rfl, rfl⟩
      go_wp2_with fail
      refine (treeMapOf_any A c B a _ HL.out NA.out hB h).mono ?_
      rintro e w1 ⟨rfl, b1⟩
      have hs1 := b1.size
      go_wp2_with (refine wpList_store_row rfl 50 (.tmp 6) (.tmp 19) rfl w1.heap.size (arrM a) rfl rfl 50 (arrM zero38) (ArrM.new w1 zero38) (by rw [arrM_size HL.out]; exact info_arrM) (by rw [arrM_size HL.out]; rfl) (arrM_cells _) ?_)
      refine (mapTrees_any _).mono ?_
      rintro e w2 ⟨A2, c2, rfl, own2, bel2⟩
      have FX0 : ArrM ((w1.alloc (.cells (arrM zero38) 50)).setRow w1.heap.size (arrM a)) w1.heap.size a := setRow_heap _ _ _ _ _ _ (ArrM.new w1 zero38)
      have FX := Lib.hid (FX0.below bel2 (by simp [World.setRow]))
      have FB : Hid (Below w.heap.size w w2) := (below_setRow (b1.alloc hs1 (.cells (arrM zero38) 50)) hs1 (arrM a)).trans (bel2.mono (by simp [World.setRow]; omega))
      obtain ⟨g2, rfl⟩ := own_addr own2 (by omega)
      have hg2 : w1.heap.size < g2 := by have := (own2.lt g2 rfl).1; simp [World.setRow] at this; omega
      have FT := Lib.hid (strs_cell (row_of_own own2))
      clear own2 bel2 FX0 b1 C0
      go_wp2_with fail
      go_loopw [22] (fun i wr => ∃ k : Nat, k ≤ 38 ∧ i = .int .i64 k ∧ Hid (ArrM wr w1.heap.size ((truncL a y).take k ++ a.drop k)) ∧ Hid (∀ k t, mapTx[k]? = some t → wr.cell? ⟨g2, k, none⟩ = some (.string ⟨t.toArray⟩)) ∧ Hid (Below w.heap.size w wr)) (fun i _ => 38 - (intOf i).toNat)
      case atStart => exact ⟨0, by omega, rfl, FX, FT, FB⟩
      case round =>
        obtain ⟨k, hk, rfl, HX, HT, HB⟩ := hrel
        by_cases hlt : k < 38
        · obtain ⟨x, hx⟩ := at_lt (show k < a.length by rw [HL.out]; exact hlt)
          obtain ⟨l, hll, l6⟩ := lens_at hlt
          obtain ⟨t, ht, htl⟩ := mapTx_at hll
          have hct := HT.out k t ht
          have hc := HX.out.cell (mixM_at (us := truncL a y) (by rw [hTL.out, HL.out]) hx)
          have hf := HX.out.free k
          have htl2 : t.length / 2 = l := by omega
          have C1 := fun w' => nodes_any t w' (by omega)
          rw [htl2] at C1
          have k0 : (0 : Int) ≤ (k : Int) := Int.natCast_nonneg _
          have k1 : (k : Int) < 38 := by omega
          obtain ⟨X, hX⟩ : ∃ X : ByteArray, X = ⟨t.toArray⟩ := ⟨_, rfl⟩
          rw [← hX] at hct C1
          have TA := truncL_at (n := y) hx hll
          by_cases hyl : y < (l : Int)
          · rw [if_pos hyl] at TA
            have GX : Hid (ArrM (wr.setCell ⟨w1.heap.size, k, none⟩ (.int .i64 0)) w1.heap.size ((truncL a y).take (k + 1) ++ a.drop (k + 1))) := by
              have := HX.out.store (k := k) 0
              rw [mixM_step (by rw [HL.out]; exact hlt) (by rw [hTL.out, HL.out]) TA] at this
              exact this
            have GT : Hid (∀ j t, mapTx[j]? = some t → (wr.setCell ⟨w1.heap.size, k, none⟩ (.int .i64 0)).cell? ⟨g2, j, none⟩ = some (.string ⟨t.toArray⟩)) := fun j t ht => cell_other (HT.out j t ht) (by omega)
            have GB : Hid (Below w.heap.size w (wr.setCell ⟨w1.heap.size, k, none⟩ (.int .i64 0))) := below_set HB.out hs1 _
            clear hx hll ht htl htl2 hX TA HX HT HB FX FT FB
            go_wp2_with fail
            refine (C1 _).mono ?_
            rintro e w' ⟨rfl, rfl⟩
            go_wp2
            go_roundw
            case rel => exact ⟨k + 1, by omega, by go_num, GX, GT, GB⟩
            case measure => simp [intOf]; omega
          · rw [if_neg hyl] at TA
            have GX : Hid (ArrM wr w1.heap.size ((truncL a y).take (k + 1) ++ a.drop (k + 1))) := by
              have := HX.out
              rw [mixM_keep hx TA] at this
              exact this
            clear hx hll ht htl htl2 hX TA HX FX FT FB
            go_wp2_with fail
            refine (C1 _).mono ?_
            rintro e w' ⟨rfl, rfl⟩
            go_wp2
            go_roundw
            case rel => exact ⟨k + 1, by omega, by go_num, GX, HT, HB⟩
            case measure => simp [intOf]; omega
        · obtain rfl : k = 38 := by omega
          have GX : Hid (ArrM wr w1.heap.size (truncL a y)) := by
            have := HX.out
            rw [mixM_end hTL.out HL.out] at this
            exact this
          clear HX FX FT FB HT
          go_wp2_with (refine wpList_load_row rfl 50 (.tmp 6) rfl w1.heap.size rfl 50 (arrM (truncL a y)) (0, 0) _ GX.out Try.underlying50 rfl (by rw [arrM_size hTL.out]; exact info_arrM) ?_)
          refine (listM_any (truncL a y) _ hTL.out).mono ?_
          rintro e w4 ⟨A4, c4, rfl, own4, bel4⟩
          have N := Lib.hid (NewRow.after HB.out ⟨A4, c4, rfl, own4, bel4⟩)
          clear own4 bel4
          go_wp2
          go_ret2
          obtain ⟨A5, c5, e5, own5, b5⟩ := N.out
          cases e5
          exact ResL.of G.out hTL.out (by omega) own5 b5
    · have G := Lib.hid (truncA_out ha hyy)
      clear hl HL0
      by_cases y0 : y < 0
      · go_enter Try.func9, Try.ntmps9
        go_wp2_with fail
        refine C0.mono ?_
        rintro e w' ⟨rfl, rfl⟩
        go_wp2
        go_ret2
        exact ResL.nil G.out (Below.refl _ _)
      · have y6 : 6 < y := by omega
        go_enter Try.func9, Try.ntmps9
        go_wp2_with fail
        refine C0.mono ?_
        rintro e w' ⟨rfl, rfl⟩
        go_wp2
        go_ret2
        exact ResL.nil G.out (Below.refl _ _)
end Go.Proofs.Ytmpnhiemfdmenaa
/-
  The laws' comparison of lists; lists in memory.
-/
namespace Go.Proofs.Ytmpnhiemfdmenaa
open Go.RowKit Fld
set_option linter.unusedVariables false
set_option linter.unusedSimpArgs false
set_option maxRecDepth 100000

set_option maxHeartbeats 400000 in
theorem likeInts_any (A A' : Option Addr) (n n' c c' B B' : Nat) (xs ys : List Int) (w : World) (hl : xs.length = n) (hl' : ys.length = n') (hn : n ≤ 9223372036854775807) (hn' : n' ≤ 9223372036854775807) (h : Row w B A (ints xs)) (h' : Row w B' A' (ints ys)) :
    Calls Try.prog 10 #[.slice A n c, .slice A' n' c'] w fun e w' => e = .returned (.bool (eqL xs ys)) ∧ ∃ m, w' = w.drewN m := by
  have HL := Lib.hid hl
  have HL' := Lib.hid hl'
  clear hl hl'
  by_cases hnn : n = n'
  · subst hnn
    go_enter Try.func10, Try.ntmps10
    go_wp2_with fail
    go_loopw [5] (fun i wr => ∃ k m : Nat, k ≤ n ∧ i = .int .i64 k ∧ wr = w.drewN m ∧ Hid (xs.take k = ys.take k)) (fun i _ => n - (intOf i).toNat)
    case atStart => exact ⟨0, 0, Nat.zero_le _, rfl, rfl, rfl⟩
    case round =>
      obtain ⟨k, m, hk, rfl, rfl, HT⟩ := hrel
      by_cases hlt : k < n
      · obtain ⟨x, hx⟩ := at_lt (show k < xs.length by rw [HL.out]; exact hlt)
        obtain ⟨y, hy⟩ := at_lt (show k < ys.length by rw [HL'.out]; exact hlt)
        obtain ⟨b, o, rfl, _, hc⟩ := h k _ (ints_at hx)
        obtain ⟨b', o', rfl, _, hc'⟩ := h' k _ (ints_at hy)
        by_cases hxy : x = y
        · subst hxy
          have G := Lib.hid (take_same HT.out hx hy)
          clear hx hy HT
          go_wp2_with fail
          go_quiet (fail)
          go_wp2
          go_roundw
          case rel => exact ⟨k + 1, _, by omega, by go_num, rfl, G⟩
          case measure => simp [intOf]; omega
        · have G := Lib.hid (eqL_at hx hy hxy)
          have t := bne_t hxy
          clear hx hy HT hxy
          go_wp2_with fail
          go_quiet (fail)
          go_wp2
          go_ret
          exact ⟨ret_bool G.out.symm, _, World.drewN_drewN ..⟩
      · obtain rfl : k = n := by omega
        have G := Lib.hid (eqL_end HT.out HL.out HL'.out)
        clear HT
        go_wp2
        go_ret
        exact ⟨ret_bool G.out.symm, _, rfl⟩
  · have G := Lib.hid (eqL_len (xs := xs) (ys := ys) (by rw [HL.out, HL'.out]; exact hnn))
    have t := bne_t (show (n : Int) ≠ (n' : Int) by omega)
    clear hnn
    go_enter Try.func10, Try.ntmps10
    go_wp2
    go_ret
    exact ⟨ret_bool G.out.symm, 0, rfl⟩

/-- a list in memory -/
def Lst (w : World) (A : Option Addr) (L : List Int) : Prop := Row w w.heap.size A (ints L)
theorem Lst.next {w w' : World} {A : Option Addr} {L : List Int} (h : Lst w A L) (b : Below w.heap.size w w') : Lst w' A L := (Row.below h b (Nat.le_refl _)).more b.size
theorem Lst.drew {w : World} {A : Option Addr} {L : List Int} (h : Lst w A L) (n : Nat) : Lst (w.drewN n) A L := h
theorem Lst.redrew {w : World} {A : Option Addr} {L : List Int} {a : Nat} (h : Lst (w.drewN a) A L) (n : Nat) : Lst (w.drewN (a + n)) A L := h
theorem below_redrewN {B : Nat} {a w : World} {m : Nat} (h : Below B a (w.drewN m)) (n : Nat) : Below B a (w.drewN (m + n)) := below_drewN (w := w) ⟨h.os, h.tape, h.output, h.size, h.block⟩ _
theorem Src.drew {w : World} {T : TypeId} {G B : Nat} {xs : List Int} (s : Src w T G B xs) (n : Nat) : Src (w.drewN n) T G B xs := s
theorem Src.redrew {w : World} {T : TypeId} {G B a : Nat} {xs : List Int} (s : Src (w.drewN a) T G B xs) (n : Nat) : Src (w.drewN (a + n)) T G B xs := s
theorem Lst.alloc {w : World} {A : Option Addr} {L : List Int} (h : Lst w A L) (o : Obj) : Lst (w.alloc o) A L := h.next ((Below.refl _ _).alloc (Nat.le_refl _) _)
theorem Lst.only {w w' : World} {A : Option Addr} {L : List Int} {G B : Nat} (h : Row w B A (ints L)) (hB : B ≤ w.heap.size) (k : w.grownBy w' (some G)) (hG : B ≤ G) : Lst w' A L := (Row.only h k hG).more (Nat.le_trans hB k.size)
theorem below_step {B : Nat} {a w w' : World} (h : Below B a w) (hB : B ≤ w.heap.size) (k : Below w.heap.size w w') : Below B a w' := h.trans (k.mono hB)
/-- a list in memory below B -/
def Low (w : World) (B : Nat) (A : Option Addr) (L : List Int) : Prop := Row w B A (ints L) ∧ B ≤ w.heap.size
theorem Low.of {w : World} {A : Option Addr} {L : List Int} (h : Lst w A L) : Low w w.heap.size A L := ⟨h, Nat.le_refl _⟩
theorem Low.next {w w' : World} {B : Nat} {A : Option Addr} {L : List Int} (h : Low w B A L) (b : Below w.heap.size w w') : Low w' B A L := ⟨Row.below h.1 b h.2, Nat.le_trans h.2 b.size⟩
theorem Low.drew {w : World} {B : Nat} {A : Option Addr} {L : List Int} (h : Low w B A L) (n : Nat) : Low (w.drewN n) B A L := h
theorem Low.redrew {w : World} {B a : Nat} {A : Option Addr} {L : List Int} (h : Low (w.drewN a) B A L) (n : Nat) : Low (w.drewN (a + n)) B A L := h
theorem Low.only {w w' : World} {B G : Nat} {A : Option Addr} {L : List Int} (h : Low w B A L) (k : w.grownBy w' (some G)) (hG : B ≤ G) : Low w' B A L := ⟨Row.only h.1 k hG, Nat.le_trans h.2 k.size⟩
theorem Low.lst {w : World} {B : Nat} {A : Option Addr} {L : List Int} (h : Low w B A L) : Lst w A L := Row.more h.1 h.2
theorem likeInts_yes (A A' : Option Addr) (n n' c c' : Nat) (xs ys : List Int) (w : World) (e : xs = ys) (hl : xs.length = n) (hl' : ys.length = n') (hn : n ≤ 1048576) (h : Lst w A xs) (h' : Lst w A' ys) :
    Calls Try.prog 10 #[.slice A n c, .slice A' n' c'] w fun e w' => e = .returned (.bool true) ∧ ∃ m, w' = w.drewN m := by
  subst e
  refine (likeInts_any A A' n n' c c' _ _ xs xs w hl hl' (by omega) (by omega) h h').mono ?_
  rintro e w' ⟨rfl, m, rfl⟩
  exact ⟨by rw [eqL_self], m, rfl⟩
end Go.Proofs.Ytmpnhiemfdmenaa
/-
  What contracts give, taken out for the walks of laws: a list or a number beside a code.
-/
namespace Go.Proofs.Ytmpnhiemfdmenaa
open Go.RowKit Fld
set_option linter.unusedVariables false
set_option linter.unusedSimpArgs false
set_option maxRecDepth 100000

theorem resL_out {a : List Int} {k : Int} {r : List Int × Int} {w w' : World} {e : Ending} (h : ResL r w e w') (hr : r = (a, k)) : ∃ A c, e = .returned (.tuple #[.slice A a.length c, .int .i64 k]) ∧ Lst w' A a ∧ a.length ≤ c ∧ Below w.heap.size w w' := by
  subst hr
  obtain ⟨_, A, c, rfl, o1, hb⟩ := h
  exact ⟨A, c, rfl, row_of_own o1, (own_cap o1).1, hb⟩
theorem resI_out {x k : Int} {r : Int × Int} {w w' : World} {e : Ending} (h : ResI r w e w') (hr : r = (x, k)) : e = .returned (.tuple #[.int .i64 x, .int .i64 k]) ∧ Below w.heap.size w w' := by
  subst hr; exact h
end Go.Proofs.Ytmpnhiemfdmenaa
