/-
  Sources of numbers in memory, as the laws and the models draw from: each number lies below what was asked for.
-/
import Derived.Test.YtdgdanpkekcckaaTests
import Derived.RegionTactic
import Derived.ChangeAlike
import Derived.Deep.QuietTactic
import Derived.BigQuiet
import Derived.Laws.BitsAllLaws
import Derived.Laws.BitsLemmas
import Derived.Laws.OwnMore
import Derived.OwnWalk
namespace Go.Proofs.Ytdgdanpkekcckaa
open Go.RowKit Fld
set_option linter.unusedVariables false
set_option linter.unusedSimpArgs false
set_option maxRecDepth 100000

theorem Row.drewNd {w : World} {B : Nat} {A : Option Addr} {vs : List Value} (h : Row w B A vs) (n : Nat) : Row (w.drewN n) B A vs := h
theorem below_drewNd {B : Nat} {a w : World} (h : Below B a w) (n : Nat) : Below B a (w.drewN n) := ⟨h.os, h.tape, h.output, h.size, h.block⟩
/-- a source of numbers in memory: three cells -/
def SrcAt (w : World) (T : TypeId) (G : Nat) (A : Option Addr) (n c i : Nat) (h : Int) : Prop := w.heap[G]? = some (.cells #[.slice A n c, .int .i64 i, .int .u64 h] T (0, 0))
section
variable {w w' : World} {T : TypeId} {G n c i : Nat} {A : Option Addr} {h : Int}
theorem SrcAt.c0 (s : SrcAt w T G A n c i h) : w.cell? ⟨G, 0, none⟩ = some (.slice A n c) := by rw [cell_of_row w G 0 _ _ _ s]; rfl
theorem SrcAt.c1 (s : SrcAt w T G A n c i h) : w.cell? ⟨G, 1, none⟩ = some (.int .i64 i) := by rw [cell_of_row w G 1 _ _ _ s]; rfl
theorem SrcAt.c2 (s : SrcAt w T G A n c i h) : w.cell? ⟨G, 2, none⟩ = some (.int .u64 h) := by rw [cell_of_row w G 2 _ _ _ s]; rfl
theorem SrcAt.fr (s : SrcAt w T G A n c i h) (j : Nat) : w.frozen? ⟨G, j, none⟩ = false := frozen_of_row w G j _ _ s
theorem SrcAt.set1 (s : SrcAt w T G A n c i h) (i' : Nat) (v : Int) (hv : v = i') : SrcAt (w.setCell ⟨G, 1, none⟩ (.int .i64 v)) T G A n c i' h := by
  subst hv; exact heap_setCell_same w G 1 _ _ _ s
theorem SrcAt.set2 (s : SrcAt w T G A n c i h) (h' : Int) : SrcAt (w.setCell ⟨G, 2, none⟩ (.int .u64 h')) T G A n c i h' := heap_setCell_same w G 2 _ _ _ s
theorem SrcAt.drewN (s : SrcAt w T G A n c i h) (k : Nat) : SrcAt (w.drewN k) T G A n c i h := s
theorem SrcAt.lt (s : SrcAt w T G A n c i h) : G < w.heap.size := by
  rcases Nat.lt_or_ge G w.heap.size with g | g
  · exact g
  · unfold SrcAt at s; rw [Array.getElem?_eq_none g] at s; cases s
end
theorem mask_bd (z : Int) : 0 ≤ wrap64 (bits BinOp.and IntKind.u64 z 16777215) ∧ wrap64 (bits BinOp.and IntKind.u64 z 16777215) ≤ 16777215 := by
  have e : bits BinOp.and IntKind.u64 z 16777215 = ((BitVec.ofInt 64 z &&& BitVec.ofInt 64 16777215).toNat : Int) % 18446744073709551616 := rfl
  have h2 : (BitVec.ofInt 64 z &&& BitVec.ofInt 64 16777215).toNat ≤ 16777215 := by
    rw [BitVec.toNat_and]
    exact Nat.le_trans Nat.and_le_right (by decide)
  have h3 : bits BinOp.and IntKind.u64 z 16777215 = ((BitVec.ofInt 64 z &&& BitVec.ofInt 64 16777215).toNat : Int) := by rw [e]; omega
  rw [h3]
  unfold wrap64
  omega


def Src (w : World) (T : TypeId) (G B : Nat) (xs : List Int) : Prop :=
  ∃ A c i h, SrcAt w T G A xs.length c i h ∧ i ≤ xs.length ∧ B ≤ G ∧ Row w B A (intsK .u8 xs) ∧ xs.length ≤ 4096 ∧ ∀ x ∈ xs, 0 ≤ x ∧ x ≤ 255
/-- a number below m is drawn, and only the source turns -/
def Rolled (T : TypeId) (G B : Nat) (xs : List Int) (m : Int) (w : World) (e : Ending) (w' : World) : Prop :=
  ∃ r : Int, e = .returned (.int .i64 r) ∧ 0 ≤ r ∧ r < m ∧ Src w' T G B xs ∧ w.grownBy w' (some G)
theorem only_set {w w' : World} {G j : Nat} (h : w.grownBy w' (some G)) (u : Value) : w.grownBy (w'.setCell ⟨G, j, none⟩ u) (some G) :=
  ⟨h.os, h.tape, h.output, by simpa [World.setCell] using h.size, fun k hk hne => (Below.heap_setCell w' ⟨G, j, none⟩ u k (fun e => hne (by rw [e]))).trans (h.block k hk hne)⟩
theorem only_drewN {w w' : World} {G : Nat} (h : w.grownBy w' (some G)) (n : Nat) : w.grownBy (w'.drewN n) (some G) := ⟨h.os, h.tape, h.output, h.size, h.block⟩
theorem only_trans {a b c : World} {G : Nat} (h : a.grownBy b (some G)) (k : b.grownBy c (some G)) : a.grownBy c (some G) :=
  ⟨k.os.trans h.os, k.tape.trans h.tape, k.output.trans h.output, Nat.le_trans h.size k.size, fun i hi hne => (k.block i (Nat.lt_of_lt_of_le hi h.size) hne).trans (h.block i hi hne)⟩
theorem Row.only {w w' : World} {B G : Nat} {A : Option Addr} {vs : List Value} (h : Row w B A vs) (hg : w.grownBy w' (some G)) (hB : B ≤ G) : Row w' B A vs :=
  fun k v hv => by
    obtain ⟨b, o, e, hb, hc⟩ := h k v hv
    exact ⟨b, o, e, hb, hg.cell hc (fun e => by have := Option.some.inj e; simp at this; omega)⟩
theorem below_only {B : Nat} {a w w' : World} {G : Nat} (h : Below B a w) (hg : w.grownBy w' (some G)) (hB : B ≤ w.heap.size) (hG : B ≤ G) : Below B a w' :=
  h.grown hg hB (fun k hk => by cases hk; exact hG)


theorem big_any (A : Option Addr) (n c : Nat) (w : World) (hn : n ≤ 9223372036854775807) : Calls Try.prog 4 #[.slice A n c] w fun e w' => e = .returned (.bool (decide ((4096 : Int) < n))) ∧ w = w' := by
  go_enter Try.func4, Try.ntmps4
  go_wp2
  go_ret
  exact ⟨rfl, rfl⟩
set_option maxHeartbeats 800000 in
theorem below_any (G B : Nat) (xs : List Int) (m : Int) (w : World) (hm : 1 ≤ m) (s : Src w 49 G B xs) :
    Calls Try.prog 41 #[.pointer (some ⟨G, 0, none⟩), .int .i64 m] w (Rolled 49 G B xs m w) := by
  obtain ⟨A, c, i, h, s, hi0, hBG, row, hn, hx⟩ := s
  have HX := Lib.hid hx
  clear hx
  have c2 := s.c2
  have f2 := s.fr 2
  have HS := Lib.hid s
  have HO : Hid (w.grownBy w (some G)) := World.grownBy.refl w (some G)
  clear s
  go_enter Try.func41, Try.ntmps41
  go_wp2_with fail
  generalize IntKind.u64.wrap (IntKind.u64.wrap (h * 6364136223846793005) + 1442695040888963407) = q
  obtain ⟨x0, x1⟩ := mask_bd (q / 8589934592)
  generalize wrap64 (bits BinOp.and IntKind.u64 (q / 8589934592) 16777215) = x at *
  have s2 := HS.out.set2 q
  have HO2 := Lib.hid (only_set (j := 2) HO.out (.int .u64 q))
  have row2 := row.only HO2.out hBG
  clear c2 f2 HS HO row
  generalize w.setCell ⟨G, 2, none⟩ (.int .u64 q) = W1 at *
  have c0 := s2.c0
  have c1 := s2.c1
  have f1 := s2.fr 1
  have HS := Lib.hid s2
  clear s2
  by_cases hi : i < xs.length
  · obtain ⟨y, hy⟩ := at_lt hi
    obtain ⟨b, o, rfl, hb, hc⟩ := row2 i _ (intsK_at hy)
    obtain ⟨y0, y1⟩ := HX.out y (List.mem_of_getElem? hy)
    have hne : b ≠ G := by omega
    clear hy
    go_quiet (fail)
    go_wp2_with fail
    go_quiet (fail)
    go_wp2
    go_ret
    exact ⟨_, rfl, Int.emod_nonneg _ (by omega), Int.emod_lt_of_pos _ (by omega), ⟨_, _, _, _, (HS.out.drewN _).set1 (i + 1) _ (by omega), by omega, hBG, Row.only (row2.drewNd _) (only_set (World.grownBy.refl _ _) _) hBG, hn, HX.out⟩, only_set (only_drewN HO2.out _) _⟩
  · go_quiet (fail)
    go_wp2
    go_ret
    exact ⟨_, rfl, Int.emod_nonneg _ (by omega), Int.emod_lt_of_pos _ (by omega), ⟨_, _, _, _, HS.out.drewN _, by omega, hBG, row2.drewNd _, hn, HX.out⟩, only_drewN HO2.out _⟩
set_option maxHeartbeats 800000 in
theorem l01Next_any (G B : Nat) (xs : List Int) (m : Int) (w : World) (hm : 1 ≤ m) (s : Src w 62 G B xs) :
    Calls Try.prog 27 #[.pointer (some ⟨G, 0, none⟩), .int .i64 m] w (Rolled 62 G B xs m w) := by
  obtain ⟨A, c, i, h, s, hi0, hBG, row, hn, hx⟩ := s
  have HX := Lib.hid hx
  clear hx
  have c2 := s.c2
  have f2 := s.fr 2
  have HS := Lib.hid s
  have HO : Hid (w.grownBy w (some G)) := World.grownBy.refl w (some G)
  clear s
  go_enter Try.func27, Try.ntmps27
  go_wp2_with fail
  generalize IntKind.u64.wrap (IntKind.u64.wrap (h * 6364136223846793005) + 1442695040888963407) = q
  obtain ⟨x0, x1⟩ := mask_bd (q / 8589934592)
  generalize wrap64 (bits BinOp.and IntKind.u64 (q / 8589934592) 16777215) = x at *
  have s2 := HS.out.set2 q
  have HO2 := Lib.hid (only_set (j := 2) HO.out (.int .u64 q))
  have row2 := row.only HO2.out hBG
  clear c2 f2 HS HO row
  generalize w.setCell ⟨G, 2, none⟩ (.int .u64 q) = W1 at *
  have c0 := s2.c0
  have c1 := s2.c1
  have f1 := s2.fr 1
  have HS := Lib.hid s2
  clear s2
  by_cases hi : i < xs.length
  · obtain ⟨y, hy⟩ := at_lt hi
    obtain ⟨b, o, rfl, hb, hc⟩ := row2 i _ (intsK_at hy)
    obtain ⟨y0, y1⟩ := HX.out y (List.mem_of_getElem? hy)
    have hne : b ≠ G := by omega
    clear hy
    go_quiet (fail)
    go_wp2_with fail
    go_quiet (fail)
    go_wp2
    go_ret
    exact ⟨_, rfl, Int.emod_nonneg _ (by omega), Int.emod_lt_of_pos _ (by omega), ⟨_, _, _, _, (HS.out.drewN _).set1 (i + 1) _ (by omega), by omega, hBG, Row.only (row2.drewNd _) (only_set (World.grownBy.refl _ _) _) hBG, hn, HX.out⟩, only_set (only_drewN HO2.out _) _⟩
  · go_quiet (fail)
    go_wp2
    go_ret
    exact ⟨_, rfl, Int.emod_nonneg _ (by omega), Int.emod_lt_of_pos _ (by omega), ⟨_, _, _, _, HS.out.drewN _, by omega, hBG, row2.drewNd _, hn, HX.out⟩, only_drewN HO2.out _⟩

/-- a new source over a list of bytes -/
def NewSrc (T : TypeId) (B : Nat) (xs : List Int) (w : World) (e : Ending) (w' : World) : Prop :=
  ∃ G, e = .returned (.pointer (some ⟨G, 0, none⟩)) ∧ w.heap.size ≤ G ∧ Src w' T G B xs ∧ Below w.heap.size w w'
def Hashing (w : World) (T : TypeId) (A : Option Addr) (n c : Nat) (wr : World) : Prop :=
  ∃ h, SrcAt wr T w.heap.size A n c (0 : Nat) h ∧ Below w.heap.size w wr
theorem Hashing.start (w : World) (T : TypeId) (A : Option Addr) (n c : Nat) (h : Int) : Hashing w T A n c (w.alloc (.cells #[.slice A n c, .int .i64 0, .int .u64 h] T)) :=
  ⟨h, heap_alloc_new w _, (Below.refl _ _).alloc (Nat.le_refl _) _⟩
theorem SrcAt.drew {w : World} {T : TypeId} {G n c i : Nat} {A : Option Addr} {h : Int} (s : SrcAt w T G A n c i h) : SrcAt w.drew T G A n c i h := s
theorem Hashing.step {w wr : World} {T : TypeId} {A : Option Addr} {n c : Nat} {h q : Int} (s : SrcAt wr T w.heap.size A n c (0 : Nat) h) (b : Below w.heap.size w wr) : Hashing w T A n c (wr.setCell ⟨w.heap.size, 2, none⟩ (.int .u64 q)).drew :=
  ⟨q, (s.set2 q).drew, (b.setCell (p := ⟨w.heap.size, 2, none⟩) (Nat.le_refl _) _).drew⟩
theorem Hashing.done {w wr : World} {T : TypeId} {A : Option Addr} {n c B : Nat} {h : Int} {xs : List Int} (s : SrcAt wr T w.heap.size A n c (0 : Nat) h) (b : Below w.heap.size w wr) (hl : xs.length = n) (hn : n ≤ 4096) (hB : B ≤ w.heap.size)
    (hr : Row w B A (intsK .u8 xs)) (hx : ∀ x ∈ xs, 0 ≤ x ∧ x ≤ 255) : NewSrc T B xs w (.returned (.pointer (some ⟨w.heap.size, 0, none⟩))) wr := by
  subst hl
  exact ⟨_, rfl, Nat.le_refl _, ⟨A, c, 0, h, s, by omega, hB, hr.below b hB, hn, hx⟩, b⟩
set_option maxHeartbeats 800000 in
theorem roll_any (A : Option Addr) (n c B : Nat) (xs : List Int) (k : Int) (w : World) (hl : xs.length = n) (hn : n ≤ 4096) (hB : B ≤ w.heap.size) (h : Row w B A (intsK .u8 xs)) (hx : ∀ x ∈ xs, 0 ≤ x ∧ x ≤ 255) :
    Calls Try.prog 8 #[.slice A n c, .int .u64 k] w (NewSrc 49 B xs w) := by
  have HX := Lib.hid hx
  have HL := Lib.hid hl
  clear hx hl
  go_enter Try.func8, Try.ntmps8
  go_wp2_with fail
  go_loopw [6] (fun i wr => ∃ k : Nat, k ≤ n ∧ i = .int .i64 k ∧ Hashing w 49 A n c wr) (fun i _ => n - (intOf i).toNat)
  case atStart => exact ⟨0, Nat.zero_le _, rfl, Hashing.start ..⟩
  case round =>
    obtain ⟨k, hk, rfl, q0, hs, hb⟩ := hrel
    have c2 := hs.c2
    have f2 := hs.fr 2
    have HS := Lib.hid hs
    clear hs
    by_cases hlt : k < n
    · obtain ⟨y, hy⟩ := at_lt (show k < xs.length by rw [HL.out]; exact hlt)
      obtain ⟨b, o, rfl, hbB, hc⟩ := h.below hb hB k _ (intsK_at hy)
      obtain ⟨y0, y1⟩ := HX.out y (List.mem_of_getElem? hy)
      have hne : b ≠ w.heap.size := by omega
      clear hy
      go_wp2_with fail
      go_region
      all_goals
        go_wp2
        go_roundw
        case rel => exact ⟨k + 1, by omega, by go_num, Hashing.step HS.out hb⟩
        case measure => simp [intOf]; omega
    · obtain rfl : k = n := by omega
      have G := Lib.hid (Hashing.done HS.out hb HL.out hn hB h HX.out)
      clear c2 f2 HS
      go_wp2
      go_ret
      exact G.out
set_option maxRecDepth 100000 in
set_option maxHeartbeats 800000 in
theorem l01From_any (A : Option Addr) (n c B : Nat) (xs : List Int) (w : World) (hl : xs.length = n) (hn : n ≤ 4096) (hB : B ≤ w.heap.size) (h : Row w B A (intsK .u8 xs)) (hx : ∀ x ∈ xs, 0 ≤ x ∧ x ≤ 255) :
    Calls Try.prog 15 #[.slice A n c] w (NewSrc 62 B xs w) := by
  have HX := Lib.hid hx
  have HL := Lib.hid hl
  clear hx hl
  go_enter Try.func15, Try.ntmps15
  go_wp2_with fail
  go_loopw [4] (fun i wr => ∃ k : Nat, k ≤ n ∧ i = .int .i64 k ∧ Hashing w 62 A n c wr) (fun i _ => n - (intOf i).toNat)
  case atStart => exact ⟨0, Nat.zero_le _, rfl, Hashing.start ..⟩
  case round =>
    obtain ⟨k, hk, rfl, q0, hs, hb⟩ := hrel
    have c2 := hs.c2
    have f2 := hs.fr 2
    have HS := Lib.hid hs
    clear hs
    by_cases hlt : k < n
    · obtain ⟨y, hy⟩ := at_lt (show k < xs.length by rw [HL.out]; exact hlt)
      obtain ⟨b, o, rfl, hbB, hc⟩ := h.below hb hB k _ (intsK_at hy)
      obtain ⟨y0, y1⟩ := HX.out y (List.mem_of_getElem? hy)
      have hne : b ≠ w.heap.size := by omega
      clear hy
      go_wp2_with fail
      go_region
      all_goals
        go_wp2
        go_roundw
        case rel => exact ⟨k + 1, by omega, by go_num, Hashing.step HS.out hb⟩
        case measure => simp [intOf]; omega
    · obtain rfl : k = n := by omega
      have G := Lib.hid (Hashing.done HS.out hb HL.out hn hB h HX.out)
      clear c2 f2 HS
      go_wp2
      go_ret
      exact G.out

/-- a number of the field is drawn, and only the source (and new memory) turns -/
def Drawn (P : Int → Prop) (T : TypeId) (G B : Nat) (xs : List Int) (w : World) (e : Ending) (w' : World) : Prop :=
  ∃ r : Int, e = .returned (.int .i64 r) ∧ P r ∧ Src w' T G B xs ∧ w.grownBy w' (some G)
theorem only_alloc {w w' : World} {G : Nat} (h : w.grownBy w' (some G)) (o : Obj) : w.grownBy (w'.alloc o) (some G) :=
  ⟨h.os, h.tape, h.output, Nat.le_trans h.size (by simp), fun k hk hne => (Below.heap_alloc w' o k (Nat.lt_of_lt_of_le hk h.size)).trans (h.block k hk hne)⟩
theorem Src.lt {w : World} {T : TypeId} {G B : Nat} {xs : List Int} (s : Src w T G B xs) : G < w.heap.size := by
  obtain ⟨_, _, _, _, h, _⟩ := s; exact h.lt
theorem Src.alloc {w : World} {T : TypeId} {G B : Nat} {xs : List Int} (s : Src w T G B xs) (o : Obj) : Src (w.alloc o) T G B xs := by
  obtain ⟨A, c, i, h, h1, h2, h3, h4, h5⟩ := s
  exact ⟨A, c, i, h, (Below.heap_alloc w o G h1.lt).trans h1, h2, h3, h4.alloc (by have := h1.lt; omega) o, h5⟩
theorem Src.below {w w' : World} {T : TypeId} {G B : Nat} {xs : List Int} (s : Src w T G B xs) (hb : Below w.heap.size w w') : Src w' T G B xs := by
  obtain ⟨A, c, i, h, h1, h2, h3, h4, h5⟩ := s
  exact ⟨A, c, i, h, (hb.block G h1.lt).trans h1, h2, h3, h4.below hb (by have := h1.lt; omega), h5⟩
def IsN (r : Int) : Prop := 0 ≤ r ∧ r < 10007
def IsI64 (r : Int) : Prop := -9223372036854775808 ≤ r ∧ r ≤ 9223372036854775807

theorem mod5_any (n : Int) (w : World) : Calls Try.prog 12 #[.int .i64 n] w fun e w' => e = .returned (.int .i64 (n % 10007)) ∧ w = w' := by
  have hb := tmod_bd n
  obtain ⟨hb1, hb2⟩ := hb
  go_enter Try.func12, Try.ntmps12
  go_wp2
  go_ret
  exact ⟨ret_i64 (tmod_fix n), rfl⟩
set_option maxHeartbeats 400000 in
theorem number5_any (G B : Nat) (xs : List Int) (w : World) (s : Src w 49 G B xs) : Calls Try.prog 21 #[.pointer (some ⟨G, 0, none⟩)] w (Drawn IsN 49 G B xs w) := by
  go_enter Try.func21, Try.ntmps21
  go_wp2_with fail
  refine (below_any G B xs _ _ (by omega) s).mono ?_
  rintro e w1 ⟨r, rfl, r0, r1, s1, o1⟩
  by_cases h : r = 0
  · have t := beq_t h
    clear h
    go_wp2_with fail
    refine (below_any G B xs _ _ (by omega) s1).mono ?_
    rintro e w2 ⟨r', rfl, r0', r1', s2, o2⟩
    go_wp2
    go_ret
    exact ⟨_, rfl, ⟨r0', r1'⟩, s2, only_trans o1 o2⟩
  · have t := beq_f h
    clear h
    go_wp2_with fail
    refine (below_any G B xs _ _ (by omega) s1).mono ?_
    rintro e w2 ⟨r', rfl, r0', r1', s2, o2⟩
    go_wp2_with (go_at_call 12; refine (mod5_any _ _).mono ?_; rintro e w' ⟨rfl, rfl⟩)
    go_ret
    exact ⟨_, rfl, ⟨by omega, by omega⟩, s2, only_trans o1 o2⟩
/-- one of a list is drawn -/
theorem l01Pick_any (G B : Nat) (xs : List Int) (A : Option Addr) (n c C : Nat) (ys : List Int) (w : World) (s : Src w 62 G B xs) (h : Row w C A (ints ys)) (hG : ∀ b o, A = some ⟨b, o, none⟩ → b ≠ G) (hl : ys.length = n) (hn : 1 ≤ n) (hm : n ≤ 1048576) :
    Calls Try.prog 28 #[.pointer (some ⟨G, 0, none⟩), .slice A n c] w (Drawn (· ∈ ys) 62 G B xs w) := by
  have HL := Lib.hid hl
  clear hl
  go_enter Try.func28, Try.ntmps28
  go_wp2_with fail
  refine (l01Next_any G B xs _ _ (by omega) s).mono ?_
  rintro e w1 ⟨r, rfl, r0, r1, s1, o1⟩
  obtain ⟨k, rfl⟩ := Int.eq_ofNat_of_zero_le r0
  obtain ⟨y, hy⟩ := at_lt (show k < ys.length by rw [HL.out]; omega)
  obtain ⟨b, o, rfl, hb, hc⟩ := h k _ (ints_at hy)
  have hne := hG b o rfl
  have hc1 := o1.cell hc (fun e => hne (by have := Option.some.inj e; simpa using this))
  have HY := Lib.hid (List.mem_of_getElem? hy)
  clear hy hc
  go_wp2
  go_ret
  exact ⟨_, rfl, HY.out, s1, o1⟩

theorem mem_small {r : Int} (h : r ∈ ([0, 1, 0, 1, 10006, 2] : List Int)) : IsN r := by
  simp at h; unfold IsN; omega
theorem mem_spoil {r : Int} (h : r ∈ ([-1, 10007, 1099511627776, -4611686018427387904] : List Int)) : IsI64 r := by
  simp at h; unfold IsI64; omega
theorem i64_of_n {r : Int} (h : IsN r) : IsI64 r := by unfold IsN at h; unfold IsI64; omega
set_option maxHeartbeats 400000 in
theorem l01Number_any (G B : Nat) (xs : List Int) (w : World) (s : Src w 62 G B xs) : Calls Try.prog 44 #[.pointer (some ⟨G, 0, none⟩)] w (Drawn IsN 62 G B xs w) := by
  go_enter Try.func44, Try.ntmps44
  go_wp2_with fail
  refine (l01Next_any G B xs _ _ (by omega) s).mono ?_
  rintro e w1 ⟨r, rfl, r0, r1, s1, o1⟩
  by_cases h : r = 0
  · have t := beq_t h
    clear h
    go_wp2_with fail
    refine (l01Next_any G B xs _ _ (by omega) s1).mono ?_
    rintro e w2 ⟨r', rfl, r0', r1', s2, o2⟩
    go_wp2
    go_ret
    exact ⟨_, rfl, ⟨r0', r1'⟩, s2, only_trans o1 o2⟩
  · by_cases h1 : r = 1
    · have t := beq_f h
      have t1 := beq_t h1
      clear h h1
      go_wp2_with fail
      refine (l01Pick_any G B xs _ 6 _ _ [0, 1, 0, 1, 10006, 2] _ (s1.alloc _) (Row.new w1 _ (ints [0, 1, 0, 1, 10006, 2])) (fun b o e => by have := s1.lt; injection e with e; injection e with e1; omega) rfl (by omega) (by omega)).mono ?_
      rintro e w2 ⟨r', rfl, hr, s2, o2⟩
      go_wp2
      go_ret
      exact ⟨_, rfl, mem_small hr, s2, only_trans (only_alloc o1 _) o2⟩
    · have t := beq_f h
      have t1 := beq_f h1
      clear h h1
      go_wp2_with fail
      refine (l01Next_any G B xs _ _ (by omega) s1).mono ?_
      rintro e w2 ⟨r2, rfl, r20, r21, s2, o2⟩
      go_wp2_with fail
      refine (l01Next_any G B xs _ _ (by omega) s2).mono ?_
      rintro e w3 ⟨r3, rfl, r30, r31, s3, o3⟩
      go_wp2_with (go_at_call 52; refine (l01Frac_any _ _ _).mono ?_; rintro e w' ⟨rfl, rfl⟩)
      go_ret
      exact ⟨_, rfl, ⟨by omega, by omega⟩, s3, only_trans (only_trans o1 o2) o3⟩
/-- two numbers that are drawn out of a code -/
def DrawnTwo (P Q : Int → Prop) (w : World) (e : Ending) (w' : World) : Prop := ∃ a b : Int, e = .returned (.tuple #[.int .i64 a, .int .i64 b]) ∧ P a ∧ Q b ∧ Below w.heap.size w w'
def DrawnOne (P : Int → Prop) (w : World) (e : Ending) (w' : World) : Prop := ∃ a : Int, e = .returned (.int .i64 a) ∧ P a ∧ Below w.heap.size w w'
/-- a code that came in -/
def IsCode (w : World) (A : Option Addr) (n : Nat) (xs : List Int) : Prop := xs.length = n ∧ Row w w.heap.size A (intsK .u8 xs) ∧ ∀ x ∈ xs, 0 ≤ x ∧ x ≤ 255
theorem isCode_of {w : World} {A : Option Addr} {n c : Nat} {xs : List Int} (h : IsRow .u8 w A n c xs) : IsCode w A n xs := by
  obtain ⟨h1, _, _, h4, h5⟩ := h
  exact ⟨h1, h4, fun x hx => by simpa [Lit.wf, IntKind.min, IntKind.max, IntKind.signed, IntKind.bits] using h5 x hx⟩
theorem IsCode.below {w w' : World} {A : Option Addr} {n : Nat} {xs : List Int} (h : IsCode w A n xs) (hb : Below w.heap.size w w') : IsCode w' A n xs :=
  ⟨h.1, (h.2.1.below hb (Nat.le_refl _)).more hb.size, h.2.2⟩
end Go.Proofs.Ytdgdanpkekcckaa
