/-
  The laws' comparison of lists; lists in memory.
-/
import Derived.Test.YtdgdanpkekcckaaSlices
import Derived.Test.YtdgdanpkekcckaaDraws
namespace Go.Proofs.Ytdgdanpkekcckaa
open Go.RowKit Fld
set_option linter.unusedVariables false
set_option linter.unusedSimpArgs false
set_option maxRecDepth 100000

set_option maxHeartbeats 400000 in
theorem likeInts_any (A A' : Option Addr) (n n' c c' B B' : Nat) (xs ys : List Int) (w : World) (hl : xs.length = n) (hl' : ys.length = n') (hn : n ≤ 9223372036854775807) (hn' : n' ≤ 9223372036854775807) (h : Row w B A (ints xs)) (h' : Row w B' A' (ints ys)) :
    Calls Try.prog 26 #[.slice A n c, .slice A' n' c'] w fun e w' => e = .returned (.bool (eqL xs ys)) ∧ ∃ m, w' = w.drewN m := by
  have HL := Lib.hid hl
  have HL' := Lib.hid hl'
  clear hl hl'
  by_cases hnn : n = n'
  · subst hnn
    go_enter Try.func26, Try.ntmps26
    go_wp2_with fail
    go_loopw [5] (fun i wr => ∃ k m : Nat, k ≤ n ∧ i = .int .i64 k ∧ wr = w.drewN m ∧ Hid (xs.take k = ys.take k)) (fun i _ => n - (intOf i).toNat)
    case atStart => exact ⟨0, 0, Nat.zero_le _, rfl, rfl, rfl⟩
    case round =>
      obtain ⟨k, m, hk, rfl, rfl, HT⟩ := hrel
      by_cases hlt : k < n
      · obtain ⟨x, hx⟩ := at_lt (show k < xs.length by rw [HL.out]; exact hlt)
        obtain ⟨y, hy⟩ := at_lt (show k < ys.length by rw [HL'.out]; exact hlt)
        obtain ⟨b, o, rfl, _, hc⟩ := h k _ (ints_at hx)
        obtain ⟨b', o', rfl, _, hc'⟩ := h' k _ (ints_at hy)
        by_cases hxy : x = y
        · subst hxy
          have G := Lib.hid (take_same HT.out hx hy)
          clear hx hy HT
          go_wp2_with fail
          go_quiet (fail)
          go_wp2
          go_roundw
          case rel => exact ⟨k + 1, _, by omega, by go_num, rfl, G⟩
          case measure => simp [intOf]; omega
        · have G := Lib.hid (eqL_at hx hy hxy)
          have t := bne_t hxy
          clear hx hy HT hxy
          go_wp2_with fail
          go_quiet (fail)
          go_wp2
          go_ret
          exact ⟨ret_bool G.out.symm, _, World.drewN_drewN ..⟩
      · obtain rfl : k = n := by omega
        have G := Lib.hid (eqL_end HT.out HL.out HL'.out)
        clear HT
        go_wp2
        go_ret
        exact ⟨ret_bool G.out.symm, _, rfl⟩
  · have G := Lib.hid (eqL_len (xs := xs) (ys := ys) (by rw [HL.out, HL'.out]; exact hnn))
    have t := bne_t (show (n : Int) ≠ (n' : Int) by omega)
    clear hnn
    go_enter Try.func26, Try.ntmps26
    go_wp2
    go_ret
    exact ⟨ret_bool G.out.symm, 0, rfl⟩

/-- a list in memory -/
def Lst (w : World) (A : Option Addr) (L : List Int) : Prop := Row w w.heap.size A (ints L)
theorem Lst.next {w w' : World} {A : Option Addr} {L : List Int} (h : Lst w A L) (b : Below w.heap.size w w') : Lst w' A L := (Row.below h b (Nat.le_refl _)).more b.size
theorem Lst.drew {w : World} {A : Option Addr} {L : List Int} (h : Lst w A L) (n : Nat) : Lst (w.drewN n) A L := h
theorem Lst.redrew {w : World} {A : Option Addr} {L : List Int} {a : Nat} (h : Lst (w.drewN a) A L) (n : Nat) : Lst (w.drewN (a + n)) A L := h
theorem below_redrewN {B : Nat} {a w : World} {m : Nat} (h : Below B a (w.drewN m)) (n : Nat) : Below B a (w.drewN (m + n)) := below_drewN (w := w) ⟨h.os, h.tape, h.output, h.size, h.block⟩ _
theorem Src.drew {w : World} {T : TypeId} {G B : Nat} {xs : List Int} (s : Src w T G B xs) (n : Nat) : Src (w.drewN n) T G B xs := s
theorem Src.redrew {w : World} {T : TypeId} {G B a : Nat} {xs : List Int} (s : Src (w.drewN a) T G B xs) (n : Nat) : Src (w.drewN (a + n)) T G B xs := s
theorem Lst.alloc {w : World} {A : Option Addr} {L : List Int} (h : Lst w A L) (o : Obj) : Lst (w.alloc o) A L := h.next ((Below.refl _ _).alloc (Nat.le_refl _) _)
theorem Lst.only {w w' : World} {A : Option Addr} {L : List Int} {G B : Nat} (h : Row w B A (ints L)) (hB : B ≤ w.heap.size) (k : w.grownBy w' (some G)) (hG : B ≤ G) : Lst w' A L := (Row.only h k hG).more (Nat.le_trans hB k.size)
theorem below_step {B : Nat} {a w w' : World} (h : Below B a w) (hB : B ≤ w.heap.size) (k : Below w.heap.size w w') : Below B a w' := h.trans (k.mono hB)
/-- a list in memory below B -/
def Low (w : World) (B : Nat) (A : Option Addr) (L : List Int) : Prop := Row w B A (ints L) ∧ B ≤ w.heap.size
theorem Low.of {w : World} {A : Option Addr} {L : List Int} (h : Lst w A L) : Low w w.heap.size A L := ⟨h, Nat.le_refl _⟩
theorem Low.next {w w' : World} {B : Nat} {A : Option Addr} {L : List Int} (h : Low w B A L) (b : Below w.heap.size w w') : Low w' B A L := ⟨Row.below h.1 b h.2, Nat.le_trans h.2 b.size⟩
theorem Low.drew {w : World} {B : Nat} {A : Option Addr} {L : List Int} (h : Low w B A L) (n : Nat) : Low (w.drewN n) B A L := h
theorem Low.redrew {w : World} {B a : Nat} {A : Option Addr} {L : List Int} (h : Low (w.drewN a) B A L) (n : Nat) : Low (w.drewN (a + n)) B A L := h
theorem Low.only {w w' : World} {B G : Nat} {A : Option Addr} {L : List Int} (h : Low w B A L) (k : w.grownBy w' (some G)) (hG : B ≤ G) : Low w' B A L := ⟨Row.only h.1 k hG, Nat.le_trans h.2 k.size⟩
theorem Low.lst {w : World} {B : Nat} {A : Option Addr} {L : List Int} (h : Low w B A L) : Lst w A L := Row.more h.1 h.2
theorem likeInts_yes (A A' : Option Addr) (n n' c c' : Nat) (xs ys : List Int) (w : World) (e : xs = ys) (hl : xs.length = n) (hl' : ys.length = n') (hn : n ≤ 1048576) (h : Lst w A xs) (h' : Lst w A' ys) :
    Calls Try.prog 26 #[.slice A n c, .slice A' n' c'] w fun e w' => e = .returned (.bool true) ∧ ∃ m, w' = w.drewN m := by
  subst e
  refine (likeInts_any A A' n n' c c' _ _ xs xs w hl hl' (by omega) (by omega) h h').mono ?_
  rintro e w' ⟨rfl, m, rfl⟩
  exact ⟨by rw [eqL_self], m, rfl⟩
end Go.Proofs.Ytdgdanpkekcckaa
