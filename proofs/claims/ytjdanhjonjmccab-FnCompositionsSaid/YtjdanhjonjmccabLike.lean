/-
  The laws' comparison of lists; what a call hands back, as a series beside a code.
-/
import Derived.Test.YtjdanhjonjmccabSlices
import Derived.Test.YtjdanhjonjmccabRes1
import Derived.Test.YtjdanhjonjmccabDrawL
import Derived.Test.YtjdanhjonjmccabSerTest
namespace Go.Proofs.Ytjdanhjonjmccab
open Go.RowKit Fld Ser
set_option linter.unusedVariables false
set_option linter.unusedSimpArgs false
set_option maxRecDepth 100000

set_option maxHeartbeats 400000 in
theorem likeInts_any (A A' : Option Addr) (n n' c c' B B' : Nat) (xs ys : List Int) (w : World) (hl : xs.length = n) (hl' : ys.length = n') (hn : n ≤ 9223372036854775807) (hn' : n' ≤ 9223372036854775807) (h : Row w B A (ints xs)) (h' : Row w B' A' (ints ys)) :
    Calls Try.prog 16 #[.slice A n c, .slice A' n' c'] w fun e w' => e = .returned (.bool (eqL xs ys)) ∧ ∃ m, w' = w.drewN m := by
  have HL := Lib.hid hl
  have HL' := Lib.hid hl'
  clear hl hl'
  by_cases hnn : n = n'
  · subst hnn
    go_enter Try.func16, Try.ntmps16
    go_wp2_with fail
    go_loopw [5] (fun i wr => ∃ k m : Nat, k ≤ n ∧ i = .int .i64 k ∧ wr = w.drewN m ∧ Hid (xs.take k = ys.take k)) (fun i _ => n - (intOf i).toNat)
    case atStart => exact ⟨0, 0, Nat.zero_le _, rfl, rfl, rfl⟩
    case round =>
      obtain ⟨k, m, hk, rfl, rfl, HT⟩ := hrel
      by_cases hlt : k < n
      · obtain ⟨x, hx⟩ := at_lt (show k < xs.length by rw [HL.out]; exact hlt)
        obtain ⟨y, hy⟩ := at_lt (show k < ys.length by rw [HL'.out]; exact hlt)
        obtain ⟨b, o, rfl, _, hc⟩ := h k _ (ints_at hx)
        obtain ⟨b', o', rfl, _, hc'⟩ := h' k _ (ints_at hy)
        by_cases hxy : x = y
        · subst hxy
          have G := Lib.hid (take_same HT.out hx hy)
          clear hx hy HT
          go_wp2_with fail
          go_quiet (fail)
          go_wp2
          go_roundw
          case rel => exact ⟨k + 1, _, by omega, by go_num, rfl, G⟩
          case measure => simp [intOf]; omega
        · have G := Lib.hid (eqL_at hx hy hxy)
          have t := bne_t hxy
          clear hx hy HT hxy
          go_wp2_with fail
          go_quiet (fail)
          go_wp2
          go_ret
          exact ⟨ret_bool G.out.symm, _, World.drewN_drewN ..⟩
      · obtain rfl : k = n := by omega
        have G := Lib.hid (eqL_end HT.out HL.out HL'.out)
        clear HT
        go_wp2
        go_ret
        exact ⟨ret_bool G.out.symm, _, rfl⟩
  · have G := Lib.hid (eqL_len (xs := xs) (ys := ys) (by rw [HL.out, HL'.out]; exact hnn))
    have t := bne_t (show (n : Int) ≠ (n' : Int) by omega)
    clear hnn
    go_enter Try.func16, Try.ntmps16
    go_wp2
    go_ret
    exact ⟨ret_bool G.out.symm, 0, rfl⟩

/-- a list in memory -/
def Lst (w : World) (A : Option Addr) (L : List Int) : Prop := Row w w.heap.size A (ints L)
theorem Lst.next {w w' : World} {A : Option Addr} {L : List Int} (h : Lst w A L) (b : Below w.heap.size w w') : Lst w' A L := (Row.below h b (Nat.le_refl _)).more b.size
theorem Lst.drew {w : World} {A : Option Addr} {L : List Int} (h : Lst w A L) (n : Nat) : Lst (w.drewN n) A L := h
theorem Lst.redrew {w : World} {A : Option Addr} {L : List Int} {a : Nat} (h : Lst (w.drewN a) A L) (n : Nat) : Lst (w.drewN (a + n)) A L := h
theorem below_redrewN {B : Nat} {a w : World} {m : Nat} (h : Below B a (w.drewN m)) (n : Nat) : Below B a (w.drewN (m + n)) := below_drewN (w := w) ⟨h.os, h.tape, h.output, h.size, h.block⟩ _
theorem Src.drew {w : World} {T : TypeId} {G B : Nat} {xs : List Int} (s : Src w T G B xs) (n : Nat) : Src (w.drewN n) T G B xs := s
theorem Src.redrew {w : World} {T : TypeId} {G B a : Nat} {xs : List Int} (s : Src (w.drewN a) T G B xs) (n : Nat) : Src (w.drewN (a + n)) T G B xs := s
theorem Lst.alloc {w : World} {A : Option Addr} {L : List Int} (h : Lst w A L) (o : Obj) : Lst (w.alloc o) A L := h.next ((Below.refl _ _).alloc (Nat.le_refl _) _)
theorem Lst.only {w w' : World} {A : Option Addr} {L : List Int} {G B : Nat} (h : Row w B A (ints L)) (hB : B ≤ w.heap.size) (k : w.grownBy w' (some G)) (hG : B ≤ G) : Lst w' A L := (Row.only h k hG).more (Nat.le_trans hB k.size)
theorem Lst.take {w : World} {A : Option Addr} {L : List Int} (h : Lst w A L) (n : Nat) : Lst w A (L.take n) := by
  have e : ints L = ints (L.take n) ++ ints (L.drop n) := by unfold ints intsK; rw [← List.map_append, List.take_append_drop]
  unfold Lst at h; rw [e] at h
  exact Row.take h
theorem Lst.drop {w : World} {b o : Nat} {L : List Int} (h : Lst w (some ⟨b, o, none⟩) L) (n : Nat) : Lst w (some ⟨b, o + n, none⟩) (L.drop n) := fun k v hv => by
  have e : (ints L)[n + k]? = some v := by
    have e1 : ints (L.drop n) = (ints L).drop n := by unfold ints intsK; rw [List.map_drop]
    rw [e1, List.getElem?_drop] at hv
    exact hv
  obtain ⟨b', o', e', hb, hc⟩ := h _ _ e
  cases e'
  exact ⟨b, o + n, rfl, hb, by rw [Nat.add_assoc]; exact hc⟩
theorem Lst.drop1 {w : World} {b o : Nat} {L : List Int} (h : Lst w (some ⟨b, o, none⟩) L) (c : Nat) (hc : c = 1 → (L.drop 1).length = 0) : Lst w (if c = 1 then (some ⟨b, o, none⟩) else (some ⟨b, o + 1, none⟩)) (L.drop 1) := by
  by_cases e : c = 1
  · rw [if_pos e, List.eq_nil_of_length_eq_zero (hc e)]; exact Row.nil _ _ _
  · rw [if_neg e]; exact h.drop 1
theorem Lst.addr {w : World} {A : Option Addr} {L : List Int} (h : Lst w A L) (hl : 0 < L.length) : ∃ b o, A = some ⟨b, o, none⟩ ∧ b < w.heap.size ∧ w.cell? ⟨b, o, none⟩ = some (.int .i64 (co L 0)) := by
  obtain ⟨x, hx⟩ := at_lt hl
  obtain ⟨b, o, e, hb, hc⟩ := h 0 _ (ints_at hx)
  exact ⟨b, o, e, hb, by rw [co_at hx]; exact hc⟩
theorem below_step {B : Nat} {a w w' : World} (h : Below B a w) (hB : B ≤ w.heap.size) (k : Below w.heap.size w w') : Below B a w' := h.trans (k.mono hB)
/-- a list in memory below B -/
def Low (w : World) (B : Nat) (A : Option Addr) (L : List Int) : Prop := Row w B A (ints L) ∧ B ≤ w.heap.size
theorem Low.of {w : World} {A : Option Addr} {L : List Int} (h : Lst w A L) : Low w w.heap.size A L := ⟨h, Nat.le_refl _⟩
theorem Low.next {w w' : World} {B : Nat} {A : Option Addr} {L : List Int} (h : Low w B A L) (b : Below w.heap.size w w') : Low w' B A L := ⟨Row.below h.1 b h.2, Nat.le_trans h.2 b.size⟩
theorem Low.drew {w : World} {B : Nat} {A : Option Addr} {L : List Int} (h : Low w B A L) (n : Nat) : Low (w.drewN n) B A L := h
theorem Low.redrew {w : World} {B a : Nat} {A : Option Addr} {L : List Int} (h : Low (w.drewN a) B A L) (n : Nat) : Low (w.drewN (a + n)) B A L := h
theorem Low.only {w w' : World} {B G : Nat} {A : Option Addr} {L : List Int} (h : Low w B A L) (k : w.grownBy w' (some G)) (hG : B ≤ G) : Low w' B A L := ⟨Row.only h.1 k hG, Nat.le_trans h.2 k.size⟩
theorem Low.lst {w : World} {B : Nat} {A : Option Addr} {L : List Int} (h : Low w B A L) : Lst w A L := Row.more h.1 h.2
theorem co_put {L : List Int} {k : Nat} (v : Int) (h : k < L.length) (i : Nat) : co (L.set k v) i = if i = k then v else co L i := by
  unfold co
  rw [List.getD_eq_getElem?_getD, List.getD_eq_getElem?_getD, List.getElem?_set]
  by_cases e : k = i
  · subst e; rw [if_pos rfl, if_pos h, if_pos rfl]; rfl
  · rw [if_neg e, if_neg (fun h => e h.symm)]
/-- lists that are alike -/
theorem likeInts_yes (A A' : Option Addr) (n n' c c' : Nat) (xs ys : List Int) (w : World) (e : xs = ys) (hl : xs.length = n) (hl' : ys.length = n') (hn : n ≤ 1048576) (h : Lst w A xs) (h' : Lst w A' ys) :
    Calls Try.prog 16 #[.slice A n c, .slice A' n' c'] w fun e w' => e = .returned (.bool true) ∧ ∃ m, w' = w.drewN m := by
  subst e
  refine (likeInts_any A A' n n' c c' _ _ xs xs w hl hl' (by omega) (by omega) h h').mono ?_
  rintro e w' ⟨rfl, m, rfl⟩
  exact ⟨by rw [eqL_self], m, rfl⟩
theorem quiet_like {P : Program} {f : FuncId} {args : Array Value} {w : World} {a n : Nat} {v : Value} (h : Calls P f args (w.drewN (a + n)) fun e w' => e = .returned v ∧ ∃ m, w' = (w.drewN (a + n)).drewN m) : Calls P f args (w.drewN (a + n)) fun e w'' => e = .returned v ∧ ∃ m, w'' = w.drewN (a + m) :=
  h.mono fun e w' ⟨he, m, hw⟩ => ⟨he, n + m, by rw [hw, World.drewN_drewN, Nat.add_assoc]⟩
/-- a series of n coefficients -/
def Sr (n : Nat) (q : List Int) (f : Nat → Int) : Prop := q.length = n ∧ allNum q = true ∧ Cg n (co q) f
theorem Sr.self {n : Nat} {a : List Int} (hl : a.length = n) (h : allNum a = true) : Sr n a (co a) := ⟨hl, h, Cg.refl _ _⟩
theorem Sr.cl (n : Nat) (f : Nat → Int) : Sr n (cl n f) f := ⟨cl_length _ _, cl_num _ _, co_cg _ _⟩
theorem Sr.of {n : Nat} {q : List Int} {f : Nat → Int} (h : q = Go.Proofs.Ytjdanhjonjmccab.cl n f) : Sr n q f := h ▸ Sr.cl n f
theorem Sr.eq {n : Nat} {q q' : List Int} {f f' : Nat → Int} (h : Sr n q f) (h' : Sr n q' f') (e : Cg n f f') : q = q' := by
  rw [← cl_co h.1 h.2.1, ← cl_co h'.1 h'.2.1]
  exact cl_cg (h.2.2.trans (e.trans h'.2.2.symm))
theorem Sr.take {n m : Nat} {q q' : List Int} {f f' : Nat → Int} (h : Sr n q f) (h' : Sr n q' f') (hm : m ≤ n) (e : Cg m f f') : q.take m = q'.take m := by
  rw [← cl_co h.1 h.2.1, ← cl_co h'.1 h'.2.1]
  have t : ∀ g : Nat → Int, (Go.Proofs.Ytjdanhjonjmccab.cl n g).take m = Go.Proofs.Ytjdanhjonjmccab.cl m g := fun g => by unfold Go.Proofs.Ytjdanhjonjmccab.cl; rw [← List.map_take, List.take_range, Nat.min_eq_left hm]
  rw [t, t]
  exact cl_cg ((h.2.2.less hm).trans (e.trans (h'.2.2.less hm).symm))
theorem Sr.at {n k : Nat} {q : List Int} {f : Nat → Int} (h : Sr n q f) (hk : k < n) : co q k = f k % 10007 := by
  have h1 := h.2.2 k hk
  have h2 := co_num h.2.1 k
  unfold Eqm at h1; omega
theorem Sr.drop {n : Nat} {q q' : List Int} {f f' : Nat → Int} (h : Sr n q f) (h' : Sr n q' f') (e : ∀ k, k + 1 < n → Eqm (f (k + 1)) (f' (k + 1))) : q.drop 1 = q'.drop 1 := by
  apply List.ext_getElem?
  intro k
  rw [List.getElem?_drop, List.getElem?_drop]
  rcases Nat.lt_or_ge (1 + k) n with g | g
  · obtain ⟨x, hx⟩ := at_lt (show 1 + k < q.length by rw [h.1]; exact g)
    obtain ⟨y, hy⟩ := at_lt (show 1 + k < q'.length by rw [h'.1]; exact g)
    have h1 := h.at g
    have h2 := h'.at g
    rw [co_at hx] at h1
    rw [co_at hy] at h2
    have h3 := e k (by omega)
    unfold Eqm at h3
    rw [Nat.add_comm k 1] at h3
    rw [hx, hy, h1, h2, h3]
  · rw [List.getElem?_eq_none (by rw [h.1]; exact g), List.getElem?_eq_none (by rw [h'.1]; exact g)]
theorem areSer_of {n : Nat} {a b : List Int} (p1 : 1 ≤ n) (p2 : n ≤ 16) (la : a.length = n) (lb : b.length = n) (ha : allNum a = true) (hb : allNum b = true) : areSer a b = true :=
  areSer_iff.2 ⟨isSer_iff.2 ⟨by omega, by omega, ha⟩, isSer_iff.2 ⟨by omega, by omega, hb⟩, by omega⟩
theorem isSer_of {n : Nat} {a : List Int} (p1 : 1 ≤ n) (p2 : n ≤ 16) (la : a.length = n) (ha : allNum a = true) : isSer a = true := isSer_iff.2 ⟨by omega, by omega, ha⟩
/-- whatever a call hands back -/
theorem ResL.any {r : List Int × Int} {w w' : World} {e : Ending} (h : ResL r w e w') : ∃ q k m A c, r = (q, k) ∧ e = .returned (.tuple #[.slice A m c, .int .i64 k]) ∧ q.length = m ∧ m ≤ 1048576 ∧ Lst w' A q ∧ Below w.heap.size w w' := by
  obtain ⟨h1, A, c, h2, h3, h4⟩ := h
  obtain ⟨q, k⟩ := r
  exact ⟨q, k, _, A, c, rfl, h2, rfl, h1, row_of_own h3, h4⟩
theorem ResL.at {r : List Int × Int} {w w' : World} {e : Ending} {q : List Int} {k : Int} {m : Nat} (h : ResL r w e w') (hr : r = (q, k)) (hq : q.length = m) : ∃ A c, e = .returned (.tuple #[.slice A m c, .int .i64 k]) ∧ Lst w' A q ∧ Below w.heap.size w w' := by
  subst hr; subst hq
  obtain ⟨h1, A, c, h2, h3, h4⟩ := h
  exact ⟨A, c, h2, row_of_own h3, h4⟩
theorem ResL.sr {r : List Int × Int} {w w' : World} {e : Ending} {n : Nat} {f : Nat → Int} (h : ResL r w e w') (hr : r = (Go.Proofs.Ytjdanhjonjmccab.cl n f, 0)) : ∃ q A c, e = .returned (.tuple #[.slice A n c, .int .i64 0]) ∧ n ≤ c ∧ Sr n q f ∧ Lst w' A q ∧ Below w.heap.size w w' := by
  obtain ⟨h1, A, c, h2, h3, h4⟩ := h
  have hc : r.1.length ≤ c := by
    rcases h3.2 with ⟨e1, e2⟩ | ⟨g, cap, cur, e1, _, _, e2, _⟩
    · omega
    · injection e1 with e3 e4 e5; omega
  subst hr
  simp only [cl_length] at h2 h3 hc
  exact ⟨_, A, c, h2, hc, Sr.cl n f, row_of_own h3, h4⟩
theorem mul_sr {n : Nat} {a b : List Int} {f g : Nat → Int} (p1 : 1 ≤ n) (p2 : n ≤ 16) (h : Sr n a f) (h' : Sr n b g) : mulSerA a b = (Go.Proofs.Ytjdanhjonjmccab.cl n (cv f g), 0) := by
  unfold mulSerA
  rw [if_pos (areSer_of p1 p2 h.1 h'.1 h.2.1 h'.2.1), h.1, cl_cg (h.2.2.cv h'.2.2)]
theorem add_sr {n : Nat} {a b : List Int} {f g : Nat → Int} (p1 : 1 ≤ n) (p2 : n ≤ 16) (h : Sr n a f) (h' : Sr n b g) : addSerA a b = (Go.Proofs.Ytjdanhjonjmccab.cl n (ad f g), 0) := by
  unfold addSerA
  rw [if_pos (areSer_of p1 p2 h.1 h'.1 h.2.1 h'.2.1), h.1, cl_cg (h.2.2.ad h'.2.2)]
end Go.Proofs.Ytjdanhjonjmccab
