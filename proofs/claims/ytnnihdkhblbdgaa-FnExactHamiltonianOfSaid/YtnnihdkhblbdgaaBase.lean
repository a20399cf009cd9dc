/-
  Plain lemmas and words that every proof of this seat leans on: endings, slices that read as lists, arguments opened.
-/
import Derived.Test.YtnnihdkhblbdgaaRows
import Derived.WalkKit
import Derived.ProofKit
import Derived.OpenShut
import Derived.ShutString
import Derived.ChangeOld
import Derived.Below
import Derived.Calls
import Derived.Lib.Hide
import Derived.Deep.Matrix
namespace Go.Proofs.Ytnnihdkhblbdgaa
open Go.ChangeShapes Go.WideShapes Go.ChangeAt Go.RowKit

theorem ret_i64 {a b : Int} (h : a = b) : Ending.returned (.int .i64 a) = .returned (.int .i64 b) := by rw [h]
theorem ret_bool {a b : Bool} (h : a = b) : Ending.returned (.bool a) = .returned (.bool b) := by rw [h]
theorem ret_two {a b c d : Int} (h : a = b) (g : c = d) : Ending.returned (.tuple #[.int .i64 a, .int .i64 c]) = .returned (.tuple #[.int .i64 b, .int .i64 d]) := by rw [h, g]

/-- an int64 that came in lies in its range -/
theorem i64_of_wf {a : Int} (h : (Lit.int .i64 a).wf = true) : -9223372036854775808 ≤ a ∧ a ≤ 9223372036854775807 := by
  simpa [Lit.wf, IntKind.min, IntKind.max, IntKind.signed, IntKind.bits] using h

theorem lt_of_cell {w : World} {b o : Nat} {v : Value} (h : w.cell? ⟨b, o, none⟩ = some v) : b < w.heap.size := by
  rcases Nat.lt_or_ge b w.heap.size with g | g
  · exact g
  · unfold World.cell? at h
    simp [Array.getElem?_eq_none g] at h

/-! rows: a slice whose cells hold the values vs, in blocks below B -/
def Row (w : World) (B : Nat) (A : Option Addr) (vs : List Value) : Prop :=
  ∀ k v, vs[k]? = some v → ∃ b o, A = some ⟨b, o, none⟩ ∧ b < B ∧ w.cell? ⟨b, o + k, none⟩ = some v
theorem Row.nil (w : World) (B : Nat) (A : Option Addr) : Row w B A [] := fun k v h => by simp at h
theorem Row.keep {w w' : World} {B : Nat} {A : Option Addr} {vs : List Value} (h : Row w B A vs) (hk : ∀ b o, b < B → w'.cell? ⟨b, o, none⟩ = w.cell? ⟨b, o, none⟩) : Row w' B A vs :=
  fun k v hv => by
    obtain ⟨b, o, e, hb, hc⟩ := h k v hv
    exact ⟨b, o, e, hb, (hk b _ hb).trans hc⟩
theorem Row.more {w : World} {B B' : Nat} {A : Option Addr} {vs : List Value} (h : Row w B A vs) (hB : B ≤ B') : Row w B' A vs :=
  fun k v hv => by
    obtain ⟨b, o, e, hb, hc⟩ := h k v hv
    exact ⟨b, o, e, by omega, hc⟩
theorem Row.below {w w' : World} {B B' : Nat} {A : Option Addr} {vs : List Value} (h : Row w B A vs) (hb : Below B' w w') (hB : B ≤ B') : Row w' B A vs :=
  h.keep fun b o hlt => hb.cell (p := ⟨b, o, none⟩) (by show b < B'; omega)
theorem Row.alloc {w : World} {B : Nat} {A : Option Addr} {vs : List Value} (h : Row w B A vs) (hB : B ≤ w.heap.size) (x : Obj) : Row (w.alloc x) B A vs :=
  h.below ((Below.refl w.heap.size w).alloc (Nat.le_refl _) x) hB
theorem Row.take {w : World} {B : Nat} {A : Option Addr} {vs us : List Value} (h : Row w B A (us ++ vs)) : Row w B A us :=
  fun k v hv => h k v (by
    have hk : k < us.length := by
      rcases Nat.lt_or_ge k us.length with g | g
      · exact g
      · rw [List.getElem?_eq_none g] at hv; cases hv
    rw [List.getElem?_append_left hk]; exact hv)
/-- a row that was just built -/
theorem Row.new (w : World) (T : TypeId) (vs : List Value) : Row (w.alloc (.cells vs.toArray T)) (w.heap.size + 1) (some ⟨w.heap.size, 0, none⟩) vs :=
  fun k v hv => ⟨w.heap.size, 0, rfl, by omega, by
    rw [World.cell?_alloc_at (hn := by simp)]
    simpa using hv⟩
def intsK (k : IntKind) (xs : List Int) : List Value := xs.map fun x => .int k x
def ints (xs : List Int) : List Value := intsK .i64 xs
theorem intsK_at {q : IntKind} {xs : List Int} {k : Nat} {x : Int} (h : xs[k]? = some x) : (intsK q xs)[k]? = some (.int q x) := by
  unfold intsK; rw [List.getElem?_map, h]; rfl
theorem ints_at {xs : List Int} {k : Nat} {x : Int} (h : xs[k]? = some x) : (ints xs)[k]? = some (.int .i64 x) := by
  exact intsK_at h

/-- a row of rows of integers -/
def Mat (w : World) (B : Nat) (A : Option Addr) (m : List (List Int)) : Prop :=
  ∀ k r, m[k]? = some r → ∃ b o Ak ck, A = some ⟨b, o, none⟩ ∧ b < B ∧ w.cell? ⟨b, o + k, none⟩ = some (.slice Ak r.length ck) ∧ r.length ≤ ck ∧ ck ≤ maxLen ∧ Row w B Ak (ints r)
theorem Mat.keep {w w' : World} {B : Nat} {A : Option Addr} {m : List (List Int)} (h : Mat w B A m) (hk : ∀ b o, b < B → w'.cell? ⟨b, o, none⟩ = w.cell? ⟨b, o, none⟩) : Mat w' B A m :=
  fun k r hr => by
    obtain ⟨b, o, Ak, ck, e, hb, hc, hl, hm, hrow⟩ := h k r hr
    exact ⟨b, o, Ak, ck, e, hb, (hk b _ hb).trans hc, hl, hm, hrow.keep hk⟩
theorem Mat.below {w w' : World} {B B' : Nat} {A : Option Addr} {m : List (List Int)} (h : Mat w B A m) (hb : Below B' w w') (hB : B ≤ B') : Mat w' B A m :=
  h.keep fun b o hlt => hb.cell (p := ⟨b, o, none⟩) (by show b < B'; omega)
theorem Mat.more {w : World} {B B' : Nat} {A : Option Addr} {m : List (List Int)} (h : Mat w B A m) (hB : B ≤ B') : Mat w B' A m :=
  fun k r hr => by
    obtain ⟨b, o, Ak, ck, e, hb, hc, hl, hm, hrow⟩ := h k r hr
    exact ⟨b, o, Ak, ck, e, by omega, hc, hl, hm, hrow.more hB⟩

section
variable {H : Type} {enc : TypeId × Value → H} {P : Program} {w : World} {d : DataW H} {ps : List MemPlace}
theorem add_at {w : World} {a : Addr} {i : Nat} {u v : Value} (h0 : w.cell? (a.add 0) = some u) (h : w.cell? (a.add i) = some v) : a = ⟨a.block, a.off, none⟩ ∧ w.cell? ⟨a.block, a.off + i, none⟩ = some v ∧ a.block < w.heap.size := by
  obtain ⟨b, o, s⟩ := a
  have hs : s = none := by simpa [Addr.add] using World.cell?_spot h0
  subst hs
  have h2 : w.cell? ⟨b, o + i, none⟩ = some v := by
    by_cases hi : i = 0
    · subst hi; simpa [Addr.add] using h
    · simpa [Addr.add, hi] using h
  exact ⟨rfl, h2, lt_of_cell h2⟩
/-- what came in as a slice of integers -/
def IsRow (k : IntKind) (w : World) (a : Option Addr) (len cap : Nat) (xs : List Int) : Prop :=
  xs.length = len ∧ len ≤ cap ∧ cap ≤ maxLen ∧ Row w w.heap.size a (intsK k xs) ∧ ∀ n ∈ xs, (Lit.int k n).wf = true
theorem isRow_of {t e : TypeId} {k : IntKind} {a : Option Addr} {len cap : Nat} (ht : P.underlying t = some (.slice e)) (he : P.underlying e = some (.int k)) (ce : P.cellsOf e = 1)
    (h : DataW.Trod enc P w 0 (fun _ => true) true t (.slice a len cap) d ps) : ∃ xs, IsRow k w a len cap xs := by
  obtain ⟨fuel, hf⟩ := h
  rcases open_ints ht he ce hf with ⟨hcs, _⟩ | ⟨x, l, c, zs, hcs, _, hl, hm, hz, _, hcell, hwz⟩
  · simp [Value.cells] at hcs
    obtain ⟨rfl, rfl, rfl⟩ := hcs
    exact ⟨[], rfl, Nat.le_refl _, Nat.zero_le _, Row.nil _ _ _, by simp⟩
  · simp [Value.cells] at hcs
    obtain ⟨rfl, rfl, rfl⟩ := hcs
    have hz' : zs.length = cap := by simpa using hz
    refine ⟨zs.take len, by simp; omega, hl, hm, ?_, fun n hn => hwz n (List.mem_of_mem_take hn)⟩
    intro i v hv
    unfold intsK at hv
    rw [List.getElem?_map, Option.map_eq_some_iff] at hv
    obtain ⟨z, hzi, rfl⟩ := hv
    have hi : i < len := by
      rcases Nat.lt_or_ge i len with g | g
      · exact g
      · rw [List.getElem?_eq_none (by simp; omega)] at hzi; cases hzi
    have hc := hcell i (by omega)
    rw [List.getElem?_take, if_pos hi] at hzi
    rw [List.getD_eq_getElem?_getD, hzi] at hc
    obtain ⟨e1, e2, e3⟩ := add_at (hcell 0 (by omega)) hc
    exact ⟨x.block, x.off, by rw [← e1], e3, e2⟩
/-- what came in as a slice of slices of integers -/
def IsMat (w : World) (a : Option Addr) (len cap : Nat) (m : List (List Int)) : Prop :=
  m.length = len ∧ len ≤ cap ∧ cap ≤ maxLen ∧ Mat w w.heap.size a m ∧ ∀ r ∈ m, ∀ n ∈ r, (Lit.int .i64 n).wf = true
theorem isMat_of {t e q : TypeId} {a : Option Addr} {len cap : Nat} (ht : P.underlying t = some (.slice e)) (he : P.underlying e = some (.slice q)) (hq : P.underlying q = some (.int .i64)) (ce : P.cellsOf e = 1) (cq : P.cellsOf q = 1)
    (h : DataW.Trod enc P w 0 (fun _ => true) true t (.slice a len cap) d ps) : ∃ m, IsMat w a len cap m := by
  obtain ⟨fuel, hf⟩ := h
  rcases Go.Deep.open_int_rows ht he hq ce cq hf with ⟨hcs, _⟩ | ⟨x, l, c, A, L, C, Z, hcs, _, hl, hm, _, hrow⟩
  · simp [Value.cells] at hcs
    obtain ⟨rfl, rfl, rfl⟩ := hcs
    exact ⟨[], rfl, Nat.le_refl _, Nat.zero_le _, fun k r h => by simp at h, by simp⟩
  · simp [Value.cells] at hcs
    obtain ⟨rfl, rfl, rfl⟩ := hcs
    refine ⟨(List.range len).map fun r => (Z r).take (L r), by simp, hl, hm, ?_, ?_⟩
    · intro k r hr
      rw [List.getElem?_map, Option.map_eq_some_iff] at hr
      obtain ⟨k', hk', rfl⟩ := hr
      have hk : k < len := by
        rcases Nat.lt_or_ge k len with g | g
        · exact g
        · rw [List.getElem?_eq_none (by simp; omega)] at hk'; cases hk'
      rw [List.getElem?_range hk] at hk'
      cases hk'
      obtain ⟨h1, h2, h3, h4, h5, h6, h7⟩ := hrow k (by omega)
      obtain ⟨e1, e2, e3⟩ := add_at (hrow 0 (by omega)).1 h1
      have hlen : ((Z k).take (L k)).length = L k := by simp; omega
      refine ⟨x.block, x.off, A k, C k, by rw [← e1], e3, by rw [hlen]; exact e2, by omega, h3, ?_⟩
      intro i v hv
      unfold ints intsK at hv
      rw [List.getElem?_map, Option.map_eq_some_iff] at hv
      obtain ⟨z, hzi, rfl⟩ := hv
      have hi : i < L k := by
        rcases Nat.lt_or_ge i (L k) with g | g
        · exact g
        · rw [List.getElem?_eq_none (by simp; omega)] at hzi; cases hzi
      rw [List.getElem?_take, if_pos hi] at hzi
      rcases hA : A k with _ | a'
      · have := h6 hA; omega
      · have hc := (h7 a' hA).2 i (by omega)
        rw [List.getD_eq_getElem?_getD, hzi] at hc
        obtain ⟨e1, e2, e3⟩ := add_at ((h7 a' hA).2 0 (by omega)) hc
        exact ⟨a'.block, a'.off, by rw [← e1], e3, e2⟩
    · intro r hr n hn
      rw [List.mem_map] at hr
      obtain ⟨k, hk, rfl⟩ := hr
      have hk2 := List.mem_range.1 hk
      exact (hrow k (by omega)).2.2.2.2.1 n (List.mem_of_mem_take hn)
end

/-! numbers of the field, as the tests see them -/
def isNum (a : Int) : Bool := decide (0 ≤ a ∧ a < 10007)
theorem isNum_iff {a : Int} : isNum a = true ↔ 0 ≤ a ∧ a < 10007 := by simp [isNum]
theorem isNum_no {a : Int} : isNum a = false ↔ a < 0 ∨ 10007 ≤ a := by simp [isNum]; omega
def allNum (xs : List Int) : Bool := xs.all isNum
theorem allNum_iff {xs : List Int} : allNum xs = true ↔ ∀ x ∈ xs, 0 ≤ x ∧ x < 10007 := by simp [allNum, List.all_eq_true, isNum_iff]
theorem allNum_take {xs : List Int} {k : Nat} {x : Int} (h : xs[k]? = some x) (ht : allNum (xs.take k) = true) (hx : isNum x = true) : allNum (xs.take (k + 1)) = true := by
  rw [List.take_add_one, h]
  unfold allNum at *
  simp [ht, hx]
theorem allNum_no {xs : List Int} {k : Nat} {x : Int} (h : xs[k]? = some x) (hx : isNum x = false) : allNum xs = false := by
  unfold allNum
  rw [List.all_eq_false]
  exact ⟨x, List.mem_of_getElem? h, by simp [hx]⟩
theorem at_lt {α : Type} {xs : List α} {k : Nat} (h : k < xs.length) : ∃ x, xs[k]? = some x := ⟨xs[k], List.getElem?_eq_getElem h⟩

def isIn (n l h : Int) : Bool := decide (l ≤ n ∧ n ≤ h)
theorem isIn_yes {n l h : Int} (h0 : l ≤ n) (h1 : n ≤ h) : isIn n l h = true := by simp [isIn, h0, h1]
theorem isIn_no {n l h : Int} (h0 : n < l ∨ h < n) : isIn n l h = false := by simp [isIn]; omega
theorem isIn_num (a : Int) : isIn a 0 10006 = isNum a := by
  unfold isIn isNum; congr 1; exact propext ⟨fun h => ⟨h.1, by omega⟩, fun h => ⟨h.1, by omega⟩⟩
/-- the code of two numbers -/
def twoCode (a b : Int) : Int := if allNum [a, b] = true then 0 else 2
theorem twoCode_yes {a b : Int} (h : allNum [a, b] = true) : twoCode a b = 0 := if_pos h
theorem twoCode_no {a b : Int} (h : allNum [a, b] = false) : twoCode a b = 2 := if_neg (by rw [h]; simp)
theorem allNum_two (a b : Int) : allNum [a, b] = (isNum a && isNum b) := by simp [allNum]

/-- a result beside a test: 0 where the test fails -/
def pick (c : Bool) (r : Int) : Int := if c = true then r else 0
theorem pick_yes {c : Bool} (h : c = true) (r : Int) : pick c r = r := if_pos h
theorem pick_no {c : Bool} (h : c = false) (r : Int) : pick c r = 0 := if_neg (by rw [h]; simp)
theorem ret_two_yes {c : Bool} {r x y k : Int} (h : c = true) (hx : x = r) (hk : y = k) : Ending.returned (.tuple #[.int .i64 x, .int .i64 y]) = .returned (.tuple #[.int .i64 (pick c r), .int .i64 k]) := by rw [pick_yes h, hx, hk]
theorem ret_two_no {c : Bool} {r x y k : Int} (h : c = false) (hx : x = 0) (hk : y = k) : Ending.returned (.tuple #[.int .i64 x, .int .i64 y]) = .returned (.tuple #[.int .i64 (pick c r), .int .i64 k]) := by rw [pick_no h, hx, hk]
theorem ret_pair {p : Int × Int} {x y : Int} (h : p = (x, y)) : Ending.returned (.tuple #[.int .i64 x, .int .i64 y]) = .returned (.tuple #[.int .i64 p.1, .int .i64 p.2]) := by rw [h]
theorem isIn_iff {n l h : Int} : isIn n l h = true ↔ l ≤ n ∧ n ≤ h := by simp [isIn]
theorem beq_t {a b : Int} (h : a = b) : (a == b) = true := beq_iff_eq.2 h
theorem beq_f {a b : Int} (h : a ≠ b) : (a == b) = false := beq_eq_false_iff_ne.2 h
theorem bne_t {a b : Int} (h : a ≠ b) : (a != b) = true := bne_iff_ne.2 h
theorem bne_f {a b : Int} (h : a = b) : (a != b) = false := by rw [h]; simp
theorem ok_two_num {a b : Int} (h : allNum [a, b] = true) : 0 ≤ a ∧ a < 10007 ∧ 0 ≤ b ∧ b < 10007 := by
  rw [allNum_iff] at h
  have h1 := h a (by simp)
  have h2 := h b (by simp)
  omega
end Go.Proofs.Ytnnihdkhblbdgaa
