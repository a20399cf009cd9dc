/-
  The copy that the program's elimination starts from, with columns of zeros added (at least one).
-/
import Derived.Test.YtdgdanpkekcckaaSysOf
import Derived.Lib.AppendZerosOnto
import Derived.Laws.OwnMore
namespace Go.Proofs.Ytdgdanpkekcckaa
open Go.RowKit Fld
set_option linter.unusedVariables false
set_option linter.unusedSimpArgs false
set_option maxRecDepth 100000

theorem toList_zeroCells_one (z : Value) (n : Nat) : (Builtin.zeroCells #[z] n).toList = List.replicate n z := by
  apply List.ext_getElem?
  intro j
  by_cases hj : j < n
  · simp [Builtin.zeroCells, hj, Nat.mod_one]
  · simp [Builtin.zeroCells, hj]
/-- zeros are appended to a full row of numbers of the call's own: a new row -/
theorem run_append_own_zeros {P : Program} (w : World) (base : Nat) (t tn ty e : TypeId) (i : TypeInfo) (ht : P.underlying t = some (.slice e)) (htn : P.underlying tn = some (.int .i64)) (hi : P.info? e = some i) (hz : i.zero = some (.int .i64 0))
    (hs : i.size = 1) (hb : i.bytes = 8) (g n d : Nat) (xs : List Int) (hown : w.ownsRow base e 1 (.slice (some ⟨g, 0, none⟩) n n) n (ints xs)) (hd : 0 < d) (hnd : n + d ≤ 1048576) (hbase : base ≤ w.heap.size) :
    ∃ v cap, (Builtin.append_ #[t, tn] ty #[.slice (some ⟨g, 0, none⟩) n n, .int .i64 d]).run P w = .ok (.slice (some ⟨v, 0, none⟩) (n + d) cap) (w.drew.alloc (.cells (((ints xs).toArray ++ Builtin.zeroCells (Value.int .i64 0).cells d) ++ Builtin.zeroCells (Value.int .i64 0).cells (cap - (n + d))) e)) ∧
      v = w.heap.size ∧
      (w.drew.alloc (.cells (((ints xs).toArray ++ Builtin.zeroCells (Value.int .i64 0).cells d) ++ Builtin.zeroCells (Value.int .i64 0).cells (cap - (n + d))) e)).ownsRow w.heap.size e 1 (.slice (some ⟨v, 0, none⟩) (n + d) cap) (n + d) (ints (xs ++ List.replicate d 0)) := by
  have hm : n + d ≤ maxLen := by simp only [maxLen]; omega
  have hxl : xs.length = n := by have := hown.1; rw [ints_length] at this; omega
  have holds : ∀ j u, (ints xs)[j]? = some u → w.drew.cell? ((⟨g, 0, none⟩ : Addr).add j) = some u := hown.cells (g := g) rfl
  have hf := run_firstCells_some (P := P) (w := w.drew) 1 n ⟨g, 0, none⟩ n n (ints xs) (by rw [ints_length, hxl, Nat.mul_one]) holds
  have hr := Lib.run_append_grow_zeros (P := P) w t tn ty e i _ .i64 .i64 ht htn hi hz (some ⟨g, 0, none⟩) n n (ints xs) (by rw [hs]; exact hf) d hd (by omega) (by omega) (by omega) (by rw [hb]; omega) (growslice_fits (by omega) (by rw [hb]; omega))
  refine ⟨_, _, hr, rfl, ?_⟩
  have hge := grownCap_ge w (n + d) n e
  have hcm : grownCap w (n + d) n e ≤ maxLen := grownCap_le_maxLen w (n + d) n e hm
  have e1 : (Value.int .i64 0).cells = #[Value.int .i64 0] := rfl
  have e2 : ints (xs ++ List.replicate d 0) = ints xs ++ List.replicate d (.int .i64 0) := by unfold ints intsK; rw [List.map_append, List.map_replicate]
  have e3 : (ints (xs ++ List.replicate d 0)).length = n + d := by rw [ints_length, List.length_append, List.length_replicate, hxl]
  refine ⟨by rw [e3, Nat.mul_one], .inr ⟨w.heap.size, _, _, rfl, Nat.le_refl _, heap_alloc_new w.drew _, hge, hcm, ?_, ?_⟩⟩
  · simp only [Array.size_append, List.size_toArray, size_zeroCells, ints_length, hxl, e1]
    simp
    omega
  · simp only [Array.toList_append, e1, toList_zeroCells_one, ← e2]
    rw [Nat.mul_one, ← e3]
    exact List.take_left
/-- zeros at the end of each row -/
def padL (m : List (List Int)) (d : Nat) : List (List Int) := m.map (fun r => r ++ List.replicate d 0)
theorem padL_length (m : List (List Int)) (d : Nat) : (padL m d).length = m.length := by simp [padL]
theorem padL_at {m : List (List Int)} {d k : Nat} {r : List Int} (h : m[k]? = some r) : (padL m d)[k]? = some (r ++ List.replicate d 0) := by unfold padL; rw [List.getElem?_map, h]; rfl
theorem padL_wide {m : List (List Int)} {q d : Nat} (h : Wide m q) : Wide (padL m d) (q + d) := by
  intro r hr
  unfold padL at hr
  rw [List.mem_map] at hr
  obtain ⟨s, hs, rfl⟩ := hr
  rw [List.length_append, List.length_replicate, h s hs]
theorem padL_num {m : List (List Int)} {d : Nat} (h : ∀ r ∈ m, allNum r = true) : ∀ r ∈ padL m d, allNum r = true := by
  intro r hr
  unfold padL at hr
  rw [List.mem_map] at hr
  obtain ⟨s, hs, rfl⟩ := hr
  have := h s hs
  rw [allNum, List.all_eq_true] at this ⊢
  intro x hx
  rw [List.mem_append] at hx
  rcases hx with hx | hx
  · exact this x hx
  · rw [List.mem_replicate] at hx
    rw [hx.2]
    decide
/-- numbersOf, and where its row lies: it is full -/
def NewFull (T : TypeId) (n : Nat) (vs : List Value) (w : World) (e : Ending) (w' : World) : Prop :=
  e = .returned (.slice (some ⟨w.heap.size, 0, none⟩) n n) ∧ w'.ownsRow w.heap.size T 1 (.slice (some ⟨w.heap.size, 0, none⟩) n n) n vs ∧ Below w.heap.size w w'
theorem Filling.full {w wr : World} {T : TypeId} {n : Nat} {xs : List Int} (h : Filling w T n xs n wr) (hl : xs.length = n) : NewFull T n (ints xs) w (.returned (.slice (some ⟨w.heap.size, 0, none⟩) n n)) wr := by
  obtain ⟨h1, h2⟩ := h
  rw [fill_end _ (by rw [ints_length]; exact hl)] at h1
  exact ⟨rfl, h1, h2⟩
set_option maxHeartbeats 400000 in
theorem numbersOf_full (A : Option Addr) (n c B : Nat) (xs : List Int) (w : World) (hl : xs.length = n) (hn : n ≤ 1048576) (hB : B ≤ w.heap.size) (h : Row w B A (ints xs)) :
    Calls Try.prog 23 #[.slice A n c] w (NewFull 42 n (ints xs) w) := by
  obtain ⟨i0, hi, hz0, hz1, hz2⟩ := info_parts numbersOf_any_info
  have HL := Lib.hid hl
  clear hl
  go_enter Try.func23, Try.ntmps23
  go_wp2_with (at_make; refine wpList_make_full _ rfl (.tmp 7) (.tmp 7) 51 rfl w.heap.size 42 i0 _ 1 Try.underlying51 hi hz0 hz1 .i64 .i64 _ _ n rfl rfl rfl rfl (by rw [hz2]; omega) (by simp only [maxLen]; omega) (Nat.le_refl _) ?_; intro w1 hown hg)
  have F0 := Filling.start (xs := xs) hown hg
  clear hown hg hz0 hz1 hz2 hi
  go_loopw [11] (fun i wr => ∃ k : Nat, k ≤ n ∧ i = .int .i64 k ∧ Filling w 42 n xs k wr) (fun i _ => n - (intOf i).toNat)
  case atStart => exact ⟨0, Nat.zero_le _, rfl, F0⟩
  case round =>
    obtain ⟨k, hk, rfl, HF⟩ := hrel
    by_cases hlt : k < n
    · obtain ⟨x, hx⟩ := at_lt (show k < xs.length by rw [HL.out]; exact hlt)
      obtain ⟨b, o, rfl, _, hc⟩ := h.below HF.2 hB k _ (ints_at hx)
      have hf := HF.1.frozenAt k
      have ho := fill_at' HF HL.out hlt
      have G := Lib.hid (HF.step HL.out hx)
      clear hx F0 HF
      go_wp2
      go_roundw
      case rel => exact ⟨k + 1, by omega, by go_num, G.out⟩
      case measure => simp [intOf]; omega
    · obtain rfl : k = n := by omega
      have G := Lib.hid (HF.full HL.out)
      clear HF F0
      go_wp2
      go_ret
      exact G.out
/-- the append of zeros in a list of operations -/
theorem wpList_append_zeros {P : Program} (w : World) {ops : Array Oper} {rest : List Oper} {o : Oper} {a : Act} {Q : Exit → Act → World → Prop}
    (hg : o.guard = none) (s x : Operand) (t tn : TypeId) (hop : o.op = Op.call { callee := Callee.builtin Builtin.append, args := #[s, x], argTypes := #[t, tn] })
    (v1 v2 v : Value) (w2 : World) (hs : a.eval s = v1) (hx : a.eval x = v2) (hrun : (Builtin.append_ #[t, tn] o.type #[v1, v2]).run P w = .ok v w2)
    (hK : wpList P ops Q rest (a.put o.dst v) w2) : wpList P ops Q (o :: rest) a w := by
  refine wpList_plain hg fun K hK' => ?_
  unfold Oper.wp
  simp [execOp, hop, resolve, invoke, builtin, hs, hx, hrun, Result.andThen]
  exact hK' _ _ hK
set_option maxHeartbeats 800000 in
theorem systemOf_more (A : Option Addr) (n c B q d : Nat) (m : List (List Int)) (w : World) (hl : m.length = n) (hn : n ≤ 8) (hq : Wide m q) (hq16 : q ≤ 8) (hd : 0 < d) (hd8 : d ≤ 8) (hB : B ≤ w.heap.size) (h : Mat w B A m) :
    Calls Try.prog 17 #[.slice A n c, .int .i64 d] w (NewSys n (padL m d) w) := by
  obtain ⟨i0, hi, hz0, hz1, hz2⟩ := info_parts info_sysrow
  obtain ⟨j0, hj, hj0, hj1, hj2⟩ := info_parts numbersOf_any_info
  have HL := Lib.hid hl
  have HP : Hid ((padL m d).length = n) := (padL_length m d).trans hl
  have HQ := Lib.hid hq
  have HJ := Lib.hid (And.intro hj (And.intro hj0 (And.intro hj1 hj2)))
  clear hl hq hj hj0 hj1 hj2
  go_enter Try.func17, Try.ntmps17
  go_wp2_with (at_make; refine wpList_make_full _ rfl (.tmp 9) (.tmp 9) 44 rfl w.heap.size 51 i0 _ 1 Try.underlying44 hi hz0 hz1 .i64 .i64 _ _ n rfl rfl rfl rfl (by rw [hz2]; omega) (by simp only [maxLen]; omega) (Nat.le_refl _) ?_; intro w1 hown hg)
  have F0 := FillS.start (m := padL m d) hown hg
  clear hown hg hz0 hz1 hz2 hi
  go_loopw [13] (fun i wr => ∃ k : Nat, k ≤ n ∧ i = .int .i64 k ∧ FillS w n (padL m d) k wr) (fun i _ => n - (intOf i).toNat)
  case atStart => exact ⟨0, Nat.zero_le _, rfl, F0⟩
  case round =>
    obtain ⟨k, hk, rfl, HF⟩ := hrel
    by_cases hlt : k < n
    · obtain ⟨r, hr⟩ := at_lt (show k < m.length by rw [HL.out]; exact hlt)
      have hrq := HQ.out.at_ hr
      obtain ⟨vs, hvs, hbel, hsz⟩ := id HF
      obtain ⟨b, o, Ak, ck, rfl, _, hc, hlc, hcm, hrow⟩ := h.below hbel hB k r hr
      have hrl : r.length ≤ 8 := by omega
      have HF' := Lib.hid HF
      have HR := Lib.hid (padL_at (d := d) hr)
      have hBs := hbel.size
      have k0 : (0 : Int) ≤ (k : Int) := Int.natCast_nonneg _
      have k1 : (k : Int) < (n : Int) := by omega
      clear hr F0 HF hvs hbel hrq
      go_wp2_with fail
      refine (numbersOf_full Ak r.length ck B r _ rfl (by omega) (by omega) hrow).mono ?_
      rintro e w2 ⟨rfl, own2, be2⟩
      obtain ⟨_, cap, hrun, rfl, own3⟩ := run_append_own_zeros (P := Try.prog) w2 wr.heap.size 51 3 51 42 j0 Try.underlying51 Try.underlying3 HJ.out.1 HJ.out.2.1 HJ.out.2.2.1 HJ.out.2.2.2 _ r.length d r own2 hd (by omega) be2.size
      generalize hW : w2.drew.alloc _ = w3 at hrun own3
      have be3 : Below wr.heap.size wr w3 := by
        rw [← hW]
        exact be2.drew.alloc be2.size _
      have own4 : w3.ownsRow wr.heap.size 42 1 (.slice (some ⟨w2.heap.size, 0, none⟩) (r ++ List.replicate d 0).length cap) (r ++ List.replicate d 0).length (ints (r ++ List.replicate d 0)) := by
        rw [List.length_append, List.length_replicate]
        exact ⟨own3.1, own3.2.imp id (fun ⟨g, c', cu, e, hb, rest⟩ => ⟨g, c', cu, e, Nat.le_trans be2.size hb, rest⟩)⟩
      obtain ⟨⟨u, hu⟩, hf⟩ := HF'.out.cell HP.out hlt be3
      have G := Lib.hid (HF'.out.step HP.out HR.out own4 be3)
      have el : (r ++ List.replicate d 0).length = r.length + d := by rw [List.length_append, List.length_replicate]
      rw [el] at G
      clear own2 own3 own4 hW
      go_wp2_with (at_builtin; refine wpList_append_zeros _ rfl (.tmp 21) (.tmp 22) 51 3 rfl _ _ _ _ rfl rfl hrun ?_)
      go_roundw
      case rel => exact ⟨k + 1, by omega, by go_num, G.out⟩
      case measure => simp [intOf]; omega
    · obtain rfl : k = n := by omega
      have G := Lib.hid (HF.done HP.out)
      clear HF F0
      go_wp2
      go_ret
      exact G.out
end Go.Proofs.Ytdgdanpkekcckaa
