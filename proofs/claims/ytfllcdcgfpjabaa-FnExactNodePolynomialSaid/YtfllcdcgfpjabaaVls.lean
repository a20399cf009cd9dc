/-
  slices.Sorted(slices.Values(..)) of at most 12 numbers.
-/
import Derived.Test.YtfllcdcgfpjabaaRngN
import Derived.Test.YtfllcdcgfpjabaaSrtN
import Derived.Test.YtfllcdcgfpjabaaSlices
import Derived.Shelf.Abstract
import Derived.OwnWalkIn
import Derived.TacticsInMore
import Derived.LoopNIn
import Derived.LoopIn
namespace Go.Proofs.Ytfllcdcgfpjabaa
open Go.RowKit Fld Go.Shelf
set_option linter.unusedVariables false
set_option linter.unusedSimpArgs false
set_option maxRecDepth 100000
attribute [local go_sem] Oper.semAt_some

theorem info_numV : (Try.prog.info? 79).map (fun i => (i.zero, i.size, i.bytes)) = some (some (.int .i64 0), 1, 8) := by kernel_rfl
theorem Rg2.cell' {lo hi b o : Nat} {A B : World} (h : Rg2 lo hi A B) (h1 : lo ≤ b) (h2 : b < hi) : B.cell? ⟨b, o, none⟩ = A.cell? ⟨b, o, none⟩ := by
  have := h.2 b h1 h2
  unfold World.cell?
  rw [this]
theorem Rg2.row {hi B : Nat} {A2 : Option Addr} {vs : List Value} {A W : World} (h : Rg2 0 hi A W) (r : Row A B A2 vs) (hb : B ≤ hi) : Row W B A2 vs := fun k v hv => by
  obtain ⟨b, o, e, hlt, hc⟩ := r k v hv
  exact ⟨b, o, e, hlt, (h.cell' (Nat.zero_le _) (by omega)).trans hc⟩
theorem KpW.rg {hi E : Nat} {A B : World} (h : KpW 0 hi E A B) (hh : hi ≤ A.heap.size) : Rg2 0 hi A B := ⟨h.size, fun i h1 h2 => h.rng i h1 h2 (by omega)⟩
set_option maxHeartbeats 1000000 in
theorem values_its (A : Option Addr) (n c B bs hi : Nat) (zs : List Int) (w : World) (hl : zs.length = n) (hn : n ≤ 1048576) (hB : B ≤ hi) (hbs : bs < hi) (hhi : hi ≤ w.heap.size) (hc : w.cell? ⟨bs, 0, none⟩ = some (.slice A n c)) (h : Row w B A (ints zs)) :
    Its2 Try.prog 116 #[.pointer (some ⟨bs, 0, none⟩)] 0 hi (fun x : Int => .int .i64 x) zs w := fun l J Jx W hW hJ hJx hY h0 => by
  have HL := Lib.hid hl
  have hcW := (hW.cell' (o := 0) (Nat.zero_le _) hbs).trans hc
  have hRW := hW.row h hB
  have hsW : hi ≤ W.heap.size := Nat.le_trans hhi hW.1
  have HYY := Lib.hid hY
  clear hY hl hc
  refine (callsIn_wide (n := 3)).1 ?_
  refine callsIn_of_wp Try.func116 rfl trivial ?_ rfl
  simp only [Try.ntmps116, List.size_toArray, List.length_cons, List.length_nil, Nat.reduceAdd, Nat.reduceSub, Array.replicate_succ, Array.replicate_zero, List.push_toArray, List.append_toArray, List.nil_append, List.cons_append]
  gi_wp2
  gi_loopw [7] (fun i wr => ∃ k : Nat, k ≤ n ∧ i = .int .i64 k ∧ Hid (J (zs.take k) wr) ∧ Hid (KpW 0 hi W.heap.size W wr)) (fun i _ => n - (intOf i).toNat)
  case atStart => exact ⟨0, Nat.zero_le _, rfl, by rw [Hid]; exact h0, KpW.refl _ _ _ _⟩
  case round =>
    obtain ⟨k, hk, rfl, hJs, hkp⟩ := hrel
    by_cases hlt : k < n
    · obtain ⟨x, hx⟩ := at_lt (show k < zs.length by rw [HL.out]; exact hlt)
      obtain ⟨b, o, rfl, hb, hcx⟩ := (hkp.out.rg hsW).row hRW hB k _ (ints_at hx)
      have hxm : x ∈ zs := List.mem_of_getElem? hx
      have hlen : (zs.take k).length < zs.length := by rw [List.length_take, HL.out]; omega
      obtain ⟨fn, tmps, assign, body, hy, hR⟩ := HYY.out (zs.take k) x wr 2 hJs.out hxm hlen
      have HT : Hid (zs.take k ++ [x] = zs.take (k + 1)) := by rw [Hid, List.take_add_one, hx]; rfl
      clear hx hxm hlen hJs
      gi_wp2
      refine hR.mono ?_
      rintro e W3 (⟨rfl, hJ3, hk3⟩ | ⟨rfl, hJx3, hk3⟩)
      · have HJ3 : Hid (J (zs.take (k + 1)) W3) := by rw [Hid, ← HT.out]; exact hJ3
        have HK3 := Lib.hid (hkp.out.trans hk3)
        clear hJ3 hk3 hkp hR
        gi_wp2
        go_roundw
        case rel => exact ⟨k + 1, by omega, by simp, HJ3, HK3⟩
        case measure => simp [intOf]; omega
      · clear hR
        gi_wp2
        refine bodyPost_ret (results_none rfl _ _ _) rfl ?_
        exact ⟨⟨_, rfl⟩, .inr ⟨_, hJx3⟩⟩
    · obtain rfl : k = n := by omega
      have HJ3 : Hid (J zs wr) := by have := hJs.out; rwa [List.take_of_length_le (by rw [HL.out]; exact Nat.le_refl _)] at this
      clear hJs
      gi_wp2
      go_end0
      exact ⟨⟨_, rfl⟩, .inl HJ3.out⟩
theorem own_sliceV {w : World} {base k n : Nat} {T : TypeId} {v : Value} {vs : List Value} (h : w.ownsRow base T k v n vs) : ∃ A c, v = .slice A n c := by
  rcases h.2 with ⟨h1, h2⟩ | ⟨g, cap, cur, hv, _⟩
  · exact ⟨none, 0, by rw [h1, h2]⟩
  · exact ⟨_, cap, hv⟩
theorem own_ne {W : World} {base l n : Nat} {T : TypeId} {v : Value} {xs : List Value} {o : Obj} (h2 : W.ownsRow base T 1 v n xs) (hl : W.heap[l]? = some o) (ho : o.isCells = false) : v.ownBlock = none ∨ v.ownBlock ≠ some l := by
  rcases h2.2 with ⟨rfl, _⟩ | ⟨g, cap, cur, rfl, _, hc, _⟩
  · exact .inl rfl
  · refine .inr fun e => ?_
    have e2 : g = l := by simpa [Value.ownBlock] using e
    subst e2
    rw [hc] at hl
    injection hl with hl
    subst hl
    cases ho
theorem abd_own {B base b : Nat} {T : TypeId} : Abd2 B (fun (pre : List Int) W => ∃ v, (W.cell? ⟨b, 0, none⟩ = some v ∧ W.frozen? ⟨b, 0, none⟩ = false) ∧ W.ownsRow base T 1 v pre.length (ints pre)) :=
  ⟨fun s W W' hs hb => by
    obtain ⟨v, h1, h2⟩ := hs
    exact ⟨v, (Abd2.frozen (β := Unit) 0 ⟨b, 0, none⟩ (fun _ => v)).more () W W' h1 hb, (OwnR.below (OwnR.of h2) hb (Nat.le_refl _)).1⟩,
   fun s W l o o' hs hB hl ho => by
    obtain ⟨v, h1, h2⟩ := hs
    exact ⟨v, (Abd2.frozen (β := Unit) 0 ⟨b, 0, none⟩ (fun _ => v)).turn () W l o o' h1 (Nat.zero_le _) hl ho, h2.kept (grownBy_putObj' W l o') (own_ne h2 hl ho)⟩⟩
set_option maxHeartbeats 2000000 in
theorem appendSeq_any (A : Option Addr) (n c B bs : Nat) (zs : List Int) (w : World) (hl : zs.length = n) (hn : n ≤ 1048576) (hB : B ≤ w.heap.size) (hbs : bs < w.heap.size) (hc : w.cell? ⟨bs, 0, none⟩ = some (.slice A n c)) (h : Row w B A (ints zs)) :
    Calls Try.prog 121 #[.slice none 0 0, .func (.func 116) #[] #[.pointer (some ⟨bs, 0, none⟩)]] w (NewRow 79 n (ints zs) w) := by
  obtain ⟨i0, hi, hz0, hz1, hz2⟩ := info_parts info_numV
  have HL := Lib.hid hl
  have hit := values_its A n c B bs w.heap.size zs w hl hn hB hbs (Nat.le_refl _) hc h
  obtain ⟨W0, hW0⟩ : ∃ W0, W0 = w.alloc (.cells #[.slice none 0 0] 63) := ⟨_, rfl⟩
  have b0 : Below w.heap.size w W0 := by rw [hW0]; exact (Below.refl _ _).alloc (Nat.le_refl _) _
  have hs0 : W0.heap.size = w.heap.size + 1 := by rw [hW0]; simp
  have hh0 : W0.heap[w.heap.size]? = some (.cells #[.slice none 0 0] 63 (0, 0)) := by rw [hW0]; exact heap_alloc_new w _
  have hc0 : W0.cell? ⟨w.heap.size, 0, none⟩ = some (.slice none 0 0) := by rw [cell_of_row _ _ 0 _ _ _ hh0]; rfl
  have hf0 : W0.frozen? ⟨w.heap.size, 0, none⟩ = false := frozen_of_row _ _ 0 _ _ hh0
  have eg : ∀ args w, (callFunc 116 args).run Try.prog w = .ok (.enter 116 args) w := fun _ _ => by kernel_rfl
  clear hl hc h hh0
  refine (callsIn_wide (n := 3)).1 ?_
  refine callsIn_of_wp_marks Try.func121 rfl trivial ?_ rfl
  simp only [Try.ntmps121, List.size_toArray, List.length_cons, List.length_nil, Nat.reduceAdd, Nat.reduceSub, Array.replicate_succ, Array.replicate_zero, List.push_toArray, List.append_toArray, List.nil_append, List.cons_append]
  gi_wp2
  rw [← hW0]
  clear hW0
  refine wp_rng2 (lo := 0) (hi := w.heap.size) (xs := zs) (w0 := w) (enc := fun x : Int => .int .i64 x) rfl eg hit (Rg2.of_below b0 (Nat.le_refl _)) b0.size
    (fun pre W' => (∃ v, (W'.cell? ⟨w.heap.size, 0, none⟩ = some v ∧ W'.frozen? ⟨w.heap.size, 0, none⟩ = false) ∧ W'.ownsRow (w.heap.size + 1) 79 1 v pre.length (ints pre)) ∧ Below w.heap.size w W') (fun pre W' => False)
    (abd_own.and (Abd2.below (by omega) (Nat.le_refl _))) ⟨fun _ _ _ h _ => h, fun _ _ _ _ _ h _ _ _ => h⟩ ⟨⟨_, ⟨hc0, hf0⟩, ⟨rfl, .inl ⟨rfl, rfl⟩⟩⟩, b0⟩
    (fun x a' W' => a' = { tmps := #[.slice none 0 0, .func (.func 116) #[] #[.pointer (some ⟨bs, 0, none⟩)], .pointer (some ⟨w.heap.size, 0, none⟩), undef, .slice none 0 0, .int .i64 x, .func (.func 116) #[] #[.pointer (some ⟨bs, 0, none⟩)], .int .i64 x, undef, undef, undef, undef, undef], defers := [] }) (fun x a' => ⟨fun _ _ _ h _ => h, fun _ _ _ _ _ h _ _ _ => h⟩) ?assign ?body ?done ?stop
  case assign =>
    rintro l1 m1 pre x Wr K hI hx hK
    simp only [List.setIfInBounds_toArray, List.set_cons_succ, List.set_cons_zero]
    gi_wp2
    exact hK _ _ (Below.refl _ _) rfl
  case body =>
    rintro l1 m1 pre x a' R hl1 _ ⟨⟨v, ⟨hc, hf⟩, hrow⟩, hb⟩ rfl hx hlen
    have hz := hb.size
    have hzb : w.heap.size < R.heap.size := World.block_lt_of_cell? R ⟨w.heap.size, 0, none⟩ hc
    have hk : pre.length < 1048576 := by have := HL.out; omega
    have hne : some w.heap.size ≠ v.ownBlock := fun e => by have := (hrow.lt _ e.symm).1; omega
    have hba : Below R.heap.size R (R.alloc (.cells #[.int .i64 x] 79)) := (Below.refl _ _).alloc (Nat.le_refl _) _
    have hca := (hba.cell (p := ⟨w.heap.size, 0, none⟩) hzb).trans hc
    have hfa : (R.alloc (.cells #[.int .i64 x] 79)).frozen? ⟨w.heap.size, 0, none⟩ = false := (World.frozen?_of_block (hba.block w.heap.size hzb)).trans hf
    have hza : w.heap.size < (R.alloc (.cells #[.int .i64 x] 79)).heap.size := by simp; omega
    have HR := Lib.hid hrow
    have HB := Lib.hid hb
    have HBA := Lib.hid hba
    clear hrow hb
    gi_wp2_with (first
      | (gi_at_builtin; refine wpListIn_append_own _ rfl _ _ 63 rfl (w.heap.size + 1) 79 i0 (.int .i64 0) 1 8 Try.underlying63 hi hz0 hz1 hz2 rfl (by decide) v pre.length (ints pre) rfl (HR.out.alloc _) ⟨R.heap.size, 0, none⟩ 1 1 [.int .i64 x] rfl rfl (cell_one_new _ _ _) (by simp [Value.oneCell']) (by simp only [maxLen]; omega) (by omega) (by simp; omega) ?_; intro v' w3 hown' hg3 hnil3; obtain ⟨A9, c9, rfl⟩ := own_sliceV hown'; have hc3 : w3.cell? ⟨w.heap.size, 0, none⟩ = some v := hg3.cell hca hne; have hf3 : w3.frozen? ⟨w.heap.size, 0, none⟩ = false := (World.frozen?_of_block (hg3.block w.heap.size hza hne)).trans hfa)
      | fail)
    have hbb : w.heap.size + 1 ≤ (R.alloc (.cells #[.int .i64 x] 79)).heap.size := by simp; omega
    have hk1 : KpW 0 w.heap.size W0.heap.size R (w3.setCell ⟨w.heap.size, 0, none⟩ (.slice A9 (pre.length + 1) c9)) :=
      ((KpW.of_below HBA.out).trans (KpW.grown hg3 (HR.out.alloc _) (by omega))).trans (KpW.set _ (by omega) hc3)
    have hb4 : Below w.heap.size w w3 := (HB.out.trans (HBA.out.mono hz)).grown hg3 (by omega) (fun k e => by have := (HR.out.lt k e).1; omega)
    have ho4 : (w3.setCell ⟨w.heap.size, 0, none⟩ (.slice A9 (pre.length + 1) c9)).ownsRow (w.heap.size + 1) 79 1 (.slice A9 (pre.length + 1) c9) (pre.length + 1) (ints pre ++ [.int .i64 x]) := by
      have hw3 := (World.block_lt_of_cell? w3 ⟨w.heap.size, 0, none⟩ hc3)
      exact ((OwnR.of hown').keep (fun g h1 _ => heap_setCell_other w3 ⟨w.heap.size, 0, none⟩ g _ (by show g ≠ w.heap.size; omega))).1
    refine ⟨hk1, ⟨_, ⟨World.cell?_setCell_same' _ _ _ (by rw [hc3]; rfl), by rw [World.frozen?_setCell]; exact hf3⟩, ?_⟩, below_set hb4 (by omega) _⟩
    rw [List.length_append, show ints (pre ++ [x]) = ints pre ++ [.int .i64 x] by simp [ints, intsK]]
    exact ho4
  case done =>
    rintro D Wd hD ⟨⟨v, ⟨hc, hf⟩, hrow⟩, hb⟩ hDo
    obtain ⟨A9, c9, rfl⟩ := own_sliceV hrow
    rw [HL.out] at hrow hc
    have HRD := Lib.hid hrow
    have HBD := Lib.hid hb
    clear hrow hb
    gi_wp2
    refine ⟨by simp, .inl ⟨_, _, rfl, run_takeDeferred hDo, ?_⟩⟩
    exact ⟨.slice A9 n c9, by simp [results, Try.f121, go_sem], A9, c9, rfl, ((OwnR.of (HRD.out.kept (grownBy_putObj' Wd D _) (own_ne HRD.out hDo rfl))).more (by omega) (Nat.le_refl _)).1, HBD.out.grown (grownBy_putObj' Wd D _) HBD.out.size (fun k e => by cases e; omega)⟩
  case stop =>
    rintro D pre Wd hD hJd hDo
    exact hJd.elim
theorem values_any (A : Option Addr) (n c : Nat) (w : World) :
    Calls Try.prog 92 #[.slice A n c] w fun e w' => e = .returned (.func (.func 116) #[] #[.pointer (some ⟨w.heap.size, 0, none⟩)]) ∧ w' = w.alloc (.cells #[.slice A n c] 63) := by
  go_enter Try.func92, Try.ntmps92
  go_wp2
  go_ret
  exact ⟨rfl, rfl⟩
theorem collect_any (A : Option Addr) (n c B bs : Nat) (zs : List Int) (w : World) (hl : zs.length = n) (hn : n ≤ 1048576) (hB : B ≤ w.heap.size) (hbs : bs < w.heap.size) (hc : w.cell? ⟨bs, 0, none⟩ = some (.slice A n c)) (h : Row w B A (ints zs)) :
    Calls Try.prog 114 #[.func (.func 116) #[] #[.pointer (some ⟨bs, 0, none⟩)]] w (NewRow 79 n (ints zs) w) := by
  have C := appendSeq_any A n c B bs zs w hl hn hB hbs hc h
  clear hl hc h
  go_enter Try.func114, Try.ntmps114
  go_wp2_with fail
  refine C.mono ?_
  rintro e w2 ⟨A2, c2, rfl, own2, b2⟩
  have G : Hid (NewRow 79 n (ints zs) w (.returned (.slice A2 n c2)) w2) := ⟨A2, c2, rfl, own2, b2⟩
  clear C own2 b2
  go_wp2
  go_ret
  exact G.out
theorem sorted_any (A : Option Addr) (n c B bs : Nat) (zs : List Int) (w : World) (hl : zs.length = n) (hn : n ≤ 12) (hB : B ≤ w.heap.size) (hbs : bs < w.heap.size) (hc : w.cell? ⟨bs, 0, none⟩ = some (.slice A n c)) (h : Row w B A (ints zs)) :
    Calls Try.prog 91 #[.func (.func 116) #[] #[.pointer (some ⟨bs, 0, none⟩)]] w (NewRow 79 n (ints (sortZ zs)) w) := by
  have C := collect_any A n c B bs zs w hl (by omega) hB hbs hc h
  clear hl hc h
  go_enter Try.func91, Try.ntmps91
  go_wp2_with fail
  refine C.mono ?_
  rintro e w2 ⟨A2, c2, rfl, own2, b2⟩
  have HB := Lib.hid b2
  have C2 := numSort_any A2 w.heap.size n c2 zs w2 hn own2
  clear C own2 b2
  go_wp2_with fail
  refine C2.mono ?_
  rintro e w3 ⟨rfl, own3, g3⟩
  have hlt : ∀ k, (Value.slice A2 n c2).ownBlock = some k → w.heap.size ≤ k := fun k hk => (own3.lt k hk).1
  have G : Hid (NewRow 79 n (ints (sortZ zs)) w (.returned (.slice A2 n c2)) w3) := ⟨A2, c2, rfl, own3, HB.out.grown g3 HB.out.size hlt⟩
  clear C2 own3 g3 hlt
  go_wp2
  go_ret
  exact G.out
end Go.Proofs.Ytfllcdcgfpjabaa
