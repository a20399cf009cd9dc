/-
  slices.Repeat of the list with one 1.
-/
import Derived.Test.YtfllcdcgfpjabaaSlices
import Derived.Test.YtfllcdcgfpjabaaNest
import Derived.Laws.CopyOwn
namespace Go.Proofs.Ytfllcdcgfpjabaa
open Go.RowKit Fld
set_option linter.unusedVariables false
set_option linter.unusedSimpArgs false
set_option maxRecDepth 100000

set_option maxHeartbeats 1000000 in
theorem mul64_one (n : Nat) (hn : n ≤ 8) (w : World) : Calls Try.prog 119 #[.int .u64 1, .int .u64 (n : Int)] w fun e w' => e = .returned (.tuple #[.int .u64 0, .int .u64 (n : Int)]) ∧ w = w' := by
  have : n = 0 ∨ n = 1 ∨ n = 2 ∨ n = 3 ∨ n = 4 ∨ n = 5 ∨ n = 6 ∨ n = 7 ∨ n = 8 := by omega
  rcases this with rfl | rfl | rfl | rfl | rfl | rfl | rfl | rfl | rfl
  all_goals
    go_enter Try.func119, Try.ntmps119
    go_wp2
    go_ret2
    exact ⟨rfl, rfl⟩
set_option maxHeartbeats 1000000 in
theorem bitsMul_one (n : Nat) (hn : n ≤ 8) (w : World) : Calls Try.prog 110 #[.int .u64 1, .int .u64 (n : Int)] w fun e w' => e = .returned (.tuple #[.int .u64 0, .int .u64 (n : Int)]) ∧ w = w' := by
  go_enter Try.func110, Try.ntmps110
  go_wp2_with fail
  refine (mul64_one n hn w).mono ?_
  rintro e w' ⟨rfl, rfl⟩
  go_wp2
  go_ret2
  exact ⟨rfl, rfl⟩
def onesK (n k : Nat) : List Value := ints (List.replicate k 1) ++ ints (List.replicate (n - k) 0)
theorem onesK_len {n k : Nat} (h : k ≤ n) : (onesK n k).length = n := by simp [onesK, ints, intsK]; omega
theorem onesK_at {n k j : Nat} (h : j < k) : (onesK n k)[j]? = some (.int .i64 1) := by
  unfold onesK ints intsK
  rw [List.getElem?_append_left (by simp; omega)]
  simp [h]
theorem onesK_all (n : Nat) : onesK n n = ints (List.replicate n 1) := by simp [onesK, ints, intsK]
theorem onesK_put {n k d : Nat} (h : k + d ≤ n) : (onesK n k).take k ++ (ints (List.replicate d 1) ++ (onesK n k).drop (k + d)) = onesK n (k + d) := by
  unfold onesK ints intsK
  rw [List.take_left' (by simp), List.drop_append, List.length_map, List.length_replicate, show k + d - k = d by omega, List.drop_of_length_le (by simp), List.nil_append, ← List.map_drop, List.drop_replicate, show n - k - d = n - (k + d) by omega, ← List.append_assoc, ← List.map_append, List.replicate_append_replicate]
theorem step_copy_row {P : Program} {ops : Array Oper} {o : Oper} {a : Act} {w : World} {K : Act → World → Prop} {Q : Exit → Act → World → Prop} {E : Prop}
    (hg : o.guard = none) (d s : Operand) (dT sT : TypeId) (ho : o.op = .call { callee := .builtin .copy, args := #[d, s], argTypes := #[dT, sT] }) (elem : TypeId) (hu : P.underlying dT = some (.slice elem)) (hsz : (P.info? elem).map (·.size) = some 1)
    (g off dLen dCap : Nat) (ad : Addr) (sLen sCap : Nat) (hd : a.eval d = .slice (some ⟨g, off, none⟩) dLen dCap) (hs : a.eval s = .slice (some ad) sLen sCap)
    (cur : Array Value) (t : TypeId) (hgc : w.heap[g]? = some (.cells cur t (0, 0))) (cs : List Value) (hn : cs.length = Nat.min sLen dLen)
    (hsrc : ∀ j v, cs[j]? = some v → w.cell? (ad.add j) = some v) (hfit : off + cs.length ≤ cur.size) (h1 : ∀ v ∈ cs, v.oneCell' = true)
    (hK : K (a.put o.dst (goInt cs.length)) (w.setRow g (cur.toList.take off ++ (cs ++ cur.toList.drop (off + cs.length))).toArray)) : if Region.wanted o (yielded ops a.tmps) = true then Oper.wp P o a w K Q else E := by
  have hw : Region.wanted o (yielded ops a.tmps) = true := by simp [Region.wanted, hg]
  rw [if_pos hw]
  have hrun := run_copy_row (P := P) w dT sT o.type elem g off dLen dCap ad sLen sCap cur t cs hu hsz hgc hn hsrc hfit h1
  unfold Oper.wp
  simp [execOp, ho, resolve, invoke, builtin, hd, hs, hrun, Result.andThen]
  exact hK
theorem info_numR : (Try.prog.info? 79).map (fun i => (i.zero, i.size, i.bytes)) = some (some (.int .i64 0), 1, 8) := by kernel_rfl
theorem info_numS : (Try.prog.info? 79).map (·.size) = some 1 := by kernel_rfl
set_option maxHeartbeats 2000000 in
theorem repeat_any (A : Option Addr) (c B n : Nat) (w : World) (hn1 : 1 ≤ n) (hn : n ≤ 8) (hB : B ≤ w.heap.size) (h : Row w B A (ints [1])) :
    Calls Try.prog 81 #[.slice A 1 c, .int .i64 (n : Int)] w (NewRow 79 n (ints (List.replicate n 1)) w) := by
  obtain ⟨i0, hi, hz0, hz1, hz2⟩ := info_parts info_numR
  obtain ⟨ba, oa, rfl, hba, hca⟩ := h 0 _ rfl
  rw [Nat.add_zero] at hca
  have t0 : ¬ ((n : Int) < 0) := by omega
  go_enter Try.func81, Try.ntmps81
  go_wp2_with (first | (go_at_call 110; refine (bitsMul_one n hn w).mono ?_; rintro e w' ⟨rfl, rfl⟩) | (at_make; refine wpList_make_full _ rfl (.tmp 29) (.tmp 29) 63 rfl w.heap.size 79 i0 _ 1 Try.underlying63 hi hz0 hz1 .i64 .i64 _ _ n rfl rfl rfl rfl (by rw [hz2]; omega) (by simp only [maxLen]; omega) (Nat.le_refl _) ?_; intro w1 hown hg))
  have hz : w.heap.size < w1.heap.size := (hown.lt w.heap.size rfl).2
  have hB1 : Below w.heap.size w w1 := (Below.refl _ _).grown hg (Nat.le_refl _) (fun k hk => by cases hk)
  obtain ⟨cur, hcur, hcs, hct⟩ : ∃ cur : Array Value, w1.heap[w.heap.size]? = some (.cells cur 79 (0, 0)) ∧ cur.size = n ∧ cur.toList = List.replicate n (.int .i64 0) := by
    rcases hown.2 with ⟨e, _⟩ | ⟨g, cap, cur, e, _, h2, _, _, h3, h4⟩
    · cases e
    · injection e with e1 _ e3
      injection e1 with e1
      injection e1 with e1
      subst e1 e3
      refine ⟨cur, h2, by omega, ?_⟩
      rw [List.take_of_length_le (by rw [Array.length_toList]; omega), Nat.mul_one] at h4
      rw [h4]; exact toList_madeCells_one _ _
  have hca1 : w1.cell? ⟨ba, oa, none⟩ = some (.int .i64 1) := (hB1.cell (p := ⟨ba, oa, none⟩) (by show ba < _; omega)).trans hca
  have HB1 := Lib.hid hB1
  have HCT := Lib.hid hct
  clear hown hg hz0 hz1 hz2 hi hB1 hct
  have hmin : (1 : Nat) = Nat.min 1 n := (Nat.min_eq_left hn1).symm
  have hsrc : ∀ j v, [Value.int .i64 1][j]? = some v → w1.cell? ((⟨ba, oa, none⟩ : Addr).add j) = some v := fun j v hv => by rcases j with _ | j; (· simp at hv; subst hv; simpa [Addr.add] using hca1); (· simp at hv)
  have hfit : 0 + [Value.int .i64 1].length ≤ cur.size := by simp; omega
  have hone : ∀ v ∈ [Value.int .i64 1], v.oneCell' = true := by simp [Value.oneCell']
  have hrun := run_copy_row (P := Try.prog) w1 63 63 3 79 w.heap.size 0 n n ⟨ba, oa, none⟩ 1 c cur 79 [.int .i64 1] Try.underlying63 info_numS hcur hmin hsrc hfit hone
  go_wp2_with fail
  rw [hrun]
  obtain ⟨W2, hW2⟩ : ∃ W2, W2 = w1.setRow w.heap.size (List.take 0 cur.toList ++ [Value.int .i64 1] ++ List.drop (0 + [Value.int .i64 1].length) cur.toList).toArray := ⟨_, rfl⟩
  have hg2 : Hid (W2.heap[w.heap.size]? = some (.cells (onesK n 1).toArray 79 (0, 0))) := by
    have e : List.take 0 cur.toList ++ [Value.int .i64 1] ++ List.drop (0 + [Value.int .i64 1].length) cur.toList = onesK n 1 := by
      rw [HCT.out]; simp [onesK, ints, intsK]
    rw [hW2, e]; exact setRow_heap _ _ _ _ _ _ hcur
  have hB2 : Hid (Below w.heap.size w W2) := by rw [hW2]; exact below_setRow HB1.out (Nat.le_refl _) _
  have hone1 : goInt ([Value.int .i64 1].length : Nat) = .int .i64 1 := rfl
  rw [← hW2, hone1]
  clear hW2 hrun hsrc hfit hone hmin hca1 hca hcur hcs HCT HB1 hone1
  go_wp2_with fail
  go_loopw [8] (fun i wr => ∃ k : Nat, 1 ≤ k ∧ k ≤ n ∧ i = .int .i64 k ∧ Hid (wr.heap[w.heap.size]? = some (.cells (onesK n k).toArray 79 (0, 0))) ∧ Hid (Below w.heap.size w wr)) (fun i _ => n - (intOf i).toNat)
  case atStart => exact ⟨1, Nat.le_refl _, hn1, rfl, hg2, hB2⟩
  case round =>
    obtain ⟨k, hk1, hk, rfl, HG, HBr⟩ := hrel
    by_cases hlt : k < n
    · obtain ⟨d, hd⟩ : ∃ d, d = Nat.min k (n - k) := ⟨_, rfl⟩
      have hd1 : 1 ≤ d ∧ k + d ≤ n := by
        have h1 : d ≤ k := by rw [hd]; exact Nat.min_le_left _ _
        have h2 : d ≤ n - k := by rw [hd]; exact Nat.min_le_right _ _
        have h3 : d = k ∨ d = n - k := by rw [hd]; exact Nat.le_total k (n - k) |>.elim (fun h => .inl (Nat.min_eq_left h)) (fun h => .inr (Nat.min_eq_right h))
        omega
      have hcl : (ints (List.replicate d 1)).length = Nat.min k (n - k) := by rw [← hd]; simp [ints, intsK]
      have hcl2 : (ints (List.replicate d 1)).length = d := by simp [ints, intsK]
      have hGd : wr.drew.heap[w.heap.size]? = some (.cells (onesK n k).toArray 79 (0, 0)) := HG.out
      have hsrc : ∀ j v, (ints (List.replicate d 1))[j]? = some v → wr.drew.cell? ((⟨w.heap.size, 0, none⟩ : Addr).add j) = some v := fun j v hv => by
        have hj : j < d := by have := (List.getElem?_eq_some_iff.1 hv).1; rw [hcl2] at this; exact this
        have hv1 : v = .int .i64 1 := by
          have := ints_at (xs := List.replicate d 1) (k := j) (x := 1) (by simp [hj]); rw [this] at hv; exact (Option.some.inj hv).symm
        have hjk : j < k := by have h1 : Nat.min k (n - k) ≤ k := Nat.min_le_left _ _; rw [← hd] at h1; omega
        have e : (⟨w.heap.size, 0, none⟩ : Addr).add j = ⟨w.heap.size, 0 + j, none⟩ := by rcases j with _ | j <;> simp [Addr.add]
        rw [e, Nat.zero_add, cell_of_row wr.drew _ j _ _ _ hGd, hv1]
        rw [List.getElem?_toArray, onesK_at hjk]
      have hfit : k + (ints (List.replicate d 1)).length ≤ (onesK n k).toArray.size := by rw [hcl2, List.size_toArray, onesK_len hk]; exact hd1.2
      have hone : ∀ v ∈ ints (List.replicate d 1), v.oneCell' = true := ints_cells _
      have hput : (onesK n k).toArray.toList.take k ++ (ints (List.replicate d 1) ++ (onesK n k).toArray.toList.drop (k + (ints (List.replicate d 1)).length)) = onesK n (k + d) := by rw [hcl2]; exact onesK_put hd1.2
      have HP := Lib.hid hput
      have HCL := Lib.hid hcl2
      have hwk : IntKind.i64.wrap ((k : Int) + (d : Int)) = (k : Int) + (d : Int) := IntWalk.i64_in _ (by omega)
      have HD := Lib.hid hd
      have hnk : ¬ n = k := by omega
      have HMIN := Lib.hid hcl
      clear hd hput hcl2 hcl
      go_wp2_with fail
      go_region_law (go_loud (refine step_copy_row (by rfl) (.tmp 41) (.tmp 44) 63 63 (by rfl) 79 Try.underlying63 info_numS w.heap.size k (n - k) (n - k) ⟨w.heap.size, 0, none⟩ k n (by simp [Act.eval, Act.put, hnk]) (by simp [Act.eval, Act.put]) (onesK n k).toArray 79 hGd (ints (List.replicate d 1)) (by exact HMIN.out) hsrc hfit hone ?_); rw [HP.out, HCL.out])
      obtain ⟨W3, hW3⟩ : ∃ W3, W3 = wr.drew.setRow w.heap.size (onesK n (k + d)).toArray := ⟨_, rfl⟩
      have hg3 : Hid (W3.heap[w.heap.size]? = some (.cells (onesK n (k + d)).toArray 79 (0, 0))) := by rw [hW3]; exact setRow_heap _ _ _ _ _ _ hGd
      have hB3 : Hid (Below w.heap.size w W3) := by rw [hW3]; exact below_setRow HBr.out.drew (Nat.le_refl _) _
      rw [← hW3]
      clear hW3 hGd hsrc hfit hone HG HBr HP HCL HMIN HD
      simp only [Act.put, List.setIfInBounds_toArray, List.set_cons_succ, List.set_cons_zero, List.getElem_toArray, List.getElem_cons_zero, List.getElem_cons_succ]
      go_wp2
      go_roundw
      case rel => exact ⟨k + d, by omega, by omega, by go_num, hg3, hB3⟩
      case measure => simp [intOf]; omega
    · obtain rfl : k = n := by omega
      have GO : Hid (NewRow 79 k (ints (List.replicate k 1)) w (.returned (.slice (some ⟨w.heap.size, 0, none⟩) k k)) wr) := by
        refine ⟨_, _, rfl, ⟨by simp [ints, intsK], .inr ⟨w.heap.size, k, _, rfl, Nat.le_refl _, HG.out, Nat.le_refl _, by simp only [maxLen]; omega, by rw [List.size_toArray, onesK_len (Nat.le_refl _), Nat.mul_one], ?_⟩⟩, HBr.out⟩
        rw [onesK_all, Nat.mul_one, List.take_of_length_le (by simp [ints, intsK])]
      go_wp2
      go_ret
      exact GO.out
end Go.Proofs.Ytfllcdcgfpjabaa
