/-
  Texts of trees: one after the other, and the tree on some branches.
-/
import Derived.Test.YtnnihdkhblbdgaaBld
import Derived.Test.YtnnihdkhblbdgaaSrt
namespace Go.Proofs.Ytnnihdkhblbdgaa
open Go.RowKit Fld
set_option linter.unusedVariables false
set_option linter.unusedSimpArgs false
set_option maxRecDepth 100000

theorem bytes_S (l : List UInt8) : Lib.strCells ⟨l.toArray⟩ = Lib.byteCells l := rfl
theorem size_S (l : List UInt8) : (⟨l.toArray⟩ : ByteArray).size = l.length := by simp [ByteArray.size]
theorem flat_take {ss : List (List UInt8)} {k : Nat} {x : List UInt8} (h : ss[k]? = some x) : (ss.take (k + 1)).flatten = (ss.take k).flatten ++ x := by
  rw [List.take_add_one, h]; simp
theorem flat_le (ss : List (List UInt8)) (k : Nat) : (ss.take k).flatten.length ≤ ss.flatten.length := by
  have : ss.flatten = (ss.take k).flatten ++ (ss.drop k).flatten := by rw [← List.flatten_append, List.take_append_drop]
  rw [this, List.length_append]; omega
theorem textOf_any (A : Option Addr) (n c B : Nat) (ss : List (List UInt8)) (w : World) (hl : ss.length = n) (hn : n ≤ 1048576) (ht : ss.flatten.length ≤ 1048576) (hB : B ≤ w.heap.size) (h : Row w B A (strs ss)) :
    Calls Try.prog 118 #[.slice A n c] w fun e w' => e = .returned (.string ⟨ss.flatten.toArray⟩) ∧ Below w.heap.size w w' := by
  have HL := Lib.hid hl
  have HT := Lib.hid ht
  clear hl ht
  go_enter Try.func118, Try.ntmps118
  go_wp2_with fail
  go_loopw [8] (fun i wr => ∃ k : Nat, k ≤ n ∧ i = .int .i64 k ∧ Lib.IsBuilder 133 5 w.heap.size w.heap.size (Lib.byteCells (ss.take k).flatten) wr ∧ Below w.heap.size w wr) (fun i _ => n - (intOf i).toNat)
  case atStart => exact ⟨0, Nat.zero_le _, rfl, Lib.fresh_isBuilder _ _ _, (Below.refl _ _).alloc (Nat.le_refl _) _⟩
  case round =>
    obtain ⟨k, hk, rfl, HI, HB⟩ := hrel
    have hsz := HB.size
    by_cases hlt : k < n
    · obtain ⟨x, hx⟩ := at_lt (show k < ss.length by rw [HL.out]; exact hlt)
      obtain ⟨b, o, rfl, _, hc⟩ := h.below HB hB k _ (strs_at hx)
      have HX := Lib.hid (flat_take hx)
      have hsx : (⟨x.toArray⟩ : ByteArray).size = x.length := size_S x
      have hle : (Lib.byteCells (ss.take k).flatten).length + (⟨x.toArray⟩ : ByteArray).size ≤ 1048576 := by
        have h1 := flat_le ss (k + 1)
        rw [HX.out, List.length_append] at h1
        have := HT.out
        rw [Lib.byteCells_length, size_S]; omega
      have HI' := Lib.hid HI
      have HB' := Lib.hid HB
      clear hx HI HB hsx
      go_wp2_with fail
      refine (bld_write w.heap.size w.heap.size _ _ _ HI'.out hle hsz).mono ?_
      rintro e w2 ⟨rfl, h1, b1⟩
      have G : Hid (Lib.IsBuilder 133 5 w.heap.size w.heap.size (Lib.byteCells (ss.take (k + 1)).flatten) w2) := by
        rw [Hid, HX.out, Lib.byteCells_append]; exact .inr h1
      have GB := Lib.hid (HB'.out.trans b1)
      clear h1 b1 HI' HB'
      go_wp2
      go_roundw
      case rel => exact ⟨k + 1, by omega, by go_num, G.out, GB.out⟩
      case measure => simp [intOf]; omega
    · obtain rfl : k = n := by omega
      rw [List.take_of_length_le (by rw [HL.out]; exact Nat.le_refl _)] at HI
      have HB' := Lib.hid HB
      clear HB
      go_wp2_with fail
      refine (Try.Builder_String_any w.heap.size w.heap.size _ _ HI hsz).mono ?_
      rintro e w2 ⟨rfl, b1⟩
      have GB := Lib.hid (HB'.out.trans b1)
      clear b1 HB'
      go_wp2
      go_ret
      exact ⟨rfl, GB.out⟩
theorem flat_sorted (ss : List (List UInt8)) : (Tr.sortS ss).flatten.length = ss.flatten.length := by
  rw [List.length_flatten, List.length_flatten]
  exact ((Tr.sortS_perm ss).map _).sum_nat
theorem rootOn_any (A : Option Addr) (base n c : Nat) (ss : List (List UInt8)) (w : World) (hn : n ≤ 12) (ht : ss.flatten.length ≤ 1048574) (hB : base ≤ w.heap.size) (h : w.ownsRow base 73 1 (.slice A n c) n (strs ss)) :
    Calls Try.prog 92 #[.slice A n c] w fun e w' => e = .returned (.string ⟨(Tr.wrap (Tr.sortS ss)).toArray⟩) ∧ Below base w w' := by
  have hl : ss.length = n := by rw [← strs_length]; exact own_len h
  go_enter Try.func92, Try.ntmps92
  go_wp2_with fail
  refine (treeSort_any A base n c ss _ hn h).mono ?_
  rintro e w1 ⟨rfl, ho, hg⟩
  have b1 : Below base w w1 := (Below.refl _ _).grown hg hB (fun b hb => (h.lt b hb).1)
  have hs1 := hg.size
  clear h hg
  go_wp2_with fail
  have hcall := textOf_any A n c w1.heap.size (Tr.sortS ss) w1 (by rw [Tr.sortS_length]; exact hl) (by omega) (by rw [flat_sorted]; omega) (Nat.le_refl _) (row_of_own ho)
  obtain ⟨L, hL⟩ : ∃ L, L = (Tr.sortS ss).flatten := ⟨_, rfl⟩
  have hz : L.length ≤ 1048574 := by rw [hL, flat_sorted]; exact ht
  have GW : Hid (Tr.wrap (Tr.sortS ss) = [91] ++ L ++ [93]) := by rw [hL]; rfl
  rw [← hL] at hcall
  clear hL ht ho hl
  refine hcall.mono ?_
  rintro e w2 ⟨rfl, b2⟩
  have GB := Lib.hid (b1.trans (b2.mono (by omega)))
  have GE : Hid (∀ z : ByteArray, z = ByteArray.mk #[91] ++ ⟨L.toArray⟩ ++ ByteArray.mk #[93] → z = ⟨(Tr.wrap (Tr.sortS ss)).toArray⟩) := fun z hz => by
    rw [hz, show (ByteArray.mk #[91]) = ⟨([91] : List UInt8).toArray⟩ from rfl, show (ByteArray.mk #[93]) = ⟨([93] : List UInt8).toArray⟩ from rfl, ByteArray.mk_append_mk, ByteArray.mk_append_mk, GW.out]
  clear b1 b2 hcall
  go_wp2
  go_ret
  refine ⟨?_, GB.out⟩
  rw [GE.out _ rfl]
  rfl
end Go.Proofs.Ytnnihdkhblbdgaa
