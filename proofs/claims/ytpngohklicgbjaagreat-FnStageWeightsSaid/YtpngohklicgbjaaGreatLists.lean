/-
  The lists of trees by their texts.
-/
import Derived.Test.YtpngohklicgbjaaGreatCan
import Derived.Test.YtpngohklicgbjaaGreatNestc
namespace Go.Proofs.YtpngohklicgbjaaGreat
open Go.RowKit Fld
set_option linter.unusedVariables false
set_option linter.unusedSimpArgs false
set_option maxRecDepth 100000

set_option maxHeartbeats 400000 in
theorem listsOf_any (A : Option Addr) (n c B : Nat) (ss : List (List UInt8)) (w : World) (hl : ss.length = n) (hn : n ≤ 1048576) (hs : ∀ s ∈ ss, s.length ≤ 1048576 ∧ Brk s) (hB : B ≤ w.heap.size) (h : Row w B A (strs ss)) :
    Calls Tryz.prog 63 #[.slice A n c] w (NewMat n (ss.map Tr.lvl) w) := by
  obtain ⟨i0, hi, hz0, hz1, hz2⟩ := info_parts info_row
  have HL := Lib.hid hl
  have HS := Lib.hid hs
  have HML : Hid ((ss.map Tr.lvl).length = n) := by rw [Hid, List.length_map]; exact hl
  clear hl hs
  go_enter Tryz.func63, Tryz.ntmps63
  go_wp2_with (at_make; refine wpList_make_full _ rfl (.tmp 7) (.tmp 7) 24 rfl w.heap.size 25 i0 _ 1 Tryz.underlying24 hi hz0 hz1 .i64 .i64 _ _ n rfl rfl rfl rfl (by rw [hz2]; omega) (by simp only [maxLen]; omega) (Nat.le_refl _) ?_; intro w1 hown hg)
  have F0 := FillM.start (m := ss.map Tr.lvl) hown hg
  clear hown hg hz0 hz1 hz2 hi
  go_wp2_with fail
  go_loopw [11] (fun i wr => ∃ k : Nat, k ≤ n ∧ i = .int .i64 k ∧ FillM w n (ss.map Tr.lvl) k wr) (fun i _ => n - (intOf i).toNat)
  case atStart => exact ⟨0, Nat.zero_le _, rfl, F0⟩
  case round =>
    obtain ⟨k, hk, rfl, HF⟩ := hrel
    by_cases hlt : k < n
    · obtain ⟨s, hs⟩ := at_lt (show k < ss.length by rw [HL.out]; exact hlt)
      obtain ⟨hs1, hs2⟩ := HS.out s (List.mem_of_getElem? hs)
      obtain ⟨vs, hvs, hbel, hsz⟩ := id HF
      obtain ⟨b, o, rfl, _, hc⟩ := (Row.below h hbel hB) k _ (strs_at hs)
      have HR : Hid ((ss.map Tr.lvl)[k]? = some (Tr.lvl s)) := by rw [Hid, List.getElem?_map, hs]; rfl
      have C1 := fun w => levels_any s w hs1 hs2
      obtain ⟨S, hS⟩ : ∃ S : ByteArray, S = ⟨s.toArray⟩ := ⟨_, rfl⟩
      rw [← hS] at C1 hc
      have HF' := Lib.hid HF
      clear hs hs1 hs2 F0 HF hvs hbel hS
      go_wp2_with fail
      refine (C1 _).mono ?_
      rintro e w2 ⟨A2, c2, rfl, own2, be2⟩
      obtain ⟨⟨u, hu⟩, hf⟩ := HF'.out.cell HML.out hlt be2
      have G := Lib.hid (HF'.out.step HML.out HR.out own2 be2)
      clear own2
      go_wp2
      go_roundw
      case rel => exact ⟨k + 1, by omega, by go_num, G.out⟩
      case measure => simp [intOf]; omega
    · obtain rfl : k = n := by omega
      have G := Lib.hid (HF.done HML.out)
      clear HF F0
      go_wp2
      go_ret
      exact G.out
end Go.Proofs.YtpngohklicgbjaaGreat
