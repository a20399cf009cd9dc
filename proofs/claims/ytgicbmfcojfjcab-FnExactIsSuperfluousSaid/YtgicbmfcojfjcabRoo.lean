/-
  All rerooted trees of a text, and the least of them.
-/
import Derived.Test.YtgicbmfcojfjcabRerT
import Derived.Test.YtgicbmfcojfjcabFill
import Derived.Test.YtgicbmfcojfjcabCmp
namespace Go.Proofs.Ytgicbmfcojfjcab
open Go.RowKit Fld
set_option linter.unusedVariables false
set_option linter.unusedSimpArgs false
set_option maxRecDepth 100000

def rootsT (x : List UInt8) : List (List UInt8) := (List.range (x.length / 2)).map fun k => Tr.rerF 8 x k []
theorem rootsT_len (x : List UInt8) : (rootsT x).length = x.length / 2 := by simp [rootsT]
theorem rootsT_at {x : List UInt8} {k : Nat} (hk : k < x.length / 2) : (rootsT x)[k]? = some (Tr.rerF 8 x k []) := by
  unfold rootsT; rw [List.getElem?_map, List.getElem?_range hk]; rfl
set_option maxHeartbeats 1000000 in
theorem roots_any (x : List UInt8) (w : World) (hx : Tr.isTx x = true) :
    Calls Try.prog 75 #[.string ⟨x.toArray⟩] w fun e w' => e = .returned (.slice (some ⟨w.heap.size, 0, none⟩) (x.length / 2) (x.length / 2)) ∧ w'.ownsRow w.heap.size 79 1 (.slice (some ⟨w.heap.size, 0, none⟩) (x.length / 2) (x.length / 2)) (x.length / 2) (strs (rootsT x)) ∧ Below w.heap.size w w' := by
  obtain ⟨i0, hi, hz0, hz1, hz2⟩ := info_parts info_tree
  have hx16 := (Tr.br_parts hx).1.2
  have C0 := nodes_any x w (by omega)
  have C1 := fun k w (hk : k < x.length / 2) => rerootAt_any x k w hx hk
  have HLEN := Lib.hid (rootsT_len x)
  have HAT : Hid (∀ k, k < x.length / 2 → (rootsT x)[k]? = some (Tr.rerF 8 x k [])) := fun k hk => rootsT_at hk
  obtain ⟨n, hn⟩ : ∃ n, n = x.length / 2 := ⟨_, rfl⟩
  have hn8 : n ≤ 8 := by omega
  rw [← hn] at C0 HLEN HAT ⊢
  simp only [← hn] at C1
  obtain ⟨X, hX⟩ : ∃ X : ByteArray, X = ⟨x.toArray⟩ := ⟨_, rfl⟩
  rw [← hX] at C0 ⊢
  simp only [← hX] at C1
  clear hn hX hx hx16
  go_enter Try.func75, Try.ntmps75
  go_wp2_with fail
  refine C0.mono ?_
  rintro e w9 ⟨rfl, rfl⟩
  clear C0
  go_wp2_with (at_make; refine wpList_make_full _ rfl (.tmp 6) (.tmp 6) 89 rfl w.heap.size 79 i0 _ 1 Try.underlying89 hi hz0 hz1 .i64 .i64 _ _ n rfl rfl rfl rfl (by rw [hz2]; omega) (by simp only [maxLen]; omega) (Nat.le_refl _) ?_; intro w1 hown hg)
  have F0 := FillT.start (ss := rootsT x) hown hg
  clear hown hg hz0 hz1 hz2 hi
  go_wp2_with fail
  go_loopw [10] (fun i wr => ∃ k : Nat, k ≤ n ∧ i = .int .i64 k ∧ FillT w n (rootsT x) k wr) (fun i _ => n - (intOf i).toNat)
  case atStart => exact ⟨0, Nat.zero_le _, rfl, F0⟩
  case round =>
    obtain ⟨k, hk, rfl, HF⟩ := hrel
    by_cases hlt : k < n
    · have hsz := HF.2.size
      have HST := Lib.hid (HAT.out k hlt)
      have C2 := C1 k wr hlt
      have HFF := Lib.hid HF
      obtain ⟨R, hR⟩ : ∃ R : ByteArray, R = ⟨(Tr.rerF 8 x k []).toArray⟩ := ⟨_, rfl⟩
      have HR := Lib.hid hR
      rw [← hR] at C2
      clear F0 HF hR
      go_wp2_with fail
      refine C2.mono ?_
      rintro e w2 ⟨rfl, bel2⟩
      have HF2 := HFF.out.below bel2
      have hf := HF2.1.frozenAt k
      have ho := HF2.1.cellAt k (by omega)
      rw [fill_at (by rw [strs_length]; exact HLEN.out) hlt] at ho
      have G := Lib.hid (HF2.step HLEN.out HST.out)
      rw [← HR.out] at G
      clear bel2 HF2 C2
      go_wp2
      go_roundw
      case rel => exact ⟨k + 1, by omega, by go_num, G.out⟩
      case measure => simp [intOf]; omega
    · obtain rfl : k = n := by omega
      have G : Hid (wr.ownsRow w.heap.size 79 1 (.slice (some ⟨w.heap.size, 0, none⟩) k k) k (strs (rootsT x)) ∧ Below w.heap.size w wr) := by
        obtain ⟨h1, h2⟩ := HF
        rw [fill_end _ (by rw [strs_length]; exact HLEN.out)] at h1
        exact ⟨h1, h2⟩
      clear HF F0
      go_wp2
      go_ret
      exact ⟨rfl, G.out⟩
/-- the least of the first texts -/
def minTo (ss : List (List UInt8)) (k : Nat) : List UInt8 := ((ss.take k).drop 1).foldl (fun m s => if Tr.cmpT s m < 0 then s else m) (ss.getD 0 [])
def minT (ss : List (List UInt8)) : List UInt8 := minTo ss ss.length
theorem minTo_one (ss : List (List UInt8)) : minTo ss 1 = ss.getD 0 [] := by
  unfold minTo
  cases ss with
  | nil => rfl
  | cons a r => simp
theorem minTo_step {ss : List (List UInt8)} {k : Nat} {s : List UInt8} (h1 : 1 ≤ k) (h : ss[k]? = some s) : minTo ss (k + 1) = if Tr.cmpT s (minTo ss k) < 0 then s else minTo ss k := by
  unfold minTo
  have hk : 1 ≤ (ss.take k).length := by
    rw [List.length_take]
    rcases Nat.lt_or_ge k ss.length with g | g
    · omega
    · rw [List.getElem?_eq_none g] at h; cases h
  rw [List.take_add_one, h, Option.toList_some, List.drop_append_of_le_length hk, List.foldl_append]; rfl
theorem minTo_small {ss : List (List UInt8)} (h : ∀ s ∈ ss, s.length ≤ 1048576) (h0 : 0 < ss.length) : ∀ k, 1 ≤ k → k ≤ ss.length → (minTo ss k).length ≤ 1048576
  | 0, h1, _ => by omega
  | 1, _, _ => by
    rw [minTo_one, List.getD_eq_getElem?_getD, List.getElem?_eq_getElem h0]
    exact h _ (List.getElem_mem _)
  | k+2, _, hk => by
    rw [minTo_step (by omega) (List.getElem?_eq_getElem (show k + 1 < ss.length by omega))]
    split
    · exact h _ (List.getElem_mem _)
    · exact minTo_small h h0 (k + 1) (by omega) (by omega)
set_option maxHeartbeats 1000000 in
theorem minFunc_any (A : Option Addr) (n c B : Nat) (ss : List (List UInt8)) (w : World) (hl : ss.length = n) (h1 : 1 ≤ n) (hn : n ≤ 1048576) (hs : ∀ s ∈ ss, s.length ≤ 1048576) (hB : B ≤ w.heap.size) (h : Row w B A (strs ss)) :
    Calls Try.prog 129 #[.slice A n c, (.func (.func 120) #[] #[])] w fun e w' => e = .returned (.string ⟨(minT ss).toArray⟩) ∧ Below w.heap.size w w' := by
  have HL := Lib.hid hl
  have HS := Lib.hid hs
  have HSM : Hid (∀ k, 1 ≤ k → k ≤ n → (minTo ss k).length ≤ 1048576) := fun k q1 q2 => minTo_small hs (by omega) k q1 (by omega)
  obtain ⟨s0, hs0⟩ := at_lt (show 0 < ss.length by omega)
  obtain ⟨b, o, rfl, hbB, hc0⟩ := h 0 _ (strs_at hs0)
  rw [Nat.add_zero] at hc0
  have HM1 : Hid (minTo ss 1 = s0) := by rw [Hid, minTo_one, List.getD_eq_getElem?_getD, hs0]; rfl
  have hn1 : ¬ (n : Int) < 1 := by omega
  obtain ⟨S0, hS0⟩ : ∃ S0 : ByteArray, S0 = ⟨s0.toArray⟩ := ⟨_, rfl⟩
  have HS0 := Lib.hid hS0
  rw [← hS0] at hc0
  clear hl hs hs0 hS0
  go_enter Try.func129, Try.ntmps129
  go_wp2_with fail
  go_loopw [5, 6] (fun mv i wr => ∃ (k : Nat) (M : ByteArray), 1 ≤ k ∧ k ≤ n ∧ mv = .string M ∧ Hid (M = ⟨(minTo ss k).toArray⟩) ∧ i = .int .i64 k ∧ Below w.heap.size w wr) (fun _ i _ => n - (intOf i).toNat)
  case atStart => exact ⟨1, S0, Nat.le_refl _, h1, rfl, by rw [Hid, HM1.out]; exact HS0.out, rfl, Below.refl _ _⟩
  case round =>
    obtain ⟨k, M, hk1, hk, rfl, HM, rfl, HB⟩ := hrel
    have hsz := HB.size
    by_cases hlt : k < n
    · obtain ⟨s, hs⟩ := at_lt (show k < ss.length by rw [HL.out]; exact hlt)
      obtain ⟨_, _, e1, _, hck⟩ := (Row.below h HB hB) k _ (strs_at hs)
      cases e1
      have hsl := HS.out s (List.mem_of_getElem? hs)
      have C0 := compare_any s (minTo ss k) wr hsl (HSM.out k hk1 hk)
      rw [← HM.out] at C0
      have HST := Lib.hid (minTo_step hk1 hs)
      have HBW := Lib.hid HB
      obtain ⟨X, hX⟩ : ∃ X : ByteArray, X = ⟨s.toArray⟩ := ⟨_, rfl⟩
      have HX := Lib.hid hX
      rw [← hX] at hck C0
      obtain ⟨z, hz⟩ : ∃ z, z = Tr.cmpT s (minTo ss k) := ⟨_, rfl⟩
      rw [← hz] at C0 HST
      clear hs HB hX hz
      by_cases hzn : z < 0
      · have G : Hid (X = ⟨(minTo ss (k + 1)).toArray⟩) := by rw [Hid, HST.out, if_pos hzn]; exact HX.out
        go_wp2_with fail
        refine C0.mono ?_
        rintro e w2 ⟨rfl, bel2⟩
        have hck2 := (bel2.cell (p := ⟨b, o + k, none⟩) (by show b < wr.heap.size; omega)).trans hck
        have GB := Lib.hid (HBW.out.trans (bel2.mono hsz))
        clear bel2 C0 hck
        go_wp2
        go_roundw
        case rel => exact ⟨k + 1, X, by omega, by omega, rfl, G, by go_num, GB.out⟩
        case measure => simp [intOf]; omega
      · have G : Hid (M = ⟨(minTo ss (k + 1)).toArray⟩) := by rw [Hid, HST.out, if_neg hzn]; exact HM.out
        go_wp2_with fail
        refine C0.mono ?_
        rintro e w2 ⟨rfl, bel2⟩
        have GB := Lib.hid (HBW.out.trans (bel2.mono hsz))
        clear bel2 C0 hck
        go_wp2
        go_roundw
        case rel => exact ⟨k + 1, M, by omega, by omega, rfl, G, by go_num, GB.out⟩
        case measure => simp [intOf]; omega
    · obtain rfl : k = n := by omega
      have G : Hid (M = ⟨(minT ss).toArray⟩) := by rw [Hid, HM.out]; unfold minT; rw [HL.out]
      have GB := Lib.hid HB
      clear HM HB
      go_wp2
      go_ret
      exact ⟨by rw [← G.out]; rfl, GB.out⟩
end Go.Proofs.Ytgicbmfcojfjcab
