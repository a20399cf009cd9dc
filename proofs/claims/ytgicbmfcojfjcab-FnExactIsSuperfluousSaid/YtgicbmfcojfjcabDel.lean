/-
  A text is taken out of a row of the call's own.
-/
import Derived.Test.YtgicbmfcojfjcabBra
import Derived.Lib.SliceRun
import Derived.Deep.RegionLaw
import Derived.Shelf.RegionOpenPlain
namespace Go.Proofs.Ytgicbmfcojfjcab
open Go.RowKit Fld
set_option linter.unusedVariables false
set_option linter.unusedSimpArgs false
set_option maxRecDepth 100000

theorem own_prefix {w : World} {base g n k cap : Nat} {T : TypeId} {xs : List Value} (h : w.ownsRow base T 1 (.slice (some ⟨g, 0, none⟩) n cap) n xs) (hk : k ≤ n) : w.ownsRow base T 1 (.slice (some ⟨g, 0, none⟩) k cap) k (xs.take k) := by
  obtain ⟨hl, h⟩ := h
  refine ⟨by rw [List.length_take, hl]; omega, ?_⟩
  rcases h with ⟨e, _⟩ | ⟨g', cap', cur, e, hb, hh, h1, h2, h3, h4⟩
  · cases e
  · cases e
    refine .inr ⟨g, cap, cur, rfl, hb, hh, by omega, h2, h3, ?_⟩
    rw [← h4, List.take_take]
    congr 1; omega
def putL : List Value → Nat → List Value → List Value
  | xs, _, [] => xs
  | xs, o, v :: r => putL (xs.set o v) (o + 1) r
theorem own_sets {base g n cap : Nat} {T : TypeId} : ∀ (vs : List Value) (o : Nat) (w : World) (xs : List Value), w.ownsRow base T 1 (.slice (some ⟨g, 0, none⟩) n cap) n xs → (w.setCells g o vs).ownsRow base T 1 (.slice (some ⟨g, 0, none⟩) n cap) n (putL xs o vs)
  | [], _, _, _, h => h
  | v :: r, o, w, xs, h => own_sets r (o + 1) _ _ (h.stored o v).1
theorem below_sets {B g : Nat} (hg : B ≤ g) {a : World} : ∀ (vs : List Value) (o : Nat) (w : World), Below B a w → Below B a (w.setCells g o vs)
  | [], _, _, h => h
  | v :: r, o, w, h => below_sets hg r (o + 1) _ (below_set h hg v)
theorem putL_eq : ∀ (vs : List Value) (xs : List Value) (o : Nat), o + vs.length ≤ xs.length → putL xs o vs = xs.take o ++ vs ++ xs.drop (o + vs.length)
  | [], xs, o, _ => by simp [putL]
  | v :: r, xs, o, h => by
    rw [List.length_cons] at h
    rw [putL, putL_eq r _ _ (by rw [List.length_set]; omega)]
    apply List.ext_getElem?
    intro k
    rw [List.length_cons]
    simp only [List.getElem?_append, List.length_append, List.length_take, List.length_set, List.getElem?_take, List.getElem?_drop, List.getElem?_set, List.length_cons]
    rw [Nat.min_eq_left (by omega), Nat.min_eq_left (by omega)]
    rcases Nat.lt_trichotomy k o with g | g | g
    · rw [if_pos (show k < o + 1 + r.length by omega), if_pos (show k < o + 1 by omega), if_pos (show k < o + 1 by omega), if_neg (by omega), if_pos (show k < o + (r.length + 1) by omega), if_pos g, if_pos g]
    · subst g
      rw [if_pos (show k < k + 1 + r.length by omega), if_pos (show k < k + 1 by omega), if_pos (show k < k + 1 by omega), if_pos rfl, if_pos (show k < xs.length by omega), if_pos (show k < k + (r.length + 1) by omega), if_neg (by omega), Nat.sub_self]; rfl
    · by_cases g2 : k < o + 1 + r.length
      · rw [if_pos g2, if_neg (by omega), if_pos (show k < o + (r.length + 1) by omega), if_neg (by omega), show k - o = (k - (o + 1)) + 1 from by omega, List.getElem?_cons_succ]
      · rw [if_neg g2, if_neg (show ¬ k < o + (r.length + 1) by omega), if_neg (by omega), show o + 1 + r.length + (k - (o + 1 + r.length)) = o + (r.length + 1) + (k - (o + (r.length + 1))) from by omega]
/-- what is left when one is taken out -/
theorem del_list (ss : List (List UInt8)) {i n : Nat} (hl : ss.length = n) (hi : i < n) (e : Value) : (putL (putL (strs ss) i (strs (ss.drop (i + 1)))) (n - 1) [e]).take (n - 1) = strs (ss.eraseIdx i) := by
  have h0 : (strs ss).length = n := by rw [strs_length, hl]
  have h1 : (strs (ss.drop (i + 1))).length = n - (i + 1) := by rw [strs_length, List.length_drop, hl]
  have e1 := putL_eq (strs (ss.drop (i + 1))) (strs ss) i (by omega)
  have h2 : (putL (strs ss) i (strs (ss.drop (i + 1)))).length = n := by
    rw [e1]; simp only [List.length_append, List.length_take, List.length_drop]; omega
  rw [putL_eq _ _ _ (by rw [h2]; simp; omega)]
  rw [List.append_assoc, List.take_append_of_le_length (by rw [List.length_take, h2]; omega), List.take_take, Nat.min_self, e1]
  rw [List.take_append_of_le_length (by simp only [List.length_append, List.length_take]; omega), List.take_of_length_le (by simp only [List.length_append, List.length_take]; omega)]
  rw [List.eraseIdx_eq_take_drop_succ]
  unfold strs
  rw [List.map_append, List.map_take]
set_option maxHeartbeats 4000000 in
theorem delete_raw (g off i j n c : Nat) (news : List Value) (A : Addr) (w W1 : World) (hij : i < j) (hjn : j ≤ n) (hnc : n ≤ c) (hc : c ≤ 9223372036854775807)
    (hA : (if c = j then (some ⟨g, off, none⟩ : Option Addr) else some ⟨g, off + j, none⟩) = some A) (hsrc : Hid (∀ t u, news[t]? = some u → w.drew.cell? (A.add t) = some u))
    (s1 : Hid (news.length = (n - j) * 1)) (s2 : Hid (∀ u ∈ news, u.oneCell' = true)) (s3 : Hid (∀ t, t < news.length → (w.drew.cell? ⟨g, off + i * 1 + t, none⟩).isSome = true ∧ w.drew.frozen? ⟨g, off + i * 1 + t, none⟩ = false))
    (hW : Hid (W1 = w.drew.setCells g (off + i * 1) news))
    (hcl : ∀ ty, (Builtin.clear_ #[89] ty #[.slice (some ⟨g, off + (i + (n - j)), none⟩) (n - (i + (n - j))) (c - (i + (n - j)))]).run Try.prog W1 = .ok (.tuple #[]) (W1.setCells g (off + (i + (n - j))) (List.replicate (n - (i + (n - j))) (.string ⟨#[]⟩)))) :
    Calls Try.prog 160 #[.slice (some ⟨g, off, none⟩) n c, .int .i64 i, .int .i64 j] w fun e w' => e = .returned (.slice (some ⟨g, off, none⟩) (i + (n - j)) c) ∧ w' = W1.setCells g (off + (i + (n - j))) (List.replicate (n - (i + (n - j))) (.string ⟨#[]⟩)) := by
  obtain ⟨i0, hi0, hz0, hz1, hz2⟩ := info_parts info_tree
  have hic : i ≤ c := by omega
  have hjc : j ≤ c := by omega
  have mixed : Try.prog.follows Departure.mixedOrders = true := by kernel_rfl
  go_enter Try.func160, Try.ntmps160
  go_wp2_with fail
  go_region_law_o (refine step_append_room rfl (.tmp 22) (.tmp 25) 89 rfl 79 i0 1 Try.underlying89 hi0 hz1 g off i c (by simp [Act.eval, Act.put]) A (n - j) (c - j) news (by simp [Act.eval, Act.put]) s1.out hsrc.out s2.out (by omega) s3.out ?_; rw [← hW.out])
  go_wp2
  go_ret
  exact ⟨rfl, rfl⟩
set_option maxHeartbeats 2000000 in
theorem delete_any (base g i j n c : Nat) (ss : List (List UInt8)) (w : World) (hl : ss.length = n) (hi : i < n) (hj : j = i + 1) (hn : n ≤ 12) (hbase : base ≤ w.heap.size) (h : w.ownsRow base 79 1 (.slice (some ⟨g, 0, none⟩) n c) n (strs ss)) :
    Calls Try.prog 160 #[.slice (some ⟨g, 0, none⟩) n c, .int .i64 i, .int .i64 j] w fun e w' => e = .returned (.slice (some ⟨g, 0, none⟩) (n - 1) c) ∧ w'.ownsRow base 79 1 (.slice (some ⟨g, 0, none⟩) (n - 1) c) (n - 1) (strs (ss.eraseIdx i)) ∧ Below base w w' ∧ base ≤ w'.heap.size := by
  have hcap := own_cap h
  have HB : Hid (base ≤ g) := (h.lt g rfl).1
  have HL := Lib.hid hl
  have hlen : (strs (ss.drop j)).length = n - j := by rw [strs_length, List.length_drop, hl]
  have s1 : Hid ((strs (ss.drop j)).length = (n - j) * 1) := by rw [Hid, Nat.mul_one]; exact hlen
  have s2 : Hid (∀ u ∈ strs (ss.drop j), u.oneCell' = true) := fun u hu => by
    unfold strs at hu
    rw [List.mem_map] at hu
    obtain ⟨x, _, rfl⟩ := hu
    rfl
  have hcell : ∀ k, k < n → ∃ u, w.cell? ⟨g, k, none⟩ = some u ∧ (strs ss)[k]? = some u := fun k hk => by
    obtain ⟨x, hx⟩ := at_lt (show k < ss.length by omega)
    have := h.cellAt k (by omega)
    rw [strs_at hx] at this
    exact ⟨_, this, strs_at hx⟩
  have s3 : Hid (∀ t, t < (strs (ss.drop j)).length → (w.drew.cell? ⟨g, 0 + i * 1 + t, none⟩).isSome = true ∧ w.drew.frozen? ⟨g, 0 + i * 1 + t, none⟩ = false) := fun t ht => by
    rw [hlen] at ht
    rw [Nat.mul_one, Nat.zero_add]
    obtain ⟨u, hu, _⟩ := hcell (i + t) (by omega)
    exact ⟨by show (w.cell? _).isSome = true; rw [hu]; rfl, h.frozenAt (i + t)⟩
  obtain ⟨A, hA, hsrc⟩ : ∃ A : Addr, (if c = j then some (⟨g, 0, none⟩ : Addr) else some ⟨g, j, none⟩) = some A ∧ Hid (∀ t u, (strs (ss.drop j))[t]? = some u → w.drew.cell? (A.add t) = some u) := by
    by_cases hc : c = j
    · refine ⟨⟨g, 0, none⟩, by simp [hc], fun t u hu => ?_⟩
      have h0 : (strs (ss.drop j)).length = 0 := by rw [hlen]; omega
      rw [List.length_eq_zero_iff.1 h0] at hu
      simp at hu
    · refine ⟨⟨g, j, none⟩, by simp [hc], fun t u hu => ?_⟩
      have ht : t < n - j := by
        have := (List.getElem?_eq_some_iff.1 hu).1
        rwa [hlen] at this
      obtain ⟨v, hv, hv2⟩ := hcell (j + t) (by omega)
      rw [show (⟨g, j, none⟩ : Addr).add t = ⟨g, j + t, none⟩ from by unfold Addr.add; split <;> simp_all]
      unfold strs at hu hv2
      rw [List.map_drop, List.getElem?_drop, hv2] at hu
      injection hu with hu
      rw [← hu]; exact hv
  obtain ⟨W1, hW1⟩ : ∃ W1, W1 = w.drew.setCells g (0 + i * 1) (strs (ss.drop j)) := ⟨_, rfl⟩
  have HW := Lib.hid hW1
  have hO1 : W1.ownsRow base 79 1 (.slice (some ⟨g, 0, none⟩) n c) n (putL (strs ss) i (strs (ss.drop j))) := by
    rw [hW1, Nat.mul_one, Nat.zero_add]
    exact own_sets _ _ _ _ (by exact (OwnR.of h).drewN 1 |>.1)
  have HO1 := Lib.hid hO1
  have HB1 : Hid (Below base w W1) := by rw [Hid, hW1]; exact below_sets HB.out _ _ _ (below_drewN (Below.refl _ _) 1)
  have hcell1 : ∀ k, k < n → (W1.cell? ⟨g, k, none⟩).isSome = true ∧ W1.frozen? ⟨g, k, none⟩ = false := fun k hk => by
    have h9 := hO1.cellAt k (by omega)
    have h8 : k < (putL (strs ss) i (strs (ss.drop j))).length := by rw [own_len hO1]; exact hk
    rw [List.getElem?_eq_getElem h8] at h9
    exact ⟨by rw [h9]; rfl, hO1.frozenAt k⟩
  have e1 : i + (n - j) = n - 1 := by omega
  have e2 : n - (n - 1) = 1 := by omega
  have hcl : ∀ ty, (Builtin.clear_ #[89] ty #[.slice (some ⟨g, 0 + (i + (n - j)), none⟩) (n - (i + (n - j))) (c - (i + (n - j)))]).run Try.prog W1 = .ok (.tuple #[]) (W1.setCells g (0 + (i + (n - j))) (List.replicate (n - (i + (n - j))) (.string ⟨#[]⟩))) := fun ty =>
    Lib.run_clear_slice W1 _ _ ty (.string ⟨#[]⟩) Try.underlying89 (fun w => by rfl) rfl rfl g (0 + (i + (n - j))) _ _ (by omega) (fun t ht => by rw [Nat.zero_add, e1]; exact (hcell1 (n - 1 + t) (by omega)).1) (fun t ht => by rw [Nat.zero_add, e1]; exact (hcell1 (n - 1 + t) (by omega)).2)
  have G : Hid ((W1.setCells g (n - 1) [.string ⟨#[]⟩]).ownsRow base 79 1 (.slice (some ⟨g, 0, none⟩) (n - 1) c) (n - 1) (strs (ss.eraseIdx i)) ∧ Below base w (W1.setCells g (n - 1) [.string ⟨#[]⟩]) ∧ base ≤ (W1.setCells g (n - 1) [.string ⟨#[]⟩]).heap.size) := by
    have h7 := own_prefix (own_sets [.string ⟨#[]⟩] (n - 1) W1 _ HO1.out) (show n - 1 ≤ n by omega)
    subst hj
    rw [del_list ss HL.out hi] at h7
    have h6 := below_sets HB.out [.string ⟨#[]⟩] (n - 1) W1 HB1.out
    exact ⟨h7, h6, Nat.le_trans hbase h6.size⟩
  have C0 := delete_raw g 0 i j n c _ A w W1 (by omega) (by omega) hcap.1 hcap.2 (by rw [Nat.zero_add]; exact hA) hsrc s1 s2 s3 HW hcl
  refine C0.mono ?_
  rintro e w' ⟨rfl, rfl⟩
  rw [Nat.zero_add, e1, e2]
  exact ⟨rfl, G.out⟩
end Go.Proofs.Ytgicbmfcojfjcab
