/-
  The nodes of a tableau: the program's and the model's.
-/
import Derived.Test.YtfllcdcgfpjabaaTabS
import Derived.Test.YtfllcdcgfpjabaaRep
import Derived.Test.YtfllcdcgfpjabaaRes1
import Derived.Test.YtfllcdcgfpjabaaOwn1
namespace Go.Proofs.Ytfllcdcgfpjabaa
open Go.RowKit Fld
set_option linter.unusedVariables false
set_option linter.unusedSimpArgs false
set_option maxRecDepth 100000

/-- the products of the rows with a list -/
def appL (m : List (List Int)) (v : List Int) : List Int := m.map fun r => dotK r v v.length
theorem appL_length (m : List (List Int)) (v : List Int) : (appL m v).length = m.length := by simp [appL]
theorem appL_at {m : List (List Int)} {v r : List Int} {k n : Nat} (h : m[k]? = some r) (hv : v.length = n) : (appL m v)[k]? = some (dotK r v n) := by
  unfold appL; rw [List.getElem?_map, h, ← hv]; rfl
theorem appL_num (m : List (List Int)) (v : List Int) : allNum (appL m v) = true := by
  rw [allNum_iff]
  intro x hx
  unfold appL at hx
  obtain ⟨r, _, rfl⟩ := List.mem_map.1 hx
  exact dotK_bd r v _
theorem Filling.drewN {w wr : World} {T : TypeId} {n k : Nat} {xs : List Int} (h : Filling w T n xs k wr) (j : Nat) : Filling w T n xs k (wr.drewN j) := ⟨h.1, below_drewN h.2 j⟩
theorem info_appN : (Try.prog.info? 79).map (fun i => (i.zero, i.size, i.bytes)) = some (some (.int .i64 0), 1, 8) := by kernel_rfl
set_option maxHeartbeats 1000000 in
theorem applied_any (A D A2 : Option Addr) (n c n' d c2 B B2 : Nat) (m : List (List Int)) (v : List Int) (w : World) (hl : m.length = n) (hn : n ≤ 8) (hq : Wide m n) (hnum : ∀ r ∈ m, allNum r = true) (hv : v.length = n) (hvn : allNum v = true) (hB : B ≤ w.heap.size) (hB2 : B2 ≤ w.heap.size) (h : Mat w B A m) (h2 : Row w B2 A2 (ints v)) :
    Calls Try.prog 89 #[.agg #[.slice A n c, .slice D n' d], .slice A2 n c2] w (NewRow 79 n (ints (appL m v)) w) := by
  obtain ⟨i0, hi, hz0, hz1, hz2⟩ := info_parts info_appN
  have HL := Lib.hid hl
  have HQ := Lib.hid hq
  have HN := Lib.hid hnum
  have HV := Lib.hid hv
  have HVN := Lib.hid hvn
  have HAL : Hid ((appL m v).length = n) := (appL_length m v).trans hl
  obtain ⟨W0, hW0⟩ : ∃ W0, W0 = w.alloc (.cells #[.slice A n c, .slice D n' d] 65) := ⟨_, rfl⟩
  have HB : Hid (Below w.heap.size w W0) := by rw [hW0]; exact (Below.refl _ _).alloc (Nat.le_refl _) _
  have HX : Bx W0 w.heap.size 65 (.slice A n c) (.slice D n' d) := by rw [hW0]; exact Bx.new _ _ _ _
  have hz := HB.out.size
  have HM := Lib.hid (h.below HB.out hB)
  have HR2 := Lib.hid (h2.below HB.out hB2)
  have HXX := Lib.hid HX
  have q0 := HX.c0
  clear hl hq hnum hv hvn h h2 HX
  go_enter Try.func89, Try.ntmps89
  go_wp2_with (at_make; rw [← hW0]; clear hW0; refine wpList_make_full _ rfl (.tmp 10) (.tmp 10) 63 rfl W0.heap.size 79 i0 _ 1 Try.underlying63 hi hz0 hz1 .i64 .i64 _ _ n rfl rfl rfl rfl (by rw [hz2]; omega) (by simp only [maxLen]; omega) (Nat.le_refl _) ?_; intro w1 hown hg; have q1 := (HXX.out.next ((Below.refl _ _).grown hg (Nat.le_refl _) (fun k hk => by cases hk))).c0)
  have F0 := Filling.start (xs := appL m v) hown hg
  clear hown hg hz0 hz1 hz2 hi q0 q1
  go_loopw [15] (fun i wr => ∃ k : Nat, k ≤ n ∧ i = .int .i64 k ∧ Filling W0 79 n (appL m v) k wr) (fun i _ => n - (intOf i).toNat)
  case atStart => exact ⟨0, Nat.zero_le _, rfl, F0⟩
  case round =>
    obtain ⟨k, hk, rfl, HF⟩ := hrel
    by_cases hlt : k < n
    · obtain ⟨r, hr⟩ := at_lt (show k < m.length by rw [HL.out]; exact hlt)
      have hrq := HQ.out.at_ hr
      have hrn := HN.out r (List.mem_of_getElem? hr)
      obtain ⟨b, o, Ak, ck, rfl, _, hc, _, _, hrow⟩ := HM.out.below HF.2 (by omega) k r hr
      have hzr := HF.2.size
      have hf := HF.1.frozenAt k
      have ho := fill_at' HF HAL.out hlt
      rw [hrq] at hc
      have hf' : ∀ j, (wr.drewN j).frozen? ⟨W0.heap.size, k, none⟩ = false := fun j => hf
      have ho' : ∀ j, (wr.drewN j).cell? ⟨W0.heap.size, k, none⟩ = some (.int .i64 0) := fun j => ho
      have HDT := dotOf_any Ak A2 n ck c2 B B2 r v wr hrq HV.out (by omega) hrow (HR2.out.below HF.2 (by omega)) hrn HVN.out
      have G := fun j => Lib.hid ((HF.drewN j).step HAL.out (appL_at hr HV.out))
      clear hr hrq hrn F0 HF hrow
      go_wp2_with fail
      refine HDT.mono ?_
      rintro e w2 ⟨rfl, j, rfl⟩
      have G1 := G j
      have z1 := hf' j
      have z2 := ho' j
      clear HDT G hf' ho' hf ho
      go_wp2
      go_roundw
      case rel => exact ⟨k + 1, by omega, by go_num, G1.out⟩
      case measure => simp [intOf]; omega
    · obtain rfl : k = n := by omega
      have G := Lib.hid ((HF.done HAL.out).after HB.out)
      clear HF F0
      go_wp2
      go_ret
      exact G.out
set_option maxHeartbeats 1000000 in
theorem ones_any (A D : Option Addr) (n c n' d : Nat) (w : World) (hn1 : 1 ≤ n') (hn : n' ≤ 8) :
    Calls Try.prog 75 #[.agg #[.slice A n c, .slice D n' d]] w (NewRow 79 n' (ints (List.replicate n' 1)) w) := by
  have HB : Hid (Below w.heap.size w (w.alloc (.cells #[.slice A n c, .slice D n' d] 65))) := (Below.refl _ _).alloc (Nat.le_refl _) _
  have HB2 : Hid (Below w.heap.size w ((w.alloc (.cells #[.slice A n c, .slice D n' d] 65)).alloc (.cells #[.int .i64 1] 79))) := HB.out.alloc HB.out.size _
  go_enter Try.func75, Try.ntmps75
  go_wp2_with fail
  refine (repeat_any _ _ _ n' _ hn1 hn (Nat.le_refl _) (show Row _ _ _ [Value.int .i64 1] from by have := Row.new (w.alloc (.cells #[.slice A n c, .slice D n' d] 65)) 79 [Value.int .i64 1]; simpa using this)).mono ?_
  rintro e w3 ⟨A3, c3, rfl, own3, b3⟩
  have G : Hid (NewRow 79 n' (ints (List.replicate n' 1)) w (.returned (.slice A3 n' c3)) w3) := NewRow.after HB2.out ⟨A3, c3, rfl, own3, b3⟩
  clear own3 b3
  go_wp2
  go_ret
  exact G.out
set_option maxHeartbeats 1000000 in
theorem nodes_any (A D : Option Addr) (n c d B : Nat) (m : List (List Int)) (w : World) (hl : m.length = n) (hn1 : 1 ≤ n) (hn : n ≤ 8) (hq : Wide m n) (hnum : ∀ r ∈ m, allNum r = true) (hB : B ≤ w.heap.size) (h : Mat w B A m) :
    Calls Try.prog 63 #[.agg #[.slice A n c, .slice D n d]] w (NewRow 79 n (ints (appL m (List.replicate n 1))) w) := by
  have HL := Lib.hid hl
  have HQ := Lib.hid hq
  have HN := Lib.hid hnum
  obtain ⟨W0, hW0⟩ : ∃ W0, W0 = w.alloc (.cells #[.slice A n c, .slice D n d] 65) := ⟨_, rfl⟩
  have HB : Hid (Below w.heap.size w W0) := by rw [hW0]; exact (Below.refl _ _).alloc (Nat.le_refl _) _
  have HX : Bx W0 w.heap.size 65 (.slice A n c) (.slice D n d) := by rw [hW0]; exact Bx.new _ _ _ _
  have hz := HB.out.size
  have HM := Lib.hid (h.below HB.out hB)
  have KK : Hid (∀ V, Below W0.heap.size W0 V → V.cell? ⟨w.heap.size, 0, none⟩ = some (.slice A n c) ∧ V.cell? ⟨w.heap.size, 1, none⟩ = some (.slice D n d)) := fun V hV => ⟨(HX.next hV).c0, (HX.next hV).c1⟩
  have C1 := fun V => ones_any A D n c n d V hn1 hn
  have hvn : allNum (List.replicate n (1 : Int)) = true := by rw [allNum_iff]; intro x hx; have := (List.mem_replicate.1 hx).2; omega
  have C2 := fun V (hV : Below W0.heap.size W0 V) A2 c2 (h2 : Row V V.heap.size A2 (ints (List.replicate n 1))) => applied_any A D A2 n c n d c2 B V.heap.size m (List.replicate n 1) V HL.out hn HQ.out HN.out (by simp) hvn (by have := hV.size; omega) (Nat.le_refl _) (HM.out.below hV (by omega)) h2
  clear hl hq hnum h HX
  go_enter Try.func63, Try.ntmps63
  go_wp2_with fail
  change Code.wp _ _ _ _ (w.alloc (.cells #[.slice A n c, .slice D n d] 65))
  rw [← hW0]
  clear hW0
  go_region_held3 (fun V => V.cell? ⟨w.heap.size, 0, none⟩ = some (.slice A n c) ∧ V.cell? ⟨w.heap.size, 1, none⟩ = some (.slice D n d))
    (first | exact KK.out _ (Below.refl _ _) | exact KK.out _ (Below.refl _ _).drew | exact KK.out _ (below_drewN (Below.refl _ _) _) | exact KK.out _ (below_undrawn (a := 1) b2) | exact KK.out _ ((below_undrawn (a := 1) b2).trans (b3.mono (below_undrawn (a := 1) b2).size)))
    (first
      | (go_at_call 75; refine (C1 _).mono ?_; clear C1; rintro e w2 ⟨A2, c2, rfl, own2, b2⟩)
      | (go_at_call 89; refine (C2 _ (by exact below_undrawn (a := 1) b2) A2 c2 (by exact row_of_own own2)).mono ?_; clear C2; rintro e w3 ⟨A3, c3, rfl, own3, b3⟩))
  have hb3 : Below W0.heap.size W0 w3 := (below_undrawn (a := 1) b2).trans (b3.mono (below_undrawn (a := 1) b2).size)
  have hb2 : Below W0.heap.size W0 w2 := below_undrawn (a := 1) b2
  have G : Hid (NewRow 79 n (ints (appL m (List.replicate n 1))) w (.returned (.slice A3 n c3)) w3) := NewRow.after (HB.out.trans (hb2.mono HB.out.size)) ⟨A3, c3, rfl, own3, b3⟩
  clear own2 own3 b2 b3 hb2 hb3 KK
  go_wp2
  go_ret
  exact G.out
theorem Growing.drewN {w wr : World} {T : TypeId} {g j cap : Nat} {vs : List Value} (h : Growing w T g j cap vs wr) (i : Nat) : Growing w T g j cap vs (wr.drewN i) := ⟨h.1, below_drewN h.2 i⟩
theorem grow_ones (j : Nat) : ints (List.replicate j 1) ++ [.int .i64 1] = ints (List.replicate (j + 1) 1) := by
  simp [ints, intsK, List.replicate_succ']
set_option maxHeartbeats 1000000 in
theorem l09Ones_any (n : Nat) (w : World) (hn : n ≤ 8) : Calls Try.prog 61 #[.int .i64 (n : Int)] w (NewRow 2 n (ints (List.replicate n 1)) w) := by
  obtain ⟨i0, hi, hz0, hz1, hz2⟩ := info_parts info_i64
  go_enter Try.func61, Try.ntmps61
  go_wp2_with fail
  go_loopw [0, 3] (fun i v wr => ∃ j g cap : Nat, j ≤ n ∧ v = .slice (some ⟨g, 0, none⟩) j cap ∧ i = .int .i64 ((n : Int) - j) ∧ Growing w 2 g j cap (ints (List.replicate j 1)) wr) (fun i _ _ => (intOf i).toNat)
  case atStart => exact ⟨0, _, 0, Nat.zero_le _, rfl, by simp, Growing.start ..⟩
  case round =>
    obtain ⟨j, g, cap, hj, rfl, rfl, HF⟩ := hrel
    by_cases hlt : j < n
    · have HF' := Lib.hid HF
      have hown := HF.1
      have hpos : (0 : Int) < (n : Int) - j := by omega
      have hwr : IntKind.i64.wrap ((n : Int) - j - 1) = (n : Int) - j - 1 := IntWalk.i64_in _ (by omega)
      have HC := Lib.hid (grow_ones j)
      clear HF
      go_wp2_with (at_builtin; refine wpList_append_lies _ rfl (.tmp 9) (.tmp 10) 23 rfl w.heap.size 2 i0 _ 1 8 Try.underlying23 hi hz0 hz1 hz2 rfl (by omega) (.slice (some ⟨g, 0, none⟩) j cap) j (ints (List.replicate j 1)) rfl (hown.alloc _) ⟨wr.heap.size, 0, none⟩ 1 1 [.int .i64 1] rfl rfl (World.news_of_block (cs := #[.int .i64 1]) (heap_alloc_new _ _)) (by simp [Value.oneCell']) (by omega) (by simp only [maxLen]; omega) (by omega) (by simp; have := HF'.out.2.size; omega) (wr.heap.size + 1) (by simp) ?_; intro g2 cap2 w2 hown2 hgrow2 hat2 hlt2)
      rw [HC.out] at hown2
      have G := Lib.hid (HF'.out.step ((Below.refl _ _).alloc (Nat.le_refl _) _) hown2 hgrow2)
      clear hown2 hgrow2 hat2 hown
      go_wp2
      go_roundw
      case rel => exact ⟨j + 1, _, _, by omega, rfl, by push_cast; congr 1; omega, G.out⟩
      case measure => simp [intOf]; omega
    · obtain rfl : j = n := by omega
      have G := Lib.hid HF.done
      have hpos : ¬ (0 : Int) < (j : Int) - j := by omega
      clear HF
      go_wp2
      go_ret
      exact G.out
set_option maxHeartbeats 1000000 in
theorem l09Times_any (A A2 : Option Addr) (n c c2 B B2 : Nat) (m : List (List Int)) (v : List Int) (w : World) (hl : m.length = n) (hn : n ≤ 8) (hq : Wide m n) (hnum : ∀ r ∈ m, allNum r = true) (hv : v.length = n) (hvn : allNum v = true) (hB : B ≤ w.heap.size) (hB2 : B2 ≤ w.heap.size) (h : Mat w B A m) (h2 : Row w B2 A2 (ints v)) :
    Calls Try.prog 60 #[.slice A n c, .slice A2 n c2] w (NewRow 2 n (ints (appL m v)) w) := by
  obtain ⟨i0, hi, hz0, hz1, hz2⟩ := info_parts info_i64
  have HL := Lib.hid hl
  have HQ := Lib.hid hq
  have HN := Lib.hid hnum
  have HV := Lib.hid hv
  have HVN := Lib.hid hvn
  have HAL : Hid ((appL m v).length = n) := (appL_length m v).trans hl
  clear hl hq hnum hv hvn
  go_enter Try.func60, Try.ntmps60
  go_wp2_with fail
  go_loopw [5, 6] (fun u i wr => ∃ j g cap : Nat, j ≤ n ∧ u = .slice (some ⟨g, 0, none⟩) j cap ∧ i = .int .i64 j ∧ Growing w 2 g j cap (ints ((appL m v).take j)) wr) (fun _ i _ => n - (intOf i).toNat)
  case atStart => exact ⟨0, _, 0, Nat.zero_le _, rfl, rfl, Growing.start ..⟩
  case round =>
    obtain ⟨j, g, cap, hj, rfl, rfl, HF⟩ := hrel
    by_cases hlt : j < n
    · obtain ⟨r, hr⟩ := at_lt (show j < m.length by rw [HL.out]; exact hlt)
      have hrq := HQ.out.at_ hr
      have hrn := HN.out r (List.mem_of_getElem? hr)
      obtain ⟨b, o, Ak, ck, rfl, _, hc, _, _, hrow⟩ := h.below HF.2 (by omega) j r hr
      rw [hrq] at hc
      have HDT := l01Dot_any Ak A2 n ck c2 B B2 r v wr hrq HV.out (by omega) hrow (h2.below HF.2 (by omega)) hrn HVN.out
      have HC := Lib.hid (grow_ints (appL_at hr HV.out))
      have HF' := Lib.hid HF
      have hzr := HF.2.size
      clear hr hrq hrn HF hrow
      go_wp2_with fail
      refine HDT.mono ?_
      rintro e w2 ⟨rfl, i, rfl⟩
      have hown := (HF'.out.drewN i).1
      obtain ⟨x, hx⟩ : ∃ x, x = dotK r v n := ⟨_, rfl⟩
      rw [← hx] at HC ⊢
      clear HDT hx
      go_wp2_with (at_builtin; refine wpList_append_lies _ rfl (.tmp 14) (.tmp 21) 23 rfl w.heap.size 2 i0 _ 1 8 Try.underlying23 hi hz0 hz1 hz2 rfl (by omega) (.slice (some ⟨g, 0, none⟩) j cap) j (ints ((appL m v).take j)) rfl (hown.alloc _) ⟨wr.heap.size, 0, none⟩ 1 1 [.int .i64 x] rfl rfl (World.news_of_block (cs := #[.int .i64 x]) (heap_alloc_new _ _)) (by simp [Value.oneCell']) (by omega) (by simp only [maxLen]; omega) (by omega) (by simp; omega) (wr.heap.size + 1) (by simp) ?_; intro g2 cap2 w2 hown2 hgrow2 hat2 hlt2)
      rw [HC.out] at hown2
      have G := Lib.hid ((HF'.out.drewN i).step ((Below.refl _ _).alloc (Nat.le_refl _) _) hown2 hgrow2)
      clear hown2 hgrow2 hat2 hown
      go_wp2
      go_roundw
      case rel => exact ⟨j + 1, _, _, by omega, rfl, by go_num, G.out⟩
      case measure => simp [intOf]; omega
    · obtain rfl : j = n := by omega
      have e : (appL m v).take j = appL m v := List.take_of_length_le (by rw [HAL.out]; omega)
      rw [e] at HF
      have G := Lib.hid HF.done
      clear HF
      go_wp2
      go_ret
      exact G.out
/-- what NodesOf answers -/
def nodesA (m : List (List Int)) (b : List Int) : List Int × Int := if isTabB m b = true then (appL m (List.replicate b.length 1), 0) else ([], 1)
theorem ones_num (n : Nat) : allNum (List.replicate n (1 : Int)) = true := by rw [allNum_iff]; intro x hx; have := (List.mem_replicate.1 hx).2; omega
end Go.Proofs.Ytfllcdcgfpjabaa
