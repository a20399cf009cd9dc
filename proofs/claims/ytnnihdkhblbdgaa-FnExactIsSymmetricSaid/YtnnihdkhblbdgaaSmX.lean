/-
  Symmetric tableaus, the program's.
-/
import Derived.Test.YtnnihdkhblbdgaaSyC
import Derived.Test.YtnnihdkhblbdgaaSyE
namespace Go.Proofs.Ytnnihdkhblbdgaa
open Go.RowKit Fld
set_option linter.unusedVariables false
set_option linter.unusedSimpArgs false
set_option maxRecDepth 100000

theorem sm_same {m : List (List Int)} {b : List Int} {n : Nat} (hn : n ≤ 8) (hl : b.length = n) : decide (grL (smL m n) n = grL (fun _ k => b.getD k 0) n) = symmB m b := by
  have e : (grL (smL m n) n = grL (fun _ k => b.getD k 0) n) ↔ SmAll m b := by
    rw [grL_eq]
    unfold SmAll
    rw [hl]
    constructor
    · intro h i k hi hk
      have := h i k (by omega) (by omega)
      unfold grV at this
      rwa [if_pos ⟨hi, hk⟩, if_pos ⟨hi, hk⟩] at this
    · intro h i k _ _
      unfold grV
      by_cases q : i < n ∧ k < n
      · rw [if_pos q, if_pos q]; exact h i k q.1 q.2
      · rw [if_neg q, if_neg q]
  by_cases q : SmAll m b
  · rw [symmB_yes q, decide_eq_true (e.2 q)]
  · rw [symmB_no q, decide_eq_false (fun z => q (e.1 z))]
set_option maxHeartbeats 4000000 in
theorem isSymm_any (A D : Option Addr) (n c d B B' : Nat) (m : List (List Int)) (b : List Int) (w : World) (ok : TbOk n m b) (h1 : 1 ≤ n) (hB : B ≤ w.heap.size) (hB' : B' ≤ w.heap.size) (h : Mat w B A m) (r : Row w B' D (ints b)) :
    Calls Try.prog 45 #[.agg #[.slice A n c, .slice D n d]] w fun e w' => e = .returned (.bool (symmB m b)) ∧ Below w.heap.size w w' := by
  have hn8 := ok.le
  have hw1 : IntKind.i64.wrap ((n : Int) - 1) = ((n - 1 : Nat) : Int) := by rw [IntWalk.i64_in _ (by omega)]; omega
  obtain ⟨W0, hW0⟩ : ∃ W0, W0 = (w.alloc (.cells #[.slice A n c, .slice D n d] 60)).alloc (.cells #[.int .i64 ((n - 1 : Nat) : Int)] 3) := ⟨_, rfl⟩
  have FB : Hid (Below w.heap.size w W0) := by rw [hW0]; exact ((Below.refl _ _).alloc (Nat.le_refl _) _).alloc (by simp) _
  have F0 : Bx (w.alloc (.cells #[.slice A n c, .slice D n d] 60)) w.heap.size 60 (.slice A n c) (.slice D n d) := Bx.new w _ _ _
  have FX : Bx W0 w.heap.size 60 (.slice A n c) (.slice D n d) := by
    rw [hW0]; exact F0.next ((Below.refl _ _).alloc (Nat.le_refl _) _)
  have FL0 : W0.heap[w.heap.size + 1]? = some (.cells #[.int .i64 ((n - 1 : Nat) : Int)] 3 (0, 0)) := by
    have := heap_alloc_new (w.alloc (.cells #[.slice A n c, .slice D n d] 60)) (.cells #[.int .i64 ((n - 1 : Nat) : Int)] 3)
    rw [hW0]; simpa using this
  have HS : Hid (W0.heap.size = w.heap.size + 2) := by rw [hW0]; simp [Hid]
  have FS : Hid (SchB W0 w.heap.size n m b A D c d B B') := ⟨FX, h.below FB.out hB, r.below FB.out hB'⟩
  have HC : Hid (∀ W, Below W0.heap.size W0 W → SchB W w.heap.size n m b A D c d B B') := fun W hW => FS.out.next hW (by have := HS.out; omega) (by have := HS.out; omega)
  have HLC : Hid (∀ W, Below W0.heap.size W0 W → W.cell? ⟨w.heap.size + 1, 0, none⟩ = some (.int .i64 ((n - 1 : Nat) : Int))) := fun W hW => by
    have h9 : W.heap[w.heap.size + 1]? = some (.cells #[.int .i64 ((n - 1 : Nat) : Int)] 3 (0, 0)) := (hW.block _ (by have := HS.out; omega)).trans FL0
    rw [cell_of_row _ _ 0 _ _ _ h9]; rfl
  have CL := fun W (hW : Below W0.heap.size W0 W) => gridBy_pairs w.heap.size (w.heap.size + 1) A D n c d (smL m n) W ok.le fun V i k hi hk hV => pairs_any w.heap.size (w.heap.size + 1) i k A D n c d B B' m b V ok (HC.out V (hW.trans (hV.mono hW.size))) (HLC.out V (hW.trans (hV.mono hW.size))) hi hk
  have CR := fun W (hW : Below W0.heap.size W0 W) => gridBy_cols w.heap.size A D n c d (fun _ k => b.getD k 0) W ok.le fun V i k hi hk hV => cols_any w.heap.size i k A D n c d B B' m b V ok (HC.out V (hW.trans (hV.mono hW.size))) hi hk
  have L1 := Lib.hid (arrG_size (grL_length (smL m n) n))
  have L2 := Lib.hid (arrG_size (grL_length (fun _ k => b.getD k 0) n))
  have Z64 : Hid ((arrG zero64).size = 64) := by simp [Hid, zero64, arrG, ints_length]
  have EQ : Hid (∀ W, (Op.equalIn 10000 54 (.agg (arrG (grL (smL m n) n))) (.agg (arrG (grL (fun _ k => b.getD k 0) n)))).run Try.prog W = .ok (symmB m b) W) := fun W => by
    rw [eqGrid W (grL_length _ _) (grL_length _ _) (grL_num fun i k _ _ => smL_num m n i k) (grL_num fun i k _ hk => by
      obtain ⟨x, hx⟩ := at_lt (show k < b.length by rw [ok.len']; exact hk)
      have := num_at ok.num' hx
      show 0 ≤ b.getD k 0 ∧ b.getD k 0 < 10007
      rw [List.getD_eq_getElem?_getD, hx]; exact this), sm_same ok.le ok.len']
  obtain ⟨X1, hX1⟩ : ∃ X1, X1 = grL (smL m n) n := ⟨_, rfl⟩
  obtain ⟨X2, hX2⟩ : ∃ X2, X2 = grL (fun _ k => b.getD k 0) n := ⟨_, rfl⟩
  obtain ⟨F, hF⟩ : ∃ F, F = symmB m b := ⟨_, rfl⟩
  simp only [← hX1, ← hX2, ← hF] at CL CR L1 L2 EQ ⊢
  have q1 := F0.c1
  have n0 : (0 : Int) ≤ ((n - 1 : Nat) : Int) := Int.natCast_nonneg _
  clear ok h r FX FS hX1 hX2 hF F0 FL0
  go_enter Try.func45, Try.ntmps45
  go_wp2_with fail
  refine (CL _ (by rw [hW0]; exact Below.refl _ _)).mono ?_
  rintro e w1 ⟨rfl, b1⟩
  have B1 : Hid (Below W0.heap.size W0 w1) := by rw [Hid, hW0]; exact b1
  have hs1 := B1.out.size
  clear b1 q1
  obtain ⟨W1, hW1⟩ : ∃ W1, W1 = (w1.alloc (.cells (arrG zero64) 54)).setRow w1.heap.size (arrG X1) := ⟨_, rfl⟩
  have B2 : Hid (Below W0.heap.size W0 W1) := by rw [Hid, hW1]; exact below_setRow (B1.out.alloc hs1 _) hs1 _
  have G1 : Hid (ArrG W1 w1.heap.size X1) := by rw [Hid, hW1]; exact (ArrG.new w1 zero64).put _
  have S1 : Hid (W1.heap.size = w1.heap.size + 1) := by rw [Hid, hW1]; simp [World.setRow]
  have q0 := (HC.out W1 B2.out).box.c0
  have q1 := (HC.out W1 B2.out).box.c1
  go_wp2_with (first | (refine wpList_store_row rfl 54 (.tmp 4) (.tmp 12) rfl w1.heap.size (arrG X1) rfl rfl 54 (arrG zero64) (ArrG.new w1 zero64) (by rw [L1.out]; exact info_grd) (by rw [L1.out, Z64.out]) (arrG_cells _) ?_; change wpList _ _ _ _ _ ((w1.alloc (.cells (arrG zero64) 54)).setRow w1.heap.size (arrG X1)); rw [← hW1]; clear hW1 hW0))
  refine (CR _ B2.out).mono ?_
  rintro e w2 ⟨rfl, b2⟩
  have hs1' := S1.out
  have B3 : Hid (Below W0.heap.size W0 w2) := B2.out.trans (b2.mono B2.out.size)
  have hs3 := B3.out.size
  obtain ⟨W2, hW2⟩ : ∃ W2, W2 = (w2.alloc (.cells (arrG zero64) 54)).setRow w2.heap.size (arrG X2) := ⟨_, rfl⟩
  have B4 : Hid (Below W0.heap.size W0 W2) := by rw [Hid, hW2]; exact below_setRow (B3.out.alloc hs3 _) hs3 _
  have G2 : Hid (ArrG W2 w2.heap.size X2) := by rw [Hid, hW2]; exact (ArrG.new w2 zero64).put _
  have hz2 := b2.size
  have G1' : Hid (ArrG W2 w1.heap.size X1) := by rw [Hid, hW2]; exact ((G1.out.below b2 (by omega)).alloc _).putOther (by omega) _
  have B5 : Hid (Below w.heap.size w W2) := FB.out.trans (B4.out.mono FB.out.size)
  have he := EQ.out W2
  clear b2 q0 q1 G1 CL CR
  go_wp2_with (first
    | (refine wpList_store_row rfl 54 (.tmp 5) (.tmp 15) rfl w2.heap.size (arrG X2) rfl rfl 54 (arrG zero64) (ArrG.new w2 zero64) (by rw [L2.out]; exact info_grd) (by rw [L2.out, Z64.out]) (arrG_cells _) ?_; change wpList _ _ _ _ _ ((w2.alloc (.cells (arrG zero64) 54)).setRow w2.heap.size (arrG X2)); rw [← hW2]; clear hW2)
    | (refine wpList_load_row rfl 54 (.tmp 4) rfl w1.heap.size rfl 54 (arrG X1) (0, 0) _ G1'.out Try.underlying54 rfl (by rw [L1.out]; exact info_grd) ?_)
    | (refine wpList_load_row rfl 54 (.tmp 5) rfl w2.heap.size rfl 54 (arrG X2) (0, 0) _ G2.out Try.underlying54 rfl (by rw [L2.out]; exact info_grd) ?_))
  go_ret
  exact ⟨rfl, B5.out⟩
theorem isTabB_okS {m : List (List Int)} {b : List Int} {n : Nat} (h : isTabB m b = true) (hl : b.length = n) : TbOk n m b := by
  obtain ⟨t1, t2, t3, t4, t5, t6⟩ := isTabB_parts h
  rw [hl] at t1 t2 t3 t5
  exact ⟨t3, hl, t2, t5, t6, t4⟩
set_option maxHeartbeats 2000000 in
theorem pIsSymmetric_L (A D : Option Addr) (n c n' d B B' : Nat) (m : List (List Int)) (b : List Int) (w : World) (hl : m.length = n) (hl' : b.length = n') (hn : n ≤ 9223372036854775807) (hn' : n' ≤ 9223372036854775807) (hB : B ≤ w.heap.size) (hB' : B' ≤ w.heap.size) (h : Mat w B A m) (r : Row w B' D (ints b)) :
    Calls Try.prog 22 #[.agg #[.slice A n c, .slice D n' d]] w (ResBI (symmA m b) w) := by
  have HL := Lib.hid hl
  have HL' := Lib.hid hl'
  obtain ⟨W0, hW0⟩ : ∃ W0, W0 = w.alloc (.cells #[.slice A n c, .slice D n' d] 29) := ⟨_, rfl⟩
  have HB : Hid (Below w.heap.size w W0) := by rw [hW0]; exact (Below.refl _ _).alloc (Nat.le_refl _) _
  have HM : Hid (Mat W0 B A m) := h.below HB.out hB
  have HR : Hid (Row W0 B' D (ints b)) := r.below HB.out hB'
  have HX : Hid (Bx W0 w.heap.size 29 (.slice A n c) (.slice D n' d)) := by rw [hW0]; exact Bx.new _ _ _ _
  have hz := HB.out.size
  clear hl hl' h r
  cases ht : isTabB m b
  · have G : Hid (symmA m b = (false, 1)) := by unfold symmA; rw [Hid, ht]; rfl
    go_enter Try.func22, Try.ntmps22
    go_wp2_with fail
    rw [← hW0]
    refine (isTableau_any A D n c n' d B B' m b W0 HL.out HL'.out hn hn' (by omega) (by omega) HM.out HR.out).mono ?_
    rintro e w2 ⟨rfl, b2⟩
    rw [ht]
    have HB2 := Lib.hid (HB.out.trans (b2.mono HB.out.size))
    clear b2 hW0 ht
    go_wp2
    go_ret2
    exact ResBI.of G.out HB2.out
  · obtain ⟨t1, t2, t3, t4, t5, t6⟩ := isTabB_parts ht
    rw [HL'.out] at t1 t2 t3 t5
    have hnn : n' = n := by rw [← t3]; exact HL.out
    subst hnn
    have ok := Lib.hid (isTabB_okS ht HL'.out)
    have G : Hid (symmA m b = (symmB m b, 0)) := by unfold symmA; rw [Hid, ht]; rfl
    have HW := Lib.hid t5
    clear t3 t4 t5 t6
    go_enter Try.func22, Try.ntmps22
    go_wp2_with fail
    rw [← hW0]
    refine (isTableau_any A D n' c n' d B B' m b W0 HL.out HL'.out hn hn' (by omega) (by omega) HM.out HR.out).mono ?_
    rintro e w2 ⟨rfl, b2⟩
    rw [ht]
    have HB2 := Lib.hid (HB.out.trans (b2.mono HB.out.size))
    have HM2 := Lib.hid (HM.out.below b2 (by omega))
    have HR2 := Lib.hid (HR.out.below b2 (by omega))
    have q0 := (HX.out.next b2).c0
    have q1 := (HX.out.next b2).c1
    have hz2 := b2.size
    clear b2 hW0 ht
    go_wp2_with fail
    refine (schemeOf_any A D n' c n' d B B' n' m b w2 HL.out HL'.out t2 HW.out (by omega) (by omega) (by omega) (by omega) HM2.out HR2.out).mono ?_
    rintro e w3 ⟨A3, c3, D3, d3, rfl, hc3, hd3, m3, r3, b3⟩
    have HB3 := Lib.hid (HB2.out.trans (b3.mono HB2.out.size))
    have HM3 := Lib.hid m3
    have HR3 := Lib.hid r3
    clear b3 q0 q1 m3 r3
    go_wp2_with fail
    refine (isSymm_any A3 D3 n' c3 d3 w3.heap.size w3.heap.size m b w3 ok.out t1 (Nat.le_refl _) (Nat.le_refl _) HM3.out HR3.out).mono ?_
    rintro e w4 ⟨rfl, b4⟩
    have HB4 := Lib.hid (HB3.out.trans (b4.mono HB3.out.size))
    clear b4
    go_wp2
    go_ret2
    exact ResBI.of G.out HB4.out
end Go.Proofs.Ytnnihdkhblbdgaa
