/-
  Sizes, copies and comparisons of lists of parts, as the laws call them.
-/
import Derived.Test.YtjmjdcfgbaepkaaPrt
import Derived.Test.YtjmjdcfgbaepkaaNestc
import Derived.Test.YtjmjdcfgbaepkaaSlices
import Derived.Deep.RegionHeld3
namespace Go.Proofs.Ytjmjdcfgbaepkaa
open Go.RowKit Fld
set_option linter.unusedVariables false
set_option linter.unusedSimpArgs false
set_option maxRecDepth 100000

theorem heap_set_same {w : World} {g k : Nat} {cs : Array Value} {T : TypeId} (h : w.heap[g]? = some (.cells cs T (0, 0))) (u : Value) : (w.setCell ⟨g, k, none⟩ u).heap[g]? = some (.cells (cs.setIfInBounds k u) T (0, 0)) := by
  simp only [World.setCell, Array.getElem?_modify, if_pos, h, Option.map_some]
  rfl
theorem ownsRow_keepP {w w' : World} {base k n : Nat} {T : TypeId} {v : Value} {vs : List Value} (h : w.ownsRow base T k v n vs) (o : Below w.heap.size w w') : w'.ownsRow base T k v n vs := by
  refine ⟨h.1, ?_⟩
  rcases h.2 with hn | ⟨g, cap, cur, rfl, hb, hgg, rest⟩
  · exact .inl hn
  · refine .inr ⟨g, cap, cur, rfl, hb, ?_, rest⟩
    have := (Array.getElem?_eq_some_iff.1 hgg).1
    rw [o.block g this]; exact hgg
theorem szPart_any (A : Option Addr) (n c B : Nat) (x : Int) (m : List (List Int)) (left : Int) (w : World) (hl : m.length = n) (hn : n ≤ 9223372036854775807) (hB : B ≤ w.heap.size) (h : Mat w B A m) (h0 : -1 ≤ left) (h1 : left ≤ 1048576) :
    Calls Try.prog 102 #[.agg #[.int .i64 x, .slice A n c], .int .i64 left] w fun e w' => e = .returned (.int .i64 (szR left (n + total m))) ∧ Below w.heap.size w w' := by
  have HL := Lib.hid hl
  have HB : Hid (Below w.heap.size w (w.alloc (.cells #[.int .i64 x, .slice A n c] 115))) := (Below.refl _ _).alloc (Nat.le_refl _) _
  have HM : Hid (Mat (w.alloc (.cells #[.int .i64 x, .slice A n c] 115)) B A m) := h.below HB.out hB
  clear hl h
  go_enter Try.func102, Try.ntmps102
  go_wp2_with fail
  refine (szInt64SS_any A n c B m left _ HL.out hn HM.out h0 h1).mono ?_
  rintro e w' ⟨rfl, rfl⟩
  by_cases hfit : ((n + total m : Nat) : Int) ≤ left
  · have G := szR_pos hfit
    rw [G]
    have H := Lib.hid G
    have hd : decide (left - ((n + total m : Nat) : Int) < 0) = false := decide_eq_false (by omega)
    clear HM
    go_wp2
    go_ret
    exact ⟨ret_i64 (by push_cast; omega), HB.out⟩
  · have G := szR_neg (left := left) (used := n + total m) (by omega)
    rw [G]
    clear HM
    go_wp2
    go_ret
    exact ⟨ret_i64 G.symm, HB.out⟩
theorem toPart_any (A : Option Addr) (n c B : Nat) (x : Int) (m : List (List Int)) (w : World) (hl : m.length = n) (hn : n ≤ 1048576) (ht : total m ≤ 1048576) (hB : B ≤ w.heap.size) (h : Mat w B A m) :
    Calls Try.prog 104 #[.agg #[.int .i64 x, .slice A n c]] w fun e w' => ∃ A' c' vs, e = .returned (.agg #[.int .i64 x, .slice A' n c']) ∧ n ≤ c' ∧ c' ≤ maxLen ∧ OwnMat w' w.heap.size w'.heap.size (.slice A' n c') n m vs ∧ Below w.heap.size w w' := by
  have HL := Lib.hid hl
  clear hl
  go_enter Try.func104, Try.ntmps104
  have HB3 : Hid (Below w.heap.size w (((w.alloc (.cells #[.int .i64 x, .slice A n c] 115)).alloc (.cells #[.int .i64 0, .slice none 0 0] 116)).alloc (.cells #[.int .i64 x, .slice none 0 0] 116))) := (((Below.refl _ _).alloc (Nat.le_refl _) _).alloc (by simp) _).alloc (by simp; omega) _
  have HM : Hid (Mat (((w.alloc (.cells #[.int .i64 x, .slice A n c] 115)).alloc (.cells #[.int .i64 0, .slice none 0 0] 116)).alloc (.cells #[.int .i64 x, .slice none 0 0] 116)) B A m) := h.below HB3.out hB
  clear h
  go_wp2_with fail
  refine (toInt64SS_any A n c B m _ HL.out hn ht (by simp; omega) HM.out).mono ?_
  rintro e w4 ⟨A4, c4, vs4, rfl, own4, b4⟩
  have hs3 : (((w.alloc (.cells #[.int .i64 x, .slice A n c] 115)).alloc (.cells #[.int .i64 0, .slice none 0 0] 116)).alloc (.cells #[.int .i64 x, .slice none 0 0] 116)).heap.size = w.heap.size + 3 := by simp
  have hz4 := b4.size
  have h2 : w4.heap[w.heap.size + 1 + 1]? = some (.cells #[.int .i64 x, .slice none 0 0] 116 (0, 0)) := by
    rw [b4.block _ (by simp)]
    have := heap_alloc_new ((w.alloc (.cells #[.int .i64 x, .slice A n c] 115)).alloc (.cells #[.int .i64 0, .slice none 0 0] 116)) (.cells #[.int .i64 x, .slice none 0 0] 116)
    simpa using this
  have h1 : w4.heap[w.heap.size + 1]? = some (.cells #[.int .i64 0, .slice none 0 0] 116 (0, 0)) := by
    rw [b4.block _ (by simp), Below.heap_alloc _ _ _ (by simp)]
    have := heap_alloc_new (w.alloc (.cells #[.int .i64 x, .slice A n c] 115)) (.cells #[.int .i64 0, .slice none 0 0] 116)
    simpa using this
  have k0 : w4.cell? ⟨w.heap.size + 1 + 1, 0, none⟩ = some (.int .i64 x) := by rw [cell_of_row w4 _ 0 _ _ _ h2]; rfl
  have k1 : w4.cell? ⟨w.heap.size + 1 + 1, 1, none⟩ = some (.slice none 0 0) := by rw [cell_of_row w4 _ 1 _ _ _ h2]; rfl
  have kf : w4.frozen? ⟨w.heap.size + 1 + 1, 1, none⟩ = false := frozen_of_row w4 _ 1 _ _ h2
  have j0 : w4.cell? ⟨w.heap.size + 1, 0, none⟩ = some (.int .i64 0) := by rw [cell_of_row w4 _ 0 _ _ _ h1]; rfl
  have j1 : w4.cell? ⟨w.heap.size + 1, 1, none⟩ = some (.slice none 0 0) := by rw [cell_of_row w4 _ 1 _ _ _ h1]; rfl
  have jf0 : w4.frozen? ⟨w.heap.size + 1, 0, none⟩ = false := frozen_of_row w4 _ 0 _ _ h1
  have jf1 : w4.frozen? ⟨w.heap.size + 1, 1, none⟩ = false := frozen_of_row w4 _ 1 _ _ h1
  have hM4 := Lib.hid own4.mat
  have hO4 := Lib.hid own4
  have hB4 := Lib.hid b4
  have H1 := Lib.hid h1
  clear own4 b4 h1 h2 HM
  go_wp2_with fail
  obtain ⟨W5, hW5⟩ : ∃ W5, W5 = (((w4.setCell ⟨w.heap.size + 1 + 1, 1, none⟩ (.slice A4 n c4)).setCell ⟨w.heap.size + 1, 0, none⟩ (.int .i64 x)).setCell ⟨w.heap.size + 1, 1, none⟩ (.slice A4 n c4)) := ⟨_, rfl⟩
  have hB5 : Hid (Below w.heap.size w W5) := by
    rw [hW5]
    have h0 : Below w.heap.size w w4 := HB3.out.trans (hB4.out.mono HB3.out.size)
    exact ((h0.setCell (p := ⟨w.heap.size + 1 + 1, 1, none⟩) (by show w.heap.size ≤ w.heap.size + 1 + 1; omega) _).setCell (p := ⟨w.heap.size + 1, 0, none⟩) (by show w.heap.size ≤ w.heap.size + 1; omega) _).setCell (p := ⟨w.heap.size + 1, 1, none⟩) (by show w.heap.size ≤ w.heap.size + 1; omega) _
  have hO5 : Hid (OwnMat W5 (w.heap.size + 3) w4.heap.size (.slice A4 n c4) n m vs4) := by
    rw [hW5]
    refine OwnMat.keep ((show OwnMat w4 (w.heap.size + 3) w4.heap.size (.slice A4 n c4) n m vs4 from by rw [← hs3]; exact hO4.out)) (fun g h1 h2 => ?_)
    rw [Below.heap_setCell _ _ _ _ (by show g ≠ w.heap.size + 1; omega), Below.heap_setCell _ _ _ _ (by show g ≠ w.heap.size + 1; omega), Below.heap_setCell _ _ _ _ (by show g ≠ w.heap.size + 1 + 1; omega)]
  have hg5 : W5.heap[w.heap.size + 1]? = some (.cells #[.int .i64 x, .slice A4 n c4] 116 (0, 0)) := by
    rw [hW5]
    have q0 : (w4.setCell ⟨w.heap.size + 1 + 1, 1, none⟩ (.slice A4 n c4)).heap[w.heap.size + 1]? = some (.cells #[.int .i64 0, .slice none 0 0] 116 (0, 0)) := by
      rw [Below.heap_setCell _ _ _ _ (by show w.heap.size + 1 ≠ w.heap.size + 1 + 1; omega)]; exact H1.out
    exact heap_set_same (heap_set_same q0 _) _
  have hs5 : W5.heap.size = w4.heap.size := by rw [hW5]; simp [World.setCell]
  rw [← hW5]
  clear hW5
  have hM5 : OwnMat W5 w.heap.size W5.heap.size (.slice A4 n c4) n m vs4 := by rw [hs5]; exact hO5.out.more (by omega) (Nat.le_refl _)
  have hcap : n ≤ c4 ∧ c4 ≤ maxLen := by
    rcases hO5.out.1.1.2 with ⟨e1, e2⟩ | ⟨g, cap, cur, e1, _, _, e2, e3, _⟩
    · injection e1 with _ _ e3; subst e3; exact ⟨by omega, by simp only [maxLen]; omega⟩
    · injection e1 with _ _ e4; subst e4; exact ⟨e2, e3⟩
  refine bodyPost_ret (v := .agg #[.int .i64 x, .slice A4 n c4]) ?_ rfl ⟨A4, c4, vs4, rfl, hcap.1, hcap.2, hM5, hB5.out⟩
  exact results_cell_row rfl _ _ (w.heap.size + 1) 116 _ (0, 0) _ rfl hg5 Try.underlying116 rfl (by kernel_rfl)
set_option maxHeartbeats 800000 in
theorem szPartS_any (A : Option Addr) (n c B : Nat) (ps : List (Int × List (List Int))) (left : Int) (w : World) (hl : ps.length = n) (hn : n ≤ 9223372036854775807) (hB : B ≤ w.heap.size) (h : Prts w B A ps) (h0 : -1 ≤ left) (h1 : left ≤ 1048576) :
    Calls Try.prog 51 #[.slice A n c, .int .i64 left] w fun e w' => e = .returned (.int .i64 (szR left (szP ps))) ∧ Below w.heap.size w w' := by
  have HL := Lib.hid hl
  have hsz0 := szTo_le ps 0
  have e0 : szTo ps 0 = 0 := rfl
  rw [hl] at hsz0
  clear hl
  by_cases hlt0 : left < n
  · have H := Lib.hid (szR_neg (left := left) (used := szP ps) (by omega))
    clear e0 hsz0
    go_enter Try.func51, Try.ntmps51
    go_wp2
    go_ret
    exact ⟨ret_i64 H.out.symm, Below.refl _ _⟩
  · have E0 := Lib.hid e0
    clear e0 hsz0
    go_enter Try.func51, Try.ntmps51
    go_wp2_with fail
    go_loopw [1, 5] (fun l i wr => ∃ k : Nat, k ≤ n ∧ 0 ≤ left - n - (szTo ps k : Nat) ∧ l = .int .i64 (left - n - (szTo ps k : Nat)) ∧ i = .int .i64 k ∧ Hid (Below w.heap.size w wr)) (fun _ i _ => n - (intOf i).toNat)
    case atStart => exact ⟨0, Nat.zero_le _, by rw [E0.out]; omega, by rw [E0.out]; simp, rfl, Below.refl _ _⟩
    case round =>
      obtain ⟨k, hk, hpos, rfl, rfl, HB⟩ := hrel
      by_cases hlt : k < n
      · obtain ⟨⟨x, f⟩, hx⟩ := at_lt (show k < ps.length by rw [HL.out]; exact hlt)
        obtain ⟨b, o, Ak, ck, rfl, hb, hc0, hc1, hlc, hcm, hM⟩ := (h.below HB.out hB) k x f hx
        unfold maxLen at hcm
        have ht := szTo_step hx
        have hle := szTo_le ps (k + 1)
        rw [HL.out] at hle
        have hwr := HB.out.size
        have htot : tot f = f.length + total f := rfl
        have HM := Lib.hid hM
        clear hx hM
        by_cases hfit : ((f.length + total f : Nat) : Int) ≤ left - n - (szTo ps k : Nat)
        · have G := Lib.hid (szR_pos hfit)
          have hs : left - n - (szTo ps k : Nat) - ((f.length + total f : Nat) : Int) = left - n - (szTo ps (k + 1) : Nat) := by rw [ht, htot]; push_cast; omega
          have hp2 : 0 ≤ left - n - (szTo ps (k + 1) : Nat) := by rw [← hs]; omega
          have HS := Lib.hid hs
          clear ht hs htot hle
          go_wp2_with fail
          refine (szPart_any Ak f.length ck B x f _ _ rfl (by omega) (by omega) HM.out (by omega) (by omega)).mono ?_
          rintro e w' ⟨rfl, y⟩
          rw [G.out, HS.out]
          replace HB := Lib.hid (HB.out.trans (y.mono hwr))
          clear y HM hc0 hc1
          go_wp2
          go_roundw
          case rel => exact ⟨k + 1, by omega, hp2, rfl, by go_num, HB⟩
          case measure => simp [intOf]; omega
        · have G := Lib.hid (szR_neg (left := left - n - (szTo ps k : Nat)) (used := f.length + total f) (by omega))
          have H := Lib.hid (szR_neg (left := left) (used := szP ps) (by rw [ht, htot] at hle; omega))
          clear ht htot hle
          go_wp2_with fail
          refine (szPart_any Ak f.length ck B x f _ _ rfl (by omega) (by omega) HM.out (by omega) (by omega)).mono ?_
          rintro e w' ⟨rfl, y⟩
          rw [G.out]
          replace HB := Lib.hid (HB.out.trans (y.mono hwr))
          clear y HM hc0 hc1
          go_wp2
          go_ret
          exact ⟨ret_i64 H.out.symm, HB.out⟩
      · obtain rfl : k = n := by omega
        have e := szTo_all ps (k := k) (by rw [HL.out]; exact Nat.le_refl _)
        rw [HL.out] at e
        have H := Lib.hid (szR_pos (left := left) (used := szP ps) (by rw [← e]; push_cast; omega))
        have HE := Lib.hid e
        clear e
        go_wp2
        go_ret
        exact ⟨ret_i64 (by rw [H.out, ← HE.out]; push_cast; omega), HB.out⟩
set_option maxHeartbeats 1000000 in
theorem eqPart_same (A A' : Option Addr) (n c c' hi hi' : Nat) (x : Int) (m : List (List Int)) (w : World) (hl : m.length = n) (hn : n ≤ 1048576) (hh : hi ≤ w.heap.size) (hh' : hi' ≤ w.heap.size) (h : Mat w hi A m) (h' : Mat w hi' A' m) :
    Calls Try.prog 108 #[.agg #[.int .i64 x, .slice A n c], .agg #[.int .i64 x, .slice A' n c']] w fun e w' => e = .returned (.bool true) ∧ Below w.heap.size w w' := by
  have HL := Lib.hid hl
  have HR : Hid (∀ W, Below w.heap.size w W → Mat W hi A m) := fun W hb => h.below hb hh
  have HR' : Hid (∀ W, Below w.heap.size w W → Mat W hi' A' m) := fun W hb => h'.below hb hh'
  clear hl h h' hh hh'
  go_enter Try.func108, Try.ntmps108
  go_wp2_with fail
  have HB : Hid (Below w.heap.size w ((w.alloc (.cells #[.int .i64 x, .slice A n c] 116)).alloc (.cells #[.int .i64 x, .slice A' n c'] 116))) := ((Below.refl _ _).alloc (Nat.le_refl _) _).alloc (by simp) _
  refine (eqInt64SS_any A A' n n c c' hi hi' m m _ HL.out HL.out (by omega) (by omega) (HR.out _ HB.out) (HR'.out _ HB.out)).mono ?_
  rintro e w2 ⟨rfl, k, rfl⟩
  rw [eqM_self]
  have GB : Hid (Below w.heap.size w (((w.alloc (.cells #[.int .i64 x, .slice A n c] 116)).alloc (.cells #[.int .i64 x, .slice A' n c'] 116)).drewN k)) := below_drewN HB.out k
  go_wp2
  go_ret
  exact ⟨rfl, GB.out⟩
set_option maxHeartbeats 2000000 in
theorem eqPartS_same (A A' : Option Addr) (n c c' hi hi' : Nat) (ps : List (Int × List (List Int))) (w : World) (hl : ps.length = n) (hn : n ≤ 1048576) (ht : szP ps ≤ 1048576) (hh : hi ≤ w.heap.size) (hh' : hi' ≤ w.heap.size) (h : Prts w hi A ps) (h' : Prts w hi' A' ps) :
    Calls Try.prog 55 #[.slice A n c, .slice A' n c'] w fun e w' => e = .returned (.bool true) ∧ Below w.heap.size w w' := by
  have HL := Lib.hid hl
  clear hl
  go_enter Try.func55, Try.ntmps55
  go_wp2_with fail
  go_loopw [5] (fun i wr => ∃ k : Nat, k ≤ n ∧ i = .int .i64 k ∧ Below w.heap.size w wr) (fun i _ => n - (intOf i).toNat)
  case atStart => exact ⟨0, Nat.zero_le _, rfl, Below.refl _ _⟩
  case round =>
    obtain ⟨k, hk, rfl, HB⟩ := hrel
    have hsz := HB.size
    by_cases hlt : k < n
    · obtain ⟨⟨x, f⟩, hx⟩ := at_lt (show k < ps.length by rw [HL.out]; exact hlt)
      have hle1 := szTo_step hx
      have hle2 := szTo_le ps (k + 1)
      have htot : tot f = f.length + total f := rfl
      obtain ⟨b, o, Ak, ck, rfl, hb, hc0, hc1, _, _, hrow⟩ := (h.below HB hh) k x f hx
      obtain ⟨b', o', Ak', ck', rfl, hb', hc0', hc1', _, _, hrow'⟩ := (h'.below HB hh') k x f hx
      have C0 := fun W (hb : Below wr.heap.size wr W) => eqPart_same Ak Ak' f.length ck ck' hi hi' x f W rfl (by omega) (by have := hb.size; omega) (by have := hb.size; omega) (hrow.below hb (by omega)) (hrow'.below hb (by omega))
      have KK : Hid (∀ W, Below wr.heap.size wr W → (W.cell? ⟨b, o + k * 2, none⟩ = some (.int .i64 x) ∧ W.cell? ⟨b, o + k * 2 + 1, none⟩ = some (.slice Ak f.length ck) ∧ W.cell? ⟨b', o' + k * 2, none⟩ = some (.int .i64 x) ∧ W.cell? ⟨b', o' + k * 2 + 1, none⟩ = some (.slice Ak' f.length ck'))) := fun W hW =>
        ⟨(hW.cell (p := ⟨b, o + k * 2, none⟩) (show b < _ by omega)).trans hc0, (hW.cell (p := ⟨b, o + k * 2 + 1, none⟩) (show b < _ by omega)).trans hc1, (hW.cell (p := ⟨b', o' + k * 2, none⟩) (show b' < _ by omega)).trans hc0', (hW.cell (p := ⟨b', o' + k * 2 + 1, none⟩) (show b' < _ by omega)).trans hc1'⟩
      have HBW := Lib.hid HB
      clear hx HB hrow hrow' hle1 hle2 htot
      go_wp2_with fail
      go_region_held3 (fun w' => w'.cell? ⟨b, o + k * 2, none⟩ = some (.int .i64 x) ∧ w'.cell? ⟨b, o + k * 2 + 1, none⟩ = some (.slice Ak f.length ck) ∧ w'.cell? ⟨b', o' + k * 2, none⟩ = some (.int .i64 x) ∧ w'.cell? ⟨b', o' + k * 2 + 1, none⟩ = some (.slice Ak' f.length ck')) (first | go_keep | exact KK.out _ ⟨bel2.os, bel2.tape, bel2.output, bel2.size, bel2.block⟩)
        (first
          | (go_at_call 108; refine (C0 _ (by first | exact Below.refl _ _ | exact below_drewN (Below.refl _ _) _)).mono ?_; rintro e w2 ⟨rfl, bel2⟩))
      have GB := Lib.hid (HBW.out.trans ((show Below wr.heap.size wr w2 from ⟨bel2.os, bel2.tape, bel2.output, bel2.size, bel2.block⟩).mono hsz))
      clear bel2 KK C0 hc0 hc1 hc0' hc1'
      go_wp2
      go_roundw
      case rel => exact ⟨k + 1, by omega, by go_num, GB.out⟩
      case measure => simp [intOf]; omega
    · obtain rfl : k = n := by omega
      have HBW := Lib.hid HB
      clear HB
      go_wp2
      go_ret
      exact ⟨rfl, HBW.out⟩
theorem info_prt : (Try.prog.info? 116).map (fun i => (i.zero, i.size, i.bytes)) = some (some (.agg #[.int .i64 0, .slice none 0 0]), 2, 32) := by kernel_rfl
/-- the parts up to k are filled -/
def FillP (w : World) (n : Nat) (ps : List (Int × List (List Int))) (k : Nat) (wr : World) : Prop :=
  ∃ vs, wr.ownsRow w.heap.size 116 2 (.slice (some ⟨w.heap.size, 0, none⟩) n n) n vs ∧ Below w.heap.size w wr ∧ w.heap.size + 1 ≤ wr.heap.size ∧
    ∀ j x f, j < k → ps[j]? = some (x, f) → ∃ Aj cj us, vs[j * 2]? = some (.int .i64 x) ∧ vs[j * 2 + 1]? = some (.slice Aj f.length cj) ∧ f.length ≤ cj ∧ cj ≤ maxLen ∧ OwnMat wr (w.heap.size + 1) wr.heap.size (.slice Aj f.length cj) f.length f us
theorem FillP.start {w w1 : World} {n : Nat} {ps : List (Int × List (List Int))} {vs : List Value} (h : w1.ownsRow w.heap.size 116 2 (.slice (some ⟨w.heap.size, 0, none⟩) n n) n vs) (hg : w.grownBy w1 none) : FillP w n ps 0 w1 :=
  ⟨vs, h, (Below.refl _ _).grown hg (Nat.le_refl _) (fun k hk => by cases hk), (h.lt w.heap.size rfl).2, fun j x f hj => by omega⟩
theorem FillP.cell {w wr w2 : World} {n k : Nat} {ps : List (Int × List (List Int))} (h : FillP w n ps k wr) (hk : k < n) (hb : Below wr.heap.size wr w2) :
    (∃ u, w2.cell? ⟨w.heap.size, k * 2, none⟩ = some u) ∧ (∃ u, w2.cell? ⟨w.heap.size, k * 2 + 1, none⟩ = some u) ∧ w2.frozen? ⟨w.heap.size, k * 2, none⟩ = false ∧ w2.frozen? ⟨w.heap.size, k * 2 + 1, none⟩ = false := by
  obtain ⟨vs, h1, _, h3, _⟩ := h
  have h2 : w2.ownsRow w.heap.size 116 2 (.slice (some ⟨w.heap.size, 0, none⟩) n n) n vs := ownsRow_keepP h1 hb
  have hv := h2.1
  refine ⟨?_, ?_, h2.frozenAt _, h2.frozenAt _⟩
  · have e := h2.cellAt (k * 2) (by omega)
    rw [List.getElem?_eq_getElem (by omega)] at e
    exact ⟨_, e⟩
  · have e := h2.cellAt (k * 2 + 1) (by omega)
    rw [List.getElem?_eq_getElem (by omega)] at e
    exact ⟨_, e⟩
theorem FillP.step {w wr w2 : World} {n k c : Nat} {A : Option Addr} {ps : List (Int × List (List Int))} {x : Int} {f : List (List Int)} {us : List Value} (h : FillP w n ps k wr) (hk : k < n) (hr : ps[k]? = some (x, f)) (hc : f.length ≤ c) (hm : c ≤ maxLen)
    (ho : OwnMat w2 wr.heap.size w2.heap.size (.slice A f.length c) f.length f us) (hb : Below wr.heap.size wr w2) : FillP w n ps (k + 1) ((w2.setCell ⟨w.heap.size, k * 2, none⟩ (.int .i64 x)).setCell ⟨w.heap.size, k * 2 + 1, none⟩ (.slice A f.length c)) := by
  obtain ⟨vs, h1, h2, h3, h4⟩ := h
  have q1 : w2.ownsRow w.heap.size 116 2 (.slice (some ⟨w.heap.size, 0, none⟩) n n) n vs := ownsRow_keepP h1 hb
  have q2 := (q1.stored (k * 2) (.int .i64 x)).1
  have q3 := (q2.stored (k * 2 + 1) (.slice A f.length c)).1
  have hv := h1.1
  obtain ⟨W, hW⟩ : ∃ W, W = ((w2.setCell ⟨w.heap.size, k * 2, none⟩ (.int .i64 x)).setCell ⟨w.heap.size, k * 2 + 1, none⟩ (.slice A f.length c)) := ⟨_, rfl⟩
  have hsz : W.heap.size = w2.heap.size := by rw [hW]; simp [World.setCell]
  have hkeep : ∀ g, w.heap.size + 1 ≤ g → W.heap[g]? = w2.heap[g]? := fun g hg => by
    rw [hW, Below.heap_setCell _ _ _ _ (by show g ≠ w.heap.size; omega), Below.heap_setCell _ _ _ _ (by show g ≠ w.heap.size; omega)]
  have hz := hb.size
  have hB : Below w.heap.size w W := by
    rw [hW]
    exact ((h2.trans (hb.mono (by omega))).setCell (p := ⟨w.heap.size, k * 2, none⟩) (Nat.le_refl _) _).setCell (p := ⟨w.heap.size, k * 2 + 1, none⟩) (Nat.le_refl _) _
  rw [← hW] at q3 ⊢
  refine ⟨_, q3, hB, by omega, fun j y g hj hjr => ?_⟩
  by_cases e : j = k
  · subst e
    rw [hr] at hjr
    injection hjr with hjr
    injection hjr with e1 e2
    subst e1 e2
    refine ⟨A, c, us, ?_, ?_, hc, hm, ?_⟩
    · rw [List.getElem?_set_ne (by omega), List.getElem?_set_self (by omega)]
    · rw [List.getElem?_set_self (by rw [List.length_set]; omega)]
    · rw [hsz]; exact (ho.more (by omega) (Nat.le_refl _)).keep (fun b b1 b2 => hkeep b b1)
  · obtain ⟨Aj, cj, uj, p1, p2, p3, p4, p5⟩ := h4 j y g (by omega) hjr
    refine ⟨Aj, cj, uj, ?_, ?_, p3, p4, ?_⟩
    · rw [List.getElem?_set_ne (by omega), List.getElem?_set_ne (by omega)]; exact p1
    · rw [List.getElem?_set_ne (by omega), List.getElem?_set_ne (by omega)]; exact p2
    · rw [hsz]
      exact ((p5.below hb (Nat.le_refl _)).more (Nat.le_refl _) hz).keep (fun b b1 b2 => hkeep b b1)
theorem FillP.done {w wr : World} {n : Nat} {ps : List (Int × List (List Int))} (h : FillP w n ps n wr) (hl : ps.length = n) : Prts wr wr.heap.size (some ⟨w.heap.size, 0, none⟩) ps ∧ Below w.heap.size w wr := by
  obtain ⟨vs, h1, h2, h3, h4⟩ := h
  refine ⟨fun k x f hk => ?_, h2⟩
  have hkn : k < n := by
    rcases Nat.lt_or_ge k n with g | g
    · exact g
    · rw [List.getElem?_eq_none (by omega)] at hk; cases hk
  obtain ⟨Aj, cj, uj, p1, p2, p3, p4, p5⟩ := h4 k x f hkn hk
  exact ⟨w.heap.size, 0, Aj, cj, rfl, by omega, by rw [Nat.zero_add, h1.cellAt _ (by omega)]; exact p1, by rw [Nat.zero_add, h1.cellAt _ (by omega)]; exact p2, p3, p4, p5.mat⟩
set_option maxHeartbeats 1000000 in
theorem toPartS_any (A : Option Addr) (n c B : Nat) (ps : List (Int × List (List Int))) (w : World) (hl : ps.length = n) (hn : n ≤ 1048576) (ht : szP ps ≤ 1048576) (hB : B ≤ w.heap.size) (h : Prts w B A ps) :
    Calls Try.prog 53 #[.slice A n c] w fun e w' => ∃ A', e = .returned (.slice A' n n) ∧ Prts w' w'.heap.size A' ps ∧ Below w.heap.size w w' := by
  obtain ⟨i0, hi, hz0, hz1, hz2⟩ := info_parts info_prt
  have HL := Lib.hid hl
  clear hl
  go_enter Try.func53, Try.ntmps53
  go_wp2_with (at_make; refine wpList_make_full _ rfl (.tmp 6) (.tmp 6) 67 rfl w.heap.size 116 i0 _ 2 Try.underlying67 hi hz0 hz1 .i64 .i64 _ _ n rfl rfl rfl rfl (by rw [hz2]; omega) (by simp only [maxLen]; omega) (Nat.le_refl _) ?_; intro w1 hown hg)
  have F0 := FillP.start (ps := ps) hown hg
  clear hown hg hz0 hz1 hz2 hi
  go_loopw [4] (fun i wr => ∃ k : Nat, k ≤ n ∧ i = .int .i64 k ∧ FillP w n ps k wr) (fun i _ => n - (intOf i).toNat)
  case atStart => exact ⟨0, Nat.zero_le _, rfl, F0⟩
  case round =>
    obtain ⟨k, hk, rfl, HF⟩ := hrel
    by_cases hlt : k < n
    · obtain ⟨⟨x, f⟩, hr⟩ := at_lt (show k < ps.length by rw [HL.out]; exact hlt)
      obtain ⟨vs, hvs, hbel, hsz, _⟩ := id HF
      obtain ⟨b, o, Ak, ck, rfl, hb, hc0, hc1, hlc, hcm, hM⟩ := (h.below hbel hB) k x f hr
      have hle1 := szTo_step hr
      have hle2 := szTo_le ps (k + 1)
      have htot : tot f = f.length + total f := rfl
      have HF' := Lib.hid HF
      have HR := Lib.hid hr
      have HM := Lib.hid hM
      have hBs := hbel.size
      clear hr F0 HF hvs hbel hM
      go_wp2_with fail
      refine (toPart_any Ak f.length ck B x f _ rfl (by omega) (by omega) (by omega) HM.out).mono ?_
      rintro e w2 ⟨A2, c2, us, rfl, hc, hm, own2, be2⟩
      obtain ⟨⟨u, hu⟩, ⟨u', hu'⟩, hf, hf'⟩ := HF'.out.cell hlt be2
      have G := Lib.hid (HF'.out.step hlt HR.out hc hm own2 be2)
      clear own2 hle1 hle2 htot hc hm
      go_wp2
      go_roundw
      case rel => exact ⟨k + 1, by omega, by go_num, G.out⟩
      case measure => simp [intOf]; omega
    · obtain rfl : k = n := by omega
      have G := Lib.hid (HF.done HL.out)
      clear HF F0
      go_wp2
      go_ret
      exact ⟨_, rfl, G.out.1, G.out.2⟩
end Go.Proofs.Ytjmjdcfgbaepkaa
