/-
  Copies, comparisons, marks and sizes of lists of lists of numbers, as the laws call them.
-/
import Derived.Test.YtnnihdkhblbdgaaNest
namespace Go.Proofs.Ytnnihdkhblbdgaa
open Go.RowKit Fld
set_option linter.unusedVariables false
set_option linter.unusedSimpArgs false
set_option maxRecDepth 100000

/-- a new row is laid into a place of the outer row -/
theorem OwnMat.put_row {w : World} {lo hi hi' n k q c g cap : Nat} {A : Option Addr} {m : List (List Int)} {vs : List Value} {row : List Int} (h : OwnMat w lo hi (.slice (some ⟨g, 0, none⟩) n cap) n m vs) (hk : k < m.length) (hq : row.length = q)
    (ho : OwnR w hi hi' 2 (.slice A q c) q (ints row)) (hl : lo ≤ hi) (hh : hi ≤ hi') : OwnMat (w.setCell ⟨g, k, none⟩ (.slice A q c)) lo hi' (.slice (some ⟨g, 0, none⟩) n cap) n (m.set k row) (vs.set k (.slice A q c)) := by
  have hs := h.outer.1.stored k (.slice A q c)
  have hg2 : ∀ g', Value.ownBlock (.slice A q c) = some g' → hi ≤ g' := fun g' e => (ho.1.lt g' e).1
  refine ⟨⟨hs.1, fun g' e => by have := h.outer.2 g' e; omega⟩, by rw [List.length_set, List.length_set]; exact h.len, ?_, ?_⟩
  · intro s r hr
    by_cases hsk : k = s
    · subst hsk
      rw [List.getElem?_set_self hk] at hr
      injection hr with hr
      subst hr
      subst hq
      refine ⟨A, c, by rw [List.getElem?_set_self (by rw [h.len]; exact hk)], ?_⟩
      exact (ho.more hl (Nat.le_refl _)).grown hs.2 ((own_types ho.1 h.outer.1 (by decide)).imp id (fun e => e))
    · rw [List.getElem?_set_ne hsk] at hr
      obtain ⟨A2, c2, e2, o2⟩ := h.inner s r hr
      exact ⟨A2, c2, by rw [List.getElem?_set_ne hsk]; exact e2, (o2.more (Nat.le_refl _) hh).grown hs.2 ((own_types o2.1 h.outer.1 (by decide)).imp id (fun e => e))⟩
  · intro r s u t g' hne hu ht hb hb'
    by_cases hrk : k = r
    · subst hrk
      have hks : k ≠ s := hne
      rw [List.getElem?_set_self (by rw [h.len]; exact hk)] at hu
      rw [List.getElem?_set_ne hks] at ht
      injection hu with hu
      subst hu
      have h1 := hg2 g' hb
      have hsl : s < m.length := by
        rcases Nat.lt_or_ge s m.length with x | x
        · exact x
        · rw [List.getElem?_eq_none (by rw [h.len]; exact x)] at ht; cases ht
      obtain ⟨A2, c2, e2, o2⟩ := h.inner s _ (List.getElem?_eq_getElem hsl)
      rw [ht] at e2
      injection e2 with e2
      subst e2
      have := o2.2 g' hb'
      omega
    · rw [List.getElem?_set_ne hrk] at hu
      by_cases hsk : k = s
      · subst hsk
        rw [List.getElem?_set_self (by rw [h.len]; exact hk)] at ht
        injection ht with ht
        subst ht
        have h1 := hg2 g' hb'
        have hrl : r < m.length := by
          rcases Nat.lt_or_ge r m.length with x | x
          · exact x
          · rw [List.getElem?_eq_none (by rw [h.len]; exact x)] at hu; cases hu
        obtain ⟨A2, c2, e2, o2⟩ := h.inner r _ (List.getElem?_eq_getElem hrl)
        rw [hu] at e2
        injection e2 with e2
        subst e2
        have := o2.2 g' hb
        omega
      · rw [List.getElem?_set_ne hsk] at ht
        exact h.apart r s u t g' hne hu ht hb hb'
/-- an outer row of empty rows -/
theorem OwnMat.blank {w w1 : World} {n : Nat} (h : w1.ownsRow w.heap.size 23 1 (.slice (some ⟨w.heap.size, 0, none⟩) n n) n (madeCells (Value.slice none 0 0).cells (n * 1)).toList) (hz : w.heap.size < w1.heap.size) :
    OwnMat w1 w.heap.size w1.heap.size (.slice (some ⟨w.heap.size, 0, none⟩) n n) n (List.replicate n []) (List.replicate n (.slice none 0 0)) := by
  have e : (madeCells (Value.slice none 0 0).cells (n * 1)).toList = List.replicate n (.slice none 0 0) := by rw [Nat.mul_one]; exact toList_madeCells_one _ _
  rw [e] at h
  refine ⟨⟨h, fun g hg => by have : w.heap.size = g := (by simpa [Value.ownBlock] using hg); omega⟩, by simp, ?_, ?_⟩
  · intro r row hr
    rw [List.getElem?_replicate] at hr
    split at hr
    · rename_i hlt
      injection hr with hr
      subst hr
      exact ⟨none, 0, by rw [List.getElem?_replicate, if_pos hlt]; rfl, World.ownsRow_nil _ _ _ _, fun g hg => by simp [Value.ownBlock] at hg⟩
    · cases hr
  · intro r s u t g hne hu ht hb
    rw [List.getElem?_replicate] at hu
    split at hu
    · injection hu with hu; subst hu; simp [Value.ownBlock] at hb
    · cases hu
/-- a new list of lists -/
def NewMat (n : Nat) (m : List (List Int)) (w : World) (e : Ending) (w' : World) : Prop :=
  ∃ A c vs, e = .returned (.slice A n c) ∧ OwnMat w' w.heap.size w'.heap.size (.slice A n c) n m vs ∧ Below w.heap.size w w'
/-- the rows up to k are filled -/
def FillM (w : World) (n : Nat) (m : List (List Int)) (k : Nat) (wr : World) : Prop :=
  ∃ vs, OwnMat wr w.heap.size wr.heap.size (.slice (some ⟨w.heap.size, 0, none⟩) n n) n (m.take k ++ List.replicate (n - k) []) vs ∧ Below w.heap.size w wr ∧ w.heap.size < wr.heap.size
theorem fillM_step {m : List (List Int)} {n k : Nat} {r : List Int} (hl : m.length = n) (h : m[k]? = some r) : (m.take k ++ List.replicate (n - k) []).set k r = m.take (k + 1) ++ List.replicate (n - (k + 1)) [] := by
  have hk : k < n := by
    rcases Nat.lt_or_ge k n with g | g
    · exact g
    · rw [List.getElem?_eq_none (by omega)] at h; cases h
  have e1 : (m.take k).length = k := by simp; omega
  rw [List.set_append, if_neg (by omega), e1, Nat.sub_self, show n - k = (n - (k + 1)) + 1 from by omega, List.replicate_succ, List.set_cons_zero, List.take_add_one, h]
  simp
theorem FillM.step {w wr w2 : World} {n k c : Nat} {A : Option Addr} {m : List (List Int)} {row : List Int} (h : FillM w n m k wr) (hl : m.length = n) (hr : m[k]? = some row)
    (ho : w2.ownsRow wr.heap.size 2 1 (.slice A row.length c) row.length (ints row)) (hb : Below wr.heap.size wr w2) : FillM w n m (k + 1) (w2.setCell ⟨w.heap.size, k, none⟩ (.slice A row.length c)) := by
  obtain ⟨vs, h1, h2, h3⟩ := h
  have hk : k < n := by
    rcases Nat.lt_or_ge k n with g | g
    · exact g
    · rw [List.getElem?_eq_none (by omega)] at hr; cases hr
  have hlen : (m.take k ++ List.replicate (n - k) []).length = n := by simp; omega
  have h4 := (h1.below hb (Nat.le_refl _)).put_row (k := k) (by omega) rfl (OwnR.of ho) (by omega) hb.size
  rw [fillM_step hl hr] at h4
  have hsz : (w2.setCell ⟨w.heap.size, k, none⟩ (.slice A row.length c)).heap.size = w2.heap.size := by simp [World.setCell]
  exact ⟨_, by rw [hsz]; exact h4, below_set (h2.trans (hb.mono (by omega))) (Nat.le_refl _) _, by rw [hsz]; have := hb.size; omega⟩
theorem FillM.done {w wr : World} {n : Nat} {m : List (List Int)} (h : FillM w n m n wr) (hl : m.length = n) : NewMat n m w (.returned (.slice (some ⟨w.heap.size, 0, none⟩) n n)) wr := by
  obtain ⟨vs, h1, h2, _⟩ := h
  rw [Nat.sub_self, List.take_of_length_le (by omega)] at h1
  simp only [List.replicate_zero, List.append_nil] at h1
  exact ⟨_, _, vs, rfl, h1, h2⟩
theorem FillM.start {w w1 : World} {n : Nat} {m : List (List Int)} (h : w1.ownsRow w.heap.size 23 1 (.slice (some ⟨w.heap.size, 0, none⟩) n n) n (madeCells (Value.slice none 0 0).cells (n * 1)).toList) (hg : w.grownBy w1 none) : FillM w n m 0 w1 := by
  have hz : w.heap.size < w1.heap.size := (h.lt w.heap.size rfl).2
  refine ⟨List.replicate n (.slice none 0 0), ?_, (Below.refl _ _).grown hg (Nat.le_refl _) (fun k hk => by cases hk), hz⟩
  simp only [List.take_zero, List.nil_append, Nat.sub_zero]
  exact OwnMat.blank h hz
theorem FillM.cell {w wr w2 : World} {n k : Nat} {m : List (List Int)} (h : FillM w n m k wr) (hl : m.length = n) (hk : k < n) (hb : Below wr.heap.size wr w2) :
    (∃ u, w2.cell? ⟨w.heap.size, k, none⟩ = some u) ∧ w2.frozen? ⟨w.heap.size, k, none⟩ = false := by
  obtain ⟨vs, h1, _, h3⟩ := h
  have h2 := (h1.below hb (Nat.le_refl _)).outer.1
  refine ⟨?_, h2.frozenAt k⟩
  have e := h2.cellAt k (by omega)
  have hv : k < vs.length := by rw [own_len h2]; exact hk
  rw [List.getElem?_eq_getElem hv] at e
  exact ⟨_, e⟩

set_option maxHeartbeats 400000 in
theorem toInt64SS_any (A : Option Addr) (n c B : Nat) (m : List (List Int)) (w : World) (hl : m.length = n) (hn : n ≤ 1048576) (ht : total m ≤ 1048576) (hB : B ≤ w.heap.size) (h : Mat w B A m) :
    Calls Try.prog 39 #[.slice A n c] w (NewMat n m w) := by
  obtain ⟨i0, hi, hz0, hz1, hz2⟩ := info_parts info_row
  have HL := Lib.hid hl
  clear hl
  go_enter Try.func39, Try.ntmps39
  go_wp2_with (at_make; refine wpList_make_full _ rfl (.tmp 6) (.tmp 6) 22 rfl w.heap.size 23 i0 _ 1 Try.underlying22 hi hz0 hz1 .i64 .i64 _ _ n rfl rfl rfl rfl (by rw [hz2]; omega) (by simp only [maxLen]; omega) (Nat.le_refl _) ?_; intro w1 hown hg)
  have F0 := FillM.start (m := m) hown hg
  clear hown hg hz0 hz1 hz2 hi
  go_loopw [4] (fun i wr => ∃ k : Nat, k ≤ n ∧ i = .int .i64 k ∧ FillM w n m k wr) (fun i _ => n - (intOf i).toNat)
  case atStart => exact ⟨0, Nat.zero_le _, rfl, F0⟩
  case round =>
    obtain ⟨k, hk, rfl, HF⟩ := hrel
    by_cases hlt : k < n
    · obtain ⟨r, hr⟩ := at_lt (show k < m.length by rw [HL.out]; exact hlt)
      obtain ⟨vs, hvs, hbel, hsz⟩ := id HF
      obtain ⟨b, o, Ak, ck, rfl, _, hc, hlc, hcm, hrow⟩ := h.below hbel hB k r hr
      have hrl : r.length ≤ 1048576 := by
        have h1 := total_take hr
        have h2 := total_le m (k + 1)
        omega
      have HF' := Lib.hid HF
      have HR := Lib.hid hr
      have hBs := hbel.size
      clear hr F0 HF hvs hbel
      go_wp2_with fail
      refine (toInt64S_any Ak r.length ck B r _ rfl hrl (by omega) hrow).mono ?_
      rintro e w2 ⟨A2, c2, rfl, own2, be2⟩
      obtain ⟨⟨u, hu⟩, hf⟩ := HF'.out.cell HL.out hlt be2
      have G := Lib.hid (HF'.out.step HL.out HR.out own2 be2)
      clear own2
      go_wp2
      go_roundw
      case rel => exact ⟨k + 1, by omega, by go_num, G.out⟩
      case measure => simp [intOf]; omega
    · obtain rfl : k = n := by omega
      have G := Lib.hid (HF.done HL.out)
      clear HF F0
      go_wp2
      go_ret
      exact G.out

/-! comparisons -/
def eqM (m m' : List (List Int)) : Bool := decide (m = m')
theorem eqM_self (m : List (List Int)) : eqM m m = true := by simp [eqM]
theorem eqM_len {m m' : List (List Int)} (h : m.length ≠ m'.length) : eqM m m' = false := by
  unfold eqM; exact decide_eq_false (fun e => h (by rw [e]))
theorem eqM_at {m m' : List (List Int)} {k : Nat} {x y : List Int} (hx : m[k]? = some x) (hy : m'[k]? = some y) (h : eqL x y = false) : eqM m m' = false := by
  unfold eqM; refine decide_eq_false (fun e => ?_)
  rw [e, hy] at hx
  injection hx with hx
  rw [hx, eqL_self] at h
  cases h
theorem takeM_same {m m' : List (List Int)} {k : Nat} {x y : List Int} (h : m.take k = m'.take k) (hx : m[k]? = some x) (hy : m'[k]? = some y) (he : eqL x y = true) : m.take (k + 1) = m'.take (k + 1) := by
  have e : x = y := by simpa [eqL] using he
  rw [List.take_add_one, List.take_add_one, h, hx, hy, e]
theorem eqM_end {m m' : List (List Int)} {n : Nat} (h : m.take n = m'.take n) (hx : m.length = n) (hy : m'.length = n) : eqM m m' = true := by
  rw [List.take_of_length_le (by omega), List.take_of_length_le (by omega)] at h
  rw [h]; exact eqM_self _
theorem quiet_any {P : Program} {f : FuncId} {args : Array Value} {w : World} {a n : Nat} {v : Value} (h : Calls P f args (w.drewN (a + n)) fun e w' => e = .returned v ∧ ∃ m, w' = (w.drewN (a + n)).drewN m) : Calls P f args (w.drewN (a + n)) fun e w'' => e = .returned v ∧ ∃ m, w'' = w.drewN (a + m) :=
  h.mono fun _ _ ⟨he, m, hm⟩ => ⟨he, n + m, by rw [hm, World.drewN_drewN, Nat.add_assoc]⟩
set_option maxHeartbeats 400000 in
theorem eqInt64SS_any (A A' : Option Addr) (n n' c c' B B' : Nat) (m m' : List (List Int)) (w : World) (hl : m.length = n) (hl' : m'.length = n') (hn : n ≤ 9223372036854775807) (hn' : n' ≤ 9223372036854775807) (h : Mat w B A m) (h' : Mat w B' A' m') :
    Calls Try.prog 30 #[.slice A n c, .slice A' n' c'] w fun e w' => e = .returned (.bool (eqM m m')) ∧ ∃ j, w' = w.drewN j := by
  have HL := Lib.hid hl
  have HL' := Lib.hid hl'
  clear hl hl'
  by_cases hnn : n = n'
  · subst hnn
    go_enter Try.func30, Try.ntmps30
    go_wp2_with fail
    go_loopw [5] (fun i wr => ∃ k j : Nat, k ≤ n ∧ i = .int .i64 k ∧ wr = w.drewN j ∧ Hid (m.take k = m'.take k)) (fun i _ => n - (intOf i).toNat)
    case atStart => exact ⟨0, 0, Nat.zero_le _, rfl, rfl, rfl⟩
    case round =>
      obtain ⟨k, j, hk, rfl, rfl, HT⟩ := hrel
      by_cases hlt : k < n
      · obtain ⟨x, hx⟩ := at_lt (show k < m.length by rw [HL.out]; exact hlt)
        obtain ⟨y, hy⟩ := at_lt (show k < m'.length by rw [HL'.out]; exact hlt)
        obtain ⟨b, o, Ak, ck, rfl, _, hc, hlc, hcm, hrow⟩ := h k x hx
        obtain ⟨b', o', Ak', ck', rfl, _, hc', hlc', hcm', hrow'⟩ := h' k y hy
        unfold maxLen at hcm hcm'
        cases he : eqL x y
        · have G := Lib.hid (eqM_at hx hy he)
          clear hx hy HT
          go_wp2_with fail
          go_quiet ((go_at_call 17; first | exact Calls.quiet_of (eqInt64S_any _ _ x.length y.length _ _ _ _ x y _ rfl rfl (by omega) (by omega) hrow hrow') | exact quiet_any (eqInt64S_any _ _ x.length y.length _ _ _ _ x y _ rfl rfl (by omega) (by omega) hrow hrow')))
          go_wp2
          go_ret
          exact ⟨ret_bool G.out.symm, _, World.drewN_drewN ..⟩
        · have G := Lib.hid (takeM_same HT.out hx hy he)
          clear hx hy HT
          go_wp2_with fail
          go_quiet ((go_at_call 17; first | exact Calls.quiet_of (eqInt64S_any _ _ x.length y.length _ _ _ _ x y _ rfl rfl (by omega) (by omega) hrow hrow') | exact quiet_any (eqInt64S_any _ _ x.length y.length _ _ _ _ x y _ rfl rfl (by omega) (by omega) hrow hrow')))
          go_wp2
          go_roundw
          case rel => exact ⟨k + 1, _, by omega, by go_num, rfl, G⟩
          case measure => simp [intOf]; omega
      · obtain rfl : k = n := by omega
        have G := Lib.hid (eqM_end HT.out HL.out HL'.out)
        clear HT
        go_wp2
        go_ret
        exact ⟨ret_bool G.out.symm, _, rfl⟩
  · have G := Lib.hid (eqM_len (m := m) (m' := m') (by rw [HL.out, HL'.out]; exact hnn))
    have t := bne_t (show (n : Int) ≠ (n' : Int) by omega)
    clear hnn
    go_enter Try.func30, Try.ntmps30
    go_wp2
    go_ret
    exact ⟨ret_bool G.out.symm, 0, rfl⟩

/-! sizes -/
def szR (left : Int) (used : Nat) : Int := if (used : Int) ≤ left then left - used else -1
theorem szInt64S_any (A : Option Addr) (n c : Nat) (left : Int) (w : World) (h0 : -1 ≤ left) (h1 : left ≤ 1048576) (hn : n ≤ 9223372036854775807) : Calls Try.prog 36 #[.slice A n c, .int .i64 left] w fun e w' => e = .returned (.int .i64 (szR left n)) ∧ w = w' := by
  by_cases h : (n : Int) ≤ left
  · have H := Lib.hid (show szR left n = left - n from if_pos h)
    go_enter Try.func36, Try.ntmps36
    go_wp2
    go_ret
    exact ⟨ret_i64 H.out.symm, rfl⟩
  · have H := Lib.hid (show szR left n = -1 from if_neg h)
    go_enter Try.func36, Try.ntmps36
    go_wp2
    go_ret
    exact ⟨ret_i64 H.out.symm, rfl⟩
theorem szR_neg {left : Int} {used : Nat} (h : left < used) : szR left used = -1 := if_neg (by omega)
theorem szR_pos {left : Int} {used : Nat} (h : (used : Int) ≤ left) : szR left used = left - used := if_pos h
theorem szR_bd (left : Int) (used : Nat) (h : -1 ≤ left) : -1 ≤ szR left used := by unfold szR; split <;> omega
set_option maxHeartbeats 400000 in
theorem szInt64SS_any (A : Option Addr) (n c B : Nat) (m : List (List Int)) (left : Int) (w : World) (hl : m.length = n) (hn : n ≤ 9223372036854775807) (h : Mat w B A m) (h0 : -1 ≤ left) (h1 : left ≤ 1048576) :
    Calls Try.prog 35 #[.slice A n c, .int .i64 left] w fun e w' => e = .returned (.int .i64 (szR left (n + total m))) ∧ w = w' := by
  have HL := Lib.hid hl
  clear hl
  by_cases hlt0 : left < n
  · have H := Lib.hid (szR_neg (left := left) (used := n + total m) (by omega))
    go_enter Try.func35, Try.ntmps35
    go_wp2
    go_ret
    exact ⟨ret_i64 H.out.symm, rfl⟩
  · go_enter Try.func35, Try.ntmps35
    go_wp2_with fail
    go_loop [1, 5] (fun l i => ∃ k : Nat, k ≤ n ∧ 0 ≤ left - n - (total (m.take k) : Nat) ∧ l = .int .i64 (left - n - (total (m.take k) : Nat)) ∧ i = .int .i64 k) (fun _ i => n - (intOf i).toNat)
    case atStart => exact ⟨0, Nat.zero_le _, by simp [total]; omega, by simp [total], rfl⟩
    case round =>
      obtain ⟨k, hk, hpos, rfl, rfl⟩ := hrel
      by_cases hlt : k < n
      · obtain ⟨r, hr⟩ := at_lt (show k < m.length by rw [HL.out]; exact hlt)
        obtain ⟨b, o, Ak, ck, rfl, _, hc, hlc, hcm, hrow⟩ := h k r hr
        unfold maxLen at hcm
        have ht := total_take hr
        have hle := total_le m (k + 1)
        clear hr
        by_cases hfit : (r.length : Int) ≤ left - n - (total (m.take k) : Nat)
        · have G := Lib.hid (szR_pos hfit)
          have hs : left - n - (total (m.take k) : Nat) - r.length = left - n - (total (m.take (k + 1)) : Nat) := by omega
          have HS := Lib.hid hs
          have hp2 : 0 ≤ left - n - (total (m.take (k + 1)) : Nat) := by omega
          clear ht hs
          go_wp2_with fail
          refine (szInt64S_any Ak r.length ck _ _ (by omega) (by omega) (by omega)).mono ?_
          rintro e w' ⟨rfl, rfl⟩
          rw [G.out, HS.out]
          go_wp2
          go_round
          case rel => exact ⟨k + 1, by omega, hp2, rfl, by go_num⟩
          case measure => simp [intOf]; omega
        · have G := Lib.hid (szR_neg (left := left - n - (total (m.take k) : Nat)) (used := r.length) (by omega))
          have H := Lib.hid (szR_neg (left := left) (used := n + total m) (by omega))
          clear ht
          go_wp2_with fail
          refine (szInt64S_any Ak r.length ck _ _ (by omega) (by omega) (by omega)).mono ?_
          rintro e w' ⟨rfl, rfl⟩
          rw [G.out]
          go_wp2
          go_ret
          exact ⟨ret_i64 H.out.symm, rfl⟩
      · obtain rfl : k = n := by omega
        have e : total (m.take k) = total m := by rw [List.take_of_length_le (by rw [HL.out]; omega)]
        have H := Lib.hid (szR_pos (left := left) (used := k + total m) (by omega))
        have HE := Lib.hid e
        clear e
        go_wp2
        go_ret
        exact ⟨ret_i64 (by rw [H.out, HE.out]; omega), rfl⟩
end Go.Proofs.Ytnnihdkhblbdgaa
