/-
  The program's tree of a list: its text.
-/
import Derived.Test.YtnnihdkhblbdgaaTxt
import Derived.Test.YtnnihdkhblbdgaaLev
import Derived.Deep.AppendLies
namespace Go.Proofs.Ytnnihdkhblbdgaa
open Go.RowKit Fld
set_option linter.unusedVariables false
set_option linter.unusedSimpArgs false
set_option maxRecDepth 100000

theorem tw_at {x : Int} : ∀ {l : List Int} {k : Nat}, (∀ j y, j < k → l[j]? = some y → x < y) → (∀ y, l[k]? = some y → ¬ x < y) → k ≤ l.length → l.takeWhile (fun y => decide (x < y)) = l.take k ∧ l.dropWhile (fun y => decide (x < y)) = l.drop k
  | [], k, _, _, h => by simp
  | a :: l, 0, _, h, _ => by
    have := h a rfl
    simp [this]
  | a :: l, k+1, h1, h2, h3 => by
    have ha := h1 0 a (by omega) rfl
    obtain ⟨e1, e2⟩ := tw_at (l := l) (k := k) (fun j y hj hy => h1 (j + 1) y (by omega) hy) (fun y hy => h2 y hy) (by simpa using h3)
    simp [ha, e1, e2]
/-- a part of a list begins at st and ends at e -/
theorem spl_step {t : List Int} {f st e : Nat} {x : Int} (hx : t[st]? = some x) (h1 : ∀ j y, st < j → j < e → t[j]? = some y → x < y) (h2 : ∀ y, t[e]? = some y → ¬ x < y) (hst : st < e) (he : e ≤ t.length) :
    Tr.splF (f + 1) (t.drop st) = (t.drop st).take (e - st) :: Tr.splF f (t.drop e) := by
  have hlt : st < t.length := by omega
  have hd : t.drop st = x :: t.drop (st + 1) := by
    rw [List.drop_eq_getElem_cons hlt]
    rw [List.getElem?_eq_getElem hlt] at hx
    injection hx with hx
    rw [hx]
  obtain ⟨e1, e2⟩ := tw_at (x := x) (l := t.drop (st + 1)) (k := e - (st + 1)) (fun j y hj hy => h1 (st + 1 + j) y (by omega) (by omega) (by rw [List.getElem?_drop] at hy; exact hy)) (fun y hy => h2 y (by rw [List.getElem?_drop, show st + 1 + (e - (st + 1)) = e from by omega] at hy; exact hy)) (by rw [List.length_drop]; omega)
  rw [hd, Tr.splF, e1, e2, List.drop_drop, show e - st = (e - (st + 1)) + 1 from by omega, List.take_succ_cons, show st + 1 + (e - (st + 1)) = e from by omega]
theorem spl_nil (f : Nat) : Tr.splF f [] = [] := by cases f <;> rfl
theorem Row.part {w : World} {B b o : Nat} {t : List Int} (h : Row w B (some ⟨b, o, none⟩) (ints t)) (st k : Nat) : Row w B (some ⟨b, o + st, none⟩) (ints ((t.drop st).take k)) := fun j v hv => by
  have hj : ((t.drop st).take k)[j]? ≠ none := fun e => by
    unfold ints intsK at hv
    rw [List.getElem?_map, e] at hv; cases hv
  obtain ⟨x, hx⟩ := Option.ne_none_iff_exists'.1 hj
  rw [ints_at hx] at hv
  injection hv with hv
  subst hv
  rw [List.getElem?_take] at hx
  split at hx
  · rw [List.getElem?_drop] at hx
    obtain ⟨b', o', e', hb, hc⟩ := h (st + j) _ (ints_at hx)
    cases e'
    exact ⟨b, o + st, rfl, hb, by rw [Nat.add_assoc]; exact hc⟩
  · cases hx
theorem info_tree : (Try.prog.info? 73).map (fun i => (i.zero, i.size, i.bytes)) = some (some (.string ByteArray.empty), 1, 16) := by kernel_rfl
theorem spl_flat : ∀ (f : Nat) (l : List Int), l.length ≤ f → (Tr.splF f l).flatten = l
  | 0, l, h => by have : l = [] := List.eq_nil_of_length_eq_zero (by omega); subst this; rfl
  | f+1, [], _ => rfl
  | f+1, x :: xs, h => by
    have h1 : (xs.dropWhile fun y => decide (x < y)).length ≤ f := by
      have := (List.dropWhile_sublist (fun y => decide (x < y)) (l := xs)).length_le
      simp at h; omega
    rw [Tr.splF, List.flatten_cons, spl_flat f _ h1, List.cons_append, List.takeWhile_append_dropWhile]
theorem spl_mem : ∀ (f : Nat) (l : List Int) (p : List Int), p ∈ Tr.splF f l → 1 ≤ p.length
  | 0, l, p, h => by simp [Tr.splF] at h
  | f+1, [], p, h => by simp [Tr.splF] at h
  | f+1, x :: xs, p, h => by
    rw [Tr.splF, List.mem_cons] at h
    rcases h with rfl | h
    · simp
    · exact spl_mem f _ p h
theorem sum_two (L : List (List Int)) (f : List Int → List UInt8) (h : ∀ p ∈ L, (f p).length = 2 * p.length) : ((L.map f).flatten).length = 2 * L.flatten.length := by
  induction L with
  | nil => rfl
  | cons a r ih =>
    have h1 := h a (by simp)
    have h2 := ih (fun p hp => h p (by simp [hp]))
    rw [List.map_cons, List.flatten_cons, List.flatten_cons, List.length_append, List.length_append, h1, h2]; omega
theorem part_le {L : List (List Int)} {p : List Int} (h : p ∈ L) : p.length ≤ L.flatten.length := by
  induction L with
  | nil => cases h
  | cons a r ih =>
    rw [List.flatten_cons, List.length_append]
    rcases List.mem_cons.1 h with rfl | h
    · omega
    · have := ih h; omega
theorem txt_len : ∀ (d : Nat) (t : List Int), 1 ≤ t.length → t.length ≤ d → (Tr.txtF d t).length = 2 * t.length
  | 0, t, h1, h2 => by omega
  | d+1, t, h1, h2 => by
    have hf := spl_flat t.length (t.drop 1) (by rw [List.length_drop]; omega)
    have hs := sum_two (Tr.splF t.length (t.drop 1)) (Tr.txtF d) (fun p hp => by
      have a1 := spl_mem _ _ p hp
      have a2 := part_le hp
      rw [hf, List.length_drop] at a2
      exact txt_len d p a1 (by omega))
    rw [hf, List.length_drop] at hs
    rw [Tr.txtF, Tr.wrap, List.length_cons, List.length_append, flat_sorted, hs]
    simp; omega
def TreeOf (d : Nat) : Prop := ∀ (A : Option Addr) (n c B : Nat) (t : List Int) (w : World), t.length = n → 1 ≤ n → n ≤ d → n ≤ c → B ≤ w.heap.size → Row w B A (ints t) →
    Calls Try.prog 59 #[.slice A n c] w fun e w' => e = .returned (.string ⟨(Tr.txtF d t).toArray⟩) ∧ Below w.heap.size w w'
theorem treeOf_zero : TreeOf 0 := fun A n c B t w hl h1 h2 => by omega
set_option maxHeartbeats 1000000 in
theorem treeOf_succ (d : Nat) (hd : d + 1 ≤ 8) (IH : TreeOf d) : TreeOf (d + 1) := by
  obtain ⟨i0, hi, hz0, hz1, hz2⟩ := info_parts info_tree
  intro A n c B t w hl h1 hnd hnc hB h
  obtain ⟨x0, hx0⟩ := at_lt (show 0 < t.length by omega)
  obtain ⟨b, o, rfl, _, _⟩ := h 0 _ (ints_at hx0)
  have HL := Lib.hid hl
  have HN : Hid (n ≤ d + 1) := hnd
  have n8 : n ≤ 8 := by omega
  clear hl hx0 hnd
  go_enter Try.func59, Try.ntmps59
  go_wp2_with fail
  go_loopw [3, 4] (fun v s wr => ∃ (st k f : Nat) (Av : Option Addr) (cv : Nat) (done : List (List Int)), 1 ≤ st ∧ st ≤ n ∧ k + 1 ≤ st ∧ v = .slice Av k cv ∧ s = .int .i64 st ∧ Hid (n ≤ st + f) ∧ Hid (Tr.splF n (t.drop 1) = done ++ Tr.splF f (t.drop st)) ∧ wr.ownsRow w.heap.size 73 1 (.slice Av k cv) k (strs (done.map (Tr.txtF d))) ∧ Below w.heap.size w wr) (fun _ s _ => n - (intOf s).toNat)
  case atStart => exact ⟨1, 0, n, none, 0, [], Nat.le_refl _, h1, Nat.le_refl _, rfl, rfl, Nat.le_add_left _ _, rfl, World.ownsRow_nil .., Below.refl _ _⟩
  case round =>
    obtain ⟨st, k, f, Av, cv, done, s1, s2, hk, rfl, rfl, HF, HS, ho, HB⟩ := hrel
    have hsz := HB.size
    by_cases hlt : st < n
    · obtain ⟨x, hx⟩ := at_lt (show st < t.length by rw [HL.out]; exact hlt)
      obtain ⟨_, _, e1, _, hcx⟩ := h.below HB hB st _ (ints_at hx)
      cases e1
      have HX := Lib.hid hx
      have HO := Lib.hid ho
      have HBB := Lib.hid HB
      clear hx ho HB
      go_wp2_with fail
      go_loopw [5] (fun ee wr2 => ∃ e m : Nat, st < e ∧ e ≤ n ∧ ee = .int .i64 e ∧ wr2 = wr.drewN m ∧ Hid (∀ j y, st < j → j < e → t[j]? = some y → x < y)) (fun ee _ => n - (intOf ee).toNat)
      case atStart => exact ⟨st + 1, 0, by omega, by omega, by go_num, rfl, fun j y h1 h2 => by omega⟩
      case round =>
        obtain ⟨e, m, e1, e2, rfl, rfl, HE⟩ := hrel
        have hxw : ∀ m, (wr.drewN m).cell? ⟨b, o + st, none⟩ = some (.int .i64 x) := fun m => hcx
        have GO : Hid (∀ M, Calls Try.prog 59 #[.slice (some ⟨b, o + st, none⟩) (e - st) (c - st)] (wr.drewN M) fun e1 w2 => e1 = .returned (.string ⟨(Tr.txtF d ((t.drop st).take (e - st))).toArray⟩) ∧ w2.ownsRow w.heap.size 73 1 (.slice Av k cv) k (strs (done.map (Tr.txtF d))) ∧ Below w.heap.size w w2) := fun M =>
          (IH _ (e - st) (c - st) (wr.drewN M).heap.size ((t.drop st).take (e - st)) _ (by rw [List.length_take, List.length_drop, HL.out]; omega) (by omega) (by have := HN.out; omega) (by omega) (Nat.le_refl _) (((h.below HBB.out hB).more (by show B ≤ wr.heap.size; omega)).drewN M |>.part st (e - st))).mono fun e1 w2 ⟨he1, b2⟩ =>
            ⟨he1, (((OwnR.of HO.out).drewN M).below b2 (Nat.le_refl _)).1, (below_drewN HBB.out M).trans (b2.mono (by show w.heap.size ≤ wr.heap.size; omega))⟩
        have GS : Hid (e = n ∨ (∃ y, t[e]? = some y ∧ ¬ x < y) → n ≤ e + (f - 1) ∧ Tr.splF n (t.drop 1) = (done ++ [(t.drop st).take (e - st)]) ++ Tr.splF (f - 1) (t.drop e)) := fun hc => by
          have hf := HF.out
          refine ⟨by omega, ?_⟩
          have e3 := spl_step (f := f - 1) HX.out HE.out (fun y hy => by
            rcases hc with hc | ⟨z, hz, hxz⟩
            · rw [List.getElem?_eq_none (by rw [HL.out]; omega)] at hy; cases hy
            · rw [hz] at hy; injection hy with hy; rw [← hy]; exact hxz) e1 (by rw [HL.out]; exact e2)
          rw [HS.out, show f = f - 1 + 1 from by omega, e3]
          simp
        by_cases hen : e < n
        · obtain ⟨y, hy⟩ := at_lt (show e < t.length by rw [HL.out]; exact hen)
          obtain ⟨_, _, e3, _, hcy⟩ := h.below HBB.out hB e _ (ints_at hy)
          cases e3
          have hcy' : ∀ m, (wr.drewN m).cell? ⟨b, o + e, none⟩ = some (.int .i64 y) := fun m => hcy
          have hd1 : decide ((e : Int) < (n : Int)) = true := decide_eq_true (by omega)
          by_cases hxy : x < y
          · have hd2 : decide (x < y) = true := decide_eq_true hxy
            have HE2 : Hid (∀ j z, st < j → j < e + 1 → t[j]? = some z → x < z) := fun j z h1 h2 hz => by
              by_cases hje : j = e
              · subst hje; rw [hy] at hz; injection hz with hz; rw [← hz]; exact hxy
              · exact HE.out j z h1 (by omega) hz
            clear hy HE GS GO
            go_wp2_with fail
            go_quiet (fail)
            go_wp2
            go_roundw
            case rel => exact ⟨e + 1, _, by omega, by omega, by go_num, rfl, HE2⟩
            case measure => simp [intOf]; omega
          · have hd2 : decide (x < y) = false := decide_eq_false hxy
            have GS2 := Lib.hid (GS.out (.inr ⟨y, hy, hxy⟩))
            clear hy HE GS
            go_wp2_with fail
            go_quiet (fail)
            go_wp2_with fail
            refine (GO.out _).mono ?_
            rintro e1 w2 ⟨rfl, own2, b2⟩
            have hs2 := b2.size
            have HB2 := Lib.hid b2
            have HO2 := Lib.hid own2
            clear b2 GO
            go_wp2_with (at_builtin; (refine wpList_append_lies _ rfl (.tmp 29) (.tmp 35) 91 rfl w.heap.size 73 i0 _ 1 16 Try.underlying91 hi hz0 hz1 hz2 rfl (by omega) (.slice Av k cv) k (strs (done.map (Tr.txtF d))) rfl (own2.alloc _) ⟨w2.heap.size, 0, none⟩ 1 1 [.string ⟨(Tr.txtF d ((t.drop st).take (e - st))).toArray⟩] rfl rfl (World.news_of_block (cs := #[.string ⟨(Tr.txtF d ((t.drop st).take (e - st))).toArray⟩]) (heap_alloc_new _ _)) (by simp [Value.oneCell']) (by omega) (by simp only [maxLen]; omega) (by omega) (by simp; omega) (w2.heap.size + 1) (by simp) ?_); intro g2 cap2 w3 hown2 hgrow2 hat2 hlt2)
            rw [show strs (done.map (Tr.txtF d)) ++ [.string ⟨(Tr.txtF d ((t.drop st).take (e - st))).toArray⟩] = strs ((done ++ [(t.drop st).take (e - st)]).map (Tr.txtF d)) by simp [strs]] at hown2
            have G3 := Lib.hid hown2
            have GB3 : Hid (Below w.heap.size w w3) := ((HB2.out.alloc hs2 _).grown hgrow2 (by simp; omega) (fun q hq => (HO2.out.lt q hq).1))
            clear hown2 hgrow2 hat2 own2
            go_wp2
            go_roundw
            case rel => exact ⟨e, k + 1, f - 1, _, _, _, by omega, by omega, by omega, rfl, by go_num, GS2.out.1, GS2.out.2, G3.out, GB3.out⟩
            case measure => simp [intOf]; omega
        · obtain rfl : e = n := by omega
          have hd1 : decide ((e : Int) < (e : Int)) = false := decide_eq_false (by omega)
          have GS2 := Lib.hid (GS.out (.inl rfl))
          clear HE GS
          go_wp2_with fail
          go_quiet (fail)
          go_wp2_with fail
          refine (GO.out _).mono ?_
          rintro e1 w2 ⟨rfl, own2, b2⟩
          have hs2 := b2.size
          have HB2 := Lib.hid b2
          have HO2 := Lib.hid own2
          clear b2 GO
          go_wp2_with (at_builtin; (refine wpList_append_lies _ rfl (.tmp 29) (.tmp 35) 91 rfl w.heap.size 73 i0 _ 1 16 Try.underlying91 hi hz0 hz1 hz2 rfl (by omega) (.slice Av k cv) k (strs (done.map (Tr.txtF d))) rfl (own2.alloc _) ⟨w2.heap.size, 0, none⟩ 1 1 [.string ⟨(Tr.txtF d ((t.drop st).take (e - st))).toArray⟩] rfl rfl (World.news_of_block (cs := #[.string ⟨(Tr.txtF d ((t.drop st).take (e - st))).toArray⟩]) (heap_alloc_new _ _)) (by simp [Value.oneCell']) (by omega) (by simp only [maxLen]; omega) (by omega) (by simp; omega) (w2.heap.size + 1) (by simp) ?_); intro g2 cap2 w3 hown2 hgrow2 hat2 hlt2)
          rw [show strs (done.map (Tr.txtF d)) ++ [.string ⟨(Tr.txtF d ((t.drop st).take (e - st))).toArray⟩] = strs ((done ++ [(t.drop st).take (e - st)]).map (Tr.txtF d)) by simp [strs]] at hown2
          have G3 := Lib.hid hown2
          have GB3 : Hid (Below w.heap.size w w3) := ((HB2.out.alloc hs2 _).grown hgrow2 (by simp; omega) (fun q hq => (HO2.out.lt q hq).1))
          clear hown2 hgrow2 hat2 own2
          go_wp2
          go_roundw
          case rel => exact ⟨e, k + 1, f - 1, _, _, _, by omega, by omega, by omega, rfl, by go_num, GS2.out.1, GS2.out.2, G3.out, GB3.out⟩
          case measure => simp [intOf]; omega
    · obtain rfl : st = n := by omega
      rw [List.drop_of_length_le (show t.length ≤ st by rw [HL.out]; exact Nat.le_refl _), spl_nil, List.append_nil] at HS
      have hf := spl_flat st (t.drop 1) (by rw [List.length_drop, HL.out]; omega)
      have hlen : (done.map (Tr.txtF d)).flatten.length = 2 * (st - 1) := by
        have h5 := sum_two done (Tr.txtF d) (fun p hp => by
          rw [← HS.out] at hp
          have a1 := spl_mem _ _ p hp
          have a2 := part_le hp
          rw [hf, List.length_drop, HL.out] at a2
          exact txt_len d p a1 (by have := HN.out; omega))
        rw [h5, ← HS.out, hf, List.length_drop, HL.out]
      have GE : Hid (Tr.txtF (d + 1) t = Tr.wrap (Tr.sortS (done.map (Tr.txtF d)))) := by rw [Hid, Tr.txtF, HL.out, HS.out]
      have HLEN := Lib.hid hlen
      have HBB := Lib.hid HB
      clear hf HS hlen HB
      go_wp2_with fail
      refine (rootOn_any Av w.heap.size k cv _ _ (by omega) (by rw [HLEN.out]; omega) hsz ho).mono ?_
      rintro e w2 ⟨rfl, b2⟩
      have GB := Lib.hid (HBB.out.trans b2)
      clear ho b2
      go_wp2
      go_ret
      exact ⟨by rw [GE.out]; rfl, GB.out⟩
theorem treeOf_upto : ∀ d, d ≤ 8 → TreeOf d
  | 0, _ => treeOf_zero
  | d+1, h => treeOf_succ d h (treeOf_upto d (by omega))
theorem treeOf_any (A : Option Addr) (n c B : Nat) (t : List Int) (w : World) (hl : t.length = n) (h1 : 1 ≤ n) (h8 : n ≤ 8) (hc : n ≤ c) (hB : B ≤ w.heap.size) (h : Row w B A (ints t)) :
    Calls Try.prog 59 #[.slice A n c] w fun e w' => e = .returned (.string ⟨(Tr.txt t).toArray⟩) ∧ Below w.heap.size w w' := treeOf_upto 8 (Nat.le_refl _) A n c B t w hl h1 h8 hc hB h
end Go.Proofs.Ytnnihdkhblbdgaa
