/-
  The model's grafting on lists.
-/
import Derived.Test.YtfehjjaebdgjlaaGrfP
import Derived.Test.YtfehjjaebdgjlaaSCan
import Derived.Test.YtfehjjaebdgjlaaParts
import Derived.Deep.RegionLaw
import Derived.Test.YtfehjjaebdgjlaaOwn1
namespace Go.Proofs.Ytfehjjaebdgjlaa
open Go.RowKit Fld
set_option linter.unusedVariables false
set_option linter.unusedSimpArgs false
set_option maxRecDepth 100000

theorem tw_step (p : Int → Bool) : ∀ (s : List Int) (j : Nat), j ≤ (s.takeWhile p).length → (j < (s.takeWhile p).length ↔ ∃ x, s[j]? = some x ∧ p x = true)
  | [], j, h => by simp
  | a :: s, j, h => by
    rw [List.takeWhile_cons] at h ⊢
    by_cases hp : p a = true
    · rw [if_pos hp] at h ⊢
      cases j with
      | zero => simp [hp]
      | succ j =>
        have ih := tw_step p s j (by simpa using h)
        simpa using ih
    · rw [if_neg hp] at h ⊢
      have h0 : j = 0 := by simpa using h
      subst h0
      simp [hp]
theorem end_step {t : List Int} {k q : Nat} (h1 : k + 1 ≤ q) (hq : q ≤ Tr.endL t k) : q < Tr.endL t k ↔ ∃ x, t[q]? = some x ∧ t.getD k 0 < x := by
  unfold Tr.endL at *
  have h2 := tw_step (fun y => decide (t.getD k 0 < y)) (t.drop (k + 1)) (q - (k + 1)) (by omega)
  rw [List.getElem?_drop, show k + 1 + (q - (k + 1)) = q from by omega] at h2
  simp only [decide_eq_true_eq] at h2
  rw [← h2]; omega
theorem l04End_any (A : Option Addr) (n c B k : Nat) (t : List Int) (w : World) (hl : t.length = n) (hn : n ≤ 1048576) (hk : k < n) (h : Row w B A (ints t)) :
    Calls Try.prog 82 #[.slice A n c, .int .i64 k] w fun e w' => e = .returned (.int .i64 ((Tr.endL t k : Nat) : Int)) ∧ ∃ m, w' = w.drewN m := by
  have HL := Lib.hid hl
  obtain ⟨y, hy⟩ := at_lt (show k < t.length by omega)
  have HY : Hid (t.getD k 0 = y) := by rw [Hid, List.getD_eq_getElem?_getD, hy]; rfl
  obtain ⟨b, o, rfl, hbB, hcy⟩ := h k _ (ints_at hy)
  have hE := Tr.endL_le (t := t) (k := k) (by omega)
  rw [hl] at hE
  obtain ⟨en, hen⟩ : ∃ en, en = Tr.endL t k := ⟨_, rfl⟩
  have HEN := Lib.hid hen
  rw [← hen] at hE ⊢
  clear hl hy hen
  go_enter Try.func82, Try.ntmps82
  go_wp2_with fail
  go_loopw [5] (fun e wr => ∃ (q m : Nat), k + 1 ≤ q ∧ q ≤ en ∧ e = .int .i64 q ∧ wr = w.drewN m) (fun e _ => en - (intOf e).toNat)
  case atStart => exact ⟨k + 1, 0, Nat.le_refl _, hE.1, by go_num, rfl⟩
  case round =>
    obtain ⟨q, m, h1, hq, rfl, rfl⟩ := hrel
    have HS := Lib.hid (end_step (t := t) h1 (by rw [← HEN.out]; exact hq))
    have hk0 : (0 : Int) ≤ (k : Int) := Int.natCast_nonneg _
    have hq0 : (0 : Int) ≤ (q : Int) := Int.natCast_nonneg _
    have hkn : (k : Int) < (n : Int) := by omega
    by_cases hqn : q < n
    · obtain ⟨x, hx⟩ := at_lt (show q < t.length by rw [HL.out]; exact hqn)
      obtain ⟨_, _, e1, _, hcx⟩ := h q _ (ints_at hx)
      cases e1
      have hqi : (q : Int) < (n : Int) := by omega
      have hd : decide ((q : Int) < (n : Int)) = true := decide_eq_true hqi
      by_cases hlt : y < x
      · have hqe : q < en := by
          rw [HEN.out]; refine HS.out.2 ⟨x, hx, ?_⟩
          rw [HY.out]; exact hlt
        have hd2 : decide (y < x) = true := decide_eq_true hlt
        clear hx HS
        go_wp2_with fail
        go_quiet (fail)
        go_wp2
        go_roundw
        case rel => exact ⟨q + 1, _, by omega, by omega, by go_num, rfl⟩
        case measure => simp [intOf]; omega
      · have hqe : q = en := by
          rcases Nat.lt_or_ge q en with g | g
          · rw [HEN.out] at g
            obtain ⟨x', hx', hlt'⟩ := HS.out.1 g
            rw [hx] at hx'; injection hx' with hx'
            rw [HY.out] at hlt'
            omega
          · omega
        have hd2 : decide (y < x) = false := decide_eq_false hlt
        clear hx HS
        subst hqe
        go_wp2_with fail
        go_quiet (fail)
        go_wp2
        go_ret
        exact ⟨rfl, m + nq, World.drewN_drewN ..⟩
    · have hqe : q = en := by omega
      have hqn2 : q = n := by omega
      have hd : decide ((q : Int) < (n : Int)) = false := decide_eq_false (by omega)
      clear HS
      subst hqe
      go_wp2_with fail
      go_quiet (fail)
      go_wp2
      go_ret
      exact ⟨rfl, m + nq, World.drewN_drewN ..⟩
theorem grf_take {u v : List Int} {en j : Nat} {x z : Int} (h : v[j]? = some x) : (u.take en ++ (v.take (j + 1)).map (z + ·)) = (u.take en ++ (v.take j).map (z + ·)) ++ [z + x] := by
  rw [List.take_add_one, h, Option.toList_some, List.map_append, List.append_assoc]; rfl
theorem ints_snoc' (l : List Int) (x : Int) : ints l ++ [.int .i64 x] = ints (l ++ [x]) := by simp [ints, intsK]
theorem ints_app (x y : List Int) : ints (x ++ y) = ints x ++ ints y := by unfold ints intsK; rw [List.map_append]
set_option maxHeartbeats 2000000 in
theorem l04Graft_any (A A' : Option Addr) (n n' c c' B B' k : Nat) (u v : List Int) (w : World) (hl : u.length = n) (hl' : v.length = n') (hn : n ≤ 8) (hn' : n' ≤ 8) (hk : k < n) (hc : n ≤ c) (hu : Tr.isLv u = true) (hv : Tr.isLv v = true) (hlv : Tr.isLv (Tr.gl u k v) = true) (hB : B ≤ w.heap.size) (hB' : B' ≤ w.heap.size) (h : Row w B A (ints u)) (h' : Row w B' A' (ints v)) :
    Calls Try.prog 91 #[.slice A n c, .int .i64 k, .slice A' n' c'] w (NewRow 2 (n + n') (ints (Tr.can (Tr.gl u k v))) w) := by
  obtain ⟨i0, hi, hz0, hz1, hz2⟩ := info_parts info_i64
  have HL := Lib.hid hl
  have HL' := Lib.hid hl'
  obtain ⟨y, hy⟩ := at_lt (show k < u.length by omega)
  have hyb := lv_el hu hy
  have HY : Hid (u.getD k 0 = y) := by rw [Hid, List.getD_eq_getElem?_getD, hy]; rfl
  obtain ⟨b, o, rfl, hbB, hcy⟩ := h k _ (ints_at hy)
  have hE := Tr.endL_le (t := u) (k := k) (by omega)
  rw [hl] at hE
  have C0 := l04End_any (some ⟨b, o, none⟩) n c B k u w hl (by omega) hk h
  obtain ⟨en, hen⟩ : ∃ en, en = Tr.endL u k := ⟨_, rfl⟩
  have HGL : Hid (Tr.gl u k v = u.take en ++ v.map (y + 1 + ·) ++ u.drop en) := by
    rw [Hid]; unfold Tr.gl; rw [← hen, HY.out, List.append_assoc]
  have HGN : Hid ((Tr.gl u k v).length = n + n') := by rw [Hid, Tr.gl_length (by rw [← hen, hl]; rw [← hen] at hE; exact hE.2), hl, hl']
  rw [← hen] at hE C0
  have HV := Lib.hid hv
  have HG := Lib.hid hlv
  have HTK : Hid ((u.take en).length = en) := by rw [Hid, List.length_take, hl]; omega
  have hen8 : en ≤ 8 := by omega
  have henc : (en : Int) ≤ (c : Int) := by omega
  have hen0 : (0 : Int) ≤ (en : Int) := Int.natCast_nonneg _
  clear hl hl' hy hen hu hv hlv
  go_enter Try.func91, Try.ntmps91
  go_wp2_with fail
  refine C0.mono ?_
  rintro e w1 ⟨rfl, m1, rfl⟩
  go_wp2_with fail
  refine (l01Own_any ⟨b, o, none⟩ en c B (u.take en) _ HTK.out (by omega) (by exact hB) (by
    have := Row.takeA (h.drewN m1) en
    unfold ints intsK at *
    rwa [← List.map_take] at this)).mono ?_
  rintro e w2 ⟨A2, c2, rfl, own2, bel2'⟩
  have bel2 : Below w.heap.size w w2 := below_undrew' bel2'
  have own2' : w2.ownsRow w.heap.size 2 1 (.slice A2 en c2) en (ints (u.take en)) := own2
  obtain ⟨g2, cap2, hv2⟩ := own_form own2' (by omega)
  injection hv2 with hA _ hcp
  subst hA hcp
  have F0 : Hid (Growing w 2 g2 (en + 0) c2 (ints (u.take en ++ (v.take 0).map (y + 1 + ·))) w2) := by
    rw [Hid, List.take_zero, List.map_nil, List.append_nil]; exact ⟨own2', bel2⟩
  clear own2 own2' bel2 bel2' C0
  go_wp2_with fail
  go_loopw [8, 9] (fun s i W => ∃ (j g cap : Nat), j ≤ n' ∧ s = .slice (some ⟨g, 0, none⟩) (en + j) cap ∧ i = .int .i64 j ∧ Growing w 2 g (en + j) cap (ints (u.take en ++ (v.take j).map (y + 1 + ·))) W) (fun _ i _ => n' - (intOf i).toNat)
  case atStart => exact ⟨0, g2, c2, Nat.zero_le _, rfl, rfl, F0.out⟩
  case round =>
    obtain ⟨j, g, cap, hj, rfl, rfl, HGr⟩ := hrel
    have hsz := HGr.2.size
    by_cases hlt : j < n'
    · obtain ⟨x, hx⟩ := at_lt (show j < v.length by rw [HL'.out]; exact hlt)
      obtain ⟨b', o', rfl, hb', hcx⟩ := (h'.below HGr.2 hB') j _ (ints_at hx)
      obtain ⟨x0, x8⟩ := lv_el HV.out hx
      have hcy2 : wr.cell? ⟨b, o + k, none⟩ = some (.int .i64 y) := (HGr.2.cell (p := ⟨b, o + k, none⟩) (by show b < w.heap.size; omega)).trans hcy
      have HXS := Lib.hid (grf_take (u := u) (en := en) (z := y + 1) hx)
      have HG' := Lib.hid HGr
      have hown : wr.drew.ownsRow w.heap.size 2 1 (.slice (some ⟨g, 0, none⟩) (en + j) cap) (en + j) (ints (u.take en ++ (v.take j).map (y + 1 + ·))) := ((OwnR.of HGr.1).keep (w' := wr.drew) fun _ _ _ => rfl).1
      have hy0 := hyb.1
      have hy8 := hyb.2
      have hcx' : wr.drew.cell? ⟨b', o' + j, none⟩ = some (.int .i64 x) := hcx
      have hcy' : wr.drew.cell? ⟨b, o + k, none⟩ = some (.int .i64 y) := hcy2
      have hwd : w.heap.size ≤ wr.drew.heap.size := hsz
      have hw1 : IntKind.i64.wrap (y + 1) = y + 1 := IntWalk.i64_in _ (by omega)
      have hw2 : IntKind.i64.wrap (y + 1 + x) = y + 1 + x := IntWalk.i64_in _ (by omega)
      have s0 : (0 : Int) ≤ (k : Int) := Int.natCast_nonneg _
      have s1 : (k : Int) < (n : Int) := by omega
      have s2 : (0 : Int) ≤ (j : Int) := Int.natCast_nonneg _
      have s3 : (j : Int) < (n' : Int) := by omega
      have HG : Hid (∀ (ob : Obj) (W2 : World) (g5 cap5 : Nat), W2.ownsRow w.heap.size 2 1 (.slice (some ⟨g5, 0, none⟩) (en + j + 1) cap5) (en + j + 1) (ints (u.take en ++ (v.take j).map (y + 1 + ·)) ++ [.int .i64 (y + 1 + x)]) → (wr.drew.alloc ob).grownBy W2 (Value.ownBlock (.slice (some ⟨g, 0, none⟩) (en + j) cap)) → Growing w 2 g5 (en + j + 1) cap5 (ints (u.take en ++ (v.take (j + 1)).map (y + 1 + ·))) W2) := fun ob W2 g5 cap5 hown5 hgrow5 => by
        rw [ints_snoc', ← HXS.out] at hown5
        exact HG'.out.step (show Below wr.heap.size wr (wr.drew.alloc ob) from (below_drew' (Below.refl _ _)).alloc (Nat.le_refl _) _) hown5 hgrow5
      clear hx HGr
      go_wp2_with fail
      go_region_law (first | (go_loud (refine step_append_lies _ (by rfl) _ _ 24 (by rfl) w.heap.size 2 i0 _ 1 8 Try.underlying24 hi hz0 hz1 hz2 rfl (by omega) (.slice (some ⟨g, 0, none⟩) (en + j) cap) (en + j) (ints (u.take en ++ (v.take j).map (y + 1 + ·))) rfl (hown.alloc _) ⟨wr.drew.heap.size, 0, none⟩ 1 1 [.int .i64 (y + 1 + x)] rfl rfl (World.news_of_block (cs := #[.int .i64 (y + 1 + x)]) (heap_alloc_new _ _)) (by simp [Value.oneCell']) (by omega) (by simp only [maxLen]; omega) (by omega) (by simp; omega) (wr.drew.heap.size + 1) (by simp) ?_); intro g4 cap4 w4 hown4 hgrow4 hat4 hlt4))
      all_goals
        have G := Lib.hid (HG.out _ _ _ _ hown4 hgrow4)
        clear hown4 hgrow4 hat4 hown
        go_wp2
        go_roundw
        case rel => exact ⟨j + 1, g4, cap4, by omega, rfl, by go_num, G.out⟩
        case measure => simp [intOf]; omega
    · obtain rfl : j = n' := by omega
      rw [show v.take j = v from List.take_of_length_le (by rw [HL'.out]; exact Nat.le_refl _)] at HGr
      have HB1 := Lib.hid HGr.2
      have hown := HGr.1
      have HOWN := Lib.hid hown
      have HROW := Lib.hid (h.below HGr.2 hB)
      have HDL : Hid ((ints (u.drop en)).length = (n - en) * 1) := by rw [Hid, ints_length, List.length_drop, HL.out]; omega
      have HON := Lib.hid (ints_cells (u.drop en))
      have HSUM : Hid (en + j + (n - en) = n + j) := by rw [Hid]; omega
      clear HGr
      have fin : ∀ (A9 : Option Addr) (c9 : Nat) (w9 : World), w9.ownsRow w.heap.size 2 1 (.slice A9 (n + j) c9) (n + j) (ints (Tr.gl u k v)) → Below w.heap.size w w9 → Calls Try.prog 58 #[.slice A9 (n + j) c9] w9 (NewRow 2 (n + j) (ints (Tr.can (Tr.gl u k v))) w) := by
        intro A9 c9 w9 ho hb
        refine (l03Canon_any A9 (n + j) c9 w9.heap.size (Tr.gl u k v) w9 HGN.out HG.out (Nat.le_refl _) (row_of_own ho)).mono ?_
        rintro e w10 ⟨A10, c10, rfl, own10, bel10⟩
        exact ⟨A10, c10, rfl, ((OwnR.of own10).more hb.size (Nat.le_refl _)).1, hb.trans (bel10.mono hb.size)⟩
      have HFIN := Lib.hid fin
      clear fin
      by_cases hec : en = c
      · have hz : n - en = 0 := by omega
        have HDZ : Hid ((ints (u.drop en)).length = 0 * 1) := by rw [Hid, HDL.out, hz]
        have HSZ : Hid (en + j + 0 = n + j) := by rw [Hid]; omega
        have HNW : Hid (∀ q z, (ints (u.drop en))[q]? = some z → wr.cell? ((⟨b, o, none⟩ : Addr).add q) = some z) := fun q z hz' => by
          have := HDL.out
          rw [hz, Nat.zero_mul] at this
          rw [List.length_eq_zero_iff.1 this] at hz'; simp at hz'
        go_wp2_with (at_builtin; go_loud (refine wpList_append_own _ rfl (.tmp 36) (.tmp 39) 24 rfl w.heap.size 2 i0 _ 1 8 Try.underlying24 hi hz0 hz1 hz2 rfl (by omega) (.slice (some ⟨g, 0, none⟩) (en + j) cap) (en + j) (ints (u.take en ++ v.map (y + 1 + ·))) rfl hown ⟨b, o, none⟩ 0 0 (ints (u.drop en)) rfl HDZ.out HNW.out HON.out (by simp only [maxLen]; omega) (by omega) (by omega) ?_); intro v5 w5 own5 hgrow5 _; rw [HSZ.out] at own5; obtain ⟨A5, c5, rfl⟩ := own_shape' own5)
        rw [← ints_app, ← HGL.out] at own5
        have GB : Hid (Below w.heap.size w w5) := HB1.out.grown hgrow5 (by omega) (fun z hz => (HOWN.out.lt z hz).1)
        have GO := Lib.hid own5
        clear own5 hgrow5 hown
        go_wp2_with fail
        refine (HFIN.out A5 c5 w5 GO.out GB.out).mono ?_
        rintro e w6 ⟨A6, c6, rfl, own6, bel6⟩
        have GF : Hid (NewRow 2 (n + j) (ints (Tr.can (Tr.gl u k v))) w (.returned (.slice A6 (n + j) c6)) w6) := ⟨_, _, rfl, own6, bel6⟩
        clear own6 bel6
        go_wp2
        go_ret
        exact GF.out
      · have HNW : Hid (∀ q z, (ints (u.drop en))[q]? = some z → wr.cell? ((⟨b, o + en, none⟩ : Addr).add q) = some z) := by
          have := Row.dropA (k := en) HROW.out
          have h9 := row_news this
          unfold ints intsK at *
          rwa [← List.map_drop] at h9
        go_wp2_with (at_builtin; go_loud (refine wpList_append_own _ rfl (.tmp 36) (.tmp 39) 24 rfl w.heap.size 2 i0 _ 1 8 Try.underlying24 hi hz0 hz1 hz2 rfl (by omega) (.slice (some ⟨g, 0, none⟩) (en + j) cap) (en + j) (ints (u.take en ++ v.map (y + 1 + ·))) rfl hown ⟨b, o + en, none⟩ (n - en) (c - en) (ints (u.drop en)) rfl HDL.out HNW.out HON.out (by simp only [maxLen]; omega) (by omega) (by omega) ?_); intro v5 w5 own5 hgrow5 _; rw [HSUM.out] at own5; obtain ⟨A5, c5, rfl⟩ := own_shape' own5)
        rw [← ints_app, ← HGL.out] at own5
        have GB : Hid (Below w.heap.size w w5) := HB1.out.grown hgrow5 (by omega) (fun z hz => (HOWN.out.lt z hz).1)
        have GO := Lib.hid own5
        clear own5 hgrow5 hown
        go_wp2_with fail
        refine (HFIN.out A5 c5 w5 GO.out GB.out).mono ?_
        rintro e w6 ⟨A6, c6, rfl, own6, bel6⟩
        have GF : Hid (NewRow 2 (n + j) (ints (Tr.can (Tr.gl u k v))) w (.returned (.slice A6 (n + j) c6)) w6) := ⟨_, _, rfl, own6, bel6⟩
        clear own6 bel6
        go_wp2
        go_ret
        exact GF.out
end Go.Proofs.Ytfehjjaebdgjlaa
