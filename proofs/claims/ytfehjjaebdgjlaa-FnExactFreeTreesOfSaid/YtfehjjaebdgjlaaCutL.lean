/-
  The model's cutting of lists.
-/
import Derived.Test.YtfehjjaebdgjlaaGrfL
import Derived.Deep.RegionHeld3
namespace Go.Proofs.Ytfehjjaebdgjlaa
open Go.RowKit Fld
set_option linter.unusedVariables false
set_option linter.unusedSimpArgs false
set_option maxRecDepth 100000

theorem step_append_own' {P : Program} {w : World} {ops : Array Oper} {o : Oper} {a : Act} {K : Act → World → Prop} {Q : Exit → Act → World → Prop} {E : Prop} (hgd : o.guard = none) (s x : Operand) (t : TypeId)
    (ho : o.op = .call { callee := .builtin .append, args := #[s, x], argTypes := #[t, t] })
    (base : Nat) (e : TypeId) (i : TypeInfo) (z : Value) (size bytes : Nat) (ht : P.underlying t = some (.slice e)) (hi : P.info? e = some i) (hz : i.zero = some z)
    (hsize : i.size = size) (hby : i.bytes = bytes) (hzs : z.cells.size = size) (hsz : 0 < size)
    (v : Value) (n : Nat) (xs : List Value) (hs : a.eval s = v) (hown : w.ownsRow base e size v n xs)
    (ad : Addr) (m c : Nat) (news : List Value) (hx : a.eval x = .slice (some ad) m c) (hl : news.length = m * size) (hnews : ∀ j u, news[j]? = some u → w.cell? (ad.add j) = some u) (h1 : ∀ u ∈ news, u.oneCell' = true)
    (h63 : n + m ≤ maxLen) (hbytes : (n + m) * bytes ≤ 140737488355328) (hbase : base ≤ w.heap.size)
    (h : ∀ v' w', w'.ownsRow base e size v' (n + m) (xs ++ news) → w.grownBy w' v.ownBlock → (v' = .slice none 0 0 ↔ v = .slice none 0 0 ∧ m = 0) → K (a.put o.dst v') w') :
    if Region.wanted o (yielded ops a.tmps) = true then Oper.wp P o a w K Q else E := by
  have hw : Region.wanted o (yielded ops a.tmps) = true := by simp [Region.wanted, hgd]
  rw [if_pos hw]
  exact wp_append_own w s x t ho base e i z size bytes ht hi hz hsize hby hzs hsz v n xs hs hown ad m c news hx hl hnews h1 h63 hbytes hbase h
theorem trunk_length {t : List Int} {k : Nat} (hk : k < t.length) : (Tr.trunkL t k).length = t.length - (Tr.endL t k - k) := by
  obtain ⟨h1, h2⟩ := Tr.endL_le hk
  unfold Tr.trunkL
  rw [List.length_append, List.length_take, List.length_drop]; omega
theorem branch_length {t : List Int} {k : Nat} (hk : k < t.length) : (Tr.branchL t k).length = Tr.endL t k - k := by
  obtain ⟨h1, h2⟩ := Tr.endL_le hk
  unfold Tr.branchL
  rw [List.length_map, List.length_take, List.length_drop]; omega
theorem branch_take {t : List Int} {k j : Nat} {x y : Int} (h : t[k + j]? = some x) : ((t.drop k).take (j + 1)).map (· - y) = ((t.drop k).take j).map (· - y) ++ [x - y] := by
  rw [List.take_add_one, List.getElem?_drop, h, Option.toList_some, List.map_append]; rfl
/-- two lists in memory -/
def TwoRows (xs ys : List Int) (w : World) (e : Ending) (w' : World) : Prop :=
  ∃ A c A' c', e = .returned (.tuple #[.slice A xs.length c, .slice A' ys.length c']) ∧ Row w' w'.heap.size A (ints xs) ∧ Row w' w'.heap.size A' (ints ys) ∧ Below w.heap.size w w'
theorem own_apart {w : World} {lo hi lo' hi' n n' : Nat} {T S : TypeId} {v v' : Value} {us vs : List Value} (h : OwnR w lo hi T v n us) (h' : OwnR w lo' hi' S v' n' vs) (hd : hi ≤ lo' ∨ hi' ≤ lo) : v.ownBlock = none ∨ v.ownBlock ≠ v'.ownBlock := by
  cases e : v.ownBlock with
  | none => exact .inl rfl
  | some g =>
    right
    intro e'
    have h1 := (h.1.lt g e).1
    have h2 := h.2 g e
    have h3 := (h'.1.lt g e'.symm).1
    have h4 := h'.2 g e'.symm
    omega
set_option maxHeartbeats 2000000 in
theorem l04Cut_any (A : Option Addr) (n c B k : Nat) (t : List Int) (w : World) (hl : t.length = n) (hn : n ≤ 8) (h1 : 1 ≤ k) (hk : k < n) (hc : n ≤ c) (ht : Tr.isLv t = true) (hT : Tr.isLv (Tr.trunkL t k) = true) (hR : Tr.isLv (Tr.branchL t k) = true) (hB : B ≤ w.heap.size) (h : Row w B A (ints t)) :
    Calls Try.prog 57 #[.slice A n c, .int .i64 k] w (TwoRows (Tr.can (Tr.trunkL t k)) (Tr.can (Tr.branchL t k)) w) := by
  obtain ⟨i0, hi, hz0, hz1, hz2⟩ := info_parts info_i64
  have HL := Lib.hid hl
  obtain ⟨y, hy⟩ := at_lt (show k < t.length by omega)
  have hyb := lv_el ht hy
  have HY : Hid (t.getD k 0 = y) := by rw [Hid, List.getD_eq_getElem?_getD, hy]; rfl
  obtain ⟨b, o, rfl, hbB, hcy⟩ := h k _ (ints_at hy)
  have hE := Tr.endL_le (t := t) (k := k) (by omega)
  rw [hl] at hE
  have C0 := l04End_any (some ⟨b, o, none⟩) n c B k t w hl (by omega) hk h
  have HTL := Lib.hid (trunk_length (t := t) (k := k) (by omega))
  have HRL := Lib.hid (branch_length (t := t) (k := k) (by omega))
  have HTD : Hid (Tr.trunkL t k = t.take k ++ t.drop (Tr.endL t k)) := rfl
  have HRD : Hid (Tr.branchL t k = ((t.drop k).take (Tr.endL t k - k)).map (· - y)) := by rw [← HY.out]; rfl
  have HCT := Lib.hid (lv_can hT).2
  have HCR := Lib.hid (lv_can hR).2
  obtain ⟨en, hen⟩ : ∃ en, en = Tr.endL t k := ⟨_, rfl⟩
  rw [← hen] at hE C0 HTL HRL HTD HRD
  rw [hl] at HTL
  have HTT := Lib.hid hT
  have HRR := Lib.hid hR
  have HT := Lib.hid ht
  have hen8 : en ≤ 8 := by omega
  clear hl hy hen hT hR ht
  go_enter Try.func57, Try.ntmps57
  go_wp2_with fail
  refine C0.mono ?_
  rintro e w1 ⟨rfl, m1, rfl⟩
  go_wp2_with fail
  go_loopw [7, 8] (fun s i W => ∃ (j g cap : Nat), j ≤ en - k ∧ s = .slice (some ⟨g, 0, none⟩) j cap ∧ i = .int .i64 ((k + j : Nat) : Int) ∧ Growing w 2 g j cap (ints (((t.drop k).take j).map (· - y))) W) (fun _ i _ => en - (intOf i).toNat)
  case atStart => exact ⟨0, _, 0, Nat.zero_le _, rfl, by go_num, ⟨(Growing.start (w.drewN m1) 2).1, (below_drewN (Below.refl _ _) m1).alloc (Nat.le_refl _) _⟩⟩
  case round =>
    obtain ⟨j, g, cap, hj, rfl, rfl, HGr⟩ := hrel
    have hsz := HGr.2.size
    by_cases hlt : k + j < en
    · obtain ⟨x, hx⟩ := at_lt (show k + j < t.length by rw [HL.out]; omega)
      obtain ⟨x0, x8⟩ := lv_el HT.out hx
      obtain ⟨_, _, e1, _, hcx⟩ := (Row.below h HGr.2 hB) (k + j) _ (ints_at hx)
      cases e1
      have hcy2 : wr.cell? ⟨b, o + k, none⟩ = some (.int .i64 y) := (HGr.2.cell (p := ⟨b, o + k, none⟩) (by show b < w.heap.size; omega)).trans hcy
      have HXS := Lib.hid (branch_take (y := y) hx)
      have HG' := Lib.hid HGr
      have hown : wr.drew.ownsRow w.heap.size 2 1 (.slice (some ⟨g, 0, none⟩) j cap) j (ints (((t.drop k).take j).map (· - y))) := ((OwnR.of HGr.1).keep (w' := wr.drew) fun _ _ _ => rfl).1
      have hy0 := hyb.1
      have hy8 := hyb.2
      have hcx' : wr.drew.cell? ⟨b, o + (k + j), none⟩ = some (.int .i64 x) := hcx
      have hcy' : wr.drew.cell? ⟨b, o + k, none⟩ = some (.int .i64 y) := hcy2
      have hwd : w.heap.size ≤ wr.drew.heap.size := hsz
      have hw1 : IntKind.i64.wrap (x - y) = x - y := IntWalk.i64_in _ (by omega)
      have s0 : (0 : Int) ≤ (k : Int) := Int.natCast_nonneg _
      have s1 : (k : Int) < (n : Int) := by omega
      obtain ⟨q, hq⟩ : ∃ q, q = k + j := ⟨_, rfl⟩
      have HQ := Lib.hid hq
      rw [← hq] at hcx' hlt ⊢
      have s2 : (0 : Int) ≤ (q : Int) := Int.natCast_nonneg _
      have s3 : (q : Int) < (n : Int) := by omega
      have s4 : (q : Int) < (en : Int) := by omega
      have HG : Hid (∀ (ob : Obj) (W2 : World) (g5 cap5 : Nat), W2.ownsRow w.heap.size 2 1 (.slice (some ⟨g5, 0, none⟩) (j + 1) cap5) (j + 1) (ints (((t.drop k).take j).map (· - y)) ++ [.int .i64 (x - y)]) → (wr.drew.alloc ob).grownBy W2 (Value.ownBlock (.slice (some ⟨g, 0, none⟩) j cap)) → Growing w 2 g5 (j + 1) cap5 (ints (((t.drop k).take (j + 1)).map (· - y))) W2) := fun ob W2 g5 cap5 hown5 hgrow5 => by
        rw [ints_snoc', ← HXS.out] at hown5
        exact HG'.out.step (show Below wr.heap.size wr (wr.drew.alloc ob) from (below_drew' (Below.refl _ _)).alloc (Nat.le_refl _) _) hown5 hgrow5
      clear hx HGr hq hcx hcy2
      go_wp2_with fail
      go_region_law (first | (go_loud (refine step_append_lies _ (by rfl) _ _ 24 (by rfl) w.heap.size 2 i0 _ 1 8 Try.underlying24 hi hz0 hz1 hz2 rfl (by omega) (.slice (some ⟨g, 0, none⟩) j cap) j (ints (((t.drop k).take j).map (· - y))) rfl (hown.alloc _) ⟨wr.drew.heap.size, 0, none⟩ 1 1 [.int .i64 (x - y)] rfl rfl (World.news_of_block (cs := #[.int .i64 (x - y)]) (heap_alloc_new _ _)) (by simp [Value.oneCell']) (by omega) (by simp only [maxLen]; omega) (by omega) (by simp; omega) (wr.drew.heap.size + 1) (by simp) ?_); intro g4 cap4 w4 hown4 hgrow4 hat4 hlt4))
      all_goals
        have G := Lib.hid (HG.out _ _ _ _ hown4 hgrow4)
        clear hown4 hgrow4 hat4 hown
        go_wp2
        go_roundw
        case rel => exact ⟨j + 1, g4, cap4, by have := HQ.out; omega, rfl, by have := HQ.out; go_num, G.out⟩
        case measure => simp [intOf]; omega
    · have hje : j = en - k := by omega
      have hke : k + j = en := by omega
      rw [hje, ← HRD.out, ← hje] at HGr
      have HB1 := Lib.hid HGr.2
      have HO1 := Lib.hid HGr.1
      have hs1 := HGr.2.size
      have HROW := Lib.hid (Row.below h HGr.2 hB)
      have hkc : (k : Int) ≤ (c : Int) := by omega
      have henc : (en : Int) ≤ (c : Int) := by omega
      have HTK : Hid ((t.take k).length = k) := by rw [Hid, List.length_take, HL.out]; omega
      have HDL : Hid ((ints (t.drop en)).length = (n - en) * 1) := by rw [Hid, ints_length, List.length_drop, HL.out]; omega
      have HON := Lib.hid (ints_cells (t.drop en))
      clear HGr C0
      rw [hke]
      clear hje hke
      have HLT : Hid ((Tr.trunkL t k).length = k + (n - en)) := by rw [Hid, HTL.out]; omega
      have HLR : Hid ((Tr.branchL t k).length = j) := by rw [Hid, ← ints_length, own_len HO1.out]
      have CO : ∀ W, Below wr.heap.size wr W → Calls Try.prog 83 #[.slice (some ⟨b, o, none⟩) k c] W (fun e W' => ∃ A' c', e = .returned (.slice A' k c') ∧ W'.ownsRow W.heap.size 2 1 (.slice A' k c') k (ints (t.take k)) ∧ Below W.heap.size W W') := fun W hb =>
        l01Own_any ⟨b, o, none⟩ k c B (t.take k) W HTK.out (by omega) (by have := hb.size; omega) (by
          have := Row.takeA (Row.below HROW.out hb (by omega)) k
          unfold ints intsK at *
          rwa [← List.map_take] at this)
      have C2 : ∀ W, Below wr.heap.size wr W → Calls Try.prog 58 #[.slice (some ⟨g, 0, none⟩) j cap] W (NewRow 2 j (ints (Tr.can (Tr.branchL t k))) W) := fun W hb =>
        l03Canon_any _ j cap wr.heap.size (Tr.branchL t k) W HLR.out HRR.out hb.size (Row.below (row_of_own HO1.out) hb (Nat.le_refl _))
      have C1 : ∀ W (A9 : Option Addr) (c9 lo : Nat), W.ownsRow lo 2 1 (.slice A9 (k + (n - en)) c9) (k + (n - en)) (ints (Tr.trunkL t k)) → Calls Try.prog 58 #[.slice A9 (k + (n - en)) c9] W (NewRow 2 (k + (n - en)) (ints (Tr.can (Tr.trunkL t k))) W) := fun W A9 c9 lo ho =>
        l03Canon_any A9 _ c9 W.heap.size (Tr.trunkL t k) W HLT.out HTT.out (Nat.le_refl _) (row_of_own ho)
      have BW : Below wr.heap.size wr wr.drew := below_drew' (Below.refl _ _)
      have HNW : Hid (∀ (AE : Addr), (if c = en then (some ⟨b, o, none⟩ : Option Addr) else some ⟨b, o + en, none⟩) = some AE → ∀ W, Below wr.heap.size wr W → ∀ q z, (ints (t.drop en))[q]? = some z → W.cell? (AE.add q) = some z) := fun AE hAE W hb q z hz => by
        by_cases hc2 : c = en
        · have h0 : (ints (t.drop en)).length = 0 := by rw [HDL.out]; omega
          rw [List.length_eq_zero_iff.1 h0] at hz; simp at hz
        · rw [if_neg hc2] at hAE
          injection hAE with hAE
          subst hAE
          have h9 := row_news (Row.dropA (k := en) (Row.below HROW.out hb (by omega)))
          unfold ints intsK at *
          rw [← List.map_drop] at h9
          exact h9 q z hz
      obtain ⟨AE, hAE⟩ : ∃ AE, (if c = en then (some ⟨b, o, none⟩ : Option Addr) else some ⟨b, o + en, none⟩) = some AE := by
        by_cases hc2 : c = en
        · exact ⟨_, if_pos hc2⟩
        · exact ⟨_, if_neg hc2⟩
      have HNX := Lib.hid (HNW.out AE hAE)
      clear HNW
      have hn' : n - en ≤ 8 := by omega
      go_wp2_with fail
      refine wp_region_noPanic ?_
      refine wp_region_held_drew (S := (fun w' => True)) (by kernel_rfl) ?_ (fun hHeld => ?_)
      · trivial
      refine wpAnyH_take (i := 0) (oi := _) (v := ?_) rfl (by kernel_rfl) (by kernel_rfl) (by kernel_rfl) (fun _ _ _ h => h) (Or.inl ⟨by kernel_rfl, ?_⟩) (by assumption) ?_
      rotate_left
      · (intro w hSw; (try dsimp only at hSw); go_simp; try (with_reducible rfl))
      try simp only [Act.put, List.setIfInBounds_toArray, List.set_cons_zero, List.set_cons_succ, List.getElem_toArray, List.getElem_cons_zero, List.getElem_cons_succ]
      refine wpAnyH_take (i := 1) (oi := _) (v := ?_) rfl (by kernel_rfl) (by kernel_rfl) (by kernel_rfl) (fun _ _ _ h => h) (Or.inl ⟨by kernel_rfl, ?_⟩) (by assumption) ?_
      rotate_left
      · (intro w hSw; (try dsimp only at hSw); go_simp; try (with_reducible rfl))
      try simp only [Act.put, List.setIfInBounds_toArray, List.set_cons_zero, List.set_cons_succ, List.getElem_toArray, List.getElem_cons_zero, List.getElem_cons_succ]
      refine wpAnyH_take (i := 2) (oi := _) (v := ?_) rfl (by kernel_rfl) (by kernel_rfl) (by kernel_rfl) (fun _ _ _ h => h) (Or.inl ⟨by kernel_rfl, ?_⟩) (by assumption) ?_
      rotate_left
      · (intro w hSw; (try dsimp only at hSw); go_simp; try (with_reducible rfl))
      try simp only [Act.put, List.setIfInBounds_toArray, List.set_cons_zero, List.set_cons_succ, List.getElem_toArray, List.getElem_cons_zero, List.getElem_cons_succ]
      refine wpAnyH_take (i := 4) (oi := _) (v := ?_) rfl (by kernel_rfl) (by kernel_rfl) (by kernel_rfl) (fun _ _ _ h => h) (Or.inl ⟨by kernel_rfl, ?_⟩) (by assumption) ?_
      rotate_left
      · (intro w hSw; (try dsimp only at hSw); go_simp; try (with_reducible rfl))
      try simp only [Act.put, List.setIfInBounds_toArray, List.set_cons_zero, List.set_cons_succ, List.getElem_toArray, List.getElem_cons_zero, List.getElem_cons_succ]
      refine wpAnyH_take (i := 5) (oi := _) (v := ?_) rfl (by kernel_rfl) (by kernel_rfl) (by kernel_rfl) (fun _ _ _ h => h) (Or.inl ⟨by kernel_rfl, ?_⟩) (by assumption) ?_
      rotate_left
      · (intro w hSw; (try dsimp only at hSw); go_simp; try (with_reducible rfl))
      try simp only [Act.put, List.setIfInBounds_toArray, List.set_cons_zero, List.set_cons_succ, List.getElem_toArray, List.getElem_cons_zero, List.getElem_cons_succ]
      refine wpAnyH_take (i := 6) (oi := _) (v := ?_) rfl (by kernel_rfl) (by kernel_rfl) (by kernel_rfl) (fun _ _ _ h => h) (Or.inl ⟨by kernel_rfl, ?_⟩) (by assumption) ?_
      rotate_left
      · (intro w hSw; (try dsimp only at hSw); go_simp; try (with_reducible rfl))
      try simp only [Act.put, List.setIfInBounds_toArray, List.set_cons_zero, List.set_cons_succ, List.getElem_toArray, List.getElem_cons_zero, List.getElem_cons_succ]
      refine wpAnyH_take (i := 9) (oi := _) (v := ?_) rfl (by kernel_rfl) (by kernel_rfl) (by kernel_rfl) (fun _ _ _ h => h) (Or.inl ⟨by kernel_rfl, ?_⟩) (by assumption) ?_
      rotate_left
      · (intro w hSw; (try dsimp only at hSw); go_simp; try (with_reducible rfl))
      try simp only [Act.put, List.setIfInBounds_toArray, List.set_cons_zero, List.set_cons_succ, List.getElem_toArray, List.getElem_cons_zero, List.getElem_cons_succ]
      refine wpAnyH_ready (rs := [3]) (by kernel_rfl) (by simp) (AllReadyH.cons (o := _) rfl (fun K hK => ?_) AllReadyH.nil)
      go_simp
      (go_at_call 83; refine (CO _ BW).mono ?_; rintro e w2 ⟨A2, c2, rfl, own2', bel⟩)
      have own2 := OwnR.of own2'
      have lz2 := BW.size
      have zz2 := bel.size
      replace BW := BW.trans (bel.mono BW.size)
      clear own2' bel
      go_wp2_with fail
      refine hK.out _ _ ?_ (fun hHeld => ?_)
      · trivial
      clear hK K
      try simp only [Act.put, List.setIfInBounds_toArray, List.set_cons_zero, List.set_cons_succ, List.getElem_toArray, List.getElem_cons_zero, List.getElem_cons_succ]
      refine wpAnyH_ready (rs := [7]) (by kernel_rfl) (by simp) (AllReadyH.cons (o := _) rfl (fun K hK => ?_) AllReadyH.nil)
      refine step_append_own' (by rfl) _ _ 24 (by rfl) _ 2 i0 _ 1 8 Try.underlying24 hi hz0 hz1 hz2 rfl (by omega) (.slice A2 k c2) k (ints (t.take k)) (by rfl) own2.1 AE (n - en) (c - en) (ints (t.drop en)) (by rfl) HDL.out (HNX.out _ BW) HON.out (by simp only [maxLen]; omega) (by omega) (by omega) ?_
      intro v3 w3 own3' hgrow3 _
      obtain ⟨A3, c3, rfl⟩ := own_shape' own3'
      rw [← ints_app, ← HTD.out] at own3'
      have own3 := OwnR.of own3'
      have zz3 := hgrow3.size
      replace BW := BW.grown hgrow3 BW.size (fun z hz => by have := (own2.1.lt z hz).1; omega)
      clear own3' hgrow3 own2
      refine hK.out _ _ ?_ (fun hHeld => ?_)
      · trivial
      clear hK K
      try simp only [Act.put, List.setIfInBounds_toArray, List.set_cons_zero, List.set_cons_succ, List.getElem_toArray, List.getElem_cons_zero, List.getElem_cons_succ]
      refine wpAnyH_ready (rs := [8]) (by kernel_rfl) (by simp) (AllReadyH.cons (o := _) rfl (fun K hK => ?_) AllReadyH.nil)
      go_simp
      (go_at_call 58; refine (C1 _ A3 c3 _ own3.1).mono ?_; rintro e w5 ⟨A5, c5, rfl, own5', bel⟩)
      have own5 := OwnR.of own5'
      have zz5 := bel.size
      replace BW := BW.trans (bel.mono BW.size)
      clear own5' bel own3
      go_wp2_with fail
      refine hK.out _ _ ?_ (fun hHeld => ?_)
      · trivial
      clear hK K
      try simp only [Act.put, List.setIfInBounds_toArray, List.set_cons_zero, List.set_cons_succ, List.getElem_toArray, List.getElem_cons_zero, List.getElem_cons_succ]
      refine wpAnyH_ready (rs := [10]) (by kernel_rfl) (by simp) (AllReadyH.cons (o := _) rfl (fun K hK => ?_) AllReadyH.nil)
      go_simp
      (go_at_call 58; refine (C2 _ BW).mono ?_; rintro e w4 ⟨A4, c4, rfl, own4', bel⟩)
      have own4 := OwnR.of own4'
      have zz4 := bel.size
      replace own5 := own5.below bel (by first | exact Nat.le_refl _ | omega)
      replace BW := BW.trans (bel.mono BW.size)
      clear own4' bel
      go_wp2_with fail
      refine hK.out _ _ ?_ (fun hHeld => ?_)
      · trivial
      clear hK K
      try simp only [Act.put, List.setIfInBounds_toArray, List.set_cons_zero, List.set_cons_succ, List.getElem_toArray, List.getElem_cons_zero, List.getElem_cons_succ]
      refine wpAnyH_take (i := 11) (oi := _) (v := ?_) rfl (by kernel_rfl) (by kernel_rfl) (by kernel_rfl) (fun _ _ _ h => h) (Or.inl ⟨by kernel_rfl, ?_⟩) (by assumption) ?_
      rotate_left
      · (intro w hSw; (try dsimp only at hSw); go_simp; try (with_reducible rfl))
      try simp only [Act.put, List.setIfInBounds_toArray, List.set_cons_zero, List.set_cons_succ, List.getElem_toArray, List.getElem_cons_zero, List.getElem_cons_succ]
      refine wpAnyH_take (i := 12) (oi := _) (v := ?_) rfl (by kernel_rfl) (by kernel_rfl) (by kernel_rfl) (fun _ _ _ h => h) (Or.inl ⟨by kernel_rfl, ?_⟩) (by assumption) ?_
      rotate_left
      · (intro w hSw; (try dsimp only at hSw); go_simp; try (with_reducible rfl))
      try simp only [Act.put, List.setIfInBounds_toArray, List.set_cons_zero, List.set_cons_succ, List.getElem_toArray, List.getElem_cons_zero, List.getElem_cons_succ]
      refine wpAnyH_done (by kernel_rfl) ?_ _
      refine NoPanic.normal ?_
      have G5 := Lib.hid own5
      have G4 := Lib.hid own4
      have GB := Lib.hid (HB1.out.trans (BW.mono hs1))
      clear own5 own4 BW CO C1 C2
      go_wp2
      go_ret2
      exact ⟨_, _, _, _, by rw [HCT.out, HLT.out, HCR.out, HLR.out]; rfl, (OwnR.row G5.out).more (by first | exact Nat.le_refl _ | omega), (OwnR.row G4.out).more (by first | exact Nat.le_refl _ | omega), GB.out⟩
end Go.Proofs.Ytfehjjaebdgjlaa
