/-
  The model's InverseMatrix.
-/
import Derived.Test.YteffgpcjdfjhfaaSlv
namespace Go.Proofs.Yteffgpcjdfjhfaa
open Go.RowKit Fld
set_option linter.unusedVariables false
set_option linter.unusedSimpArgs false
set_option maxRecDepth 100000

/-- a row of it grows by one -/
theorem OwnMat.grow_row {w w' : World} {lo hi n g cap i g5 c5 c : Nat} {A : Option Addr} {m : List (List Int)} {vs : List Value} {row : List Int} {x : Int} (h : OwnMat w lo hi (.slice (some ⟨g, 0, none⟩) n cap) n m vs) (hs : hi ≤ w.heap.size)
    (hi' : m[i]? = some row) (hv : vs[i]? = some (.slice A row.length c)) (o : w'.ownsRow lo 2 1 (.slice (some ⟨g5, 0, none⟩) (row.length + 1) c5) (row.length + 1) (ints (row ++ [x])))
    (hg : w.grownBy w' (Value.ownBlock (.slice A row.length c))) (hat : Value.ownBlock (.slice A row.length c) = some g5 ∨ hi ≤ g5) (hlt : g5 < w'.heap.size) :
    OwnMat (w'.setCell ⟨g, i, none⟩ (.slice (some ⟨g5, 0, none⟩) (row.length + 1) c5)) lo w'.heap.size (.slice (some ⟨g, 0, none⟩) n cap) n (m.set i (row ++ [x])) (vs.set i (.slice (some ⟨g5, 0, none⟩) (row.length + 1) c5)) := by
  have hil : i < m.length := by
    rcases Nat.lt_or_ge i m.length with q | q
    · exact q
    · rw [List.getElem?_eq_none q] at hi'; cases hi'
  have hsz := hg.size
  obtain ⟨A0, c0, e0, o0⟩ := h.inner i row hi'
  rw [hv] at e0
  injection e0 with e0
  injection e0 with eA eq ec
  subst eA ec
  have outer := h.outer.grown hg (own_types h.outer.1 o0.1 (by decide))
  have hst := outer.1.stored i (.slice (some ⟨g5, 0, none⟩) (row.length + 1) c5)
  have el : (row ++ [x]).length = row.length + 1 := by rw [List.length_append]; rfl
  refine ⟨⟨hst.1, fun g' e => by have := outer.2 g' e; omega⟩, by rw [List.length_set, List.length_set]; exact h.len, ?_, ?_⟩
  · intro s r hr
    by_cases his : i = s
    · subst his
      rw [List.getElem?_set_self hil] at hr
      injection hr with hr
      subst hr
      refine ⟨some ⟨g5, 0, none⟩, c5, by rw [List.getElem?_set_self (by rw [h.len]; exact hil), el], ?_⟩
      rw [el]
      exact (OwnR.of o).grown hst.2 (own_types o outer.1 (by decide))
    · rw [List.getElem?_set_ne his] at hr
      obtain ⟨A2, c2, e2, o2⟩ := h.inner s r hr
      have o3 : OwnR w' lo hi 2 (.slice A2 r.length c2) r.length (ints r) := o2.grown hg (by
        cases hb : Value.ownBlock (.slice A2 r.length c2) with
        | none => exact .inl rfl
        | some q => exact .inr (fun e => h.apart s i _ _ q (Ne.symm his) e2 hv hb e.symm))
      exact ⟨A2, c2, by rw [List.getElem?_set_ne his]; exact e2, (o3.more (Nat.le_refl _) (by omega)).grown hst.2 (own_types o3.1 outer.1 (by decide))⟩
  · have key : ∀ s t g', i ≠ s → vs[s]? = some t → t.ownBlock = some g' → g' ≠ g5 := by
      intro s t g' hne ht hb e
      subst e
      have hsl : s < m.length := by
        rcases Nat.lt_or_ge s m.length with q | q
        · exact q
        · rw [List.getElem?_eq_none (by rw [h.len]; exact q)] at ht; cases ht
      obtain ⟨A2, c2, e2, o2⟩ := h.inner s _ (List.getElem?_eq_getElem hsl)
      rw [ht] at e2
      injection e2 with e2
      subst e2
      rcases hat with q | q
      · exact h.apart i s _ _ g' hne hv ht q hb
      · have := o2.2 g' hb; omega
    intro r s u t g' hne hu ht hb hb'
    by_cases hir : i = r
    · subst hir
      rw [List.getElem?_set_self (by rw [h.len]; exact hil)] at hu
      rw [List.getElem?_set_ne hne] at ht
      injection hu with hu
      subst hu
      have e5 : g5 = g' := by simpa [Value.ownBlock] using hb
      exact key s t g' hne ht hb' e5.symm
    · rw [List.getElem?_set_ne hir] at hu
      by_cases his : i = s
      · subst his
        rw [List.getElem?_set_self (by rw [h.len]; exact hil)] at ht
        injection ht with ht
        subst ht
        have e5 : g5 = g' := by simpa [Value.ownBlock] using hb'
        exact key r u g' hir hu hb e5.symm
      · rw [List.getElem?_set_ne his] at ht
        exact h.apart r s u t g' hne hu ht hb hb'
/-- the columns up to k, and in the rows up to i one more -/
def partL (m : List (List Int)) (k i : Nat) : List (List Int) := (List.range m.length).map fun j => (invRow m j).take (if j < i then k + 1 else k)
theorem partL_length (m : List (List Int)) (k i : Nat) : (partL m k i).length = m.length := by simp [partL]
theorem partL_at {m : List (List Int)} {k i j : Nat} (hj : j < m.length) : (partL m k i)[j]? = some ((invRow m j).take (if j < i then k + 1 else k)) := by
  unfold partL; rw [List.getElem?_map, List.getElem?_range hj]; rfl
theorem partL_zero (m : List (List Int)) : partL m 0 0 = List.replicate m.length [] := by
  apply List.ext_getElem?
  intro j
  by_cases hj : j < m.length
  · rw [partL_at hj, List.getElem?_replicate, if_pos hj, if_neg (by omega), List.take_zero]
  · rw [List.getElem?_eq_none (by rw [partL_length]; omega), List.getElem?_eq_none (by simp; omega)]
theorem partL_next (m : List (List Int)) (k : Nat) : partL m k m.length = partL m (k + 1) 0 := by
  unfold partL
  apply List.map_congr_left
  intro j hj
  rw [List.mem_range] at hj
  rw [if_pos hj, if_neg (by omega)]
theorem partL_done (m : List (List Int)) : partL m m.length 0 = invL m := by
  unfold partL invL
  apply List.map_congr_left
  intro j hj
  rw [if_neg (by omega), List.take_of_length_le (by rw [invRow_length]; omega)]
theorem partL_step {m : List (List Int)} {k i : Nat} {x : Int} (hi : i < m.length) (hx : (invRow m i)[k]? = some x) : (partL m k i).set i ((invRow m i).take k ++ [x]) = partL m k (i + 1) := by
  apply List.ext_getElem?
  intro j
  by_cases hj : j < m.length
  · by_cases e : i = j
    · subst e
      rw [List.getElem?_set_self (by rw [partL_length]; exact hi), partL_at hj, if_pos (by omega), List.take_add_one, hx]; rfl
    · rw [List.getElem?_set_ne e, partL_at hj, partL_at hj]
      by_cases h : j < i
      · rw [if_pos h, if_pos (by omega)]
      · rw [if_neg h, if_neg (by omega)]
  · rw [List.getElem?_eq_none (by rw [List.length_set, partL_length]; omega), List.getElem?_eq_none (by rw [partL_length]; omega)]

/-- the columns so far, beside the column that is being laid in -/
structure InvC (w wr : World) (n g gc cc : Nat) (m : List (List Int)) (k i : Nat) (xs : List Int) (vs : List Value) : Prop where
  own : OwnMat wr w.heap.size wr.heap.size (.slice (some ⟨g, 0, none⟩) n n) n (partL m k i) vs
  below : Below w.heap.size w wr
  col : wr.ownsRow w.heap.size 2 1 (.slice (some ⟨gc, 0, none⟩) n cc) n (ints xs)
  ne : ∀ (j : Nat) (u : Value), vs[j]? = some u → u.ownBlock ≠ some gc
theorem InvC.step {w wr wa w3 : World} {n g gc cc k i c g3 c3 H : Nat} {A : Option Addr} {m : List (List Int)} {xs : List Int} {vs : List Value} {x : Int} (h : InvC w wr n g gc cc m k i xs vs) (hl : m.length = n) (hi : i < n) (hk : k < n) (hx : (invRow m i)[k]? = some x)
    (ha : Below wr.heap.size wr wa) (hv : vs[i]? = some (.slice A k c)) (o : w3.ownsRow w.heap.size 2 1 (.slice (some ⟨g3, 0, none⟩) (k + 1) c3) (k + 1) (ints ((invRow m i).take k ++ [x])))
    (hg : wa.grownBy w3 (Value.ownBlock (.slice A k c))) (hat : Value.ownBlock (.slice A k c) = some g3 ∨ g3 = H) (hH : wr.heap.size ≤ H) (hlt : g3 < w3.heap.size) :
    ∃ vs', InvC w (w3.setCell ⟨g, i, none⟩ (.slice (some ⟨g3, 0, none⟩) (k + 1) c3)) n g gc cc m k (i + 1) xs vs' := by
  have him : i < m.length := by omega
  have hrow := partL_at (k := k) (i := i) him
  rw [if_neg (by omega)] at hrow
  have hrl : ((invRow m i).take k).length = k := by rw [List.length_take, invRow_length]; omega
  have hgc := (h.col.lt gc rfl).2
  have hs3 := hg.size
  have hsa := ha.size
  have hb := h.below.size
  have hown := OwnMat.grow_row (w' := w3) (g5 := g3) (c5 := c3) (x := x) (h.own.below ha (Nat.le_refl _)) hsa hrow (by rw [hrl]; exact hv) (by rw [hrl]; exact o) (by rw [hrl]; exact hg) (by rw [hrl]; rcases hat with q | q; exact .inl q; exact .inr (by omega)) hlt
  rw [hrl, partL_step him hx] at hown
  have hsz : (w3.setCell ⟨g, i, none⟩ (.slice (some ⟨g3, 0, none⟩) (k + 1) c3)).heap.size = w3.heap.size := by simp [World.setCell]
  have hgo : w.heap.size ≤ g := (h.own.outer.1.lt g rfl).1
  have hcol : (w3.setCell ⟨g, i, none⟩ (.slice (some ⟨g3, 0, none⟩) (k + 1) c3)).ownsRow w.heap.size 2 1 (.slice (some ⟨gc, 0, none⟩) n cc) n (ints xs) := by
    have c1 : OwnR wa w.heap.size wr.heap.size 2 (.slice (some ⟨gc, 0, none⟩) n cc) n (ints xs) := (OwnR.of h.col).below ha (Nat.le_refl _)
    have c2 := c1.grown hg (.inr (fun e => h.ne i _ hv e.symm))
    have o1 := (h.own.below ha (Nat.le_refl _)).outer
    have inner := (h.own.below ha (Nat.le_refl _)).inner i _ hrow
    obtain ⟨A0, c0, e0, o0⟩ := inner
    rw [hv, hrl] at e0
    injection e0 with e0
    injection e0 with eA eq ec
    subst eA ec
    rw [hrl] at o0
    have o2 := o1.grown hg (own_types o1.1 o0.1 (by decide))
    exact (c2.grown (o2.1.stored i (.slice (some ⟨g3, 0, none⟩) (k + 1) c3)).2 (own_types c2.1 o2.1 (by decide))).1
  refine ⟨_, by rw [hsz]; exact hown, ?_, hcol, ?_⟩
  · refine below_set ((h.below.trans (ha.mono hb)).grown hg (by omega) (fun q hq => ?_)) hgo _
    obtain ⟨A0, c0, e0, o0⟩ := h.own.inner i _ hrow
    rw [hv, hrl] at e0
    injection e0 with e0
    injection e0 with eA eq ec
    subst eA ec
    rw [hrl] at o0
    exact (o0.1.lt q hq).1
  · intro j u hu
    by_cases e : i = j
    · subst e
      rw [List.getElem?_set_self (by rw [h.own.len, partL_length]; exact him)] at hu
      injection hu with hu
      subst hu
      intro e2
      have e3 : g3 = gc := by simpa [Value.ownBlock] using e2
      subst e3
      rcases hat with q | q
      · exact h.ne i _ hv q
      · omega
    · rw [List.getElem?_set_ne e] at hu
      exact h.ne j u hu

theorem unit_made (n k : Nat) : ((madeCells (Value.int .i64 0).cells (n * 1)).toList).set k (.int .i64 1) = ints (unitL n k) := by
  have e : (madeCells (Value.int .i64 0).cells (n * 1)).toList = List.replicate n (.int .i64 0) := by rw [Nat.mul_one]; exact toList_madeCells_one _ _
  rw [e]
  unfold unitL ints intsK
  rw [List.map_set, List.map_replicate]
theorem made_cell {w : World} {lo n g k : Nat} {T : TypeId} (h : w.ownsRow lo T 1 (.slice (some ⟨g, 0, none⟩) n n) n (madeCells (Value.int .i64 0).cells (n * 1)).toList) (hk : k < n) : w.cell? ⟨g, k, none⟩ = some (.int .i64 0) := by
  have hcl := h.cellAt k (by omega)
  rw [show (madeCells (Value.int .i64 0).cells (n * 1)).toList = List.replicate n (.int .i64 0) by rw [Nat.mul_one]; exact toList_madeCells_one _ _, List.getElem?_replicate, if_pos hk] at hcl
  exact hcl
set_option maxHeartbeats 8000000 in
theorem sInverseMatrix_L (A : Option Addr) (n c B : Nat) (m : List (List Int)) (w : World) (hl : m.length = n) (hn : n + total m ≤ 1048576) (hB : B ≤ w.heap.size) (h : Mat w B A m) :
    Calls Try.prog 10 #[.slice A n c] w (ResM (invA m) w) := by
  cases hm : isMatB m
  · have H := Lib.hid (invA_no1 hm)
    have HC := matCode_no hm
    have t : (matCode m != 0) = true := bne_t (by rw [HC]; omega)
    have HL := Lib.hid hl
    clear HC hl hm
    go_enter Try.func10, Try.ntmps10
    go_wp2_with fail
    refine (l01Matrix_any _ _ _ B m _ HL.out (by omega) h).mono ?_
    rintro e w' ⟨rfl, j, rfl⟩
    go_wp2
    go_ret2
    exact ResM.nil H.out (below_drewN (Below.refl _ _) _)
  · obtain ⟨m1, m8, q1, q8, mw, mn⟩ := isMatB_parts hm
    have HC := matCode_yes hm
    have t : (matCode m != 0) = false := bne_f (by rw [HC])
    obtain ⟨r, hr⟩ := at_lt (show 0 < m.length by omega)
    have er : m.getD 0 [] = r := getD_of hr
    obtain ⟨ba, oa, Ak, ck, rfl, hba, hca, _, _, _⟩ := h 0 r hr
    rw [Nat.add_zero] at hca
    have n0 : (0 : Int) < (n : Int) := by omega
    have HL := Lib.hid hl
    by_cases hq : n = r.length
    · have H5 : Hid (detL m = 0 → invA m = ([], 5)) := fun hd => invA_no5 hm (.inr hd)
      have H0 : Hid (detL m ≠ 0 → invA m = (invL m, 0)) := fun hd => invA_yes hm (by rw [er, hl]; exact hq) hd
      have tq := bne_f (show (n : Int) = (r.length : Int) by omega)
      have HW : Hid (Wide m n) := by rw [Hid, hq, ← er]; exact mw
      have HN := Lib.hid mn
      have n8 : n ≤ 8 := by omega
      have n1 : 0 < n := by omega
      have HD := detOf_all n n8
      clear HC hl hm hr er mw mn hq
      go_enter Try.func10, Try.ntmps10
      go_wp2_with fail
      refine (l01Matrix_any _ _ _ B m _ HL.out (by omega) h).mono ?_
      rintro e w' ⟨rfl, j1, rfl⟩
      have bj : Below w.heap.size w (w.drewN j1) := below_drewN (Below.refl _ _) _
      have CD := HD (some ⟨ba, oa, none⟩) c B m (w.drewN j1) HL.out HW.out HN.out (by have := bj.size; omega) (h.below bj hB)
      obtain ⟨d, hdd⟩ : ∃ d, d = detL m := ⟨_, rfl⟩
      rw [← hdd] at CD H5 H0
      have HDD := Lib.hid hdd
      clear hdd
      go_wp2_with fail
      refine CD.mono ?_
      rintro e w1 ⟨rfl, b1⟩
      have B1 := Lib.hid (bj.trans (b1.mono bj.size))
      clear CD b1 bj
      by_cases hd : d = 0
      · have td := beq_t hd
        have H := Lib.hid (H5.out hd)
        clear hd H5 H0
        go_wp2
        go_ret2
        exact ResM.nil H.out B1.out
      · have td := beq_f hd
        have H := Lib.hid (H0.out hd)
        have HNZ : Hid (detL m ≠ 0) := by rw [Hid, ← HDD.out]; exact hd
        obtain ⟨j0, hj, hy0, hy1, hy2⟩ := info_parts info_row
        obtain ⟨i0, hi0, hz0, hz1, hz2⟩ := info_parts info_i64
        clear hd H5 H0
        go_wp2_with (at_make; refine wpList_make_full _ rfl (.tmp 26) (.tmp 26) 22 rfl w1.heap.size 32 j0 _ 1 Try.underlying22 hj hy0 hy1 .i64 .i64 _ _ n rfl rfl rfl rfl (by rw [hy2]; omega) (by simp only [maxLen]; omega) (Nat.le_refl _) ?_; intro w2 hown hg)
        have hz2' : w1.heap.size < w2.heap.size := (hown.lt w1.heap.size rfl).2
        have hbl := OwnMat.blank hown hz2'
        have b12 : Below w1.heap.size w1 w2 := (Below.refl _ _).grown hg (Nat.le_refl _) (fun k hk => by cases hk)
        obtain ⟨g, hgg⟩ : ∃ g, g = w1.heap.size := ⟨_, rfl⟩
        rw [← hgg] at hown
        have S0 : Hid (∃ vs, OwnMat w2 w.heap.size w2.heap.size (.slice (some ⟨g, 0, none⟩) n n) n (partL m 0 0) vs ∧ Below w.heap.size w w2) := ⟨_, by rw [partL_zero, HL.out, hgg]; exact hbl.more B1.out.size (Nat.le_refl _), B1.out.trans (b12.mono B1.out.size)⟩
        rw [← hgg]
        clear hown hg hbl b12 hgg hz2'
        go_wp2_with fail
        go_loopw [5] (fun i wr => ∃ k : Nat, k ≤ n ∧ i = .int .i64 k ∧ Hid (∃ vs, OwnMat wr w.heap.size wr.heap.size (.slice (some ⟨g, 0, none⟩) n n) n (partL m k 0) vs ∧ Below w.heap.size w wr)) (fun i _ => n - (intOf i).toNat)
        case atStart => exact ⟨0, Nat.zero_le _, rfl, S0⟩
        case round =>
          obtain ⟨k, hk, rfl, HS⟩ := hrel
          clear S0
          by_cases hlt : k < n
          · have k0 : (0 : Int) ≤ (k : Int) := Int.natCast_nonneg _
            have k1 : (k : Int) < (n : Int) := by omega
            go_wp2_with (at_make; refine wpList_make_full _ rfl (.tmp 35) (.tmp 35) 32 rfl wr.heap.size 2 i0 _ 1 Try.underlying32 hi0 hz0 hz1 .i64 .i64 _ _ n rfl rfl rfl rfl (by rw [hz2]; omega) (by simp only [maxLen]; omega) (Nat.le_refl _) ?_; intro w4 hown4 hg4; have hcl := made_cell hown4 hlt; have hfr := hown4.frozenAt k)
            have b4 : Below wr.heap.size wr w4 := (Below.refl _ _).grown hg4 (Nat.le_refl _) (fun k hk => by cases hk)
            have hset := (hown4.stored k (.int .i64 1)).1
            rw [unit_made] at hset
            have HSET := Lib.hid hset
            have B4 : Hid (Below wr.heap.size wr (w4.setCell ⟨wr.heap.size, k, none⟩ (.int .i64 1))) := below_set b4 (Nat.le_refl _) _
            clear hown4 hg4 hset b4
            go_wp2_with fail
            generalize (w4.setCell ⟨wr.heap.size, k, none⟩ (.int .i64 1)) = W at *
            obtain ⟨vs0, HO, HBw⟩ := HS.out
            have hbW := HBw.trans (B4.out.mono HBw.size)
            refine (l01Solve_any (some ⟨ba, oa, none⟩) wr.heap.size 0 n c n W.heap.size m (unitL n k) W HL.out (unitL_length n k) n1 n8 HW.out HN.out (unitL_num n k) HNZ.out (Nat.le_refl _) ((h.below hbW hB).more (by have := hbW.size; omega)) (OwnR.of HSET.out).row).mono ?_
            rintro e w5 hsol
            obtain ⟨A2, c2, rfl, own2, b5⟩ := hsol
            rcases own2.2 with ⟨_, e2⟩ | ⟨gc, cap, cur, hv, hgc, _⟩
            · omega
            · injection hv with e1 e2 e3
              subst e1 e3
              have hwW := hbW.size
              have hWW := B4.out.size
              have h55 := b5.size
              have C0 : Hid (∃ vs, InvC w w5 n g gc c2 m k 0 (solL m (unitL n k) n) vs) := ⟨vs0, ⟨(HO.below (B4.out.trans (b5.mono hWW)) (Nat.le_refl _)).more (Nat.le_refl _) (by omega), hbW.trans (b5.mono hwW),
                ⟨own2.1, own2.2.imp id (fun ⟨g, c', cu, e, hb, rest⟩ => ⟨g, c', cu, e, Nat.le_trans hwW hb, rest⟩)⟩, fun j u hu e => by
                  have hjl : j < (partL m k 0).length := by
                    rcases Nat.lt_or_ge j (partL m k 0).length with q | q
                    · exact q
                    · rw [List.getElem?_eq_none (by rw [HO.len]; exact q)] at hu; cases hu
                  obtain ⟨A7, c7, e7, o7⟩ := HO.inner j _ (List.getElem?_eq_getElem hjl)
                  rw [hu] at e7
                  injection e7 with e7
                  subst e7
                  have := o7.2 gc e
                  omega⟩⟩
              clear own2 b5 HO HBw hbW HSET HS hcl hfr
              go_wp2_with fail
              go_loopw [9] (fun i wx => ∃ j : Nat, j ≤ n ∧ i = .int .i64 j ∧ Hid (∃ vs, InvC w wx n g gc c2 m k j (solL m (unitL n k) n) vs)) (fun i _ => n - (intOf i).toNat)
              case atStart => exact ⟨0, Nat.zero_le _, rfl, C0⟩
              case round =>
                obtain ⟨j, hj2, rfl, HC⟩ := hrel
                clear C0
                by_cases hlt2 : j < n
                · obtain ⟨vs, C⟩ := HC.out
                  have hjm : j < m.length := by rw [HL.out]; exact hlt2
                  have hrow := partL_at (k := k) (i := j) hjm
                  rw [if_neg (by omega)] at hrow
                  have hrl : ((invRow m j).take k).length = k := by rw [List.length_take, invRow_length, HL.out]; omega
                  obtain ⟨A3, c3, hv3, o3⟩ := C.own.inner j _ hrow
                  rw [hrl] at hv3 o3
                  have hout := C.own.outer.1.cellAt j (by omega)
                  rw [hv3] at hout
                  have hfo := C.own.outer.1.frozenAt j
                  have hcc := C.col.cellAt j (by omega)
                  rw [ints_at (solL_unit HL.out HW.out hlt2)] at hcc
                  have hx : (invRow m j)[k]? = some (cramE m j k) := by unfold invRow; rw [List.getElem?_map, List.getElem?_range (by rw [HL.out]; exact hlt)]; rfl
                  obtain ⟨x, hxx⟩ : ∃ x, x = cramE m j k := ⟨_, rfl⟩
                  rw [← hxx] at hx hcc
                  have hgw : g < wr.heap.size := C.own.outer.2 g rfl
                  have hcw : gc < wr.heap.size := (C.col.lt gc rfl).2
                  have hbz := C.below.size
                  have HNE : Hid (some g ≠ Value.ownBlock (.slice A3 k c3)) := fun e => by
                    rcases own_types o3.1 C.own.outer.1 (by decide) with q | q
                    · rw [q] at e; cases e
                    · exact q e.symm
                  have HNE2 : Hid (some gc ≠ Value.ownBlock (.slice A3 k c3)) := fun e => C.ne j _ hv3 e.symm
                  have HOW : Hid (∀ W', Below wr.heap.size wr W' → W'.ownsRow w.heap.size 2 1 (.slice A3 k c3) k (ints ((invRow m j).take k))) := fun W' hb => (o3.below hb (Nat.le_refl _)).1
                  have HK : Hid (∀ W', Below wr.heap.size wr W' → W'.cell? ⟨g, j, none⟩ = some (.slice A3 k c3) ∧ W'.cell? ⟨gc, j, none⟩ = some (.int .i64 x) ∧ W'.frozen? ⟨g, j, none⟩ = false) := fun W' hb =>
                    ⟨(World.cell?_of_block (hb.block g hgw)).trans hout, (World.cell?_of_block (hb.block gc hcw)).trans hcc, (World.frozen?_of_block (hb.block g hgw)).trans hfo⟩
                  have HK2 : Hid (∀ W' W3, Below wr.heap.size wr W' → W'.grownBy W3 (Value.ownBlock (.slice A3 k c3)) → W3.cell? ⟨g, j, none⟩ = some (.slice A3 k c3) ∧ W3.cell? ⟨gc, j, none⟩ = some (.int .i64 x) ∧ W3.frozen? ⟨g, j, none⟩ = false) := fun W' W3 hb hg => by
                    obtain ⟨q1, q2, q3⟩ := HK.out W' hb
                    have hs := hb.size
                    exact ⟨(World.cell?_of_block (hg.block g (by omega) HNE.out)).trans q1, (World.cell?_of_block (hg.block gc (by omega) HNE2.out)).trans q2, (World.frozen?_of_block (hg.block g (by omega) HNE.out)).trans q3⟩
                  have HSTEP : Hid (∀ wa w3 g3 c4, Below wr.heap.size wr wa → w3.ownsRow w.heap.size 2 1 (.slice (some ⟨g3, 0, none⟩) (k + 1) c4) (k + 1) (ints ((invRow m j).take k ++ [x])) → wa.grownBy w3 (Value.ownBlock (.slice A3 k c3)) → (Value.ownBlock (.slice A3 k c3) = some g3 ∨ g3 = wr.heap.size + 1) → g3 < w3.heap.size →
                      ∃ vs', InvC w (w3.setCell ⟨g, j, none⟩ (.slice (some ⟨g3, 0, none⟩) (k + 1) c4)) n g gc c2 m k (j + 1) (solL m (unitL n k) n) vs') := fun wa w3 g3 c4 h1 h2 h3 h4 h5 => C.step HL.out hlt2 hlt hx h1 hv3 h2 h3 h4 (by omega) h5
                  have j0' : (0 : Int) ≤ (j : Int) := Int.natCast_nonneg _
                  have j1' : (j : Int) < (n : Int) := by omega
                  have HIX : Hid (ints ((invRow m j).take k) ++ [.int .i64 x] = ints ((invRow m j).take k ++ [x])) := by simp [Hid, ints, intsK]
                  have hout2 : (wr.alloc (.cells #[.int .i64 x] 2)).cell? ⟨g, j, none⟩ = some (.slice A3 k c3) := (HK.out _ ((Below.refl _ _).alloc (Nat.le_refl _) _)).1
                  have hout3 : (wr.drew.alloc (.cells #[.int .i64 x] 2)).cell? ⟨g, j, none⟩ = some (.slice A3 k c3) := (HK.out _ ((Below.refl _ _).alloc (Nat.le_refl _) _)).1
                  clear C HC hrow hrl hv3 o3 hx hxx hgw hcw
                  go_wp2_with fail
                  go_region_law (first
                      | (refine step_append_lies _ (by rfl) _ _ _ (by rfl) w.heap.size 2 i0 _ 1 8 Try.underlying32 hi0 hz0 hz1 hz2 rfl (by omega) (.slice A3 k c3) k (ints ((invRow m j).take k)) (by rfl) (HOW.out _ (by exact (below_drewN (Below.refl _ _) _).alloc (Nat.le_refl _) _)) ⟨wr.heap.size, 0, none⟩ 1 1 [.int .i64 x] (by rfl) (by rfl) (World.news_of_block (cs := #[.int .i64 x]) (heap_alloc_new _ _)) (by simp [Value.oneCell']) (by omega) (by simp only [maxLen]; omega) (by omega) (by simp; omega) (wr.heap.size + 1) (by simp) ?_; intro g3 cap3 w3 hown3 hgrow3 hat3 hlt3; have hf3 := (HK2.out _ _ ((below_drewN (Below.refl _ _) _).alloc (Nat.le_refl _) _) hgrow3).2.2; have hg3 := (HK2.out _ _ ((below_drewN (Below.refl _ _) _).alloc (Nat.le_refl _) _) hgrow3).1))
                  all_goals
                    rw [HIX.out] at hown3
                    have G := Lib.hid (HSTEP.out _ _ _ _ ((Below.refl wr.heap.size wr).alloc (Nat.le_refl _) _).drew hown3 hgrow3 hat3 hlt3)
                    clear hown3 hgrow3 hat3 hf3 hg3
                    go_wp2
                    go_roundw
                    case rel => exact ⟨j + 1, by omega, by go_num, G⟩
                    case measure => simp [intOf]; omega
                · obtain rfl : j = n := by omega
                  obtain ⟨vs, C⟩ := HC.out
                  have e9 : partL m k j = partL m (k + 1) 0 := by rw [← HL.out]; exact partL_next m k
                  have G : Hid (∃ vs, OwnMat wr w.heap.size wr.heap.size (.slice (some ⟨g, 0, none⟩) j j) j (partL m (k + 1) 0) vs ∧ Below w.heap.size w wr) := ⟨vs, by rw [← e9]; exact C.own, C.below⟩
                  clear C HC e9
                  go_wp2
                  go_roundw
                  case rel => exact ⟨k + 1, by omega, by go_num, G⟩
                  case measure => simp [intOf]; omega
          · obtain rfl : k = n := by omega
            obtain ⟨vs, HO, HBw⟩ := HS.out
            have e9 : partL m k 0 = invL m := by rw [← HL.out]; exact partL_done m
            rw [e9] at HO
            have G : Hid (ResM (invA m) w (.returned (.tuple #[.slice (some ⟨g, 0, none⟩) k k, .int .i64 0])) wr) := ResM.of H.out (invL_small HL.out n8) HO HBw
            clear HO HBw HS e9
            go_wp2
            go_ret2
            exact G.out
    · have H := Lib.hid (invA_no5 hm (.inl (by rw [er, hl]; exact hq)))
      have tq := bne_t (show (n : Int) ≠ (r.length : Int) by omega)
      clear HC hl hm hr er mw mn hq
      go_enter Try.func10, Try.ntmps10
      go_wp2_with fail
      refine (l01Matrix_any _ _ _ B m _ HL.out (by omega) h).mono ?_
      rintro e w' ⟨rfl, j, rfl⟩
      go_wp2
      go_ret2
      exact ResM.nil H.out (below_drewN (Below.refl _ _) _)
end Go.Proofs.Yteffgpcjdfjhfaa
