/-
  What TimesForests answers, the program's and the model's.
-/
import Derived.Test.YtgicbmfcojfjcaaForP
import Derived.Test.YtgicbmfcojfjcaaResM
import Derived.Test.YtgicbmfcojfjcaaOwn2
namespace Go.Proofs.Ytgicbmfcojfjcaa
open Go.RowKit Fld
set_option linter.unusedVariables false
set_option linter.unusedSimpArgs false
set_option maxRecDepth 100000

theorem strs_app (a b : List (List UInt8)) : strs a ++ strs b = strs (a ++ b) := by simp [strs]
theorem strs_one (l : List (List UInt8)) : ∀ u ∈ strs l, u.oneCell' = true := fun u hu => by
  unfold strs at hu
  rw [List.mem_map] at hu
  obtain ⟨x, _, rfl⟩ := hu
  rfl
set_option maxHeartbeats 1000000 in
theorem l03Times_any (A A' : Option Addr) (n n' c c' B B' : Nat) (f g : List (List Int)) (w : World) (hl : f.length = n) (hl' : g.length = n') (h8 : n + n' ≤ 8) (ht : n + total f ≤ 1048576) (hlv : ∀ r ∈ f ++ g, Tr.isLv r = true) (hB : B ≤ w.heap.size) (hB' : B' ≤ w.heap.size) (h : Mat w B A f) (h' : Mat w B' A' g) (hA : A' = none → n' = 0 ∧ c' = 0) :
    Calls Try.prog 87 #[.slice A n c, .slice A' n' c'] w (ResRws (Tr.sortL (f ++ g)) w) := by
  obtain ⟨j0, hj, hy0, hy1, hy2⟩ := info_parts info_row
  have HL := Lib.hid hl
  have HL' := Lib.hid hl'
  have HLV := Lib.hid hlv
  have C0 := l01Own2_any A n c B f w hl ht (fun r hr => (lv_bd (hlv r (by simp [hr]))).1) hB h
  have HFG : Hid ((f ++ g).length = n + n') := by rw [Hid, List.length_append, hl, hl']
  clear hl hl' hlv
  have fin : ∀ (A9 : Option Addr) (c9 : Nat) (us : List Value) (w9 : World), w9.ownsRow w.heap.size 30 1 (.slice A9 (n + n') c9) (n + n') us → Vals w9 w9.heap.size (f ++ g) us → Below w.heap.size w w9 → Calls Try.prog 81 #[.slice A9 (n + n') c9] w9 (ResRws (Tr.sortL (f ++ g)) w) := by
    intro A9 c9 us w9 ho hv hb
    refine (l03Sort_any A9 (n + n') c9 w9.heap.size (f ++ g) w9 HFG.out h8 HLV.out (Nat.le_refl _) (Rws.mat ⟨us, row_of_own ho, hv⟩)).mono ?_
    rintro e w10 ⟨b, o, cap, rfl, hc, hr, bel⟩
    exact ⟨b, o, cap, rfl, hc, hr, hb.trans (bel.mono hb.size)⟩
  have HFIN := Lib.hid fin
  clear fin
  cases hA' : A' with
  | none =>
    obtain ⟨e1, e2⟩ := hA hA'
    subst hA' e1 e2
    have hg : g = [] := List.eq_nil_of_length_eq_zero HL'.out
    subst hg
    clear hA
    go_enter Try.func87, Try.ntmps87
    go_wp2_with fail
    refine C0.mono ?_
    rintro e w1 ⟨A1, c1, vs1, rfl, own1, bel1⟩
    have hown := own1.outer.1
    have GB := Lib.hid bel1
    have GO := Lib.hid own1
    clear own1 bel1 C0
    go_wp2_with (at_builtin; refine wpList_append_own_none rfl (.tmp 6) (.tmp 7) 22 rfl w.heap.size 30 j0 1 Try.underlying22 hj (.slice A1 n c1) n vs1 rfl hown rfl ?_)
    clear hown
    go_wp2_with fail
    refine (HFIN.out A1 c1 vs1 w1 GO.out.outer.1 (by rw [List.append_nil]; exact GO.out.vals) GB.out).mono ?_
    rintro e w2 hr
    obtain ⟨b, o, cap, rfl, hc, hr1, bel⟩ := hr
    have G1 := Lib.hid hr1
    have G2 := Lib.hid bel
    have G3 := Lib.hid hc
    clear hr1 bel hc
    go_wp2
    go_ret
    exact ⟨b, o, cap, by first | rfl | (rw [List.append_nil]; rfl), G3.out, G1.out, G2.out⟩
  | some ad =>
    subst hA'
    obtain ⟨us, hrow, hvals⟩ := h'.vals
    have HROW := Lib.hid hrow
    have HVALS := Lib.hid hvals
    have HUL : Hid (us.length = n' * 1) := by rw [Hid, hvals.1, HL'.out, Nat.mul_one]
    have HU1 : Hid (∀ u ∈ us, u.oneCell' = true) := fun u hu => Vals.one (v := u) hvals u hu
    clear hrow hvals hA
    go_enter Try.func87, Try.ntmps87
    go_wp2_with fail
    refine C0.mono ?_
    rintro e w1 ⟨A1, c1, vs1, rfl, own1, bel1⟩
    have hown := own1.outer.1
    have GB := Lib.hid bel1
    have hs1 := bel1.size
    have GO := Lib.hid own1
    have HNW : Hid (∀ q z, us[q]? = some z → w1.cell? (ad.add q) = some z) := row_news (Row.below HROW.out bel1 hB')
    clear own1 bel1 C0
    go_wp2_with (at_builtin; refine wpList_append_own _ rfl (.tmp 6) (.tmp 7) 22 rfl w.heap.size 30 j0 _ 1 24 Try.underlying22 hj hy0 hy1 hy2 rfl (by omega) (.slice A1 n c1) n vs1 rfl hown ad n' c' us rfl HUL.out HNW.out HU1.out (by simp only [maxLen]; omega) (by omega) (by omega) ?_; intro v5 w5 own5 hgrow5 _; obtain ⟨A5, c5, rfl⟩ := own_shape' own5)
    have GB5 : Hid (Below w.heap.size w w5) := GB.out.grown hgrow5 (by omega) (fun z hz => (GO.out.outer.1.lt z hz).1)
    have GO5 := Lib.hid own5
    have GV5 : Hid (Vals w5 w5.heap.size (f ++ g) (vs1 ++ us)) := by
      have hs5 := hgrow5.size
      have v1 : Vals w5 w5.heap.size f vs1 := by
        have o5 : ∀ (k : Nat) (r : List Int), f[k]? = some r → ∃ (A : Option Addr) (c : Nat), vs1[k]? = some (Value.slice A r.length c) ∧ r.length ≤ c ∧ c ≤ maxLen ∧ Row w5 w5.heap.size A (ints r) := fun k r hr => by
          obtain ⟨A9, c9, e9, o9⟩ := GO.out.inner k r hr
          obtain ⟨q1, q2⟩ := own_cap o9.1
          have o10 := o9.grown hgrow5 (own_types o9.1 GO.out.outer.1 (by decide))
          exact ⟨A9, c9, e9, q1, q2, (OwnR.row o10).more hs5⟩
        exact ⟨GO.out.len, o5⟩
      have v2 : Vals w5 w5.heap.size g us := (HVALS.out.below GB5.out hB').more (by omega)
      exact v1.app v2
    clear own5 hgrow5 hown
    go_wp2_with fail
    refine (HFIN.out A5 c5 (vs1 ++ us) w5 GO5.out GV5.out GB5.out).mono ?_
    rintro e w2 hr
    obtain ⟨b, o, cap, rfl, hc, hr1, bel⟩ := hr
    have G1 := Lib.hid hr1
    have G2 := Lib.hid bel
    have G3 := Lib.hid hc
    clear hr1 bel hc
    go_wp2
    go_ret
    exact ⟨b, o, cap, by first | rfl | (rw [List.append_nil]; rfl), G3.out, G1.out, G2.out⟩
theorem own_none {w : World} {lo : Nat} {T : TypeId} {A : Option Addr} {n c : Nat} {vs : List Value} (h : w.ownsRow lo T 1 (.slice A n c) n vs) : A = none → n = 0 ∧ c = 0 := fun e => by
  rcases h.2 with ⟨q, rfl⟩ | ⟨g, cap, cur, q, _⟩
  · cases q; exact ⟨rfl, rfl⟩
  · cases q; cases e
set_option maxHeartbeats 1000000 in
theorem sTimesForests_L (A A' : Option Addr) (n n' c c' B B' : Nat) (f g : List (List Int)) (w : World) (hl : f.length = n) (hl' : g.length = n') (hn : n + total f ≤ 1048576) (hn' : n' + total g ≤ 1048576) (hB : B ≤ w.heap.size) (hB' : B' ≤ w.heap.size) (h : Mat w B A f) (h' : Mat w B' A' g) (hA : A' = none → n' = 0 ∧ c' = 0) :
    Calls Try.prog 24 #[.slice A n c, .slice A' n' c'] w (ResMl (timesA f g) w) := by
  have C0 := l03Forest_any A n c B f w hl hn hB h
  cases hf : isFor f
  · have G := Lib.hid (timesA_no1 (g := g) hf)
    rw [hf] at C0
    clear hl hl' hf
    go_enter Try.func24, Try.ntmps24
    go_wp2_with fail
    refine C0.mono ?_
    rintro e w1 ⟨rfl, bel1⟩
    have GB := Lib.hid bel1
    clear bel1
    go_wp2
    go_ret2
    exact ResMl.nil G.out GB.out
  · rw [hf] at C0
    have C1 := fun w1 hB1 hM => l03Forest_any A' n' c' B' g w1 hl' hn' hB1 hM
    cases hg : isFor g
    · have G := Lib.hid (timesA_no2 (f := f) hg)
      simp only [hg] at C1
      clear hl hl' hf hg
      go_enter Try.func24, Try.ntmps24
      go_wp2_with fail
      refine C0.mono ?_
      rintro e w1 ⟨rfl, bel1⟩
      have hs1 := bel1.size
      have GB1 := Lib.hid bel1
      have hM := Lib.hid (h'.below bel1 hB')
      clear bel1 C0
      go_wp2_with fail
      refine (C1 w1 (by omega) hM.out).mono ?_
      rintro e w2 ⟨rfl, bel2⟩
      have GB := Lib.hid (GB1.out.trans (bel2.mono hs1))
      clear bel2 C1
      go_wp2
      go_ret2
      exact ResMl.nil G.out GB.out
    · simp only [hg] at C1
      have C2 := fun w1 (hM : Mat w1 B A f) => l03Nodes_any A n c B f w1 hl hn hM
      have C3 := fun w1 (hM : Mat w1 B' A' g) => l03Nodes_any A' n' c' B' g w1 hl' hn' hM
      by_cases h8 : total f + total g ≤ 8
      · have G := Lib.hid (timesA_yes hf hg h8)
        obtain ⟨z1, z2, z3, z4⟩ := times_size hf hg h8
        rw [hl, hl'] at z1
        have Z3 := Lib.hid z3
        have hlv : ∀ r ∈ f ++ g, Tr.isLv r = true := fun r hr => by
          rw [List.mem_append] at hr
          rcases hr with hr | hr
          · exact (tr_lv (for_rows hf r hr)).1
          · exact (tr_lv (for_rows hg r hr)).1
        have HLV := Lib.hid hlv
        have HL := Lib.hid hl
        have HL' := Lib.hid hl'
        have HN := Lib.hid hn
        have HAA := Lib.hid hA
        obtain ⟨s, hs⟩ : ∃ s, s = total f := ⟨_, rfl⟩
        obtain ⟨s', hs'⟩ : ∃ s', s' = total g := ⟨_, rfl⟩
        simp only [← hs] at C2
        simp only [← hs'] at C3
        rw [← hs, ← hs'] at h8
        clear hl hl' hn hn' hf hg z2 z3 z4 hlv hA hs hs'
        go_enter Try.func24, Try.ntmps24
        go_wp2_with fail
        refine C0.mono ?_
        rintro e w1 ⟨rfl, bel1⟩
        have hs1 := bel1.size
        have GB1 := Lib.hid bel1
        have hM := Lib.hid (h'.below bel1 hB')
        clear bel1 C0
        go_wp2_with fail
        refine (C1 w1 (by omega) hM.out).mono ?_
        rintro e w2 ⟨rfl, bel2⟩
        have GB2 := Lib.hid (GB1.out.trans (bel2.mono hs1))
        have hs2 := GB2.out.size
        have HM := Lib.hid (h.below GB2.out hB)
        have HM' := Lib.hid (h'.below GB2.out hB')
        clear bel2 C1
        go_wp2_with fail
        refine (C2 _ HM.out).mono ?_
        rintro e w3 ⟨rfl, rfl⟩
        go_wp2_with fail
        refine (C3 _ HM'.out).mono ?_
        rintro e w3 ⟨rfl, rfl⟩
        go_wp2_with fail
        refine (l03Times_any A A' n n' c c' B B' f g _ HL.out HL'.out z1 HN.out HLV.out (by omega) (by omega) HM.out HM'.out HAA.out).mono ?_
        rintro e w3 ⟨b4, o4, cap4, rfl, hcap4, hrws, bel3⟩
        have GM := Lib.hid hrws.mat
        have GB3 := Lib.hid (GB2.out.trans (bel3.mono hs2))
        clear hrws bel3 C2 C3
        go_wp2
        go_ret2
        exact ResMl.of G.out rfl Z3.out GM.out GB3.out
      · have G := Lib.hid (timesA_big hf hg h8)
        have h8' : 8 < ((total f : Nat) : Int) + ((total g : Nat) : Int) := by omega
        have t1 : total f ≤ 1048576 := by omega
        have t2 : total g ≤ 1048576 := by omega
        obtain ⟨s, hs⟩ : ∃ s, s = total f := ⟨_, rfl⟩
        obtain ⟨s', hs'⟩ : ∃ s', s' = total g := ⟨_, rfl⟩
        simp only [← hs] at C2
        simp only [← hs'] at C3
        rw [← hs] at h8' t1
        rw [← hs'] at h8' t2
        clear hl hl' hn hn' hf hg hA hs hs' h8
        go_enter Try.func24, Try.ntmps24
        go_wp2_with fail
        refine C0.mono ?_
        rintro e w1 ⟨rfl, bel1⟩
        have hs1 := bel1.size
        have GB1 := Lib.hid bel1
        have hM := Lib.hid (h'.below bel1 hB')
        clear bel1 C0
        go_wp2_with fail
        refine (C1 w1 (by omega) hM.out).mono ?_
        rintro e w2 ⟨rfl, bel2⟩
        have GB2 := Lib.hid (GB1.out.trans (bel2.mono hs1))
        have HM := Lib.hid (h.below GB2.out hB)
        have HM' := Lib.hid (h'.below GB2.out hB')
        clear bel2 C1
        go_wp2_with fail
        refine (C2 _ HM.out).mono ?_
        rintro e w3 ⟨rfl, rfl⟩
        go_wp2_with fail
        refine (C3 _ HM'.out).mono ?_
        rintro e w3 ⟨rfl, rfl⟩
        clear C2 C3
        go_wp2
        go_ret2
        exact ResMl.nil G.out GB2.out
set_option maxHeartbeats 1000000 in
theorem pTimesForests_L (A A' : Option Addr) (n n' c c' B B' : Nat) (f g : List (List Int)) (w : World) (hl : f.length = n) (hl' : g.length = n') (hn : n + total f ≤ 1048576) (hn' : n' + total g ≤ 1048576) (hB : B ≤ w.heap.size) (hB' : B' ≤ w.heap.size) (h : Mat w B A f) (h' : Mat w B' A' g) :
    Calls Try.prog 25 #[.slice A n c, .slice A' n' c'] w (ResM (timesA f g) w) := by
  obtain ⟨i0, hi, hz0, hz1, hz2⟩ := info_parts info_tree
  have C0 := isForest_any A n c B f w hl hn hB h
  cases hf : isFor f
  · have G := Lib.hid (timesA_no1 (g := g) hf)
    rw [hf] at C0
    clear hl hl' hf
    go_enter Try.func25, Try.ntmps25
    go_wp2_with fail
    refine C0.mono ?_
    rintro e w1 ⟨rfl, bel1⟩
    have GB := Lib.hid bel1
    clear bel1
    go_wp2
    go_ret2
    exact ResM.nil G.out GB.out
  · rw [hf] at C0
    have C1 := fun w1 hB1 hM => isForest_any A' n' c' B' g w1 hl' hn' hB1 hM
    cases hg : isFor g
    · have G := Lib.hid (timesA_no2 (f := f) hg)
      simp only [hg] at C1
      clear hl hl' hf hg
      go_enter Try.func25, Try.ntmps25
      go_wp2_with fail
      refine C0.mono ?_
      rintro e w1 ⟨rfl, bel1⟩
      have hs1 := bel1.size
      have GB1 := Lib.hid bel1
      have hM := Lib.hid (h'.below bel1 hB')
      clear bel1 C0
      go_wp2_with fail
      refine (C1 w1 (by omega) hM.out).mono ?_
      rintro e w2 ⟨rfl, bel2⟩
      have GB := Lib.hid (GB1.out.trans (bel2.mono hs1))
      clear bel2 C1
      go_wp2
      go_ret2
      exact ResM.nil G.out GB.out
    · simp only [hg] at C1
      have C2 := fun w1 (hM : Mat w1 B A f) => nodesOf_any A n c B f w1 hl hn hM
      have C3 := fun w1 (hM : Mat w1 B' A' g) => nodesOf_any A' n' c' B' g w1 hl' hn' hM
      by_cases h8 : total f + total g ≤ 8
      · have G := Lib.hid (timesA_yes hf hg h8)
        obtain ⟨z1, z2, z3, z4⟩ := times_size hf hg h8
        rw [hl, hl'] at z1
        have Z3 := Lib.hid z3
        have Z4 := Lib.hid z4
        have HLV : Hid (∀ r ∈ f, Tr.isLv r = true) := fun r hr => (tr_lv (for_rows hf r hr)).1
        have HLV' : Hid (∀ r ∈ g, Tr.isLv r = true) := fun r hr => (tr_lv (for_rows hg r hr)).1
        have H16 : Hid (∀ s ∈ f.map Tr.txt ++ g.map Tr.txt, s.length ≤ 16 ∧ Brk s) := fun s hs => by
          have key : ∀ t, Tr.isLv t = true → (Tr.txt t).length ≤ 16 ∧ Brk (Tr.txt t) := fun t ht => by
            have h1 := (lv_txt ht).2.2.2
            have h2 := (lv_bd ht).2
            exact ⟨by omega, txt_brk _ _⟩
          rw [List.mem_append, List.mem_map, List.mem_map] at hs
          rcases hs with ⟨t, ht, rfl⟩ | ⟨t, ht, rfl⟩
          · exact key t (HLV.out t ht)
          · exact key t (HLV'.out t ht)
        have HN8 : Hid (n ≤ 1048576) := by rw [Hid]; omega
        have HN8' : Hid (n' ≤ 1048576) := by rw [Hid]; omega
        have HL := Lib.hid hl
        have HL' := Lib.hid hl'
        obtain ⟨s, hs⟩ : ∃ s, s = total f := ⟨_, rfl⟩
        obtain ⟨s', hs'⟩ : ∃ s', s' = total g := ⟨_, rfl⟩
        simp only [← hs] at C2
        simp only [← hs'] at C3
        rw [← hs, ← hs'] at h8
        clear hl hl' hn hn' hf hg z2 z3 z4 hs hs'
        go_enter Try.func25, Try.ntmps25
        go_wp2_with fail
        refine C0.mono ?_
        rintro e w1 ⟨rfl, bel1⟩
        have hs1 := bel1.size
        have GB1 := Lib.hid bel1
        have hM := Lib.hid (h'.below bel1 hB')
        clear bel1 C0
        go_wp2_with fail
        refine (C1 w1 (by omega) hM.out).mono ?_
        rintro e w2 ⟨rfl, bel2⟩
        have GB2 := Lib.hid (GB1.out.trans (bel2.mono hs1))
        have hs2 := GB2.out.size
        have HM := Lib.hid (h.below GB2.out hB)
        have HM' := Lib.hid (h'.below GB2.out hB')
        clear bel2 C1
        go_wp2_with fail
        refine (C2 _ HM.out).mono ?_
        rintro e w3 ⟨rfl, rfl⟩
        go_wp2_with fail
        refine (C3 _ HM'.out).mono ?_
        rintro e w3 ⟨rfl, rfl⟩
        clear C2 C3
        go_wp2_with fail
        refine (treesOf_any A n c B f w2 HL.out HN8.out HLV.out (by omega) HM.out).mono ?_
        rintro e w3 ⟨rfl, own3, bel3⟩
        have hs3 := bel3.size
        have GB3 := Lib.hid (GB2.out.trans (bel3.mono hs2))
        have HO3 := Lib.hid own3
        have HM3 := Lib.hid (h'.below GB3.out hB')
        have hs03 := GB3.out.size
        clear own3 bel3
        go_wp2_with fail
        refine (treesOf_any A' n' c' B' g w3 HL'.out HN8'.out HLV'.out (by omega) HM3.out).mono ?_
        rintro e w4 ⟨rfl, own4, bel4⟩
        have GB4 := Lib.hid (GB3.out.trans (bel4.mono hs03))
        have own3' := ((OwnR.of HO3.out).below bel4 (Nat.le_refl _)).1
        have HO3' := Lib.hid own3'
        have HNW := Lib.hid (row_news (row_of_own own4))
        have HNL : Hid ((strs (g.map Tr.txt)).length = n' * 1) := by rw [Hid, strs_length, List.length_map, HL'.out, Nat.mul_one]
        have HON := Lib.hid (strs_one (g.map Tr.txt))
        have HSA := Lib.hid (strs_app (f.map Tr.txt) (g.map Tr.txt))
        have hs4 := bel4.size
        have hs04 := GB4.out.size
        clear own4 bel4
        go_wp2_with (at_builtin; refine wpList_append_own _ rfl (.tmp 21) (.tmp 23) 72 rfl w2.heap.size 80 i0 _ 1 16 Try.underlying72 hi hz0 hz1 hz2 rfl (by omega) (.slice (some ⟨w2.heap.size, 0, none⟩) n n) n (strs (f.map Tr.txt)) rfl own3' ⟨w3.heap.size, 0, none⟩ n' n' (strs (g.map Tr.txt)) rfl HNL.out HNW.out HON.out (by simp only [maxLen]; omega) (by omega) (by omega) ?_; intro v5 w5 own5 hgrow5 _; obtain ⟨A5, c5, rfl⟩ := own_shape' own5)
        rw [HSA.out] at own5
        have GB5 : Hid (Below w.heap.size w w5) := GB4.out.grown hgrow5 (by omega) (fun z hz => by have := (HO3'.out.lt z hz).1; omega)
        have HO5 : Hid (w5.ownsRow w.heap.size 80 1 (.slice A5 (n + n') c5) (n + n') (strs (f.map Tr.txt ++ g.map Tr.txt))) := by
          have hs5 : w2.heap.size ≤ w5.heap.size := by have := hgrow5.size; omega
          exact ((OwnR.of own5).more hs2 (Nat.le_refl _)).1
        clear own5 hgrow5 own3'
        go_wp2_with fail
        refine (forestOf_any A5 w.heap.size (n + n') c5 (f.map Tr.txt ++ g.map Tr.txt) w5 (by omega) H16.out GB5.out.size HO5.out).mono ?_
        rintro e w6 ⟨A6, c6, vs6, rfl, own6, bel6⟩
        rw [Z4.out] at own6
        have GO := Lib.hid own6
        have GB6 : Hid (Below w.heap.size w w6) := GB5.out.trans bel6
        clear own6 bel6
        go_wp2
        go_ret2
        exact ResM.of G.out Z3.out GO.out GB6.out
      · have G := Lib.hid (timesA_big hf hg h8)
        have h8' : 8 < ((total f : Nat) : Int) + ((total g : Nat) : Int) := by omega
        have t1 : total f ≤ 1048576 := by omega
        have t2 : total g ≤ 1048576 := by omega
        obtain ⟨s, hs⟩ : ∃ s, s = total f := ⟨_, rfl⟩
        obtain ⟨s', hs'⟩ : ∃ s', s' = total g := ⟨_, rfl⟩
        simp only [← hs] at C2
        simp only [← hs'] at C3
        rw [← hs] at h8' t1
        rw [← hs'] at h8' t2
        clear hl hl' hn hn' hf hg hs hs' h8
        go_enter Try.func25, Try.ntmps25
        go_wp2_with fail
        refine C0.mono ?_
        rintro e w1 ⟨rfl, bel1⟩
        have hs1 := bel1.size
        have GB1 := Lib.hid bel1
        have hM := Lib.hid (h'.below bel1 hB')
        clear bel1 C0
        go_wp2_with fail
        refine (C1 w1 (by omega) hM.out).mono ?_
        rintro e w2 ⟨rfl, bel2⟩
        have GB2 := Lib.hid (GB1.out.trans (bel2.mono hs1))
        have HM := Lib.hid (h.below GB2.out hB)
        have HM' := Lib.hid (h'.below GB2.out hB')
        clear bel2 C1
        go_wp2_with fail
        refine (C2 _ HM.out).mono ?_
        rintro e w3 ⟨rfl, rfl⟩
        go_wp2_with fail
        refine (C3 _ HM'.out).mono ?_
        rintro e w3 ⟨rfl, rfl⟩
        clear C2 C3
        go_wp2
        go_ret2
        exact ResM.nil G.out GB2.out
end Go.Proofs.Ytgicbmfcojfjcaa
