/-
  The model's parser of brackets.
-/
import Derived.Test.YtgicbmfcojfjcaaReadP
import Derived.Test.YtgicbmfcojfjcaaParts
import Derived.Test.YtgicbmfcojfjcaaLvl
namespace Go.Proofs.Ytgicbmfcojfjcaa
open Go.RowKit Fld
set_option linter.unusedVariables false
set_option linter.unusedSimpArgs false
set_option maxRecDepth 100000

theorem add_rows {m : List (List Int)} {x : Int} {b : Nat} (h : ∀ r ∈ m, r.length ≤ b) : ∀ r ∈ Tr.addNode m x, r.length ≤ b + 1 := by
  intro r hr
  unfold Tr.addNode at hr
  simp only at hr
  rcases List.mem_or_eq_of_mem_set hr with hr | hr
  · split at hr
    · rw [List.mem_append, List.mem_singleton] at hr
      rcases hr with hr | rfl
      · have := h r hr; omega
      · simp
    · have := h r hr; omega
  · rw [hr, List.length_append, List.length_singleton]
    have key : ∀ (o : List (List Int)) (i : Nat), (∀ r ∈ o, r.length ≤ b) → (o.getD i []).length ≤ b := fun o i ho => by
      rw [List.getD_eq_getElem?_getD]
      cases hh : o[i]? with
      | none => simp
      | some y => exact ho y (List.mem_of_getElem? hh)
    have := key (if x = 1 then m ++ [[]] else m) ((if x = 1 then m ++ [[]] else m).length - 1) (fun r hr => by
      split at hr
      · rw [List.mem_append, List.mem_singleton] at hr
        rcases hr with hr | rfl
        · exact h r hr
        · simp
      · exact h r hr)
    omega
set_option maxHeartbeats 2000000 in
theorem l03Read_any (s : List UInt8) (w : World) (hn : s.length ≤ 1048576) :
    Calls Try.prog 88 #[.string ⟨s.toArray⟩] w fun e w' => ∃ A q c vs, e = .returned (.tuple #[.slice A q c, .bool (Tr.rdL [] 0 s).2]) ∧ OwnMat w' w.heap.size w'.heap.size (.slice A q c) q (Tr.rdL [] 0 s).1 vs ∧ Below w.heap.size w w' := by
  obtain ⟨i0, hi, hz0, hz1, hz2⟩ := info_parts info_i64
  obtain ⟨j0, hj, hy0, hy1, hy2⟩ := info_parts info_row
  have HN := Lib.hid hn
  obtain ⟨S, hS⟩ : ∃ S : ByteArray, S = ⟨s.toArray⟩ := ⟨_, rfl⟩
  have HSZ : Hid (S.size = s.length) := by rw [Hid, hS]; exact size_S s
  have HS := Lib.hid hS
  rw [← hS]
  have hs20 : S.size ≤ 1048576 := by rw [HSZ.out]; exact hn
  clear hS hn
  go_enter Try.func88, Try.ntmps88
  go_wp2_with fail
  go_loopw [4, 5, 6] (fun v l i wr => ∃ (p o q g cap : Nat) (m : List (List Int)), p ≤ S.size ∧ o ≤ p ∧ q ≤ p ∧ (0 < o → 1 ≤ q) ∧ v = .slice (some ⟨g, 0, none⟩) q cap ∧ l = .int .i64 o ∧ i = .int .i64 p ∧ Hid (Tr.rdL [] 0 s = Tr.rdL m o (s.drop p)) ∧ Hid (m.length = q) ∧ Hid (∀ r ∈ m, r.length ≤ p) ∧ GrowM w g q cap m wr) (fun _ _ i _ => S.size - (intOf i).toNat)
  case atStart => exact ⟨0, 0, 0, _, 0, [], Nat.zero_le _, Nat.le_refl _, Nat.le_refl _, by omega, rfl, rfl, rfl, rfl, rfl, fun r hr => (by cases hr), GrowM.start ..⟩
  case round =>
    obtain ⟨p, o, q, g, cap, m, hp, hop, hqp, hoq, rfl, rfl, rfl, HE, HQ, HRB, vs, HM, HBel⟩ := hrel
    have hsz := HBel.size
    by_cases hlt : p < S.size
    · obtain ⟨c, hc⟩ := at_lt (show p < s.length by rw [← HSZ.out]; exact hlt)
      have hbyte : S[p]'hlt = c := by
        have hS := HS.out
        subst hS
        exact byte_at hc hlt
      by_cases h91 : c = 91
      · subst h91
        have t91 : ((S[p]'hlt).toNat : Int) = 91 := by rw [hbyte]; rfl
        have tb91 := beq_t t91
        have HE2 : Hid (Tr.rdL [] 0 s = Tr.rdL (Tr.addNode m ((o : Int) + 1)) (o + 1) (s.drop (p + 1))) := by rw [Hid, HE.out, Tr.rd_open hc]
        have HRB2 : Hid (∀ r ∈ Tr.addNode m ((o : Int) + 1), r.length ≤ p + 1) := add_rows HRB.out
        clear hc hbyte HE
        by_cases ho : o = 0
        · subst ho
          have HM' := Lib.hid HM
          have HBel' := Lib.hid HBel
          have hown1 := (HM.below ((Below.refl wr.heap.size wr).alloc (Nat.le_refl _) (.cells #[] 2)) (Nat.le_refl _)).outer.1
          have HOWN1 := Lib.hid hown1
          clear HM HBel
          have hvv : (vs ++ [Value.slice (some ⟨wr.heap.size, 0, none⟩) 0 0])[q]? = some (.slice (some ⟨wr.heap.size, 0, none⟩) 0 0) := by
            have e : vs.length = q := by rw [HM'.out.len]; exact HQ.out
            rw [List.getElem?_append_right (by omega), e, Nat.sub_self]; rfl
          have HVV := Lib.hid hvv
          have HRR : Hid ((m ++ [[]])[q]? = some []) := by
            have e := HQ.out
            rw [Hid, List.getElem?_append_right (by omega), e, Nat.sub_self]; rfl
          have HRL : Hid (([] : List Int).length = 0) := rfl
          have HSET : Hid ((m ++ [[]]).set q ([] ++ [0]) = Tr.addNode m (((0 : Nat) : Int) + 1)) := by
            rw [Hid, show (((0 : Nat) : Int) + 1) = 1 from rfl, add_new, HQ.out]; rfl
          have HLEN : Hid ((Tr.addNode m (((0 : Nat) : Int) + 1)).length = q + 1) := by rw [Hid, show (((0 : Nat) : Int) + 1) = 1 from rfl, add_length, if_pos rfl, HQ.out]
          clear hvv
          have PRE : Hid (∀ (g4 cap4 : Nat) (w4 : World), w4.ownsRow w.heap.size 30 1 (.slice (some ⟨g4, 0, none⟩) (q + 1) cap4) (q + 1) (vs ++ [.slice (some ⟨wr.heap.size, 0, none⟩) 0 0]) → ((wr.alloc (.cells #[] 2)).alloc (.cells #[.slice (some ⟨wr.heap.size, 0, none⟩) 0 0] 30)).grownBy w4 (Value.ownBlock (.slice (some ⟨g, 0, none⟩) q cap)) →
              OwnMat w4 w.heap.size w4.heap.size (.slice (some ⟨g4, 0, none⟩) (q + 1) cap4) (q + 1) (m ++ [[]]) (vs ++ [.slice (some ⟨wr.heap.size, 0, none⟩) 0 0]) ∧ Below w.heap.size w w4 ∧ w.heap.size ≤ w4.heap.size ∧ w4.cell? ⟨g4, q, none⟩ = some (.slice (some ⟨wr.heap.size, 0, none⟩) 0 0) ∧ w4.frozen? ⟨g4, q, none⟩ = false ∧ w4.ownsRow w.heap.size 2 1 (.slice (some ⟨wr.heap.size, 0, none⟩) 0 0) 0 (ints [])) := fun g4 cap4 w4 hown4 hgrow4 => by
            have HM1 : OwnMat w4 w.heap.size w4.heap.size (.slice (some ⟨g4, 0, none⟩) (q + 1) cap4) (q + 1) (m ++ [[]]) (vs ++ [.slice (some ⟨wr.heap.size, 0, none⟩) 0 0]) :=
              (HM'.out.below ((Below.refl wr.heap.size wr).alloc (Nat.le_refl _) (.cells #[] 2)) (Nat.le_refl _)).push (row := []) (by simp) rfl (World.ownsRow_lit wr #[] 0 (Nat.le_refl _) (Nat.zero_le _) rfl) hsz hown4 hgrow4
            have hwW : w.heap.size ≤ w4.heap.size := by have := hgrow4.size; simp at this; omega
            have HBW : Below w.heap.size w w4 := ((HBel'.out.alloc hsz _).alloc (by simp; omega) _).grown hgrow4 (by simp; omega) (fun p hp => (HOWN1.out.lt p hp).1)
            have hcell := HM1.outer.1.cellAt q (by omega)
            rw [HVV.out] at hcell
            have hfr := HM1.outer.1.frozenAt q
            obtain ⟨A9, c9, e9, o9⟩ := HM1.inner q [] HRR.out
            rw [HVV.out] at e9
            injection e9 with e9
            have o10 := o9.1
            rw [← e9] at o10
            exact ⟨HM1, HBW, hwW, hcell, hfr, o10⟩
          have POST : Hid (∀ (g4 cap4 : Nat) (w4 : World), OwnMat w4 w.heap.size w4.heap.size (.slice (some ⟨g4, 0, none⟩) (q + 1) cap4) (q + 1) (m ++ [[]]) (vs ++ [.slice (some ⟨wr.heap.size, 0, none⟩) 0 0]) → Below w.heap.size w w4 → ∀ (o : Obj) (W2 : World) (g5 cap5 : Nat), W2.ownsRow w.heap.size 2 1 (.slice (some ⟨g5, 0, none⟩) (0 + 1) cap5) (0 + 1) (ints [] ++ [.int .i64 0]) → (w4.alloc o).grownBy W2 (Value.ownBlock (.slice (some ⟨wr.heap.size, 0, none⟩) 0 0)) → (Value.ownBlock (.slice (some ⟨wr.heap.size, 0, none⟩) 0 0) = some g5 ∨ g5 = w4.heap.size + 1) → g5 < W2.heap.size →
              W2.cell? ⟨g4, q, none⟩ = some (.slice (some ⟨wr.heap.size, 0, none⟩) 0 0) ∧ W2.frozen? ⟨g4, q, none⟩ = false ∧ GrowM w g4 (q + 1) cap4 (Tr.addNode m (((0 : Nat) : Int) + 1)) (W2.setCell ⟨g4, q, none⟩ (.slice (some ⟨g5, 0, none⟩) (0 + 1) cap5))) := fun g4 cap4 w4 HM2 HBW o W2 g5 cap5 hown5 hgrow5 hat5 hlt5 => by
            obtain ⟨A9, c9, e9, o9⟩ := HM2.inner q [] HRR.out
            rw [HVV.out] at e9
            injection e9 with e9
            have h1 : OwnR W2 w.heap.size w4.heap.size 30 (.slice (some ⟨g4, 0, none⟩) (q + 1) cap4) (q + 1) (vs ++ [Value.slice (some ⟨wr.heap.size, 0, none⟩) 0 0]) :=
              OwnR.grown (w := w4.alloc o) (HM2.outer.below ((Below.refl _ _).alloc (Nat.le_refl _) _) (Nat.le_refl _)) hgrow5 (own_types HM2.outer.1 (by rw [e9]; exact o9.1) (by decide))
            have h2 := h1.1.cellAt q (by omega)
            rw [HVV.out] at h2
            have o10 := o9.1
            rw [← e9] at o10
            have e1 : ints [] ++ [.int .i64 0] = ints ([] ++ [0]) := by simp [ints, intsK]
            rw [e1] at hown5
            have h3 := OwnMat.app_row (w := w4) HM2 (Nat.le_refl _) HRR.out HVV.out HRL.out hown5 hgrow5 hat5 hlt5
            rw [HSET.out] at h3
            refine ⟨h2, h1.1.frozenAt q, _, by rw [show ∀ (p : Addr) (v : Value), (W2.setCell p v).heap.size = W2.heap.size from fun p v => by simp [World.setCell]]; exact h3, ?_⟩
            refine below_set ((HBW.alloc HBW.size _).grown hgrow5 (by have := HBW.size; simp; omega) (fun q hq => (o10.lt q hq).1)) ?_ _
            exact (HM2.outer.1.lt g4 rfl).1
          have s0 : (0 : Int) ≤ (q : Int) := by omega
          have s1 : (q : Int) < (q : Int) + 1 := by omega
          go_wp2_with (first
            | (at_builtin; refine wpList_append_lies _ rfl (.tmp 22) (.tmp 24) 22 rfl w.heap.size 30 j0 _ 1 24 Try.underlying22 hj hy0 hy1 hy2 rfl (by omega) (.slice (some ⟨g, 0, none⟩) q cap) q vs rfl (hown1.alloc _) ⟨wr.heap.size + 1, 0, none⟩ 1 1 [.slice (some ⟨wr.heap.size, 0, none⟩) 0 0] rfl rfl (by have := World.news_of_block (w := (wr.alloc (.cells #[] 2)).alloc (.cells #[.slice (some ⟨wr.heap.size, 0, none⟩) 0 0] 30)) (cs := #[.slice (some ⟨wr.heap.size, 0, none⟩) 0 0]) (heap_alloc_new _ _); simpa using this) (by simp [Value.oneCell']) (by omega) (by simp only [maxLen]; omega) (by omega) (by simp; omega) (wr.heap.size + 2) (by simp) ?_; intro g4 cap4 w4 hown4 hgrow4 hat4 hlt4; obtain ⟨p1, p2, hwW, hcell, hfr, hrow2⟩ := PRE.out g4 cap4 w4 hown4 hgrow4; have HM2 := Lib.hid p1; have HBW := Lib.hid p2; clear hown4 hgrow4 hat4 hown1 p1 p2)
            | (at_builtin; refine wpList_append_lies _ rfl (.tmp 34) (.tmp 36) 30 rfl w.heap.size 2 i0 _ 1 8 Try.underlying30 hi hz0 hz1 hz2 rfl (by omega) (.slice (some ⟨wr.heap.size, 0, none⟩) 0 0) 0 (ints []) rfl (hrow2.alloc _) ⟨w4.heap.size, 0, none⟩ 1 1 [.int .i64 0] rfl rfl (World.news_of_block (cs := #[.int .i64 0]) (heap_alloc_new _ _)) (by simp [Value.oneCell']) (by omega) (by simp only [maxLen]; omega) (by omega) (by simp; omega) (w4.heap.size + 1) (by simp) ?_; intro g5 cap5 w5 hown5 hgrow5 hat5 hlt5; obtain ⟨hc5, hf5, hG⟩ := POST.out _ _ _ HM2.out HBW.out _ _ _ _ hown5 hgrow5 hat5 hlt5; have G := Lib.hid hG; clear hown5 hgrow5 hat5 hG hrow2 hcell hfr))
          clear hc5 hf5
          try go_wp2
          go_roundw
          case rel => exact ⟨p + 1, 0 + 1, q + 1, g4, cap4, _, by omega, by omega, by omega, by omega, rfl, by go_num, by go_num, HE2, HLEN, HRB2, G.out⟩
          case measure => simp [intOf]; omega
        · obtain ⟨z, rfl⟩ : ∃ z, q = z + 1 := ⟨q - 1, by have := hoq (by omega); omega⟩
          have to := beq_f (show ¬ (o : Int) = 0 by omega)
          have hmp : z < m.length := by rw [HQ.out]; omega
          obtain ⟨r, hr⟩ := at_lt hmp
          obtain ⟨Ar, cr, hvv, hor⟩ := HM.inner z r hr
          have HM1 := HM
          have hwW := hsz
          have HBW := Lib.hid HBel
          have HRR := Lib.hid hr
          obtain ⟨rl, hrl⟩ : ∃ rl, rl = r.length := ⟨_, rfl⟩
          have HRL : Hid (r.length = rl) := hrl.symm
          rw [← hrl] at hvv
          have hrl8 : rl ≤ 1048576 := by
            have := HRB.out r (List.mem_of_getElem? hr)
            omega
          have HSET : Hid (m.set z (r ++ [(o : Int)]) = Tr.addNode m ((o : Int) + 1)) := by
            have e := HQ.out
            have hx1 : ¬ ((o : Int) + 1 = 1) := by omega
            rw [Hid, add_last hx1 (r := r) (by rw [e]; exact hr), e, show (o : Int) + 1 - 1 = (o : Int) from by omega]; rfl
          have HLEN : Hid ((Tr.addNode m ((o : Int) + 1)).length = z + 1) := by rw [Hid, add_length, if_neg (by omega), HQ.out]
          clear HM HBel hr hor hrl hmp
          have HM2 := Lib.hid HM1
          have hcell := HM1.outer.1.cellAt z (by omega)
          rw [hvv] at hcell
          have hfr := HM1.outer.1.frozenAt z
          have HKO : Hid (∀ (o : Obj) (W2 : World), (wr.alloc o).grownBy W2 (Value.ownBlock (.slice Ar rl cr)) → W2.cell? ⟨g, z, none⟩ = some (.slice Ar rl cr) ∧ W2.frozen? ⟨g, z, none⟩ = false) := fun o W2 hg => by
            have h1 : OwnR W2 w.heap.size wr.heap.size 30 (.slice (some ⟨g, 0, none⟩) (z + 1) cap) (z + 1) vs := by
              refine OwnR.grown (w := wr.alloc o) ((HM2.out.outer.keep (w' := wr) fun _ _ _ => rfl).below ((Below.refl _ _).alloc (Nat.le_refl _) _) (Nat.le_refl _)) hg ?_
              obtain ⟨A9, c9, e9, o9⟩ := HM2.out.inner z r HRR.out
              rw [hvv] at e9
              injection e9 with e9
              exact own_types HM2.out.outer.1 (by rw [e9]; exact o9.1) (by decide)
            have h2 := h1.1.cellAt z (by omega)
            rw [hvv] at h2
            exact ⟨h2, h1.1.frozenAt z⟩
          have hrow : wr.ownsRow w.heap.size 2 1 (.slice Ar rl cr) rl (ints r) := by
            obtain ⟨A9, c9, e9, o9⟩ := HM2.out.inner z r HRR.out
            rw [hvv] at e9
            injection e9 with e9
            have o10 := (o9.keep (w' := wr) fun _ _ _ => rfl).1
            have el := HRL.out
            rw [← e9, el] at o10
            exact o10
          have HROW := Lib.hid hrow
          have HVV := Lib.hid hvv
          clear HM1 hvv hrow
          have hwd : w.heap.size ≤ wr.heap.size := hwW
          have HG : Hid (∀ (ob : Obj) (W2 : World) (g5 cap5 : Nat), W2.ownsRow w.heap.size 2 1 (.slice (some ⟨g5, 0, none⟩) (rl + 1) cap5) (rl + 1) (ints r ++ [.int .i64 o]) → (wr.alloc ob).grownBy W2 (Value.ownBlock (.slice Ar rl cr)) → (Value.ownBlock (.slice Ar rl cr) = some g5 ∨ g5 = wr.heap.size + 1) → g5 < W2.heap.size → GrowM w g (z + 1) cap (Tr.addNode m ((o : Int) + 1)) (W2.setCell ⟨g, z, none⟩ (.slice (some ⟨g5, 0, none⟩) (rl + 1) cap5))) := fun ob W2 g5 cap5 hown5 hgrow5 hat5 hlt5 => by
            have e1 : ints r ++ [.int .i64 o] = ints (r ++ [(o : Int)]) := by simp [ints, intsK]
            rw [e1] at hown5
            have h1 := OwnMat.app_row (w := wr) (HM2.out.keep (w' := wr) fun _ _ _ => rfl) (Nat.le_refl _) HRR.out HVV.out HRL.out hown5 hgrow5 hat5 hlt5
            rw [HSET.out] at h1
            refine ⟨_, by rw [show ∀ (p : Addr) (v : Value), (W2.setCell p v).heap.size = W2.heap.size from fun p v => by simp [World.setCell]]; exact h1, ?_⟩
            refine below_set ((HBW.out.alloc hwd _).grown hgrow5 (by simp; omega) (fun q hq => (HROW.out.lt q hq).1)) ?_ _
            exact (HM2.out.outer.1.lt g rfl).1
          have s0 : (0 : Int) ≤ (z : Int) := by omega
          have s1 : (z : Int) < (z : Int) + 1 := by omega
          have hcellA : ∀ o : Obj, (wr.alloc o).cell? ⟨g, z, none⟩ = some (.slice Ar rl cr) := fun o => (((Below.refl wr.heap.size wr).alloc (Nat.le_refl _) o).cell (p := ⟨g, z, none⟩) (lt_of_cell hcell)).trans hcell
          have hrow2 := HROW.out
          go_wp2_with (at_builtin; (refine wpList_append_lies _ rfl (.tmp 34) (.tmp 36) 30 rfl w.heap.size 2 i0 _ 1 8 Try.underlying30 hi hz0 hz1 hz2 rfl (by omega) (.slice Ar rl cr) rl (ints r) rfl (hrow2.alloc _) ⟨wr.heap.size, 0, none⟩ 1 1 [.int .i64 o] rfl rfl (World.news_of_block (cs := #[.int .i64 o]) (heap_alloc_new _ _)) (by simp [Value.oneCell']) (by omega) (by simp only [maxLen]; omega) (by omega) (by simp; omega) (wr.heap.size + 1) (by simp) ?_); intro g5 cap5 w5 hown5 hgrow5 hat5 hlt5; obtain ⟨hc5, hf5⟩ := HKO.out _ _ hgrow5)
          have G := Lib.hid (HG.out _ _ _ _ hown5 hgrow5 hat5 hlt5)
          clear hown5 hgrow5 hat5 hc5 hf5 hrow2
          try clear hcellA
          go_wp2
          go_roundw
          case rel => exact ⟨p + 1, o + 1, z + 1, g, cap, _, by omega, by omega, by omega, by omega, rfl, by go_num, by go_num, HE2, HLEN, HRB2, G.out⟩
          case measure => simp [intOf]; omega
      · have tb91 := beq_f (show ¬ ((S[p]'hlt).toNat : Int) = 91 by rw [hbyte]; exact fun e => h91 (UInt8.toNat_inj.1 (by simp; omega)))
        by_cases h93 : c = 93
        · subst h93
          have tb93 := beq_t (show ((S[p]'hlt).toNat : Int) = 93 by rw [hbyte]; rfl)
          have tn93 : ((S[p]'hlt).toNat : Int) = 93 := by rw [hbyte]; rfl
          by_cases ho : 0 < o
          · have HE2 : Hid (Tr.rdL [] 0 s = Tr.rdL m (o - 1) (s.drop (p + 1))) := by rw [Hid, HE.out, Tr.rd_close hc ho]
            have HRB2 : Hid (∀ r ∈ m, r.length ≤ p + 1) := fun r hr => by have := HRB.out r hr; omega
            have hoi : (0 : Int) < (o : Int) := by omega
            have HG : Hid (GrowM w g q cap m wr) := ⟨vs, HM, HBel⟩
            clear HM HBel HE hc hbyte
            go_wp2
            go_roundw
            case rel => exact ⟨p + 1, o - 1, q, g, cap, m, by omega, by omega, by omega, by omega, rfl, by go_num, by go_num, HE2, HQ, HRB2, HG.out⟩
            case measure => simp [intOf]; omega
          · have h0 : o = 0 := by omega
            subst h0
            have G : Hid (Tr.rdL [] 0 s = ([], false)) := by rw [Hid, HE.out]; exact Tr.rd_bad hc (by decide) (fun _ => rfl)
            have GB := Lib.hid HBel
            clear HM HBel HE hc hbyte
            go_wp2
            go_ret2
            exact ⟨none, 0, 0, [], by rw [G.out]; rfl, by rw [G.out]; exact ⟨⟨World.ownsRow_nil _ _ _ _, fun g e => by simp [Value.ownBlock] at e⟩, rfl, fun r row hr => by simp at hr, fun r s u t g _ hu => by simp at hu⟩, GB.out⟩
        · have tb93 := beq_f (show ¬ ((S[p]'hlt).toNat : Int) = 93 by rw [hbyte]; exact fun e => h93 (UInt8.toNat_inj.1 (by simp; omega)))
          have G : Hid (Tr.rdL [] 0 s = ([], false)) := by rw [Hid, HE.out]; exact Tr.rd_bad hc h91 (fun e => absurd e h93)
          have GB := Lib.hid HBel
          clear HM HBel HE hc hbyte h91 h93
          go_wp2
          go_ret2
          exact ⟨none, 0, 0, [], by rw [G.out]; rfl, by rw [G.out]; exact ⟨⟨World.ownsRow_nil _ _ _ _, fun g e => by simp [Value.ownBlock] at e⟩, rfl, fun r row hr => by simp at hr, fun r s u t g _ hu => by simp at hu⟩, GB.out⟩
    · have hl : s.length ≤ p := by have := HSZ.out; unfold Hid at this; omega
      have G : Hid (Tr.rdL [] 0 s = (m, o == 0)) := by
        rw [Hid, HE.out, List.drop_of_length_le hl, Tr.rdL]
      have GO := Lib.hid HM
      have GB := Lib.hid HBel
      clear HM HBel HE hl
      by_cases h0 : o = 0
      · subst h0
        go_wp2
        go_ret2
        exact ⟨_, _, _, vs, by rw [G.out]; rfl, by rw [G.out]; exact GO.out, GB.out⟩
      · have t0 := beq_f (show ¬ (o : Int) = 0 by omega)
        have t1 : (o == 0) = false := by simp [h0]
        rw [t1] at G
        clear h0 t1
        go_wp2
        go_ret2
        exact ⟨_, _, _, vs, by rw [G.out]; rfl, by rw [G.out]; exact GO.out, GB.out⟩
end Go.Proofs.Ytgicbmfcojfjcaa
