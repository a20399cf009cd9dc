/-
  slices.SortFunc of a few texts by tree.compare; forestOf.
-/
import Derived.Test.YtpngohklicgbjaaGreatCmp
import Derived.Test.YtpngohklicgbjaaGreatSrt
import Derived.Test.YtpngohklicgbjaaGreatSkip
import Derived.Test.YtpngohklicgbjaaGreatLists
import Derived.Deep.RegionHeld3
namespace Go.Proofs.YtpngohklicgbjaaGreat
open Go.RowKit Fld
set_option linter.unusedVariables false
set_option linter.unusedSimpArgs false
set_option maxRecDepth 100000

theorem cmp_lt (x y : List UInt8) : decide (Tr.cmpT x y < 0) = !Tr.leT y x := by
  unfold Tr.leT Tr.cmpT
  by_cases h1 : x.length / 2 < y.length / 2
  · have h2 : ¬ y.length / 2 < x.length / 2 := by omega
    simp [h1, h2]
  · by_cases h2 : y.length / 2 < x.length / 2
    · simp [h1, h2]
    · rw [if_neg h1, if_neg h2, if_neg h2, if_neg h1]
      unfold Tr.ltS
      cases h3 : Tr.leS x y <;> cases h4 : Tr.leS y x <;> simp
      have := Tr.leS_to h3
      rw [h4] at this; cases this
theorem insT_le (p s : List UInt8) : (Tr.cmpT p s ≤ 0) = (Tr.leT p s = true) := by unfold Tr.leT; simp
theorem insT_perm (p : List UInt8) : ∀ l, (Tr.insT p l).Perm (p :: l)
  | [] => List.Perm.refl _
  | s :: r => by
    rw [Tr.insT]
    split
    · exact List.Perm.refl _
    · exact ((insT_perm p r).cons s).trans (List.Perm.swap p s r)
theorem sortT_perm : ∀ l, (Tr.sortT l).Perm l
  | [] => List.Perm.refl _
  | p :: r => (insT_perm p (Tr.sortT r)).trans ((sortT_perm r).cons p)
theorem insT_sorted (p : List UInt8) : ∀ l, l.Pairwise (fun a b => Tr.leT a b = true) → (Tr.insT p l).Pairwise (fun a b => Tr.leT a b = true)
  | [], _ => by simp [Tr.insT]
  | s :: r, h => by
    rw [Tr.insT]
    rw [List.pairwise_cons] at h
    cases e : Tr.leT p s
    · rw [if_neg (by rw [insT_le, e]; simp)]
      rw [List.pairwise_cons]
      refine ⟨fun x hx => ?_, insT_sorted p r h.2⟩
      rw [(insT_perm p r).mem_iff, List.mem_cons] at hx
      rcases hx with rfl | hx
      · exact Tr.leT_to e
      · exact h.1 x hx
    · rw [if_pos (by rw [insT_le]; exact e), List.pairwise_cons, List.pairwise_cons]
      refine ⟨fun x hx => ?_, h⟩
      rw [List.mem_cons] at hx
      rcases hx with rfl | hx
      · exact e
      · exact Tr.leT_tr e (h.1 x hx)
theorem sortT_sorted : ∀ l, (Tr.sortT l).Pairwise (fun a b => Tr.leT a b = true)
  | [] => List.Pairwise.nil
  | p :: r => insT_sorted p _ (sortT_sorted r)
/-- a row of texts that a sort turns, beside memory that it makes -/
def Frow (base g n cap : Nat) (w : World) (ls : List (List UInt8)) (wr : World) : Prop := wr.ownsRow base 60 1 (.slice (some ⟨g, 0, none⟩) n cap) n (strs ls) ∧ Below base w wr ∧ base ≤ wr.heap.size
theorem Frow.swap {base g n cap j : Nat} {w wr : World} {ls : List (List UInt8)} {x y : List UInt8} (h : Frow base g n cap w ls wr) :
    Frow base g n cap w ((ls.set (j + 1) y).set j x) ((wr.setCell ⟨g, j + 1, none⟩ (.string ⟨y.toArray⟩)).setCell ⟨g, j, none⟩ (.string ⟨x.toArray⟩)) := by
  obtain ⟨h1, h2⟩ := h.1.stored (j + 1) (.string ⟨y.toArray⟩)
  obtain ⟨h3, h4⟩ := h1.stored j (.string ⟨x.toArray⟩)
  rw [← strs_set, ← strs_set] at h3
  have hg : base ≤ g := (h.1.lt g rfl).1
  refine ⟨h3, below_set (below_set h.2.1 hg _) hg _, ?_⟩
  have e1 : ∀ (W : World) (p : Addr) (v : Value), (W.setCell p v).heap.size = W.heap.size := fun W p v => by simp [World.setCell]
  rw [e1, e1]; exact h.2.2
theorem Frow.below {base g n cap : Nat} {w wr w2 : World} {ls : List (List UInt8)} (h : Frow base g n cap w ls wr) (hb : Below wr.heap.size wr w2) : Frow base g n cap w ls w2 :=
  ⟨((OwnR.of h.1).below hb (Nat.le_refl _)).1, h.2.1.trans (hb.mono h.2.2), Nat.le_trans h.2.2 hb.size⟩
theorem Frow.drewN {base g n cap : Nat} {w wr : World} {ls : List (List UInt8)} (h : Frow base g n cap w ls wr) (m : Nat) : Frow base g n cap w ls (wr.drewN m) := h.below (below_drewN (Below.refl _ _) m)
set_option maxHeartbeats 4000000 in
theorem fInsert_any (base g n cap : Nat) (ss : List (List UInt8)) (w : World) (hl : ss.length = n) (h1 : 1 ≤ n) (hn : n ≤ 12) (hs16 : ∀ s ∈ ss, s.length ≤ 16) (hbase : base ≤ w.heap.size) (h : w.ownsRow base 60 1 (.slice (some ⟨g, 0, none⟩) n cap) n (strs ss)) :
    Calls Tryz.prog 109 #[.slice (some ⟨g, 0, none⟩) n cap, .int .i64 0, .int .i64 n, (.func (.func 62) #[] #[])] w fun e w' => e = .returned (.tuple #[]) ∧ Frow base g n cap w (Tr.sortT ss) w' := by
  have HL := Lib.hid hl
  have F0 : Hid (Frow base g n cap w (ss.take 1 ++ ss.drop 1) w) := by rw [Hid, List.take_append_drop]; exact ⟨h, Below.refl _ _, hbase⟩
  have H16 := Lib.hid hs16
  have I0 := Lib.hid (Insd.one (le := Tr.leT) ss (by omega))
  clear hl h hs16
  go_enter Tryz.func109, Tryz.ntmps109
  go_wp2_with fail
  go_loopw [8] (fun i wr => ∃ (k : Nat) (S : List (List UInt8)), 1 ≤ k ∧ k ≤ n ∧ i = .int .i64 k ∧ Hid (Insd Tr.leT ss k S) ∧ Frow base g n cap w (S ++ ss.drop k) wr) (fun i _ => n - (intOf i).toNat)
  case atStart => exact ⟨1, _, Nat.le_refl _, h1, rfl, I0, F0.out⟩
  case round =>
    obtain ⟨i, S, i1, hi, rfl, HI, HF⟩ := hrel
    by_cases hlt : i < n
    · obtain ⟨x, hx⟩ := at_lt (show i < ss.length by rw [HL.out]; exact hlt)
      have HX := Lib.hid hx
      have hin : Hid (∀ j T W, j ≤ i → Frow base g n cap w (insAt S j x (ss.drop (i + 1))) W → Insd Tr.leT ss (i + 1) T → T = S.take j ++ x :: S.drop j → Frow base g n cap w (T ++ ss.drop (i + 1)) W) := by
        intro j T W hj hW hT e
        subst e
        unfold insAt at hW
        simpa using hW
      have F1 : Hid (Frow base g n cap w (insAt S i x (ss.drop (i + 1))) wr) := by
        rw [Hid]
        have e := insAt_start (S := S) (R := ss.drop (i + 1)) (x := x)
        rw [HI.out.len] at e
        rw [e]
        have e2 : ss.drop i = x :: ss.drop (i + 1) := by
          have hlt2 : i < ss.length := by rw [HL.out]; exact hlt
          rw [List.drop_eq_getElem_cons hlt2]
          rw [List.getElem?_eq_getElem hlt2] at hx
          injection hx with hx
          rw [hx]
        rw [← e2]; exact HF
      clear hx HF F0 I0
      go_wp2_with fail
      go_loopw [9] (fun jj wr => ∃ j : Nat, j ≤ i ∧ jj = .int .i64 j ∧ Hid (∀ s ∈ S.drop j, Tr.leT x s = true) ∧ Frow base g n cap w (insAt S j x (ss.drop (i + 1))) wr) (fun jj _ => (intOf jj).toNat)
      case atStart => exact ⟨i, Nat.le_refl _, rfl, (fun s hs => by rw [List.drop_of_length_le (by rw [HI.out.len]; exact Nat.le_refl _)] at hs; cases hs), F1.out⟩
      case round =>
        obtain ⟨j, hj, rfl, HD, HF⟩ := hrel
        by_cases h0 : j = 0
        · have G : Hid (∃ T, Insd Tr.leT ss (i + 1) T ∧ Frow base g n cap w (T ++ ss.drop (i + 1)) wr) :=
            have hT := HI.out.step (le := Tr.leT) Tr.leT_tr HX.out HD.out hj (fun y hy => by omega)
            ⟨_, hT, hin.out j _ _ hj HF hT rfl⟩
          obtain rfl : j = 0 := h0
          obtain ⟨T, hT, hW⟩ := G.out
          have GT := Lib.hid hT
          have GW := Lib.hid hW
          clear HF HD F1 G hT hW hin
          go_wp2_with fail
          go_quiet (fail)
          go_wp2
          go_roundw
          case rel => exact ⟨i + 1, T, by omega, by omega, by go_num, GT, GW.out.drewN _⟩
          case measure => simp [intOf]; omega
        · obtain ⟨k, rfl⟩ : ∃ k, j = k + 1 := ⟨j - 1, by omega⟩
          obtain ⟨y, hy⟩ := at_lt (show k < S.length by rw [HI.out.len]; omega)
          have hjl : k + 1 ≤ S.length := by rw [HI.out.len]; exact hj
          have hx16 := H16.out x (List.mem_of_getElem? HX.out)
          have hy16 : y.length ≤ 16 := H16.out y (List.mem_of_mem_take ((HI.out.perm.mem_iff).1 (List.mem_of_getElem? hy)))
          have c1 := HF.1.cellAt (k + 1) (by omega)
          have c2 := HF.1.cellAt k (by omega)
          have f1 := HF.1.frozenAt (k + 1)
          have f2 := HF.1.frozenAt k
          rw [strs_at (insAt_x hjl)] at c1
          rw [strs_at (insAt_y hjl hy)] at c2
          have hd : decide ((0 : Int) < (k : Int) + 1) = true := decide_eq_true (by omega)
          have HFF := Lib.hid HF
          have HIX : Hid ((strs (insAt S (k + 1) x (ss.drop (i + 1))))[k + 1]? = some (.string ⟨x.toArray⟩)) := strs_at (insAt_x hjl)
          have HIY : Hid ((strs (insAt S (k + 1) x (ss.drop (i + 1))))[k]? = some (.string ⟨y.toArray⟩)) := strs_at (insAt_y hjl hy)
          cases hyx : Tr.leT y x
          · have HD2 : Hid (∀ s ∈ S.drop k, Tr.leT x s = true) := ins_low HD.out hy (Tr.leT_to hyx)
            have HS : Hid (insAt S k x (ss.drop (i + 1)) = ((insAt S (k + 1) x (ss.drop (i + 1))).set (k + 1) y).set k x) := (insAt_swap hjl hy).symm
            have hcl := cmp_lt x y
            rw [hyx] at hcl
            have C0 := fun w => compare_any x y w (by omega) (by omega)
            obtain ⟨v, hv⟩ : ∃ v, v = Tr.cmpT x y := ⟨_, rfl⟩
            simp only [← hv] at C0
            rw [← hv] at hcl
            have hvd : v < 0 := by simpa using hcl
            obtain ⟨X, hX⟩ : ∃ X : ByteArray, X = ⟨x.toArray⟩ := ⟨_, rfl⟩
            obtain ⟨Y, hY⟩ : ∃ Y : ByteArray, Y = ⟨y.toArray⟩ := ⟨_, rfl⟩
            rw [← hX] at c1 C0
            rw [← hY] at c2 C0
            have KK : Hid (∀ W, Below wr.heap.size wr W → W.cell? ⟨g, k + 1, none⟩ = some (.string X) ∧ W.cell? ⟨g, k, none⟩ = some (.string Y)) := fun W hb => by
              have hF := HFF.out.below hb
              have d1 := hF.1.cellAt (k + 1) (by omega)
              have d2 := hF.1.cellAt k (by omega)
              rw [HIX.out, ← hX] at d1
              rw [HIY.out, ← hY] at d2
              exact ⟨d1, d2⟩
            have ek : (((k + 1 : Nat)) : Int) = (k : Int) + 1 := by omega
            have hwk : IntKind.i64.wrap (k : Int) = (k : Int) := IntWalk.i64_in _ (by omega)
            have hk0 : (0 : Int) ≤ (k : Int) := Int.natCast_nonneg _
            have hk1 : (k : Int) + 1 < (n : Int) := by omega
            have hk2 : (k : Int) < (n : Int) := by omega
            have hk3 : (0 : Int) ≤ (k : Int) + 1 := by omega
            have GG : Hid (∀ W, Below wr.heap.size wr W → Frow base g n cap w (insAt S k x (ss.drop (i + 1))) ((W.setCell ⟨g, k + 1, none⟩ (.string Y)).setCell ⟨g, k, none⟩ (.string X))) := fun W hb => by rw [HS.out, hX, hY]; exact (HFF.out.below hb).swap
            have FZ : Hid (∀ W, Below wr.heap.size wr W → W.frozen? ⟨g, k + 1, none⟩ = false ∧ W.frozen? ⟨g, k, none⟩ = false) := fun W hb => ⟨(HFF.out.below hb).1.frozenAt (k + 1), (HFF.out.below hb).1.frozenAt k⟩
            rw [ek]
            clear HF HD F1 hjl hy hin h0 HS hcl hv hX hY HFF HIX HIY hyx hx16 hy16 f1 f2 ek hd
            go_wp2_with fail
            refine wp_region_noPanic ?_
            refine wp_region_held_drew (S := (fun w' => w'.cell? ⟨g, k + 1, none⟩ = some (.string X) ∧ w'.cell? ⟨g, k, none⟩ = some (.string Y))) (by kernel_rfl) ?_ (fun hHeld => ?_)
            · first | exact ⟨c1, c2⟩ | exact KK.out _ ⟨bel2.os, bel2.tape, bel2.output, bel2.size, bel2.block⟩
            refine wpAnyH_take (i := 0) (oi := _) (v := ?_) rfl (by kernel_rfl) (by kernel_rfl) (by kernel_rfl) (fun _ _ _ h => h) (Or.inl ⟨by kernel_rfl, ?_⟩) (by assumption) ?_
            rotate_left
            · (intro w hSw; (try dsimp only at hSw); go_simp; try (with_reducible rfl))
            try simp only [Act.put, List.setIfInBounds_toArray, List.set_cons_zero, List.set_cons_succ, List.getElem_toArray, List.getElem_cons_zero, List.getElem_cons_succ]
            refine wpAnyH_take (i := 1) (oi := _) (v := ?_) rfl (by kernel_rfl) (by kernel_rfl) (by kernel_rfl) (fun _ _ _ h => h) (Or.inl ⟨by kernel_rfl, ?_⟩) (by assumption) ?_
            rotate_left
            · (intro w hSw; (try dsimp only at hSw); go_simp; try (with_reducible rfl))
            try simp only [Act.put, List.setIfInBounds_toArray, List.set_cons_zero, List.set_cons_succ, List.getElem_toArray, List.getElem_cons_zero, List.getElem_cons_succ]
            refine wpAnyH_take (i := 2) (oi := _) (v := ?_) rfl (by kernel_rfl) (by kernel_rfl) (by kernel_rfl) (fun _ _ _ h => h) (Or.inl ⟨by kernel_rfl, ?_⟩) (by assumption) ?_
            rotate_left
            · (intro w hSw; (try dsimp only at hSw); go_simp; try (with_reducible rfl))
            try simp only [Act.put, List.setIfInBounds_toArray, List.set_cons_zero, List.set_cons_succ, List.getElem_toArray, List.getElem_cons_zero, List.getElem_cons_succ]
            refine wpAnyH_take (i := 3) (oi := _) (v := ?_) rfl (by kernel_rfl) (by kernel_rfl) (by kernel_rfl) (fun _ _ _ h => h) (Or.inl ⟨by kernel_rfl, ?_⟩) (by assumption) ?_
            rotate_left
            · (intro w hSw; (try dsimp only at hSw); go_simp; try (with_reducible rfl))
            try simp only [Act.put, List.setIfInBounds_toArray, List.set_cons_zero, List.set_cons_succ, List.getElem_toArray, List.getElem_cons_zero, List.getElem_cons_succ]
            refine wpAnyH_take (i := 4) (oi := _) (v := ?_) rfl (by kernel_rfl) (by kernel_rfl) (by kernel_rfl) (fun _ _ _ h => h) (Or.inl ⟨by kernel_rfl, ?_⟩) (by assumption) ?_
            rotate_left
            · (intro w hSw; (try dsimp only at hSw); go_simp; try (with_reducible rfl))
            try simp only [Act.put, List.setIfInBounds_toArray, List.set_cons_zero, List.set_cons_succ, List.getElem_toArray, List.getElem_cons_zero, List.getElem_cons_succ]
            refine wpAnyH_take (i := 5) (oi := _) (v := ?_) rfl (by kernel_rfl) (by kernel_rfl) (by kernel_rfl) (fun _ _ _ h => h) (Or.inl ⟨by kernel_rfl, ?_⟩) (by assumption) ?_
            rotate_left
            · (intro w hSw; (try dsimp only at hSw); go_simp; try (with_reducible rfl))
            try simp only [Act.put, List.setIfInBounds_toArray, List.set_cons_zero, List.set_cons_succ, List.getElem_toArray, List.getElem_cons_zero, List.getElem_cons_succ]
            refine wpAnyH_take (i := 6) (oi := _) (v := ?_) rfl (by kernel_rfl) (by kernel_rfl) (by kernel_rfl) (fun _ _ _ h => h) (Or.inl ⟨by kernel_rfl, ?_⟩) (by assumption) ?_
            rotate_left
            · (intro w hSw; (try dsimp only at hSw); go_simp; try (with_reducible rfl))
            try simp only [Act.put, List.setIfInBounds_toArray, List.set_cons_zero, List.set_cons_succ, List.getElem_toArray, List.getElem_cons_zero, List.getElem_cons_succ]
            refine wpAnyH_take (i := 7) (oi := _) (v := ?_) rfl (by kernel_rfl) (by kernel_rfl) (by kernel_rfl) (fun _ _ _ h => h) (Or.inl ⟨by kernel_rfl, ?_⟩) (by assumption) ?_
            rotate_left
            · (intro w hSw; (try dsimp only at hSw); go_simp; try (with_reducible rfl))
            try simp only [Act.put, List.setIfInBounds_toArray, List.set_cons_zero, List.set_cons_succ, List.getElem_toArray, List.getElem_cons_zero, List.getElem_cons_succ]
            refine wpAnyH_take (i := 8) (oi := _) (v := ?_) rfl (by kernel_rfl) (by kernel_rfl) (by kernel_rfl) (fun _ _ _ h => h) (Or.inl ⟨by kernel_rfl, ?_⟩) (by assumption) ?_
            rotate_left
            · (intro w hSw; (try dsimp only at hSw); go_simp; try (with_reducible rfl))
            try simp only [Act.put, List.setIfInBounds_toArray, List.set_cons_zero, List.set_cons_succ, List.getElem_toArray, List.getElem_cons_zero, List.getElem_cons_succ]
            refine wpAnyH_take (i := 9) (oi := _) (v := ?_) rfl (by kernel_rfl) (by kernel_rfl) (by kernel_rfl) (fun _ _ _ h => h) (Or.inl ⟨by kernel_rfl, ?_⟩) (by assumption) ?_
            rotate_left
            · (intro w hSw; (try dsimp only at hSw); go_simp; try (with_reducible rfl))
            try simp only [Act.put, List.setIfInBounds_toArray, List.set_cons_zero, List.set_cons_succ, List.getElem_toArray, List.getElem_cons_zero, List.getElem_cons_succ]
            refine wpAnyH_take (i := 10) (oi := _) (v := ?_) rfl (by kernel_rfl) (by kernel_rfl) (by kernel_rfl) (fun _ _ _ h => h) (Or.inl ⟨by kernel_rfl, ?_⟩) (by assumption) ?_
            rotate_left
            · (intro w hSw; (try dsimp only at hSw); go_simp; try (with_reducible rfl))
            try simp only [Act.put, List.setIfInBounds_toArray, List.set_cons_zero, List.set_cons_succ, List.getElem_toArray, List.getElem_cons_zero, List.getElem_cons_succ]
            refine wpAnyH_take (i := 11) (oi := _) (v := ?_) rfl (by kernel_rfl) (by kernel_rfl) (by kernel_rfl) (fun _ _ _ h => h) (Or.inl ⟨by kernel_rfl, ?_⟩) (by assumption) ?_
            rotate_left
            · (intro w hSw; (try dsimp only at hSw); go_simp; try (with_reducible rfl))
            try simp only [Act.put, List.setIfInBounds_toArray, List.set_cons_zero, List.set_cons_succ, List.getElem_toArray, List.getElem_cons_zero, List.getElem_cons_succ]
            refine wpAnyH_take (i := 12) (oi := _) (v := ?_) rfl (by kernel_rfl) (by kernel_rfl) (by kernel_rfl) (fun _ _ _ h => h) (Or.inl ⟨by kernel_rfl, ?_⟩) (by assumption) ?_
            rotate_left
            · (intro w hSw; (try dsimp only at hSw); go_simp; try (with_reducible rfl))
            try simp only [Act.put, List.setIfInBounds_toArray, List.set_cons_zero, List.set_cons_succ, List.getElem_toArray, List.getElem_cons_zero, List.getElem_cons_succ]
            refine wpAnyH_take (i := 13) (oi := _) (v := ?_) rfl (by kernel_rfl) (by kernel_rfl) (by kernel_rfl) (fun _ _ _ h => h) (Or.inl ⟨by kernel_rfl, ?_⟩) (by assumption) ?_
            rotate_left
            · (intro w hSw; (try dsimp only at hSw); go_simp; try (with_reducible rfl))
            try simp only [Act.put, List.setIfInBounds_toArray, List.set_cons_zero, List.set_cons_succ, List.getElem_toArray, List.getElem_cons_zero, List.getElem_cons_succ]
            refine wpAnyH_ready (rs := [14]) (by kernel_rfl) (by simp) (AllReadyH.cons (o := _) rfl (fun K hK => ?_) AllReadyH.nil)
            go_simp
            (go_at_call 62; refine (C0 _).mono ?_; rintro e w2 ⟨rfl, bel2⟩)
            go_wp2_with fail
            refine hK.out _ _ ?_ (fun hHeld => ?_)
            · first | exact ⟨c1, c2⟩ | exact KK.out _ ⟨bel2.os, bel2.tape, bel2.output, bel2.size, bel2.block⟩
            clear hK K
            try simp only [Act.put, List.setIfInBounds_toArray, List.set_cons_zero, List.set_cons_succ, List.getElem_toArray, List.getElem_cons_zero, List.getElem_cons_succ]
            refine wpAnyH_take (i := 15) (oi := _) (v := ?_) rfl (by kernel_rfl) (by kernel_rfl) (by kernel_rfl) (fun _ _ _ h => h) (Or.inl ⟨by kernel_rfl, ?_⟩) (by assumption) ?_
            rotate_left
            · (intro w hSw; (try dsimp only at hSw); go_simp; try (with_reducible rfl))
            try simp only [Act.put, List.setIfInBounds_toArray, List.set_cons_zero, List.set_cons_succ, List.getElem_toArray, List.getElem_cons_zero, List.getElem_cons_succ]
            refine wpAnyH_take (i := 16) (oi := _) (v := ?_) rfl (by kernel_rfl) (by kernel_rfl) (by kernel_rfl) (fun _ _ _ h => h) (Or.inl ⟨by kernel_rfl, ?_⟩) (by assumption) ?_
            rotate_left
            · (intro w hSw; (try dsimp only at hSw); go_simp; try (with_reducible rfl))
            try simp only [Act.put, List.setIfInBounds_toArray, List.set_cons_zero, List.set_cons_succ, List.getElem_toArray, List.getElem_cons_zero, List.getElem_cons_succ]
            refine wpAnyH_done (by kernel_rfl) ?_ _
            refine NoPanic.normal ?_
            have B2 : Below wr.heap.size wr w2 := ⟨bel2.os, bel2.tape, bel2.output, bel2.size, bel2.block⟩
            obtain ⟨d1, d2⟩ := KK.out _ B2
            obtain ⟨z1, z2⟩ := FZ.out _ B2
            have G2 := Lib.hid (fun m : Nat => GG.out (w2.drewN m) (below_drewN B2 m))
            clear bel2 B2 c1 c2 KK FZ GG C0
            go_wp2_with fail
            go_region
            go_wp2
            go_roundw
            case rel => exact ⟨k, by omega, by go_num, HD2, G2.out _⟩
            case measure => simp [intOf]
          · have hT := HI.out.step (le := Tr.leT) Tr.leT_tr HX.out HD.out hj (fun z _ hz => by rw [Nat.add_sub_cancel, hy] at hz; injection hz with hz; rw [← hz]; exact hyx)
            have GT : Hid (∃ T, Insd Tr.leT ss (i + 1) T ∧ ∀ W, Below wr.heap.size wr W → Frow base g n cap w (T ++ ss.drop (i + 1)) W) := ⟨_, hT, fun W hb => hin.out (k + 1) _ _ hj (HFF.out.below hb) hT rfl⟩
            have hcl := cmp_lt x y
            rw [hyx] at hcl
            have C0 := fun w => compare_any x y w (by omega) (by omega)
            obtain ⟨v, hv⟩ : ∃ v, v = Tr.cmpT x y := ⟨_, rfl⟩
            simp only [← hv] at C0
            rw [← hv] at hcl
            have hvd : ¬ v < 0 := by simpa using hcl
            obtain ⟨X, hX⟩ : ∃ X : ByteArray, X = ⟨x.toArray⟩ := ⟨_, rfl⟩
            obtain ⟨Y, hY⟩ : ∃ Y : ByteArray, Y = ⟨y.toArray⟩ := ⟨_, rfl⟩
            rw [← hX] at c1 C0
            rw [← hY] at c2 C0
            have KK : Hid (∀ W, Below wr.heap.size wr W → W.cell? ⟨g, k + 1, none⟩ = some (.string X) ∧ W.cell? ⟨g, k, none⟩ = some (.string Y)) := fun W hb => by
              have hF := HFF.out.below hb
              have d1 := hF.1.cellAt (k + 1) (by omega)
              have d2 := hF.1.cellAt k (by omega)
              rw [HIX.out, ← hX] at d1
              rw [HIY.out, ← hY] at d2
              exact ⟨d1, d2⟩
            have ek : (((k + 1 : Nat)) : Int) = (k : Int) + 1 := by omega
            have hwk : IntKind.i64.wrap (k : Int) = (k : Int) := IntWalk.i64_in _ (by omega)
            have hk0 : (0 : Int) ≤ (k : Int) := Int.natCast_nonneg _
            have hk1 : (k : Int) + 1 < (n : Int) := by omega
            have hk2 : (k : Int) < (n : Int) := by omega
            have hk3 : (0 : Int) ≤ (k : Int) + 1 := by omega
            obtain ⟨T, hT1, hT2⟩ := GT.out
            have GT1 := Lib.hid hT1
            have GT2 := Lib.hid hT2
            rw [ek]
            clear HF HD F1 hjl hy hin h0 hcl hv hX hY HFF HIX HIY hyx hx16 hy16 f1 f2 ek hd hT GT hT1 hT2
            go_wp2_with fail
            refine wp_region_noPanic ?_
            refine wp_region_held_drew (S := (fun w' => w'.cell? ⟨g, k + 1, none⟩ = some (.string X) ∧ w'.cell? ⟨g, k, none⟩ = some (.string Y))) (by kernel_rfl) ?_ (fun hHeld => ?_)
            · first | exact ⟨c1, c2⟩ | exact KK.out _ ⟨bel2.os, bel2.tape, bel2.output, bel2.size, bel2.block⟩
            refine wpAnyH_take (i := 0) (oi := _) (v := ?_) rfl (by kernel_rfl) (by kernel_rfl) (by kernel_rfl) (fun _ _ _ h => h) (Or.inl ⟨by kernel_rfl, ?_⟩) (by assumption) ?_
            rotate_left
            · (intro w hSw; (try dsimp only at hSw); go_simp; try (with_reducible rfl))
            try simp only [Act.put, List.setIfInBounds_toArray, List.set_cons_zero, List.set_cons_succ, List.getElem_toArray, List.getElem_cons_zero, List.getElem_cons_succ]
            refine wpAnyH_take (i := 1) (oi := _) (v := ?_) rfl (by kernel_rfl) (by kernel_rfl) (by kernel_rfl) (fun _ _ _ h => h) (Or.inl ⟨by kernel_rfl, ?_⟩) (by assumption) ?_
            rotate_left
            · (intro w hSw; (try dsimp only at hSw); go_simp; try (with_reducible rfl))
            try simp only [Act.put, List.setIfInBounds_toArray, List.set_cons_zero, List.set_cons_succ, List.getElem_toArray, List.getElem_cons_zero, List.getElem_cons_succ]
            refine wpAnyH_take (i := 2) (oi := _) (v := ?_) rfl (by kernel_rfl) (by kernel_rfl) (by kernel_rfl) (fun _ _ _ h => h) (Or.inl ⟨by kernel_rfl, ?_⟩) (by assumption) ?_
            rotate_left
            · (intro w hSw; (try dsimp only at hSw); go_simp; try (with_reducible rfl))
            try simp only [Act.put, List.setIfInBounds_toArray, List.set_cons_zero, List.set_cons_succ, List.getElem_toArray, List.getElem_cons_zero, List.getElem_cons_succ]
            refine wpAnyH_take (i := 3) (oi := _) (v := ?_) rfl (by kernel_rfl) (by kernel_rfl) (by kernel_rfl) (fun _ _ _ h => h) (Or.inl ⟨by kernel_rfl, ?_⟩) (by assumption) ?_
            rotate_left
            · (intro w hSw; (try dsimp only at hSw); go_simp; try (with_reducible rfl))
            try simp only [Act.put, List.setIfInBounds_toArray, List.set_cons_zero, List.set_cons_succ, List.getElem_toArray, List.getElem_cons_zero, List.getElem_cons_succ]
            refine wpAnyH_take (i := 4) (oi := _) (v := ?_) rfl (by kernel_rfl) (by kernel_rfl) (by kernel_rfl) (fun _ _ _ h => h) (Or.inl ⟨by kernel_rfl, ?_⟩) (by assumption) ?_
            rotate_left
            · (intro w hSw; (try dsimp only at hSw); go_simp; try (with_reducible rfl))
            try simp only [Act.put, List.setIfInBounds_toArray, List.set_cons_zero, List.set_cons_succ, List.getElem_toArray, List.getElem_cons_zero, List.getElem_cons_succ]
            refine wpAnyH_take (i := 5) (oi := _) (v := ?_) rfl (by kernel_rfl) (by kernel_rfl) (by kernel_rfl) (fun _ _ _ h => h) (Or.inl ⟨by kernel_rfl, ?_⟩) (by assumption) ?_
            rotate_left
            · (intro w hSw; (try dsimp only at hSw); go_simp; try (with_reducible rfl))
            try simp only [Act.put, List.setIfInBounds_toArray, List.set_cons_zero, List.set_cons_succ, List.getElem_toArray, List.getElem_cons_zero, List.getElem_cons_succ]
            refine wpAnyH_take (i := 6) (oi := _) (v := ?_) rfl (by kernel_rfl) (by kernel_rfl) (by kernel_rfl) (fun _ _ _ h => h) (Or.inl ⟨by kernel_rfl, ?_⟩) (by assumption) ?_
            rotate_left
            · (intro w hSw; (try dsimp only at hSw); go_simp; try (with_reducible rfl))
            try simp only [Act.put, List.setIfInBounds_toArray, List.set_cons_zero, List.set_cons_succ, List.getElem_toArray, List.getElem_cons_zero, List.getElem_cons_succ]
            refine wpAnyH_take (i := 7) (oi := _) (v := ?_) rfl (by kernel_rfl) (by kernel_rfl) (by kernel_rfl) (fun _ _ _ h => h) (Or.inl ⟨by kernel_rfl, ?_⟩) (by assumption) ?_
            rotate_left
            · (intro w hSw; (try dsimp only at hSw); go_simp; try (with_reducible rfl))
            try simp only [Act.put, List.setIfInBounds_toArray, List.set_cons_zero, List.set_cons_succ, List.getElem_toArray, List.getElem_cons_zero, List.getElem_cons_succ]
            refine wpAnyH_take (i := 8) (oi := _) (v := ?_) rfl (by kernel_rfl) (by kernel_rfl) (by kernel_rfl) (fun _ _ _ h => h) (Or.inl ⟨by kernel_rfl, ?_⟩) (by assumption) ?_
            rotate_left
            · (intro w hSw; (try dsimp only at hSw); go_simp; try (with_reducible rfl))
            try simp only [Act.put, List.setIfInBounds_toArray, List.set_cons_zero, List.set_cons_succ, List.getElem_toArray, List.getElem_cons_zero, List.getElem_cons_succ]
            refine wpAnyH_take (i := 9) (oi := _) (v := ?_) rfl (by kernel_rfl) (by kernel_rfl) (by kernel_rfl) (fun _ _ _ h => h) (Or.inl ⟨by kernel_rfl, ?_⟩) (by assumption) ?_
            rotate_left
            · (intro w hSw; (try dsimp only at hSw); go_simp; try (with_reducible rfl))
            try simp only [Act.put, List.setIfInBounds_toArray, List.set_cons_zero, List.set_cons_succ, List.getElem_toArray, List.getElem_cons_zero, List.getElem_cons_succ]
            refine wpAnyH_take (i := 10) (oi := _) (v := ?_) rfl (by kernel_rfl) (by kernel_rfl) (by kernel_rfl) (fun _ _ _ h => h) (Or.inl ⟨by kernel_rfl, ?_⟩) (by assumption) ?_
            rotate_left
            · (intro w hSw; (try dsimp only at hSw); go_simp; try (with_reducible rfl))
            try simp only [Act.put, List.setIfInBounds_toArray, List.set_cons_zero, List.set_cons_succ, List.getElem_toArray, List.getElem_cons_zero, List.getElem_cons_succ]
            refine wpAnyH_take (i := 11) (oi := _) (v := ?_) rfl (by kernel_rfl) (by kernel_rfl) (by kernel_rfl) (fun _ _ _ h => h) (Or.inl ⟨by kernel_rfl, ?_⟩) (by assumption) ?_
            rotate_left
            · (intro w hSw; (try dsimp only at hSw); go_simp; try (with_reducible rfl))
            try simp only [Act.put, List.setIfInBounds_toArray, List.set_cons_zero, List.set_cons_succ, List.getElem_toArray, List.getElem_cons_zero, List.getElem_cons_succ]
            refine wpAnyH_take (i := 12) (oi := _) (v := ?_) rfl (by kernel_rfl) (by kernel_rfl) (by kernel_rfl) (fun _ _ _ h => h) (Or.inl ⟨by kernel_rfl, ?_⟩) (by assumption) ?_
            rotate_left
            · (intro w hSw; (try dsimp only at hSw); go_simp; try (with_reducible rfl))
            try simp only [Act.put, List.setIfInBounds_toArray, List.set_cons_zero, List.set_cons_succ, List.getElem_toArray, List.getElem_cons_zero, List.getElem_cons_succ]
            refine wpAnyH_take (i := 13) (oi := _) (v := ?_) rfl (by kernel_rfl) (by kernel_rfl) (by kernel_rfl) (fun _ _ _ h => h) (Or.inl ⟨by kernel_rfl, ?_⟩) (by assumption) ?_
            rotate_left
            · (intro w hSw; (try dsimp only at hSw); go_simp; try (with_reducible rfl))
            try simp only [Act.put, List.setIfInBounds_toArray, List.set_cons_zero, List.set_cons_succ, List.getElem_toArray, List.getElem_cons_zero, List.getElem_cons_succ]
            refine wpAnyH_ready (rs := [14]) (by kernel_rfl) (by simp) (AllReadyH.cons (o := _) rfl (fun K hK => ?_) AllReadyH.nil)
            go_simp
            (go_at_call 62; refine (C0 _).mono ?_; rintro e w2 ⟨rfl, bel2⟩)
            go_wp2_with fail
            refine hK.out _ _ ?_ (fun hHeld => ?_)
            · first | exact ⟨c1, c2⟩ | exact KK.out _ ⟨bel2.os, bel2.tape, bel2.output, bel2.size, bel2.block⟩
            clear hK K
            try simp only [Act.put, List.setIfInBounds_toArray, List.set_cons_zero, List.set_cons_succ, List.getElem_toArray, List.getElem_cons_zero, List.getElem_cons_succ]
            refine wpAnyH_take (i := 15) (oi := _) (v := ?_) rfl (by kernel_rfl) (by kernel_rfl) (by kernel_rfl) (fun _ _ _ h => h) (Or.inl ⟨by kernel_rfl, ?_⟩) (by assumption) ?_
            rotate_left
            · (intro w hSw; (try dsimp only at hSw); go_simp; try (with_reducible rfl))
            try simp only [Act.put, List.setIfInBounds_toArray, List.set_cons_zero, List.set_cons_succ, List.getElem_toArray, List.getElem_cons_zero, List.getElem_cons_succ]
            refine wpAnyH_take (i := 16) (oi := _) (v := ?_) rfl (by kernel_rfl) (by kernel_rfl) (by kernel_rfl) (fun _ _ _ h => h) (Or.inl ⟨by kernel_rfl, ?_⟩) (by assumption) ?_
            rotate_left
            · (intro w hSw; (try dsimp only at hSw); go_simp; try (with_reducible rfl))
            try simp only [Act.put, List.setIfInBounds_toArray, List.set_cons_zero, List.set_cons_succ, List.getElem_toArray, List.getElem_cons_zero, List.getElem_cons_succ]
            refine wpAnyH_done (by kernel_rfl) ?_ _
            refine NoPanic.normal ?_
            have G2 := Lib.hid (GT2.out w2 ⟨bel2.os, bel2.tape, bel2.output, bel2.size, bel2.block⟩)
            clear bel2 c1 c2 KK C0
            go_wp2
            go_roundw
            case rel => exact ⟨i + 1, T, by omega, by omega, by go_num, GT1, G2.out⟩
            case measure => simp [intOf]; omega
    · obtain rfl : i = n := by omega
      have G : Hid (Frow base g i cap w (Tr.sortT ss) wr) := by
        have e := HI.out.eq (fun h k => Tr.leT_as h k) HL.out (sortT_perm ss) (sortT_sorted ss)
        rw [e, List.drop_of_length_le (by rw [HL.out]; exact Nat.le_refl _), List.append_nil] at HF
        exact HF
      clear HF F0 HI I0
      go_wp2
      go_end0
      exact ⟨rfl, G.out⟩
theorem fInsert_all (A : Option Addr) (base n c : Nat) (ss : List (List UInt8)) (w : World) (hn : n ≤ 12) (hs16 : ∀ s ∈ ss, s.length ≤ 16) (hbase : base ≤ w.heap.size) (h : w.ownsRow base 60 1 (.slice A n c) n (strs ss)) :
    Calls Tryz.prog 109 #[.slice A n c, .int .i64 0, .int .i64 n, (.func (.func 62) #[] #[])] w (fun e w' => e = .returned (.tuple #[]) ∧ w'.ownsRow base 60 1 (.slice A n c) n (strs (Tr.sortT ss)) ∧ Below base w w' ∧ base ≤ w'.heap.size) := by
  have hl : ss.length = n := by rw [← strs_length]; exact own_len h
  rcases Nat.eq_zero_or_pos n with h0 | h0
  · subst h0
    have e : ss = [] := List.eq_nil_of_length_eq_zero hl
    subst e
    clear hl
    go_enter Tryz.func109, Tryz.ntmps109
    go_wp2_with fail
    go_loopw [8] (fun i wr => i = .int .i64 1 ∧ wr = w) (fun i _ => 0)
    case atStart => exact ⟨rfl, rfl⟩
    case round =>
      obtain ⟨rfl, rfl⟩ := hrel
      go_wp2
      go_end0
      exact ⟨rfl, h, Below.refl _ _, hbase⟩
  · obtain ⟨g, cap, hv⟩ := own_form h h0
    injection hv with hA _ hcap
    subst hA hcap
    refine (fInsert_any base g n c ss w hl h0 hn hs16 hbase h).mono ?_
    rintro e w' ⟨rfl, h1, h2, h3⟩
    exact ⟨rfl, h1, h2, h3⟩
theorem fPdq_any (A : Option Addr) (base n c : Nat) (ss : List (List UInt8)) (l : Int) (w : World) (hn : n ≤ 12) (hs16 : ∀ s ∈ ss, s.length ≤ 16) (hbase : base ≤ w.heap.size) (h : w.ownsRow base 60 1 (.slice A n c) n (strs ss)) :
    Calls Tryz.prog 89 #[.slice A n c, .int .i64 0, .int .i64 n, .int .i64 l, (.func (.func 62) #[] #[])] w (fun e w' => e = .returned (.tuple #[]) ∧ w'.ownsRow base 60 1 (.slice A n c) n (strs (Tr.sortT ss)) ∧ Below base w w' ∧ base ≤ w'.heap.size) := by
  go_enter Tryz.func89, Tryz.ntmps89
  go_wp2_with fail
  go_loopw [1, 2] (fun a b wr => a = .int .i64 0 ∧ b = .int .i64 n ∧ wr = w) (fun _ _ _ => 0)
  case atStart => exact ⟨rfl, rfl, rfl⟩
  case round =>
    obtain ⟨rfl, rfl, rfl⟩ := hrel
    go_wp2_with fail
    refine (fInsert_all A base n c ss _ hn hs16 hbase h).mono ?_
    rintro e w' ⟨rfl, h1, h2, h3⟩
    go_wp2
    (try simp only [Exit.inBlock, Exit.then])
    refine bodyPost_ret (results_none rfl _ _ _) rfl ?_
    exact ⟨rfl, h1, h2, h3⟩
theorem sortFunc_any (A : Option Addr) (base n c : Nat) (ss : List (List UInt8)) (w : World) (hn : n ≤ 12) (hs16 : ∀ s ∈ ss, s.length ≤ 16) (hbase : base ≤ w.heap.size) (h : w.ownsRow base 60 1 (.slice A n c) n (strs ss)) :
    Calls Tryz.prog 61 #[.slice A n c, (.func (.func 62) #[] #[])] w (fun e w' => e = .returned (.tuple #[]) ∧ w'.ownsRow base 60 1 (.slice A n c) n (strs (Tr.sortT ss)) ∧ Below base w w' ∧ base ≤ w'.heap.size) := by
  go_enter Tryz.func61, Tryz.ntmps61
  go_wp2_with fail
  refine (bitsLen n hn _).mono ?_
  rintro e w' ⟨⟨l, rfl⟩, rfl⟩
  go_wp2_with fail
  refine (fPdq_any A base n c ss l _ hn hs16 hbase h).mono ?_
  rintro e w' ⟨rfl, h1, h2, h3⟩
  go_wp2
  go_end0
  exact ⟨rfl, h1, h2, h3⟩
theorem forestOf_any (A : Option Addr) (base n c : Nat) (ss : List (List UInt8)) (w : World) (hn : n ≤ 12) (hs16 : ∀ s ∈ ss, s.length ≤ 16 ∧ Brk s) (hbase : base ≤ w.heap.size) (h : w.ownsRow base 60 1 (.slice A n c) n (strs ss)) :
    Calls Tryz.prog 33 #[.slice A n c] w fun e w' => ∃ A' c' vs, e = .returned (.slice A' n c') ∧ OwnMat w' base w'.heap.size (.slice A' n c') n ((Tr.sortT ss).map Tr.lvl) vs ∧ Below base w w' := by
  have hl : ss.length = n := by rw [← strs_length]; exact own_len h
  have hsl : (Tr.sortT ss).length = n := by rw [(sortT_perm ss).length_eq]; exact hl
  have HSL := Lib.hid hsl
  have HSS : Hid (∀ s ∈ Tr.sortT ss, s.length ≤ 1048576 ∧ Brk s) := fun s hs => by
    have := hs16 s ((sortT_perm ss).mem_iff.1 hs)
    exact ⟨by omega, this.2⟩
  have C0 := sortFunc_any A base n c ss w hn (fun s hs => (hs16 s hs).1) hbase h
  clear hl hsl hs16 h
  go_enter Tryz.func33, Tryz.ntmps33
  go_wp2_with fail
  refine C0.mono ?_
  rintro e w1 ⟨rfl, h1, h2, h3⟩
  have HR : Hid (Row w1 w1.heap.size A (strs (Tr.sortT ss))) := row_of_own h1
  have HB1 := Lib.hid h2
  clear h1 h2 C0
  go_wp2_with fail
  refine (listsOf_any A n c w1.heap.size (Tr.sortT ss) w1 HSL.out (by omega) HSS.out (Nat.le_refl _) HR.out).mono ?_
  rintro e w2 ⟨A2, c2, vs2, rfl, own2, bel2⟩
  have G : Hid (OwnMat w2 base w2.heap.size (.slice A2 n c2) n ((Tr.sortT ss).map Tr.lvl) vs2) := own2.more h3 (Nat.le_refl _)
  have GB := Lib.hid (HB1.out.trans (bel2.mono h3))
  clear own2 bel2
  go_wp2
  go_ret
  exact ⟨_, _, _, rfl, G.out, GB.out⟩
end Go.Proofs.YtpngohklicgbjaaGreat
