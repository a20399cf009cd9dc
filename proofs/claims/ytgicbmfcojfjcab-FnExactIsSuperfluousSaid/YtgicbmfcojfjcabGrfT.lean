/-
  The program's grafting on texts.
-/
import Derived.Test.YtgicbmfcojfjcabBWith
namespace Go.Proofs.Ytgicbmfcojfjcab
open Go.RowKit Fld
set_option linter.unusedVariables false
set_option linter.unusedSimpArgs false
set_option maxRecDepth 100000

theorem flat_small : ∀ {l : List (List UInt8)} {m : Nat}, (∀ b ∈ l, b.length ≤ m) → l.flatten.length ≤ l.length * m
  | [], m, _ => by simp
  | b :: l, m, h => by
    have h1 := flat_small (l := l) (fun x hx => h x (by simp [hx]))
    have h2 := h b (by simp)
    rw [List.flatten_cons, List.length_append, List.length_cons, Nat.add_mul, Nat.one_mul]; omega
theorem rootT_len (l : List (List UInt8)) : (Tr.rootT l).length = l.flatten.length + 2 := by
  unfold Tr.rootT Tr.wrap
  rw [List.length_cons, List.length_append, flat_sorted]; rfl
theorem flat_snoc (l : List (List UInt8)) (b : List UInt8) : (l ++ [b]).flatten.length = l.flatten.length + b.length := by simp
theorem brT_small {x : List UInt8} (h : Tr.isTx x = true) : (Tr.brT x).flatten.length ≤ 112 := by
  obtain ⟨⟨_, h16⟩, hb, h7⟩ := Tr.br_parts h
  have := flat_small (l := Tr.brT x) (m := 16) (fun b hb' => by have := (hb b hb').2; omega)
  omega
theorem oAt_small {x : List UInt8} (h : Tr.isTx x = true) {n : Nat} (hn : n + 1 < x.length / 2) : (Tr.oAt x n).flatten.length ≤ 112 := by
  obtain ⟨_, _, _, _, hb, h7⟩ := Tr.pick_parts h hn
  have := flat_small (l := Tr.oAt x n) (m := 16) (fun b hb' => (hb b hb').2)
  omega
theorem bAt_less {x : List UInt8} (h : Tr.isTx x = true) {n d : Nat} (hn : n + 1 < x.length / 2) (hd : x.length / 2 ≤ d + 1) : (Tr.bAt x n).length / 2 ≤ d := by
  have h1 := tx_even h
  obtain ⟨_, h2, _, h3, _⟩ := Tr.pick_parts h hn
  have h4 := tx_even h2
  omega
theorem grf_len : ∀ (d : Nat) (x : List UInt8) (k : Nat) (v : List UInt8), Tr.isTx x = true → k < x.length / 2 → x.length / 2 ≤ d → (Tr.grfF d x k v).length ≤ 200 * d + v.length
  | 0, x, k, v, h, hk, hd => by simp [Tr.grfF]
  | d+1, x, 0, v, h, hk, hd => by
    rw [Tr.grfF, rootT_len, flat_snoc]
    have := brT_small h
    omega
  | d+1, x, n+1, v, h, hk, hd => by
    rw [Tr.grfF, rootT_len, flat_snoc]
    obtain ⟨_, h2, h3, _⟩ := Tr.pick_parts h hk
    have h1 := grf_len d (Tr.bAt x n) (Tr.pAt x n) v h2 h3 (bAt_less h hk hd)
    have := oAt_small h hk
    omega
theorem strs_snoc (l : List (List UInt8)) (b : List UInt8) : strs l ++ [.string ⟨b.toArray⟩] = strs (l ++ [b]) := by simp [strs]
theorem tTimes_any (x v : List UInt8) (w : World) (hx : Tr.isTx x = true) (hv : v.length ≤ 100000) :
    Calls Try.prog 133 #[.string ⟨x.toArray⟩, .string ⟨v.toArray⟩] w fun e w' => e = .returned (.string ⟨(Tr.rootT (Tr.brT x ++ [v])).toArray⟩) ∧ Below w.heap.size w w' := by
  obtain ⟨i0, hi, hz0, hz1, hz2⟩ := info_parts info_tree
  have h7 := (Tr.br_parts hx).2.2
  have HF : Hid ((Tr.brT x ++ [v]).flatten.length ≤ 1048574) := by rw [Hid, flat_snoc]; have := brT_small hx; omega
  have C0 := branches_any x w hx
  have HS := Lib.hid (strs_snoc (Tr.brT x) v)
  obtain ⟨V, hV⟩ : ∃ V : ByteArray, V = ⟨v.toArray⟩ := ⟨_, rfl⟩
  rw [← hV] at HS ⊢
  clear hV hx
  go_enter Try.func133, Try.ntmps133
  go_wp2_with fail
  refine C0.mono ?_
  rintro e w1 ⟨A, q, c, rfl, hq, own1, bel1⟩
  have hs1 := bel1.size
  have HB1 := Lib.hid bel1
  have HO1 := Lib.hid own1
  have hq7 : q ≤ 7 := by omega
  clear bel1 hq C0
  go_wp2_with (at_builtin; (refine wpList_append_lies _ rfl (.tmp 6) (.tmp 8) 89 rfl w.heap.size 79 i0 _ 1 16 Try.underlying89 hi hz0 hz1 hz2 rfl (by omega) (.slice A q c) q (strs (Tr.brT x)) rfl (own1.alloc _) ⟨w1.heap.size, 0, none⟩ 1 1 [.string V] rfl rfl (World.news_of_block (cs := #[.string V]) (heap_alloc_new _ _)) (by simp [Value.oneCell']) (by omega) (by simp only [maxLen]; omega) (by omega) (by simp; omega) (w1.heap.size + 1) (by simp) ?_); intro g2 cap2 w3 hown3 hgrow3 hat3 hlt3)
  rw [HS.out] at hown3
  have HB3 : Hid (Below w.heap.size w w3) := (HB1.out.alloc (by omega) _).grown hgrow3 (by simp; omega) (fun z hz => (HO1.out.lt z hz).1)
  have HO3 := Lib.hid hown3
  clear hown3 hgrow3 hat3 own1
  go_wp2_with fail
  refine (rootOn_any _ w.heap.size _ _ _ _ (by omega) HF.out HB3.out.size HO3.out).mono ?_
  rintro e w4 ⟨rfl, bel4⟩
  have GB := Lib.hid (HB3.out.trans bel4)
  obtain ⟨Z, hZ⟩ : ∃ Z : ByteArray, Z = ⟨(Tr.wrap (Tr.sortS (Tr.brT x ++ [v]))).toArray⟩ := ⟨_, rfl⟩
  have HZ : Hid (Z = ⟨(Tr.rootT (Tr.brT x ++ [v])).toArray⟩) := hZ
  rw [← hZ]
  clear bel4 hZ
  go_wp2
  go_ret
  exact ⟨by rw [← HZ.out]; rfl, GB.out⟩
def GrfAt (d : Nat) : Prop := ∀ (x : List UInt8) (k : Nat) (v : List UInt8) (w : World), Tr.isTx x = true → k < x.length / 2 → x.length / 2 ≤ d → v.length ≤ 16 →
    Calls Try.prog 93 #[.string ⟨x.toArray⟩, .int .i64 k, .string ⟨v.toArray⟩] w fun e w' => e = .returned (.string ⟨(Tr.grfF d x k v).toArray⟩) ∧ Below w.heap.size w w'
theorem grfAt_zero : GrfAt 0 := fun x k v w _ hk hd _ => by omega
set_option maxHeartbeats 1000000 in
theorem grfAt_succ (d : Nat) (hd8 : d ≤ 8) (IH : GrfAt d) : GrfAt (d + 1) := by
  intro x k v w hx hk hd hv
  obtain ⟨i0, hi, hz0, hz1, hz2⟩ := info_parts info_tree
  cases k with
  | zero =>
    have C0 := tTimes_any x v w hx (by omega)
    have HZ : Hid (Tr.grfF (d + 1) x 0 v = Tr.rootT (Tr.brT x ++ [v])) := rfl
    rw [HZ.out]
    clear HZ
    obtain ⟨Z, hZ⟩ : ∃ Z : ByteArray, Z = ⟨(Tr.rootT (Tr.brT x ++ [v])).toArray⟩ := ⟨_, rfl⟩
    rw [← hZ] at C0 ⊢
    obtain ⟨X, hX⟩ : ∃ X : ByteArray, X = ⟨x.toArray⟩ := ⟨_, rfl⟩
    obtain ⟨V, hV⟩ : ∃ V : ByteArray, V = ⟨v.toArray⟩ := ⟨_, rfl⟩
    rw [← hX, ← hV] at C0 ⊢
    clear hZ hX hV hx hk hd hv
    go_enter Try.func93, Try.ntmps93
    go_wp2_with fail
    refine C0.mono ?_
    rintro e w1 ⟨rfl, bel1⟩
    have GB := Lib.hid bel1
    clear bel1 C0
    go_wp2
    go_ret
    exact ⟨rfl, GB.out⟩
  | succ n =>
    obtain ⟨_, h2, h3, _, _, h7⟩ := Tr.pick_parts hx hk
    have C0 := branchWith_any x n w hx hk
    have C1 := fun w => IH (Tr.bAt x n) (Tr.pAt x n) v w h2 h3 (bAt_less hx hk hd) hv
    have HL := grf_len d (Tr.bAt x n) (Tr.pAt x n) v h2 h3 (bAt_less hx hk hd)
    have HZ : Hid (Tr.grfF (d + 1) x (n + 1) v = Tr.rootT (Tr.oAt x n ++ [Tr.grfF d (Tr.bAt x n) (Tr.pAt x n) v])) := rfl
    have HF : Hid ((Tr.oAt x n ++ [Tr.grfF d (Tr.bAt x n) (Tr.pAt x n) v]).flatten.length ≤ 1048574) := by rw [Hid, flat_snoc]; have := oAt_small hx hk; omega
    have HS := Lib.hid (strs_snoc (Tr.oAt x n) (Tr.grfF d (Tr.bAt x n) (Tr.pAt x n) v))
    rw [HZ.out]
    obtain ⟨V, hV⟩ : ∃ V : ByteArray, V = ⟨v.toArray⟩ := ⟨_, rfl⟩
    obtain ⟨X, hX⟩ : ∃ X : ByteArray, X = ⟨x.toArray⟩ := ⟨_, rfl⟩
    obtain ⟨Bb, hBb⟩ : ∃ Bb : ByteArray, Bb = ⟨(Tr.bAt x n).toArray⟩ := ⟨_, rfl⟩
    obtain ⟨Gg, hGg⟩ : ∃ Gg : ByteArray, Gg = ⟨(Tr.grfF d (Tr.bAt x n) (Tr.pAt x n) v).toArray⟩ := ⟨_, rfl⟩
    rw [← hX, ← hBb] at C0
    rw [← hX, ← hV]
    rw [← hGg] at HS
    simp only [← hV, ← hBb, ← hGg] at C1
    obtain ⟨p, hp⟩ : ∃ p, p = Tr.pAt x n := ⟨_, rfl⟩
    rw [← hp] at C0
    simp only [← hp] at C1
    have hk0 : ((n + 1 : Nat) : Int) ≠ 0 := by omega
    have tk : (((n + 1 : Nat) : Int) == 0) = false := beq_f hk0
    obtain ⟨kk, hkk⟩ : ∃ kk, kk = ((n + 1 : Nat) : Int) := ⟨_, rfl⟩
    rw [← hkk] at C0 tk ⊢
    clear hV hX hBb hGg hp HL HZ h2 h3 hkk hk0 hx hk hd hv IH
    go_enter Try.func93, Try.ntmps93
    go_wp2_with fail
    refine C0.mono ?_
    rintro e w1 ⟨g, c, q, rfl, hq, own1, bel1⟩
    have hq7 : q ≤ 7 := by omega
    have HO1 := Lib.hid own1
    have HB1 := Lib.hid bel1
    have hs1 := bel1.size
    clear own1 bel1 hq C0
    go_wp2_with fail
    refine (C1 _).mono ?_
    rintro e w2 ⟨rfl, bel2⟩
    have hs2 := bel2.size
    have HB2 := Lib.hid (HB1.out.trans (bel2.mono hs1))
    have own2 := ((OwnR.of HO1.out).below bel2 (Nat.le_refl _)).1
    have HO2 := Lib.hid own2
    have hs02 := HB2.out.size
    clear bel2 C1
    go_wp2_with (at_builtin; (refine wpList_append_lies _ rfl (.tmp 22) (.tmp 27) 89 rfl w.heap.size 79 i0 _ 1 16 Try.underlying89 hi hz0 hz1 hz2 rfl (by omega) (.slice (some ⟨g, 0, none⟩) q c) q (strs (Tr.oAt x n)) rfl (own2.alloc _) ⟨w2.heap.size, 0, none⟩ 1 1 [.string Gg] rfl rfl (World.news_of_block (cs := #[.string Gg]) (heap_alloc_new _ _)) (by simp [Value.oneCell']) (by omega) (by simp only [maxLen]; omega) (by omega) (by simp; omega) (w2.heap.size + 1) (by simp) ?_); intro g2 cap2 w3 hown3 hgrow3 hat3 hlt3)
    rw [HS.out] at hown3
    have HB3 : Hid (Below w.heap.size w w3) := (HB2.out.alloc (by omega) _).grown hgrow3 (by simp; omega) (fun z hz => (HO2.out.lt z hz).1)
    have HO3 := Lib.hid hown3
    clear hown3 hgrow3 hat3 own2
    go_wp2_with fail
    refine (rootOn_any _ w.heap.size _ _ _ _ (by omega) HF.out HB3.out.size HO3.out).mono ?_
    rintro e w4 ⟨rfl, bel4⟩
    have GB := Lib.hid (HB3.out.trans bel4)
    obtain ⟨Z, hZ⟩ : ∃ Z : ByteArray, Z = ⟨(Tr.wrap (Tr.sortS (Tr.oAt x n ++ [Tr.grfF d (Tr.bAt x n) (Tr.pAt x n) v]))).toArray⟩ := ⟨_, rfl⟩
    have HZ : Hid (Z = ⟨(Tr.rootT (Tr.oAt x n ++ [Tr.grfF d (Tr.bAt x n) (Tr.pAt x n) v])).toArray⟩) := hZ
    rw [← hZ]
    clear bel4 hZ
    go_wp2
    go_ret
    exact ⟨by rw [← HZ.out]; rfl, GB.out⟩
theorem grfAt_all : ∀ d, d ≤ 8 → GrfAt d
  | 0, _ => grfAt_zero
  | d+1, h => grfAt_succ d (by omega) (grfAt_all d (by omega))
theorem graftAt_any (x : List UInt8) (k : Nat) (v : List UInt8) (w : World) (hx : Tr.isTx x = true) (hk : k < x.length / 2) (hv : v.length ≤ 16) :
    Calls Try.prog 93 #[.string ⟨x.toArray⟩, .int .i64 k, .string ⟨v.toArray⟩] w fun e w' => e = .returned (.string ⟨(Tr.grfF 8 x k v).toArray⟩) ∧ Below w.heap.size w w' :=
  grfAt_all 8 (Nat.le_refl _) x k v w hx hk (by have := (Tr.br_parts hx).1.2; omega) hv
end Go.Proofs.Ytgicbmfcojfjcab
