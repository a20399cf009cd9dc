/-
  The program's cutting of texts.
-/
import Derived.Test.YtgicbmfcojfjcabGrfT
namespace Go.Proofs.Ytgicbmfcojfjcab
open Go.RowKit Fld
set_option linter.unusedVariables false
set_option linter.unusedSimpArgs false
set_option maxRecDepth 100000

theorem cut_len : ∀ (d : Nat) (x : List UInt8) (k : Nat), Tr.isTx x = true → k < x.length / 2 → x.length / 2 ≤ d → (Tr.cutF d x k).1.length ≤ 200 * d + 200
  | 0, x, k, h, hk, hd => by simp [Tr.cutF]
  | d+1, x, 0, h, hk, hd => by simp [Tr.cutF]
  | d+1, x, n+1, h, hk, hd => by
    rw [Tr.cutF]
    have := oAt_small h hk
    split
    · simp only
      rw [rootT_len]; omega
    · simp only
      rw [rootT_len, flat_snoc]
      obtain ⟨_, h2, h3, _⟩ := Tr.pick_parts h hk
      have h1 := cut_len d (Tr.bAt x n) (Tr.pAt x n) h2 h3 (bAt_less h hk hd)
      omega
def CutAt (d : Nat) : Prop := ∀ (x : List UInt8) (n : Nat) (w : World), Tr.isTx x = true → n + 1 < x.length / 2 → x.length / 2 ≤ d →
    Calls Try.prog 72 #[.string ⟨x.toArray⟩, .int .i64 ((n + 1 : Nat) : Int)] w fun e w' => e = .returned (.tuple #[.string ⟨(Tr.cutF d x (n + 1)).1.toArray⟩, .string ⟨(Tr.cutF d x (n + 1)).2.toArray⟩]) ∧ Below w.heap.size w w'
theorem cutAt_zero : CutAt 0 := fun x n w _ hk hd => by omega
set_option maxHeartbeats 1000000 in
theorem cutAt_succ (d : Nat) (hd8 : d ≤ 8) (IH : CutAt d) : CutAt (d + 1) := by
  intro x n w hx hk hd
  obtain ⟨i0, hi, hz0, hz1, hz2⟩ := info_parts info_tree
  obtain ⟨_, h2, h3, _, _, h7⟩ := Tr.pick_parts hx hk
  have C0 := branchWith_any x n w hx hk
  obtain ⟨X, hX⟩ : ∃ X : ByteArray, X = ⟨x.toArray⟩ := ⟨_, rfl⟩
  obtain ⟨Bb, hBb⟩ : ∃ Bb : ByteArray, Bb = ⟨(Tr.bAt x n).toArray⟩ := ⟨_, rfl⟩
  have HBb := Lib.hid hBb
  rw [← hX, ← hBb] at C0
  rw [← hX]
  obtain ⟨kk, hkk⟩ : ∃ kk, kk = ((n + 1 : Nat) : Int) := ⟨_, rfl⟩
  rw [← hkk] at C0 ⊢
  by_cases hp0 : Tr.pAt x n = 0
  · have HZ : Hid (Tr.cutF (d + 1) x (n + 1) = (Tr.rootT (Tr.oAt x n), Tr.bAt x n)) := by rw [Hid, Tr.cutF, if_pos hp0]
    have HF : Hid ((Tr.oAt x n).flatten.length ≤ 1048574) := by rw [Hid]; have := oAt_small hx hk; omega
    rw [hp0] at C0
    clear hX hBb hkk h2 h3 hx hk hd IH hp0
    go_enter Try.func72, Try.ntmps72
    go_wp2_with fail
    refine C0.mono ?_
    rintro e w1 ⟨g, c, q, rfl, hq, own1, bel1⟩
    have hq7 : q ≤ 7 := by omega
    have HO1 := Lib.hid own1
    have HB1 := Lib.hid bel1
    have hs1 := bel1.size
    clear own1 bel1 hq C0
    go_wp2_with fail
    refine (rootOn_any _ w.heap.size _ _ _ _ (by omega) HF.out hs1 HO1.out).mono ?_
    rintro e w4 ⟨rfl, bel4⟩
    have GB := Lib.hid (HB1.out.trans bel4)
    obtain ⟨Z, hZ⟩ : ∃ Z : ByteArray, Z = ⟨(Tr.wrap (Tr.sortS (Tr.oAt x n))).toArray⟩ := ⟨_, rfl⟩
    have HZZ : Hid (Z = ⟨(Tr.rootT (Tr.oAt x n)).toArray⟩) := hZ
    rw [← hZ]
    clear bel4 hZ
    go_wp2
    go_ret2
    exact ⟨by rw [HZ.out, HZZ.out, HBb.out]; rfl, GB.out⟩
  · obtain ⟨p, hp⟩ : ∃ p, Tr.pAt x n = p + 1 := ⟨Tr.pAt x n - 1, by omega⟩
    rw [hp] at C0 h3
    have C1 := fun w => IH (Tr.bAt x n) p w h2 h3 (bAt_less hx hk hd)
    have HL := cut_len d (Tr.bAt x n) (p + 1) h2 h3 (bAt_less hx hk hd)
    obtain ⟨R, hR⟩ : ∃ R, R = Tr.cutF d (Tr.bAt x n) (p + 1) := ⟨_, rfl⟩
    have HZ : Hid (Tr.cutF (d + 1) x (n + 1) = (Tr.rootT (Tr.oAt x n ++ [R.1]), R.2)) := by rw [Hid, Tr.cutF, if_neg hp0, hp, hR]
    simp only [← hR] at C1
    rw [← hR] at HL
    have HF : Hid ((Tr.oAt x n ++ [R.1]).flatten.length ≤ 1048574) := by rw [Hid, flat_snoc]; have := oAt_small hx hk; omega
    have HS := Lib.hid (strs_snoc (Tr.oAt x n) R.1)
    obtain ⟨G1, hG1⟩ : ∃ G1 : ByteArray, G1 = ⟨R.1.toArray⟩ := ⟨_, rfl⟩
    obtain ⟨G2, hG2⟩ : ∃ G2 : ByteArray, G2 = ⟨R.2.toArray⟩ := ⟨_, rfl⟩
    have HG2 := Lib.hid hG2
    rw [← hG1] at HS
    simp only [← hBb, ← hG1, ← hG2] at C1
    have hpe : ((p + 1 : Nat) : Int) ≠ 0 := by omega
    have tp := beq_f hpe
    obtain ⟨pp, hpp⟩ : ∃ pp, pp = ((p + 1 : Nat) : Int) := ⟨_, rfl⟩
    rw [← hpp] at C0 tp
    simp only [← hpp] at C1
    clear hX hBb hG1 hG2 hkk hpp hpe hp hR HL h2 h3 hx hk hd IH hp0
    go_enter Try.func72, Try.ntmps72
    go_wp2_with fail
    refine C0.mono ?_
    rintro e w1 ⟨g, c, q, rfl, hq, own1, bel1⟩
    have hq7 : q ≤ 7 := by omega
    have HO1 := Lib.hid own1
    have HB1 := Lib.hid bel1
    have hs1 := bel1.size
    clear own1 bel1 hq C0
    go_wp2_with fail
    refine (C1 _).mono ?_
    rintro e w2 ⟨rfl, bel2⟩
    have HB2 := Lib.hid (HB1.out.trans (bel2.mono hs1))
    have own2 := ((OwnR.of HO1.out).below bel2 (Nat.le_refl _)).1
    have HO2 := Lib.hid own2
    have hs02 := HB2.out.size
    clear bel2 C1
    go_wp2_with (at_builtin; (refine wpList_append_lies _ rfl (.tmp 29) (.tmp 31) 89 rfl w.heap.size 79 i0 _ 1 16 Try.underlying89 hi hz0 hz1 hz2 rfl (by omega) (.slice (some ⟨g, 0, none⟩) q c) q (strs (Tr.oAt x n)) rfl (own2.alloc _) ⟨w2.heap.size, 0, none⟩ 1 1 [.string G1] rfl rfl (World.news_of_block (cs := #[.string G1]) (heap_alloc_new _ _)) (by simp [Value.oneCell']) (by omega) (by simp only [maxLen]; omega) (by omega) (by simp; omega) (w2.heap.size + 1) (by simp) ?_); intro g2 cap2 w3 hown3 hgrow3 hat3 hlt3)
    rw [HS.out] at hown3
    have HB3 : Hid (Below w.heap.size w w3) := (HB2.out.alloc (by omega) _).grown hgrow3 (by simp; omega) (fun z hz => (HO2.out.lt z hz).1)
    have HO3 := Lib.hid hown3
    clear hown3 hgrow3 hat3 own2
    go_wp2_with fail
    refine (rootOn_any _ w.heap.size _ _ _ _ (by omega) HF.out HB3.out.size HO3.out).mono ?_
    rintro e w4 ⟨rfl, bel4⟩
    have GB := Lib.hid (HB3.out.trans bel4)
    obtain ⟨Z, hZ⟩ : ∃ Z : ByteArray, Z = ⟨(Tr.wrap (Tr.sortS (Tr.oAt x n ++ [R.1]))).toArray⟩ := ⟨_, rfl⟩
    have HZZ : Hid (Z = ⟨(Tr.rootT (Tr.oAt x n ++ [R.1])).toArray⟩) := hZ
    rw [← hZ]
    clear bel4 hZ
    go_wp2
    go_ret2
    exact ⟨by rw [HZ.out, HZZ.out, HG2.out]; rfl, GB.out⟩
theorem cutAt_all : ∀ d, d ≤ 8 → CutAt d
  | 0, _ => cutAt_zero
  | d+1, h => cutAt_succ d (by omega) (cutAt_all d (by omega))
theorem cutAbove_any (x : List UInt8) (n : Nat) (w : World) (hx : Tr.isTx x = true) (hk : n + 1 < x.length / 2) :
    Calls Try.prog 72 #[.string ⟨x.toArray⟩, .int .i64 ((n + 1 : Nat) : Int)] w fun e w' => e = .returned (.tuple #[.string ⟨(Tr.cutF 8 x (n + 1)).1.toArray⟩, .string ⟨(Tr.cutF 8 x (n + 1)).2.toArray⟩]) ∧ Below w.heap.size w w' :=
  cutAt_all 8 (Nat.le_refl _) x n w hx hk (by have := (Tr.br_parts hx).1.2; omega)
end Go.Proofs.Ytgicbmfcojfjcab
