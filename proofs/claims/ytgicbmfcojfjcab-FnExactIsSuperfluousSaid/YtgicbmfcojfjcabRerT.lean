/-
  The program's rerooting of texts.
-/
import Derived.Test.YtgicbmfcojfjcabGrfT
import Derived.Laws.AppendOwnNone
namespace Go.Proofs.Ytgicbmfcojfjcab
open Go.RowKit Fld
set_option linter.unusedVariables false
set_option linter.unusedSimpArgs false
set_option maxRecDepth 100000

theorem strs_app' (a b : List (List UInt8)) : strs a ++ strs b = strs (a ++ b) := by simp [strs]
theorem strs_one' (l : List (List UInt8)) : ∀ u ∈ strs l, u.oneCell' = true := fun u hu => by
  unfold strs at hu
  rw [List.mem_map] at hu
  obtain ⟨x, _, rfl⟩ := hu
  rfl
theorem row_news' {w : World} {B : Nat} {ad : Addr} {vs : List Value} (h : Row w B (some ad) vs) : ∀ j u, vs[j]? = some u → w.cell? (ad.add j) = some u := by
  intro j u hu
  obtain ⟨b, o, e, _, hc⟩ := h j u hu
  cases e
  have : (⟨b, o, none⟩ : Addr).add j = ⟨b, o + j, none⟩ := by unfold Addr.add; split <;> simp_all
  rw [this]; exact hc
theorem own_shape3 {w : World} {base : Nat} {T : TypeId} {v : Value} {n : Nat} {vs : List Value} (h : w.ownsRow base T 1 v n vs) : ∃ A c, v = .slice A n c := by
  rcases h.2 with ⟨rfl, rfl⟩ | ⟨g, cap, cur, rfl, _⟩
  · exact ⟨none, 0, rfl⟩
  · exact ⟨_, _, rfl⟩
def RerAt (d : Nat) : Prop := ∀ (x : List UInt8) (k nb cb B : Nat) (Ab : Option Addr) (bs : List (List UInt8)) (w : World), Tr.isTx x = true → k < x.length / 2 → x.length / 2 ≤ d → bs.length = nb → nb ≤ 1 → (bs.flatten.length + 200 * d ≤ 5000) → B ≤ w.heap.size → Row w B Ab (strs bs) → (Ab = none → nb = 0 ∧ cb = 0) →
    Calls Try.prog 126 #[.string ⟨x.toArray⟩, .int .i64 k, .slice Ab nb cb] w fun e w' => e = .returned (.string ⟨(Tr.rerF d x k bs).toArray⟩) ∧ Below w.heap.size w w'
theorem rerAt_zero : RerAt 0 := fun x k nb cb B Ab bs w _ hk hd _ _ _ _ _ _ => by omega
set_option maxHeartbeats 2000000 in
theorem rerAt_succ (d : Nat) (hd8 : d ≤ 8) (IH : RerAt d) : RerAt (d + 1) := by
  intro x k nb cb B Ab bs w hx hk hd hbl hnb hfl hB hrow hA
  obtain ⟨i0, hi, hz0, hz1, hz2⟩ := info_parts info_tree
  have HBL : Hid ((strs bs).length = nb * 1) := by rw [Hid, strs_length, hbl, Nat.mul_one]
  have HONE := Lib.hid (strs_one' bs)
  cases k with
  | zero =>
    have h7 := (Tr.br_parts hx).2.2
    have HF : Hid ((Tr.brT x ++ bs).flatten.length ≤ 1048574) := by rw [Hid, List.flatten_append, List.length_append]; have := brT_small hx; omega
    have C0 := branches_any x w hx
    have HS := Lib.hid (strs_app' (Tr.brT x) bs)
    have HZ : Hid (Tr.rerF (d + 1) x 0 bs = Tr.rootT (Tr.brT x ++ bs)) := rfl
    rw [HZ.out]
    cases hAb : Ab with
    | none =>
      obtain ⟨e1, e2⟩ := hA hAb
      subst hAb e1 e2
      have hb0 : bs = [] := List.eq_nil_of_length_eq_zero hbl
      subst hb0
      rw [List.append_nil] at HF ⊢
      obtain ⟨X, hX⟩ : ∃ X : ByteArray, X = ⟨x.toArray⟩ := ⟨_, rfl⟩
      rw [← hX] at C0 ⊢
      clear hX hx hk hd hA hrow hfl hbl
      go_enter Try.func126, Try.ntmps126
      go_wp2_with fail
      refine C0.mono ?_
      rintro e w1 ⟨A, q, c, rfl, hq, own1, bel1⟩
      have hs1 := bel1.size
      have HB1 := Lib.hid bel1
      have HO1 := Lib.hid own1
      have hq7 : q ≤ 7 := by omega
      clear bel1 hq C0
      go_wp2_with (at_builtin; refine wpList_append_own_none rfl (.tmp 13) (.tmp 14) 89 rfl w.heap.size 79 i0 1 Try.underlying89 hi (.slice A q c) q (strs (Tr.brT x)) rfl own1 rfl ?_)
      clear own1
      go_wp2_with fail
      refine (rootOn_any A w.heap.size q c _ _ (by omega) HF.out hs1 HO1.out).mono ?_
      rintro e w4 ⟨rfl, bel4⟩
      have GB := Lib.hid (HB1.out.trans bel4)
      obtain ⟨Z, hZ⟩ : ∃ Z : ByteArray, Z = ⟨(Tr.wrap (Tr.sortS (Tr.brT x))).toArray⟩ := ⟨_, rfl⟩
      have HZZ : Hid (Z = ⟨(Tr.rootT (Tr.brT x)).toArray⟩) := hZ
      rw [← hZ]
      clear bel4 hZ
      go_wp2
      go_ret
      exact ⟨by rw [← HZZ.out]; rfl, GB.out⟩
    | some ad =>
      subst hAb
      obtain ⟨X, hX⟩ : ∃ X : ByteArray, X = ⟨x.toArray⟩ := ⟨_, rfl⟩
      rw [← hX] at C0 ⊢
      clear hX hx hk hd hA hfl hbl
      go_enter Try.func126, Try.ntmps126
      go_wp2_with fail
      refine C0.mono ?_
      rintro e w1 ⟨A, q, c, rfl, hq, own1, bel1⟩
      have hs1 := bel1.size
      have HB1 := Lib.hid bel1
      have HO1 := Lib.hid own1
      have hq7 : q ≤ 7 := by omega
      have HNW := Lib.hid (row_news' (Row.below hrow bel1 hB))
      clear bel1 hq C0
      go_wp2_with (at_builtin; refine wpList_append_own _ rfl (.tmp 13) (.tmp 14) 89 rfl w.heap.size 79 i0 _ 1 16 Try.underlying89 hi hz0 hz1 hz2 rfl (by omega) (.slice A q c) q (strs (Tr.brT x)) rfl own1 ad nb cb (strs bs) rfl HBL.out HNW.out HONE.out (by simp only [maxLen]; omega) (by omega) (by omega) ?_; intro v3 w3 own3 hgrow3 _; obtain ⟨A3, c3, rfl⟩ := own_shape3 own3)
      rw [HS.out] at own3
      have HB3 : Hid (Below w.heap.size w w3) := HB1.out.grown hgrow3 (by omega) (fun z hz => (HO1.out.lt z hz).1)
      have HO3 := Lib.hid own3
      clear own3 hgrow3 own1
      go_wp2_with fail
      refine (rootOn_any A3 w.heap.size (q + nb) c3 _ _ (by omega) HF.out HB3.out.size HO3.out).mono ?_
      rintro e w4 ⟨rfl, bel4⟩
      have GB := Lib.hid (HB3.out.trans bel4)
      obtain ⟨Z, hZ⟩ : ∃ Z : ByteArray, Z = ⟨(Tr.wrap (Tr.sortS (Tr.brT x ++ bs))).toArray⟩ := ⟨_, rfl⟩
      have HZZ : Hid (Z = ⟨(Tr.rootT (Tr.brT x ++ bs)).toArray⟩) := hZ
      rw [← hZ]
      clear bel4 hZ
      go_wp2
      go_ret
      exact ⟨by rw [← HZZ.out]; rfl, GB.out⟩
  | succ n =>
    obtain ⟨_, h2, h3, _, _, h7⟩ := Tr.pick_parts hx hk
    have C0 := branchWith_any x n w hx hk
    have hoa := oAt_small hx hk
    have hroot : (Tr.rootT (Tr.oAt x n ++ bs)).length = (Tr.oAt x n).flatten.length + bs.flatten.length + 2 := by rw [rootT_len, List.flatten_append, List.length_append]
    have HF : Hid ((Tr.oAt x n ++ bs).flatten.length ≤ 1048574) := by rw [Hid, List.flatten_append, List.length_append]; omega
    have HS := Lib.hid (strs_app' (Tr.oAt x n) bs)
    have HZ : Hid (Tr.rerF (d + 1) x (n + 1) bs = Tr.rerF d (Tr.bAt x n) (Tr.pAt x n) [Tr.rootT (Tr.oAt x n ++ bs)]) := rfl
    rw [HZ.out]
    clear HZ
    have C1 : ∀ (W : World) (Z : ByteArray), Z = ⟨(Tr.wrap (Tr.sortS (Tr.oAt x n ++ bs))).toArray⟩ → Calls Try.prog 126 #[.string ⟨(Tr.bAt x n).toArray⟩, .int .i64 ((Tr.pAt x n : Nat) : Int), .slice (some ⟨W.heap.size, 0, none⟩) 1 1] (W.alloc (.cells #[.string Z] 79)) fun e w' => e = .returned (.string ⟨(Tr.rerF d (Tr.bAt x n) (Tr.pAt x n) [Tr.rootT (Tr.oAt x n ++ bs)]).toArray⟩) ∧ Below W.heap.size W w' := fun W Z hZ => by
      have ho := World.ownsRow_lit (base := W.heap.size) (size := 1) (e := 79) W #[.string Z] 1 (Nat.le_refl _) (by simp [maxLen]) rfl
      refine (IH (Tr.bAt x n) (Tr.pAt x n) 1 1 _ (some ⟨W.heap.size, 0, none⟩) [Tr.rootT (Tr.oAt x n ++ bs)] (W.alloc (.cells #[.string Z] 79)) h2 h3 (bAt_less hx hk hd) rfl (Nat.le_refl _) ?_ (Nat.le_refl _) ?_ (fun e => by cases e)).mono ?_
      · simp only [List.flatten_cons, List.flatten_nil, List.append_nil]; omega
      · have := row_of_own ho
        rw [hZ] at this ⊢
        exact this
      · rintro e w' ⟨rfl, bel⟩
        exact ⟨rfl, ((Below.refl W.heap.size W).alloc (Nat.le_refl _) _).trans (bel.mono (by simp))⟩
    obtain ⟨R, hR⟩ : ∃ R : ByteArray, R = ⟨(Tr.rerF d (Tr.bAt x n) (Tr.pAt x n) [Tr.rootT (Tr.oAt x n ++ bs)]).toArray⟩ := ⟨_, rfl⟩
    obtain ⟨X, hX⟩ : ∃ X : ByteArray, X = ⟨x.toArray⟩ := ⟨_, rfl⟩
    obtain ⟨Bb, hBb⟩ : ∃ Bb : ByteArray, Bb = ⟨(Tr.bAt x n).toArray⟩ := ⟨_, rfl⟩
    obtain ⟨p, hp⟩ : ∃ p, p = Tr.pAt x n := ⟨_, rfl⟩
    rw [← hX, ← hBb, ← hp] at C0
    simp only [← hBb, ← hR] at C1
    simp only [← hp] at C1
    rw [← hX, ← hR]
    have tk := beq_f (show ¬ ((n + 1 : Nat) : Int) = 0 by omega)
    obtain ⟨kk, hkk⟩ : ∃ kk, kk = ((n + 1 : Nat) : Int) := ⟨_, rfl⟩
    rw [← hkk] at C0 tk ⊢
    cases hAb : Ab with
    | none =>
      obtain ⟨e1, e2⟩ := hA hAb
      subst hAb e1 e2
      have hb0 : bs = [] := List.eq_nil_of_length_eq_zero hbl
      subst hb0
      rw [List.append_nil] at HF
      simp only [List.append_nil] at C1
      clear hX hBb hR hp hkk hx hk hd hA hrow hfl hbl h2 h3 hoa hroot IH
      go_enter Try.func126, Try.ntmps126
      go_wp2_with fail
      refine C0.mono ?_
      rintro e w1 ⟨g, c, q, rfl, hq, own1, bel1⟩
      have hs1 := bel1.size
      have HB1 := Lib.hid bel1
      have HO1 := Lib.hid own1
      have hq7 : q ≤ 7 := by omega
      clear bel1 hq C0
      go_wp2_with (at_builtin; refine wpList_append_own_none rfl (.tmp 26) (.tmp 27) 89 rfl w.heap.size 79 i0 1 Try.underlying89 hi (.slice (some ⟨g, 0, none⟩) q c) q (strs (Tr.oAt x n)) rfl own1 rfl ?_)
      clear own1
      go_wp2_with fail
      refine (rootOn_any (some ⟨g, 0, none⟩) w.heap.size q c _ _ (by omega) HF.out hs1 HO1.out).mono ?_
      rintro e w4 ⟨rfl, bel4⟩
      have GB4 := Lib.hid (HB1.out.trans bel4)
      have hs4 := GB4.out.size
      obtain ⟨Z, hZ⟩ : ∃ Z : ByteArray, Z = ⟨(Tr.wrap (Tr.sortS (Tr.oAt x n))).toArray⟩ := ⟨_, rfl⟩
      have C2 := C1 w4 Z hZ
      rw [← hZ]
      clear bel4 hZ C1
      go_wp2_with fail
      refine C2.mono ?_
      rintro e w5 ⟨rfl, bel5⟩
      have GB := Lib.hid (GB4.out.trans (bel5.mono hs4))
      clear bel5 C2
      go_wp2
      go_ret
      exact ⟨rfl, GB.out⟩
    | some ad =>
      subst hAb
      clear hX hBb hR hp hkk hx hk hd hA hfl hbl h2 h3 hoa hroot IH
      go_enter Try.func126, Try.ntmps126
      go_wp2_with fail
      refine C0.mono ?_
      rintro e w1 ⟨g, c, q, rfl, hq, own1, bel1⟩
      have hs1 := bel1.size
      have HB1 := Lib.hid bel1
      have HO1 := Lib.hid own1
      have hq7 : q ≤ 7 := by omega
      have HNW := Lib.hid (row_news' (Row.below hrow bel1 hB))
      clear bel1 hq C0
      go_wp2_with (at_builtin; refine wpList_append_own _ rfl (.tmp 26) (.tmp 27) 89 rfl w.heap.size 79 i0 _ 1 16 Try.underlying89 hi hz0 hz1 hz2 rfl (by omega) (.slice (some ⟨g, 0, none⟩) q c) q (strs (Tr.oAt x n)) rfl own1 ad nb cb (strs bs) rfl HBL.out HNW.out HONE.out (by simp only [maxLen]; omega) (by omega) (by omega) ?_; intro v3 w3 own3 hgrow3 _; obtain ⟨A3, c3, rfl⟩ := own_shape3 own3)
      rw [HS.out] at own3
      have HB3 : Hid (Below w.heap.size w w3) := HB1.out.grown hgrow3 (by omega) (fun z hz => (HO1.out.lt z hz).1)
      have HO3 := Lib.hid own3
      clear own3 hgrow3 own1
      go_wp2_with fail
      refine (rootOn_any A3 w.heap.size (q + nb) c3 _ _ (by omega) HF.out HB3.out.size HO3.out).mono ?_
      rintro e w4 ⟨rfl, bel4⟩
      have GB4 := Lib.hid (HB3.out.trans bel4)
      have hs4 := GB4.out.size
      obtain ⟨Z, hZ⟩ : ∃ Z : ByteArray, Z = ⟨(Tr.wrap (Tr.sortS (Tr.oAt x n ++ bs))).toArray⟩ := ⟨_, rfl⟩
      have C2 := C1 w4 Z hZ
      rw [← hZ]
      clear bel4 hZ C1
      go_wp2_with fail
      refine C2.mono ?_
      rintro e w5 ⟨rfl, bel5⟩
      have GB := Lib.hid (GB4.out.trans (bel5.mono hs4))
      clear bel5 C2
      go_wp2
      go_ret
      exact ⟨rfl, GB.out⟩
theorem rerAt_all : ∀ d, d ≤ 8 → RerAt d
  | 0, _ => rerAt_zero
  | d+1, h => rerAt_succ d (by omega) (rerAt_all d (by omega))
theorem rerootAt_any (x : List UInt8) (k : Nat) (w : World) (hx : Tr.isTx x = true) (hk : k < x.length / 2) :
    Calls Try.prog 126 #[.string ⟨x.toArray⟩, .int .i64 k, .slice none 0 0] w fun e w' => e = .returned (.string ⟨(Tr.rerF 8 x k []).toArray⟩) ∧ Below w.heap.size w w' :=
  rerAt_all 8 (Nat.le_refl _) x k 0 0 w.heap.size none [] w hx hk (by have := (Tr.br_parts hx).1.2; omega) rfl (by omega) (by simp) (Nat.le_refl _) (Row.nil _ _ _) (fun _ => ⟨rfl, rfl⟩)
end Go.Proofs.Ytgicbmfcojfjcab
