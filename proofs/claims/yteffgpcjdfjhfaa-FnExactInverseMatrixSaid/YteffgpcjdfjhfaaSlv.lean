/-
  The model's rule of Cramer, walked.
-/
import Derived.Test.YteffgpcjdfjhfaaSlvM
namespace Go.Proofs.Yteffgpcjdfjhfaa
open Go.RowKit Fld
set_option linter.unusedVariables false
set_option linter.unusedSimpArgs false
set_option maxRecDepth 100000

theorem OwnMat.row_at {w : World} {lo hi n k : Nat} {v : Value} {m : List (List Int)} {vs : List Value} {r : List Int} (h : OwnMat w lo hi v n m vs) (hr : m[k]? = some r) (h0 : 0 < r.length) :
    ∃ b cc, vs[k]? = some (.slice (some ⟨b, 0, none⟩) r.length cc) ∧ lo ≤ b ∧ b < hi ∧ w.ownsRow lo 2 1 (.slice (some ⟨b, 0, none⟩) r.length cc) r.length (ints r) := by
  obtain ⟨A, cc, e, o⟩ := h.inner k r hr
  rcases o.1.2 with ⟨_, e2⟩ | ⟨b, cap, cur, hv, hb, _⟩
  · omega
  · injection hv with e1 e2 e3
    subst e1
    exact ⟨b, cc, e, hb, o.2 b rfl, o.1⟩
theorem OwnMat.put {w : World} {lo hi n r k g c : Nat} {v : Value} {m : List (List Int)} {vs : List Value} {row : List Int} {x : Int} (h : OwnMat w lo hi v n m vs) (hr : m[r]? = some row) (hv : vs[r]? = some (.slice (some ⟨g, 0, none⟩) row.length c)) :
    OwnMat (w.setCell ⟨g, k, none⟩ (.int .i64 x)) lo hi v n (m.set r (row.set k x)) vs := by
  obtain ⟨A0, c0, e0, o0⟩ := h.inner r row hr
  rw [hv] at e0
  injection e0 with e0
  injection e0 with eA eq ec
  subst eA ec
  obtain ⟨h1, h2⟩ := o0.1.stored k (.int .i64 x)
  refine h.set_row hv (by rw [List.length_set]) ?_ h2
  have e : (ints row).set k (.int .i64 x) = ints (row.set k x) := by unfold ints intsK; rw [List.map_set]
  rw [e] at h1
  exact h1
/-- a column changed so far -/
structure ColS (w wr : World) (hi n cap g : Nat) (m : List (List Int)) (rs : List Int) (k i : Nat) (vs : List Value) : Prop where
  own : OwnMat wr w.heap.size hi (.slice (some ⟨g, 0, none⟩) n cap) n (colPut m rs k i) vs
  below : Below w.heap.size w wr
  size : hi ≤ wr.heap.size
theorem ColS.step {w wr : World} {hi n cap g k i b c : Nat} {m : List (List Int)} {rs : List Int} {vs : List Value} {x : Int} {row : List Int} (h : ColS w wr hi n cap g m rs k i vs) (hi' : i < m.length) (hx : rs[i]? = some x) (hrow : m[i]? = some row)
    (hv : vs[i]? = some (.slice (some ⟨b, 0, none⟩) row.length c)) (hb : w.heap.size ≤ b) : ColS w (wr.setCell ⟨b, k, none⟩ (.int .i64 x)) hi n cap g m rs k (i + 1) vs := by
  have e := colPut_at (rs := rs) (k := k) (i := i) hi'
  rw [if_neg (by omega), getD_of hrow] at e
  refine ⟨?_, below_set h.below hb _, by have := h.size; simpa [World.setCell] using this⟩
  rw [← colPut_step hi' hx, getD_of hrow]
  exact h.own.put e hv
theorem ColS.drew {w wr : World} {hi n cap g k i : Nat} {m : List (List Int)} {rs : List Int} {vs : List Value} (h : ColS w wr hi n cap g m rs k i vs) : ColS w wr.drew hi n cap g m rs k i vs := ⟨h.own.drewN 1, h.below.drew, h.size⟩
/-- what l01Solve hands back -/
def NewSol (n : Nat) (xs : List Int) (w : World) (e : Ending) (w' : World) : Prop :=
  ∃ A c, e = .returned (.tuple #[.slice A n c, .bool true]) ∧ w'.ownsRow w.heap.size 2 1 (.slice A n c) n (ints xs) ∧ Below w.heap.size w w'
set_option maxHeartbeats 4000000 in
theorem l01Solve_any (A : Option Addr) (br or' n c c' B : Nat) (m : List (List Int)) (rs : List Int) (w : World) (hl : m.length = n) (hrl : rs.length = n) (n1 : 1 ≤ n) (n8 : n ≤ 8) (hw : Wide m n) (hnum : ∀ r ∈ m, allNum r = true) (hrn : allNum rs = true) (hd : detL m ≠ 0)
    (hB : B ≤ w.heap.size) (h : Mat w B A m) (h' : Row w B (some ⟨br, or', none⟩) (ints rs)) :
    Calls Try.prog 22 #[.slice A n c, .slice (some ⟨br, or', none⟩) n c'] w (NewSol n (solL m rs n) w) := by
  have HD := detOf_all n n8
  have HL := Lib.hid hl
  have HRL := Lib.hid hrl
  have HW := Lib.hid hw
  have HNM := Lib.hid hnum
  have HRN := Lib.hid hrn
  have HDM : Hid (∀ W, Below w.heap.size w W → Calls Try.prog 16 #[.slice A n c] W fun e w' => e = .returned (.int .i64 (detL m)) ∧ Below W.heap.size W w') := fun W hb => HD A c B m W hl hw hnum (by have := hb.size; omega) (h.below hb hB)
  obtain ⟨d, hdd⟩ : ∃ d, d = detL m := ⟨_, rfl⟩
  have d0 : 0 ≤ d := by rw [hdd]; exact detL_lo m
  have d1 : d < 10007 := by rw [hdd]; exact detL_hi m
  have td : (d == 0) = false := beq_f (by rw [hdd]; exact hd)
  have HFIT : Hid (n + total m ≤ 1048576) := by
    rw [Hid, total_wide hw, hl]
    have : n * n ≤ 8 * 8 := Nat.mul_le_mul n8 n8
    omega
  have HROW1 : Hid (∀ r ∈ m, 1 ≤ r.length) := fun r hr => by rw [hw r hr]; exact n1
  have HDD := Lib.hid hdd
  rw [← hdd] at HDM
  obtain ⟨f, hf⟩ : ∃ f, f = inv d := ⟨_, rfl⟩
  have hf0 : 0 ≤ f := by rw [hf]; exact inv_lo d
  have hf1 : f < 10007 := by rw [hf]; exact inv_hi d
  have CI : Hid (∀ W : World, Calls Try.prog 31 #[.int .i64 d] W fun e w' => e = .returned (.int .i64 f) ∧ W = w') := fun W => by rw [hf]; exact l01Inv_any d W d0 d1
  have HFI := Lib.hid hf
  clear hl hrl hw hnum hrn hd hdd hf
  go_enter Try.func22, Try.ntmps22
  go_wp2_with fail
  refine (HDM.out _ (Below.refl _ _)).mono ?_
  rintro e w1 ⟨rfl, b1⟩
  have hz1 := b1.size
  go_wp2_with fail
  obtain ⟨i0, hi0, hz0, hz1', hz2⟩ := info_parts info_i64
  go_loopw [7, 8] (fun v i wr => ∃ (k g cap : Nat), k ≤ n ∧ v = .slice (some ⟨g, 0, none⟩) k cap ∧ i = .int .i64 k ∧ Hid (Growing w1 2 g k cap (ints (solL m rs k)) wr)) (fun _ i _ => n - (intOf i).toNat)
  case atStart => exact ⟨0, _, 0, Nat.zero_le _, rfl, rfl, Growing.start ..⟩
  case round =>
    obtain ⟨k, g0, cap0, hk, rfl, rfl, HO⟩ := hrel
    have HB : Hid (Below w.heap.size w wr) := b1.trans (HO.out.2.mono hz1)
    have hzr := HB.out.size
    by_cases hlt : k < n
    · have k0 : (0 : Int) ≤ (k : Int) := Int.natCast_nonneg _
      have k1 : (k : Int) < (n : Int) := by omega
      go_wp2_with fail
      refine (l01Own2_mat A n c B m _ HL.out HFIT.out HROW1.out (by omega) (h.below HB.out hB)).mono ?_
      rintro e w2 hN
      obtain ⟨A5, c5, vs, rfl, own, b5⟩ := hN
      rcases own.outer.1.2 with ⟨_, e2⟩ | ⟨g, cap, cur, hv, hg1, _⟩
      · omega
      · injection hv with e1 e2 e3
        subst e1 e3
        obtain ⟨hi, hhi⟩ : ∃ hi, hi = w2.heap.size := ⟨_, rfl⟩
        rw [← hhi] at own
        have S0 : Hid (ColS wr w2 hi n c5 g m rs k 0 vs) := ⟨by rw [colPut_zero]; exact own, b5, by omega⟩
        clear own b5 hhi
        go_wp2_with fail
        go_loopw [10] (fun i wx => ∃ j : Nat, j ≤ n ∧ i = .int .i64 j ∧ Hid (ColS wr wx hi n c5 g m rs k j vs)) (fun i _ => n - (intOf i).toNat)
        case atStart => exact ⟨0, Nat.zero_le _, rfl, S0⟩
        case round =>
          obtain ⟨j, hj, rfl, HS⟩ := hrel
          clear S0
          by_cases hlt2 : j < n
          · have hjm : j < m.length := by rw [HL.out]; exact hlt2
            obtain ⟨row, hrow⟩ := at_lt hjm
            have hlen := HW.out.at_ hrow
            obtain ⟨x, hx⟩ := at_lt (show j < rs.length by rw [HRL.out]; exact hlt2)
            have e := colPut_at (rs := rs) (k := k) (i := j) hjm
            rw [if_neg (by omega), getD_of hrow] at e
            obtain ⟨b, cc, hva, hb0, hb1, hoa⟩ := HS.out.own.row_at e (by omega)
            have hout := HS.out.own.outer.1.cellAt j (by omega)
            have G := Lib.hid (HS.out.step hjm hx hrow hva hb0)
            rw [hlen] at hva
            rw [hva] at hout
            have hcl := hoa.cellAt k (by omega)
            have hfr := hoa.frozenAt k
            obtain ⟨u, hu⟩ : ∃ u, (ints row)[k]? = some u := at_lt (by rw [ints_length, hlen]; exact hlt)
            rw [hu] at hcl
            obtain ⟨b', o', e1, _, hcr⟩ := (h'.below (HB.out.trans (HS.out.below.mono hzr)) hB) j _ (ints_at hx)
            cases e1
            have j0 : (0 : Int) ≤ (j : Int) := Int.natCast_nonneg _
            have j1 : (j : Int) < (n : Int) := by omega
            clear hrow hx e hva hoa hu
            go_wp2_with fail
            go_region
            have G2 := Lib.hid G.out.drew
            go_wp2
            go_roundw
            case rel => exact ⟨j + 1, by omega, by go_num, G2⟩
            case measure => simp [intOf]; omega
          · obtain rfl : j = n := by omega
            obtain ⟨y, hy⟩ : ∃ y, y = detL (colPut m rs k j) := ⟨_, rfl⟩
            have hy0 : 0 ≤ y := by rw [hy]; exact detL_lo _
            have hy1 : y < 10007 := by rw [hy]; exact detL_hi _
            have HS2 := HS.out
            have hsz := HS2.size
            have hbz := HS2.below.size
            have CD := detOf_all j n8 (some ⟨g, 0, none⟩) c5 hi (colPut m rs k j) _ ((colPut_length m rs k j).trans HL.out) (colPut_wide HW.out) (colPut_num HNM.out HRN.out) hsz HS2.own.mat
            rw [← hy] at CD
            have HB2 := Lib.hid HS2.below
            have HY := Lib.hid hy
            clear HS HS2 hy
            go_wp2_with fail
            refine CD.mono ?_
            rintro e w7 ⟨rfl, b7⟩
            clear CD
            go_wp2_with fail
            refine (CI.out _).mono ?_
            rintro e w' ⟨rfl, rfl⟩
            go_wp2_with fail
            refine (l01Mul_any y f _ hy0 hy1 hf0 hf1).mono ?_
            rintro e w' ⟨rfl, rfl⟩
            obtain ⟨z, hzz⟩ : ∃ z, z = y * f % 10007 := ⟨_, rfl⟩
            rw [← hzz]
            have HC : Hid (ints (solL m rs k) ++ [.int .i64 z] = ints (solL m rs (k + 1))) := by
              rw [Hid, solL_step, HL.out, ← HY.out, ← HDD.out, ← HFI.out, ← hzz]
              simp [ints, intsK]
            clear hzz
            have B7 := Lib.hid (HB2.out.trans (b7.mono hbz))
            have HO7 := Lib.hid ((OwnR.of HO.out.1).below B7.out (Nat.le_refl _)).1
            have hown := HO7.out
            have hs7 : w1.heap.size ≤ w7.heap.size := Nat.le_trans HO.out.2.size B7.out.size
            go_wp2_with (at_builtin; refine wpList_append_lies _ rfl (.tmp 40) (.tmp 46) 32 rfl w1.heap.size 2 i0 _ 1 8 Try.underlying32 hi0 hz0 hz1' hz2 rfl (by omega) (.slice (some ⟨g0, 0, none⟩) k cap0) k (ints (solL m rs k)) rfl (hown.alloc _) ⟨w7.heap.size, 0, none⟩ 1 1 [.int .i64 z] rfl rfl (World.news_of_block (cs := #[.int .i64 z]) (heap_alloc_new _ _)) (by simp [Value.oneCell']) (by omega) (by simp only [maxLen]; omega) (by omega) (by simp; omega) (w7.heap.size + 1) (by simp) ?_; intro g2 cap2 w8 hown2 hgrow2 hat2 hlt9)
            rw [HC.out] at hown2
            have G := Lib.hid (HO.out.step (B7.out.alloc B7.out.size _) hown2 hgrow2)
            clear hown2 hgrow2 hat2 hown
            go_wp2
            go_roundw
            case rel => exact ⟨k + 1, _, _, by omega, rfl, by go_num, G⟩
            case measure => simp [intOf]; omega
    · obtain rfl : k = n := by omega
      have G := Lib.hid HO.out
      clear HO
      go_wp2
      go_ret2
      refine ⟨_, _, rfl, ?_, b1.trans (G.out.2.mono hz1)⟩
      have o := G.out.1
      exact ⟨o.1, o.2.imp id (fun ⟨g, c', cu, e, hb, rest⟩ => ⟨g, c', cu, e, Nat.le_trans hz1 hb, rest⟩)⟩
end Go.Proofs.Yteffgpcjdfjhfaa
