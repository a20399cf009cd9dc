/-
  The program's elimination, whole: the number that it answers is the determinant.
-/
import Derived.Test.YtdgdanpkekcckaaElimD
import Derived.BigRegion
namespace Go.Proofs.Ytdgdanpkekcckaa
open Go.RowKit Fld
open Det (det swp)
set_option linter.unusedVariables false
set_option linter.unusedSimpArgs false
set_option maxRecDepth 100000

/-- what holds ahead of the column k -/
structure Step (w : World) (lo hi n cap g q : Nat) (m : List (List Int)) (k : Nat) (d : Int) (M : List (List Int)) (vs : List Value) (wr : World) : Prop where
  own : OwnSys wr lo hi (.slice (some ⟨g, 0, none⟩) n cap) n M vs
  within : Within lo hi w wr
  wide : Wide M q
  num : ∀ r ∈ M, allNum r = true
  unit : ∀ i, i < n → ∀ j, j < k → ent M i j = if i = j then 1 else 0
  det : d * Det.det n (ent M) % 10007 = Det.det n (ent m) % 10007
  d0 : 0 ≤ d
  d1 : d < 10007
  kil : ∀ z, Kil M n q z → Kil m n q z
/-- what is left when the elimination has come through -/
structure Reduced (w : World) (lo hi n cap g q : Nat) (m M : List (List Int)) (vs : List Value) : Prop where
  own : OwnSys w lo hi (.slice (some ⟨g, 0, none⟩) n cap) n M vs
  wide : Wide M q
  num : ∀ r ∈ M, allNum r = true
  unit : ∀ i, i < n → ∀ j, j < n → ent M i j = if i = j then 1 else 0
  kil : ∀ z, Kil M n q z → Kil m n q z
theorem Step.left {w wr : World} {lo hi n cap g q : Nat} {m M : List (List Int)} {d : Int} {vs : List Value} (h : Step w lo hi n cap g q m n d M vs wr) : Reduced wr lo hi n cap g q m M vs := ⟨h.own, h.wide, h.num, h.unit, h.kil⟩
/-- nothing is left in the column -/
theorem Step.stop {w wr : World} {lo hi n cap g q k : Nat} {m M : List (List Int)} {d : Int} {vs : List Value} (h : Step w lo hi n cap g q m k d M vs wr) (hk : k < n) (h0 : ∀ i, k ≤ i → i < n → ent M i k = 0) : Det.det n (ent m) % 10007 = 0 := by
  rw [← h.det, Det.det_stop k n (ent M) hk h.unit h0, Int.mul_zero]; rfl
theorem Step.done {w wr : World} {lo hi n cap g q : Nat} {m M : List (List Int)} {d : Int} {vs : List Value} (h : Step w lo hi n cap g q m n d M vs wr) : Det.det n (ent m) % 10007 = d := by
  rw [← h.det, Det.det_unit h.unit, Int.mul_one, Int.emod_eq_of_lt h.d0 h.d1]
/-- one column more -/
theorem Step.next {w wr w2 : World} {lo hi n cap g q k : Nat} {m M : List (List Int)} {d : Int} {vs : List Value} (h : Step w lo hi n cap g q m k d M vs wr) (hnq : n ≤ q) (hk : k < n) (hx : ent M k k ≠ 0)
    (ho : OwnSys w2 lo hi (.slice (some ⟨g, 0, none⟩) n cap) n (elimL M k) vs) (hw : Within lo hi wr w2) : Step w lo hi n cap g q m (k + 1) (d * ent M k k % 10007) (elimL M k) vs w2 := by
  have hl := h.own.size
  have hb := ent_num h.wide h.num (show k < M.length by omega) (show k < q by omega)
  refine ⟨ho, h.within.trans hw, elim_wide h.wide (by omega), elim_num, elim_unit hl h.wide h.num hk (by omega) hx h.unit, ?_, by omega, by omega, fun z hz => h.kil z (elim_kil hl h.wide h.num hk (by omega) hx hz)⟩
  rw [← h.det, Int.mul_emod, Int.emod_emod, ← Int.mul_emod, Int.mul_assoc, Int.mul_emod, elim_det hl h.wide hnq hk (by omega) hb.2, ← Int.mul_emod]
/-- two rows have changed places -/
theorem Step.swapped {w wr : World} {lo hi n cap g q k a : Nat} {m M : List (List Int)} {d : Int} {vs : List Value} {r s : List Int} {u t : Value} (h : Step w lo hi n cap g q m k d M vs wr) (hk : k < n) (ha : a < n) (hka : k < a)
    (hp : M[a]? = some r) (hq : M[k]? = some s) (hu : vs[a]? = some u) (ht : vs[k]? = some t) (hg : lo ≤ g ∧ g < hi) :
    Step w lo hi n cap g q m k (-d % 10007) (swapL M a k r s) (swapL vs a k u t) ((wr.setCell ⟨g, a, none⟩ t).setCell ⟨g, k, none⟩ u) := by
  have hmem : ∀ x ∈ swapL M a k r s, x ∈ M := fun x hx => by
    obtain ⟨i, hi⟩ := List.getElem?_of_mem hx
    rw [swapL_at hp hq] at hi
    exact List.mem_of_getElem? hi
  refine ⟨h.own.swap hp hq hu ht, h.within.trans (Within.trans (b := wr.setCell ⟨g, a, none⟩ t) ?_ ?_), fun x hx => h.wide x (hmem x hx), fun x hx => h.num x (hmem x hx), ?_, ?_, by omega, by omega, fun z hz => h.kil z (swap_kil hp hq ha hk hz)⟩
  · exact ⟨rfl, rfl, rfl, by simp [World.setCell], fun i hi hr => Below.heap_setCell wr ⟨g, a, none⟩ _ i (fun e => by have e2 : i = g := e; omega)⟩
  · exact ⟨rfl, rfl, rfl, by simp [World.setCell], fun i hi hr => Below.heap_setCell _ ⟨g, k, none⟩ _ i (fun e => by have e2 : i = g := e; omega)⟩
  · intro i hi j hj
    rw [swap_ent hp hq]
    unfold swp
    by_cases e1 : i = a
    · rw [if_pos e1, h.unit k hk j hj, if_neg (by omega), if_neg (by omega)]
    · rw [if_neg e1]
      by_cases e2 : i = k
      · rw [if_pos e2, h.unit a ha j hj, if_neg (by omega), if_neg (by omega)]
      · rw [if_neg e2, h.unit i hi j hj]
  · rw [swap_det hp hq ha hk (by omega), ← h.det]
    generalize Det.det n (ent M) = z
    rw [Int.mul_emod, Int.emod_emod, ← Int.mul_emod, Int.neg_mul_neg]
theorem Step.drew {w wr : World} {lo hi n cap g q k : Nat} {m M : List (List Int)} {d : Int} {vs : List Value} (h : Step w lo hi n cap g q m k d M vs wr) : Step w lo hi n cap g q m k d M vs wr.drew :=
  ⟨h.own.drewN 1, ⟨h.within.os, h.within.tape, h.within.output, h.within.size, h.within.block⟩, h.wide, h.num, h.unit, h.det, h.d0, h.d1, h.kil⟩
set_option maxHeartbeats 2000000 in
theorem reduce_sys (g n cap lo hi q : Nat) (m : List (List Int)) (vs : List Value) (w : World) (hq : Wide m q) (hnum : ∀ r ∈ m, allNum r = true) (hn : n ≤ 8) (hnq : n ≤ q) (hq16 : q ≤ 16) (hhi : hi ≤ w.heap.size) (hg : lo ≤ g ∧ g < hi)
    (h : OwnSys w lo hi (.slice (some ⟨g, 0, none⟩) n cap) n m vs) :
    Calls Try.prog 18 #[.slice (some ⟨g, 0, none⟩) n cap, .int .i64 n] w fun e w' => e = .returned (.int .i64 (det n (ent m) % 10007)) ∧ Within lo hi w w' ∧ (det n (ent m) % 10007 ≠ 0 → ∃ M us, Reduced w' lo hi n cap g q m M us) := by
  have H0 : Hid (Step w lo hi n cap g q m 0 1 m vs w) := ⟨h, Within.refl _ _ _, hq, hnum, fun i _ j hj => by omega, by rw [Int.one_mul], by omega, by omega, fun _ hz => hz⟩
  clear h hq hnum
  go_enter Try.func18, Try.ntmps18
  go_wp2_with fail
  go_loopw [5, 9] (fun dv cv wr => ∃ (k : Nat) (d : Int) (M : List (List Int)) (us : List Value), k ≤ n ∧ dv = .int .i64 d ∧ cv = .int .i64 k ∧ Hid (Step w lo hi n cap g q m k d M us wr)) (fun _ cv _ => n - (intOf cv).toNat)
  case atStart => exact ⟨0, 1, m, vs, Nat.zero_le _, rfl, rfl, H0⟩
  case round =>
    obtain ⟨k, d, M, us, hk, rfl, rfl, HS⟩ := hrel
    clear H0
    by_cases hkn : k < n
    · have ML := Lib.hid HS.out.own.size
      have k0 : (0 : Int) ≤ (k : Int) := Int.natCast_nonneg _
      have k1 : (k : Int) < (n : Int) := by omega
      go_wp2_with fail
      go_loop [7] (fun pv => ∃ a : Nat, k ≤ a ∧ a ≤ n ∧ pv = .int .i64 a ∧ Hid (∀ i, k ≤ i → i < a → ent M i k = 0)) (fun pv => n - (intOf pv).toNat)
      case atStart => exact ⟨k, Nat.le_refl _, by omega, rfl, fun i h1 h2 => by omega⟩
      case round =>
        obtain ⟨a, hka, ha, rfl, HZ⟩ := hrel
        by_cases han : a < n
        · obtain ⟨ra, hra⟩ := at_lt (show a < M.length by rw [ML.out]; exact han)
          have hral := HS.out.wide.at_ hra
          obtain ⟨x, hx⟩ := at_lt (show k < ra.length by omega)
          obtain ⟨x0, x1⟩ := numR (HS.out.num ra (List.mem_of_getElem? hra)) hx
          have HE : Hid (ent M a k = x) := ent_at hra hx
          obtain ⟨ba, ca, hva, hba0, hba1, hoa⟩ := HS.out.own.row_at hra (by omega)
          have hout := HS.out.own.outer.1.cellAt a (by omega)
          rw [hva, hral] at hout
          have hcl := hoa.cellAt k (by omega)
          rw [ints_at hx] at hcl
          have a0 : (0 : Int) ≤ (a : Int) := Int.natCast_nonneg _
          have a1 : (a : Int) < (n : Int) := by omega
          have kq : (k : Int) < (q : Int) := by omega
          have kqn : k < q := by omega
          have HRA := Lib.hid hra
          have HVA := Lib.hid hva
          have hkw : k < n := hkn
          by_cases hx0 : x = 0
          · have tx := beq_t hx0
            have HZ2 : Hid (∀ i, k ≤ i → i < a + 1 → ent M i k = 0) := fun i h1 h2 => by
              by_cases e : i = a
              · rw [e, HE.out, hx0]
              · exact HZ.out i h1 (by omega)
            clear hx hra hral hva hoa hx0 HZ
            go_wp2
            go_round
            case rel => exact ⟨a + 1, by omega, by omega, by go_num, HZ2⟩
            case measure => simp [intOf]; omega
          · have tx := beq_f hx0
            have tan : ((a : Int) == (n : Int)) = false := beq_f (by omega)
            have d0 := HS.out.d0
            have d1 := HS.out.d1
            by_cases hak : a = k
            · obtain ⟨d2, hd2⟩ : ∃ d2, d2 = d * x % 10007 := ⟨_, rfl⟩
              have C1 : Hid (∀ w : World, Calls Try.prog 33 #[.int .i64 d, .int .i64 x] w fun e w' => e = .returned (.int .i64 d2) ∧ w = w') := fun w => by rw [hd2]; exact times_any _ _ _ d0 d1 x0 x1
              have tak : ((a : Int) != (k : Int)) = false := bne_f (by omega)
              have HN : Hid (∀ W, OwnSys W lo hi (.slice (some ⟨g, 0, none⟩) n cap) n (elimL M k) us → Within lo hi wr W → Step w lo hi n cap g q m (k + 1) d2 (elimL M k) us W) := fun W h1 h2 => by
                have e : ent M k k = x := by rw [← HE.out, hak]
                have := HS.out.next hnq hkn (by rw [e]; exact hx0) h1 h2
                rw [e, ← hd2] at this
                exact this
              rw [hak] at hout
              clear hx hra hral hva hoa hx0 HZ hd2 tan
              have hhw : hi ≤ wr.heap.size := Nat.le_trans hhi HS.out.within.size
              go_wp2_with fail
              refine (C1.out _).mono ?_
              rintro e w' ⟨rfl, rfl⟩
              go_wp2_with fail
              refine (eliminate_any g n cap lo hi k q M us _ HS.out.wide HS.out.num hkn kqn hn hq16 (by exact hhw) (by exact HS.out.own)).mono ?_
              rintro e w2 ⟨rfl, ho, hw⟩
              have G := Lib.hid (HN.out w2 ho hw)
              clear ho hw HS
              go_wp2
              go_roundw
              case rel => exact ⟨k + 1, d2, _, us, by omega, rfl, by go_num, G⟩
              case measure => simp [intOf]; omega
            · obtain ⟨rk, hrk⟩ := at_lt (show k < M.length by rw [ML.out]; exact hkn)
              have hrkl := HS.out.wide.at_ hrk
              obtain ⟨bk, ck, hvk, _, _, _⟩ := HS.out.own.row_at hrk (by omega)
              have hout2 := HS.out.own.outer.1.cellAt k (by omega)
              have hfa := HS.out.own.outer.1.frozenAt a
              have hfk := HS.out.own.outer.1.frozenAt k
              rw [hvk, hrkl] at hout2
              rw [hrkl] at hvk
              rw [hral] at hva
              have tak : ((a : Int) != (k : Int)) = true := bne_t (by omega)
              have S1 := Lib.hid (HS.out.swapped hkn han (by omega) hra hrk hva hvk hg)
              obtain ⟨d1', hd1'⟩ : ∃ d1', d1' = -d % 10007 := ⟨_, rfl⟩
              obtain ⟨e0, e1⟩ : 0 ≤ d1' ∧ d1' < 10007 := by omega
              obtain ⟨d2, hd2⟩ : ∃ d2, d2 = d1' * x % 10007 := ⟨_, rfl⟩
              have C0 : Hid (∀ w : World, Calls Try.prog 32 #[.int .i64 d] w fun e w' => e = .returned (.int .i64 d1') ∧ w = w') := fun w => by rw [hd1']; exact negative_any _ _ d0 d1
              have C1 : Hid (∀ w : World, Calls Try.prog 33 #[.int .i64 d1', .int .i64 x] w fun e w' => e = .returned (.int .i64 d2) ∧ w = w') := fun w => by rw [hd2]; exact times_any _ _ _ e0 e1 x0 x1
              have HEK : Hid (ent (swapL M a k ra rk) k k = x) := by
                rw [Hid, swap_ent hra hrk]; unfold swp; rw [if_neg (by omega), if_pos rfl]; exact HE.out
              have hhw : hi ≤ wr.heap.size := Nat.le_trans hhi HS.out.within.size
              rw [← hd1'] at S1
              have HX := Lib.hid hx
              have HRAL := Lib.hid hral
              obtain ⟨M', us', S2, HEK2, HMK, HUK⟩ : ∃ (M' : List (List Int)) (us' : List Value), Hid (Step w lo hi n cap g q m k d1' M' us' ((wr.setCell ⟨g, a, none⟩ (.slice (some ⟨bk, 0, none⟩) q ck)).setCell ⟨g, k, none⟩ (.slice (some ⟨ba, 0, none⟩) q ca)).drew) ∧ Hid (ent M' k k = x) ∧ Hid (M'[k]? = some ra) ∧ Hid (us'[k]? = some (.slice (some ⟨ba, 0, none⟩) q ca)) :=
                ⟨_, _, S1.out.drew, HEK, by rw [Hid, swapL_at hra hrk, if_neg (by omega), if_pos rfl]; exact hra, by rw [Hid, swapL_at hva hvk, if_neg (by omega), if_pos rfl]; exact hva⟩
              have HN : Hid (∀ W W', Step w lo hi n cap g q m k d1' M' us' W → OwnSys W' lo hi (.slice (some ⟨g, 0, none⟩) n cap) n (elimL M' k) us' → Within lo hi W W' → Step w lo hi n cap g q m (k + 1) d2 (elimL M' k) us' W') := fun W W' h0 h1 h2 => by
                have := h0.next hnq hkn (by rw [HEK2.out]; exact hx0) h1 h2
                rw [HEK2.out, ← hd2] at this
                exact this
              clear hx hra hral hva hoa hx0 HZ hd2 tan hd1' hrk hrkl hvk HS S1 HEK
              go_wp2_with fail
              go_region
              generalize ((wr.setCell ⟨g, a, none⟩ (.slice (some ⟨bk, 0, none⟩) q ck)).setCell ⟨g, k, none⟩ (.slice (some ⟨ba, 0, none⟩) q ca)).drew = W at *
              have hralq := HRAL.out
              obtain ⟨b1, c1', e, _, _, ho1⟩ := S2.out.own.row_at HMK.out (by omega)
              rw [HUK.out, hralq] at e
              cases e
              have hout3 := S2.out.own.outer.1.cellAt k (by omega)
              rw [HUK.out] at hout3
              have hcl3 := ho1.cellAt k (by omega)
              rw [ints_at HX.out] at hcl3
              have hhw2 : hi ≤ W.heap.size := Nat.le_trans hhi S2.out.within.size
              clear ho1 hralq hout hout2 hcl hfa hfk
              go_wp2_with fail
              refine (C0.out _).mono ?_
              rintro e w' ⟨rfl, rfl⟩
              go_wp2_with fail
              refine (C1.out _).mono ?_
              rintro e w' ⟨rfl, rfl⟩
              go_wp2_with fail
              refine (eliminate_any g n cap lo hi k q M' us' _ S2.out.wide S2.out.num hkn kqn hn hq16 (by exact hhw2) (by exact S2.out.own)).mono ?_
              rintro e w2 ⟨rfl, ho, hw⟩
              have G := Lib.hid (HN.out _ w2 S2.out ho hw)
              clear ho hw S2 HN
              go_wp2
              go_roundw
              case rel => exact ⟨k + 1, d2, _, us', by omega, rfl, by go_num, G⟩
              case measure => simp [intOf]; omega
        · obtain rfl : a = n := by omega
          have HD : Hid (det a (ent m) % 10007 = 0) := HS.out.stop hkn HZ.out
          have HW := Lib.hid HS.out.within
          clear HS HZ
          go_wp2
          go_ret
          exact ⟨by rw [HD.out]; first | done | rfl, HW.out, fun hne => absurd HD.out hne⟩
    · obtain rfl : k = n := by omega
      have HD := Lib.hid HS.out.done
      have HW := Lib.hid HS.out.within
      have HL := Lib.hid HS.out.left
      clear HS
      go_wp2
      go_ret
      exact ⟨by rw [HD.out]; first | done | rfl, HW.out, fun _ => ⟨M, us, HL.out⟩⟩
theorem reduce_any (g n cap lo hi q : Nat) (m : List (List Int)) (vs : List Value) (w : World) (hq : Wide m q) (hnum : ∀ r ∈ m, allNum r = true) (hn : n ≤ 8) (hnq : n ≤ q) (hq16 : q ≤ 16) (hhi : hi ≤ w.heap.size) (hg : lo ≤ g ∧ g < hi)
    (h : OwnSys w lo hi (.slice (some ⟨g, 0, none⟩) n cap) n m vs) :
    Calls Try.prog 18 #[.slice (some ⟨g, 0, none⟩) n cap, .int .i64 n] w fun e w' => e = .returned (.int .i64 (det n (ent m) % 10007)) ∧ Within lo hi w w' :=
  (reduce_sys g n cap lo hi q m vs w hq hnum hn hnq hq16 hhi hg h).mono fun _ _ h => ⟨h.1, h.2.1⟩
end Go.Proofs.Ytdgdanpkekcckaa
