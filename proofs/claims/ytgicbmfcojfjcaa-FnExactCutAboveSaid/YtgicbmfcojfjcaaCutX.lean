/-
  What CutAbove answers, the program's and the model's.
-/
import Derived.Test.YtgicbmfcojfjcaaCutT
import Derived.Test.YtgicbmfcojfjcaaCutL
import Derived.Test.YtgicbmfcojfjcaaGrfR
import Derived.Test.YtgicbmfcojfjcaaHas
import Derived.Test.YtgicbmfcojfjcaaCan
import Derived.Test.YtgicbmfcojfjcaaTreeOf
namespace Go.Proofs.Ytgicbmfcojfjcaa
open Go.RowKit Fld
set_option linter.unusedVariables false
set_option linter.unusedSimpArgs false
set_option maxRecDepth 100000

def cutA (t : List Int) (k : Int) : List Int × List Int × Int :=
  if Tr.isLv t = true then (if 1 ≤ k ∧ k < (t.length : Int) then (Tr.can (Tr.trunkL (Tr.can t) k.toNat), Tr.can (Tr.branchL (Tr.can t) k.toNat), 0) else ([], [], 2)) else ([], [], 1)
theorem cutA_no {t : List Int} {k : Int} (h : Tr.isLv t = false) : cutA t k = ([], [], 1) := if_neg (by rw [h]; simp)
theorem cutA_out {t : List Int} {k : Int} (h : Tr.isLv t = true) (hk : ¬ (1 ≤ k ∧ k < (t.length : Int))) : cutA t k = ([], [], 2) := by unfold cutA; rw [if_pos h, if_neg hk]
theorem cutA_yes {t : List Int} {k : Nat} (h : Tr.isLv t = true) (h1 : 1 ≤ k) (hk : k < t.length) : cutA t (k : Int) = (Tr.can (Tr.trunkL (Tr.can t) k), Tr.can (Tr.branchL (Tr.can t) k), 0) := by
  unfold cutA; rw [if_pos h, if_pos (by omega)]; rfl
/-- two lists of the call's own beside a code -/
def ResP (r : List Int × List Int × Int) (w : World) (e : Ending) (w' : World) : Prop :=
  r.1.length ≤ 1048576 ∧ r.2.1.length ≤ 1048576 ∧ ∃ A c A' c' mid, e = .returned (.tuple #[.slice A r.1.length c, .slice A' r.2.1.length c', .int .i64 r.2.2]) ∧ w.heap.size ≤ mid ∧ mid ≤ w'.heap.size ∧ OwnR w' w.heap.size mid 2 (.slice A r.1.length c) r.1.length (ints r.1) ∧ OwnR w' mid w'.heap.size 2 (.slice A' r.2.1.length c') r.2.1.length (ints r.2.1) ∧ Below w.heap.size w w'
theorem ResP.nil {r : List Int × List Int × Int} {w w' : World} {k : Int} (h : r = ([], [], k)) (hb : Below w.heap.size w w') : ResP r w (.returned (.tuple #[.slice none 0 0, .slice none 0 0, .int .i64 k])) w' := by
  subst h
  exact ⟨by simp, by simp, none, 0, none, 0, w.heap.size, rfl, Nat.le_refl _, hb.size, ⟨World.ownsRow_nil _ _ _ _, fun g e => by simp [Value.ownBlock] at e⟩, ⟨World.ownsRow_nil _ _ _ _, fun g e => by simp [Value.ownBlock] at e⟩, hb⟩
theorem ResP.of {r : List Int × List Int × Int} {w w' : World} {A A' : Option Addr} {n n' c c' mid : Nat} {xs ys : List Int} {k : Int} (h : r = (xs, ys, k)) (hl : xs.length = n) (hl' : ys.length = n') (hn : n ≤ 1048576) (hn' : n' ≤ 1048576) (h1 : w.heap.size ≤ mid) (h2 : mid ≤ w'.heap.size)
    (ho : OwnR w' w.heap.size mid 2 (.slice A n c) n (ints xs)) (ho' : OwnR w' mid w'.heap.size 2 (.slice A' n' c') n' (ints ys)) (hb : Below w.heap.size w w') : ResP r w (.returned (.tuple #[.slice A n c, .slice A' n' c', .int .i64 k])) w' := by
  subst h hl hl'
  exact ⟨hn, hn', A, c, A', c', mid, rfl, h1, h2, ho, ho', hb⟩
/-- a list in memory below a bound: the model's -/
def LowRow (w : World) (hi : Nat) (A : Option Addr) (xs : List Int) : Prop := Row w hi A (ints xs)
theorem LowRow.below {w w' : World} {hi B : Nat} {A : Option Addr} {xs : List Int} (h : LowRow w hi A xs) (hb : Below B w w') (hB : hi ≤ B) : LowRow w' hi A xs := Row.below h hb hB
theorem LowRow.within {w w' : World} {hi lo' hi' : Nat} {A : Option Addr} {xs : List Int} (h : LowRow w hi A xs) (hb : Within lo' hi' w w') (hs : hi ≤ w.heap.size) (hd : hi ≤ lo') : LowRow w' hi A xs :=
  Row.keep h fun b o hbb => World.cell?_of_block (hb.block b (by omega) (by omega))
theorem LowRow.row {w : World} {hi : Nat} {A : Option Addr} {xs : List Int} (h : LowRow w hi A xs) : Row w hi A (ints xs) := h
theorem LowRow.drewN {w : World} {hi : Nat} {A : Option Addr} {xs : List Int} (h : LowRow w hi A xs) (k : Nat) : LowRow (w.drewN k) hi A xs := h
def ResPl (r : List Int × List Int × Int) (w : World) (e : Ending) (w' : World) : Prop :=
  r.1.length ≤ 1048576 ∧ r.2.1.length ≤ 1048576 ∧ ∃ A c A' c', e = .returned (.tuple #[.slice A r.1.length c, .slice A' r.2.1.length c', .int .i64 r.2.2]) ∧ LowRow w' w'.heap.size A r.1 ∧ LowRow w' w'.heap.size A' r.2.1 ∧ Below w.heap.size w w'
theorem ResPl.nil {r : List Int × List Int × Int} {w w' : World} {k : Int} (h : r = ([], [], k)) (hb : Below w.heap.size w w') : ResPl r w (.returned (.tuple #[.slice none 0 0, .slice none 0 0, .int .i64 k])) w' := by
  subst h
  exact ⟨by simp, by simp, none, 0, none, 0, rfl, Row.nil _ _ _, Row.nil _ _ _, hb⟩
theorem ResPl.of {r : List Int × List Int × Int} {w w' : World} {A A' : Option Addr} {n n' c c' : Nat} {xs ys : List Int} {k : Int} (h : r = (xs, ys, k)) (hl : xs.length = n) (hl' : ys.length = n') (hn : n ≤ 1048576) (hn' : n' ≤ 1048576)
    (ho : Row w' w'.heap.size A (ints xs)) (ho' : Row w' w'.heap.size A' (ints ys)) (hb : Below w.heap.size w w') : ResPl r w (.returned (.tuple #[.slice A n c, .slice A' n' c', .int .i64 k])) w' := by
  subst h hl hl'
  exact ⟨hn, hn', A, c, A', c', rfl, ho, ho', hb⟩
theorem cut_parts {t : List Int} {k : Nat} (h : Tr.isLv t = true) (h1 : 1 ≤ k) (hk : k < t.length) :
    Tr.txt (Tr.trunkL (Tr.can t) k) = (Tr.cutF 8 (Tr.txt t) k).1 ∧ Tr.txt (Tr.branchL (Tr.can t) k) = (Tr.cutF 8 (Tr.txt t) k).2 ∧ Tr.isLv (Tr.trunkL (Tr.can t) k) = true ∧ Tr.isLv (Tr.branchL (Tr.can t) k) = true := by
  obtain ⟨c1, c2⟩ := lv_can h
  obtain ⟨c3, c4⟩ := Tr.can_can h
  have := Tr.cut_at c1 c3 h1 (by omega)
  rw [c4] at this
  exact this
set_option maxHeartbeats 2000000 in
theorem pCutAbove_L (A : Option Addr) (n c B : Nat) (t : List Int) (k : Int) (w : World) (hl : t.length = n) (hn : n ≤ 1048576) (hB : B ≤ w.heap.size) (h : Row w B A (ints t)) (hk64 : -9223372036854775808 ≤ k ∧ k ≤ 9223372036854775807) (hc : n ≤ c) :
    Calls Try.prog 70 #[.slice A n c, .int .i64 k] w (ResP (cutA t k) w) := by
  have C0 := isLevels_any A n c B t w hl (by omega) h
  cases h1 : Tr.isLv t
  · have G := Lib.hid (cutA_no (k := k) h1)
    rw [h1] at C0
    clear hl h1
    go_enter Try.func70, Try.ntmps70
    go_wp2_with fail
    refine C0.mono ?_
    rintro e w1 ⟨rfl, d, rfl⟩
    go_wp2
    go_ret3
    exact ResP.nil G.out (below_drewN (Below.refl _ _) _)
  · rw [h1] at C0
    obtain ⟨a1, a8⟩ := lv_bd h1
    rw [hl] at a1 a8
    have z1 := (lv_txt h1).2.2.2
    have C1 := fun w => hasNode_any' A n c k w hn
    by_cases hk : 1 ≤ k ∧ k < (n : Int)
    · obtain ⟨kn, rfl⟩ : ∃ kn : Nat, k = ((kn + 1 : Nat) : Int) := ⟨(k - 1).toNat, by omega⟩
      have G := Lib.hid (cutA_yes h1 (k := kn + 1) (by omega) (by omega))
      obtain ⟨p1, p2, p3, p4⟩ := cut_parts h1 (k := kn + 1) (by omega) (by omega)
      rw [decide_eq_true (show 0 ≤ ((kn + 1 : Nat) : Int) ∧ ((kn + 1 : Nat) : Int) < (n : Int) by omega)] at C1
      have C2 := fun w => cutAbove_any (Tr.txt t) kn w (Tr.tx_txt h1) (by omega)
      have hcl := (lv_can h1).2
      rw [hl] at hcl
      have HTL := Lib.hid (trunk_length (t := Tr.can t) (k := kn + 1) (by omega))
      have HRL := Lib.hid (branch_length (t := Tr.can t) (k := kn + 1) (by omega))
      have HEL := Lib.hid (Tr.endL_le (t := Tr.can t) (k := kn + 1) (by omega))
      have HCN := Lib.hid hcl
      have H3 := Lib.hid p3
      have H4 := Lib.hid p4
      have HC3 := Lib.hid (lv_can p3).2
      have HC4 := Lib.hid (lv_can p4).2
      rw [← p1, ← p2] at C2
      obtain ⟨T, hT⟩ : ∃ T, T = Tr.trunkL (Tr.can t) (kn + 1) := ⟨_, rfl⟩
      obtain ⟨R, hR⟩ : ∃ R, R = Tr.branchL (Tr.can t) (kn + 1) := ⟨_, rfl⟩
      rw [← hT] at G HTL H3 HC3
      rw [← hR] at G HRL H4 HC4
      simp only [← hT, ← hR] at C2
      have hTn : T.length ≤ 8 := by have := HTL.out; have := HCN.out; omega
      have hRn : R.length ≤ 8 := by have := HRL.out; have := HEL.out; have := HCN.out; omega
      obtain ⟨tn, htn⟩ : ∃ tn, tn = T.length := ⟨_, rfl⟩
      obtain ⟨rn, hrn⟩ : ∃ rn, rn = R.length := ⟨_, rfl⟩
      rw [← htn] at hTn HC3
      rw [← hrn] at hRn HC4
      have HTN := Lib.hid htn
      have HRN := Lib.hid hrn
      have HL := Lib.hid hl
      obtain ⟨hk1, hk2⟩ := hk
      have tk0 := beq_f (show ¬ ((kn + 1 : Nat) : Int) = 0 by omega)
      obtain ⟨kk, hkk⟩ : ∃ kk, kk = ((kn + 1 : Nat) : Int) := ⟨_, rfl⟩
      rw [← hkk] at hk1 hk2 tk0 hk64
      simp only [← hkk] at C1 C2
      rw [← hkk] at G
      rw [← hkk]
      clear hl h1 z1 p1 p2 p3 p4 hcl hT hR htn hrn hkk
      go_enter Try.func70, Try.ntmps70
      go_wp2_with fail
      refine C0.mono ?_
      rintro e w1 ⟨rfl, d, rfl⟩
      go_wp2_with fail
      refine (C1 _).mono ?_
      rintro e w1 ⟨rfl, d1, rfl⟩
      have B1 : Hid (Below w.heap.size w ((w.drewN d).drewN d1)) := below_drewN (below_drewN (Below.refl _ _) d) d1
      generalize (w.drewN d).drewN d1 = W1 at *
      go_wp2_with fail
      refine (treeOf_any A n c B t _ HL.out a1 a8 hc (Nat.le_trans hB B1.out.size) (Row.below h B1.out hB)).mono ?_
      rintro e w2 ⟨rfl, bel2⟩
      have B2 : Hid (Below w.heap.size w w2) := B1.out.trans (bel2.mono B1.out.size)
      clear bel2
      go_wp2_with fail
      refine (C2 _).mono ?_
      rintro e w3 ⟨rfl, bel3⟩
      have B3 : Hid (Below w.heap.size w w3) := B2.out.trans (bel3.mono B2.out.size)
      clear bel3 C2
      go_wp2_with fail
      refine (levelsOf_any T _ H3.out).mono ?_
      rintro e w4 ⟨A4, c4, rfl, own4, bel4⟩
      rw [← HTN.out] at own4 ⊢
      have B4 : Hid (Below w.heap.size w w4) := B3.out.trans (bel4.mono B3.out.size)
      have HO4 : Hid (OwnR w4 w.heap.size w4.heap.size 2 (.slice A4 tn c4) tn (ints (Tr.can T))) := (OwnR.of own4).more B3.out.size (Nat.le_refl _)
      clear own4 bel4
      go_wp2_with fail
      refine (levelsOf_any R _ H4.out).mono ?_
      rintro e w5 ⟨A5, c5, rfl, own5, bel5⟩
      rw [← HRN.out] at own5 ⊢
      have hs5 := bel5.size
      have B5 : Hid (Below w.heap.size w w5) := B4.out.trans (bel5.mono B4.out.size)
      have HO4' := Lib.hid (HO4.out.below bel5 (Nat.le_refl _))
      have HO5 : Hid (OwnR w5 w4.heap.size w5.heap.size 2 (.slice A5 rn c5) rn (ints (Tr.can R))) := OwnR.of own5
      have hs4 := B4.out.size
      clear own5 bel5
      go_wp2
      go_ret3
      exact ResP.of G.out HC3.out HC4.out (by omega) (by omega) hs4 hs5 HO4'.out HO5.out B5.out
    · have G := Lib.hid (cutA_out (k := k) h1 (by rw [hl]; exact hk))
      by_cases hk0 : 0 ≤ k ∧ k < (n : Int)
      · have e0 : k = 0 := by omega
        subst e0
        rw [decide_eq_true hk0] at C1
        clear hl h1 z1 hk
        go_enter Try.func70, Try.ntmps70
        go_wp2_with fail
        refine C0.mono ?_
        rintro e w1 ⟨rfl, d, rfl⟩
        go_wp2_with fail
        refine (C1 _).mono ?_
        rintro e w1 ⟨rfl, d1, rfl⟩
        go_wp2
        go_ret3
        exact ResP.nil G.out (below_drewN (Below.refl _ _) _)
      · rw [decide_eq_false hk0] at C1
        clear hl h1 z1 hk hk0
        go_enter Try.func70, Try.ntmps70
        go_wp2_with fail
        refine C0.mono ?_
        rintro e w1 ⟨rfl, d, rfl⟩
        go_wp2_with fail
        refine (C1 _).mono ?_
        rintro e w1 ⟨rfl, d1, rfl⟩
        go_wp2
        go_ret3
        exact ResP.nil G.out (below_drewN (Below.refl _ _) _)
set_option maxHeartbeats 2000000 in
theorem sCutAbove_L (A : Option Addr) (n c B : Nat) (t : List Int) (k : Int) (w : World) (hl : t.length = n) (hn : n ≤ 1048576) (hB : B ≤ w.heap.size) (h : Row w B A (ints t)) (hk64 : -9223372036854775808 ≤ k ∧ k ≤ 9223372036854775807) :
    Calls Try.prog 69 #[.slice A n c, .int .i64 k] w (ResPl (cutA t k) w) := by
  have C0 := l03Is_any A n c B t w hl hn h
  cases h1 : Tr.isLv t
  · have G := Lib.hid (cutA_no (k := k) h1)
    rw [h1] at C0
    clear hl h1
    go_enter Try.func69, Try.ntmps69
    go_wp2_with fail
    refine C0.mono ?_
    rintro e w1 ⟨rfl, d, rfl⟩
    go_wp2
    go_ret3
    exact ResPl.nil G.out (below_drewN (Below.refl _ _) _)
  · rw [h1] at C0
    obtain ⟨a1, a8⟩ := lv_bd h1
    rw [hl] at a1 a8
    have C2 := fun w => l01In_any k 1 ((n : Int) - 1) w
    by_cases hk : 1 ≤ k ∧ k < (n : Int)
    · have T0 := isIn_yes (n := k) (l := 1) (h := (n : Int) - 1) (by omega) (by omega)
      obtain ⟨kn, rfl⟩ : ∃ kn : Nat, k = (kn : Int) := ⟨k.toNat, by omega⟩
      have G := Lib.hid (cutA_yes h1 (k := kn) (by omega) (by omega))
      obtain ⟨p1, p2, p3, p4⟩ := cut_parts h1 (k := kn) (by omega) (by omega)
      have hcl := (lv_can h1).2
      rw [hl] at hcl
      have HCN := Lib.hid hcl
      have H1 := Lib.hid h1
      have H3 := Lib.hid p3
      have H4 := Lib.hid p4
      have HC3 := Lib.hid (lv_can p3).2
      have HC4 := Lib.hid (lv_can p4).2
      have HTL := Lib.hid (trunk_length (t := Tr.can t) (k := kn) (by omega))
      have HRL := Lib.hid (branch_length (t := Tr.can t) (k := kn) (by omega))
      have HEL := Lib.hid (Tr.endL_le (t := Tr.can t) (k := kn) (by omega))
      have HL := Lib.hid hl
      obtain ⟨hk1, hk2⟩ := hk
      have hk1' : 1 ≤ kn := by omega
      have hk2' : kn < n := by omega
      clear hl h1 p1 p2 p3 p4 hcl
      go_enter Try.func69, Try.ntmps69
      go_wp2_with fail
      refine C0.mono ?_
      rintro e w1 ⟨rfl, d, rfl⟩
      go_wp2_with fail
      refine (C2 _).mono ?_
      rintro e w1 ⟨rfl, rfl⟩
      rw [T0]
      have B1 : Hid (Below w.heap.size w (w.drewN d)) := below_drewN (Below.refl _ _) d
      generalize w.drewN d = W1 at *
      go_wp2_with fail
      refine (l03Canon_any A n c B t _ HL.out H1.out (Nat.le_trans hB B1.out.size) (Row.below h B1.out hB)).mono ?_
      rintro e w2 ⟨A2, c2, rfl, own2, bel2⟩
      have B2 : Hid (Below w.heap.size w w2) := B1.out.trans (bel2.mono B1.out.size)
      have R2 : Hid (Row w2 w2.heap.size A2 (ints (Tr.can t))) := row_of_own own2
      have hc2 := (own_cap own2).1
      clear own2 bel2
      go_wp2_with fail
      refine (l04Cut_any A2 n c2 w2.heap.size kn (Tr.can t) w2 HCN.out a8 hk1' hk2' hc2 (lv_can H1.out).1 H3.out H4.out (Nat.le_refl _) R2.out).mono ?_
      rintro e w3 ⟨A3, c3, A4, c4, rfl, o3, o4, bel3⟩
      have GB : Hid (Below w.heap.size w w3) := B2.out.trans (bel3.mono B2.out.size)
      have G3 := Lib.hid o3
      have G4 := Lib.hid o4
      have HT8 : (Tr.can (Tr.trunkL (Tr.can t) kn)).length ≤ 8 := by have := HC3.out; have := HTL.out; have := HCN.out; omega
      have HR8 : (Tr.can (Tr.branchL (Tr.can t) kn)).length ≤ 8 := by have := HC4.out; have := HRL.out; have := HEL.out; have := HCN.out; omega
      clear o3 o4 bel3
      go_wp2
      go_ret3
      exact ResPl.of G.out rfl rfl (by omega) (by omega) G3.out G4.out GB.out
    · have T0 := isIn_no (n := k) (l := 1) (h := (n : Int) - 1) (by omega)
      have G := Lib.hid (cutA_out (k := k) h1 (by rw [hl]; exact hk))
      clear hl h1 hk
      go_enter Try.func69, Try.ntmps69
      go_wp2_with fail
      refine C0.mono ?_
      rintro e w1 ⟨rfl, d, rfl⟩
      go_wp2_with fail
      refine (C2 _).mono ?_
      rintro e w1 ⟨rfl, rfl⟩
      rw [T0]
      go_wp2
      go_ret3
      exact ResPl.nil G.out (below_drewN (Below.refl _ _) _)
end Go.Proofs.Ytgicbmfcojfjcaa
