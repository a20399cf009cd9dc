/-
  What BranchesOf answers, the program's and the model's.
-/
import Derived.Test.YtegigeoeoioolaaBra
import Derived.Test.YtegigeoeoioolaaBraS
import Derived.Test.YtegigeoeoioolaaSrtF
import Derived.Test.YtegigeoeoioolaaNestc
namespace Go.Proofs.Ytegigeoeoioolaa.Tr
set_option maxRecDepth 100000
def chkG (t : List Int) : Bool := decide ((sortT (brT (txt t))).map lvl = branL t) && decide ((branL t).length + ((branL t).map List.length).sum ≤ 100) && decide ((branL t).length = (brT (txt t)).length) && isTx (txt t)
theorem chkG_all : allLv.all chkG = true := by decide +kernel
end Go.Proofs.Ytegigeoeoioolaa.Tr
namespace Go.Proofs.Ytegigeoeoioolaa
open Go.RowKit Fld
set_option linter.unusedVariables false
set_option linter.unusedSimpArgs false
set_option maxRecDepth 100000

theorem bran_parts {t : List Int} (h : Tr.isLv t = true) : (Tr.sortT (Tr.brT (Tr.txt t))).map Tr.lvl = Tr.branL t ∧ (Tr.branL t).length + total (Tr.branL t) ≤ 1048576 ∧ (Tr.branL t).length = (Tr.brT (Tr.txt t)).length ∧ Tr.isTx (Tr.txt t) = true := by
  have h1 := Tr.all_of Tr.chkG_all (Tr.isLv_iff.1 h)
  unfold Tr.chkG at h1
  simp only [Bool.and_eq_true, decide_eq_true_eq] at h1
  exact ⟨h1.1.1.1, by unfold total; omega, h1.1.2, h1.2⟩
theorem tx_brk {x : List UInt8} (h : Tr.isTx x = true) : Brk x := by
  unfold Tr.isTx at h
  simp only [Bool.and_eq_true, beq_iff_eq] at h
  rw [← h.2]; exact txt_brk _ _
def branchesA (t : List Int) : List (List Int) × Int := if Tr.isLv t = true then (Tr.branL t, 0) else ([], 1)
theorem branchesA_yes {t : List Int} (h : Tr.isLv t = true) : branchesA t = (Tr.branL t, 0) := if_pos h
theorem branchesA_no {t : List Int} (h : Tr.isLv t = false) : branchesA t = ([], 1) := if_neg (by rw [h]; simp)
def ResM (r : List (List Int) × Int) (w : World) (e : Ending) (w' : World) : Prop :=
  r.1.length + total r.1 ≤ 1048576 ∧ ∃ A c vs, e = .returned (.tuple #[.slice A r.1.length c, .int .i64 r.2]) ∧ OwnMat w' w.heap.size w'.heap.size (.slice A r.1.length c) r.1.length r.1 vs ∧ Below w.heap.size w w'
theorem ResM.nil {r : List (List Int) × Int} {w w' : World} {k : Int} (h : r = ([], k)) (hb : Below w.heap.size w w') : ResM r w (.returned (.tuple #[.slice none 0 0, .int .i64 k])) w' := by
  subst h
  exact ⟨by simp [total], none, 0, [], rfl, ⟨⟨World.ownsRow_nil _ _ _ _, fun g e => by simp [Value.ownBlock] at e⟩, rfl, fun r row hr => by simp at hr, fun r s u t g _ hu => by simp at hu⟩, hb⟩
theorem ResM.of {r : List (List Int) × Int} {w w' : World} {A : Option Addr} {n c : Nat} {m : List (List Int)} {vs : List Value} {k : Int} (h : r = (m, k)) (hn : m.length + total m ≤ 1048576)
    (ho : OwnMat w' w.heap.size w'.heap.size (.slice A n c) n m vs) (hb : Below w.heap.size w w') : ResM r w (.returned (.tuple #[.slice A n c, .int .i64 k])) w' := by
  subst h
  have e := ho.size
  subst e
  exact ⟨hn, A, c, vs, rfl, ho, hb⟩
/-- lists in memory below a bound: the model's -/
def LowMat (w : World) (hi : Nat) (A : Option Addr) (m : List (List Int)) : Prop := Mat w hi A m
theorem LowMat.below {w w' : World} {hi B : Nat} {A : Option Addr} {m : List (List Int)} (h : LowMat w hi A m) (hb : Below B w w') (hB : hi ≤ B) : LowMat w' hi A m := Mat.below h hb hB
theorem LowMat.within {w w' : World} {hi lo' hi' : Nat} {A : Option Addr} {m : List (List Int)} (h : LowMat w hi A m) (hb : Within lo' hi' w w') (hs : hi ≤ w.heap.size) (hd : hi ≤ lo') : LowMat w' hi A m :=
  Mat.keep h fun b o hbb => World.cell?_of_block (hb.block b (by omega) (by omega))
theorem LowMat.mat {w : World} {hi : Nat} {A : Option Addr} {m : List (List Int)} (h : LowMat w hi A m) : Mat w hi A m := h
theorem LowMat.drewN {w : World} {hi : Nat} {A : Option Addr} {m : List (List Int)} (h : LowMat w hi A m) (k : Nat) : LowMat (w.drewN k) hi A m := h
def ResMl (r : List (List Int) × Int) (w : World) (e : Ending) (w' : World) : Prop :=
  r.1.length + total r.1 ≤ 1048576 ∧ ∃ A c, e = .returned (.tuple #[.slice A r.1.length c, .int .i64 r.2]) ∧ LowMat w' w'.heap.size A r.1 ∧ Below w.heap.size w w'
theorem ResMl.nil {r : List (List Int) × Int} {w w' : World} {k : Int} (h : r = ([], k)) (hb : Below w.heap.size w w') : ResMl r w (.returned (.tuple #[.slice none 0 0, .int .i64 k])) w' := by
  subst h
  exact ⟨by simp [total], none, 0, rfl, fun k r hr => by simp at hr, hb⟩
theorem ResMl.of {r : List (List Int) × Int} {w w' : World} {A : Option Addr} {n c : Nat} {m : List (List Int)} {k : Int} (h : r = (m, k)) (hl : m.length = n) (hn : m.length + total m ≤ 1048576)
    (ho : Mat w' w'.heap.size A m) (hb : Below w.heap.size w w') : ResMl r w (.returned (.tuple #[.slice A n c, .int .i64 k])) w' := by
  subst h hl
  exact ⟨hn, A, c, rfl, ho, hb⟩
theorem sBranchesOf_L (A : Option Addr) (n c B : Nat) (t : List Int) (w : World) (hl : t.length = n) (hn : n ≤ 1048576) (hB : B ≤ w.heap.size) (h : Row w B A (ints t)) :
    Calls Try.prog 76 #[.slice A n c] w (ResMl (branchesA t) w) := by
  have C0 := l03Is_any A n c B t w hl hn h
  cases hlv : Tr.isLv t
  · have G := Lib.hid (branchesA_no hlv)
    rw [hlv] at C0
    go_enter Try.func76, Try.ntmps76
    go_wp2_with fail
    refine C0.mono ?_
    rintro e w' ⟨rfl, m, rfl⟩
    go_wp2
    go_ret2
    exact ResMl.nil G.out (below_drewN (Below.refl _ _) _)
  · rw [hlv] at C0
    have HL := Lib.hid hl
    have HLV := Lib.hid hlv
    have G := Lib.hid (branchesA_yes hlv)
    have HT := Lib.hid (bran_parts hlv).2.1
    clear hl hlv
    go_enter Try.func76, Try.ntmps76
    go_wp2_with fail
    refine C0.mono ?_
    rintro e w' ⟨rfl, m, rfl⟩
    go_wp2_with fail
    refine (l03Branches_any A n c B t _ HL.out HLV.out (by exact hB) (h.drewN m)).mono ?_
    rintro e w2 ⟨b, o, cap, rfl, hcap, hrws, bel2⟩
    have GB : Hid (Below w.heap.size w w2) := below_undrew' bel2
    have GM := Lib.hid hrws.mat
    clear bel2 hrws
    go_wp2
    go_ret2
    exact ResMl.of G.out rfl HT.out GM.out GB.out
theorem pBranchesOf_L (A : Option Addr) (n c B : Nat) (t : List Int) (w : World) (hl : t.length = n) (hn : n ≤ 1048576) (hB : B ≤ w.heap.size) (h : Row w B A (ints t)) (hc : n ≤ c) :
    Calls Try.prog 37 #[.slice A n c] w (ResM (branchesA t) w) := by
  have C0 := isLevels_any A n c B t w hl (by omega) h
  cases hlv : Tr.isLv t
  · have G := Lib.hid (branchesA_no hlv)
    rw [hlv] at C0
    go_enter Try.func37, Try.ntmps37
    go_wp2_with fail
    refine C0.mono ?_
    rintro e w' ⟨rfl, m, rfl⟩
    go_wp2
    go_ret2
    exact ResM.nil G.out (below_drewN (Below.refl _ _) _)
  · rw [hlv] at C0
    obtain ⟨b1, b8⟩ := lv_bd hlv
    rw [hl] at b1 b8
    have HL := Lib.hid hl
    obtain ⟨hs1, hs2, hs3, hs4⟩ := bran_parts hlv
    have G := Lib.hid (branchesA_yes hlv)
    have HT := Lib.hid hs2
    have HS := Lib.hid hs1
    obtain ⟨hx16, hbr, hb7⟩ := Tr.br_parts hs4
    have HBB : Hid (∀ s ∈ Tr.brT (Tr.txt t), s.length ≤ 16 ∧ Brk s) := fun s hs => by
      obtain ⟨q1, q2⟩ := hbr s hs
      exact ⟨by omega, tx_brk q1⟩
    have H7 : Hid ((Tr.brT (Tr.txt t)).length ≤ 12) := by rw [Hid]; omega
    have C3 := fun w => branches_any (Tr.txt t) w hs4
    clear hl hlv hs1 hs2 hs3 hs4 hx16 hbr hb7
    go_enter Try.func37, Try.ntmps37
    go_wp2_with fail
    refine C0.mono ?_
    rintro e w' ⟨rfl, m, rfl⟩
    go_wp2_with fail
    refine (treeOf_any A n c B t _ HL.out b1 b8 hc (by exact hB) (h.drewN m)).mono ?_
    rintro e w2 ⟨rfl, bel2⟩
    have HB2 : Hid (Below w.heap.size w w2) := below_undrew' bel2
    have hs2 : w.heap.size ≤ w2.heap.size := HB2.out.size
    clear bel2
    go_wp2_with fail
    refine (C3 _).mono ?_
    rintro e w3 ⟨A3, q3, c3, rfl, hq3, own3, bel3⟩
    have HB3 : Hid (Below w.heap.size w w3) := HB2.out.trans (bel3.mono hs2)
    have hs3 := bel3.size
    have HO3 := Lib.hid own3
    have hq12 : q3 ≤ 12 := by rw [hq3]; exact H7.out
    clear bel3 own3 hq3
    go_wp2_with fail
    refine (forestOf_any A3 w2.heap.size q3 c3 (Tr.brT (Tr.txt t)) w3 hq12 HBB.out hs3 HO3.out).mono ?_
    rintro e w4 ⟨A4, c4, vs4, rfl, own4, bel4⟩
    rw [HS.out] at own4
    have GO := Lib.hid (own4.more hs2 (Nat.le_refl _))
    have GB : Hid (Below w.heap.size w w4) := HB3.out.trans (bel4.mono hs2)
    clear own4 bel4
    go_wp2
    go_ret2
    exact ResM.of G.out HT.out GO.out GB.out
end Go.Proofs.Ytegigeoeoioolaa
