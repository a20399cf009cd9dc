/-
  The model's lists of cuts in memory, and their order.
-/
import Derived.Test.YtolkbbbbahhfaaaGreatSpP
import Derived.Deep.MidRow
import Derived.BigQuiet
namespace Go.Proofs.YtolkbbbbahhfaaaGreat
open Go.RowKit Fld
set_option linter.unusedVariables false
set_option linter.unusedSimpArgs false
set_option maxRecDepth 100000

/-- where the two lists of a cut lie -/
structure SpAt where
  A : Option Addr
  c : Nat
  A' : Option Addr
  c' : Nat
def spC (s : Spl) (p : SpAt) : List Value := [.slice p.A s.1.length p.c, .slice p.A' s.2.1.length p.c', .int .i64 s.2.2]
def IsSp (w : World) (B : Nat) (s : Spl) (p : SpAt) : Prop := s.1.length ≤ p.c ∧ (p.A = none → p.c = 0) ∧ Mat w B p.A s.1 ∧ s.2.1.length ≤ p.c' ∧ (p.A' = none → p.c' = 0) ∧ Mat w B p.A' s.2.1
theorem IsSp.below {w w' : World} {B B' : Nat} {s : Spl} {p : SpAt} (h : IsSp w B s p) (hb : Below B' w w') (hB : B ≤ B') : IsSp w' B s p := ⟨h.1, h.2.1, h.2.2.1.below hb hB, h.2.2.2.1, h.2.2.2.2.1, h.2.2.2.2.2.below hb hB⟩
theorem IsSp.more {w : World} {B B' : Nat} {s : Spl} {p : SpAt} (h : IsSp w B s p) (hB : B ≤ B') : IsSp w B' s p := ⟨h.1, h.2.1, h.2.2.1.more hB, h.2.2.2.1, h.2.2.2.2.1, h.2.2.2.2.2.more hB⟩
theorem IsSp.drewN {w : World} {B : Nat} {s : Spl} {p : SpAt} (h : IsSp w B s p) (k : Nat) : IsSp (w.drewN k) B s p := h
theorem IsSp.count {w : World} {B : Nat} {s : Spl} {p : SpAt} (h : IsSp w B s p) (x : Int) : IsSp w B (s.1, s.2.1, x) p := h
/-- a list of cuts -/
def Spls (w : World) (B : Nat) (A : Option Addr) (S : List Spl) : Prop := ∀ (k : Nat) (s : Spl), S[k]? = some s → ∃ b o p, A = some ⟨b, o, none⟩ ∧ b < B ∧ w.rangeAt b (o + k * 3) (spC s p) ∧ IsSp w B s p
theorem range_below {w w' : World} {B b o : Nat} {cs : List Value} (h : w.rangeAt b o cs) (hb : Below B w w') (hlt : b < B) : w'.rangeAt b o cs := fun j v hv => (hb.cell (p := ⟨b, o + j, none⟩) hlt).trans (h j v hv)
theorem Spls.below {w w' : World} {B B' : Nat} {A : Option Addr} {S : List Spl} (h : Spls w B A S) (hb : Below B' w w') (hB : B ≤ B') : Spls w' B A S := fun k s hs => by
  obtain ⟨b, o, p, e, hlt, hr, hi⟩ := h k s hs
  exact ⟨b, o, p, e, hlt, range_below hr hb (by omega), hi.below hb hB⟩
theorem Spls.more {w : World} {B B' : Nat} {A : Option Addr} {S : List Spl} (h : Spls w B A S) (hB : B ≤ B') : Spls w B' A S := fun k s hs => by
  obtain ⟨b, o, p, e, hlt, hr, hi⟩ := h k s hs
  exact ⟨b, o, p, e, by omega, hr, hi.more hB⟩
theorem Spls.next {w w' : World} {A : Option Addr} {S : List Spl} (h : Spls w w.heap.size A S) (hb : Below w.heap.size w w') : Spls w' w'.heap.size A S := (h.below hb (Nat.le_refl _)).more hb.size
/-- what a call hands back -/
def ResSp (S : List Spl) (w : World) (e : Ending) (w' : World) : Prop := ∃ A c, e = .returned (.slice A S.length c) ∧ S.length ≤ c ∧ c ≤ maxLen ∧ Spls w' w'.heap.size A S ∧ Below w.heap.size w w'
theorem info_sp3 : (Tryz.prog.info? 116).map (·.size) = some 3 := by kernel_rfl
theorem range3 {w : World} {g : Nat} {a b c : Value} {T : TypeId} {fr : Nat × Nat} (h : w.heap[g]? = some (.cells #[a, b, c] T fr)) : w.cell? ⟨g, 0, none⟩ = some a ∧ w.cell? ⟨g, 1, none⟩ = some b ∧ w.cell? ⟨g, 2, none⟩ = some c :=
  ⟨by rw [cell_of_row w g 0 _ _ _ h]; rfl, by rw [cell_of_row w g 1 _ _ _ h]; rfl, by rw [cell_of_row w g 2 _ _ _ h]; rfl⟩
theorem spSz {m : Nat} {s : Spl} (h : OkSp m s) (hm : m ≤ 8) : s.1.length + total s.1 ≤ 16 ∧ s.2.1.length + total s.2.1 ≤ 16 ∧ s.1.length + s.2.1.length ≤ m := by
  have h1 := len_total (f := s.1) (fun r hr => (lv_bd (h.1 r hr)).1)
  have h2 := len_total (f := s.2.1) (fun r hr => (lv_bd (h.2.1 r hr)).1)
  have h3 := h.2.2.1
  omega
set_option maxHeartbeats 4000000 in
theorem l05Order_any (a b : Spl) (p q : SpAt) (B B' : Nat) (w : World) {m n : Nat} (ka : OkSp m a) (kb : OkSp n b) (hm : m ≤ 8) (hn : n ≤ 8) (hB : B ≤ w.heap.size) (hB' : B' ≤ w.heap.size) (ha : IsSp w B a p) (hb : IsSp w B' b q) :
    Calls Tryz.prog 143 #[.agg #[.slice p.A a.1.length p.c, .slice p.A' a.2.1.length p.c', .int .i64 a.2.2], .agg #[.slice q.A b.1.length q.c, .slice q.A' b.2.1.length q.c', .int .i64 b.2.2]] w fun e w' => e = .returned (.int .i64 (ordSp a b)) ∧ Below w.heap.size w w' := by
  obtain ⟨z1, z2, _⟩ := spSz ka hm
  obtain ⟨z3, z4, _⟩ := spSz kb hn
  obtain ⟨_, _, M1, _, _, M2⟩ := ha
  obtain ⟨_, _, M3, _, _, M4⟩ := hb
  obtain ⟨W0, hW0⟩ : ∃ W0 : World, W0 = (w.alloc (.cells #[.slice p.A a.1.length p.c, .slice p.A' a.2.1.length p.c', .int .i64 a.2.2] 116)).alloc (.cells #[.slice q.A b.1.length q.c, .slice q.A' b.2.1.length q.c', .int .i64 b.2.2] 116) := ⟨_, rfl⟩
  have FB : Below w.heap.size w W0 := by rw [hW0]; exact ((Below.refl _ _).alloc (Nat.le_refl _) _).alloc (by simp) _
  obtain ⟨f0, f1, f2⟩ : W0.cell? ⟨w.heap.size, 0, none⟩ = some (.slice p.A a.1.length p.c) ∧ W0.cell? ⟨w.heap.size, 1, none⟩ = some (.slice p.A' a.2.1.length p.c') ∧ W0.cell? ⟨w.heap.size, 2, none⟩ = some (.int .i64 a.2.2) := by
    refine range3 (T := 116) (fr := (0, 0)) ?_
    rw [hW0]
    exact heap_alloc2_old w _ _
  obtain ⟨g0, g1, g2⟩ : W0.cell? ⟨w.heap.size + 1, 0, none⟩ = some (.slice q.A b.1.length q.c) ∧ W0.cell? ⟨w.heap.size + 1, 1, none⟩ = some (.slice q.A' b.2.1.length q.c') ∧ W0.cell? ⟨w.heap.size + 1, 2, none⟩ = some (.int .i64 b.2.2) := by
    refine range3 (T := 116) (fr := (0, 0)) ?_
    rw [hW0]
    exact heap_alloc2_new w _ _
  have HM1 := Lib.hid (M1.below FB hB)
  have HM2 := Lib.hid (M2.below FB hB)
  have HM3 := Lib.hid (M3.below FB hB')
  have HM4 := Lib.hid (M4.below FB hB')
  have HFB := Lib.hid FB
  have N1 := fun d => l03Nodes_any p.A a.1.length p.c B a.1 (W0.drewN d) rfl (by omega) (HM1.out.drewN d)
  have N2 := fun d => l03Nodes_any q.A b.1.length q.c B' b.1 (W0.drewN d) rfl (by omega) (HM3.out.drewN d)
  have K1 := fun d => l05Compare_any p.A q.A a.1.length b.1.length p.c q.c B B' a.1 b.1 (W0.drewN d) rfl rfl (by omega) (by omega) (HM1.out.drewN d) (HM3.out.drewN d)
  have K2 := fun d => l05Compare_any p.A' q.A' a.2.1.length b.2.1.length p.c' q.c' B B' a.2.1 b.2.1 (W0.drewN d) rfl rfl (by omega) (by omega) (HM2.out.drewN d) (HM4.out.drewN d)
  obtain ⟨T1, hT1⟩ : ∃ x, x = total a.1 := ⟨_, rfl⟩
  obtain ⟨T2, hT2⟩ : ∃ x, x = total b.1 := ⟨_, rfl⟩
  obtain ⟨O1, hO1⟩ : ∃ x, x = ord5 a.1 b.1 := ⟨_, rfl⟩
  obtain ⟨O2, hO2⟩ : ∃ x, x = ord5 a.2.1 b.2.1 := ⟨_, rfl⟩
  have HO : Hid (ordSp a b = if T1 = T2 then (if O1 = 0 then O2 else O1) else if T1 < T2 then -1 else 1) := by unfold ordSp; rw [Hid, ← hT1, ← hT2, ← hO1, ← hO2]
  simp only [← hT1] at N1
  simp only [← hT2] at N2
  simp only [← hO1] at K1
  simp only [← hO2] at K2
  obtain ⟨n1, hn1⟩ : ∃ x, x = a.1.length := ⟨_, rfl⟩
  obtain ⟨n2, hn2⟩ : ∃ x, x = a.2.1.length := ⟨_, rfl⟩
  obtain ⟨n3, hn3⟩ : ∃ x, x = b.1.length := ⟨_, rfl⟩
  obtain ⟨n4, hn4⟩ : ∃ x, x = b.2.1.length := ⟨_, rfl⟩
  rw [← hn1, ← hn2, ← hn3, ← hn4] at hW0
  rw [← hn1] at f0
  rw [← hn2] at f1
  rw [← hn3] at g0
  rw [← hn4] at g1
  simp only [← hn1] at N1 K1
  simp only [← hn2] at K2
  simp only [← hn3] at N2 K1
  simp only [← hn4] at K2
  rw [← hn1, ← hn2, ← hn3, ← hn4]
  clear hT1 hT2 hO1 hO2 hn1 hn2 hn3 hn4 z1 z2 z3 z4 ka kb M1 M2 M3 M4 FB
  go_enter Tryz.func143, Tryz.ntmps143
  go_wp2_with fail
  rw [← hW0]
  clear hW0
  have HK : Hid (∀ d, (W0.drewN d).cell? ⟨w.heap.size, 0, none⟩ = some (.slice p.A n1 p.c) ∧ (W0.drewN d).cell? ⟨w.heap.size + 1, 0, none⟩ = some (.slice q.A n3 q.c)) := fun d => ⟨f0, g0⟩
  go_region_held3 (fun V => V.cell? ⟨w.heap.size, 0, none⟩ = some (.slice p.A n1 p.c) ∧ V.cell? ⟨w.heap.size + 1, 0, none⟩ = some (.slice q.A n3 q.c)) (first | exact HK.out _ | exact HK.out 1)
    (first
      | (go_at_call 84; refine (N1 _).mono ?_; clear N1; rintro e w2 ⟨rfl, rfl⟩)
      | (go_at_call 84; refine (N2 _).mono ?_; clear N2; rintro e w2 ⟨rfl, rfl⟩))
  have G1 : Hid (Below w.heap.size w (W0.drewN 1)) := below_drewN HFB.out 1
  clear HK
  by_cases h1 : T1 = T2
  · have t1 := bne_f (show (T1 : Int) = (T2 : Int) by omega)
    rw [if_pos h1] at HO
    have HO' := HO
    clear HO h1
    go_wp2_with fail
    refine (K1 _).mono ?_
    clear K1
    rintro e w2 ⟨rfl, d, rfl⟩
    by_cases h2 : O1 = 0
    · have t2 := bne_f h2
      rw [if_pos h2] at HO'
      clear h2
      go_wp2_with fail
      refine (K2 _).mono ?_
      rintro e w3 ⟨rfl, d3, rfl⟩
      go_wp2
      go_ret
      exact ⟨ret_i64 HO'.out.symm, below_drewN HFB.out _⟩
    · have t2 := bne_t h2
      rw [if_neg h2] at HO'
      clear h2
      go_wp2
      go_ret
      exact ⟨ret_i64 HO'.out.symm, below_drewN HFB.out _⟩
  · have t1 := bne_t (show (T1 : Int) ≠ (T2 : Int) by omega)
    rw [if_neg h1] at HO
    by_cases h2 : T1 < T2
    · rw [if_pos h2] at HO
      clear h1
      go_wp2
      go_ret
      exact ⟨ret_i64 HO.out.symm, G1.out⟩
    · rw [if_neg h2] at HO
      clear h1
      go_wp2
      go_ret
      exact ⟨ret_i64 HO.out.symm, G1.out⟩
end Go.Proofs.YtolkbbbbahhfaaaGreat
