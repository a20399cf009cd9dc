/-
  Texts of this seat, joined: what several laws lean on.
-/
import Derived.Test.YtgklilckjpbdnaaSpM
import Derived.Deep.AppendLies
import Derived.Deep.RegionHeld3
import Derived.Test.YtgklilckjpbdnaaNestc
import Derived.Test.YtgklilckjpbdnaaSCan
import Derived.Test.YtgklilckjpbdnaaForest
import Derived.Test.YtgklilckjpbdnaaOwn1
import Derived.Test.YtgklilckjpbdnaaPush
import Derived.Test.YtgklilckjpbdnaaForP
import Derived.Test.YtgklilckjpbdnaaSort
import Derived.Test.YtgklilckjpbdnaaParts
import Derived.Test.YtgklilckjpbdnaaTreeC
import Derived.Outline
import Derived.Test.YtgklilckjpbdnaaRootP
import Derived.Test.YtgklilckjpbdnaaTreeE
import Derived.Test.YtgklilckjpbdnaaField
import Derived.Test.YtgklilckjpbdnaaSrtF
import Derived.RangeFuncNested
import Derived.RangeFuncCalls
import Derived.RangeFuncLeaves
import Derived.WalkKit
import Derived.OrdersIn
import Derived.OrdersHeld
import Derived.Test.YtgklilckjpbdnaaLvl
import Derived.Test.YtgklilckjpbdnaaTreeD
import Derived.Laws.DeepStrings4
import Derived.Test.YtgklilckjpbdnaaCmp
import Derived.Test.YtgklilckjpbdnaaTxt
import Derived.Laws.Strings2
import Derived.Test.YtgklilckjpbdnaaMark1
import Derived.Shelf.Abstract
import Derived.OwnWalkIn
import Derived.TacticsInMore
import Derived.Deep.MidRow
import Derived.Test.YtgklilckjpbdnaaLev
/-
  The model's way to put a cut into a list of them.
-/
namespace Go.Proofs.Ytgklilckjpbdnaa
open Go.RowKit Fld
set_option linter.unusedVariables false
set_option linter.unusedSimpArgs false
set_option maxRecDepth 100000

theorem info_spl : (Try.prog.info? 61).map (fun i => (i.zero, i.size, i.bytes)) = some (some (.agg #[.slice none 0 0, .slice none 0 0, .int .i64 0]), 3, 56) := by kernel_rfl
/-- the cells of a list of cuts -/
def spCs (S : List (Spl × SpAt)) : List Value := (S.map fun e => spC e.1 e.2).flatten
theorem spCs_snoc (S : List (Spl × SpAt)) (e : Spl × SpAt) : spCs (S ++ [e]) = spCs S ++ spC e.1 e.2 := by simp [spCs]
theorem spCs_len (S : List (Spl × SpAt)) : (spCs S).length = S.length * 3 := by
  unfold spCs
  rw [List.length_flatten, List.map_map]
  induction S with
  | nil => rfl
  | cons a r ih => rw [List.map_cons, List.sum_cons, ih, List.length_cons]; simp [spC]; omega
theorem spCs_at {S : List (Spl × SpAt)} {k j : Nat} {e : Spl × SpAt} {v : Value} (h : S[k]? = some e) (hv : (spC e.1 e.2)[j]? = some v) : (spCs S)[k * 3 + j]? = some v := by
  have hj : j < 3 := by have := (List.getElem?_eq_some_iff.1 hv).1; simpa [spC] using this
  induction S generalizing k with
  | nil => simp at h
  | cons a r ih =>
    have e1 : spCs (a :: r) = spC a.1 a.2 ++ spCs r := by simp [spCs]
    have l3 : (spC a.1 a.2).length = 3 := rfl
    cases k with
    | zero =>
      simp only [List.getElem?_cons_zero, Option.some.injEq] at h
      subst h
      rw [e1, Nat.zero_mul, Nat.zero_add, List.getElem?_append_left (by omega)]; exact hv
    | succ k =>
      simp only [List.getElem?_cons_succ] at h
      rw [e1, List.getElem?_append_right (by omega), l3, show (k + 1) * 3 + j - 3 = k * 3 + j by omega]
      exact ih h
/-- a list that a call makes out of cuts that lay before -/
def OutP (W : World) (S : List Spl) (g q cap : Nat) (wr : World) : Prop := ∃ P : List (Spl × SpAt), P.map (·.1) = S ∧ P.length = q ∧ wr.ownsRow W.heap.size 61 3 (.slice (some ⟨g, 0, none⟩) q cap) q (spCs P) ∧ (∀ e ∈ P, IsSp W W.heap.size e.1 e.2)
theorem OutP.len {W wr : World} {S : List Spl} {g q cap : Nat} (h : OutP W S g q cap wr) : S.length = q := by
  obtain ⟨P, e1, e2, _⟩ := h
  rw [← e1, List.length_map]; exact e2
theorem OutP.start (W : World) : OutP W [] W.heap.size 0 0 (W.alloc (.cells #[] 61)) :=
  ⟨[], rfl, rfl, World.ownsRow_lit (base := W.heap.size) (size := 3) (e := 61) W #[] 0 (Nat.le_refl _) (Nat.zero_le _) rfl, fun e he => by cases he⟩
theorem OutP.below {W wr w2 : World} {S : List Spl} {g q cap : Nat} (h : OutP W S g q cap wr) (hb : Below wr.heap.size wr w2) : OutP W S g q cap w2 := by
  obtain ⟨P, e1, e2, h1, h2⟩ := h
  refine ⟨P, e1, e2, ⟨h1.1, ?_⟩, h2⟩
  rcases h1.2 with h | ⟨g', cap', cur, e, hb', hg, r⟩
  · exact .inl h
  · exact .inr ⟨g', cap', cur, e, hb', (hb.block g' (Array.getElem?_eq_some_iff.1 hg).1).trans hg, r⟩
theorem OutP.res {W wr : World} {S : List Spl} {g q cap : Nat} (h : OutP W S g q cap wr) (hb : Below W.heap.size W wr) : ResSp S W (.returned (.slice (some ⟨g, 0, none⟩) q cap)) wr := by
  have hl := h.len
  obtain ⟨P, e1, e2, h1, h2⟩ := h
  have hc : q ≤ cap ∧ cap ≤ maxLen := by
    rcases h1.2 with ⟨hv, _⟩ | ⟨g', cap', cur, e, _, _, h3, h4, _⟩
    · cases hv
    · injection e with _ _ ec; subst ec; exact ⟨h3, h4⟩
  refine ⟨_, cap, by rw [hl], by omega, hc.2, fun k s hs => ?_, hb⟩
  have hk : k < q := by rw [← hl]; exact (List.getElem?_eq_some_iff.1 hs).1
  rw [← e1, List.getElem?_map, Option.map_eq_some_iff] at hs
  obtain ⟨e, he, rfl⟩ := hs
  refine ⟨g, 0, e.2, rfl, (h1.lt g rfl).2, fun j v hv => ?_, ((h2 e (List.mem_of_getElem? he)).below hb (Nat.le_refl _)).more hb.size⟩
  have hj : j < 3 := by have := (List.getElem?_eq_some_iff.1 hv).1; simpa [spC] using this
  rw [Nat.zero_add]
  exact (h1.cellAt (k * 3 + j) (by omega)).trans (spCs_at he hv)
theorem OutP.push {W w4 : World} {S : List Spl} {q g4 cap4 : Nat} {s : Spl} {p : SpAt} (hP : ∃ P : List (Spl × SpAt), P.map (·.1) = S ∧ P.length = q ∧ w4.ownsRow W.heap.size 61 3 (.slice (some ⟨g4, 0, none⟩) (q + 1) cap4) (q + 1) (spCs P ++ spC s p) ∧ (∀ e ∈ P, IsSp W W.heap.size e.1 e.2)) (hs : IsSp W W.heap.size s p) : OutP W (S ++ [s]) g4 (q + 1) cap4 w4 := by
  obtain ⟨P, e1, e2, h1, h2⟩ := hP
  refine ⟨P ++ [(s, p)], by simp [e1], by simp [e2], by rw [spCs_snoc]; exact h1, fun e he => ?_⟩
  rw [List.mem_append, List.mem_singleton] at he
  rcases he with he | rfl
  · exact h2 e he
  · exact hs
theorem putGo_stop (c : Spl) (S : List Spl) : putGo c true S = S := by unfold putGo; rfl
theorem putGo_lt {c e : Spl} {S : List Spl} (h : ordSp c e < 0) : putGo c false (e :: S) = c :: e :: putGo c true S := by rw [putGo_stop, putGo, if_pos h]
theorem putGo_eq {c e : Spl} {S : List Spl} (h : ordSp c e = 0) : putGo c false (e :: S) = (e.1, e.2.1, e.2.2 + c.2.2) :: putGo c true S := by rw [putGo_stop, putGo, if_neg (by omega), if_pos h]
theorem putGo_gt {c e : Spl} {S : List Spl} (h1 : ¬ ordSp c e < 0) (h2 : ordSp c e ≠ 0) : putGo c false (e :: S) = e :: putGo c false S := by rw [putGo, if_neg h1, if_neg h2]
theorem putGo_end (c : Spl) : putGo c false [] = [c] := by rw [putGo]
theorem drop_at' {α : Type} {L : List α} {k : Nat} {x : α} (h : L[k]? = some x) : L.drop k = x :: L.drop (k + 1) := by
  obtain ⟨hlt, e⟩ := List.getElem?_eq_some_iff.1 h
  rw [List.drop_eq_getElem_cons hlt, e]
set_option maxHeartbeats 8000000 in
theorem l05Put_any (A : Option Addr) (n c : Nat) (S : List Spl) (s : Spl) (p : SpAt) (w : World) {m : Nat} (hl : S.length = n) (hn : n ≤ 100000) (hS : ∀ e ∈ S, OkSp m e) (hsum : sumC S + s.2.2 ≤ 1000000) (ks : OkSp m s) (hm : m ≤ 8) (h : Spls w w.heap.size A S) (hs : IsSp w w.heap.size s p) :
    Calls Try.prog 61 #[.slice A n c, .agg #[.slice p.A s.1.length p.c, .slice p.A' s.2.1.length p.c', .int .i64 s.2.2]] w (ResSp (putSp S s) w) := by
  obtain ⟨i0, hi, hz0, hz1, hz2⟩ := info_parts info_spl
  have HL := Lib.hid hl
  have HS := Lib.hid hS
  have HSM := Lib.hid hsum
  have HK := Lib.hid ks
  have HI := Lib.hid hs
  have HPG : Hid (putSp S s = [] ++ putGo s false (S.drop 0)) := rfl
  obtain ⟨v1, hv1⟩ : ∃ v, v = Value.slice p.A s.1.length p.c := ⟨_, rfl⟩
  obtain ⟨v2, hv2⟩ : ∃ v, v = Value.slice p.A' s.2.1.length p.c' := ⟨_, rfl⟩
  obtain ⟨x, hx⟩ : ∃ x, x = s.2.2 := ⟨_, rfl⟩
  have HSC : Hid (spC s p = [v1, v2, .int .i64 x]) := by rw [Hid, hv1, hv2, hx]; rfl
  have HSV : Hid (∀ (e : Spl) (q : SpAt) (B' : Nat) (W : World), OkSp m e → w.heap.size ≤ W.heap.size → Below w.heap.size w W → B' ≤ W.heap.size → IsSp W B' e q → Calls Try.prog 76 #[.agg #[v1, v2, .int .i64 x], .agg #[.slice q.A e.1.length q.c, .slice q.A' e.2.1.length q.c', .int .i64 e.2.2]] W fun e' w' => e' = .returned (.int .i64 (ordSp s e)) ∧ Below W.heap.size W w') := fun e q B' W ke hW hb hB' he => by
    rw [hv1, hv2, hx]
    exact l05Order_any s e p q w.heap.size B' W ks ke hm hm hW hB' (hs.below hb (Nat.le_refl _)) he
  rw [← hv1, ← hv2, ← hx]
  have HV : Hid (v1.oneCell' = true ∧ v2.oneCell' = true) := by rw [hv1, hv2]; exact ⟨rfl, rfl⟩
  have hx1 : 1 ≤ x ∧ x ≤ 1000000 := by rw [hx]; have := ks.2.2.2; have := len_sumC hS; omega
  clear hl hS hsum ks hs hv1 hv2 hx
  obtain ⟨W0, hW0⟩ : ∃ W0 : World, W0 = w.alloc (.cells #[v1, v2, .int .i64 x] 61) := ⟨_, rfl⟩
  have b0 : Below w.heap.size w W0 := by rw [hW0]; exact (Below.refl _ _).alloc (Nat.le_refl _) _
  have z0 : W0.heap.size = w.heap.size + 1 := by rw [hW0]; simp
  obtain ⟨f0, f1, f2⟩ : W0.cell? ⟨w.heap.size, 0, none⟩ = some v1 ∧ W0.cell? ⟨w.heap.size, 1, none⟩ = some v2 ∧ W0.cell? ⟨w.heap.size, 2, none⟩ = some (.int .i64 x) := by
    rw [hW0]; exact range3 (heap_alloc_new w _)
  have HBX : Hid (∀ V, Below W0.heap.size W0 V → V.cell? ⟨w.heap.size, 0, none⟩ = some v1 ∧ V.cell? ⟨w.heap.size, 1, none⟩ = some v2 ∧ V.cell? ⟨w.heap.size, 2, none⟩ = some (.int .i64 x)) := fun V hb => ⟨(hb.cell (p := ⟨w.heap.size, 0, none⟩) (by show w.heap.size < W0.heap.size; omega)).trans f0, (hb.cell (p := ⟨w.heap.size, 1, none⟩) (by show w.heap.size < W0.heap.size; omega)).trans f1, (hb.cell (p := ⟨w.heap.size, 2, none⟩) (by show w.heap.size < W0.heap.size; omega)).trans f2⟩
  have HI0 : Hid (IsSp W0 W0.heap.size s p) := (HI.out.below b0 (Nat.le_refl _)).more (by omega)
  have HH0 : Hid (Spls W0 w.heap.size A S) := h.below b0 (Nat.le_refl _)
  have HB0 := Lib.hid b0
  have HLE : Hid (∀ (O T : List Spl), putSp S s = O ++ T → O.length ≤ n + 1) := fun O T e => by
    have h1 : ∀ S : List Spl, (putGo s false S).length ≤ S.length + 1 := fun S => by
      induction S with
      | nil => simp [putGo]
      | cons a r ih =>
        unfold putGo
        split
        · simp
        · split
          · simp
          · simp only [List.length_cons]; omega
    have h2 := h1 S
    rw [show putGo s false S = putSp S s from rfl, e, List.length_append, HL.out] at h2
    omega
  have HS0 := OutP.start W0
  have HO0 := Lib.hid HS0
  clear f0 f1 f2 b0 HS0 h HI
  go_enter Try.func61, Try.ntmps61
  go_wp2_with fail
  rw [← hW0]
  obtain ⟨g0, hg0⟩ : ∃ g, g = w.heap.size + 1 := ⟨_, rfl⟩
  rw [z0] at HO0
  rw [← hg0] at HO0 z0 ⊢
  have hlt0 : w.heap.size < W0.heap.size := by omega
  clear hW0 z0 hg0
  go_loopw [5, 6, 7] (fun v d i wr => ∃ (k g q cap : Nat) (done : Bool) (O : List Spl), k ≤ n ∧ v = .slice (some ⟨g, 0, none⟩) q cap ∧ d = .bool done ∧ i = .int .i64 k ∧ Hid (OutP W0 O g q cap wr) ∧ Hid (putSp S s = O ++ putGo s done (S.drop k)) ∧ Hid (Below W0.heap.size W0 wr)) (fun _ _ i _ => n - (intOf i).toNat)
  case atStart => exact ⟨0, g0, 0, 0, false, [], by omega, rfl, rfl, rfl, HO0, HPG, (Below.refl _ _).alloc (Nat.le_refl _) _⟩
  case round =>
    obtain ⟨k, g, q, cap, done, O, hk, rfl, rfl, rfl, HO, HG, HB⟩ := hrel
    have hsz := HB.out.size
    have hql : q ≤ n + 1 := by have := HLE.out O _ HG.out; rw [HO.out.len] at this; exact this
    by_cases hlt : k < n
    · obtain ⟨e, he⟩ := at_lt (show k < S.length by rw [HL.out]; exact hlt)
      obtain ⟨b, o, pe, rfl, hbB, hrg, hie⟩ := HH0.out k e he
      have hke := HS.out e (List.mem_of_getElem? he)
      have hdr := drop_at' he
      have hbe : ∀ V, Below W0.heap.size W0 V → V.cell? ⟨b, o + k * 3, none⟩ = some (.slice pe.A e.1.length pe.c) ∧ V.cell? ⟨b, o + k * 3 + 1, none⟩ = some (.slice pe.A' e.2.1.length pe.c') ∧ V.cell? ⟨b, o + k * 3 + 2, none⟩ = some (.int .i64 e.2.2) := fun V hb =>
        have hr := range_below hrg hb (show b < W0.heap.size by omega)
        ⟨hr 0 _ rfl, hr 1 _ rfl, hr 2 _ rfl⟩
      have HBE := Lib.hid hbe
      have HIE : Hid (IsSp W0 W0.heap.size e pe) := hie.more (by omega)
      have HDR := Lib.hid hdr
      have HE := Lib.hid he
      have HKE := Lib.hid hke
      have HHIE := Lib.hid hie
      have hy63 : 0 ≤ e.2.2 ∧ e.2.2 ≤ 1000000 := by
        have h1 := HSM.out
        have h2 := mem_sumC HS.out (List.mem_of_getElem? he)
        have h3 := hke.2.2.2
        have h4 := HK.out.2.2.2
        omega
      have HY := Lib.hid hy63
      clear hbe hdr he hke hie hrg hy63
      obtain ⟨c0, c1, c2⟩ := HBE.out _ HB.out
      obtain ⟨z, hz⟩ : ∃ z, z = ordSp s e := ⟨_, rfl⟩
      have HV1 : Hid (∀ u ∈ [v1, v2, .int .i64 x], u.oneCell' = true) := fun u hu => by
        simp only [List.mem_cons, List.not_mem_nil, or_false] at hu
        rcases hu with h | h | h
        · rw [h]; exact HV.out.1
        · rw [h]; exact HV.out.2
        · rw [h]; rfl
      have T1 := fun d => HSV.out e pe w.heap.size (wr.drewN d) HKE.out (by have := HB0.out.size; show _ ≤ wr.heap.size; omega) (below_drewN (HB0.out.trans (HB.out.mono (by omega))) d) (by have := HB0.out.size; show _ ≤ wr.heap.size; omega) ((HHIE.out.below HB.out (by omega)).drewN d)
      obtain ⟨n1, hn1⟩ : ∃ x, x = e.1.length := ⟨_, rfl⟩
      obtain ⟨n2, hn2⟩ : ∃ x, x = e.2.1.length := ⟨_, rfl⟩
      obtain ⟨y, hy⟩ : ∃ x, x = e.2.2 := ⟨_, rfl⟩
      have HSE : Hid (∀ z : Int, spC (e.1, e.2.1, z) pe = [.slice pe.A n1 pe.c, .slice pe.A' n2 pe.c', .int .i64 z]) := fun z => by rw [hn1, hn2]; rfl
      have HYE := Lib.hid hy
      have HZE := Lib.hid hz
      have HKC : Hid (∀ V, Below W0.heap.size W0 V → (V.cell? ⟨w.heap.size, 0, none⟩ = some v1 ∧ V.cell? ⟨w.heap.size, 1, none⟩ = some v2 ∧ V.cell? ⟨w.heap.size, 2, none⟩ = some (.int .i64 x)) ∧ V.cell? ⟨b, o + k * 3, none⟩ = some (.slice pe.A n1 pe.c) ∧ V.cell? ⟨b, o + k * 3 + 1, none⟩ = some (.slice pe.A' n2 pe.c') ∧ V.cell? ⟨b, o + k * 3 + 2, none⟩ = some (.int .i64 y)) := fun V hb => ⟨HBX.out V hb, by rw [hn1, hn2, hy]; exact HBE.out V hb⟩
      simp only [← hn1, ← hn2, ← hy, ← hz] at T1
      rw [← hn1] at c0
      rw [← hn2] at c1
      rw [← hy] at c2
      clear hn1 hn2 hy hz
      cases done
      · clear c0 c1 c2
        go_wp2_with fail
        go_region_held3 (fun V => (V.cell? ⟨w.heap.size, 0, none⟩ = some v1 ∧ V.cell? ⟨w.heap.size, 1, none⟩ = some v2 ∧ V.cell? ⟨w.heap.size, 2, none⟩ = some (.int .i64 x)) ∧ V.cell? ⟨b, o + k * 3, none⟩ = some (.slice pe.A n1 pe.c) ∧ V.cell? ⟨b, o + k * 3 + 1, none⟩ = some (.slice pe.A' n2 pe.c') ∧ V.cell? ⟨b, o + k * 3 + 2, none⟩ = some (.int .i64 y))
          (first | exact HKC.out _ HB.out.drew | exact HKC.out _ (below_drewN HB.out _) | exact HKC.out _ (HB.out.trans ((below_undrew' (a := 1) bel3).mono hsz)))
          (first
            | (go_at_call 76; refine (T1 _).mono ?_; rintro e' w3 ⟨rfl, bel3⟩))
        clear T1
        have B3 : Hid (Below W0.heap.size W0 w3) := HB.out.trans ((below_undrew' (a := 1) bel3).mono hsz)
        have S3 : wr.heap.size ≤ w3.heap.size := (below_undrew' (a := 1) bel3).size
        have HO3 : Hid (OutP W0 O g q cap w3) := HO.out.below (below_undrew' (a := 1) bel3)
        obtain ⟨P, e1, e2, own, hP⟩ := HO3.out
        have E1 := Lib.hid e1
        have E2 := Lib.hid e2
        have HPP := Lib.hid hP
        have HOWN := Lib.hid own
        have hlo := fun q' hq => (own.lt q' hq).1
        have HLO := Lib.hid hlo
        clear e1 e2 hP hlo
        obtain ⟨⟨f0, f1, f2⟩, c0, c1, c2⟩ := HKC.out _ B3.out
        clear bel3
        rcases Int.lt_trichotomy z 0 with hz | hz | hz
        · have t1 : decide (z < 0) = true := decide_eq_true hz
          have t2 : (z == 0) = false := beq_f (by omega)
          have HPS : Hid (putSp S s = ((O ++ [s]) ++ [e]) ++ putGo s true (S.drop (k + 1))) := by
            rw [Hid, HG.out, HDR.out, putGo_lt (by rw [← HZE.out]; exact hz)]; simp
          clear hz
          go_wp2_with (first | (at_builtin; refine wpList_append_lies _ rfl (.tmp 27) (.tmp 29) 58 rfl W0.heap.size 61 i0 _ 3 56 Try.underlying58 hi hz0 hz1 hz2 rfl (by omega) (.slice (some ⟨g, 0, none⟩) q cap) q (spCs P) rfl (own.alloc _) ⟨w3.heap.size, 0, none⟩ 1 1 [v1, v2, .int .i64 x] rfl rfl (World.news_of_block (cs := #[v1, v2, .int .i64 x]) (heap_alloc_new _ _)) HV1.out (by omega) (by simp only [maxLen]; omega) (by omega) (by simp; omega) (w3.heap.size + 1) (by simp) ?_; intro g4 cap4 w4 hown4 hgrow4 hat4 hlt4; have GB4 : Hid (Below W0.heap.size W0 w4) := (B3.out.alloc (by omega) _).grown hgrow4 (by simp; omega) HLO.out; obtain ⟨-, d0, d1, d2⟩ := HKC.out _ GB4.out; have hs4 : w3.heap.size + 1 ≤ w4.heap.size := by have := hgrow4.size; simp at this; omega) | (at_builtin; refine wpList_append_lies _ rfl (.tmp 43) (.tmp 45) 58 rfl W0.heap.size 61 i0 _ 3 56 Try.underlying58 hi hz0 hz1 hz2 rfl (by omega) (.slice (some ⟨g4, 0, none⟩) (q + 1) cap4) (q + 1) (spCs P ++ [v1, v2, .int .i64 x]) rfl ((hown4.alloc _).alloc _) ⟨w4.heap.size + 1, 0, none⟩ 1 1 [.slice pe.A n1 pe.c, .slice pe.A' n2 pe.c', .int .i64 y] rfl rfl (World.news_of_block (cs := #[.slice pe.A n1 pe.c, .slice pe.A' n2 pe.c', .int .i64 y]) (heap_alloc2_new _ _ _)) (by simp [Value.oneCell']) (by omega) (by simp only [maxLen]; omega) (by omega) (by simp; omega) (w4.heap.size + 2) (by simp) ?_; intro g5 cap5 w5 hown5 hgrow5 hat5 hlt5))
          have GB5 : Hid (Below W0.heap.size W0 w5) := ((GB4.out.alloc (by omega) _).alloc (by simp; omega) _).grown hgrow5 (by simp; omega) (fun q' hq => (hown4.lt q' hq).1)
          have GO5 : Hid (OutP W0 ((O ++ [s]) ++ [e]) g5 (q + 1 + 1) cap5 w5) := OutP.push ⟨P ++ [(s, p)], by simp [E1.out], by simp [E2.out], by rw [spCs_snoc, show spC s p = _ from HSC.out]; have h9 := HSE.out y; rw [HYE.out] at h9; rw [show spC e pe = _ from h9, ← HYE.out]; exact hown5, fun e' he' => by
            rcases List.mem_append.1 he' with h | h
            · exact HPP.out _ h
            · rw [List.mem_singleton] at h; subst h; exact HI0.out⟩ HIE.out
          clear hown4 hgrow4 hat4 own c0 c1 c2 f0 f1 f2 d0 d1 d2 hown5 hgrow5 hat5
          go_wp2
          go_roundw
          case rel => exact ⟨k + 1, g5, q + 1 + 1, cap5, true, (O ++ [s]) ++ [e], by omega, rfl, rfl, by go_num, GO5.out, HPS.out, GB5.out⟩
          case measure => simp [intOf]; omega
        · have t1 : decide (z < 0) = false := decide_eq_false (by omega)
          have t2 : (z == 0) = true := beq_t hz
          have HPS : Hid (putSp S s = (O ++ [(e.1, e.2.1, e.2.2 + s.2.2)]) ++ putGo s true (S.drop (k + 1))) := by
            rw [Hid, HG.out, HDR.out, putGo_eq (by rw [← HZE.out]; exact hz)]; simp
          have hyb : 0 ≤ y ∧ y ≤ 1000000 := by rw [HYE.out]; exact HY.out
          have k2 := (HKC.out _ (B3.out.alloc (by omega) (.cells #[.slice pe.A n1 pe.c, .slice pe.A' n2 pe.c', .int .i64 y] 61))).1.2.2
          have HXS : Hid (x = s.2.2) := by have h9 := HSC.out; simp only [spC, List.cons.injEq, Value.int.injEq, and_true, true_and] at h9; exact h9.2.2.symm
          clear hz
          go_wp2_with (at_builtin; refine wpList_append_lies _ rfl (.tmp 43) (.tmp 45) 58 rfl W0.heap.size 61 i0 _ 3 56 Try.underlying58 hi hz0 hz1 hz2 rfl (by omega) (.slice (some ⟨g, 0, none⟩) q cap) q (spCs P) rfl ((own.alloc _).alloc _) ⟨w3.heap.size + 1, 0, none⟩ 1 1 [.slice pe.A n1 pe.c, .slice pe.A' n2 pe.c', .int .i64 (y + x)] rfl rfl (World.news_of_block (cs := #[.slice pe.A n1 pe.c, .slice pe.A' n2 pe.c', .int .i64 (y + x)]) (heap_alloc2_new _ _ _)) (by simp [Value.oneCell']) (by omega) (by simp only [maxLen]; omega) (by omega) (by simp; omega) (w3.heap.size + 2) (by simp) ?_; intro g4 cap4 w4 hown4 hgrow4 hat4 hlt4)
          have GB4 : Hid (Below W0.heap.size W0 w4) := ((B3.out.alloc (by omega) _).alloc (by simp; omega) _).grown hgrow4 (by simp; omega) HLO.out
          have GO4 : Hid (OutP W0 (O ++ [(e.1, e.2.1, e.2.2 + s.2.2)]) g4 (q + 1) cap4 w4) := OutP.push ⟨P, E1.out, E2.out, by rw [show spC (e.1, e.2.1, e.2.2 + s.2.2) pe = _ from HSE.out _, ← HYE.out, ← HXS.out]; exact hown4, HPP.out⟩ (HIE.out.count _)
          clear hown4 hgrow4 hat4 own c0 c1 c2 f0 f1 f2 k2
          go_wp2
          go_roundw
          case rel => exact ⟨k + 1, g4, q + 1, cap4, true, O ++ [(e.1, e.2.1, e.2.2 + s.2.2)], by omega, rfl, rfl, by go_num, GO4.out, HPS.out, GB4.out⟩
          case measure => simp [intOf]; omega
        · have t1 : decide (z < 0) = false := decide_eq_false (by omega)
          have t2 : (z == 0) = false := beq_f (by omega)
          have HPS : Hid (putSp S s = (O ++ [e]) ++ putGo s false (S.drop (k + 1))) := by
            rw [Hid, HG.out, HDR.out, putGo_gt (by rw [← HZE.out]; omega) (by rw [← HZE.out]; omega)]; simp
          clear hz
          go_wp2_with (at_builtin; refine wpList_append_lies _ rfl (.tmp 43) (.tmp 45) 58 rfl W0.heap.size 61 i0 _ 3 56 Try.underlying58 hi hz0 hz1 hz2 rfl (by omega) (.slice (some ⟨g, 0, none⟩) q cap) q (spCs P) rfl ((own.alloc _).alloc _) ⟨w3.heap.size + 1, 0, none⟩ 1 1 [.slice pe.A n1 pe.c, .slice pe.A' n2 pe.c', .int .i64 y] rfl rfl (World.news_of_block (cs := #[.slice pe.A n1 pe.c, .slice pe.A' n2 pe.c', .int .i64 y]) (heap_alloc2_new _ _ _)) (by simp [Value.oneCell']) (by omega) (by simp only [maxLen]; omega) (by omega) (by simp; omega) (w3.heap.size + 2) (by simp) ?_; intro g4 cap4 w4 hown4 hgrow4 hat4 hlt4)
          have GB4 : Hid (Below W0.heap.size W0 w4) := ((B3.out.alloc (by omega) _).alloc (by simp; omega) _).grown hgrow4 (by simp; omega) HLO.out
          have GO4 : Hid (OutP W0 (O ++ [e]) g4 (q + 1) cap4 w4) := OutP.push ⟨P, E1.out, E2.out, by have h9 := HSE.out y; rw [HYE.out] at h9; rw [show spC e pe = _ from h9, ← HYE.out]; exact hown4, HPP.out⟩ HIE.out
          clear hown4 hgrow4 hat4 own c0 c1 c2 f0 f1 f2
          go_wp2
          go_roundw
          case rel => exact ⟨k + 1, g4, q + 1, cap4, false, O ++ [e], by omega, rfl, rfl, by go_num, GO4.out, HPS.out, GB4.out⟩
          case measure => simp [intOf]; omega
      · clear T1
        obtain ⟨P, e1, e2, own, hP⟩ := HO.out
        have E1 := Lib.hid e1
        have E2 := Lib.hid e2
        have HPP := Lib.hid hP
        have HOWN := Lib.hid own
        have hlo := fun q' hq => (own.lt q' hq).1
        have HLO := Lib.hid hlo
        clear e1 e2 hP hlo
        have HPS : Hid (putSp S s = (O ++ [e]) ++ putGo s true (S.drop (k + 1))) := by
          rw [Hid, HG.out, HDR.out, putGo_stop, putGo_stop]; simp
        go_wp2_with (at_builtin; refine wpList_append_lies _ rfl (.tmp 43) (.tmp 45) 58 rfl W0.heap.size 61 i0 _ 3 56 Try.underlying58 hi hz0 hz1 hz2 rfl (by omega) (.slice (some ⟨g, 0, none⟩) q cap) q (spCs P) rfl ((own.alloc _).alloc _) ⟨wr.heap.size + 1, 0, none⟩ 1 1 [.slice pe.A n1 pe.c, .slice pe.A' n2 pe.c', .int .i64 y] rfl rfl (World.news_of_block (cs := #[.slice pe.A n1 pe.c, .slice pe.A' n2 pe.c', .int .i64 y]) (heap_alloc2_new _ _ _)) (by simp [Value.oneCell']) (by omega) (by simp only [maxLen]; omega) (by omega) (by simp; omega) (wr.heap.size + 2) (by simp) ?_; intro g2 cap2 w2 hown2 hgrow2 hat2 hlt2)
        have hs2 : wr.heap.size ≤ w2.heap.size := by have := hgrow2.size; simp at this; omega
        have GB : Hid (Below W0.heap.size W0 w2) := ((HB.out.alloc hsz _).alloc (by simp; omega) _).grown hgrow2 (by simp; omega) HLO.out
        have GO : Hid (OutP W0 (O ++ [e]) g2 (q + 1) cap2 w2) := OutP.push ⟨P, E1.out, E2.out, by have h9 := HSE.out y; rw [HYE.out] at h9; rw [show spC e pe = _ from h9, ← HYE.out]; exact hown2, HPP.out⟩ HIE.out
        clear hown2 hgrow2 hat2 own
        go_wp2
        go_roundw
        case rel => exact ⟨k + 1, g2, q + 1, cap2, true, O ++ [e], by omega, rfl, rfl, by go_num, GO.out, HPS.out, GB.out⟩
        case measure => simp [intOf]; omega
    · have HV1 : Hid (∀ u ∈ [v1, v2, .int .i64 x], u.oneCell' = true) := fun u hu => by
        simp only [List.mem_cons, List.not_mem_nil, or_false] at hu
        rcases hu with h | h | h
        · rw [h]; exact HV.out.1
        · rw [h]; exact HV.out.2
        · rw [h]; rfl
      obtain rfl : k = n := by omega
      have HDN : Hid (S.drop k = []) := List.drop_eq_nil_of_le (by rw [HL.out]; exact Nat.le_refl _)
      cases done
      · obtain ⟨P, e1, e2, own, hP⟩ := HO.out
        have E1 := Lib.hid e1
        have E2 := Lib.hid e2
        have HPP := Lib.hid hP
        have hlo := fun q' hq => (own.lt q' hq).1
        have HLO := Lib.hid hlo
        have HPS : Hid (putSp S s = O ++ [s]) := by rw [Hid, HG.out, HDN.out, putGo_end]
        clear e1 e2 hP hlo
        obtain ⟨f0, f1, f2⟩ := HBX.out _ HB.out
        go_wp2_with (at_builtin; refine wpList_append_lies _ rfl (.tmp 49) (.tmp 51) 58 rfl W0.heap.size 61 i0 _ 3 56 Try.underlying58 hi hz0 hz1 hz2 rfl (by omega) (.slice (some ⟨g, 0, none⟩) q cap) q (spCs P) rfl (own.alloc _) ⟨wr.heap.size, 0, none⟩ 1 1 [v1, v2, .int .i64 x] rfl rfl (World.news_of_block (cs := #[v1, v2, .int .i64 x]) (heap_alloc_new _ _)) HV1.out (by omega) (by simp only [maxLen]; omega) (by omega) (by simp; omega) (wr.heap.size + 1) (by simp) ?_; intro g4 cap4 w4 hown4 hgrow4 hat4 hlt4)
        have GB4 : Hid (Below W0.heap.size W0 w4) := (HB.out.alloc (by omega) _).grown hgrow4 (by simp; omega) HLO.out
        have GO4 : Hid (OutP W0 (O ++ [s]) g4 (q + 1) cap4 w4) := OutP.push ⟨P, E1.out, E2.out, by rw [show spC s p = _ from HSC.out]; exact hown4, HPP.out⟩ HI0.out
        clear hown4 hgrow4 hat4 own f0 f1 f2
        go_wp2
        go_ret
        rw [HPS.out]
        obtain ⟨A', c', hr⟩ := GO4.out.res GB4.out
        rw [GO4.out.len] at hr
        exact ⟨A', c', by rw [GO4.out.len]; exact hr.1, by rw [GO4.out.len]; exact hr.2.1, hr.2.2.1, hr.2.2.2.1, HB0.out.trans (hr.2.2.2.2.mono HB0.out.size)⟩
      · have HPS : Hid (putSp S s = O) := by rw [Hid, HG.out, HDN.out, putGo_stop, List.append_nil]
        go_wp2
        go_ret
        rw [HPS.out]
        obtain ⟨A', c', hr⟩ := HO.out.res HB.out
        rw [HO.out.len] at hr
        exact ⟨A', c', by rw [HO.out.len]; exact hr.1, by rw [HO.out.len]; exact hr.2.1, hr.2.2.1, hr.2.2.2.1, HB0.out.trans (hr.2.2.2.2.mono HB0.out.size)⟩
end Go.Proofs.Ytgklilckjpbdnaa
/-
  A list of lists beside a code, as calls hand it back.
-/
namespace Go.Proofs.Ytgklilckjpbdnaa
open Go.RowKit Fld
set_option linter.unusedVariables false
set_option linter.unusedSimpArgs false
set_option maxRecDepth 100000

/-- a list of lists that the call owns, beside a code -/
def ResM (r : List (List Int) × Int) (w : World) (e : Ending) (w' : World) : Prop :=
  r.1.length + total r.1 ≤ 1048576 ∧ ∃ A c vs, e = .returned (.tuple #[.slice A r.1.length c, .int .i64 r.2]) ∧ OwnMat w' w.heap.size w'.heap.size (.slice A r.1.length c) r.1.length r.1 vs ∧ Below w.heap.size w w'
theorem OwnMat.nil' (w : World) (lo hi : Nat) : OwnMat w lo hi (.slice none 0 0) 0 [] [] :=
  ⟨⟨World.ownsRow_nil _ _ _ _, fun g e => by simp [Value.ownBlock] at e⟩, rfl, fun r row hr => by simp at hr, fun r s u t g _ hu => by simp at hu⟩
theorem ResM.nil {r : List (List Int) × Int} {w w' : World} {k : Int} (h : r = ([], k)) (hb : Below w.heap.size w w') : ResM r w (.returned (.tuple #[.slice none 0 0, .int .i64 k])) w' := by
  subst h
  exact ⟨by simp [total], none, 0, [], rfl, OwnMat.nil' _ _ _, hb⟩
theorem ResM.of {r : List (List Int) × Int} {w w' : World} {A : Option Addr} {n c : Nat} {m : List (List Int)} {vs : List Value} {k : Int} (h : r = (m, k)) (hn : m.length + total m ≤ 1048576)
    (ho : OwnMat w' w.heap.size w'.heap.size (.slice A n c) n m vs) (hb : Below w.heap.size w w') : ResM r w (.returned (.tuple #[.slice A n c, .int .i64 k])) w' := by
  subst h
  have e := ho.size
  subst e
  exact ⟨hn, A, c, vs, rfl, ho, hb⟩
/-- lists in memory below a bound: the model's -/
def LowMat (w : World) (hi : Nat) (A : Option Addr) (m : List (List Int)) : Prop := Mat w hi A m
theorem LowMat.below {w w' : World} {hi B : Nat} {A : Option Addr} {m : List (List Int)} (h : LowMat w hi A m) (hb : Below B w w') (hB : hi ≤ B) : LowMat w' hi A m := Mat.below h hb hB
theorem LowMat.within {w w' : World} {hi lo' hi' : Nat} {A : Option Addr} {m : List (List Int)} (h : LowMat w hi A m) (hb : Within lo' hi' w w') (hs : hi ≤ w.heap.size) (hd : hi ≤ lo') : LowMat w' hi A m :=
  Mat.keep h fun b o hbb => World.cell?_of_block (hb.block b (by omega) (by omega))
theorem LowMat.mat {w : World} {hi : Nat} {A : Option Addr} {m : List (List Int)} (h : LowMat w hi A m) : Mat w hi A m := h
theorem LowMat.drewN {w : World} {hi : Nat} {A : Option Addr} {m : List (List Int)} (h : LowMat w hi A m) (k : Nat) : LowMat (w.drewN k) hi A m := h
def ResMl (r : List (List Int) × Int) (w : World) (e : Ending) (w' : World) : Prop :=
  r.1.length + total r.1 ≤ 1048576 ∧ ∃ A c, e = .returned (.tuple #[.slice A r.1.length c, .int .i64 r.2]) ∧ LowMat w' w'.heap.size A r.1 ∧ Below w.heap.size w w'
theorem ResMl.nil {r : List (List Int) × Int} {w w' : World} {k : Int} (h : r = ([], k)) (hb : Below w.heap.size w w') : ResMl r w (.returned (.tuple #[.slice none 0 0, .int .i64 k])) w' := by
  subst h
  exact ⟨by simp [total], none, 0, rfl, fun k r hr => by simp at hr, hb⟩
theorem ResMl.of {r : List (List Int) × Int} {w w' : World} {A : Option Addr} {n c : Nat} {m : List (List Int)} {k : Int} (h : r = (m, k)) (hl : m.length = n) (hn : m.length + total m ≤ 1048576)
    (ho : Mat w' w'.heap.size A m) (hb : Below w.heap.size w w') : ResMl r w (.returned (.tuple #[.slice A n c, .int .i64 k])) w' := by
  subst h hl
  exact ⟨hn, A, c, rfl, ho, hb⟩
end Go.Proofs.Ytgklilckjpbdnaa
/-
  The model's copy of a list of lists.
-/
namespace Go.Proofs.Ytgklilckjpbdnaa
open Go.RowKit Fld
set_option linter.unusedVariables false
set_option linter.unusedSimpArgs false
set_option maxRecDepth 100000

theorem Mat.vals {w : World} {B : Nat} {A : Option Addr} {m : List (List Int)} (h : Mat w B A m) : ∃ vs, Row w B A vs ∧ Vals w B m vs := by
  cases m with
  | nil => exact ⟨[], Row.nil _ _ _, Vals.nil _ _⟩
  | cons x m =>
    obtain ⟨b, o, _, _, rfl, hb, _⟩ := h 0 x rfl
    refine ⟨(List.range (x :: m).length).map fun k => (w.cell? ⟨b, o + k, none⟩).getD (.bool false), fun k v hv => ?_, ?_, fun k r hr => ?_⟩
    · rw [List.getElem?_map] at hv
      rcases Nat.lt_or_ge k (x :: m).length with hk | hk
      · rw [List.getElem?_range hk] at hv
        obtain ⟨r, hr⟩ := at_lt hk
        obtain ⟨b', o', Ak, ck, e, hb', hc, _⟩ := h k r hr
        cases e
        rw [Option.map_some, hc] at hv
        injection hv with hv
        exact ⟨b, o, rfl, hb, by rw [hc]; exact congrArg some hv⟩
      · rw [List.getElem?_eq_none (by simp only [List.length_range]; exact hk)] at hv
        cases hv
    · rw [List.length_map, List.length_range]
    · obtain ⟨b', o', Ak, ck, e, hb', hc, h1, h2, h3⟩ := h k r hr
      cases e
      have hk : k < (x :: m).length := by
        rcases Nat.lt_or_ge k (x :: m).length with y | y
        · exact y
        · rw [List.getElem?_eq_none y] at hr; cases hr
      refine ⟨Ak, ck, ?_, h1, h2, h3⟩
      rw [List.getElem?_map, List.getElem?_range hk, Option.map_some, hc]; rfl
theorem Vals.app {w : World} {B : Nat} {m m' : List (List Int)} {vs vs' : List Value} (h : Vals w B m vs) (h' : Vals w B m' vs') : Vals w B (m ++ m') (vs ++ vs') := by
  have hl := h.1
  refine ⟨by rw [List.length_append, List.length_append, h.1, h'.1], fun k r hr => ?_⟩
  rcases Nat.lt_or_ge k m.length with g | g
  · rw [List.getElem?_append_left g] at hr
    obtain ⟨A, c, q1, q2⟩ := h.2 k r hr
    exact ⟨A, c, by rw [List.getElem?_append_left (by omega)]; exact q1, q2⟩
  · rw [List.getElem?_append_right g] at hr
    obtain ⟨A, c, q1, q2⟩ := h'.2 _ r hr
    exact ⟨A, c, by rw [List.getElem?_append_right (by omega), hl]; exact q1, q2⟩
theorem OwnMat.vals {w : World} {lo hi n : Nat} {v : Value} {m : List (List Int)} {vs : List Value} (h : OwnMat w lo hi v n m vs) : Vals w hi m vs := by
  refine ⟨h.len, fun k r hr => ?_⟩
  obtain ⟨A, c, e, o⟩ := h.inner k r hr
  obtain ⟨h1, h2⟩ := own_cap o.1
  exact ⟨A, c, e, h1, h2, o.row⟩
set_option maxHeartbeats 1000000 in
theorem l01Own2_any (A : Option Addr) (n c B : Nat) (f : List (List Int)) (w : World) (hl : f.length = n) (hn : n + total f ≤ 1048576) (h1 : ∀ r ∈ f, 1 ≤ r.length) (hB : B ≤ w.heap.size) (h : Mat w B A f) :
    Calls Try.prog 40 #[.slice A n c] w (NewMat n f w) := by
  obtain ⟨j0, hj, hy0, hy1, hy2⟩ := info_parts info_row
  have HL := Lib.hid hl
  have HN := Lib.hid hn
  have H1 := Lib.hid h1
  have hn' : n ≤ 1048576 := by omega
  clear hl hn h1
  go_enter Try.func40, Try.ntmps40
  go_wp2_with fail
  go_loopw [3, 4] (fun v i wr => ∃ (k g cap : Nat), k ≤ n ∧ v = .slice (some ⟨g, 0, none⟩) k cap ∧ i = .int .i64 k ∧ GrowM w g k cap (f.take k) wr) (fun _ i _ => n - (intOf i).toNat)
  case atStart => exact ⟨0, _, 0, Nat.zero_le _, rfl, rfl, GrowM.start ..⟩
  case round =>
    obtain ⟨k, g, cap, hk, rfl, rfl, vs, HM, HBel⟩ := hrel
    have hsz := HBel.size
    by_cases hlt : k < n
    · obtain ⟨r, hr⟩ := at_lt (show k < f.length by rw [HL.out]; exact hlt)
      obtain ⟨b, o, Ak, ck, rfl, hb, hc, hrc, hcm, hrow⟩ := (h.below HBel hB) k r hr
      have hrl : r.length ≤ 1048576 := by have := row_total hr; have := HN.out; omega
      have hr1 := H1.out r (List.mem_of_getElem? hr)
      obtain ⟨x0, hx0⟩ := at_lt (show 0 < r.length by omega)
      obtain ⟨br, orr, rfl, _, _⟩ := hrow 0 _ (ints_at hx0)
      have HS : Hid (f.take (k + 1) = f.take k ++ [r]) := by
        rw [Hid, List.take_add_one, hr, Option.toList_some]
      have HM' := Lib.hid HM
      have HB1 := Lib.hid HBel
      have HRO := Lib.hid hrow
      clear hr HM HBel hrow hx0
      go_wp2_with fail
      refine (l01Own_any ⟨br, orr, none⟩ r.length ck B r _ rfl hrl (by omega) HRO.out).mono ?_
      rintro e w3 ⟨A3, c3, rfl, own3, bel3⟩
      have hs3 := bel3.size
      have HM3 := Lib.hid (HM'.out.below bel3 (Nat.le_refl _))
      have HB3 : Hid (Below w.heap.size w w3) := HB1.out.trans (bel3.mono hsz)
      have HO3 := Lib.hid own3
      have hownO := HM3.out.outer.1
      clear own3 bel3
      go_wp2_with (at_builtin; refine wpList_append_lies _ rfl (.tmp 12) (.tmp 18) 35 rfl w.heap.size 22 j0 _ 1 24 Try.underlying35 hj hy0 hy1 hy2 rfl (by omega) (.slice (some ⟨g, 0, none⟩) k cap) k vs rfl (hownO.alloc _) ⟨w3.heap.size, 0, none⟩ 1 1 [.slice A3 r.length c3] rfl rfl (World.news_of_block (cs := #[.slice A3 r.length c3]) (heap_alloc_new _ _)) (by simp [Value.oneCell']) (by omega) (by simp only [maxLen]; omega) (by omega) (by simp; omega) (w3.heap.size + 1) (by simp) ?_; intro g5 cap5 w5 hown5 hgrow5 hat5 hlt5)
      have hs5 : w3.heap.size ≤ w5.heap.size := by have := hgrow5.size; simp at this; omega
      have G : Hid (GrowM w g5 (k + 1) cap5 (f.take (k + 1)) w5) := by
        rw [Hid, HS.out]
        refine ⟨_, HM3.out.push (row := r) hs3 rfl HO3.out hsz hown5 hgrow5, ?_⟩
        exact (HB3.out.alloc (by omega) _).grown hgrow5 (by simp; omega) (fun q hq => (hownO.lt q hq).1)
      clear hown5 hgrow5 hat5 hownO
      go_wp2
      go_roundw
      case rel => exact ⟨k + 1, g5, cap5, by omega, rfl, by go_num, G.out⟩
      case measure => simp [intOf]; omega
    · obtain rfl : k = n := by omega
      rw [List.take_of_length_le (by rw [HL.out]; exact Nat.le_refl _)] at HM
      have G : Hid (NewMat k f w (.returned (.slice (some ⟨g, 0, none⟩) k cap)) wr) := GrowM.done ⟨vs, HM, HBel⟩
      clear HM HBel
      go_wp2
      go_ret
      exact G.out
end Go.Proofs.Ytgklilckjpbdnaa
/-
  What TimesForests answers, the program's and the model's.
-/
namespace Go.Proofs.Ytgklilckjpbdnaa
open Go.RowKit Fld
set_option linter.unusedVariables false
set_option linter.unusedSimpArgs false
set_option maxRecDepth 100000

theorem strs_app (a b : List (List UInt8)) : strs a ++ strs b = strs (a ++ b) := by simp [strs]
theorem strs_one (l : List (List UInt8)) : ∀ u ∈ strs l, u.oneCell' = true := fun u hu => by
  unfold strs at hu
  rw [List.mem_map] at hu
  obtain ⟨x, _, rfl⟩ := hu
  rfl
set_option maxHeartbeats 1000000 in
theorem l03Times_any (A A' : Option Addr) (n n' c c' B B' : Nat) (f g : List (List Int)) (w : World) (hl : f.length = n) (hl' : g.length = n') (h8 : n + n' ≤ 8) (ht : n + total f ≤ 1048576) (hlv : ∀ r ∈ f ++ g, Tr.isLv r = true) (hB : B ≤ w.heap.size) (hB' : B' ≤ w.heap.size) (h : Mat w B A f) (h' : Mat w B' A' g) (hA : A' = none → n' = 0 ∧ c' = 0) :
    Calls Try.prog 84 #[.slice A n c, .slice A' n' c'] w (ResRws (Tr.sortL (f ++ g)) w) := by
  obtain ⟨j0, hj, hy0, hy1, hy2⟩ := info_parts info_row
  have HL := Lib.hid hl
  have HL' := Lib.hid hl'
  have HLV := Lib.hid hlv
  have C0 := l01Own2_any A n c B f w hl ht (fun r hr => (lv_bd (hlv r (by simp [hr]))).1) hB h
  have HFG : Hid ((f ++ g).length = n + n') := by rw [Hid, List.length_append, hl, hl']
  clear hl hl' hlv
  have fin : ∀ (A9 : Option Addr) (c9 : Nat) (us : List Value) (w9 : World), w9.ownsRow w.heap.size 22 1 (.slice A9 (n + n') c9) (n + n') us → Vals w9 w9.heap.size (f ++ g) us → Below w.heap.size w w9 → Calls Try.prog 75 #[.slice A9 (n + n') c9] w9 (ResRws (Tr.sortL (f ++ g)) w) := by
    intro A9 c9 us w9 ho hv hb
    refine (l03Sort_any A9 (n + n') c9 w9.heap.size (f ++ g) w9 HFG.out h8 HLV.out (Nat.le_refl _) (Rws.mat ⟨us, row_of_own ho, hv⟩)).mono ?_
    rintro e w10 ⟨b, o, cap, rfl, hc, hr, bel⟩
    exact ⟨b, o, cap, rfl, hc, hr, hb.trans (bel.mono hb.size)⟩
  have HFIN := Lib.hid fin
  clear fin
  cases hA' : A' with
  | none =>
    obtain ⟨e1, e2⟩ := hA hA'
    subst hA' e1 e2
    have hg : g = [] := List.eq_nil_of_length_eq_zero HL'.out
    subst hg
    clear hA
    go_enter Try.func84, Try.ntmps84
    go_wp2_with fail
    refine C0.mono ?_
    rintro e w1 ⟨A1, c1, vs1, rfl, own1, bel1⟩
    have hown := own1.outer.1
    have GB := Lib.hid bel1
    have GO := Lib.hid own1
    clear own1 bel1 C0
    go_wp2_with (at_builtin; refine wpList_append_own_none rfl (.tmp 6) (.tmp 7) 35 rfl w.heap.size 22 j0 1 Try.underlying35 hj (.slice A1 n c1) n vs1 rfl hown rfl ?_)
    clear hown
    go_wp2_with fail
    refine (HFIN.out A1 c1 vs1 w1 GO.out.outer.1 (by rw [List.append_nil]; exact GO.out.vals) GB.out).mono ?_
    rintro e w2 hr
    obtain ⟨b, o, cap, rfl, hc, hr1, bel⟩ := hr
    have G1 := Lib.hid hr1
    have G2 := Lib.hid bel
    have G3 := Lib.hid hc
    clear hr1 bel hc
    go_wp2
    go_ret
    exact ⟨b, o, cap, by first | rfl | (rw [List.append_nil]; rfl), G3.out, G1.out, G2.out⟩
  | some ad =>
    subst hA'
    obtain ⟨us, hrow, hvals⟩ := h'.vals
    have HROW := Lib.hid hrow
    have HVALS := Lib.hid hvals
    have HUL : Hid (us.length = n' * 1) := by rw [Hid, hvals.1, HL'.out, Nat.mul_one]
    have HU1 : Hid (∀ u ∈ us, u.oneCell' = true) := fun u hu => Vals.one (v := u) hvals u hu
    clear hrow hvals hA
    go_enter Try.func84, Try.ntmps84
    go_wp2_with fail
    refine C0.mono ?_
    rintro e w1 ⟨A1, c1, vs1, rfl, own1, bel1⟩
    have hown := own1.outer.1
    have GB := Lib.hid bel1
    have hs1 := bel1.size
    have GO := Lib.hid own1
    have HNW : Hid (∀ q z, us[q]? = some z → w1.cell? (ad.add q) = some z) := row_news (Row.below HROW.out bel1 hB')
    clear own1 bel1 C0
    go_wp2_with (at_builtin; refine wpList_append_own _ rfl (.tmp 6) (.tmp 7) 35 rfl w.heap.size 22 j0 _ 1 24 Try.underlying35 hj hy0 hy1 hy2 rfl (by omega) (.slice A1 n c1) n vs1 rfl hown ad n' c' us rfl HUL.out HNW.out HU1.out (by simp only [maxLen]; omega) (by omega) (by omega) ?_; intro v5 w5 own5 hgrow5 _; obtain ⟨A5, c5, rfl⟩ := own_shape' own5)
    have GB5 : Hid (Below w.heap.size w w5) := GB.out.grown hgrow5 (by omega) (fun z hz => (GO.out.outer.1.lt z hz).1)
    have GO5 := Lib.hid own5
    have GV5 : Hid (Vals w5 w5.heap.size (f ++ g) (vs1 ++ us)) := by
      have hs5 := hgrow5.size
      have v1 : Vals w5 w5.heap.size f vs1 := by
        have o5 : ∀ (k : Nat) (r : List Int), f[k]? = some r → ∃ (A : Option Addr) (c : Nat), vs1[k]? = some (Value.slice A r.length c) ∧ r.length ≤ c ∧ c ≤ maxLen ∧ Row w5 w5.heap.size A (ints r) := fun k r hr => by
          obtain ⟨A9, c9, e9, o9⟩ := GO.out.inner k r hr
          obtain ⟨q1, q2⟩ := own_cap o9.1
          have o10 := o9.grown hgrow5 (own_types o9.1 GO.out.outer.1 (by decide))
          exact ⟨A9, c9, e9, q1, q2, (OwnR.row o10).more hs5⟩
        exact ⟨GO.out.len, o5⟩
      have v2 : Vals w5 w5.heap.size g us := (HVALS.out.below GB5.out hB').more (by omega)
      exact v1.app v2
    clear own5 hgrow5 hown
    go_wp2_with fail
    refine (HFIN.out A5 c5 (vs1 ++ us) w5 GO5.out GV5.out GB5.out).mono ?_
    rintro e w2 hr
    obtain ⟨b, o, cap, rfl, hc, hr1, bel⟩ := hr
    have G1 := Lib.hid hr1
    have G2 := Lib.hid bel
    have G3 := Lib.hid hc
    clear hr1 bel hc
    go_wp2
    go_ret
    exact ⟨b, o, cap, by first | rfl | (rw [List.append_nil]; rfl), G3.out, G1.out, G2.out⟩
theorem own_none {w : World} {lo : Nat} {T : TypeId} {A : Option Addr} {n c : Nat} {vs : List Value} (h : w.ownsRow lo T 1 (.slice A n c) n vs) : A = none → n = 0 ∧ c = 0 := fun e => by
  rcases h.2 with ⟨q, rfl⟩ | ⟨g, cap, cur, q, _⟩
  · cases q; exact ⟨rfl, rfl⟩
  · cases q; cases e
end Go.Proofs.Ytgklilckjpbdnaa
/-
  The model's products of lists of cuts.
-/
namespace Go.Proofs.Ytgklilckjpbdnaa
open Go.RowKit Fld
set_option linter.unusedVariables false
set_option linter.unusedSimpArgs false
set_option maxRecDepth 100000

theorem sumC_nonneg {m : Nat} {S : List Spl} (h : ∀ s ∈ S, OkSp m s) : 0 ≤ sumC S := by have := len_sumC h; omega
theorem sumC_take {m : Nat} {S : List Spl} (h : ∀ s ∈ S, OkSp m s) (k : Nat) : sumC (S.take k) ≤ sumC S := by
  have e : sumC S = sumC (S.take k) + sumC (S.drop k) := by rw [← sumC_app, List.take_append_drop]
  have := sumC_nonneg (m := m) (S := S.drop k) (fun s hs => h s (List.mem_of_mem_drop hs))
  omega
theorem take_snoc {α : Type} {L : List α} {k : Nat} {x : α} (h : L[k]? = some x) : L.take (k + 1) = L.take k ++ [x] := by rw [List.take_add_one, h, Option.toList_some]
theorem rowS_snoc (a b : Spl) (B out : List Spl) : rowS a (B ++ [b]) out = putSp (rowS a B out) (mulSp a b) := by unfold rowS; rw [List.foldl_append, List.foldl_cons, List.foldl_nil]
theorem foldS_snoc (a : Spl) (A B out : List Spl) : (A ++ [a]).foldl (fun out a => rowS a B out) out = rowS a B (A.foldl (fun out a => rowS a B out) out) := by rw [List.foldl_append, List.foldl_cons, List.foldl_nil]
/-- what is put is never more than the whole product -/
theorem prodSp_le {m n i k : Nat} {A B : List Spl} {a b : Spl} (hA : ∀ s ∈ A, OkSp m s) (hB : ∀ s ∈ B, OkSp n s) (ha : A[i]? = some a) (hb : B[k]? = some b) : sumC (rowS a (B.take k) ((A.take i).foldl (fun out a => rowS a B out) [])) + (mulSp a b).2.2 ≤ sumC A * sumC B := by
  rw [rowS_sum, foldS_sum, show sumC ([] : List Spl) = 0 from rfl]
  have h1 := sumC_take hA (i + 1)
  have h2 := sumC_take hB (k + 1)
  rw [take_snoc ha, sumC_app] at h1
  rw [take_snoc hb, sumC_app] at h2
  have e1 : sumC [a] = a.2.2 := by simp [sumC]
  have e2 : sumC [b] = b.2.2 := by simp [sumC]
  rw [e1] at h1
  rw [e2] at h2
  have g1 := (hA a (List.mem_of_getElem? ha)).2.2.2
  have g3 := sumC_nonneg hB
  have h3 := Int.mul_le_mul_of_nonneg_right h1 g3
  have h4 := Int.mul_le_mul_of_nonneg_left h2 (show 0 ≤ a.2.2 by omega)
  rw [Int.add_mul] at h3
  rw [Int.mul_add] at h4
  show 0 + _ + _ + a.2.2 * b.2.2 ≤ _
  omega
theorem rowS_okp {m n i k : Nat} {A B : List Spl} {a : Spl} (hA : ∀ s ∈ A, OkSp m s) (hB : ∀ s ∈ B, OkSp n s) (ha : A[i]? = some a) : ∀ s ∈ rowS a (B.take k) ((A.take i).foldl (fun out a => rowS a B out) []), OkSp (m + n) s :=
  rowS_ok (hA a (List.mem_of_getElem? ha)) (fun s hs => hB s (List.mem_of_mem_take hs)) (foldS_ok hB (fun s hs => hA s (List.mem_of_mem_take hs)) (fun s hs => by cases hs))
theorem okSp_len {m : Nat} {s : Spl} (h : OkSp m s) : s.1.length + s.2.1.length ≤ m :=
  have h1 := len_total (f := s.1) (fun r hr => (lv_bd (h.1 r hr)).1)
  have h2 := len_total (f := s.2.1) (fun r hr => (lv_bd (h.2.1 r hr)).1)
  have h3 := h.2.2.1
  by omega
/-- a list of cuts that a call has made so far -/
def BldS (W : World) (S : List Spl) (v : Value) (wr : World) : Prop := ∃ A c, v = .slice A S.length c ∧ S.length ≤ c ∧ c ≤ maxLen ∧ Spls wr wr.heap.size A S ∧ Below W.heap.size W wr
theorem BldS.start (W : World) : BldS W [] (.slice (some ⟨W.heap.size, 0, none⟩) 0 0) (W.alloc (.cells #[] 61)) := ⟨_, 0, rfl, Nat.le_refl _, Nat.zero_le _, fun k s hs => (by simp at hs), (Below.refl _ _).alloc (Nat.le_refl _) _⟩
theorem BldS.next {W wr w2 : World} {S T : List Spl} {v : Value} {e : Ending} (h : Below W.heap.size W wr) (hr : ResSp T wr e w2) : ∃ v2, e = .returned v2 ∧ BldS W T v2 w2 := by
  obtain ⟨A, c, e1, h1, h2, h3, h4⟩ := hr
  exact ⟨_, e1, A, c, rfl, h1, h2, h3, h.trans (h4.mono h.size)⟩
/-- what l03Times hands back -/
theorem times_out (A A' : Option Addr) (c c' B B' : Nat) (f g : List (List Int)) (w : World) (h8 : f.length + g.length ≤ 8) (ht : f.length + total f ≤ 100) (hlv : ∀ r ∈ f ++ g, Tr.isLv r = true) (hB : B ≤ w.heap.size) (hB' : B' ≤ w.heap.size) (h : Mat w B A f) (h' : Mat w B' A' g) (hg : g.length ≤ c') (hA : A' = none → c' = 0) :
    Calls Try.prog 84 #[.slice A f.length c, .slice A' g.length c'] w fun e w' => ∃ b o cap, e = .returned (.slice (some ⟨b, o, none⟩) (Tr.sortL (f ++ g)).length cap) ∧ (Tr.sortL (f ++ g)).length ≤ cap ∧ Mat w' w'.heap.size (some ⟨b, o, none⟩) (Tr.sortL (f ++ g)) ∧ Below w.heap.size w w' := by
  refine (l03Times_any A A' f.length g.length c c' B B' f g w rfl rfl h8 (by omega) hlv hB hB' h h' (fun e => ⟨by have := hA e; omega, hA e⟩)).mono ?_
  rintro e w' ⟨b, o, cap, rfl, h1, h2, h3⟩
  exact ⟨b, o, cap, rfl, h1, h2.mat, h3⟩
set_option maxHeartbeats 8000000 in
theorem l05Times_any (Aa Ab : Option Addr) (na ca nb cb : Nat) (SA SB : List Spl) (w : World) {m n : Nat} (hla : SA.length = na) (hlb : SB.length = nb) (hna : na ≤ 100000) (hnb : nb ≤ 100000) (hA : ∀ s ∈ SA, OkSp m s) (hB : ∀ s ∈ SB, OkSp n s) (hmn : m + n ≤ 8) (hsum : sumC SA * sumC SB ≤ 100000) (h : Spls w w.heap.size Aa SA) (h' : Spls w w.heap.size Ab SB) :
    Calls Try.prog 74 #[.slice Aa na ca, .slice Ab nb cb] w (ResSp (timesS SA SB) w) := by
  have HLA := Lib.hid hla
  have HLB := Lib.hid hlb
  have HOA := Lib.hid hA
  have HOB := Lib.hid hB
  have HSM := Lib.hid hsum
  have HSA := Lib.hid h
  have HSB := Lib.hid h'
  clear hla hlb hA hB hsum h h'
  go_enter Try.func74, Try.ntmps74
  go_wp2_with fail
  go_loopw [5, 6] (fun v i wr => ∃ (k : Nat), k ≤ na ∧ i = .int .i64 k ∧ Hid (BldS w ((SA.take k).foldl (fun out a => rowS a SB out) []) v wr)) (fun _ i _ => na - (intOf i).toNat)
  case atStart => exact ⟨0, by omega, rfl, BldS.start w⟩
  case round =>
    obtain ⟨i, hi, rfl, HBL⟩ := hrel
    by_cases hlt : i < na
    · obtain ⟨a, ha⟩ := at_lt (show i < SA.length by rw [HLA.out]; exact hlt)
      obtain ⟨ba, oa, ⟨A1, c1, A1', c1'⟩, rfl, hba, hra, hia⟩ := HSA.out i a ha
      have HRA := Lib.hid hra
      have HIA := Lib.hid hia
      have HA := Lib.hid ha
      clear hra hia ha
      go_wp2_with fail
      go_loopw [5, 7] (fun v i' wr => ∃ (k : Nat), k ≤ nb ∧ i' = .int .i64 k ∧ Hid (BldS w (rowS a (SB.take k) ((SA.take i).foldl (fun out a => rowS a SB out) [])) v wr)) (fun _ i' _ => nb - (intOf i').toNat)
      case atStart => exact ⟨0, by omega, rfl, HBL.out⟩
      case round =>
        obtain ⟨k, hk, rfl, HBK⟩ := hrel
        by_cases hlk : k < nb
        · obtain ⟨b, hb⟩ := at_lt (show k < SB.length by rw [HLB.out]; exact hlk)
          obtain ⟨bb, ob, ⟨A2, c2, A2', c2'⟩, rfl, hbb, hrb, hib⟩ := HSB.out k b hb
          have HRB := Lib.hid hrb
          have HIB := Lib.hid hib
          have HB := Lib.hid hb
          clear hrb hib hb
          obtain ⟨S, hS⟩ : ∃ S, S = rowS a (SB.take k) ((SA.take i).foldl (fun out a => rowS a SB out) []) := ⟨_, rfl⟩
          have HOS : Hid (∀ s ∈ S, OkSp (m + n) s) := by rw [hS]; exact rowS_okp HOA.out HOB.out HA.out
          have HLE := prodSp_le HOA.out HOB.out HA.out HB.out
          rw [← hS] at HLE HBK
          have HSS := Lib.hid hS
          have hns := len_sumC HOS.out
          have hOa := HOA.out a (List.mem_of_getElem? HA.out)
          have hOb := HOB.out b (List.mem_of_getElem? HB.out)
          have hOm := mulSp_ok hOa hOb
          have hm1 := hOm.2.2.2
          have hsum := HSM.out
          obtain ⟨Ao, co, rfl, hco, hcm, hSp, hBel⟩ := HBK.out
          have hz1 := hBel.size
          obtain ⟨q, hq⟩ : ∃ q, q = S.length := ⟨_, rfl⟩
          obtain ⟨q1, hq1⟩ : ∃ q, q = (Tr.sortL (a.1 ++ b.1)).length := ⟨_, rfl⟩
          obtain ⟨q2, hq2⟩ : ∃ q, q = (Tr.sortL (a.2.1 ++ b.2.1)).length := ⟨_, rfl⟩
          obtain ⟨M1, hM1⟩ : ∃ q, q = Tr.sortL (a.1 ++ b.1) := ⟨_, rfl⟩
          obtain ⟨M2, hM2⟩ : ∃ q, q = Tr.sortL (a.2.1 ++ b.2.1) := ⟨_, rfl⟩
          obtain ⟨z, hz⟩ : ∃ z, z = a.2.2 * b.2.2 := ⟨_, rfl⟩
          obtain ⟨S', hS'⟩ : ∃ z, z = putSp S (mulSp a b) := ⟨_, rfl⟩
          have T3 : ∀ (W : World) (r1 o1 k1 r2 o2 k2 : Nat), q1 ≤ k1 → q2 ≤ k2 → Mat W W.heap.size (some ⟨r1, o1, none⟩) M1 → Mat W W.heap.size (some ⟨r2, o2, none⟩) M2 → Below wr.heap.size wr W → Calls Try.prog 61 #[.slice Ao q co, .agg #[.slice (some ⟨r1, o1, none⟩) q1 k1, .slice (some ⟨r2, o2, none⟩) q2 k2, .int .i64 z]] W (ResSp S' W) := by
            intro W r1 o1 k1 r2 o2 k2 e1 e2 e3 e4 e5
            rw [hq, hq1, hq2, hz, hS']
            rw [hM1] at e3
            rw [hM2] at e4
            rw [hq1] at e1
            rw [hq2] at e2
            exact l05Put_any Ao S.length co S (mulSp a b) ⟨some ⟨r1, o1, none⟩, k1, some ⟨r2, o2, none⟩, k2⟩ W rfl (by omega) HOS.out (by omega) hOm hmn ((hSp.below e5 (Nat.le_refl _)).more e5.size) ⟨e1, (fun h => by cases h), e3, e2, (fun h => by cases h), e4⟩
          have T1 : ∀ W, Below wr.heap.size wr W → Calls Try.prog 84 #[.slice A1 a.1.length c1, .slice A2 b.1.length c2] W fun e w' => ∃ b o cap, e = .returned (.slice (some ⟨b, o, none⟩) q1 cap) ∧ q1 ≤ cap ∧ Mat w' w'.heap.size (some ⟨b, o, none⟩) M1 ∧ Below W.heap.size W w' := by
            intro W hW
            rw [hq1, hM1]
            have g1 := okSp_len hOa
            have g2 := okSp_len hOb
            have g3 := hOa.2.2.1
            have hB1 := hBel.trans (hW.mono hz1)
            exact times_out A1 A2 c1 c2 w.heap.size w.heap.size a.1 b.1 W (by omega) (by omega) (fun r hr => (List.mem_append.1 hr).elim (hOa.1 r) (hOb.1 r)) hB1.size hB1.size (HIA.out.2.2.1.below hB1 (Nat.le_refl _)) (HIB.out.2.2.1.below hB1 (Nat.le_refl _)) HIB.out.1 HIB.out.2.1
          have T2 : ∀ W, Below wr.heap.size wr W → Calls Try.prog 84 #[.slice A1' a.2.1.length c1', .slice A2' b.2.1.length c2'] W fun e w' => ∃ b o cap, e = .returned (.slice (some ⟨b, o, none⟩) q2 cap) ∧ q2 ≤ cap ∧ Mat w' w'.heap.size (some ⟨b, o, none⟩) M2 ∧ Below W.heap.size W w' := by
            intro W hW
            rw [hq2, hM2]
            have g1 := okSp_len hOa
            have g2 := okSp_len hOb
            have g3 := hOa.2.2.1
            have hB1 := hBel.trans (hW.mono hz1)
            exact times_out A1' A2' c1' c2' w.heap.size w.heap.size a.2.1 b.2.1 W (by omega) (by omega) (fun r hr => (List.mem_append.1 hr).elim (hOa.2.1 r) (hOb.2.1 r)) hB1.size hB1.size (HIA.out.2.2.2.2.2.below hB1 (Nat.le_refl _)) (HIB.out.2.2.2.2.2.below hB1 (Nat.le_refl _)) HIB.out.2.2.2.1 HIB.out.2.2.2.2.1
          have hmw : IntKind.i64.wrap (a.2.2 * b.2.2) = z := by
            rw [hz]
            have e1 : (mulSp a b).2.2 = a.2.2 * b.2.2 := rfl
            exact IntWalk.i64_in _ (by omega)
          obtain ⟨l1, hl1⟩ : ∃ q, q = a.1.length := ⟨_, rfl⟩
          obtain ⟨l2, hl2⟩ : ∃ q, q = a.2.1.length := ⟨_, rfl⟩
          obtain ⟨l3, hl3⟩ : ∃ q, q = b.1.length := ⟨_, rfl⟩
          obtain ⟨l4, hl4⟩ : ∃ q, q = b.2.1.length := ⟨_, rfl⟩
          obtain ⟨x, hx⟩ : ∃ q, q = a.2.2 := ⟨_, rfl⟩
          obtain ⟨y, hy⟩ : ∃ q, q = b.2.2 := ⟨_, rfl⟩
          have KK : Hid (∀ V, Below wr.heap.size wr V → (V.cell? ⟨ba, oa + i * 3, none⟩ = some (.slice A1 l1 c1) ∧ V.cell? ⟨ba, oa + i * 3 + 1, none⟩ = some (.slice A1' l2 c1') ∧ V.cell? ⟨ba, oa + i * 3 + 2, none⟩ = some (.int .i64 x)) ∧ V.cell? ⟨bb, ob + k * 3, none⟩ = some (.slice A2 l3 c2) ∧ V.cell? ⟨bb, ob + k * 3 + 1, none⟩ = some (.slice A2' l4 c2') ∧ V.cell? ⟨bb, ob + k * 3 + 2, none⟩ = some (.int .i64 y)) := fun V hV => by
            have hB1 := hBel.trans (hV.mono hz1)
            have r1 := range_below HRA.out hB1 hba
            have r2 := range_below HRB.out hB1 hbb
            rw [hl1, hl2, hl3, hl4, hx, hy]
            exact ⟨⟨r1 0 _ rfl, r1 1 _ rfl, r1 2 _ rfl⟩, r2 0 _ rfl, r2 1 _ rfl, r2 2 _ rfl⟩
          rw [← hl1, ← hl3] at T1
          rw [← hl2, ← hl4] at T2
          rw [← hx, ← hy] at hmw
          have HBEL := Lib.hid hBel
          have HT := Lib.hid hS'
          have HQ := Lib.hid hq
          rw [← hq]
          clear hl1 hl2 hl3 hl4 hx hy hM1 hM2 hq hq1 hq2 hz hS' hm1 hsum hOm hOa hOb HLE hns hS hSp hBel HBK
          go_wp2_with fail
          go_region_held3 (fun V => (V.cell? ⟨ba, oa + i * 3, none⟩ = some (.slice A1 l1 c1) ∧ V.cell? ⟨ba, oa + i * 3 + 1, none⟩ = some (.slice A1' l2 c1') ∧ V.cell? ⟨ba, oa + i * 3 + 2, none⟩ = some (.int .i64 x)) ∧ V.cell? ⟨bb, ob + k * 3, none⟩ = some (.slice A2 l3 c2) ∧ V.cell? ⟨bb, ob + k * 3 + 1, none⟩ = some (.slice A2' l4 c2') ∧ V.cell? ⟨bb, ob + k * 3 + 2, none⟩ = some (.int .i64 y))
            (first | exact KK.out _ (Below.refl _ _).drew | exact KK.out _ (below_drewN (Below.refl _ _) _) | exact KK.out _ (below_undrew' (a := 1) bel2) | exact KK.out _ ((below_undrew' (a := 1) bel2).trans (bel3.mono (below_undrew' (a := 1) bel2).size)) | exact KK.out _ (((below_undrew' (a := 1) bel2).trans (bel3.mono (below_undrew' (a := 1) bel2).size)).trans (bel4.mono ((below_undrew' (a := 1) bel2).trans (bel3.mono (below_undrew' (a := 1) bel2).size)).size)))
            (first
              | (go_at_call 84; refine (T1 _ (by first | exact (Below.refl _ _).drew | exact below_drewN (Below.refl _ _) _)).mono ?_; clear T1; rintro e w2 ⟨r1, o1, k1, rfl, hk1, hM1, bel2⟩)
              | (go_at_call 84; refine (T2 _ (below_undrew' (a := 1) bel2)).mono ?_; clear T2; rintro e w3 ⟨r2, o2, k2, rfl, hk2, hM2, bel3⟩)
              | (go_at_call 61; refine (T3 _ r1 o1 k1 r2 o2 k2 hk1 hk2 ((hM1.below bel3 (Nat.le_refl _)).more bel3.size) hM2 ((below_undrew' (a := 1) bel2).trans (bel3.mono (below_undrew' (a := 1) bel2).size))).mono ?_; rintro e w4 hN; obtain ⟨A4, k4, rfl, z1, z2, z3, bel4⟩ := hN))
          have B9 : Below wr.heap.size wr w4 := ((below_undrew' (a := 1) bel2).trans (bel3.mono (below_undrew' (a := 1) bel2).size)).trans (bel4.mono ((below_undrew' (a := 1) bel2).trans (bel3.mono (below_undrew' (a := 1) bel2).size)).size)
          have E : S' = rowS a (SB.take (k + 1)) ((SA.take i).foldl (fun out a => rowS a SB out) []) := by rw [take_snoc HB.out, rowS_snoc, ← HSS.out, HT.out]
          have G4 : Hid (BldS w (rowS a (SB.take (k + 1)) ((SA.take i).foldl (fun out a => rowS a SB out) [])) (.slice A4 S'.length k4) w4) := by
            rw [Hid, ← E]
            exact ⟨A4, k4, rfl, z1, z2, z3, HBEL.out.trans (B9.mono hz1)⟩
          clear E B9 bel2 bel3 bel4 hM1 hM2 z1 z2 z3 T3 hmw KK
          go_wp2
          go_roundw
          case rel => exact ⟨k + 1, by omega, by go_num, G4⟩
          case measure => simp [intOf]; omega
        · obtain rfl : k = nb := by omega
          have G4 : Hid (BldS w ((SA.take (i + 1)).foldl (fun out a => rowS a SB out) []) u5 wr) := by
            rw [Hid, take_snoc HA.out, foldS_snoc]
            have := HBK.out
            rwa [List.take_of_length_le (by rw [HLB.out]; exact Nat.le_refl _)] at this
          clear HBK
          go_wp2
          go_roundw
          case rel => exact ⟨i + 1, by omega, by go_num, G4⟩
          case measure => simp [intOf]; omega
    · obtain rfl : i = na := by omega
      have G4 : Hid (BldS w (timesS SA SB) u5 wr) := by
        have := HBL.out
        rwa [List.take_of_length_le (by rw [HLA.out]; exact Nat.le_refl _)] at this
      clear HBL
      obtain ⟨A9, c9, rfl, h1, h2, h3, h4⟩ := G4.out
      have H3 := Lib.hid h3
      have H4 := Lib.hid h4
      clear h3 h4 G4
      go_wp2
      go_ret
      exact ⟨A9, c9, rfl, h1, h2, H3.out, H4.out⟩
end Go.Proofs.Ytgklilckjpbdnaa
/-
  The model's branches of a tree.
-/
namespace Go.Proofs.Ytgklilckjpbdnaa
open Go.RowKit Fld
set_option linter.unusedVariables false
set_option linter.unusedSimpArgs false
set_option maxRecDepth 100000

theorem l03Branches_any (A : Option Addr) (n c B : Nat) (t : List Int) (w : World) (hl : t.length = n) (hlv : Tr.isLv t = true) (hB : B ≤ w.heap.size) (h : Row w B A (ints t)) :
    Calls Try.prog 60 #[.slice A n c] w (ResRws (Tr.branL t) w) := by
  have HL := Lib.hid hl
  have HLV := Lib.hid hlv
  obtain ⟨hclv, hcl⟩ := lv_can hlv
  have HCL : Hid ((Tr.can t).length = n) := hcl.trans hl
  have HCLV := Lib.hid hclv
  obtain ⟨_, PS, P7⟩ := Tr.can_parts hclv
  have HPS : Hid (∀ p ∈ Tr.partsL (Tr.can t), Tr.isLv p = true) := fun p hp => (PS p hp).1
  have HP7 : Hid ((Tr.partsL (Tr.can t)).length ≤ 8) := by rw [Hid]; omega
  clear hl hlv hclv hcl PS P7
  go_enter Try.func60, Try.ntmps60
  go_wp2_with fail
  refine (l03Canon_any A n c B t w HL.out HLV.out hB h).mono ?_
  rintro e w1 ⟨A1, c1, rfl, own1, bel1⟩
  have hs1 := bel1.size
  have HB1 := Lib.hid bel1
  have HR1 : Hid (Row w1 w1.heap.size A1 (ints (Tr.can t))) := row_of_own own1
  clear own1 bel1
  go_wp2_with fail
  refine (l03Parts_any A1 n c1 w1.heap.size (Tr.can t) w1 HCL.out HCLV.out (Nat.le_refl _) HR1.out).mono ?_
  rintro e w2 ⟨A2, c2, vs2, rfl, own2, bel2⟩
  have hs2 := bel2.size
  have HB2 := Lib.hid (HB1.out.trans (bel2.mono hs1))
  have HM2 : Hid (Mat w2 w2.heap.size A2 (Tr.partsL (Tr.can t))) := own2.mat
  clear own2 bel2
  go_wp2_with fail
  refine (l03Sort_any A2 (Tr.partsL (Tr.can t)).length c2 w2.heap.size (Tr.partsL (Tr.can t)) w2 rfl HP7.out HPS.out (Nat.le_refl _) HM2.out).mono ?_
  rintro e w3 ⟨b, o, cap, rfl, hcap, hrws, bel3⟩
  have G : Hid (ResRws (Tr.branL t) w (.returned (.slice (some ⟨b, o, none⟩) (Tr.sortL (Tr.partsL (Tr.can t))).length cap)) w3) := ⟨b, o, cap, rfl, hcap, hrws, HB2.out.trans (bel3.mono (by omega))⟩
  clear hrws bel3
  go_wp2
  go_ret
  exact G.out
end Go.Proofs.Ytgklilckjpbdnaa
/-
  What RootOn answers, the program's and the model's.
-/
namespace Go.Proofs.Ytgklilckjpbdnaa
open Go.RowKit Fld
set_option linter.unusedVariables false
set_option linter.unusedSimpArgs false
set_option maxRecDepth 100000

def rootA (f : List (List Int)) : List Int × Int := if isFor f = true then (if total f = 8 then ([], 3) else (Tr.can (Tr.up f), 0)) else ([], 1)
theorem rootA_no {f : List (List Int)} (h : isFor f = false) : rootA f = ([], 1) := if_neg (by rw [h]; simp)
theorem rootA_big {f : List (List Int)} (h : isFor f = true) (h8 : total f = 8) : rootA f = ([], 3) := by unfold rootA; rw [if_pos h, if_pos h8]
theorem rootA_yes {f : List (List Int)} (h : isFor f = true) (h8 : ¬ total f = 8) : rootA f = (Tr.can (Tr.up f), 0) := by unfold rootA; rw [if_pos h, if_neg h8]
theorem up_outL (f : List (List Int)) : Tr.up f = outL f.flatten := rfl
set_option maxHeartbeats 2000000 in
theorem l03Root_any (A : Option Addr) (k c B : Nat) (f : List (List Int)) (w : World) (hl : f.length = k) (hlv : ∀ r ∈ f, Tr.isLv r = true) (h7 : total f ≤ 7) (hB : B ≤ w.heap.size) (h : Mat w B A f) :
    Calls Try.prog 62 #[.slice A k c] w (NewRow 2 (total f + 1) (ints (Tr.can (Tr.up f))) w) := by
  obtain ⟨i0, hi, hz0, hz1, hz2⟩ := info_parts info_i64
  have HL := Lib.hid hl
  have HLV := Lib.hid hlv
  have HFT : Hid (f.flatten.length = total f) := flat_total f
  have HUP := Lib.hid (up_lv hlv h7)
  have hk8 : k ≤ 7 := by
    have := len_total (f := f) (fun r hr => (lv_bd (hlv r hr)).1)
    omega
  obtain ⟨s, hs⟩ : ∃ s, s = total f := ⟨_, rfl⟩
  rw [← hs] at HFT h7 ⊢
  clear hl hlv hs
  go_enter Try.func62, Try.ntmps62
  go_wp2_with fail
  go_loopw [3, 4] (fun v i W => ∃ (q g cap j : Nat), q ≤ k ∧ v = .slice (some ⟨g, 0, none⟩) j cap ∧ i = .int .i64 q ∧ Hid (j = (f.take q).flatten.length + 1) ∧ Growing w 2 g j cap (ints (outL (f.take q).flatten)) W) (fun _ i _ => k - (intOf i).toNat)
  case atStart => exact ⟨0, w.heap.size, 1, 1, Nat.zero_le _, rfl, rfl, rfl, World.ownsRow_lit (base := w.heap.size) (size := 1) (e := 2) w #[.int .i64 0] 1 (Nat.le_refl _) (by simp [maxLen]) rfl, (Below.refl _ _).alloc (Nat.le_refl _) _⟩
  case round =>
    obtain ⟨q, g, cp2, j, hq, rfl, rfl, HJ, HG⟩ := hrel
    have hsz := HG.2.size
    by_cases hlt2 : q < k
    · obtain ⟨r, hr⟩ := at_lt (show q < f.length by rw [HL.out]; exact hlt2)
      have hrl := HLV.out r (List.mem_of_getElem? hr)
      have hr8 : r.length ≤ 8 := (Tr.isLv_iff.1 hrl).2.1
      have HRT : Hid ((f.take (q + 1)).flatten = (f.take q).flatten ++ r) := flat_take' hr
      have hfl : (f.take q).flatten.length + r.length ≤ 8 := by
        have h1 := flat_le' f (q + 1)
        rw [HRT.out, List.length_append] at h1
        have := HFT.out; omega
      obtain ⟨F, hF⟩ : ∃ F, F = (f.take q).flatten := ⟨_, rfl⟩
      rw [← hF] at HRT hfl HG HJ
      have HRL := Lib.hid hrl
      have HRR := Lib.hid hr
      have HFL2 := Lib.hid hfl
      have F0 : Hid (Growing w 2 g j cp2 (ints (outL (F ++ r.take 0))) wr) := by
        rw [Hid, List.take_zero, List.append_nil]; exact HG
      have hj8 : j ≤ 9 := by have := HJ.out; omega
      have J0 : Hid (j = F.length + 0 + 1) := HJ
      clear hrl hr hF HG HJ hfl
      go_wp2_with fail
      go_loopw [3, 5] (fun v i W => ∃ (e g cap j : Nat), e ≤ r.length ∧ j ≤ 9 ∧ v = .slice (some ⟨g, 0, none⟩) j cap ∧ i = .int .i64 e ∧ Hid (j = F.length + e + 1) ∧ Growing w 2 g j cap (ints (outL (F ++ r.take e))) W) (fun _ i _ => r.length - (intOf i).toNat)
      case atStart => exact ⟨0, g, cp2, j, Nat.zero_le _, hj8, rfl, rfl, J0, F0.out⟩
      case round =>
        obtain ⟨e, g, cp2, j, he, hj9, rfl, rfl, HJ, HG⟩ := hrel
        have hsz := HG.2.size
        obtain ⟨b, o, Ar, cr, rfl, _, hcr, _, _, hrr⟩ := (h.below HG.2 hB) q r HRR.out
        by_cases hlt3 : e < r.length
        · obtain ⟨x, hx⟩ := at_lt hlt3
          obtain ⟨br, orr, rfl, _, hcx⟩ := hrr e _ (ints_at hx)
          obtain ⟨x0, x8⟩ := lv_el HRL.out hx
          have HXE : Hid (r.take (e + 1) = r.take e ++ [x]) := by rw [Hid, List.take_add_one, hx]; rfl
          have HG' := Lib.hid HG
          have hown := HG.1
          clear hx HG hrr
          go_wp2_with (at_builtin; refine wpList_append_lies _ rfl (.tmp 22) (.tmp 31) 22 rfl w.heap.size 2 i0 _ 1 8 Try.underlying22 hi hz0 hz1 hz2 rfl (by omega) (.slice (some ⟨g, 0, none⟩) j cp2) j (ints (outL (F ++ r.take e))) rfl (hown.alloc _) ⟨wr.heap.size, 0, none⟩ 1 1 [.int .i64 (x + 1)] rfl rfl (World.news_of_block (cs := #[.int .i64 (x + 1)]) (heap_alloc_new _ _)) (by simp [Value.oneCell']) (by omega) (by simp only [maxLen]; omega) (by omega) (by simp; omega) (wr.heap.size + 1) (by simp) ?_; intro g4 cap4 w4 hown4 hgrow4 hat4 hlt4)
          rw [outL_push, List.append_assoc, ← HXE.out] at hown4
          have G := Lib.hid (HG'.out.step ((Below.refl _ _).alloc (Nat.le_refl _) _) hown4 hgrow4)
          clear hown4 hgrow4 hat4 hown
          go_wp2
          go_roundw
          case rel => exact ⟨e + 1, g4, cap4, j + 1, by omega, by have := HJ.out; have := HFL2.out; omega, rfl, by go_num, by have := HJ.out; rw [Hid]; omega, G.out⟩
          case measure => simp [intOf]; omega
        · obtain rfl : e = r.length := by omega
          have G : Hid (Growing w 2 g j cp2 (ints (outL (f.take (q + 1)).flatten)) wr) := by
            rw [Hid, HRT.out]
            rw [List.take_length] at HG
            exact HG
          have GJ : Hid (j = (f.take (q + 1)).flatten.length + 1) := by
            have := HJ.out
            rw [Hid, HRT.out, List.length_append]; omega
          clear HG hrr HJ
          go_wp2
          go_roundw
          case rel => exact ⟨q + 1, g, cp2, j, by omega, rfl, by go_num, GJ, G.out⟩
          case measure => simp [intOf]; omega
    · obtain rfl : q = k := by omega
      rw [List.take_of_length_le (by rw [HL.out]; exact Nat.le_refl _), ← up_outL] at HG
      have e : j = s + 1 := by
        have h1 := HJ.out
        rw [List.take_of_length_le (by rw [HL.out]; exact Nat.le_refl _)] at h1
        have := HFT.out; omega
      subst e
      have HUL : Hid ((Tr.up f).length = s + 1) := by rw [Hid, up_outL, outL_length, HFT.out]
      have HROW : Hid (Row wr wr.heap.size (some ⟨g, 0, none⟩) (ints (Tr.up f))) := row_of_own (HG.1)
      have HB1 := Lib.hid HG.2
      clear HG HJ
      go_wp2_with fail
      refine (l03Canon_any _ (s + 1) cp2 wr.heap.size (Tr.up f) wr HUL.out HUP.out (Nat.le_refl _) HROW.out).mono ?_
      rintro e w2 ⟨A2, c2, rfl, own2, bel2⟩
      have G : Hid (NewRow 2 (s + 1) (ints (Tr.can (Tr.up f))) w (.returned (.slice A2 (s + 1) c2)) w2) := ⟨_, _, rfl, ((OwnR.of own2).more hsz (Nat.le_refl _)).1, HB1.out.trans (bel2.mono hsz)⟩
      clear own2 bel2
      go_wp2
      go_ret
      exact G.out
end Go.Proofs.Ytgklilckjpbdnaa
/-
  The model's cuts of forests and trees.
-/
namespace Go.Proofs.Ytgklilckjpbdnaa
open Go.RowKit Fld
set_option linter.unusedVariables false
set_option linter.unusedSimpArgs false
set_option maxRecDepth 100000

theorem pow_pos2 (n : Nat) : (1 : Int) ≤ 2 ^ n := by
  induction n with
  | zero => simp
  | succ n ih => rw [Int.pow_succ]; omega
theorem foldC_le (f : List Int → Int) : ∀ (ts : List (List Int)) (x : Int), 0 ≤ x → (∀ b ∈ ts, 0 ≤ f b ∧ f b ≤ 2 ^ b.length) → 0 ≤ ts.foldl (fun a b => a * f b) x ∧ ts.foldl (fun a b => a * f b) x ≤ x * 2 ^ total ts
  | [], x, h0, _ => by simp [total, h0]
  | b :: r, x, h0, h => by
    rw [List.foldl_cons, total_cons, Int.pow_add]
    have hb := h b (by simp)
    have g1 := Int.mul_nonneg h0 hb.1
    have ih := foldC_le f r (x * f b) g1 (fun b hb => h b (by simp [hb]))
    refine ⟨ih.1, Int.le_trans ih.2 ?_⟩
    have g2 := Int.mul_le_mul_of_nonneg_left hb.2 h0
    have g3 := Int.mul_le_mul_of_nonneg_right g2 (show (0 : Int) ≤ 2 ^ total r by have := pow_pos2 (total r); omega)
    exact Int.le_trans g3 (by rw [Int.mul_assoc]; exact Int.le_refl _)
theorem cntS_le : ∀ (k : Nat) (t : List Int), Tr.isLv t = true → 0 ≤ cntS k t ∧ cntS k t ≤ 2 ^ t.length
  | 0, t, _ => ⟨Int.le_refl _, by have := pow_pos2 t.length; show (0 : Int) ≤ _; omega⟩
  | k+1, t, h => by
    obtain ⟨hb, ht, _⟩ := branL_parts h
    have := foldC_le (cntS k) (Tr.branL t) 1 (by omega) (fun b h => cntS_le k b (hb b h).1)
    rw [cntS, ← ht, Int.pow_succ]
    have g := pow_pos2 (total (Tr.branL t))
    omega
theorem foldT_sum (k : Nat) : ∀ (ts : List (List Int)) (acc : List Spl), sumC (ts.foldl (fun acc b => timesS acc (spF k b)) acc) = ts.foldl (fun a b => a * cntS k b) (sumC acc)
  | [], acc => by rw [List.foldl_nil, List.foldl_nil]
  | a :: r, acc => by rw [List.foldl_cons, List.foldl_cons, foldT_sum k r, timesS_sum, spF_sum k a]
/-- the cuts of a forest -/
def spFs (k : Nat) (f : List (List Int)) : List Spl := f.foldl (fun acc b => timesS acc (spF k b)) [([], [], 1)]
theorem spFs_snoc (k : Nat) (f : List (List Int)) (t : List Int) : spFs k (f ++ [t]) = timesS (spFs k f) (spF k t) := by unfold spFs; rw [List.foldl_append, List.foldl_cons, List.foldl_nil]
theorem pow7 {n : Nat} (h : n ≤ 7) : (2 : Int) ^ n ≤ 128 := by
  have : n = 0 ∨ n = 1 ∨ n = 2 ∨ n = 3 ∨ n = 4 ∨ n = 5 ∨ n = 6 ∨ n = 7 := by omega
  rcases this with rfl | rfl | rfl | rfl | rfl | rfl | rfl | rfl <;> decide
theorem spFs_sum {k : Nat} {f : List (List Int)} (h : ∀ r ∈ f, Tr.isLv r = true) (h7 : total f ≤ 7) : sumC (spFs k f) ≤ 128 := by
  unfold spFs
  rw [foldT_sum, show sumC [(([] : List (List Int)), ([] : List (List Int)), (1 : Int))] = 1 from rfl]
  have := (foldC_le (cntS k) f 1 (by omega) (fun b hb => cntS_le k b (h b hb))).2
  have := pow7 h7
  omega
theorem spFs_ok {k : Nat} {f : List (List Int)} (h : ∀ r ∈ f, Tr.isLv r = true ∧ r.length ≤ k) : ∀ s ∈ spFs k f, OkSp (total f) s := by
  have := fold_okS (spF k) f [([], [], 1)] 0 (fun b hb s hs => spF_ok k b (h b hb).1 (h b hb).2 s hs) one_okS
  rw [Nat.zero_add] at this
  exact this
theorem total_take_le (f : List (List Int)) (k : Nat) : total (f.take k) ≤ total f := by
  have e : total f = total (f.take k) + total (f.drop k) := by rw [← total_app, List.take_append_drop]
  omega
theorem BldS.one (W : World) : BldS W [([], [], 1)] (.slice (some ⟨W.heap.size, 0, none⟩) 1 1) (W.alloc (.cells #[.slice none 0 0, .slice none 0 0, .int .i64 1] 61)) := by
  refine ⟨_, 1, rfl, Nat.le_refl _, by simp [maxLen], fun k s hs => ?_, (Below.refl _ _).alloc (Nat.le_refl _) _⟩
  obtain rfl : k = 0 := by
    have := (List.getElem?_eq_some_iff.1 hs).1
    simp at this; omega
  simp only [List.getElem?_cons_zero, Option.some.injEq] at hs
  subst hs
  refine ⟨W.heap.size, 0, ⟨none, 0, none, 0⟩, rfl, by simp, fun j v hv => ?_, Nat.le_refl _, (fun _ => rfl), (fun k r hr => by simp at hr), Nat.le_refl _, (fun _ => rfl), (fun k r hr => by simp at hr)⟩
  rw [cell_of_row _ _ _ _ _ _ (heap_alloc_new W _)]
  have : j = 0 ∨ j = 1 ∨ j = 2 := by have := (List.getElem?_eq_some_iff.1 hv).1; simp [spC] at this; omega
  rcases this with rfl | rfl | rfl <;> exact hv
set_option maxHeartbeats 4000000 in
theorem l05Forest_upto (K : Nat) (IH : ∀ (ad : Addr) (n c B : Nat) (t : List Int) (w : World), t.length = n → Tr.isLv t = true → n ≤ K → B ≤ w.heap.size → Row w B (some ad) (ints t) → Calls Try.prog 38 #[.slice (some ad) n c] w (ResSp (spF K t) w)) (A : Option Addr) (n c B : Nat) (f : List (List Int)) (w : World) (hl : f.length = n) (hn : n ≤ 8) (hf : ∀ r ∈ f, Tr.isLv r = true ∧ r.length ≤ K) (h7 : total f ≤ 7) (hB : B ≤ w.heap.size) (h : Mat w B A f) :
    Calls Try.prog 59 #[.slice A n c] w (ResSp (spFs K f) w) := by
  have HL := Lib.hid hl
  have HF := Lib.hid hf
  have HIH := Lib.hid IH
  have HM := Lib.hid h
  clear hl hf IH h
  go_enter Try.func59, Try.ntmps59
  go_wp2_with fail
  go_loopw [3, 4] (fun v i wr => ∃ (k : Nat), k ≤ n ∧ i = .int .i64 k ∧ Hid (BldS w (spFs K (f.take k)) v wr)) (fun _ i _ => n - (intOf i).toNat)
  case atStart => exact ⟨0, by omega, rfl, BldS.one w⟩
  case round =>
    obtain ⟨k, hk, rfl, HBK⟩ := hrel
    by_cases hlt : k < n
    · obtain ⟨r, hr⟩ := at_lt (show k < f.length by rw [HL.out]; exact hlt)
      obtain ⟨Ao, co, rfl, hco, hcm, hSp, hBel⟩ := HBK.out
      have hz1 := hBel.size
      obtain ⟨b, o, Ak, ck, rfl, hb, hc, hrc, hcm2, hrow⟩ := (HM.out.below hBel hB) k r hr
      have hrm := List.mem_of_getElem? hr
      have hrf := HF.out r hrm
      have hr1 := (lv_bd hrf.1).1
      obtain ⟨x0, hx0⟩ := at_lt (show 0 < r.length by omega)
      obtain ⟨br, orr, rfl, _, _⟩ := hrow 0 _ (ints_at hx0)
      have hts := take_snoc hr
      have htt := total_take_le f (k + 1)
      have hlt' : ∀ r ∈ f.take (k + 1), Tr.isLv r = true := fun r hr => (HF.out r (List.mem_of_mem_take hr)).1
      have hle : sumC (spFs K (f.take k)) * sumC (spF K r) ≤ 128 := by
        have := spFs_sum (k := K) hlt' (by omega)
        rw [hts, spFs_snoc, timesS_sum] at this
        exact this
      have hO1 := spFs_ok (k := K) (f := f.take k) (fun r hr => HF.out r (List.mem_of_mem_take hr))
      have hO2 := spF_ok K r hrf.1 hrf.2
      have hlen1 := len_sumC hO1
      have hlen2 := len_sumC hO2
      have hs1 := spFs_sum (k := K) (f := f.take k) (fun r hr => (HF.out r (List.mem_of_mem_take hr)).1) (by have := total_take_le f k; omega)
      have hs2 : sumC (spF K r) ≤ 1000 := by
        rw [spF_sum]
        have h1 := (cntS_le K r hrf.1).2
        have h2 := (lv_bd hrf.1).2
        have h3 : total f ≥ r.length := row_le_total r hrm
        have := pow7 (n := r.length) (by omega)
        omega
      have htot : total (f.take k) + r.length ≤ 8 := by
        rw [hts, total_app, total_cons] at htt
        omega
      obtain ⟨S, hS⟩ : ∃ S, S = spFs K (f.take k) := ⟨_, rfl⟩
      obtain ⟨T, hT⟩ : ∃ S, S = spF K r := ⟨_, rfl⟩
      have C1 := fun W (hW : Below wr.heap.size wr W) => HIH.out ⟨br, orr, none⟩ r.length ck B r W rfl hrf.1 hrf.2 (by have := hW.size; omega) (hrow.below hW (by omega))
      rw [← hT] at C1
      rw [← hS, ← hT] at hle
      rw [← hS] at hO1 hlen1 hs1 hSp hco ⊢
      rw [← hT] at hO2 hlen2 hs2
      have C2 := fun (A9 : Option Addr) (c9 : Nat) (W : World) (hW : Below wr.heap.size wr W) (hT9 : Spls W W.heap.size A9 T) => l05Times_any Ao A9 S.length co T.length c9 S T W rfl rfl (by omega) (by omega) hO1 hO2 htot (by omega) ((hSp.below hW (Nat.le_refl _)).more hW.size) hT9
      obtain ⟨q, hq⟩ : ∃ q, q = S.length := ⟨_, rfl⟩
      obtain ⟨q2, hq2⟩ : ∃ q, q = T.length := ⟨_, rfl⟩
      have C1' : Hid (∀ W, Below wr.heap.size wr W → Calls Try.prog 38 #[.slice (some ⟨br, orr, none⟩) r.length ck] W fun e w' => ∃ A c, e = .returned (.slice A q2 c) ∧ Spls w' w'.heap.size A T ∧ Below W.heap.size W w') := fun W hW => by
        rw [hq2]
        refine (C1 W hW).mono ?_
        rintro e w' ⟨A9, c9, e1, _, _, e4, e5⟩
        exact ⟨A9, c9, e1, e4, e5⟩
      rw [← hq, ← hq2] at C2
      rw [← hq]
      have E : Hid (spFs K (f.take (k + 1)) = timesS S T) := by rw [Hid, hts, spFs_snoc, hS, hT]
      have HBEL := Lib.hid hBel
      have HC2 := Lib.hid C2
      clear C2 C1 hq hq2 hS hT hO1 hO2 hlen1 hlen2 hs1 hs2 hle htot hlt' htt hts hrm hrf hx0 hr hrow hSp hBel HBK
      go_wp2_with fail
      refine (C1'.out _ (Below.refl _ _)).mono ?_
      rintro e w2 ⟨A9, c9, rfl, e4, e5⟩
      go_wp2_with fail
      refine (HC2.out A9 c9 w2 e5 e4).mono ?_
      rintro e w3 ⟨A8, c8, rfl, d1, d2, d3, d4⟩
      have G4 : Hid (BldS w (spFs K (f.take (k + 1))) (.slice A8 (timesS S T).length c8) w3) := by
        rw [Hid, E.out]
        exact ⟨A8, c8, rfl, d1, d2, d3, HBEL.out.trans ((e5.trans (d4.mono e5.size)).mono hz1)⟩
      clear e4 e5 d1 d2 d3 d4
      go_wp2
      go_roundw
      case rel => exact ⟨k + 1, by omega, by go_num, G4⟩
      case measure => simp [intOf]; omega
    · obtain rfl : k = n := by omega
      have G4 : Hid (BldS w (spFs K f) u3 wr) := by
        have := HBK.out
        rw [List.take_of_length_le (by rw [HL.out]; exact Nat.le_refl _)] at this
        exact this
      clear HBK
      obtain ⟨A9, c9, rfl, h1, h2, h3, h4⟩ := G4.out
      have H3 := Lib.hid h3
      have H4 := Lib.hid h4
      clear h3 h4 G4
      go_wp2
      go_ret
      exact ⟨A9, c9, rfl, h1, h2, H3.out, H4.out⟩
theorem mat_one {w : World} {B g c : Nat} {A : Option Addr} {r : List Int} (hc : w.cell? ⟨g, 0, none⟩ = some (.slice A r.length c)) (hg : g < B) (h1 : r.length ≤ c) (h2 : c ≤ maxLen) (hr : Row w B A (ints r)) : Mat w B (some ⟨g, 0, none⟩) [r] := fun k t ht => by
  obtain rfl : k = 0 := by
    have := (List.getElem?_eq_some_iff.1 ht).1
    simp at this; omega
  simp only [List.getElem?_cons_zero, Option.some.injEq] at ht
  subst ht
  exact ⟨g, 0, A, c, rfl, hg, hc, h1, h2, hr⟩
theorem BldS.self {W wr : World} {t : List Int} {A : Option Addr} {c : Nat} (hb : Below W.heap.size W wr) (h1 : t.length ≤ c) (h2 : c ≤ maxLen) (hr : Row wr wr.heap.size A (ints t)) : BldS W [([t], [], 1)] (.slice (some ⟨wr.heap.size + 1, 0, none⟩) 1 1) ((wr.alloc (.cells #[.slice A t.length c] 22)).alloc (.cells #[.slice (some ⟨wr.heap.size, 0, none⟩) 1 1, .slice none 0 0, .int .i64 1] 61)) := by
  have b1 : Below wr.heap.size wr ((wr.alloc (.cells #[.slice A t.length c] 22)).alloc (.cells #[.slice (some ⟨wr.heap.size, 0, none⟩) 1 1, .slice none 0 0, .int .i64 1] 61)) := ((Below.refl _ _).alloc (Nat.le_refl _) _).alloc (by simp) _
  refine ⟨_, 1, rfl, Nat.le_refl _, by simp [maxLen], fun k s hs => ?_, hb.trans (b1.mono hb.size)⟩
  obtain rfl : k = 0 := by
    have := (List.getElem?_eq_some_iff.1 hs).1
    simp at this; omega
  simp only [List.getElem?_cons_zero, Option.some.injEq] at hs
  subst hs
  refine ⟨wr.heap.size + 1, 0, ⟨some ⟨wr.heap.size, 0, none⟩, 1, none, 0⟩, rfl, by simp, fun j v hv => ?_, Nat.le_refl _, (fun h => by cases h), mat_one ?_ (by simp; omega) h1 h2 ((hr.below b1 (Nat.le_refl _)).more (by simp; omega)), Nat.le_refl _, (fun _ => rfl), (fun k r hr => by simp at hr)⟩
  · rw [cell_of_row _ _ _ _ _ _ (heap_alloc2_new wr _ _)]
    have : j = 0 ∨ j = 1 ∨ j = 2 := by have := (List.getElem?_eq_some_iff.1 hv).1; simp [spC] at this; omega
    rcases this with rfl | rfl | rfl <;> exact hv
  · rw [cell_of_row _ _ _ _ _ _ (heap_alloc2_old wr _ _)]; rfl
theorem rootF_snoc (L out : List Spl) (b : Spl) : (L ++ [b]).foldl (fun out b => putSp out (rootSp b)) out = putSp (L.foldl (fun out b => putSp out (rootSp b)) out) (rootSp b) := by rw [List.foldl_append, List.foldl_cons, List.foldl_nil]
set_option maxHeartbeats 8000000 in
theorem l05Tree_step (K : Nat) (IH : ∀ (ad : Addr) (n c B : Nat) (t : List Int) (w : World), t.length = n → Tr.isLv t = true → n ≤ K → B ≤ w.heap.size → Row w B (some ad) (ints t) → Calls Try.prog 38 #[.slice (some ad) n c] w (ResSp (spF K t) w)) (ad : Addr) (n c B : Nat) (t : List Int) (w : World) (hl : t.length = n) (hlv : Tr.isLv t = true) (hn : n ≤ K + 1) (hB : B ≤ w.heap.size) (h : Row w B (some ad) (ints t)) :
    Calls Try.prog 38 #[.slice (some ad) n c] w (ResSp (spF (K + 1) t) w) := by
  obtain ⟨hbr, htt, hbl⟩ := branL_parts hlv
  have h8 := (lv_bd hlv).2
  have hn8 : n ≤ 8 := by omega
  have HL := Lib.hid hl
  have C1 := l03Branches_any (some ad) n c B t w hl hlv hB h
  have HR := Lib.hid h
  have HLV := Lib.hid hlv
  have HFO : Hid (∀ (b o cap : Nat) (W : World), Rws W (some ⟨b, o, none⟩) (Tr.branL t) → Calls Try.prog 59 #[.slice (some ⟨b, o, none⟩) (Tr.branL t).length cap] W (ResSp (spFs K (Tr.branL t)) W)) := fun b o cap W hR =>
    l05Forest_upto K IH (some ⟨b, o, none⟩) (Tr.branL t).length cap W.heap.size (Tr.branL t) W rfl (by omega) (fun r hr => ⟨(hbr r hr).1, by have := (hbr r hr).2.2; omega⟩) (by omega) (Nat.le_refl _) hR.mat
  obtain ⟨M, hM⟩ : ∃ m, m = total (Tr.branL t) := ⟨_, rfl⟩
  have hM7 : M ≤ 7 := by omega
  have HOK : Hid (∀ s ∈ spFs K (Tr.branL t), OkSp M s) := by
    rw [hM]
    exact spFs_ok (fun r hr => ⟨(hbr r hr).1, by have := (hbr r hr).2.2; omega⟩)
  have HSL : Hid (∀ s ∈ ([([t], [], 1)] : List Spl), OkSp (M + 1) s) := by rw [hM, htt]; exact self_okS hlv
  have HSU : Hid (sumC (spFs K (Tr.branL t)) ≤ 128) := spFs_sum (fun r hr => (hbr r hr).1) (by omega)
  have HE : Hid (spF (K + 1) t = (spFs K (Tr.branL t)).foldl (fun out b => putSp out (rootSp b)) [([t], [], 1)]) := spF_succ K t
  obtain ⟨S0, hS0⟩ : ∃ s, s = spFs K (Tr.branL t) := ⟨_, rfl⟩
  obtain ⟨L, hL⟩ : ∃ s, s = Tr.branL t := ⟨_, rfl⟩
  rw [← hS0] at HOK HSU HE
  have HFO' : Hid (∀ (b o cap : Nat) (W : World), Rws W (some ⟨b, o, none⟩) L → Calls Try.prog 59 #[.slice (some ⟨b, o, none⟩) L.length cap] W (ResSp S0 W)) := by rw [hL, hS0]; exact HFO
  rw [← hL] at C1
  clear hL hS0 HFO hM htt hbl hbr h8 hl h hlv IH
  go_enter Try.func38, Try.ntmps38
  go_wp2_with fail
  refine C1.mono ?_
  rintro e w1 ⟨b1, o1, cap1, rfl, _, hR1, bel1⟩
  clear C1
  go_wp2_with fail
  refine (HFO'.out b1 o1 cap1 w1 hR1).mono ?_
  rintro e w2 ⟨A2, c2, rfl, d1, d2, hSp, bel2⟩
  have B2 : Below w.heap.size w w2 := bel1.trans (bel2.mono bel1.size)
  have hz2 := B2.size
  clear hR1 bel1 bel2 HFO'
  go_wp2_with fail
  refine (l01Own_any ad n c B t w2 HL.out (by omega) (by omega) (HR.out.below B2 (by omega))).mono ?_
  rintro e w3 ⟨A3, c3, rfl, own3, bel3⟩
  have hz3 := bel3.size
  have B3 : Below w.heap.size w w3 := B2.trans (bel3.mono hz2)
  have G0 : Hid (BldS w [([t], [], 1)] (.slice (some ⟨w3.heap.size + 1, 0, none⟩) 1 1) ((w3.alloc (.cells #[.slice A3 n c3] 22)).alloc (.cells #[.slice (some ⟨w3.heap.size, 0, none⟩) 1 1, .slice none 0 0, .int .i64 1] 61))) := by
    have hq := own_cap own3
    have hrr := row_of_own own3
    rw [← HL.out] at hq ⊢
    exact BldS.self B3 hq.1 hq.2 hrr
  obtain ⟨W4, hW4⟩ : ∃ W4, W4 = (w3.alloc (.cells #[.slice A3 n c3] 22)).alloc (.cells #[.slice (some ⟨w3.heap.size, 0, none⟩) 1 1, .slice none 0 0, .int .i64 1] 61) := ⟨_, rfl⟩
  have B4 : Hid (Below w2.heap.size w2 W4) := by rw [hW4]; exact (bel3.alloc hz3 _).alloc (by simp; omega) _
  rw [← hW4] at G0
  have HSP := Lib.hid hSp
  have HB2 := Lib.hid B2
  have HW4 := Lib.hid hW4
  clear own3 bel3 B3 hSp B2 hW4 HR
  obtain ⟨q0, hq0⟩ : ∃ q, q = S0.length := ⟨_, rfl⟩
  have hq128 : q0 ≤ 128 := by have h1 := len_sumC HOK.out; have h2 := HSU.out; omega
  have HQ0 := Lib.hid hq0
  rw [← hq0]
  clear hq0
  go_wp2_with fail
  rw [← HW4.out]
  clear HW4
  go_loopw [4, 5] (fun v i wr => ∃ (k : Nat), k ≤ q0 ∧ i = .int .i64 k ∧ Hid (BldS w ((S0.take k).foldl (fun out b => putSp out (rootSp b)) [([t], [], 1)]) v wr) ∧ Hid (Below w2.heap.size w2 wr)) (fun _ i _ => q0 - (intOf i).toNat)
  case atStart => exact ⟨0, by omega, rfl, G0, B4⟩
  case round =>
    obtain ⟨k, hk, rfl, HBK, HBE⟩ := hrel
    by_cases hlt : k < q0
    · obtain ⟨a, ha⟩ := at_lt (show k < S0.length by rw [← HQ0.out]; exact hlt)
      obtain ⟨ba, oa, ⟨A1, c1, A1', c1'⟩, rfl, hba, hra, hia⟩ := HSP.out k a ha
      have HRA := Lib.hid hra
      have HIA := Lib.hid hia
      have hts := take_snoc ha
      have hOa := HOK.out a (List.mem_of_getElem? ha)
      have hsu : sumC (S0.take (k + 1)) ≤ 128 := by have := sumC_take HOK.out (k + 1); have := HSU.out; omega
      rw [hts, sumC_app, show sumC [a] = a.2.2 by simp [sumC]] at hsu
      obtain ⟨S, hS⟩ : ∃ S, S = (S0.take k).foldl (fun out b => putSp out (rootSp b)) [([t], [], 1)] := ⟨_, rfl⟩
      have HOS : Hid (∀ s ∈ S, OkSp (M + 1) s) := by rw [hS]; exact rootFold_ok hM7 (fun s hs => HOK.out s (List.mem_of_mem_take hs)) HSL.out
      have hss : sumC S = 1 + sumC (S0.take k) := by rw [hS, rootFold_sum]; rfl
      have hns := len_sumC HOS.out
      have hOm := root_ok hOa hM7
      have hm1 : 1 ≤ a.2.2 := hOa.2.2.2
      have HTS : Hid ((S0.take (k + 1)).foldl (fun out b => putSp out (rootSp b)) [([t], [], 1)] = putSp S (rootSp a)) := by rw [Hid, hts, rootF_snoc, hS]
      rw [← hS] at HBK
      obtain ⟨Ao, co, rfl, hco, hcm, hSo, hBel⟩ := HBK.out
      have hz1 := hBel.size
      have hzz := HBE.out.size
      obtain ⟨q, hq⟩ : ∃ q, q = S.length := ⟨_, rfl⟩
      obtain ⟨R, hR⟩ : ∃ r, r = Tr.can (Tr.up a.2.1) := ⟨_, rfl⟩
      obtain ⟨qr, hqr⟩ : ∃ r, r = total a.2.1 + 1 := ⟨_, rfl⟩
      have hlr : R.length = qr := by
        rw [hR, hqr, (lv_can (up_lv hOa.2.1 (by have := hOa.2.2.1; omega))).2]
        unfold Tr.up; rw [List.length_cons, List.length_map, flat_total]
      obtain ⟨S', hS'⟩ : ∃ z, z = putSp S (rootSp a) := ⟨_, rfl⟩
      have T1 : ∀ W, Below wr.heap.size wr W → Calls Try.prog 62 #[.slice A1' a.2.1.length c1'] W fun e w' => ∃ A c, e = .returned (.slice A qr c) ∧ qr ≤ c ∧ c ≤ maxLen ∧ Row w' w'.heap.size A (ints R) ∧ Below W.heap.size W w' := by
        intro W hW
        rw [hqr, hR]
        have hB1 := HBE.out.trans (hW.mono hzz)
        refine (l03Root_any A1' a.2.1.length c1' w2.heap.size a.2.1 W rfl hOa.2.1 (by have := hOa.2.2.1; omega) hB1.size (HIA.out.2.2.2.2.2.below hB1 (Nat.le_refl _))).mono ?_
        rintro e w' ⟨A5, c5, rfl, own5, bel5⟩
        exact ⟨A5, c5, rfl, (own_cap own5).1, (own_cap own5).2, row_of_own own5, bel5⟩
      have T3 : ∀ (W : World) (A5 : Option Addr) (c5 : Nat), qr ≤ c5 → c5 ≤ maxLen → Row W W.heap.size A5 (ints R) → Below wr.heap.size wr W → Calls Try.prog 61 #[.slice Ao q co, .agg #[.slice A1 a.1.length c1, .slice (some ⟨W.heap.size, 0, none⟩) 1 1, .int .i64 a.2.2]] (W.alloc (.cells #[.slice A5 qr c5] 22)) fun e w' => ∃ A c, e = .returned (.slice A S'.length c) ∧ S'.length ≤ c ∧ c ≤ maxLen ∧ Spls w' w'.heap.size A S' ∧ Below W.heap.size W w' := by
        intro W A5 c5 e1 e2 e3 e4
        have b1 : Below W.heap.size W (W.alloc (.cells #[.slice A5 qr c5] 22)) := (Below.refl _ _).alloc (Nat.le_refl _) _
        have b2 : Below wr.heap.size wr (W.alloc (.cells #[.slice A5 qr c5] 22)) := e4.trans (b1.mono e4.size)
        have hB1 := HBE.out.trans (b2.mono hzz)
        have hm : Mat (W.alloc (.cells #[.slice A5 qr c5] 22)) (W.alloc (.cells #[.slice A5 qr c5] 22)).heap.size (some ⟨W.heap.size, 0, none⟩) [R] := by
          refine mat_one (A := A5) (c := c5) ?_ (by simp) (by omega) e2 ((e3.below b1 (Nat.le_refl _)).more b1.size)
          rw [hlr, cell_of_row _ _ _ _ _ _ (heap_alloc_new W _)]; rfl
        rw [hq, hS']
        refine (l05Put_any Ao S.length co S (rootSp a) ⟨A1, c1, some ⟨W.heap.size, 0, none⟩, 1⟩ _ rfl (by omega) HOS.out (by show sumC S + a.2.2 ≤ _; omega) hOm (by omega) ((hSo.below b2 (Nat.le_refl _)).more b2.size) ⟨HIA.out.1, HIA.out.2.1, (HIA.out.2.2.1.below hB1 (Nat.le_refl _)).more hB1.size, Nat.le_refl _, (fun h => by cases h), by rw [hR] at hm; exact hm⟩).mono ?_
        rintro e w' ⟨A9, c9, rfl, f1, f2, f3, f4⟩
        exact ⟨A9, c9, rfl, f1, f2, f3, b1.trans (f4.mono b1.size)⟩
      obtain ⟨l1, hl1⟩ : ∃ q, q = a.1.length := ⟨_, rfl⟩
      obtain ⟨l2, hl2⟩ : ∃ q, q = a.2.1.length := ⟨_, rfl⟩
      obtain ⟨x, hx⟩ : ∃ q, q = a.2.2 := ⟨_, rfl⟩
      have KK : Hid (∀ V, Below wr.heap.size wr V → V.cell? ⟨ba, oa + k * 3, none⟩ = some (.slice A1 l1 c1) ∧ V.cell? ⟨ba, oa + k * 3 + 1, none⟩ = some (.slice A1' l2 c1') ∧ V.cell? ⟨ba, oa + k * 3 + 2, none⟩ = some (.int .i64 x)) := fun V hV => by
        have hB1 := HBE.out.trans (hV.mono hzz)
        have r1 := range_below HRA.out hB1 hba
        rw [hl1, hl2, hx]
        exact ⟨r1 0 _ rfl, r1 1 _ rfl, r1 2 _ rfl⟩
      rw [← hl2] at T1
      rw [← hl1, ← hx] at T3
      rw [← hq]
      have HBEL := Lib.hid hBel
      have HT := Lib.hid hS'
      clear hl1 hl2 hx hR hq hqr hS' hm1 hOm hOa hns hss hS hSo hBel HBK hsu hts hra hia ha hlr
      go_wp2_with fail
      go_region_held3 (fun V => V.cell? ⟨ba, oa + k * 3, none⟩ = some (.slice A1 l1 c1) ∧ V.cell? ⟨ba, oa + k * 3 + 1, none⟩ = some (.slice A1' l2 c1') ∧ V.cell? ⟨ba, oa + k * 3 + 2, none⟩ = some (.int .i64 x))
        (first | exact KK.out _ (Below.refl _ _).drew | exact KK.out _ (below_drewN (Below.refl _ _) _) | exact KK.out _ (below_undrew' (a := 1) bel5) | exact KK.out _ ((below_undrew' (a := 1) bel5).alloc (below_undrew' (a := 1) bel5).size _) | exact KK.out _ ((below_undrew' (a := 1) bel5).trans (bel6.mono (below_undrew' (a := 1) bel5).size)))
        (first
          | (go_at_call 62; refine (T1 _ (by first | exact (Below.refl _ _).drew | exact below_drewN (Below.refl _ _) _)).mono ?_; clear T1; rintro e w5 ⟨A5, c5, rfl, hk5, hm5, hR5, bel5⟩)
          | (go_at_call 61; refine (T3 w5 A5 c5 hk5 hm5 hR5 (below_undrew' (a := 1) bel5)).mono ?_; rintro e w6 ⟨A6, c6, rfl, z1, z2, z3, bel6⟩))
      have B9 : Below wr.heap.size wr w6 := (below_undrew' (a := 1) bel5).trans (bel6.mono (below_undrew' (a := 1) bel5).size)
      have G4 : Hid (BldS w ((S0.take (k + 1)).foldl (fun out b => putSp out (rootSp b)) [([t], [], 1)]) (.slice A6 S'.length c6) w6) := by
        rw [Hid, HTS.out, ← HT.out]
        exact ⟨A6, c6, rfl, z1, z2, z3, HBEL.out.trans (B9.mono hz1)⟩
      have G5 : Hid (Below w2.heap.size w2 w6) := HBE.out.trans (B9.mono hzz)
      clear B9 bel5 bel6 hR5 z1 z2 z3 T3 KK HTS
      go_wp2
      go_roundw
      case rel => exact ⟨k + 1, by omega, by go_num, G4, G5⟩
      case measure => simp [intOf]; omega
    · obtain rfl : k = q0 := by omega
      have G4 : Hid (BldS w (spF (K + 1) t) u4 wr) := by
        rw [Hid, HE.out]
        have := HBK.out
        rwa [List.take_of_length_le (by rw [← HQ0.out]; exact Nat.le_refl _)] at this
      clear HBK
      obtain ⟨A9, c9, rfl, h1, h2, h3, h4⟩ := G4.out
      have H3 := Lib.hid h3
      have H4 := Lib.hid h4
      clear h3 h4 G4 HE
      go_wp2
      go_ret
      exact ⟨A9, c9, rfl, h1, h2, H3.out, H4.out⟩
theorem l05Tree_any : ∀ (K : Nat) (ad : Addr) (n c B : Nat) (t : List Int) (w : World), t.length = n → Tr.isLv t = true → n ≤ K → B ≤ w.heap.size → Row w B (some ad) (ints t) → Calls Try.prog 38 #[.slice (some ad) n c] w (ResSp (spF K t) w)
  | 0, ad, n, c, B, t, w, hl, hlv, hn, hB, h => by have := (lv_bd hlv).1; omega
  | K + 1, ad, n, c, B, t, w, hl, hlv, hn, hB, h => l05Tree_step K (l05Tree_any K) ad n c B t w hl hlv hn hB h
end Go.Proofs.Ytgklilckjpbdnaa
/-
  The model's cuts, handed out: their counts.
-/
namespace Go.Proofs.Ytgklilckjpbdnaa
open Go.RowKit Fld
set_option linter.unusedVariables false
set_option linter.unusedSimpArgs false
set_option maxRecDepth 100000

theorem info_cut : (Try.prog.info? 37).map (fun i => (i.zero, i.size, i.bytes)) = some (some (.agg #[.slice none 0 0, .slice none 0 0, .int .i64 0]), 3, 56) := by kernel_rfl
/-- cells of cuts: two lists and a count each -/
def ctCs (S : List (Value × Value × Int)) : List Value := (S.map fun e => [e.1, e.2.1, .int .i64 e.2.2]).flatten
theorem ctCs_snoc (S : List (Value × Value × Int)) (a b : Value) (x : Int) : ctCs (S ++ [(a, b, x)]) = ctCs S ++ [a, b, .int .i64 x] := by simp [ctCs]
theorem ctCs_at {S : List (Value × Value × Int)} {k : Nat} {e : Value × Value × Int} (h : S[k]? = some e) : (ctCs S)[k * 3 + 2]? = some (.int .i64 e.2.2) := by
  induction S generalizing k with
  | nil => simp at h
  | cons a r ih =>
    have e1 : ctCs (a :: r) = [a.1, a.2.1, .int .i64 a.2.2] ++ ctCs r := by simp [ctCs]
    cases k with
    | zero =>
      simp only [List.getElem?_cons_zero, Option.some.injEq] at h
      subst h
      rw [e1]; rfl
    | succ k =>
      simp only [List.getElem?_cons_succ] at h
      rw [e1, List.getElem?_append_right (by simp; omega), show (k + 1) * 3 + 2 - [a.1, a.2.1, Value.int .i64 a.2.2].length = k * 3 + 2 by simp; omega]
      exact ih h
/-- what l05Cuts hands back: the counts -/
def ResCt (S : List Int) (w : World) (e : Ending) (w' : World) : Prop := ∃ g c, e = .returned (.slice (some ⟨g, 0, none⟩) S.length c) ∧ S.length ≤ c ∧ c ≤ maxLen ∧ g < w'.heap.size ∧ (∀ (k : Nat) (x : Int), S[k]? = some x → w'.cell? ⟨g, k * 3 + 2, none⟩ = some (.int .i64 x)) ∧ Below w.heap.size w w'
/-- the list so far -/
def OutT (W : World) (S : List Int) (g q cap : Nat) (wr : World) : Prop := ∃ P : List (Value × Value × Int), P.map (·.2.2) = S ∧ P.length = q ∧ wr.ownsRow W.heap.size 37 3 (.slice (some ⟨g, 0, none⟩) q cap) q (ctCs P)
theorem OutT.start (W : World) : OutT W [] W.heap.size 0 0 (W.alloc (.cells #[] 37)) :=
  ⟨[], rfl, rfl, World.ownsRow_lit (base := W.heap.size) (size := 3) (e := 37) W #[] 0 (Nat.le_refl _) (Nat.zero_le _) rfl⟩
theorem owns_below {wr w2 : World} {e : TypeId} {k : Nat} {v : Value} {n : Nat} {xs : List Value} {B : Nat} (h1 : wr.ownsRow B e k v n xs) (hb : Below wr.heap.size wr w2) : w2.ownsRow B e k v n xs := by
  refine ⟨h1.1, ?_⟩
  rcases h1.2 with h | ⟨g', cap', cur, e, hb', hg, r⟩
  · exact .inl h
  · exact .inr ⟨g', cap', cur, e, hb', (hb.block g' (Array.getElem?_eq_some_iff.1 hg).1).trans hg, r⟩
theorem OutT.below {W wr w2 : World} {S : List Int} {g q cap : Nat} (h : OutT W S g q cap wr) (hb : Below wr.heap.size wr w2) : OutT W S g q cap w2 := by
  obtain ⟨P, e1, e2, h1⟩ := h
  exact ⟨P, e1, e2, owns_below h1 hb⟩
theorem OutT.res {W0 W wr : World} {S : List Int} {g q cap : Nat} (h : OutT W S g q cap wr) (hb : Below W0.heap.size W0 wr) : ResCt S W0 (.returned (.slice (some ⟨g, 0, none⟩) q cap)) wr := by
  obtain ⟨P, e1, e2, h1⟩ := h
  have hc : q ≤ cap ∧ cap ≤ maxLen := by
    rcases h1.2 with ⟨hv, _⟩ | ⟨g', cap', cur, e, _, _, h3, h4, _⟩
    · cases hv
    · injection e with _ _ ec; subst ec; exact ⟨h3, h4⟩
  have hl : S.length = q := by rw [← e1, List.length_map]; exact e2
  refine ⟨g, cap, by rw [hl], by omega, hc.2, (h1.lt g rfl).2, fun k s hs => ?_, hb⟩
  have hk : k < q := by rw [← hl]; exact (List.getElem?_eq_some_iff.1 hs).1
  rw [← e1, List.getElem?_map, Option.map_eq_some_iff] at hs
  obtain ⟨e, he, rfl⟩ := hs
  exact (h1.cellAt (k * 3 + 2) (by omega)).trans (ctCs_at he)
theorem OutT.push {W w4 : World} {P : List (Value × Value × Int)} {q g4 cap4 : Nat} {S : List Int} {a b : Value} {x : Int} (e1 : P.map (·.2.2) = S) (e2 : P.length = q) (hown : w4.ownsRow W.heap.size 37 3 (.slice (some ⟨g4, 0, none⟩) (q + 1) cap4) (q + 1) (ctCs P ++ [a, b, .int .i64 x])) : OutT W (S ++ [x]) g4 (q + 1) cap4 w4 :=
  ⟨P ++ [(a, b, x)], by simp [e1], by simp [e2], by rw [ctCs_snoc]; exact hown⟩
set_option maxHeartbeats 8000000 in
theorem l05Cuts_any (ad : Addr) (n c B : Nat) (t : List Int) (w : World) (hl : t.length = n) (hlv : Tr.isLv t = true) (hB : B ≤ w.heap.size) (h : Row w B (some ad) (ints t)) :
    Calls Try.prog 20 #[.slice (some ad) n c] w (ResCt ((spF 8 t).map (·.2.2)) w) := by
  obtain ⟨i0, hi, hz0, hz1, hz2⟩ := info_parts info_cut
  have h8 := (lv_bd hlv).2
  have C1 := l05Tree_any 8 ad n c B t w hl hlv (by omega) hB h
  have HOK : Hid (∀ s ∈ spF 8 t, OkSp t.length s) := spF_ok 8 t hlv h8
  have h256 : sumC (spF 8 t) ≤ 256 := by
    rw [spF_sum]
    have h1 := (cntS_le 8 t hlv).2
    have : t.length = 8 ∨ t.length ≤ 7 := by omega
    rcases this with h | h
    · rw [h] at h1; exact Int.le_trans h1 (by decide)
    · have := pow7 h; omega
  have hq256 := len_sumC HOK.out
  obtain ⟨S, hS⟩ : ∃ s, s = spF 8 t := ⟨_, rfl⟩
  rw [← hS] at C1 HOK h256 hq256 ⊢
  obtain ⟨m, hm⟩ : ∃ m, m = t.length := ⟨_, rfl⟩
  rw [← hm] at HOK
  have hm8 : m ≤ 8 := by omega
  clear hS hlv hl h h8 hm
  go_enter Try.func20, Try.ntmps20
  go_wp2_with fail
  refine C1.mono ?_
  rintro e w2 ⟨A2, c2, rfl, d1, d2, hSp, bel2⟩
  clear C1
  have HSP := Lib.hid hSp
  have HB2 := Lib.hid bel2
  have hz2' := bel2.size
  clear hSp bel2
  obtain ⟨q0, hq0⟩ : ∃ q, q = S.length := ⟨_, rfl⟩
  have hq128 : q0 ≤ 256 := by omega
  have HQ0 := Lib.hid hq0
  rw [← hq0]
  have HO0 := Lib.hid (OutT.start w2)
  clear hq0 hq256 h256 d1
  go_wp2_with fail
  go_loopw [4, 5] (fun v i wr => ∃ (k g q cap : Nat), k ≤ q0 ∧ q = k ∧ v = .slice (some ⟨g, 0, none⟩) q cap ∧ i = .int .i64 k ∧ Hid (OutT w2 ((S.take k).map (·.2.2)) g q cap wr) ∧ Hid (Below w2.heap.size w2 wr)) (fun _ i _ => q0 - (intOf i).toNat)
  case atStart => exact ⟨0, _, 0, 0, by omega, rfl, rfl, rfl, HO0.out, (Below.refl _ _).alloc (Nat.le_refl _) _⟩
  case round =>
    obtain ⟨k, g, q, cap, hk, hqk, rfl, rfl, HO, HBE⟩ := hrel
    have hzz := HBE.out.size
    have hqm : q ≤ 256 := by omega
    have HQK := Lib.hid hqk
    clear hqk
    by_cases hlt : k < q0
    · obtain ⟨a, ha⟩ := at_lt (show k < S.length by rw [← HQ0.out]; exact hlt)
      obtain ⟨ba, oa, ⟨A1, c1, A1', c1'⟩, rfl, hba, hra, hia⟩ := HSP.out k a ha
      have HRA := Lib.hid hra
      have HIA := Lib.hid hia
      have HTS : Hid ((S.take (k + 1)).map (·.2.2) = (S.take k).map (·.2.2) ++ [a.2.2]) := by rw [Hid, take_snoc ha, List.map_append]; rfl
      have hOa := HOK.out a (List.mem_of_getElem? ha)
      have hlen := okSp_len hOa
      have hT2 : ∀ W, Below w2.heap.size w2 W → Calls Try.prog 40 #[.slice A1 a.1.length c1] W fun e w' => ∃ A c, e = .returned (.slice A a.1.length c) ∧ Below W.heap.size W w' := by
        intro W hW
        refine (l01Own2_any A1 a.1.length c1 w2.heap.size a.1 W rfl (by have := hOa.2.2.1; omega) (fun r hr => (lv_bd (hOa.1 r hr)).1) hW.size (hia.2.2.1.below hW (Nat.le_refl _))).mono ?_
        rintro e w' ⟨A5, c5, vs, rfl, own5, bel5⟩
        exact ⟨A5, c5, rfl, bel5⟩
      obtain ⟨l1, hl1⟩ : ∃ q, q = a.1.length := ⟨_, rfl⟩
      obtain ⟨x, hx⟩ : ∃ q, q = a.2.2 := ⟨_, rfl⟩
      rw [← hl1] at hT2
      rw [← hx] at HTS
      have hcell : ∀ V, Below w2.heap.size w2 V → V.cell? ⟨ba, oa + k * 3, none⟩ = some (.slice A1 l1 c1) ∧ V.cell? ⟨ba, oa + k * 3 + 1, none⟩ = some (.slice A1' a.2.1.length c1') ∧ V.cell? ⟨ba, oa + k * 3 + 2, none⟩ = some (.int .i64 x) := fun V hV => by
        have r1 := range_below HRA.out hV hba
        rw [hl1, hx]
        exact ⟨r1 0 _ rfl, r1 1 _ rfl, r1 2 _ rfl⟩
      clear hra ha hl1 hx
      cases htr : a.2.1 with
      | nil =>
        rw [htr, List.length_nil] at hcell
        have KK := Lib.hid hcell
        have HT2 := Lib.hid hT2
        obtain ⟨k0, k1, k2⟩ := KK.out _ (HBE.out.alloc hzz (.cells #[] 2))
        clear hcell hT2 hia htr hOa hlen
        obtain ⟨w5, hw5⟩ : ∃ w5, w5 = wr.alloc (.cells #[] 2) := ⟨_, rfl⟩
        have hb5 : Below wr.heap.size wr w5 := by rw [hw5]; exact (Below.refl _ _).alloc (Nat.le_refl _) _
        have B5 : Hid (Below w2.heap.size w2 w5) := HBE.out.trans (hb5.mono hzz)
        have hz5 : w2.heap.size ≤ w5.heap.size := B5.out.size
        go_wp2_with fail
        rw [← hw5]
        clear hw5
        have HO5 := HO.out.below hb5
        obtain ⟨P, e1, e2, own⟩ := HO5
        have E1 := Lib.hid e1
        have E2 := Lib.hid e2
        have HOWN : Hid (∀ V, Below w5.heap.size w5 V → V.ownsRow w2.heap.size 37 3 (.slice (some ⟨g, 0, none⟩) q cap) q (ctCs P)) := fun V hV => owns_below own hV
        have hlo := fun q' hq => (own.lt q' hq).1
        have HLO := Lib.hid hlo
        clear own hlo e1 e2 hb5 k0 k1 k2
        go_region_held3 (fun V => V.cell? ⟨ba, oa + k * 3, none⟩ = some (.slice A1 l1 c1) ∧ V.cell? ⟨ba, oa + k * 3 + 1, none⟩ = some (.slice A1' 0 c1') ∧ V.cell? ⟨ba, oa + k * 3 + 2, none⟩ = some (.int .i64 x))
          (first | exact KK.out _ B5.out.drew | exact KK.out _ (below_drewN B5.out _) | exact KK.out _ (B5.out.trans ((below_undrew' (a := 1) bel6).mono hz5)) | exact KK.out _ ((B5.out.trans ((below_undrew' (a := 1) bel6).mono hz5)).alloc (by omega) _) | exact KK.out _ (((B5.out.trans ((below_undrew' (a := 1) bel6).mono hz5)).alloc (by omega) _).grown hgrow3 (by simp; omega) HLO.out))
          (first
            | (go_at_call 40; refine (HT2.out _ (by first | exact B5.out.drew | exact below_drewN B5.out _)).mono ?_; rintro e w6 ⟨A7, c7, rfl, bel6⟩; have hz6 := (below_undrew' (a := 1) bel6).size)
            | (refine step_append_lies _ (by rfl) _ _ _ (by rfl) w2.heap.size 37 i0 _ 3 56 Try.underlying33 hi hz0 hz1 hz2 rfl (by omega) (.slice (some ⟨g, 0, none⟩) q cap) q (ctCs P) (by rfl) (HOWN.out _ (by exact (below_undrew' (a := 1) bel6).alloc (below_undrew' (a := 1) bel6).size _)) ⟨w6.heap.size, 0, none⟩ 1 1 [.slice A7 l1 c7, (.slice (some ⟨wr.heap.size, 0, none⟩) 0 0), .int .i64 x] (by rfl) (by rfl) (World.news_of_block (cs := #[.slice A7 l1 c7, (.slice (some ⟨wr.heap.size, 0, none⟩) 0 0), .int .i64 x]) (heap_alloc_new _ _)) (by simp [Value.oneCell']) (by omega) (by simp only [maxLen]; omega) (by omega) (by simp; omega) (w6.heap.size + 1) (by simp) ?_; intro g3 cap3 w3 hown3 hgrow3 hat3 hlt3))
        have GB : Hid (Below w2.heap.size w2 w3) := ((B5.out.trans ((below_undrew' (a := 1) bel6).mono hz5)).alloc (by omega) _).grown hgrow3 (by simp; omega) HLO.out
        have GO : Hid (OutT w2 ((S.take (k + 1)).map (·.2.2)) g3 (q + 1) cap3 w3) := by
          rw [Hid, HTS.out]
          exact OutT.push E1.out E2.out hown3
        clear hown3 hgrow3 hat3 bel6 KK HTS
        go_wp2
        go_roundw
        case rel => exact ⟨k + 1, g3, q + 1, cap3, by omega, by rw [HQK.out], rfl, by go_num, GO, GB⟩
        case measure => simp [intOf]; omega
      | cons r rs =>
        have hrl : Tr.isLv r = true := hOa.2.1 r (by rw [htr]; simp)
        have hia2 : Mat w2 w2.heap.size A1' (r :: rs) := by rw [← htr]; exact hia.2.2.2.2.2
        rw [htr] at hcell
        obtain ⟨br, orr, Ak, ck, e9, hbr, hcr, hrc, hcm2, hrow⟩ := hia2 0 r rfl
        obtain rfl := e9
        have hr1 := (lv_bd hrl)
        obtain ⟨x0, hx0⟩ := at_lt (show 0 < r.length by omega)
        obtain ⟨b9, o9, rfl, _, _⟩ := hrow 0 _ (ints_at hx0)
        have KK := Lib.hid hcell
        have HT2 := Lib.hid hT2
        have HRW := Lib.hid hrow
        obtain ⟨k0, k1, k2⟩ := KK.out _ (HBE.out.alloc hzz (.cells #[] 2))
        have k3 : (wr.alloc (.cells #[] 2)).cell? ⟨br, orr + 0, none⟩ = some (.slice (some ⟨b9, o9, none⟩) r.length ck) := ((HBE.out.alloc hzz (.cells #[] 2)).cell (p := ⟨br, orr + 0, none⟩) hbr).trans hcr
        rw [Nat.add_zero] at k3
        obtain ⟨l3, hl3⟩ : ∃ l, l = rs.length + 1 := ⟨_, rfl⟩
        have hl30 : 0 < l3 := by omega
        rw [List.length_cons, ← hl3] at KK k1
        clear hcell hT2 hia hia2 htr hOa hlen hcr hrow hl3 hx0
        have b5 : Below wr.heap.size wr (wr.alloc (.cells #[] 2)) := (Below.refl _ _).alloc (Nat.le_refl _) _
        have HRW5 := HRW.out.below (HBE.out.alloc hzz (.cells #[] 2)) (Nat.le_refl _)
        have HB5 := Lib.hid b5
        have HR5 := Lib.hid HRW5
        have hrb : r.length ≤ 8 := hr1.2
        clear b5 HRW5 hr1
        go_wp2_with fail
        refine (l01Own_any ⟨b9, o9, none⟩ r.length ck w2.heap.size r _ rfl (by omega) (by simp; omega) HR5.out).mono ?_
        rintro e w5 ⟨A6, c6, rfl, own5, bel5⟩
        have hb5 : Below wr.heap.size wr w5 := HB5.out.trans (bel5.mono HB5.out.size)
        have B5 : Hid (Below w2.heap.size w2 w5) := HBE.out.trans (hb5.mono hzz)
        have hz5 : w2.heap.size ≤ w5.heap.size := B5.out.size
        clear own5 bel5
        have HO5 := HO.out.below hb5
        obtain ⟨P, e1, e2, own⟩ := HO5
        have E1 := Lib.hid e1
        have E2 := Lib.hid e2
        have HOWN : Hid (∀ V, Below w5.heap.size w5 V → V.ownsRow w2.heap.size 37 3 (.slice (some ⟨g, 0, none⟩) q cap) q (ctCs P)) := fun V hV => owns_below own hV
        have hlo := fun q' hq => (own.lt q' hq).1
        have HLO := Lib.hid hlo
        clear own hlo e1 e2 hb5 k0 k1 k2 k3
        go_wp2_with fail
        go_region_held3 (fun V => V.cell? ⟨ba, oa + k * 3, none⟩ = some (.slice A1 l1 c1) ∧ V.cell? ⟨ba, oa + k * 3 + 1, none⟩ = some (.slice (some ⟨br, orr, none⟩) l3 c1') ∧ V.cell? ⟨ba, oa + k * 3 + 2, none⟩ = some (.int .i64 x))
          (first | exact KK.out _ B5.out.drew | exact KK.out _ (below_drewN B5.out _) | exact KK.out _ (B5.out.trans ((below_undrew' (a := 1) bel6).mono hz5)) | exact KK.out _ ((B5.out.trans ((below_undrew' (a := 1) bel6).mono hz5)).alloc (by omega) _) | exact KK.out _ (((B5.out.trans ((below_undrew' (a := 1) bel6).mono hz5)).alloc (by omega) _).grown hgrow3 (by simp; omega) HLO.out))
          (first
            | (go_at_call 40; refine (HT2.out _ (by first | exact B5.out.drew | exact below_drewN B5.out _)).mono ?_; rintro e w6 ⟨A7, c7, rfl, bel6⟩; have hz6 := (below_undrew' (a := 1) bel6).size)
            | (refine step_append_lies _ (by rfl) _ _ _ (by rfl) w2.heap.size 37 i0 _ 3 56 Try.underlying33 hi hz0 hz1 hz2 rfl (by omega) (.slice (some ⟨g, 0, none⟩) q cap) q (ctCs P) (by rfl) (HOWN.out _ (by exact (below_undrew' (a := 1) bel6).alloc (below_undrew' (a := 1) bel6).size _)) ⟨w6.heap.size, 0, none⟩ 1 1 [.slice A7 l1 c7, (.slice A6 r.length c6), .int .i64 x] (by rfl) (by rfl) (World.news_of_block (cs := #[.slice A7 l1 c7, (.slice A6 r.length c6), .int .i64 x]) (heap_alloc_new _ _)) (by simp [Value.oneCell']) (by omega) (by simp only [maxLen]; omega) (by omega) (by simp; omega) (w6.heap.size + 1) (by simp) ?_; intro g3 cap3 w3 hown3 hgrow3 hat3 hlt3))
        have GB : Hid (Below w2.heap.size w2 w3) := ((B5.out.trans ((below_undrew' (a := 1) bel6).mono hz5)).alloc (by omega) _).grown hgrow3 (by simp; omega) HLO.out
        have GO : Hid (OutT w2 ((S.take (k + 1)).map (·.2.2)) g3 (q + 1) cap3 w3) := by
          rw [Hid, HTS.out]
          exact OutT.push E1.out E2.out hown3
        clear hown3 hgrow3 hat3 bel6 KK HTS
        go_wp2
        go_roundw
        case rel => exact ⟨k + 1, g3, q + 1, cap3, by omega, by rw [HQK.out], rfl, by go_num, GO, GB⟩
        case measure => simp [intOf]; omega
    · obtain rfl : k = q0 := by omega
      have G : Hid (OutT w2 (S.map (·.2.2)) g q cap wr) := by
        have := HO.out
        rwa [List.take_of_length_le (by rw [← HQ0.out]; exact Nat.le_refl _)] at this
      clear HO
      go_wp2
      go_ret
      exact G.out.res (HB2.out.trans (HBE.out.mono hz2'))
end Go.Proofs.Ytgklilckjpbdnaa
/-
  The text of a forest is read back into its trees.
-/
namespace Go.Proofs.Ytgklilckjpbdnaa
open Go.RowKit Fld
set_option linter.unusedVariables false
set_option linter.unusedSimpArgs false
set_option maxRecDepth 100000

/-- a text that comes back to depth 0 at its end alone -/
def go1 : Nat → List UInt8 → Bool
  | _, [] => false
  | o, [c] => decide (c = 93) && decide (o = 1)
  | o, c :: d :: r => if c = 91 then go1 (o + 1) (d :: r) else decide (c = 93) && decide (1 < o) && go1 (o - 1) (d :: r)
theorem go1_read : ∀ (x : List UInt8) (o : Nat) (cur : List UInt8) (acc : List (List UInt8)) (r : List UInt8), go1 o x = true → Tr.trF cur o acc (x ++ r) = Tr.trF [] 0 (acc ++ [cur ++ x]) r
  | [], _, _, _, _, h => by simp [go1] at h
  | [c], o, cur, acc, r, h => by
    simp only [go1, Bool.and_eq_true, decide_eq_true_eq] at h
    obtain ⟨rfl, rfl⟩ := h
    rw [List.singleton_append, Tr.trF, if_neg (by decide), if_pos rfl, if_neg (by decide), if_pos rfl]
  | c :: d :: t, o, cur, acc, r, h => by
    rw [go1] at h
    split at h
    · rename_i hc
      rw [List.cons_append, Tr.trF, if_pos hc, go1_read (d :: t) (o + 1) _ _ _ h, List.append_assoc, List.singleton_append]
    · rename_i hc
      simp only [Bool.and_eq_true, decide_eq_true_eq] at h
      obtain ⟨⟨h1, h2⟩, h3⟩ := h
      rw [List.cons_append, Tr.trF, if_neg hc, if_pos h1, if_neg (by omega), if_neg (by omega), go1_read (d :: t) (o - 1) _ _ _ h3, List.append_assoc, List.singleton_append]
theorem go1_all : Tr.allT.all (go1 0) = true := by decide +kernel
theorem tr_flat : ∀ (ss acc : List (List UInt8)), (∀ x ∈ ss, Tr.isTx x = true) → Tr.trF [] 0 acc ss.flatten = (acc ++ ss, true)
  | [], acc, _ => by simp [Tr.trF]
  | x :: ss, acc, h => by
    rw [List.flatten_cons, go1_read x 0 [] acc _ (Tr.tx_of go1_all (h x (by simp))), List.nil_append, tr_flat ss (acc ++ [x]) (fun y hy => h y (by simp [hy])), List.append_assoc, List.singleton_append]
end Go.Proofs.Ytgklilckjpbdnaa
/-
  Cuts of trees and forests, plainly: pairs of lists of texts of trees (what is cut off, what stays).
-/
namespace Go.Proofs.Ytgklilckjpbdnaa
open Go.RowKit Fld
set_option linter.unusedVariables false
set_option linter.unusedSimpArgs false
set_option maxRecDepth 100000

abbrev Tx := List UInt8
abbrev Ct := List Tx × List Tx
def besT (c d : Ct) : Ct := (Tr.sortT (c.1 ++ d.1), Tr.sortT (c.2 ++ d.2))
def togT (p q : List Ct) : List Ct := p.flatMap fun c => q.map (besT c)
def rootC (c : Ct) : Ct := (c.1, [Tr.wrap (Tr.sortS c.2)])
def ctF : Nat → Tx → List Ct
  | 0, x => []
  | k+1, x => ((Tr.brT x).foldl (fun acc b => togT acc (ctF k b)) [([], [])]).map rootC ++ [([x], [])]
def ctsOfF (k : Nat) (ts : List Tx) : List Ct := ts.foldl (fun acc b => togT acc (ctF k b)) [([], [])]
theorem ctF_succ (k : Nat) (x : Tx) : ctF (k + 1) x = ((Tr.brT x).foldl (fun acc b => togT acc (ctF k b)) [([], [])]).map rootC ++ [([x], [])] := rfl
/-- all cuts of a tree, of a forest -/
def cts (x : Tx) : List Ct := ctF 8 x
def ctsOf (ts : List Tx) : List Ct := ts.foldl (fun acc b => togT acc (cts b)) [([], [])]
/-- bytes of a list of texts -/
def byT (ts : List Tx) : Nat := (ts.map List.length).sum
theorem byT_flat (ts : List Tx) : ts.flatten.length = byT ts := by
  unfold byT; rw [List.length_flatten]
theorem byT_app (a b : List Tx) : byT (a ++ b) = byT a + byT b := by simp [byT]
theorem byT_perm {a b : List Tx} (h : a.Perm b) : byT a = byT b := (h.map _).sum_nat
/-- a cut that has m bytes of trees -/
def OkC (m : Nat) (c : Ct) : Prop := (∀ t ∈ c.1, Tr.isTx t = true) ∧ (∀ t ∈ c.2, Tr.isTx t = true) ∧ byT c.1 + byT c.2 = m
theorem len_byT {ts : List Tx} (h : ∀ t ∈ ts, Tr.isTx t = true) : 2 * ts.length ≤ byT ts := by
  induction ts with
  | nil => simp [byT]
  | cons a r ih =>
    have h1 := (Tr.br_parts (h a (by simp))).1.1
    have h2 := ih (fun t ht => h t (by simp [ht]))
    unfold byT at *
    rw [List.map_cons, List.sum_cons, List.length_cons]; omega
theorem besT_ok {m n : Nat} {c d : Ct} (hc : OkC m c) (hd : OkC n d) : OkC (m + n) (besT c d) := by
  obtain ⟨c1, c2, c3⟩ := hc
  obtain ⟨d1, d2, d3⟩ := hd
  refine ⟨fun t ht => ?_, fun t ht => ?_, ?_⟩
  · have := (sortT_perm (c.1 ++ d.1)).mem_iff.1 ht
    rw [List.mem_append] at this
    exact this.elim (c1 t) (d1 t)
  · have := (sortT_perm (c.2 ++ d.2)).mem_iff.1 ht
    rw [List.mem_append] at this
    exact this.elim (c2 t) (d2 t)
  · unfold besT
    rw [byT_perm (sortT_perm _), byT_perm (sortT_perm _), byT_app, byT_app]; omega
theorem togT_ok {m n : Nat} {p q : List Ct} (hp : ∀ c ∈ p, OkC m c) (hq : ∀ c ∈ q, OkC n c) : ∀ c ∈ togT p q, OkC (m + n) c := fun c hc => by
  unfold togT at hc
  rw [List.mem_flatMap] at hc
  obtain ⟨a, ha, hc⟩ := hc
  rw [List.mem_map] at hc
  obtain ⟨b, hb, rfl⟩ := hc
  exact besT_ok (hp a ha) (hq b hb)
/-- a root on texts of trees -/
theorem wrap_tx {ts : List Tx} (h : ∀ t ∈ ts, Tr.isTx t = true) (h14 : byT ts ≤ 14) : Tr.isTx (Tr.wrap (Tr.sortS ts)) = true ∧ (Tr.wrap (Tr.sortS ts)).length = byT ts + 2 := by
  have e1 : ts = (ts.map Tr.lvl).map Tr.txt := by
    rw [List.map_map]
    conv => lhs; rw [← List.map_id ts]
    apply List.map_congr_left
    intro t ht
    have := h t ht
    unfold Tr.isTx at this
    rw [Bool.and_eq_true, beq_iff_eq] at this
    exact this.2.symm
  have hlv : ∀ r ∈ ts.map Tr.lvl, Tr.isLv r = true := fun r hr => by
    rw [List.mem_map] at hr
    obtain ⟨t, ht, rfl⟩ := hr
    have := h t ht
    unfold Tr.isTx at this
    rw [Bool.and_eq_true] at this
    exact this.1
  have hb : byT ts = 2 * total (ts.map Tr.lvl) := by
    rw [← byT_flat]
    conv => lhs; rw [e1]
    exact flat_txt hlv
  have hr := root_txt hlv (by omega)
  rw [← e1] at hr
  have hu := up_lv hlv (show total (ts.map Tr.lvl) ≤ 7 by omega)
  refine ⟨by rw [hr]; exact Tr.tx_txt hu, ?_⟩
  rw [hr, (lv_txt hu).2.2.2, hb]
  have : (Tr.up (ts.map Tr.lvl)).length = total (ts.map Tr.lvl) + 1 := by
    unfold Tr.up; rw [List.length_cons, List.length_map, flat_total]
  omega
def chkQ (x : Tx) : Bool := decide (byT (Tr.brT x) + 2 = x.length)
theorem chkQ_all : Tr.allT.all chkQ = true := by decide +kernel
theorem br_byT {x : Tx} (h : Tr.isTx x = true) : byT (Tr.brT x) + 2 = x.length := by
  have := Tr.tx_of chkQ_all h
  unfold chkQ at this
  exact of_decide_eq_true this
theorem mem_byT {ts : List Tx} {b : Tx} (h : b ∈ ts) : b.length ≤ byT ts := by
  induction ts with
  | nil => cases h
  | cons a r ih =>
    have e : byT (a :: r) = a.length + byT r := by simp [byT]
    rcases List.mem_cons.1 h with rfl | h
    · omega
    · have := ih h; omega
theorem fold_ok {k : Nat} (f : Tx → List Ct) : ∀ (ts : List Tx) (acc : List Ct) (m : Nat), (∀ b ∈ ts, ∀ c ∈ f b, OkC b.length c) → (∀ c ∈ acc, OkC m c) → ∀ c ∈ ts.foldl (fun acc b => togT acc (f b)) acc, OkC (m + byT ts) c
  | [], acc, m, _, ha, c, hc => by simpa [byT] using ha c hc
  | b :: ts, acc, m, hf, ha, c, hc => by
    have := fold_ok (k := k) f ts (togT acc (f b)) (m + b.length) (fun b' hb' => hf b' (by simp [hb'])) (togT_ok ha (hf b (by simp))) c hc
    have e : byT (b :: ts) = b.length + byT ts := by simp [byT]
    rw [e, ← Nat.add_assoc]; exact this
theorem unit_ok : ∀ c ∈ ([([], [])] : List Ct), OkC 0 c := fun c hc => by
  rw [List.mem_singleton] at hc
  subst hc
  exact ⟨by simp, by simp, rfl⟩
theorem ctF_ok : ∀ (k : Nat) (x : Tx), Tr.isTx x = true → x.length / 2 ≤ k → ∀ c ∈ ctF k x, OkC x.length c
  | 0, x, hx, hk, c, hc => by cases hc
  | k+1, x, hx, hk, c, hc => by
    obtain ⟨⟨h2, h16⟩, hb, h7⟩ := Tr.br_parts hx
    have hq := br_byT hx
    rw [ctF, List.mem_append, List.mem_map] at hc
    rcases hc with ⟨d, hd, rfl⟩ | hc
    · have := fold_ok (k := k) (ctF k) (Tr.brT x) [([], [])] 0 (fun b hb' c hc => ctF_ok k b (hb b hb').1 (by have := mem_byT hb'; omega) c hc) unit_ok d hd
      obtain ⟨d1, d2, d3⟩ := this
      have hw := wrap_tx d2 (by omega)
      exact ⟨d1, fun t ht => by simp only [rootC, List.mem_singleton] at ht; subst ht; exact hw.1, by
        show byT d.1 + byT [Tr.wrap (Tr.sortS d.2)] = x.length
        have e : byT [Tr.wrap (Tr.sortS d.2)] = byT d.2 + 2 := by simp [byT, hw.2]
        omega⟩
    · rw [List.mem_singleton] at hc
      subst hc
      exact ⟨fun t ht => by rw [List.mem_singleton] at ht; subst ht; exact hx, by simp, by simp [byT]⟩
theorem ctF_fuel : ∀ (k j : Nat) (x : Tx), Tr.isTx x = true → x.length / 2 ≤ k → k ≤ j → ctF k x = ctF j x
  | 0, j, x, hx, hk, hj => by have := (Tr.br_parts hx).1.1; omega
  | k+1, 0, x, hx, hk, hj => by omega
  | k+1, j+1, x, hx, hk, hj => by
    obtain ⟨⟨h2, h16⟩, hb, h7⟩ := Tr.br_parts hx
    rw [ctF, ctF]
    congr 2
    have : ∀ (ts : List Tx) (acc : List Ct), (∀ b ∈ ts, b ∈ Tr.brT x) → ts.foldl (fun acc b => togT acc (ctF k b)) acc = ts.foldl (fun acc b => togT acc (ctF j b)) acc := fun ts => by
      induction ts with
      | nil => intro acc _; rfl
      | cons a r ih =>
        intro acc h
        rw [List.foldl_cons, List.foldl_cons, ctF_fuel k j a (hb a (h a (by simp))).1 (by have := mem_byT (h a (by simp)); have := br_byT hx; omega) (by omega)]
        exact ih _ (fun b hb' => h b (by simp [hb']))
    exact this _ _ (fun b hb' => hb')
theorem cts_ok {x : Tx} (hx : Tr.isTx x = true) : ∀ c ∈ cts x, OkC x.length c := by
  unfold cts
  exact ctF_ok 8 x hx (by have := (Tr.br_parts hx).1.2; omega)
/-- the cuts of a tree are those of its branches, and that of all of it -/
theorem cts_eq {x : Tx} (hx : Tr.isTx x = true) : cts x = (ctsOf (Tr.brT x)).map rootC ++ [([x], [])] := by
  obtain ⟨⟨h2, h16⟩, hb, h7⟩ := Tr.br_parts hx
  have fold : ∀ (ts : List Tx) (acc : List Ct), (∀ b ∈ ts, b ∈ Tr.brT x) → ts.foldl (fun acc b => togT acc (ctF 7 b)) acc = ts.foldl (fun acc b => togT acc (ctF 8 b)) acc := fun ts => by
    induction ts with
    | nil => intro acc _; rw [List.foldl_nil, List.foldl_nil]
    | cons a r ih =>
      intro acc h
      rw [List.foldl_cons, List.foldl_cons, ← ctF_fuel 7 8 a (hb a (h a (by simp))).1 (by have := mem_byT (h a (by simp)); have := br_byT hx; omega) (by omega)]
      exact ih _ (fun b hb' => h b (by simp [hb']))
  have e := fold (Tr.brT x) [([], [])] (fun b hb' => hb')
  unfold ctsOf cts
  rw [← e]
  exact ctF_succ 7 x
theorem ctsOf_ok {ts : List Tx} (h : ∀ t ∈ ts, Tr.isTx t = true) : ∀ c ∈ ctsOf ts, OkC (byT ts) c := fun c hc => by
  have := fold_ok (k := 0) cts ts [([], [])] 0 (fun b hb => cts_ok (h b hb)) unit_ok c hc
  rwa [Nat.zero_add] at this
theorem ctsOf_step {ts : List Tx} {k : Nat} {b : Tx} (h : ts[k]? = some b) : ctsOf (ts.take (k + 1)) = togT (ctsOf (ts.take k)) (cts b) := by
  unfold ctsOf; rw [List.take_add_one, h, Option.toList_some, List.foldl_append]; rfl
theorem togT_length (p q : List Ct) : (togT p q).length = p.length * q.length := by
  unfold togT
  induction p with
  | nil => simp
  | cons a r ih => rw [List.flatMap_cons, List.length_append, List.length_map, ih, List.length_cons, Nat.succ_mul]; omega
end Go.Proofs.Ytgklilckjpbdnaa
/-
  A loop over a function whose own steps turn blocks of its own: what it promises (Its), what a caller's invariant has to bear (Abd), and the law of the loop, outside and inside of a round.
-/
namespace Go.Proofs.Ytgklilckjpbdnaa
open Go.RowKit
set_option linter.unusedVariables false

/-- an invariant that bears new blocks, and turns of blocks from B on that are no cells -/
structure Abd {β : Type} (B : Nat) (J : β → World → Prop) : Prop where
  more : ∀ s W W', J s W → Below W.heap.size W W' → J s W'
  turn : ∀ s W l o o', J s W → B ≤ l → W.heap[l]? = some o → o.isCells = false → J s (W.putObj l o')
theorem Abd.and {β : Type} {B : Nat} {J K : β → World → Prop} (h : Abd B J) (k : Abd B K) : Abd B (fun s W => J s W ∧ K s W) :=
  ⟨fun s W W' hs hb => ⟨h.more s W W' hs.1 hb, k.more s W W' hs.2 hb⟩, fun s W l o o' hs hB hl ho => ⟨h.turn s W l o o' hs.1 hB hl ho, k.turn s W l o o' hs.2 hB hl ho⟩⟩
theorem Abd.pure {β : Type} (B : Nat) (p : β → Prop) : Abd B (fun s (_ : World) => p s) := ⟨fun _ _ _ hs _ => hs, fun _ _ _ _ _ hs _ _ _ => hs⟩
theorem Abd.up {β : Type} {B B' : Nat} {J : β → World → Prop} (h : Abd B J) (hB : B ≤ B') : Abd B' J := ⟨h.more, fun s W l o o' hs hl h1 h2 => h.turn s W l o o' hs (Nat.le_trans hB hl) h1 h2⟩
theorem Abd.map {β γ : Type} {B : Nat} {J : β → World → Prop} (h : Abd B J) (f : γ → β) : Abd B (fun s W => J (f s) W) := ⟨fun s W W' hs hb => h.more _ W W' hs hb, fun s W l o o' hs hl h1 h2 => h.turn _ W l o o' hs hl h1 h2⟩
theorem Abd.ex {β γ : Type} {B : Nat} {J : β → World → Prop} (h : Abd B J) : Abd B (fun (_ : γ) W => ∃ s, J s W) := ⟨fun _ W W' hs hb => hs.elim fun s hs => ⟨s, h.more s W W' hs hb⟩, fun _ W l o o' hs hl h1 h2 => hs.elim fun s hs => ⟨s, h.turn s W l o o' hs hl h1 h2⟩⟩
/-- a cell of the caller's -/
theorem Abd.cell {β : Type} (B : Nat) (p : Addr) (f : β → Value) : Abd B (fun s W => W.cell? p = some (f s)) :=
  ⟨fun s W W' hs hb => (hb.cell (World.block_lt_of_cell? W p hs)).trans hs, fun s W l o o' hs _ hl ho => cell_kept hs (grownBy_putObj' W l o') (fun r e => by cases e; exact ⟨o, hl, ho⟩)⟩
theorem Abd.frozen {β : Type} (B : Nat) (p : Addr) (f : β → Value) : Abd B (fun s W => W.cell? p = some (f s) ∧ W.frozen? p = false) :=
  ⟨fun s W W' hs hb => ⟨(hb.cell (World.block_lt_of_cell? W p hs.1)).trans hs.1, by
      have hlt := World.block_lt_of_cell? W p hs.1
      have := hb.block p.block hlt
      unfold World.frozen? at *
      rw [this]; exact hs.2⟩,
   fun s W l o o' hs _ hl ho => ⟨cell_kept hs.1 (grownBy_putObj' W l o') (fun r e => by cases e; exact ⟨o, hl, ho⟩), (frozen_kept hs.1 (grownBy_putObj' W l o') (fun r e => by cases e; exact ⟨o, hl, ho⟩)).trans hs.2⟩⟩
theorem Abd.below {β : Type} {B n : Nat} {w : World} (hn : n ≤ B) (hw : n ≤ w.heap.size) : Abd B (fun (_ : β) W => Below n w W) :=
  ⟨fun s W W' hs hb => hs.trans (hb.mono (Nat.le_trans hw hs.size)), fun s W l o o' hs hB hl ho => hs.grown (grownBy_putObj' W l o') (Nat.le_trans hw hs.size) (fun k e => by cases e; exact Nat.le_trans hn hB)⟩
/-- what lies in blocks lo to hi, and whatever was laid from E on and is there, lies on -/
structure KpR (lo hi E : Nat) (W W' : World) : Prop where
  size : W.heap.size ≤ W'.heap.size
  rng : ∀ k, lo ≤ k → k < hi → k < W.heap.size → W'.heap[k]? = W.heap[k]?
  own : ∀ k, E ≤ k → k < W.heap.size → W'.heap[k]? = W.heap[k]?
theorem KpR.refl (lo hi E : Nat) (W : World) : KpR lo hi E W W := ⟨Nat.le_refl _, fun _ _ _ _ => rfl, fun _ _ _ => rfl⟩
theorem KpR.trans {lo hi E : Nat} {A B C : World} (h : KpR lo hi E A B) (k : KpR lo hi E B C) : KpR lo hi E A C :=
  ⟨Nat.le_trans h.size k.size, fun i h1 h2 h3 => (k.rng i h1 h2 (Nat.lt_of_lt_of_le h3 h.size)).trans (h.rng i h1 h2 h3), fun i h1 h2 => (k.own i h1 (Nat.lt_of_lt_of_le h2 h.size)).trans (h.own i h1 h2)⟩
theorem KpR.of_below {lo hi E : Nat} {A B : World} (h : Below A.heap.size A B) : KpR lo hi E A B := ⟨h.size, fun i _ _ h3 => h.block i h3, fun i _ h2 => h.block i h2⟩
theorem KpR.mono {lo hi E lo' hi' E' : Nat} {A B : World} (h : KpR lo hi E A B) (h1 : lo ≤ lo') (h2 : hi' ≤ hi) (h3 : E ≤ E') : KpR lo' hi' E' A B :=
  ⟨h.size, fun i a b c => h.rng i (by omega) (by omega) c, fun i a b => h.own i (by omega) b⟩
/-- KpR from a world on abides, from where that world ends -/
theorem Abd.kpr {β : Type} {lo hi E B : Nat} {w : World} (hw : w.heap.size ≤ B) : Abd B (fun (_ : β) W => KpR lo hi E w W) :=
  ⟨fun s W W' hs hb => hs.trans (KpR.of_below hb), fun s W l o o' hs hB hl ho => ⟨Nat.le_trans hs.size (by rw [World.putObj_size]; exact Nat.le_refl _), fun i a b c => (World.putObj_heap_other (by omega)).trans (hs.rng i a b c), fun i a c => (World.putObj_heap_other (by omega)).trans (hs.own i a c)⟩⟩
/-- the blocks from lo to hi lie as they lay -/
def Rg (lo hi : Nat) (w W : World) : Prop := w.heap.size ≤ W.heap.size ∧ ∀ k, lo ≤ k → k < hi → W.heap[k]? = w.heap[k]?
theorem Rg.refl (lo hi : Nat) (w : World) : Rg lo hi w w := ⟨Nat.le_refl _, fun _ _ _ => rfl⟩
theorem Rg.trans {lo hi : Nat} {a b c : World} (h : Rg lo hi a b) (k : Rg lo hi b c) : Rg lo hi a c := ⟨Nat.le_trans h.1 k.1, fun i h1 h2 => (k.2 i h1 h2).trans (h.2 i h1 h2)⟩
theorem Rg.mono {lo hi lo' hi' : Nat} {a b : World} (h : Rg lo hi a b) (h1 : lo ≤ lo') (h2 : hi' ≤ hi) : Rg lo' hi' a b := ⟨h.1, fun i a b => h.2 i (by omega) (by omega)⟩
theorem Rg.of_below {lo hi B : Nat} {a b : World} (h : Below B a b) (hi' : hi ≤ B) : Rg lo hi a b := ⟨h.size, fun i _ h2 => h.block i (by omega)⟩
theorem KpR.rg {lo hi E : Nat} {A B : World} (h : KpR lo hi E A B) (hh : hi ≤ A.heap.size) : Rg lo hi A B := ⟨h.size, fun i h1 h2 => h.rng i h1 h2 (by omega)⟩
theorem Rg.cell {lo hi b o : Nat} {A B : World} (h : Rg lo hi A B) (h1 : lo ≤ b ∧ b < hi) : B.cell? ⟨b, o, none⟩ = A.cell? ⟨b, o, none⟩ := by
  have := h.2 b h1.1 h1.2
  unfold World.cell?
  rw [this]
theorem KpR.cell_own {lo hi E b o : Nat} {A B : World} (h : KpR lo hi E A B) (h1 : E ≤ b) (h2 : b < A.heap.size) : B.cell? ⟨b, o, none⟩ = A.cell? ⟨b, o, none⟩ := by
  have := h.own b h1 h2
  unfold World.cell?
  rw [this]
/-- what a function that is ranged over promises: it hands xs on in turn, whatever the caller's invariant, as long as the rounds leave its blocks alone -/
def Its {α : Type} (P : Program) (gf : Nat) (lb : Array Value) (lo hi : Nat) (enc : α → Value) (xs : List α) (w : World) : Prop :=
  ∀ (l : Nat) (J Jx : List α → World → Prop) (W : World), Rg lo hi w W → Abd W.heap.size J → Abd W.heap.size Jx →
    (∀ pre x W1 m, J pre W1 → x ∈ xs → pre.length < xs.length → YieldAt Fence.wide m P l #[enc x] W1 fun e W' => (e = .returned (.bool true) ∧ J (pre ++ [x]) W' ∧ KpR lo hi W.heap.size W1 W') ∨ (e = .returned (.bool false) ∧ Jx (pre ++ [x]) W' ∧ KpR lo hi W.heap.size W1 W')) →
    J [] W →
    Calls P gf (#[.func (.yield l) #[] #[]] ++ lb) W fun e W' => (∃ v, e = .returned v) ∧ (J xs W' ∨ ∃ pre, Jx pre W')
theorem Its.later {α : Type} {P : Program} {gf : Nat} {lb : Array Value} {lo hi : Nat} {enc : α → Value} {xs : List α} {w w' : World} (h : Its P gf lb lo hi enc xs w) (hb : Rg lo hi w w') : Its P gf lb lo hi enc xs w' :=
  fun l J Jx W hW => h l J Jx W (hb.trans hW)
theorem room_free (k : Nat) : Fence.wide.room k := room_wide k
theorem yieldAt_any {P : Program} {l m m' : Nat} {args : Array Value} {W : World} {R : Ending → World → Prop} (h : YieldAt Fence.wide m P l args W R) : YieldAt Fence.wide m' P l args W R := by
  obtain ⟨fn, tmps, assign, body, hy, hR⟩ := h
  exact ⟨fn, tmps, assign, body, hy, hR.1, fun c cs _ => hR.2 c cs (room_wide _)⟩
/-- how a round may be left -/
def lvPost {α : Type} (B lo hi : Nat) (I Ix : List α → World → Prop) (xs : List α) (W : World) : Exit → Act → World → Prop
  | .normal, _, W' => KpR lo hi B W W' ∧ I xs W'
  | .ret, _, W' => KpR lo hi B W W' ∧ Ix xs W'
  | _, _, _ => False
section
variable {α : Type} {P : Program} {gf : Nat} {lb : Array Value} {lo hi : Nat} {enc : α → Value} {xs : List α} {w0 w W1 : World}
/-- the rounds of a loop whose record lies at l -/
theorem rng_core {l : Nat} {fn : FuncId} {tmps : Array Value} {p : Tmp} {assign body : Code} {D : Nat} (hl : W1.heap[l]? = some (.loop { state := .ready, pending := none, fn, tmps, params := #[p], assign, body, defers := D })) (hwl : w.heap.size ≤ l) (hW1 : Below w.heap.size w W1)
    (hits : Its P gf lb lo hi enc xs w0) (hb0 : Rg lo hi w0 w) (hhi : hi ≤ w.heap.size)
    (I Ix : List α → World → Prop) (hI : Abd w.heap.size I) (hIx : Abd w.heap.size Ix) (h0 : I [] w)
    (X : World → Prop) (hX : Abd (β := Unit) W1.heap.size (fun _ W => X W)) (hXl : ∀ A o, X A → X (A.putObj l o)) (hXk : ∀ A B, X A → KpR lo hi w.heap.size A B → X B) (hX1 : X W1)
    (Ax : α → Act → World → Prop) (hAx : ∀ x a', Abd w.heap.size (fun (_ : Unit) W => Ax x a' W))
    (hassign : ∀ (m : Nat) (pre : List α) (x : α) (W : World) (K : Act → World → Prop), I pre W → x ∈ xs → (∀ a' W', Below W.heap.size W W' → Ax x a' W' → K a' W') → assign.wpIn (Fence.wide.inRound l) m P (Exit.then K (fun _ _ _ => False)) { tmps := tmps.setIfInBounds p (enc x), defers := [] } W)
    (hbody : ∀ (m : Nat) (pre : List α) (x : α) (a' : Act) (W : World), (∃ r, W.heap[l]? = some (.loop r)) → I pre W → Ax x a' W → x ∈ xs → pre.length < xs.length → body.wpIn (Fence.wide.inRound l) m P (lvPost w.heap.size lo hi I Ix (pre ++ [x]) W) a' W) :
    Calls P gf (#[.func (.yield l) #[] #[]] ++ lb) W1 fun e W => (∃ v, e = .returned v) ∧
      ((I xs W ∧ W.heap[l]? = some (.loop { state := .ready, pending := none, fn, tmps, params := #[p], assign, body, defers := D }) ∧ X W) ∨
       (∃ pre, Ix pre W ∧ W.heap[l]? = some (.loop { state := .done, pending := some .ret, fn, tmps, params := #[p], assign, body, defers := D }) ∧ X W)) := by
  have hlt1 : l < W1.heap.size := (Array.getElem?_eq_some_iff.1 hl).1
  have hsz : w.heap.size ≤ W1.heap.size := hW1.size
  have keepl : ∀ {A B : World} {o : Obj}, Below A.heap.size A B → A.heap[l]? = some o → B.heap[l]? = some o := fun hb ho => (hb.block l (Array.getElem?_eq_some_iff.1 ho).1).trans ho
  have J1 : ∀ (I : List α → World → Prop) (o : Obj), Abd w.heap.size I → o.isCells = false → Abd W1.heap.size (fun pre W => I pre W ∧ W.heap[l]? = some o ∧ X W) := fun I o hI ho =>
    ⟨fun s A B hs hb => ⟨hI.more s A B hs.1 hb, keepl hb hs.2.1, hX.more () A B hs.2.2 hb⟩,
     fun s A k o1 o2 hs hk h1 h2 => ⟨hI.turn s A k o1 o2 hs.1 (by omega) h1 h2, (World.putObj_heap_other (by omega)).trans hs.2.1, hX.turn () A k o1 o2 hs.2.2 hk h1 h2⟩⟩
  refine (hits l (fun pre W => I pre W ∧ W.heap[l]? = some (.loop { state := .ready, pending := none, fn, tmps, params := #[p], assign, body, defers := D }) ∧ X W)
    (fun pre W => Ix pre W ∧ W.heap[l]? = some (.loop { state := .done, pending := some .ret, fn, tmps, params := #[p], assign, body, defers := D }) ∧ X W) W1 (hb0.trans (Rg.of_below hW1 hhi)) (J1 I _ hI rfl) (J1 Ix _ hIx rfl) ?_ ⟨?_, hl, hX1⟩).mono ?_
  · rintro pre x W m ⟨hJ, hr, hx⟩ hmem hlen
    have hy : (Instr.yield l #[enc x]).run P W = .ok (.round l fn (tmps.setIfInBounds p (enc x)) assign body) W := by
      have := run_yield (P := P) (args := #[enc x]) hr rfl
      simpa using this
    refine ⟨_, _, _, _, hy, roundIn_of_wpIn trivial ?_⟩
    refine hassign m pre x W _ hJ hmem (fun a' Wa hba hax => ?_)
    have hra := keepl hba hr
    have hia := hI.more pre W Wa hJ hba
    have hxa := hX.more () W Wa hx hba
    have hlta : l < Wa.heap.size := (Array.getElem?_eq_some_iff.1 hra).1
    refine ⟨_, run_beginRound hra rfl, ?_⟩
    have hrb := World.putObj_heap_same (o := .loop { state := .busy, pending := none, fn, tmps, params := #[p], assign, body, defers := D }) hlta
    refine wpIn_mono (hbody m pre x a' _ ⟨_, hrb⟩ (hI.turn pre Wa l _ _ hia hwl hra rfl) ((hAx x a').turn () Wa l _ _ hax hwl hra rfl) hmem hlen) ?_
    have kp : ∀ {W3 : World} {o : Obj}, KpR lo hi w.heap.size (Wa.putObj l (.loop { state := .busy, pending := none, fn, tmps, params := #[p], assign, body, defers := D })) W3 → KpR lo hi W1.heap.size W (W3.putObj l o) := fun {W3 o} h => by
      have hs3 : Wa.heap.size ≤ W3.heap.size := by have := h.size; rwa [World.putObj_size] at this
      refine ⟨by rw [World.putObj_size]; exact Nat.le_trans hba.size hs3, fun k a b c => ?_, fun k a c => ?_⟩
      · have e1 := h.rng k a b (by rw [World.putObj_size]; exact Nat.lt_of_lt_of_le c hba.size)
        rw [World.putObj_heap_other (by omega), e1, World.putObj_heap_other (by omega), hba.block k c]
      · have e1 := h.own k (by omega) (by rw [World.putObj_size]; exact Nat.lt_of_lt_of_le c hba.size)
        rw [World.putObj_heap_other (by omega), e1, World.putObj_heap_other (by omega), hba.block k c]
    rintro e a3 W3 hp
    cases e with
    | normal =>
      obtain ⟨hk3, hJ3⟩ := hp
      have hr3 := (hk3.own l hwl (by rw [World.putObj_size]; exact hlta)).trans hrb
      have hlt3 : l < W3.heap.size := (Array.getElem?_eq_some_iff.1 hr3).1
      exact ⟨_, _, run_endRound none hr3, .inl ⟨rfl, ⟨hI.turn _ W3 l _ _ hJ3 hwl hr3 rfl, World.putObj_heap_same hlt3, hXl _ _ (hXk _ _ (hXl _ _ hxa) hk3)⟩, kp hk3⟩⟩
    | ret =>
      obtain ⟨hk3, hJ3⟩ := hp
      have hr3 := (hk3.own l hwl (by rw [World.putObj_size]; exact hlta)).trans hrb
      have hlt3 : l < W3.heap.size := (Array.getElem?_eq_some_iff.1 hr3).1
      exact ⟨_, _, run_endRound (some .ret) hr3, .inr ⟨rfl, ⟨hIx.turn _ W3 l _ _ hJ3 hwl hr3 rfl, World.putObj_heap_same hlt3, hXl _ _ (hXk _ _ (hXl _ _ hxa) hk3)⟩, kp hk3⟩⟩
    | exit id => exact hp.elim
    | goto t => exact hp.elim
    | panic ch => exact hp.elim
    | outgrown => exact hp.elim
  · exact hI.more [] w W1 h0 ⟨hW1.os, hW1.tape, hW1.output, hW1.size, hW1.block⟩
  · rintro e W ⟨hv, h | ⟨pre, h⟩⟩
    · exact ⟨hv, .inl h⟩
    · exact ⟨hv, .inr ⟨pre, h⟩⟩
/-- **a loop over a function** -/
theorem wp_rng {n : Nat} {g : Operand} {p : Tmp} {assign body : Code} {Q : Exit → Act → World → Prop} {a : Act} (hg : a.eval g = .func (.func gf) #[] lb) (eg : ∀ args w, (callFunc gf args).run P w = .ok (.enter gf args) w)
    (hits : Its P gf lb lo hi enc xs w0) (hb0 : Rg lo hi w0 w) (hhi : hi ≤ w.heap.size)
    (I Ix : List α → World → Prop) (hI : Abd w.heap.size I) (hIx : Abd w.heap.size Ix) (h0 : I [] w)
    (Ax : α → Act → World → Prop) (hAx : ∀ x a', Abd w.heap.size (fun (_ : Unit) W => Ax x a' W))
    (hassign : ∀ (l m : Nat) (pre : List α) (x : α) (W : World) (K : Act → World → Prop), I pre W → x ∈ xs → (∀ a' W', Below W.heap.size W W' → Ax x a' W' → K a' W') → assign.wpIn (Fence.wide.inRound l) m P (Exit.then K (fun _ _ _ => False)) { tmps := a.tmps.setIfInBounds p (enc x), defers := [] } W)
    (hbody : ∀ (l m : Nat) (pre : List α) (x : α) (a' : Act) (W : World), w.heap.size ≤ l → (∃ r, W.heap[l]? = some (.loop r)) → I pre W → Ax x a' W → x ∈ xs → pre.length < xs.length → body.wpIn (Fence.wide.inRound l) m P (lvPost w.heap.size lo hi I Ix (pre ++ [x]) W) a' W)
    (hdone : ∀ (D : Nat) (W : World), w.heap.size ≤ D → I xs W → W.heap[D]? = some (.deferred (some [])) → Q .normal { a with defers := { target := .collected D, args := #[] } :: a.defers } W)
    (hstop : ∀ (D : Nat) (pre : List α) (W : World), w.heap.size ≤ D → Ix pre W → W.heap[D]? = some (.deferred (some [])) → Code.ret.wpIn Fence.wide n P Q { a with defers := { target := .collected D, args := #[] } :: a.defers } W) :
    (Code.rangeFunc g #[p] assign body).wpIn Fence.wide n P Q a w := by
  refine wpIn_rangeFunc ?_
  intro fn hfn
  have hsW : ((w.alloc (.deferred (some []))).alloc (.loop { state := .ready, pending := none, fn, tmps := a.tmps, params := #[p], assign, body, defers := w.heap.size })).heap.size = w.heap.size + 2 := by simp
  have hb1 : Below w.heap.size w ((w.alloc (.deferred (some []))).alloc (.loop { state := .ready, pending := none, fn, tmps := a.tmps, params := #[p], assign, body, defers := w.heap.size })) := ((Below.refl _ _).alloc (Nat.le_refl _) _).alloc (by simp) _
  have hr1 : ((w.alloc (.deferred (some []))).alloc (.loop { state := .ready, pending := none, fn, tmps := a.tmps, params := #[p], assign, body, defers := w.heap.size })).heap[w.heap.size + 1]? = some (.loop { state := .ready, pending := none, fn, tmps := a.tmps, params := #[p], assign, body, defers := w.heap.size }) := by
    have := World.alloc_heap_new (w.alloc (.deferred (some []))) (.loop { state := .ready, pending := none, fn, tmps := a.tmps, params := #[p], assign, body, defers := w.heap.size }); rwa [World.size_alloc] at this
  have hd1 : ((w.alloc (.deferred (some []))).alloc (.loop { state := .ready, pending := none, fn, tmps := a.tmps, params := #[p], assign, body, defers := w.heap.size })).heap[w.heap.size]? = some (.deferred (some [])) := (Below.heap_alloc _ _ _ (by simp)).trans (World.alloc_heap_new w _)
  obtain ⟨W1, hW1⟩ : ∃ W1, (w.alloc (.deferred (some []))).alloc (.loop { state := .ready, pending := none, fn, tmps := a.tmps, params := #[p], assign, body, defers := w.heap.size }) = W1 := ⟨_, rfl⟩
  rw [hW1] at hsW hb1 hr1 hd1
  refine ⟨w.heap.size + 1, [{ target := .collected w.heap.size, args := #[] }], W1, { target := .fn (.func gf) lb, args := #[.func (.yield (w.heap.size + 1)) #[] #[]] }, W1, gf, #[.func (.yield (w.heap.size + 1)) #[] #[]] ++ lb, W1, ?_, ?_, fun _ _ => trivial, ?_, fun h => by simp [Fence.wide] at h, ?_⟩
  · rw [← hW1]; exact run_enterLoop_outer _ _ _ _ _
  · simp only [resolve, hg]
    simp [go_sem]
  · simp [invoke, go_sem, eg]
  refine callsIn_wide.2 ((rng_core (w := w) hr1 (by omega) hb1 hits hb0 hhi I Ix hI hIx h0 (fun W => W.heap[w.heap.size]? = some (.deferred (some []))) ?_ (fun A o h => (World.putObj_heap_other (by omega)).trans h) (fun A B h hk => (hk.own _ (Nat.le_refl _) (Array.getElem?_eq_some_iff.1 h).1).trans h) hd1 Ax hAx (hassign _) (fun m pre x a' W hr => hbody _ m pre x a' W (by omega) hr)).mono ?_)
  · exact ⟨fun _ A B h hb => (hb.block _ (Array.getElem?_eq_some_iff.1 h).1).trans h, fun _ A k o o' h hk h1 h2 => (World.putObj_heap_other (by rw [hsW] at hk; omega)).trans h⟩
  · rintro e W ⟨⟨v, rfl⟩, ⟨hJ, hr, hx⟩ | ⟨pre, hJ, hr, hx⟩⟩
    · exact ⟨none, _, run_endLoop hr (by simp), hdone _ _ (Nat.le_refl _) (hI.turn _ W _ _ _ hJ (by omega) hr rfl) ((World.putObj_heap_other (by omega)).trans hx)⟩
    · exact ⟨some .ret, _, run_endLoop hr (by simp), hstop _ pre _ (Nat.le_refl _) (hIx.turn _ W _ _ _ hJ (by omega) hr rfl) ((World.putObj_heap_other (by omega)).trans hx)⟩
/-- **a loop over a function in a round of another** -/
theorem wp_rng_in {n l₀ : Nat} {r₀ : Loop} {g : Operand} {p : Tmp} {assign body : Code} {Q : Exit → Act → World → Prop} {a : Act} (hl₀ : w.heap[l₀]? = some (.loop r₀)) (hg : a.eval g = .func (.func gf) #[] lb) (eg : ∀ args w, (callFunc gf args).run P w = .ok (.enter gf args) w)
    (hits : Its P gf lb lo hi enc xs w0) (hb0 : Rg lo hi w0 w) (hhi : hi ≤ w.heap.size)
    (I Ix : List α → World → Prop) (hI : Abd w.heap.size I) (hIx : Abd w.heap.size Ix) (h0 : I [] w)
    (Ax : α → Act → World → Prop) (hAx : ∀ x a', Abd w.heap.size (fun (_ : Unit) W => Ax x a' W))
    (hassign : ∀ (l m : Nat) (pre : List α) (x : α) (W : World) (K : Act → World → Prop), I pre W → x ∈ xs → (∀ a' W', Below W.heap.size W W' → Ax x a' W' → K a' W') → assign.wpIn (Fence.wide.inRound l) m P (Exit.then K (fun _ _ _ => False)) { tmps := a.tmps.setIfInBounds p (enc x), defers := [] } W)
    (hbody : ∀ (l m : Nat) (pre : List α) (x : α) (a' : Act) (W : World), w.heap.size ≤ l → (∃ r, W.heap[l]? = some (.loop r)) → I pre W → Ax x a' W → x ∈ xs → pre.length < xs.length → body.wpIn (Fence.wide.inRound l) m P (lvPost w.heap.size lo hi I Ix (pre ++ [x]) W) a' W)
    (hdone : ∀ (W : World), I xs W → Q .normal a W)
    (hstop : ∀ (pre : List α) (W : World), Ix pre W → Code.ret.wpIn (Fence.wide.inRound l₀) n P Q a W) :
    (Code.rangeFunc g #[p] assign body).wpIn (Fence.wide.inRound l₀) n P Q a w := by
  refine wpIn_rangeFunc ?_
  intro fn hfn
  have hsW : (w.alloc (.loop { state := .ready, pending := none, fn, tmps := a.tmps, params := #[p], assign, body, defers := r₀.defers })).heap.size = w.heap.size + 1 := by simp
  have hb1 : Below w.heap.size w (w.alloc (.loop { state := .ready, pending := none, fn, tmps := a.tmps, params := #[p], assign, body, defers := r₀.defers })) := (Below.refl _ _).alloc (Nat.le_refl _) _
  have hr1 := World.alloc_heap_new w (.loop { state := .ready, pending := none, fn, tmps := a.tmps, params := #[p], assign, body, defers := r₀.defers })
  obtain ⟨W1, hW1⟩ : ∃ W1, w.alloc (.loop { state := .ready, pending := none, fn, tmps := a.tmps, params := #[p], assign, body, defers := r₀.defers }) = W1 := ⟨_, rfl⟩
  rw [hW1] at hsW hb1 hr1
  refine ⟨w.heap.size, [], W1, { target := .fn (.func gf) lb, args := #[.func (.yield w.heap.size) #[] #[]] }, W1, gf, #[.func (.yield w.heap.size) #[] #[]] ++ lb, W1, ?_, ?_, fun _ _ => trivial, ?_, fun h => by simp [Fence.wide, Fence.inRound] at h, ?_⟩
  · rw [← hW1]; exact run_enterLoop_inner hl₀ _ _ _ _ _
  · simp only [resolve, hg]
    simp [go_sem]
  · simp [invoke, go_sem, eg]
  refine CallsIn.inRound l₀ (callsIn_wide.2 ((rng_core (w := w) hr1 (Nat.le_refl _) hb1 hits hb0 hhi I Ix hI hIx h0 (fun W => True) (Abd.pure _ _) (fun A o h => trivial) (fun A B h hk => trivial) trivial Ax hAx (hassign _) (fun m pre x a' W hr => hbody _ m pre x a' W (Nat.le_refl _) hr)).mono ?_))
  rintro e W ⟨⟨v, rfl⟩, ⟨hJ, hr, hx⟩ | ⟨pre, hJ, hr, hx⟩⟩
  · exact ⟨none, _, run_endLoop hr (by simp), hdone _ (hI.turn _ W _ _ _ hJ (Nat.le_refl _) hr rfl)⟩
  · exact ⟨some .ret, _, run_endLoop hr (by simp), hstop pre _ (hIx.turn _ W _ _ _ hJ (Nat.le_refl _) hr rfl)⟩
end
end Go.Proofs.Ytgklilckjpbdnaa
/-
  Regions that draw their order, in a round of a loop over a function: what yields in all worlds that meet a property may be taken first.
-/
namespace Go.Proofs.Ytgklilckjpbdnaa
open Go.RowKit
set_option linter.unusedVariables false
set_option linter.unusedSimpArgs false

section
variable {l n : Nat} {P : Program} {ops : Array Oper} {Q : Exit → Act → World → Prop} {md : Region.Mode} {S : World → Prop}
/-- no statement of the region defers a call -/
def NoDefer (ops : Array Oper) : Prop := ∀ (i : Nat) (o : Oper), ops[i]? = some o → ∀ c, o.op ≠ .defer c
theorem noDefer_of {ops : Array Oper} (h : ops.all (fun o => match o.op with | .defer _ => false | _ => true) = true) : NoDefer ops := fun i o ho c e => by
  have h1 := (Array.all_eq_true.1 h) i (Array.getElem?_eq_some_iff.1 ho).1
  rw [(Array.getElem?_eq_some_iff.1 ho).2, e] at h1
  cases h1
theorem semR {o : Oper} (h : ∀ c, o.op ≠ .defer c) (ρ : Operand → Value) : Oper.semAt (Fence.wide.inRound l).round ρ o = execOp ρ o := Oper.semAt_some l ρ o h
theorem takeOp {i : Nat} {o : Oper} {v : Value} {a : Act} (hd : NoDefer ops) (hi : ops[i]? = some o) (hy : YieldsIf P ops S o v a) {K : Act → World → Prop} {w : World} (hS : S w) (h : K (a.put o.dst v) w) : wpOpIn (Fence.wide.inRound l) n P ops Q i K a w := by
  unfold wpOpIn
  simp only [hi]
  rcases hy with ⟨hw, hv⟩ | ⟨hw, rfl⟩
  · rw [if_pos hw]
    exact ⟨fun _ _ => trivial, by rw [semR (hd i o hi), hv w hS]; exact h⟩
  · rw [if_neg (by rw [hw]; simp)]
    exact ⟨fun _ _ => trivial, h⟩
/-- an operation that is apart from one that yields does not hang on whether that one has come up -/
theorem swapOp {j : Nat} {oi oj : Oper} {v : Value} (hd : NoDefer ops) (hj : ops[j]? = some oj) (hap : oi.apart ops oj = true) (hsi : ∀ cs b, oi.op ≠ .select cs b) (hsj : ∀ cs b, oj.op ≠ .select cs b)
    (hQ : ∀ c a w, Q (.panic c) (a.put oi.dst v) w → Q (.panic c) a w) {K : Act → World → Prop} {a : Act} {w : World} (hy : YieldsIf P ops S oi v a) (h : wpOpIn (Fence.wide.inRound l) n P ops Q j K (a.put oi.dst v) w) :
    wpOpIn (Fence.wide.inRound l) n P ops Q j (fun a' w' => YieldsIf P ops S oi v a' ∧ K (a'.put oi.dst v) w') a w := by
  obtain ⟨h1, h2, h3⟩ := Oper.apart_spec hap
  have keep : ∀ (a : Act), YieldsIf P ops S oi v a → ∀ u, YieldsIf P ops S oi v (a.put oj.dst u) := fun a hy u => hy.of_same (execOp_put oi hsi a oj.dst u h3) (wanted_put oi a oj.dst u h3)
  have hdj := hd j oj hj
  unfold wpOpIn at *
  simp only [hj] at *
  rw [wanted_put oj a oi.dst v h1] at h
  by_cases hw : Region.wanted oj (yielded ops a.tmps) = true
  · rw [if_pos hw] at h ⊢
    refine ⟨fun _ _ => trivial, ?_⟩
    have h := h.2
    rw [semR (hdj), execOp_put oj hsj a oi.dst v h1] at h
    rw [semR (hdj)]
    generalize hr : (execOp a.eval oj).run P w = r at *
    cases r with
    | ok x w' =>
      cases x with
      | value u => exact ⟨keep a hy u, by rw [← Act.put_comm a v u h2]; exact h⟩
      | skip => exact ⟨keep a hy _, by rw [← Act.put_comm a v undef h2]; exact h⟩
      | defer d => exact ⟨keep { a with defers := d :: a.defers } (hy.of_same rfl rfl) _, by rw [← Act.put_comm _ v undef h2, ← Act.put_defers]; exact h⟩
      | enter f args =>
        refine ⟨h.1, CallsIn.mono h.2 fun e w'' he => ?_⟩
        cases e with
        | returned u => exact ⟨keep a hy u, by rw [← Act.put_comm a v u h2]; exact he⟩
        | panicked c => exact hQ _ _ _ he
        | outgrown => exact he
      | row row args => exact ⟨h.1, RowsIn.mono h.2 fun u w'' he => ⟨keep a hy u, by rw [← Act.put_comm a v u h2]; exact he⟩⟩
      | round l f tmps assign body =>
        refine ⟨h.1, RoundIn.mono h.2 fun e w'' he => ?_⟩
        cases e with
        | returned u => exact ⟨keep a hy u, by rw [← Act.put_comm a v u h2]; exact he⟩
        | panicked c => exact hQ _ _ _ he
        | outgrown => exact he
      | _ => exact h
    | halt x w' =>
      cases x with
      | panic u => exact hQ _ _ _ h
      | _ => exact h
  · rw [if_neg hw] at h ⊢
    exact ⟨fun _ _ => trivial, keep a hy _, by rw [← Act.put_comm a v undef h2]; exact h.2⟩
/-- whatever order, with S behind every operation -/
def AnyR (l n : Nat) (P : Program) (md : Region.Mode) (ops : Array Oper) (Q : Exit → Act → World → Prop) (S : World → Prop) : Nat → Array Bool → Act → World → Prop
  | 0, listed, a, w => Region.ready md ops listed = [] ∧ Q .normal a w
  | fuel + 1, listed, a, w => (Region.ready md ops listed = [] → Q .normal a w) ∧ ∀ i ∈ Region.ready md ops listed, wpOpIn (Fence.wide.inRound l) n P ops Q i (fun a' w' => S w' ∧ AnyR l n P md ops Q S fuel (listed.setIfInBounds i true) a' w') a w
theorem anyR_in : ∀ (fuel : Nat) (listed : Array Bool) (a : Act) (w : World), AnyR l n P md ops Q S fuel listed a w → wpAnyIn (Fence.wide.inRound l) n P md ops Q fuel listed a w
  | 0, _, _, _, h => h
  | fuel + 1, _, _, _, h => ⟨h.1, fun i hi => wpOpIn_mono (fun a' w' h' => anyR_in fuel _ a' w' h'.2) (h.2 i hi)⟩
theorem anyR_first {i : Nat} {oi : Oper} {v : Value} (hd : NoDefer ops) (hi : ops[i]? = some oi) (hsel : ∀ (j : Nat) (o : Oper) cs b, ops[j]? = some o → o.op ≠ .select cs b) (hQ : ∀ c a w, Q (.panic c) (a.put oi.dst v) w → Q (.panic c) a w) :
    ∀ (fuel : Nat) (listed : Array Bool) (a : Act) (w : World), (∀ j oj, ops[j]? = some oj → j ≠ i → listed.getD j true = false → (∀ e ∈ oj.after, Region.binds md e = true → e.on ≠ i) → oi.apart ops oj = true) →
      i ∈ Region.ready md ops listed → YieldsIf P ops S oi v a → S w → AnyR l n P md ops Q S fuel (listed.setIfInBounds i true) (a.put oi.dst v) w → AnyR l n P md ops Q S (fuel + 1) listed a w := by
  intro fuel
  induction fuel with
  | zero =>
    intro listed a w _ hr hy hS H
    refine ⟨fun h => (by rw [h] at hr; cases hr), fun j hj => ?_⟩
    by_cases hji : j = i
    · subst hji; exact takeOp hd hi hy hS ⟨hS, H⟩
    · have := ready_mono hj hji
      rw [H.1] at this
      cases this
  | succ fuel ih =>
    intro listed a w hfree hr hy hS H
    refine ⟨fun h => (by rw [h] at hr; cases hr), fun j hj => ?_⟩
    by_cases hji : j = i
    · subst hji; exact takeOp hd hi hy hS ⟨hS, H⟩
    · obtain ⟨hjun, oj, hoj, hall⟩ := mem_ready.1 hj
      have hnot : ∀ e ∈ oj.after, Region.binds md e = true → e.on ≠ i := fun e he hb heq => by
        have h1 := hall e he hb
        have h0 := (mem_ready.1 hr).1
        rw [heq] at h1
        rcases Nat.lt_or_ge i listed.size with h' | h'
        · simp [h'] at h0 h1; rw [h0] at h1; cases h1
        · simp [Array.getElem?_eq_none h'] at h1
      have h2 := swapOp hd hoj (hfree j oj hoj hji hjun hnot) (fun cs b => hsel i oi cs b hi) (fun cs b => hsel j oj cs b hoj) hQ hy (H.2 j (ready_mono hj hji))
      have hfree' : ∀ k ok, ops[k]? = some ok → k ≠ i → (listed.setIfInBounds j true).getD k true = false → (∀ e ∈ ok.after, Region.binds md e = true → e.on ≠ i) → oi.apart ops ok = true := fun k ok hk hki hun hno => by
        refine hfree k ok hk hki ?_ hno
        by_cases hjk : j = k
        · subst hjk; exact hjun
        · rw [getD_set_ne true hjk] at hun; exact hun
      refine wpOpIn_mono (fun a' w' h3 => ⟨h3.2.1, ih (listed.setIfInBounds j true) a' w' hfree' (ready_mono hr (Ne.symm hji)) h3.1 h3.2.1 ?_⟩) h2
      rw [Array.setIfInBounds_comm _ _ hji]
      exact h3.2.2
/-- number i is taken first -/
theorem anyR_take {i : Nat} {oi : Oper} {v : Value} {fuel : Nat} {listed : Array Bool} {a : Act} {w : World} (hd : NoDefer ops) (hi : ops[i]? = some oi) (hs : Region.noSelect ops = true) (hf : Region.free md ops listed i = true) (hr : (Region.ready md ops listed).contains i = true)
    (hQ : ∀ c a w, Q (.panic c) (a.put oi.dst v) w → Q (.panic c) a w) (hy : YieldsIf P ops S oi v a) (hS : S w) (h : AnyR l n P md ops Q S fuel (listed.setIfInBounds i true) (a.put oi.dst v) w) : AnyR l n P md ops Q S (fuel + 1) listed a w :=
  anyR_first hd hi (Region.noSelect_spec hs) hQ fuel listed a w (Region.free_spec hi hf) (by simpa using hr) hy hS h
/-- number i alone may come up -/
theorem anyR_one {i : Nat} {o : Oper} {fuel : Nat} {listed : Array Bool} {a : Act} {w : World} (hd : NoDefer ops) (hi : ops[i]? = some o) (hr : Region.ready md ops listed = [i]) (hw : Region.wanted o (yielded ops a.tmps) = true)
    (h : o.uponIn (Fence.wide.inRound l) n P a (fun a' w' => S w' ∧ AnyR l n P md ops Q S fuel (listed.setIfInBounds i true) a' w') Q ((execOp a.eval o).run P w)) : AnyR l n P md ops Q S (fuel + 1) listed a w := by
  refine ⟨fun h0 => (by rw [hr] at h0; cases h0), fun j hj => ?_⟩
  rw [hr, List.mem_singleton] at hj
  subst hj
  unfold wpOpIn
  simp only [hi]
  rw [if_pos hw]
  exact ⟨fun _ _ => trivial, by rw [semR (hd j o hi)]; exact h⟩
theorem anyR_done {listed : Array Bool} {a : Act} {w : World} (hr : Region.ready md ops listed = []) (h : Q .normal a w) : ∀ fuel, AnyR l n P md ops Q S fuel listed a w
  | 0 => ⟨hr, h⟩
  | _ + 1 => ⟨fun _ => h, by rw [hr]; simp⟩
/-- the beginning -/
theorem regionR {id : Nat} {a : Act} {w : World} (hm : P.follows .mixedOrders = true) (hS : S w.drew) (h : S w.drew → AnyR l n P .any ops Q S ops.size (Array.replicate ops.size false) a w.drew) : (Code.region id ops true).wpIn (Fence.wide.inRound l) n P Q a w :=
  wpIn_region_any hm (anyR_in _ _ _ _ (h hS))
/-- a call -/
theorem upon_call {o : Oper} {a : Act} {w : World} {next : Act → World → Prop} {f : FuncId} {args : Array Value} {R : Ending → World → Prop} (he : (execOp a.eval o).run P w = .ok (.enter f args) w) (hc : Calls P f args w R)
    (h : ∀ e w', R e w' → ∃ v, e = .returned v ∧ next (a.put o.dst v) w') : o.uponIn (Fence.wide.inRound l) n P a next Q ((execOp a.eval o).run P w) := by
  rw [he]
  refine ⟨fun h => by simp [Fence.wide, Fence.inRound] at h, CallsIn.inRound l (CallsIn.mono (callsIn_wide.2 hc) fun e w' hr => ?_)⟩
  obtain ⟨v, rfl, hn⟩ := h e w' hr
  exact hn
/-- a round of a loop around -/
theorem upon_round {o : Oper} {a : Act} {w : World} {next : Act → World → Prop} {l0 m : Nat} {fn : FuncId} {tmps : Array Value} {assign body : Code} {R : Ending → World → Prop} (he : (execOp a.eval o).run P w = .ok (.round l0 fn tmps assign body) w) (hR : RoundIn Fence.wide m P l0 fn tmps assign body w R)
    (h : ∀ e w', R e w' → ∃ v, e = .returned v ∧ next (a.put o.dst v) w') : o.uponIn (Fence.wide.inRound l) n P a next Q ((execOp a.eval o).run P w) := by
  rw [he]
  refine ⟨fun h => by simp [Fence.wide, Fence.inRound] at h, ?_⟩
  refine RoundIn.mono (n := n - 1) (F := Fence.wide.inRound l) ⟨trivial, fun c cs _ => hR.2 c cs (room_wide _)⟩ fun e w' hr => ?_
  obtain ⟨v, rfl, hn⟩ := h e w' hr
  exact hn
theorem upon_value {o : Oper} {a : Act} {w : World} {next : Act → World → Prop} {v : Value} (he : (execOp a.eval o).run P w = .ok (.value v) w) (h : next (a.put o.dst v) w) : o.uponIn (Fence.wide.inRound l) n P a next Q ((execOp a.eval o).run P w) := by
  rw [he]; exact h
end
end Go.Proofs.Ytgklilckjpbdnaa
/-
  A text is split into those of trees.
-/
namespace Go.Proofs.Ytgklilckjpbdnaa
open Go.RowKit Fld
set_option linter.unusedVariables false
set_option linter.unusedSimpArgs false
set_option maxRecDepth 100000

theorem extract_S (s : List UInt8) (a b : Nat) : (⟨s.toArray⟩ : ByteArray).extract a b = ⟨((s.drop a).take (b - a)).toArray⟩ := by
  apply ByteArray.ext
  simp [ByteArray.data_extract]
theorem tr_open {cur : List UInt8} {o : Nat} {acc : List (List UInt8)} {s : List UInt8} {p : Nat} (h : s[p]? = some 91) : Tr.trF cur o acc (s.drop p) = Tr.trF (cur ++ [91]) (o + 1) acc (s.drop (p + 1)) := by
  have hlt : p < s.length := by
    rcases Nat.lt_or_ge p s.length with g | g
    · exact g
    · rw [List.getElem?_eq_none g] at h; cases h
  rw [List.getElem?_eq_getElem hlt] at h
  injection h with h
  rw [List.drop_eq_getElem_cons hlt, h, Tr.trF, if_pos rfl]
theorem tr_close {cur : List UInt8} {o : Nat} {acc : List (List UInt8)} {s : List UInt8} {p : Nat} (h : s[p]? = some 93) : Tr.trF cur o acc (s.drop p) = if o = 0 then ([], false) else if o = 1 then Tr.trF [] 0 (acc ++ [cur ++ [93]]) (s.drop (p + 1)) else Tr.trF (cur ++ [93]) (o - 1) acc (s.drop (p + 1)) := by
  have hlt : p < s.length := by
    rcases Nat.lt_or_ge p s.length with g | g
    · exact g
    · rw [List.getElem?_eq_none g] at h; cases h
  rw [List.getElem?_eq_getElem hlt] at h
  injection h with h
  rw [List.drop_eq_getElem_cons hlt, h, Tr.trF, if_neg (by decide), if_pos rfl]
theorem tr_other {cur : List UInt8} {o : Nat} {acc : List (List UInt8)} {s : List UInt8} {p : Nat} {c : UInt8} (h : s[p]? = some c) (h1 : c ≠ 91) (h2 : c ≠ 93) : Tr.trF cur o acc (s.drop p) = ([], false) := by
  have hlt : p < s.length := by
    rcases Nat.lt_or_ge p s.length with g | g
    · exact g
    · rw [List.getElem?_eq_none g] at h; cases h
  rw [List.getElem?_eq_getElem hlt] at h
  injection h with h
  rw [List.drop_eq_getElem_cons hlt, h, Tr.trF, if_neg h1, if_neg h2]
theorem cut_step {s : List UInt8} {a p : Nat} {c : UInt8} (h : s[p]? = some c) (ha : a ≤ p) : (s.drop a).take (p + 1 - a) = (s.drop a).take (p - a) ++ [c] := by
  rw [show p + 1 - a = p - a + 1 from by omega, List.take_add_one, List.getElem?_drop, show a + (p - a) = p from by omega, h]; rfl
/-- the texts of trees, and whether there are no others -/
def ResT (r : List (List UInt8) × Bool) (w : World) (e : Ending) (w' : World) : Prop :=
  ∃ A q c, e = .returned (.tuple #[.slice A q c, .bool r.2]) ∧ w'.ownsRow w.heap.size 40 1 (.slice A q c) q (strs r.1) ∧ Below w.heap.size w w'
theorem ResT.none {r : List (List UInt8) × Bool} {w w' : World} (h : r = ([], false)) (hb : Below w.heap.size w w') : ResT r w (.returned (.tuple #[.slice none 0 0, .bool false])) w' := by
  subst h; exact ⟨_, _, _, rfl, World.ownsRow_nil .., hb⟩
set_option maxHeartbeats 2000000 in
theorem treesIn_any (s : List UInt8) (w : World) (hn : s.length ≤ 1048576) :
    Calls Try.prog 67 #[.string ⟨s.toArray⟩] w (ResT (Tr.trF [] 0 [] s) w) := by
  obtain ⟨i0, hi, hz0, hz1, hz2⟩ := info_parts info_tree
  have HN := Lib.hid hn
  obtain ⟨S, hS⟩ : ∃ S : ByteArray, S = ⟨s.toArray⟩ := ⟨_, rfl⟩
  have HSZ : Hid (S.size = s.length) := by rw [Hid, hS]; exact size_S s
  have HS := Lib.hid hS
  rw [← hS]
  have hs20 : S.size ≤ 1048576 := by rw [HSZ.out]; exact hn
  clear hS hn
  go_enter Try.func67, Try.ntmps67
  go_wp2_with fail
  go_loopw [4, 5, 6] (fun v a o wr => ∃ (p st op q cv : Nat) (Av : Option Addr) (acc : List (List UInt8)), p ≤ S.size ∧ st ≤ p ∧ op ≤ p ∧ q ≤ p ∧ v = .slice Av q cv ∧ a = .int .i64 st ∧ o = .int .i64 op ∧ wr.heap[w.heap.size]? = some (.stringIter S p) ∧ Hid (Tr.trF [] 0 [] s = Tr.trF ((s.drop st).take (p - st)) op acc (s.drop p)) ∧ Hid (wr.ownsRow w.heap.size 40 1 (.slice Av q cv) q (strs acc)) ∧ Below w.heap.size w wr) (fun _ _ _ wr => S.size - wr.iterPos w.heap.size)
  case atStart => exact ⟨0, 0, 0, 0, 0, none, [], Nat.zero_le _, Nat.le_refl _, Nat.le_refl _, Nat.le_refl _, rfl, rfl, rfl, World.iter_heap w S 0, by simp [Hid], World.ownsRow_nil .., (Below.refl _ _).alloc (Nat.le_refl _) _⟩
  case round =>
    obtain ⟨p, st, op, q, cv, Av, acc, hp, hst, hop, hq, rfl, rfl, rfl, hit, HE, HO, HBw⟩ := hrel
    have hlt := (Array.getElem?_eq_some_iff.1 hit).1
    by_cases hps : p < S.size
    · obtain ⟨c, hc⟩ := at_lt (show p < s.length by rw [← HSZ.out]; exact hps)
      have hbyte : S[p]'hps = c := by
        have hS := HS.out
        subst hS
        exact byte_at hc hps
      have HIT := Lib.hid hit
      by_cases hasc : c.toNat < 128
      · have hnx : ∀ ty, (Instr.next (.pointer (some ⟨w.heap.size, 0, none⟩)) true ty).run Try.prog wr = _ := fun ty => Lib.run_next_ascii_at wr w.heap.size S p ty hit hps (by rw [hbyte]; exact hasc)
        rw [hbyte] at hnx
        have hit2 := Lib.iterAt_heap wr w.heap.size S p (p + 1) hit
        have HO2 := Lib.hid (own_iterAt (p' := p + 1) HO.out hit)
        have HB2 := Lib.hid (Lib.below_iterAt HBw (k := w.heap.size) (Nat.le_refl _) S (p + 1))
        have hsz2 : (wr.iterAt w.heap.size S (p + 1)).heap.size = wr.heap.size := Lib.iterAt_size ..
        have hW1 : w.heap.size < (wr.iterAt w.heap.size S (p + 1)).heap.size := by rw [hsz2]; exact hlt
        by_cases h91 : c = 91
        · subst h91
          have e91 : ((91 : UInt8).toNat : Int) = 91 := rfl
          rw [e91] at hnx
          have HE2 : Hid (Tr.trF [] 0 [] s = Tr.trF ((s.drop st).take (p + 1 - st)) (op + 1) acc (s.drop (p + 1))) := by rw [Hid, HE.out, tr_open hc, cut_step hc hst]
          generalize hW : wr.iterAt w.heap.size S (p + 1) = W at *
          have HH2 := Lib.hid hit2
          have t0 : ((op : Int) + 1 == 0) = false := beq_f (by omega)
          clear hc hbyte hasc HE HBw HO hit hW hit2 hsz2
          go_wp2
          go_roundw
          case rel => exact ⟨p + 1, st, op + 1, q, cv, Av, acc, by omega, by omega, by omega, by omega, rfl, rfl, by go_num, HH2.out, HE2, HO2, HB2.out⟩
          case measure =>
            simp only [World.iterPos, HH2.out, HIT.out]
            omega
        · by_cases h93 : c = 93
          · subst h93
            have e93 : ((93 : UInt8).toNat : Int) = 93 := rfl
            rw [e93] at hnx
            have HTC := Lib.hid (HE.out.trans (tr_close hc))
            have HCUT : Hid ((s.drop st).take (p + 1 - st) = (s.drop st).take (p - st) ++ [93]) := cut_step hc hst
            generalize hW : wr.iterAt w.heap.size S (p + 1) = W at *
            have HH2 := Lib.hid hit2
            clear hc hbyte hasc HE HBw HO hit hW hit2 hsz2
            rcases (show op = 0 ∨ op = 1 ∨ 2 ≤ op by omega) with rfl | rfl | h2
            · have G : Hid (Tr.trF [] 0 [] s = ([], false)) := by rw [Hid, HTC.out, if_pos rfl]
              clear HTC
              go_wp2
              go_ret2
              exact ResT.none G.out HB2.out
            · have HE2 : Hid (Tr.trF [] 0 [] s = Tr.trF ((s.drop (p + 1)).take (p + 1 - (p + 1))) 0 (acc ++ [(s.drop st).take (p + 1 - st)]) (s.drop (p + 1))) := by
                rw [Hid, HTC.out, if_neg (by decide), if_pos rfl, Nat.sub_self, List.take_zero, HCUT.out]
              have HX : Hid (S.extract st (p + 1) = ⟨((s.drop st).take (p + 1 - st)).toArray⟩) := by rw [Hid, HS.out]; exact extract_S s st (p + 1)
              obtain ⟨X, hX⟩ : ∃ X, X = S.extract st (p + 1) := ⟨_, rfl⟩
              have HXX : Hid (S.extract st (p + 1) = X) := hX.symm
              have hown2 := HO2.out
              have hp1 : p + 1 ≤ S.size := hps
              clear HTC
              have hsl : ∀ W, (Instr.slice 9 (.string S) (some (.int .i64 (st : Int))) (some (.int .i64 ((p : Int) + 1))) none).run Try.prog W = .ok (.string X) W := fun W => by
                rw [run_slice_string W 9 S .i64 .i64 st ((p : Int) + 1) Try.underlying9 (by omega) (by omega) (by omega)]
                rw [← HXX.out]
                congr 3
              clear hX
              go_wp2_with (at_builtin; (refine wpList_append_lies _ rfl (.tmp 28) (.tmp 34) 55 rfl w.heap.size 40 i0 _ 1 16 Try.underlying55 hi hz0 hz1 hz2 rfl (by omega) (.slice Av q cv) q (strs acc) rfl (hown2.alloc _) ⟨W.heap.size, 0, none⟩ 1 1 [.string X] rfl rfl (World.news_of_block (cs := #[.string X]) (heap_alloc_new _ _)) (by simp [Value.oneCell']) (by omega) (by simp only [maxLen]; omega) (by omega) (by simp; omega) (W.heap.size + 1) (by simp) ?_); intro g2 cap2 w3 hown3 hgrow3 hat3 hlt3)
              have e1 : strs acc ++ [Value.string X] = strs (acc ++ [(s.drop st).take (p + 1 - st)]) := by rw [← HXX.out, HX.out]; simp [strs]
              rw [e1] at hown3
              have GI : Hid (w3.heap[w.heap.size]? = some (.stringIter S (p + 1))) := by
                rw [Hid, hgrow3.block _ (by simp; omega) (own_ne_iter HO2.out HH2.out), Lib.alloc_old _ _ _ hW1]
                exact HH2.out
              have G3 := Lib.hid hown3
              have GB3 : Hid (Below w.heap.size w w3) := (HB2.out.alloc (by omega) _).grown hgrow3 (by simp; omega) (fun z hz => (HO2.out.lt z hz).1)
              clear hown3 hgrow3 hat3 hown2 e1 hsl
              go_wp2
              go_roundw
              case rel => exact ⟨p + 1, p + 1, 0, q + 1, cap2, _, _, by omega, by omega, by omega, by omega, rfl, by go_num, rfl, GI.out, HE2, G3, GB3.out⟩
              case measure =>
                simp only [World.iterPos, GI.out, HIT.out]
                omega
            · have HE2 : Hid (Tr.trF [] 0 [] s = Tr.trF ((s.drop st).take (p + 1 - st)) (op - 1) acc (s.drop (p + 1))) := by
                rw [Hid, HTC.out, if_neg (by omega), if_neg (by omega), HCUT.out]
              have t0 : ((op : Int) - 1 == 0) = false := beq_f (by omega)
              clear HTC
              go_wp2
              go_roundw
              case rel => exact ⟨p + 1, st, op - 1, q, cv, Av, acc, by omega, by omega, by omega, by omega, rfl, rfl, by go_num, HH2.out, HE2, HO2, HB2.out⟩
              case measure =>
                simp only [World.iterPos, HH2.out, HIT.out]
                omega
          · have G : Hid (Tr.trF [] 0 [] s = ([], false)) := by rw [Hid, HE.out]; exact tr_other hc h91 h93
            have t1 : ((c.toNat : Int) == 91) = false := beq_f (fun e => h91 (UInt8.toNat_inj.1 (by simp; omega)))
            have t2 : ((c.toNat : Int) == 93) = false := beq_f (fun e => h93 (UInt8.toNat_inj.1 (by simp; omega)))
            generalize hW : wr.iterAt w.heap.size S (p + 1) = W at *
            clear hc hbyte hasc HE HBw HO hit hW hit2 hsz2 h91 h93
            go_wp2
            go_ret2
            exact ResT.none G.out HB2.out
      · have hd := decode_high S p hps (by rw [hbyte]; omega)
        have hnx : ∀ ty, (Instr.next (.pointer (some ⟨w.heap.size, 0, none⟩)) true ty).run Try.prog wr = _ := fun ty => Lib.run_next_any_at wr w.heap.size S p ty hit hps
        have h91 : c ≠ 91 := fun e => by subst e; exact hasc (by decide)
        have h93 : c ≠ 93 := fun e => by subst e; exact hasc (by decide)
        have G : Hid (Tr.trF [] 0 [] s = ([], false)) := by rw [Hid, HE.out]; exact tr_other hc h91 h93
        have HB2 := Lib.hid (Lib.below_iterAt HBw (k := w.heap.size) (Nat.le_refl _) S (p + (Utf8.decode S p).2))
        generalize hW : wr.iterAt w.heap.size S (p + (Utf8.decode S p).2) = W at *
        obtain ⟨rn, hrn⟩ : ∃ rn, rn = (Utf8.decode S p).1 := ⟨_, rfl⟩
        rw [← hrn] at hnx hd
        have t1 : ((rn : Int) == 91) = false := beq_f (by have := hd.1; omega)
        have t2 : ((rn : Int) == 93) = false := beq_f (by have := hd.1; omega)
        clear hc hbyte hasc HE HBw HO hit hW h91 h93 hrn hd
        go_wp2
        go_ret2
        exact ResT.none G.out HB2.out
    · have hnx : ∀ ty, (Instr.next (.pointer (some ⟨w.heap.size, 0, none⟩)) true ty).run Try.prog wr = _ := fun ty => Lib.run_next_end_at wr w.heap.size S p ty hit hps
      have e : Tr.trF [] 0 [] s = (acc, op == 0) := by
        have hl : s.length ≤ p := by have := HSZ.out; unfold Hid at this; omega
        have := HE.out
        rw [List.drop_of_length_le hl] at this
        rw [this]
        simp [Tr.trF]
      have G : Hid (ResT (Tr.trF [] 0 [] s) w (.returned (.tuple #[.slice Av q cv, .bool (op == 0)])) wr) := by
        rw [Hid, e]; exact ⟨Av, q, cv, rfl, HO.out, HBw⟩
      by_cases h0 : op = 0
      · subst h0
        clear HBw HE e hit
        go_wp2
        go_ret2
        exact G.out
      · have t0 : ((op : Int) == 0) = false := beq_f (by omega)
        have t1 : (op == 0) = false := by simp [h0]
        rw [t1] at G
        clear HBw HE e hit h0 t1
        go_wp2
        go_ret2
        exact G.out
end Go.Proofs.Ytgklilckjpbdnaa
/-
  The program's order of forests, by texts, and the text of a product.
-/
namespace Go.Proofs.Ytgklilckjpbdnaa
open Go.RowKit Fld
set_option linter.unusedVariables false
set_option linter.unusedSimpArgs false
set_option maxRecDepth 100000

/-- the first number that is not 0 -/
def orL : List Int → Int
  | [] => 0
  | a :: r => if a = 0 then orL r else a
theorem orL_at {xs : List Int} {k : Nat} {a : Int} (h : xs[k]? = some a) : orL (xs.drop k) = if a = 0 then orL (xs.drop (k + 1)) else a := by
  obtain ⟨q, e⟩ := List.getElem?_eq_some_iff.1 h
  rw [List.drop_eq_getElem_cons q, e, orL]
theorem orInts_any (A : Option Addr) (n c B : Nat) (xs : List Int) (w : World) (hl : xs.length = n) (hn : n ≤ 1048576) (h : Row w B A (ints xs)) :
    Calls Try.prog 113 #[.slice A n c] w fun e w' => e = .returned (.int .i64 (orL xs)) ∧ w = w' := by
  have HL := Lib.hid hl
  clear hl
  go_enter Try.func113, Try.ntmps113
  go_wp2_with fail
  go_loop [8] (fun i => ∃ k : Nat, k ≤ n ∧ i = .int .i64 k ∧ Hid (orL xs = orL (xs.drop k))) (fun i => n - (intOf i).toNat)
  case atStart => exact ⟨0, Nat.zero_le _, rfl, rfl⟩
  case round =>
    obtain ⟨k, hk, rfl, HC⟩ := hrel
    by_cases hlt : k < n
    · obtain ⟨a, ha⟩ := at_lt (show k < xs.length by rw [HL.out]; exact hlt)
      obtain ⟨b, o, rfl, _, hc⟩ := h k _ (ints_at ha)
      have HS := Lib.hid (orL_at ha)
      clear ha
      by_cases hz : a = 0
      · subst hz
        have HN : Hid (orL xs = orL (xs.drop (k + 1))) := by rw [Hid, HC.out, HS.out, if_pos rfl]
        clear HC HS
        go_wp2
        go_round
        case rel => exact ⟨k + 1, by omega, by go_num, HN⟩
        case measure => simp [intOf]; omega
      · have HN : Hid (orL xs = a) := by rw [Hid, HC.out, HS.out, if_neg hz]
        have t := bne_t hz
        clear HC HS hz
        go_wp2
        go_ret
        exact ⟨ret_i64 HN.out.symm, rfl⟩
    · obtain rfl : k = n := by omega
      have HN : Hid (orL xs = 0) := by rw [Hid, HC.out, List.drop_eq_nil_of_le (by rw [HL.out]; exact Nat.le_refl _)]; rfl
      clear HC
      go_wp2
      go_ret
      exact ⟨ret_i64 HN.out.symm, rfl⟩
/-- texts in turn, then which list ends first -/
def cmpTs : List (List UInt8) → List (List UInt8) → Int
  | a :: f, b :: g => if Tr.cmpT a b = 0 then cmpTs f g else Tr.cmpT a b
  | _ :: _, [] => 1
  | [], _ :: _ => -1
  | [], [] => 0
theorem cmpTs_at {f g : List (List UInt8)} {k : Nat} {a b : List UInt8} (hf : f[k]? = some a) (hg : g[k]? = some b) : cmpTs (f.drop k) (g.drop k) = if Tr.cmpT a b = 0 then cmpTs (f.drop (k + 1)) (g.drop (k + 1)) else Tr.cmpT a b := by
  obtain ⟨q, e⟩ := List.getElem?_eq_some_iff.1 hf
  obtain ⟨q2, e2⟩ := List.getElem?_eq_some_iff.1 hg
  rw [List.drop_eq_getElem_cons q, e, List.drop_eq_getElem_cons q2, e2, cmpTs]
theorem cmpTs_one {f g : List (List UInt8)} {k : Nat} {a : List UInt8} (hf : f[k]? = some a) (hg : g.length ≤ k) : cmpTs (f.drop k) (g.drop k) = 1 := by
  obtain ⟨q, e⟩ := List.getElem?_eq_some_iff.1 hf
  rw [List.drop_eq_getElem_cons q, e, List.drop_eq_nil_of_le hg, cmpTs]
theorem cmpTs_two {f g : List (List UInt8)} {k : Nat} (hf : f.length ≤ k) (hg : k < g.length) : cmpTs (f.drop k) (g.drop k) = -1 := by
  rw [List.drop_eq_nil_of_le hf, List.drop_eq_getElem_cons hg, cmpTs]
theorem cmpTs_end {f g : List (List UInt8)} {k : Nat} (hf : f.length ≤ k) (hg : g.length ≤ k) : cmpTs (f.drop k) (g.drop k) = 0 := by
  rw [List.drop_eq_nil_of_le hf, List.drop_eq_nil_of_le hg, cmpTs]
theorem cmpT_bd (x y : List UInt8) : -1 ≤ Tr.cmpT x y ∧ Tr.cmpT x y ≤ 1 := by
  unfold Tr.cmpT
  repeat' split
  all_goals omega
theorem forestTrees_any (s : List UInt8) (w : World) (hn : s.length ≤ 1048576) :
    Calls Try.prog 47 #[.string ⟨s.toArray⟩] w fun e w' => ∃ A q c, e = .returned (.slice A q c) ∧ w'.ownsRow w.heap.size 40 1 (.slice A q c) q (strs (Tr.trF [] 0 [] s).1) ∧ Below w.heap.size w w' := by
  go_enter Try.func47, Try.ntmps47
  go_wp2_with fail
  refine (treesIn_any s _ hn).mono ?_
  rintro e w2 ⟨A, q, c, rfl, own2, bel2⟩
  have O := Lib.hid own2
  have B := Lib.hid bel2
  clear own2 bel2
  go_wp2
  go_ret
  exact ⟨A, q, c, rfl, O.out, B.out⟩
theorem productOf_any (A : Option Addr) (base n c : Nat) (ss : List (List UInt8)) (w : World) (hn : n ≤ 12) (hs16 : ∀ s ∈ ss, s.length ≤ 16) (hbase : base ≤ w.heap.size) (h : w.ownsRow base 40 1 (.slice A n c) n (strs ss)) :
    Calls Try.prog 108 #[.slice A n c] w fun e w' => e = .returned (.string ⟨(Tr.sortT ss).flatten.toArray⟩) ∧ Below base w w' := by
  have hl : ss.length = n := by rw [← strs_length]; exact own_len h
  have hsl : (Tr.sortT ss).length = n := by rw [(sortT_perm ss).length_eq]; exact hl
  have HSL := Lib.hid hsl
  have hft : (Tr.sortT ss).flatten.length ≤ 1048576 := by
    have : ∀ (l : List (List UInt8)), (∀ s ∈ l, s.length ≤ 16) → l.flatten.length ≤ 16 * l.length := fun l => by
      induction l with
      | nil => intro _; simp
      | cons a r ih => intro q; have h1 := q a (by simp); have h2 := ih (fun s hs => q s (by simp [hs])); rw [List.flatten_cons, List.length_append, List.length_cons]; omega
    have := this (Tr.sortT ss) (fun s hs => hs16 s ((sortT_perm ss).mem_iff.1 hs))
    omega
  have HFT := Lib.hid hft
  have C0 := sortFunc_any A base n c ss w hn hs16 hbase h
  clear hl hsl hs16 h hft
  go_enter Try.func108, Try.ntmps108
  go_wp2_with fail
  refine C0.mono ?_
  rintro e w1 ⟨rfl, h1, h2, h3⟩
  have HR : Hid (Row w1 w1.heap.size A (strs (Tr.sortT ss))) := row_of_own h1
  have HB1 := Lib.hid h2
  clear h1 h2 C0
  go_wp2_with fail
  refine (textOf_any A n c w1.heap.size (Tr.sortT ss) w1 HSL.out (by omega) HFT.out (Nat.le_refl _) HR.out).mono ?_
  rintro e w2 ⟨rfl, bel2⟩
  have GB := Lib.hid (HB1.out.trans (bel2.mono h3))
  clear bel2
  go_wp2
  go_ret
  exact ⟨rfl, GB.out⟩
end Go.Proofs.Ytgklilckjpbdnaa
/-
  The branches of a tree by its text.
-/
namespace Go.Proofs.Ytgklilckjpbdnaa
open Go.RowKit Fld
set_option linter.unusedVariables false
set_option linter.unusedSimpArgs false
set_option maxRecDepth 100000

/-- texts of the call's own -/
def ResTs (l : List (List UInt8)) (w : World) (e : Ending) (w' : World) : Prop :=
  ∃ A q c, e = .returned (.slice A q c) ∧ q = l.length ∧ w'.ownsRow w.heap.size 40 1 (.slice A q c) q (strs l) ∧ Below w.heap.size w w'
theorem branches_any (x : List UInt8) (w : World) (hx : Tr.isTx x = true) :
    Calls Try.prog 45 #[.string ⟨x.toArray⟩] w (ResTs (Tr.brT x) w) := by
  obtain ⟨⟨h2, h16⟩, _, _⟩ := Tr.br_parts hx
  obtain ⟨S, hS⟩ : ∃ S : ByteArray, S = ⟨x.toArray⟩ := ⟨_, rfl⟩
  have hsz : S.size = x.length := by rw [hS]; exact size_S x
  have HX : Hid (S.extract 1 (x.length - 1) = ⟨(Tr.inner x).toArray⟩) := by
    rw [Hid, hS, extract_S]; unfold Tr.inner; rw [show x.length - 1 - 1 = x.length - 2 from by omega]
  obtain ⟨X, hX⟩ : ∃ X, X = S.extract 1 (x.length - 1) := ⟨_, rfl⟩
  have hXX : X = ⟨(Tr.inner x).toArray⟩ := by rw [hX]; exact HX.out
  have HXX : Hid (S.extract 1 (x.length - 1) = X) := hX.symm
  have hil : (Tr.inner x).length ≤ 1048576 := by unfold Tr.inner; rw [List.length_take]; omega
  have C0 := treesIn_any (Tr.inner x) w hil
  rw [← hXX] at C0
  have hsl : ∀ W, (Instr.slice 40 (.string S) (some (.int .i64 1)) (some (.int .i64 ((S.size : Int) - 1))) none).run Try.prog W = .ok (.string X) W := fun W => by
    have h9 := run_slice_string W 40 S .i64 .i64 1 ((S.size : Int) - 1) Try.underlying40 (by omega) (by omega) (by omega)
    rw [show (S.size : Int) - 1 = ((x.length - 1 : Nat) : Int) from by omega] at h9 ⊢
    rw [h9, ← HXX.out]
    congr 3
  rw [← hS]
  have hs2 : 2 ≤ S.size := by omega
  have hs16 : S.size ≤ 16 := by omega
  clear hX hXX hS hsz h2 h16 hil hx
  go_enter Try.func45, Try.ntmps45
  go_wp2_with fail
  refine C0.mono ?_
  rintro e w1 ⟨A, q, c, rfl, own1, bel1⟩
  have G : Hid (ResTs (Tr.brT x) w (.returned (.slice A q c)) w1) := by
    refine ⟨A, q, c, rfl, ?_, own1, bel1⟩
    have := own_len own1
    rw [strs_length] at this
    exact this.symm
  clear own1 bel1
  go_wp2
  go_ret
  exact G.out
end Go.Proofs.Ytgklilckjpbdnaa
/-
  Cuts by functions that are ranged over: what each of them hands on.
-/
namespace Go.Proofs.Ytgklilckjpbdnaa
open Go.RowKit Fld Go.Shelf
set_option linter.unusedVariables false
set_option linter.unusedSimpArgs false
set_option maxRecDepth 100000
attribute [local go_sem] Oper.semAt_some

/-- an append of a slice that is nil -/
theorem run_append_nil {P : Program} (w : World) (t ty e : TypeId) (i : TypeInfo) (ht : P.underlying t = some (.slice e)) (hi : P.info? e = some i)
    (base : Option Addr) (n c : Nat) (hc : n ≤ c) : (Builtin.append_ #[t, t] ty #[.slice base n c, .slice none 0 0]).run P w = .ok (.slice base n c) w := by
  cases base <;> simp [Builtin.append_, run_underlying ht, sizeOf, typeInfo, hi, hc, storeCells, loadCells, loadCellsFrom, Builtin.lenOf, Builtin.firstCells]
theorem wpList_append_nil {P : Program} (w : World) {ops : Array Oper} {rest : List Oper} {o : Oper} {a : Act} {Q : Exit → Act → World → Prop}
    (hg : o.guard = none) (s x : Operand) (t : TypeId) (hop : o.op = Op.call { callee := Callee.builtin Builtin.append, args := #[s, x], argTypes := #[t, t] })
    (e : TypeId) (i : TypeInfo) (ht : P.underlying t = some (.slice e)) (hi : P.info? e = some i)
    (base : Option Addr) (n c : Nat) (hc : n ≤ c) (hs : a.eval s = .slice base n c) (hx : a.eval x = .slice none 0 0)
    (hK : wpList P ops Q rest (a.put o.dst (.slice base n c)) w) : wpList P ops Q (o :: rest) a w := by
  refine wpList_plain hg fun K hK' => ?_
  have hrun := run_append_nil w t o.type e i ht hi base n c hc
  unfold Oper.wp
  simp [execOp, hop, resolve, invoke, builtin, hs, hx, hrun, Result.andThen]
  exact hK' _ _ hK
def encC (c : Ct) : Value := .agg #[.string ⟨c.1.flatten.toArray⟩, .string ⟨c.2.flatten.toArray⟩]
theorem fTimes_any (f g : List Tx) (w : World) (hf : ∀ t ∈ f, Tr.isTx t = true) (hg : ∀ t ∈ g, Tr.isTx t = true) (hb : byT f + byT g ≤ 16) :
    Calls Try.prog 100 #[.string ⟨f.flatten.toArray⟩, .string ⟨g.flatten.toArray⟩] w fun e w' => e = .returned (.string ⟨(Tr.sortT (f ++ g)).flatten.toArray⟩) ∧ Below w.heap.size w w' := by
  obtain ⟨i0, hi, hz0, hz1, hz2⟩ := info_parts info_tree
  have lf := len_byT hf
  have lg := len_byT hg
  have C0 := fun w' => forestTrees_any f.flatten w' (by rw [byT_flat]; omega)
  have C1 := fun w' => forestTrees_any g.flatten w' (by rw [byT_flat]; omega)
  have e1 : (Tr.trF [] 0 [] f.flatten).1 = f := by rw [tr_flat f [] hf]; rfl
  have e2 : (Tr.trF [] 0 [] g.flatten).1 = g := by rw [tr_flat g [] hg]; rfl
  simp only [e1] at C0
  simp only [e2] at C1
  have H16 : Hid (∀ s ∈ f ++ g, s.length ≤ 16) := fun s hs => by
    rw [List.mem_append] at hs
    rcases hs with hs | hs
    · exact (Tr.br_parts (hf s hs)).1.2
    · exact (Tr.br_parts (hg s hs)).1.2
  have HFG := Lib.hid (show f.length + g.length ≤ 8 by omega)
  obtain ⟨S, hS⟩ : ∃ S : ByteArray, S = ⟨f.flatten.toArray⟩ := ⟨_, rfl⟩
  obtain ⟨T, hT⟩ : ∃ T : ByteArray, T = ⟨g.flatten.toArray⟩ := ⟨_, rfl⟩
  rw [← hS, ← hT]
  simp only [← hS] at C0
  simp only [← hT] at C1
  clear hS hT e1 e2 hf hg hb lf lg
  go_enter Try.func100, Try.ntmps100
  go_wp2_with fail
  refine (C0 _).mono ?_
  rintro e w1 ⟨A1, q1, c1, rfl, own1, bel1⟩
  have hs1 := bel1.size
  have GB1 := Lib.hid bel1
  have HO1 := Lib.hid own1
  have hq1 : q1 = f.length := by rw [← strs_length]; exact (own_len own1).symm
  have HQ1 := Lib.hid hq1
  clear own1 bel1 hq1
  go_wp2_with fail
  refine (C1 _).mono ?_
  rintro e w2 ⟨A2, q2, c2, rfl, own2, bel2⟩
  have hq2 : q2 = g.length := by rw [← strs_length]; exact (own_len own2).symm
  have HQ2 := Lib.hid hq2
  have hs2 := bel2.size
  have own1' := ((OwnR.of HO1.out).below bel2 (Nat.le_refl _)).1
  have HO1' := Lib.hid own1'
  have GB2 := Lib.hid (GB1.out.trans (bel2.mono hs1))
  have hs02 := GB2.out.size
  have hq8 : q1 + q2 ≤ 8 := by rw [HQ1.out, HQ2.out]; exact HFG.out
  clear hq2
  rcases own2.2 with ⟨hv, h0⟩ | ⟨g2, cap2, cur2, hv, _⟩
  · injection hv with ea eb ec
    subst ea ec
    have hq0 : q2 = 0 := h0
    subst hq0
    have hg0 : g = [] := List.eq_nil_of_length_eq_zero HQ2.out.symm
    have HP : Hid (∀ W, Below w2.heap.size w2 W → Calls Try.prog 108 #[.slice A1 q1 c1] w2 fun e w' => e = .returned (.string ⟨(Tr.sortT (f ++ g)).flatten.toArray⟩) ∧ Below w.heap.size w2 w') := fun W _ => by
      rw [hg0, List.append_nil]
      exact productOf_any A1 w.heap.size q1 c1 f w2 (by omega) (fun s hs => H16.out s (by simp [hs])) hs02 HO1'.out
    clear own2 bel2
    have hqc := (own_cap own1').1
    go_wp2_with (at_builtin; refine wpList_append_nil _ rfl (.tmp 6) (.tmp 8) 55 rfl 40 i0 Try.underlying55 hi A1 q1 c1 hqc rfl rfl ?_)
    refine (HP.out _ (Below.refl _ _)).mono ?_
    rintro e w6 ⟨rfl, bel6⟩
    have GB6 : Hid (Below w.heap.size w w6) := GB2.out.trans bel6
    clear bel6
    go_wp2
    go_ret
    exact ⟨by rw [hg0, List.append_nil]; rfl, GB6.out⟩
  · injection hv with ea eb ec
    subst ea ec
    have HNW := Lib.hid (row_news (row_of_own own2))
    have HNL : Hid ((strs g).length = q2 * 1) := by rw [Hid, strs_length, Nat.mul_one]; exact HQ2.out.symm
    have HON := Lib.hid (strs_one g)
    have HSA := Lib.hid (strs_app f g)
    clear own2 bel2
    go_wp2_with (at_builtin; refine wpList_append_own _ rfl (.tmp 6) (.tmp 8) 55 rfl w.heap.size 40 i0 _ 1 16 Try.underlying55 hi hz0 hz1 hz2 rfl (by omega) (.slice A1 q1 c1) q1 (strs f) rfl own1' ⟨g2, 0, none⟩ q2 _ (strs g) rfl HNL.out HNW.out HON.out (by simp only [maxLen]; omega) (by omega) (by omega) ?_; intro v5 w5 own5 hgrow5 _; obtain ⟨A5, c5, rfl⟩ := own_shape' own5)
    rw [HSA.out] at own5
    have GB5 : Hid (Below w.heap.size w w5) := GB2.out.grown hgrow5 (by omega) (fun z hz => by have := (HO1'.out.lt z hz).1; omega)
    have HO5 := Lib.hid own5
    clear own5 hgrow5 own1'
    go_wp2_with fail
    refine (productOf_any A5 w.heap.size (q1 + q2) c5 (f ++ g) w5 (by omega) H16.out GB5.out.size HO5.out).mono ?_
    rintro e w6 ⟨rfl, bel6⟩
    have GB6 : Hid (Below w.heap.size w w6) := GB5.out.trans bel6
    clear bel6
    go_wp2
    go_ret
    exact ⟨rfl, GB6.out⟩
theorem cell_oth {w : World} {b g k : Nat} {o : Nat} {v x : Value} (h : w.cell? ⟨b, o, none⟩ = some x) (hne : b ≠ g) : (w.setCell ⟨g, k, none⟩ v).cell? ⟨b, o, none⟩ = some x :=
  (World.cell?_of_block (heap_setCell_other w ⟨g, k, none⟩ b v hne)).trans h
theorem info_ct : (Try.prog.info? 69).map (·.size) = some 2 := by kernel_rfl
/-- block g is a cut -/
def CtB (w : World) (g : Nat) (a b : ByteArray) : Prop := w.heap[g]? = some (.cells #[.string a, .string b] 69 (0, 0))
theorem CtB.c0 {w : World} {g : Nat} {a b : ByteArray} (h : CtB w g a b) : w.cell? ⟨g, 0, none⟩ = some (.string a) := by rw [cell_of_row w g 0 _ _ _ h]; rfl
theorem CtB.c1 {w : World} {g : Nat} {a b : ByteArray} (h : CtB w g a b) : w.cell? ⟨g, 1, none⟩ = some (.string b) := by rw [cell_of_row w g 1 _ _ _ h]; rfl
theorem CtB.free {w : World} {g : Nat} {a b : ByteArray} (h : CtB w g a b) (k : Nat) : w.frozen? ⟨g, k, none⟩ = false := frozen_of_row w g k _ _ h
theorem CtB.lt {w : World} {g : Nat} {a b : ByteArray} (h : CtB w g a b) : g < w.heap.size := (Array.getElem?_eq_some_iff.1 h).1
theorem CtB.below {w w' : World} {g B : Nat} {a b : ByteArray} (h : CtB w g a b) (hb : Below B w w') (hg : g < B) : CtB w' g a b := (hb.block g hg).trans h
theorem CtB.next {w w' : World} {g : Nat} {a b : ByteArray} (h : CtB w g a b) (hb : Below w.heap.size w w') : CtB w' g a b := h.below hb h.lt
theorem CtB.alloc {w : World} {g : Nat} {a b : ByteArray} (h : CtB w g a b) (o : Obj) : CtB (w.alloc o) g a b := h.next ((Below.refl _ _).alloc (Nat.le_refl _) _)
theorem CtB.new (w : World) (a b : ByteArray) : CtB (w.alloc (.cells #[.string a, .string b] 69)) w.heap.size a b := heap_alloc_new w _
theorem CtB.stored {w : World} {g : Nat} {a b : ByteArray} (h : CtB w g a b) (x y : ByteArray) : CtB ((w.setCell ⟨g, 0, none⟩ (.string x)).setCell ⟨g, 1, none⟩ (.string y)) g x y := by
  have h1 := heap_setCell_same w g 0 _ _ (.string x) h
  have h2 := heap_setCell_same (w.setCell ⟨g, 0, none⟩ (.string x)) g 1 _ _ (.string y) h1
  exact h2
set_option maxHeartbeats 2000000 in
theorem beside_any (c d : Ct) (w : World) {m n : Nat} (hc : OkC m c) (hd : OkC n d) (hmn : m + n ≤ 16) :
    Calls Try.prog 82 #[encC c, encC d] w fun e w' => e = .returned (encC (besT c d)) ∧ Below w.heap.size w w' := by
  obtain ⟨c1, c2, c3⟩ := hc
  obtain ⟨d1, d2, d3⟩ := hd
  have T1 := fun W => fTimes_any c.1 d.1 W c1 d1 (by omega)
  have T2 := fun W => fTimes_any c.2 d.2 W c2 d2 (by omega)
  have EB : Hid (encC (besT c d) = .agg #[.string ⟨(Tr.sortT (c.1 ++ d.1)).flatten.toArray⟩, .string ⟨(Tr.sortT (c.2 ++ d.2)).flatten.toArray⟩]) := rfl
  rw [show encC c = .agg #[.string ⟨c.1.flatten.toArray⟩, .string ⟨c.2.flatten.toArray⟩] from rfl, show encC d = .agg #[.string ⟨d.1.flatten.toArray⟩, .string ⟨d.2.flatten.toArray⟩] from rfl, EB.out]
  obtain ⟨ca, hca⟩ : ∃ x : ByteArray, x = ⟨c.1.flatten.toArray⟩ := ⟨_, rfl⟩
  obtain ⟨cb, hcb⟩ : ∃ x : ByteArray, x = ⟨c.2.flatten.toArray⟩ := ⟨_, rfl⟩
  obtain ⟨da, hda⟩ : ∃ x : ByteArray, x = ⟨d.1.flatten.toArray⟩ := ⟨_, rfl⟩
  obtain ⟨db, hdb⟩ : ∃ x : ByteArray, x = ⟨d.2.flatten.toArray⟩ := ⟨_, rfl⟩
  obtain ⟨ra, hra⟩ : ∃ x : ByteArray, x = ⟨(Tr.sortT (c.1 ++ d.1)).flatten.toArray⟩ := ⟨_, rfl⟩
  obtain ⟨rb, hrb⟩ : ∃ x : ByteArray, x = ⟨(Tr.sortT (c.2 ++ d.2)).flatten.toArray⟩ := ⟨_, rfl⟩
  simp only [← hca, ← hda, ← hra] at T1
  simp only [← hcb, ← hdb, ← hrb] at T2
  rw [← hca, ← hcb, ← hda, ← hdb, ← hra, ← hrb]
  clear hca hcb hda hdb hra hrb EB c1 c2 c3 d1 d2 d3
  obtain ⟨W0, hW0⟩ : ∃ W0 : World, W0 = ((w.alloc (.cells #[.string ca, .string cb] 69)).alloc (.cells #[.string da, .string db] 69)).alloc (.cells #[.string ⟨#[]⟩, .string ⟨#[]⟩] 69) := ⟨_, rfl⟩
  have F0 : CtB W0 w.heap.size ca cb := by rw [hW0]; exact ((CtB.new w ca cb).alloc _).alloc _
  have F1 : CtB W0 (w.heap.size + 1) da db := by rw [hW0]; exact (by simpa using CtB.new (w.alloc (.cells #[.string ca, .string cb] 69)) da db : CtB _ (w.heap.size + 1) da db).alloc _
  have F2 : CtB W0 (w.heap.size + 2) ⟨#[]⟩ ⟨#[]⟩ := by rw [hW0]; simpa using CtB.new ((w.alloc (.cells #[.string ca, .string cb] 69)).alloc (.cells #[.string da, .string db] 69)) ⟨#[]⟩ ⟨#[]⟩
  have FB : Below w.heap.size w W0 := by rw [hW0]; exact (((Below.refl _ _).alloc (Nat.le_refl _) _).alloc (by simp) _).alloc (by simp; omega) _
  have FS : W0.heap.size = w.heap.size + 3 := by rw [hW0]; simp
  have HK : Hid (∀ W, Below W0.heap.size W0 W → W.cell? ⟨w.heap.size, 0, none⟩ = some (.string ca) ∧ W.cell? ⟨w.heap.size, 1, none⟩ = some (.string cb) ∧ W.cell? ⟨w.heap.size + 1, 0, none⟩ = some (.string da) ∧ W.cell? ⟨w.heap.size + 1, 1, none⟩ = some (.string db)) := fun W hb => ⟨(F0.next hb).c0, (F0.next hb).c1, (F1.next hb).c0, (F1.next hb).c1⟩
  have H2 : Hid (∀ W, Below W0.heap.size W0 W → CtB W (w.heap.size + 2) ⟨#[]⟩ ⟨#[]⟩) := fun W hb => F2.next hb
  have HB := Lib.hid FB
  have HS := Lib.hid FS
  clear F0 F1 F2 FB FS
  go_enter Try.func82, Try.ntmps82
  go_wp2_with fail
  change Code.wp _ _ _ _ (((w.alloc (.cells #[.string ca, .string cb] 69)).alloc (.cells #[.string da, .string db] 69)).alloc (.cells #[.string ⟨#[]⟩, .string ⟨#[]⟩] 69))
  rw [← hW0]
  clear hW0
  go_region_held3 (fun W => W.cell? ⟨w.heap.size, 0, none⟩ = some (.string ca) ∧ W.cell? ⟨w.heap.size, 1, none⟩ = some (.string cb) ∧ W.cell? ⟨w.heap.size + 1, 0, none⟩ = some (.string da) ∧ W.cell? ⟨w.heap.size + 1, 1, none⟩ = some (.string db))
    (first | exact HK.out _ (Below.refl _ _).drew | exact HK.out _ (below_drewN (Below.refl _ _) _) | exact HK.out _ (below_undrew' (a := 1) bel2) | exact HK.out w3 ((below_undrew' (a := 1) bel2).trans (bel3.mono bel2.size)) | (have hz := HK.out w3 ((below_undrew' (a := 1) bel2).trans (bel3.mono bel2.size)); exact ⟨cell_oth (cell_oth hz.1 (by omega)) (by omega), cell_oth (cell_oth hz.2.1 (by omega)) (by omega), cell_oth (cell_oth hz.2.2.1 (by omega)) (by omega), cell_oth (cell_oth hz.2.2.2 (by omega)) (by omega)⟩))
    (first
      | (go_at_call 100; refine (T1 _).mono ?_; clear T1; rintro e w2 ⟨rfl, bel2⟩)
      | (go_at_call 100; refine (T2 _).mono ?_; clear T2; rintro e w3 ⟨rfl, bel3⟩)
      | (have hz := H2.out w3 ((below_undrew' (a := 1) bel2).trans (bel3.mono bel2.size)); have z0 := hz.c0; have z1 := hz.c1; have f0 := hz.free 0; have f1 := hz.free 1; clear hz; go_simp))
  have hb3 : Below W0.heap.size W0 w3 := (below_undrew' (a := 1) bel2).trans (bel3.mono bel2.size)
  have R := (H2.out w3 hb3).stored ra rb
  have GB : Hid (Below w.heap.size w ((w3.setCell ⟨w.heap.size + 1 + 1, 0, none⟩ (.string ra)).setCell ⟨w.heap.size + 1 + 1, 1, none⟩ (.string rb))) := by
    have h0 : Below w.heap.size w w3 := HB.out.trans (hb3.mono HB.out.size)
    exact below_set (below_set h0 (by omega) _) (by omega) _
  have HR := Lib.hid R
  clear R bel2 bel3 hb3
  go_wp2
  refine bodyPost_ret (v := .agg #[.string ra, .string rb]) ?_ rfl ⟨rfl, GB.out⟩
  exact results_cell_row rfl _ _ (w.heap.size + 2) 69 _ (0, 0) _ rfl HR.out Try.underlying69 rfl info_ct
end Go.Proofs.Ytgklilckjpbdnaa
/-
  Cuts by functions that are ranged over: the closures.
-/
namespace Go.Proofs.Ytgklilckjpbdnaa
open Go.RowKit Fld Go.Shelf
set_option linter.unusedVariables false
set_option linter.unusedSimpArgs false
set_option maxRecDepth 100000
attribute [local go_sem] Oper.semAt_some

theorem CtB.range {w : World} {b : Nat} {x y : ByteArray} (h : CtB w b x y) : w.rangeAt b 0 [.string x, .string y] := fun j v hv => by
  rw [cell_of_row w b (0 + j) _ _ _ h, Nat.zero_add]
  simpa using hv
theorem CtB.yields {ops : Array Oper} {S : World → Prop} {o : Oper} {a : Act} (hw : Region.wanted o (yielded ops a.tmps) = true) (z : Operand) (ho : o.op = .load 69 z) (b : Nat) (hx : a.eval z = .pointer (some ⟨b, 0, none⟩)) (x y : ByteArray) (hS : ∀ w, S w → CtB w b x y) :
    YieldsIf Try.prog ops S o (.agg #[.string x, .string y]) a := yieldsIf_load_mid hw 69 z ho b 0 hx [.string x, .string y] _ (fun w h => (hS w h).range) Try.underlying69 rfl info_ct
/-- a value that hands on xs, whose blocks lie from lo to hi -/
def IsSeq (w : World) (lo hi : Nat) (v : Value) (xs : List Ct) : Prop :=
  ∃ (gf : Nat) (lb : Array Value), v = .func (.func gf) #[] lb ∧ (∀ args w, (callFunc gf args).run Try.prog w = .ok (.enter gf args) w) ∧ Its Try.prog gf lb lo hi encC xs w ∧ lo ≤ hi ∧ hi ≤ w.heap.size
theorem IsSeq.later {w w' : World} {lo hi : Nat} {v : Value} {xs : List Ct} (h : IsSeq w lo hi v xs) (hb : Rg lo hi w w') : IsSeq w' lo hi v xs := by
  obtain ⟨gf, lb, e, eg, hi1, h1, h2⟩ := h
  exact ⟨gf, lb, e, eg, hi1.later hb, h1, Nat.le_trans h2 hb.1⟩
theorem encC_nil : encC ([], []) = .agg #[.string ⟨#[]⟩, .string ⟨#[]⟩] := rfl
set_option maxHeartbeats 1000000 in
theorem noCutting_its (w : World) : Its Try.prog 65 #[] w.heap.size w.heap.size encC [([], [])] w := fun l J Jx W hW hJ hJx hY h0 => by
  have hy := fun m => hY [] ([], []) W m h0 (by simp) (by simp)
  rw [encC_nil] at hy
  refine (callsIn_wide (n := 3)).1 ?_
  refine callsIn_of_wp Try.func65 rfl trivial ?_ rfl
  simp only [Try.ntmps65, List.size_toArray, List.length_cons, List.length_nil, Nat.reduceAdd, Nat.reduceSub, Array.replicate_succ, Array.replicate_zero, List.push_toArray, List.append_toArray, List.nil_append, List.cons_append]
  obtain ⟨fn, tmps, assign, body, hyy, hR⟩ := hy 2
  clear hy hY
  gi_wp2
  refine hR.mono ?_
  rintro e W' (⟨rfl, hJ', hk⟩ | ⟨rfl, hJx', hk⟩)
  · gi_wp2
    go_end0
    exact ⟨⟨_, rfl⟩, .inl hJ'⟩
  · gi_wp2
    go_end0
    exact ⟨⟨_, rfl⟩, .inr ⟨_, hJx'⟩⟩
theorem togT_snoc (p q : List Ct) (x : Ct) : togT (p ++ [x]) q = togT p q ++ q.map (besT x) := by unfold togT; simp
set_option maxHeartbeats 4000000 in
theorem together_its (w : World) (g1 g2 LO HI lo1 hi1 lo2 hi2 : Nat) (v1 v2 : Value) (p q : List Ct) (h1 : w.cell? ⟨g1, 0, none⟩ = some v1) (h2 : w.cell? ⟨g2, 0, none⟩ = some v2) (s1 : IsSeq w lo1 hi1 v1 p) (s2 : IsSeq w lo2 hi2 v2 q)
    (b1 : LO ≤ lo1) (b2 : hi1 ≤ HI) (b3 : LO ≤ lo2) (b4 : hi2 ≤ HI) (b5 : LO ≤ g1 ∧ g1 < HI) (b6 : LO ≤ g2 ∧ g2 < HI) (bHI : HI ≤ w.heap.size) {m n : Nat} (hp : ∀ c ∈ p, OkC m c) (hq : ∀ c ∈ q, OkC n c) (hmn : m + n ≤ 16) :
    Its Try.prog 81 #[.pointer (some ⟨g1, 0, none⟩), .pointer (some ⟨g2, 0, none⟩)] LO HI encC (togT p q) w := fun l J Jx W hW hJ hJx hY h0 => by
  obtain ⟨gf1, lb1, rfl, eg1, hit1, _, z1⟩ := s1
  obtain ⟨gf2, lb2, rfl, eg2, hit2, _, z2⟩ := s2
  have HP := Lib.hid hp
  have HQ := Lib.hid hq
  have hc1 := (hW.cell (o := 0) b5).trans h1
  have hc2 := (hW.cell (o := 0) b6).trans h2
  have hWs := hW.1
  have HYY := Lib.hid hY
  clear hY hp hq
  have bW1 : Below W.heap.size W (W.alloc (.cells #[.func (.yield l) #[] #[]] 66)) := (Below.refl _ _).alloc (Nat.le_refl _) _
  have hcy : (W.alloc (.cells #[.func (.yield l) #[] #[]] 66)).cell? ⟨W.heap.size, 0, none⟩ = some (.func (.yield l) #[] #[]) := by rw [cell_of_row _ _ 0 _ _ _ (heap_alloc_new W _)]; rfl
  have hc1' := (bW1.cell (p := ⟨g1, 0, none⟩) (by show g1 < W.heap.size; omega)).trans hc1
  refine (callsIn_wide (n := 3)).1 ?_
  refine callsIn_of_wp_marks Try.func81 rfl trivial ?_ rfl
  simp only [Try.ntmps81, List.size_toArray, List.length_cons, List.length_nil, Nat.reduceAdd, Nat.reduceSub, Array.replicate_succ, Array.replicate_zero, List.push_toArray, List.append_toArray, List.nil_append, List.cons_append]
  gi_wp2
  obtain ⟨W1, hW1⟩ : ∃ W1, W1 = W.alloc (.cells #[.func (.yield l) #[] #[]] 66) := ⟨_, rfl⟩
  have hs1 : W1.heap.size = W.heap.size + 1 := by rw [hW1]; simp
  rw [← hW1] at bW1 hcy hc1' ⊢
  clear hW1
  have hbw : Rg LO HI w W1 := hW.trans (Rg.of_below bW1 (by omega))
  have hc2' := (bW1.cell (p := ⟨g2, 0, none⟩) (by show g2 < W.heap.size; omega)).trans hc2
  have J1 : J [] W1 := hJ.more [] W W1 h0 bW1
  refine wp_rng (lo := lo1) (hi := hi1) (xs := p) (w0 := w) (enc := encC) rfl eg1 hit1 (hbw.mono b1 b2) (by omega)
    (fun pre W' => J (togT pre q) W' ∧ KpR LO HI W.heap.size W1 W') (fun pre W' => ∃ po, Jx po W')
    (((hJ.map fun pre => togT pre q).up (by omega)).and (Abd.kpr (Nat.le_refl _))) ((hJx.up (by omega)).ex) ⟨J1, KpR.refl _ _ _ _⟩
    (fun x a' W' => ∃ bc, W1.heap.size ≤ bc ∧ CtB W' bc ⟨x.1.flatten.toArray⟩ ⟨x.2.flatten.toArray⟩ ∧ a' = { tmps := #[.func (.yield l) #[] #[], .pointer (some ⟨g1, 0, none⟩), .pointer (some ⟨g2, 0, none⟩), .pointer (some ⟨W.heap.size, 0, none⟩), .pointer (some ⟨bc, 0, none⟩), undef, .func (.func gf1) #[] lb1, encC x, undef, undef, undef, undef, undef, undef, undef, undef], defers := [] })
    (fun x a' => ⟨fun _ A B h hb => by obtain ⟨bc, e1, e2, e3⟩ := h; exact ⟨bc, e1, e2.next hb, e3⟩, fun _ A k o o' h hk ho hc => by
      obtain ⟨bc, e1, e2, e3⟩ := h
      refine ⟨bc, e1, (World.putObj_heap_other (fun e => ?_)).trans e2, e3⟩
      subst e
      rw [show A.heap[bc]? = _ from e2] at ho
      cases ho
      cases hc⟩) ?assign ?body ?done ?stop
  case assign =>
    rintro l1 m1 pre x Wr K ⟨hJ1, hK1⟩ hx hK
    rw [show encC x = .agg #[.string ⟨x.1.flatten.toArray⟩, .string ⟨x.2.flatten.toArray⟩] from rfl] at hK ⊢
    obtain ⟨xa, hxa⟩ : ∃ z : ByteArray, z = ⟨x.1.flatten.toArray⟩ := ⟨_, rfl⟩
    obtain ⟨xb, hxb⟩ : ∃ z : ByteArray, z = ⟨x.2.flatten.toArray⟩ := ⟨_, rfl⟩
    rw [← hxa, ← hxb] at hK ⊢
    clear hxa hxb
    simp only [List.setIfInBounds_toArray, List.set_cons_succ, List.set_cons_zero]
    gi_wp2
    exact hK _ _ ((Below.refl _ _).alloc (Nat.le_refl _) _) ⟨Wr.heap.size, hK1.size, CtB.new Wr xa xb, rfl⟩
  case body =>
    rintro l1 m1 pre x a' R hl1 ⟨r1, hr1⟩ ⟨hJ1, hK1⟩ ⟨bc, hbc, hCt, rfl⟩ hx hlen
    have hR1 := hK1.size
    have hc2R := ((hK1.rg (by omega)).cell (o := 0) b6).trans hc2'
    have hyR := (hK1.cell_own (o := 0) (Nat.le_refl _) (by omega)).trans hcy
    have hbR : Rg LO HI w R := hbw.trans (hK1.rg (by omega))
    have hbcR := hCt.lt
    gi_wp2
    refine wp_rng_in (l₀ := l1) (r₀ := r1) (lo := lo2) (hi := hi2) (xs := q) (w0 := w) (enc := encC) hr1 rfl eg2 hit2 (hbR.mono b3 b4) (by omega)
      (fun pre2 W' => J (togT pre q ++ pre2.map (besT x)) W' ∧ KpR LO HI W.heap.size R W') (fun pre2 W' => (∃ po, Jx po W') ∧ KpR LO HI W.heap.size R W')
      (((hJ.map fun (pre2 : List Ct) => togT pre q ++ pre2.map (besT x)).up (by omega)).and (Abd.kpr (Nat.le_refl _))) (((hJx.up (by omega)).ex).and (Abd.kpr (Nat.le_refl _))) ⟨by rw [List.map_nil, List.append_nil]; exact hJ1, KpR.refl _ _ _ _⟩
      (fun y a' W' => ∃ bd, R.heap.size ≤ bd ∧ CtB W' bd ⟨y.1.flatten.toArray⟩ ⟨y.2.flatten.toArray⟩ ∧ a' = { tmps := #[.func (.yield l) #[] #[], .pointer (some ⟨g1, 0, none⟩), .pointer (some ⟨g2, 0, none⟩), .pointer (some ⟨W.heap.size, 0, none⟩), .pointer (some ⟨bc, 0, none⟩), .pointer (some ⟨bd, 0, none⟩), .func (.func gf1) #[] lb1, encC x, .func (.func gf2) #[] lb2, encC y, undef, undef, undef, undef, undef, undef], defers := [] })
      (fun x a' => ⟨fun _ A B h hb => by obtain ⟨bc, e1, e2, e3⟩ := h; exact ⟨bc, e1, e2.next hb, e3⟩, fun _ A k o o' h hk ho hc => by
        obtain ⟨bc, e1, e2, e3⟩ := h
        refine ⟨bc, e1, (World.putObj_heap_other (fun e => ?_)).trans e2, e3⟩
        subst e
        rw [show A.heap[bc]? = _ from e2] at ho
        cases ho
        cases hc⟩) ?assign2 ?body2 ?done2 ?stop2
    case assign2 =>
      rintro l2 m2 pre2 y Wr K ⟨hJ2, hK2⟩ hy hK
      rw [show encC y = .agg #[.string ⟨y.1.flatten.toArray⟩, .string ⟨y.2.flatten.toArray⟩] from rfl] at hK ⊢
      obtain ⟨xa, hxa⟩ : ∃ z : ByteArray, z = ⟨y.1.flatten.toArray⟩ := ⟨_, rfl⟩
      obtain ⟨xb, hxb⟩ : ∃ z : ByteArray, z = ⟨y.2.flatten.toArray⟩ := ⟨_, rfl⟩
      rw [← hxa, ← hxb] at hK ⊢
      clear hxa hxb
      simp only [List.setIfInBounds_toArray, List.set_cons_succ, List.set_cons_zero]
      gi_wp2
      exact hK _ _ ((Below.refl _ _).alloc (Nat.le_refl _) _) ⟨Wr.heap.size, hK2.size, CtB.new Wr xa xb, rfl⟩
    case body2 =>
      rintro l2 m2 pre2 y a'' R2 hl2 _ ⟨hJ2, hK2⟩ ⟨bd, hbd, hDt, rfl⟩ hy hlen2
      have hR2 := hK2.size
      have hyR2 := (hK2.cell_own (o := 0) (Nat.le_refl _) (by omega)).trans hyR
      have hCt2 : CtB R2 bc _ _ := (hK2.own bc (by omega) (by omega)).trans hCt
      gi_wp2_with fail
      refine regionR (S := fun V => V.cell? ⟨W.heap.size, 0, none⟩ = some (.func (.yield l) #[] #[]) ∧ CtB V bc ⟨x.1.flatten.toArray⟩ ⟨x.2.flatten.toArray⟩ ∧ CtB V bd ⟨y.1.flatten.toArray⟩ ⟨y.2.flatten.toArray⟩) (by kernel_rfl) ⟨hyR2, hCt2, hDt⟩ ?_
      intro hS0
      refine anyR_take (i := 0) (v := .func (.yield l) #[] #[]) (noDefer_of (by kernel_rfl)) rfl (by kernel_rfl) (by kernel_rfl) (by kernel_rfl) (fun _ _ _ h => h) (.inl ⟨by kernel_rfl, fun V hV => ?_⟩) hS0 ?_
      · have hc := hV.1
        go_simp
      refine anyR_take (i := 1) (v := encC x) (noDefer_of (by kernel_rfl)) rfl (by kernel_rfl) (by kernel_rfl) (by kernel_rfl) (fun _ _ _ h => h) (CtB.yields (by kernel_rfl) (.tmp 4) rfl bc rfl _ _ (fun V hV => hV.2.1)) hS0 ?_
      refine anyR_take (i := 2) (v := encC y) (noDefer_of (by kernel_rfl)) rfl (by kernel_rfl) (by kernel_rfl) (by kernel_rfl) (fun _ _ _ h => h) (CtB.yields (by kernel_rfl) (.tmp 5) rfl bd rfl _ _ (fun V hV => hV.2.2)) hS0 ?_
      simp only [Act.put, List.setIfInBounds_toArray, List.set_cons_succ, List.set_cons_zero, List.getElem_toArray, List.getElem_cons_zero, List.getElem_cons_succ]
      refine anyR_one (i := 3) (noDefer_of (by kernel_rfl)) rfl (by kernel_rfl) (by kernel_rfl) ?_
      refine upon_call (f := 82) (args := #[encC x, encC y]) ?_ (beside_any x y _ (HP.out x hx) (HQ.out y hy) hmn) ?_
      · go_simp
      rintro e V ⟨rfl, hbV⟩
      have hbV2 : Below R2.heap.size R2 V := below_undrew' (a := 1) hbV
      have hJV := hJ.more _ R2 V hJ2 hbV2
      have hsV := hbV2.size
      have hmem : besT x y ∈ togT p q := by
        unfold togT
        rw [List.mem_flatMap]
        exact ⟨x, hx, List.mem_map.2 ⟨y, hy, rfl⟩⟩
      have hlt : (togT pre q ++ pre2.map (besT x)).length < (togT p q).length := by
        rw [List.length_append, List.length_map, togT_length, togT_length]
        have : (pre.length + 1) * q.length ≤ p.length * q.length := Nat.mul_le_mul_right _ hlen
        rw [Nat.succ_mul] at this
        omega
      have SV : V.cell? ⟨W.heap.size, 0, none⟩ = some (.func (.yield l) #[] #[]) ∧ CtB V bc ⟨x.1.flatten.toArray⟩ ⟨x.2.flatten.toArray⟩ ∧ CtB V bd ⟨y.1.flatten.toArray⟩ ⟨y.2.flatten.toArray⟩ :=
        ⟨(hbV2.cell (p := ⟨W.heap.size, 0, none⟩) (by show W.heap.size < R2.heap.size; omega)).trans hyR2, hCt2.next hbV2, hDt.next hbV2⟩
      have hbdR := hDt.lt
      obtain ⟨fn, tmps, assign, body, hyy, hR⟩ := HYY.out _ (besT x y) V 2 hJV hmem hlt
      refine ⟨_, rfl, SV, ?_⟩
      refine anyR_one (i := 4) (noDefer_of (by kernel_rfl)) rfl (by kernel_rfl) (by kernel_rfl) ?_
      refine upon_round (l0 := l) (fn := fn) (tmps := tmps) (assign := assign) (body := body) ?_ hR ?_
      · go_simp
      rintro e V2 (⟨rfl, hJV2, hkV⟩ | ⟨rfl, hJV2, hkV⟩)
      · have SV2 : V2.cell? ⟨W.heap.size, 0, none⟩ = some (.func (.yield l) #[] #[]) ∧ CtB V2 bc ⟨x.1.flatten.toArray⟩ ⟨x.2.flatten.toArray⟩ ∧ CtB V2 bd ⟨y.1.flatten.toArray⟩ ⟨y.2.flatten.toArray⟩ :=
          ⟨(hkV.cell_own (Nat.le_refl _) (by omega)).trans SV.1, (hkV.own bc (by omega) (by omega)).trans SV.2.1, (hkV.own bd (by omega) (by omega)).trans SV.2.2⟩
        refine ⟨_, rfl, SV2, ?_⟩
        refine anyR_one (i := 5) (noDefer_of (by kernel_rfl)) rfl (by kernel_rfl) (by kernel_rfl) (upon_value (v := .bool false) (by go_simp) ⟨SV2, anyR_done (by kernel_rfl) ?_ _⟩)
        have hK3 := (KpR.of_below hbV2 (lo := LO) (hi := HI) (E := W.heap.size)).trans hkV
        simp only [Act.put, List.setIfInBounds_toArray, List.set_cons_succ, List.set_cons_zero, List.getElem_toArray, List.getElem_cons_zero, List.getElem_cons_succ]
        gi_wp2
        exact ⟨hK3.mono b3 b4 (by omega), by rw [List.map_append, ← List.append_assoc]; exact hJV2, hK2.trans hK3⟩
      · have SV2 : V2.cell? ⟨W.heap.size, 0, none⟩ = some (.func (.yield l) #[] #[]) ∧ CtB V2 bc ⟨x.1.flatten.toArray⟩ ⟨x.2.flatten.toArray⟩ ∧ CtB V2 bd ⟨y.1.flatten.toArray⟩ ⟨y.2.flatten.toArray⟩ :=
          ⟨(hkV.cell_own (Nat.le_refl _) (by omega)).trans SV.1, (hkV.own bc (by omega) (by omega)).trans SV.2.1, (hkV.own bd (by omega) (by omega)).trans SV.2.2⟩
        refine ⟨_, rfl, SV2, ?_⟩
        refine anyR_one (i := 5) (noDefer_of (by kernel_rfl)) rfl (by kernel_rfl) (by kernel_rfl) (upon_value (v := .bool true) (by go_simp) ⟨SV2, anyR_done (by kernel_rfl) ?_ _⟩)
        have hK3 := (KpR.of_below hbV2 (lo := LO) (hi := HI) (E := W.heap.size)).trans hkV
        simp only [Act.put, List.setIfInBounds_toArray, List.set_cons_succ, List.set_cons_zero, List.getElem_toArray, List.getElem_cons_zero, List.getElem_cons_succ]
        gi_wp2
        exact ⟨hK3.mono b3 b4 (by omega), ⟨_, hJV2⟩, hK2.trans hK3⟩
    case done2 =>
      rintro Wd ⟨hJd, hKd⟩
      gi_wp2
      exact ⟨hKd.mono b1 b2 (by omega), by rw [togT_snoc]; exact hJd, hK1.trans hKd⟩
    case stop2 =>
      rintro pre2 Wd ⟨⟨po, hJd⟩, hKd⟩
      gi_wp2
      exact ⟨hKd.mono b1 b2 (by omega), po, hJd⟩
  case done =>
    rintro D Wd hD ⟨hJd, _⟩ hDo
    gi_wp2
    refine ⟨by simp, .inl ⟨_, _, rfl, run_takeDeferred hDo, ?_⟩⟩
    exact ⟨_, results_none rfl _ _ _, ⟨_, rfl⟩, .inl (hJ.turn _ Wd D _ _ hJd (by omega) hDo rfl)⟩
  case stop =>
    rintro D pre Wd hD ⟨po, hJd⟩ hDo
    gi_wp2
    refine ⟨by simp, .inl ⟨_, _, rfl, run_takeDeferred hDo, ?_⟩⟩
    exact ⟨_, results_none rfl _ _ _, ⟨_, rfl⟩, .inr ⟨po, hJx.turn _ Wd D _ _ hJd (by omega) hDo rfl⟩⟩
end Go.Proofs.Ytgklilckjpbdnaa
/-
  Cuts of a tree: the closure over those of its branches.
-/
namespace Go.Proofs.Ytgklilckjpbdnaa
open Go.RowKit Fld Go.Shelf
set_option linter.unusedVariables false
set_option linter.unusedSimpArgs false
set_option maxRecDepth 100000
attribute [local go_sem] Oper.semAt_some

theorem encC_root (c : Ct) : encC (rootC c) = .agg #[.string ⟨c.1.flatten.toArray⟩, .string ⟨(Tr.wrap (Tr.sortS c.2)).toArray⟩] := by
  unfold encC rootC
  simp
theorem encC_all (x : Tx) : encC ([x], []) = .agg #[.string ⟨x.toArray⟩, .string ⟨#[]⟩] := by
  unfold encC
  simp
set_option maxHeartbeats 4000000 in
theorem cuts_its (w : World) (gb gt LO HI lo1 hi1 : Nat) (v1 : Value) (p : List Ct) (x : Tx) (h1 : w.cell? ⟨gb, 0, none⟩ = some v1) (h2 : w.cell? ⟨gt, 0, none⟩ = some (.string ⟨x.toArray⟩)) (s1 : IsSeq w lo1 hi1 v1 p)
    (b1 : LO ≤ lo1) (b2 : hi1 ≤ HI) (b5 : LO ≤ gb ∧ gb < HI) (b6 : LO ≤ gt ∧ gt < HI) (bHI : HI ≤ w.heap.size) {m : Nat} (hp : ∀ c ∈ p, OkC m c) (hm : m ≤ 14) :
    Its Try.prog 46 #[.pointer (some ⟨gb, 0, none⟩), .pointer (some ⟨gt, 0, none⟩)] LO HI encC (p.map rootC ++ [([x], [])]) w := fun l J Jx W hW hJ hJx hY h0 => by
  obtain ⟨gf1, lb1, rfl, eg1, hit1, _, z1⟩ := s1
  have HP := Lib.hid hp
  have hc1 := (hW.cell (o := 0) b5).trans h1
  have hc2 := (hW.cell (o := 0) b6).trans h2
  have hWs := hW.1
  have HYY := Lib.hid hY
  obtain ⟨X, hX⟩ : ∃ X : ByteArray, X = ⟨x.toArray⟩ := ⟨_, rfl⟩
  have HX := Lib.hid hX
  rw [← hX] at hc2 h2
  clear hY hp hX
  have bW1 : Below W.heap.size W (W.alloc (.cells #[.func (.yield l) #[] #[]] 66)) := (Below.refl _ _).alloc (Nat.le_refl _) _
  have hcy : (W.alloc (.cells #[.func (.yield l) #[] #[]] 66)).cell? ⟨W.heap.size, 0, none⟩ = some (.func (.yield l) #[] #[]) := by rw [cell_of_row _ _ 0 _ _ _ (heap_alloc_new W _)]; rfl
  have hc1' := (bW1.cell (p := ⟨gb, 0, none⟩) (by show gb < W.heap.size; omega)).trans hc1
  refine (callsIn_wide (n := 3)).1 ?_
  refine callsIn_of_wp_marks Try.func46 rfl trivial ?_ rfl
  simp only [Try.ntmps46, List.size_toArray, List.length_cons, List.length_nil, Nat.reduceAdd, Nat.reduceSub, Array.replicate_succ, Array.replicate_zero, List.push_toArray, List.append_toArray, List.nil_append, List.cons_append]
  gi_wp2
  obtain ⟨W1, hW1⟩ : ∃ W1, W1 = W.alloc (.cells #[.func (.yield l) #[] #[]] 66) := ⟨_, rfl⟩
  have hs1 : W1.heap.size = W.heap.size + 1 := by rw [hW1]; simp
  rw [← hW1] at bW1 hcy hc1' ⊢
  clear hW1
  have hbw : Rg LO HI w W1 := hW.trans (Rg.of_below bW1 (by omega))
  have hc2' := (bW1.cell (p := ⟨gt, 0, none⟩) (by show gt < W.heap.size; omega)).trans hc2
  have J1 : J [] W1 := hJ.more [] W W1 h0 bW1
  refine wp_rng (lo := lo1) (hi := hi1) (xs := p) (w0 := w) (enc := encC) rfl eg1 hit1 (hbw.mono b1 b2) (by omega)
    (fun pre W' => J (pre.map rootC) W' ∧ KpR LO HI W.heap.size W1 W') (fun pre W' => ∃ po, Jx po W')
    (((hJ.map fun (pre : List Ct) => pre.map rootC).up (by omega)).and (Abd.kpr (Nat.le_refl _))) ((hJx.up (by omega)).ex) ⟨J1, KpR.refl _ _ _ _⟩
    (fun x a' W' => ∃ bc, W1.heap.size ≤ bc ∧ CtB W' bc ⟨x.1.flatten.toArray⟩ ⟨x.2.flatten.toArray⟩ ∧ a' = { tmps := #[.func (.yield l) #[] #[], .pointer (some ⟨gb, 0, none⟩), .pointer (some ⟨gt, 0, none⟩), .pointer (some ⟨W.heap.size, 0, none⟩), .pointer (some ⟨bc, 0, none⟩), .func (.func gf1) #[] lb1, encC x, undef, undef, undef, undef, undef, undef, undef, undef, undef, undef, undef, undef, undef, undef], defers := [] })
    (fun x a' => ⟨fun _ A B h hb => by obtain ⟨bc, e1, e2, e3⟩ := h; exact ⟨bc, e1, e2.next hb, e3⟩, fun _ A k o o' h hk ho hc => by
      obtain ⟨bc, e1, e2, e3⟩ := h
      refine ⟨bc, e1, (World.putObj_heap_other (fun e => ?_)).trans e2, e3⟩
      subst e
      rw [show A.heap[bc]? = _ from e2] at ho
      cases ho
      cases hc⟩) ?assign ?body ?done ?stop
  case assign =>
    rintro l1 m1 pre x Wr K ⟨hJ1, hK1⟩ hx hK
    rw [show encC x = .agg #[.string ⟨x.1.flatten.toArray⟩, .string ⟨x.2.flatten.toArray⟩] from rfl] at hK ⊢
    obtain ⟨xa, hxa⟩ : ∃ z : ByteArray, z = ⟨x.1.flatten.toArray⟩ := ⟨_, rfl⟩
    obtain ⟨xb, hxb⟩ : ∃ z : ByteArray, z = ⟨x.2.flatten.toArray⟩ := ⟨_, rfl⟩
    rw [← hxa, ← hxb] at hK ⊢
    clear hxa hxb
    simp only [List.setIfInBounds_toArray, List.set_cons_succ, List.set_cons_zero]
    gi_wp2
    exact hK _ _ ((Below.refl _ _).alloc (Nat.le_refl _) _) ⟨Wr.heap.size, hK1.size, CtB.new Wr xa xb, rfl⟩
  case body =>
    rintro l1 m1 pre c a' R hl1 _ ⟨hJ1, hK1⟩ ⟨bc, hbc, hCt, rfl⟩ hx hlen
    have hR1 := hK1.size
    have hyR := (hK1.cell_own (o := 0) (Nat.le_refl _) (by omega)).trans hcy
    have hbcR := hCt.lt
    obtain ⟨k1, k2, k3⟩ := HP.out c hx
    have l2 := len_byT k2
    have hr := encC_root c
    have CT := fun V => forestTrees_any c.2.flatten V (by rw [byT_flat]; omega)
    have e2 : (Tr.trF [] 0 [] c.2.flatten).1 = c.2 := by rw [tr_flat c.2 [] k2]; rfl
    simp only [e2] at CT
    obtain ⟨ca, hca⟩ : ∃ z : ByteArray, z = ⟨c.1.flatten.toArray⟩ := ⟨_, rfl⟩
    obtain ⟨cb, hcb⟩ : ∃ z : ByteArray, z = ⟨c.2.flatten.toArray⟩ := ⟨_, rfl⟩
    obtain ⟨rb, hrb⟩ : ∃ z : ByteArray, z = ⟨(Tr.wrap (Tr.sortS c.2)).toArray⟩ := ⟨_, rfl⟩
    rw [← hca, ← hrb] at hr
    rw [← hca, ← hcb] at hCt
    simp only [← hcb] at CT
    have HRB := Lib.hid hrb
    have HRC := Lib.hid hr
    clear hca hcb hrb hr
    gi_wp2_with fail
    refine regionR (S := fun V => V.cell? ⟨W.heap.size, 0, none⟩ = some (.func (.yield l) #[] #[]) ∧ CtB V bc ca cb) (by kernel_rfl) ⟨hyR, hCt⟩ ?_
    intro hS0
    refine anyR_take (i := 0) (v := .func (.yield l) #[] #[]) (noDefer_of (by kernel_rfl)) rfl (by kernel_rfl) (by kernel_rfl) (by kernel_rfl) (fun _ _ _ h => h) (.inl ⟨by kernel_rfl, fun V hV => ?_⟩) hS0 ?_
    · have hc := hV.1
      go_simp
    refine anyR_take (i := 1) (v := .pointer (some ⟨bc, 0, none⟩)) (noDefer_of (by kernel_rfl)) rfl (by kernel_rfl) (by kernel_rfl) (by kernel_rfl) (fun _ _ _ h => h) (.inl ⟨by kernel_rfl, fun V hV => ?_⟩) hS0 ?_
    · go_simp
    refine anyR_take (i := 3) (v := .pointer (some ⟨bc, 1, none⟩)) (noDefer_of (by kernel_rfl)) rfl (by kernel_rfl) (by kernel_rfl) (by kernel_rfl) (fun _ _ _ h => h) (.inl ⟨by kernel_rfl, fun V hV => ?_⟩) hS0 ?_
    · go_simp
    simp only [Act.put, List.setIfInBounds_toArray, List.set_cons_succ, List.set_cons_zero, List.getElem_toArray, List.getElem_cons_zero, List.getElem_cons_succ]
    refine anyR_take (i := 2) (v := .string ca) (noDefer_of (by kernel_rfl)) rfl (by kernel_rfl) (by kernel_rfl) (by kernel_rfl) (fun _ _ _ h => h) (.inl ⟨by kernel_rfl, fun V hV => ?_⟩) hS0 ?_
    · have hc := hV.2.c0
      go_simp
    refine anyR_take (i := 4) (v := .string cb) (noDefer_of (by kernel_rfl)) rfl (by kernel_rfl) (by kernel_rfl) (by kernel_rfl) (fun _ _ _ h => h) (.inl ⟨by kernel_rfl, fun V hV => ?_⟩) hS0 ?_
    · have hc := hV.2.c1
      go_simp
    simp only [Act.put, List.setIfInBounds_toArray, List.set_cons_succ, List.set_cons_zero, List.getElem_toArray, List.getElem_cons_zero, List.getElem_cons_succ]
    refine anyR_one (i := 5) (noDefer_of (by kernel_rfl)) rfl (by kernel_rfl) (by kernel_rfl) ?_
    refine upon_call (f := 47) (args := #[.string cb]) ?_ (CT _) ?_
    · go_simp
    rintro e V ⟨A, q, cc, rfl, hown, hbV⟩
    have hbV2 : Below R.heap.size R V := below_undrew' (a := 1) hbV
    have hq : q = c.2.length := by rw [← strs_length]; exact (own_len hown).symm
    have CR := rootOn_any A _ q cc c.2 V (by omega) (by rw [byT_flat]; omega) hbV.size hown
    rw [← HRB.out] at CR
    have SV : V.cell? ⟨W.heap.size, 0, none⟩ = some (.func (.yield l) #[] #[]) ∧ CtB V bc ca cb := ⟨(hbV2.cell (p := ⟨W.heap.size, 0, none⟩) (by show W.heap.size < R.heap.size; omega)).trans hyR, hCt.next hbV2⟩
    refine ⟨_, rfl, SV, ?_⟩
    refine anyR_one (i := 6) (noDefer_of (by kernel_rfl)) rfl (by kernel_rfl) (by kernel_rfl) ?_
    refine upon_call (f := 43) (args := #[.slice A q cc]) ?_ CR ?_
    · go_simp
    rintro e V2 ⟨rfl, hbV3⟩
    have hbV4 : Below R.heap.size R V2 := hbV2.trans hbV3
    have SV2 : V2.cell? ⟨W.heap.size, 0, none⟩ = some (.func (.yield l) #[] #[]) ∧ CtB V2 bc ca cb := ⟨(hbV4.cell (p := ⟨W.heap.size, 0, none⟩) (by show W.heap.size < R.heap.size; omega)).trans hyR, hCt.next hbV4⟩
    have hsV := hbV4.size
    refine ⟨_, rfl, SV2, ?_⟩
    refine anyR_one (i := 7) (noDefer_of (by kernel_rfl)) rfl (by kernel_rfl) (by kernel_rfl) (upon_value (v := .agg #[.string ca, .string rb]) (by go_simp) ⟨SV2, ?_⟩)
    have hJV := hJ.more _ R V2 hJ1 hbV4
    have hmem : rootC c ∈ p.map rootC ++ [([x], [])] := by rw [List.mem_append]; exact .inl (List.mem_map.2 ⟨c, hx, rfl⟩)
    have hlt : (pre.map rootC).length < (p.map rootC ++ [([x], [])]).length := by rw [List.length_append, List.length_map, List.length_map]; omega
    obtain ⟨fn, tmps, assign, body, hyy, hR⟩ := HYY.out _ (rootC c) V2 2 hJV hmem hlt
    rw [HRC.out] at hyy
    refine anyR_one (i := 8) (noDefer_of (by kernel_rfl)) rfl (by kernel_rfl) (by kernel_rfl) ?_
    refine upon_round (l0 := l) (fn := fn) (tmps := tmps) (assign := assign) (body := body) ?_ hR ?_
    · go_simp
    rintro e V3 (⟨rfl, hJV2, hkV⟩ | ⟨rfl, hJV2, hkV⟩)
    · have SV3 : V3.cell? ⟨W.heap.size, 0, none⟩ = some (.func (.yield l) #[] #[]) ∧ CtB V3 bc ca cb := ⟨(hkV.cell_own (Nat.le_refl _) (by omega)).trans SV2.1, (hkV.own bc (by omega) (by omega)).trans SV2.2⟩
      refine ⟨_, rfl, SV3, ?_⟩
      refine anyR_one (i := 9) (noDefer_of (by kernel_rfl)) rfl (by kernel_rfl) (by kernel_rfl) (upon_value (v := .bool false) (by go_simp) ⟨SV3, anyR_done (by kernel_rfl) ?_ _⟩)
      have hK3 := (KpR.of_below hbV4 (lo := LO) (hi := HI) (E := W.heap.size)).trans hkV
      simp only [Act.put, List.setIfInBounds_toArray, List.set_cons_succ, List.set_cons_zero, List.getElem_toArray, List.getElem_cons_zero, List.getElem_cons_succ]
      gi_wp2
      exact ⟨hK3.mono b1 b2 (by omega), by rw [List.map_append]; exact hJV2, hK1.trans hK3⟩
    · have SV3 : V3.cell? ⟨W.heap.size, 0, none⟩ = some (.func (.yield l) #[] #[]) ∧ CtB V3 bc ca cb := ⟨(hkV.cell_own (Nat.le_refl _) (by omega)).trans SV2.1, (hkV.own bc (by omega) (by omega)).trans SV2.2⟩
      refine ⟨_, rfl, SV3, ?_⟩
      refine anyR_one (i := 9) (noDefer_of (by kernel_rfl)) rfl (by kernel_rfl) (by kernel_rfl) (upon_value (v := .bool true) (by go_simp) ⟨SV3, anyR_done (by kernel_rfl) ?_ _⟩)
      have hK3 := (KpR.of_below hbV4 (lo := LO) (hi := HI) (E := W.heap.size)).trans hkV
      simp only [Act.put, List.setIfInBounds_toArray, List.set_cons_succ, List.set_cons_zero, List.getElem_toArray, List.getElem_cons_zero, List.getElem_cons_succ]
      gi_wp2
      exact ⟨hK3.mono b1 b2 (by omega), ⟨_, hJV2⟩⟩
  case done =>
    rintro D Wd hD ⟨hJd, hKd⟩ hDo
    have hyd := (hKd.cell_own (o := 0) (Nat.le_refl _) (by omega)).trans hcy
    have htd := ((hKd.rg (by omega)).cell (o := 0) b6).trans hc2'
    have hmem : ([x], []) ∈ p.map rootC ++ [([x], [])] := by rw [List.mem_append]; exact .inr (by simp)
    have hlt : (p.map rootC).length < (p.map rootC ++ [([x], [])]).length := by rw [List.length_append]; simp
    obtain ⟨fn, tmps, assign, body, hyy, hR⟩ := HYY.out _ ([x], []) Wd 2 hJd hmem hlt
    rw [encC_all, ← HX.out] at hyy
    have hDs := (Array.getElem?_eq_some_iff.1 hDo).1
    gi_wp2
    refine hR.mono ?_
    rintro e V (⟨rfl, hJV, hkV⟩ | ⟨rfl, hJV, hkV⟩)
    · have hDV := (hkV.own D (by omega) hDs).trans hDo
      gi_wp2
      refine ⟨by simp, .inl ⟨_, _, rfl, run_takeDeferred hDV, ?_⟩⟩
      exact ⟨_, results_none rfl _ _ _, ⟨_, rfl⟩, .inl (hJ.turn _ V D _ _ hJV (by omega) hDV rfl)⟩
    · have hDV := (hkV.own D (by omega) hDs).trans hDo
      gi_wp2
      refine ⟨by simp, .inl ⟨_, _, rfl, run_takeDeferred hDV, ?_⟩⟩
      exact ⟨_, results_none rfl _ _ _, ⟨_, rfl⟩, .inr ⟨_, hJx.turn _ V D _ _ hJV (by omega) hDV rfl⟩⟩
  case stop =>
    rintro D pre Wd hD ⟨po, hJd⟩ hDo
    gi_wp2
    refine ⟨by simp, .inl ⟨_, _, rfl, run_takeDeferred hDo, ?_⟩⟩
    exact ⟨_, results_none rfl _ _ _, ⟨_, rfl⟩, .inr ⟨po, hJx.turn _ Wd D _ _ hJd (by omega) hDo rfl⟩⟩
end Go.Proofs.Ytgklilckjpbdnaa
/-
  Cuts of forests and trees: the functions that make the closures.
-/
namespace Go.Proofs.Ytgklilckjpbdnaa
open Go.RowKit Fld Go.Shelf
set_option linter.unusedVariables false
set_option linter.unusedSimpArgs false
set_option maxRecDepth 100000

theorem run_store_func {P : Program} {w : World} {a : Addr} {m : Mode} (f : Fn) (cs lb : Array Value) : (store a (.func f cs lb) m).run P w = stored P w a (.func f cs lb) m := run_store P w a _ m rfl
attribute [local go_sem] run_store_func
theorem box_new (w : World) (v : Value) (T : TypeId) : (w.alloc (.cells #[v] T)).cell? ⟨w.heap.size, 0, none⟩ = some v := by rw [cell_of_row _ _ 0 _ _ _ (heap_alloc_new w _)]; rfl
set_option maxHeartbeats 1000000 in
theorem together_any (v1 v2 : Value) (w : World) (p q : List Ct) (lo1 hi1 lo2 hi2 LO : Nat) (s1 : IsSeq w lo1 hi1 v1 p) (s2 : IsSeq w lo2 hi2 v2 q) (b1 : LO ≤ lo1) (b3 : LO ≤ lo2) (hLO : LO ≤ w.heap.size) {m n : Nat} (hp : ∀ c ∈ p, OkC m c) (hq : ∀ c ∈ q, OkC n c) (hmn : m + n ≤ 16) :
    Calls Try.prog 66 #[v1, v2] w fun e w' => ∃ v, e = .returned v ∧ IsSeq w' LO w'.heap.size v (togT p q) ∧ Below w.heap.size w w' := by
  have G : Hid (IsSeq ((w.alloc (.cells #[v1] 39)).alloc (.cells #[v2] 39)) LO ((w.alloc (.cells #[v1] 39)).alloc (.cells #[v2] 39)).heap.size (.func (.func 81) #[] #[.pointer (some ⟨w.heap.size, 0, none⟩), .pointer (some ⟨w.heap.size + 1, 0, none⟩)]) (togT p q)) := by
    have hs : ((w.alloc (.cells #[v1] 39)).alloc (.cells #[v2] 39)).heap.size = w.heap.size + 2 := by simp
    have hb : Below w.heap.size w ((w.alloc (.cells #[v1] 39)).alloc (.cells #[v2] 39)) := ((Below.refl _ _).alloc (Nat.le_refl _) _).alloc (by simp) _
    have h1 : ((w.alloc (.cells #[v1] 39)).alloc (.cells #[v2] 39)).cell? ⟨w.heap.size, 0, none⟩ = some v1 := (((Below.refl _ _).alloc (Nat.le_refl _) _).cell (p := ⟨w.heap.size, 0, none⟩) (by simp)).trans (box_new w v1 _)
    have h2 : ((w.alloc (.cells #[v1] 39)).alloc (.cells #[v2] 39)).cell? ⟨w.heap.size + 1, 0, none⟩ = some v2 := by
      have := box_new (w.alloc (.cells #[v1] 39)) v2 39
      rwa [World.size_alloc] at this
    have z1 : hi1 ≤ w.heap.size := by obtain ⟨_, _, _, _, _, _, z⟩ := s1; exact z
    have z2 : hi2 ≤ w.heap.size := by obtain ⟨_, _, _, _, _, _, z⟩ := s2; exact z
    exact ⟨_, _, rfl, enters_of Try.func81 (by kernel_rfl) rfl, together_its _ _ _ LO _ lo1 hi1 lo2 hi2 v1 v2 p q h1 h2 (s1.later (Rg.of_below hb z1)) (s2.later (Rg.of_below hb z2)) b1 (by omega) b3 (by omega) (by omega) (by omega) (Nat.le_refl _) hp hq hmn, by omega, Nat.le_refl _⟩
  have f1 := s1
  have f2 := s2
  obtain ⟨gf1, lb1, rfl, _⟩ := f1
  obtain ⟨gf2, lb2, rfl, _⟩ := f2
  clear s1 s2 hp hq
  go_enter Try.func66, Try.ntmps66
  go_wp2
  go_ret
  exact ⟨_, rfl, by simpa using G.out, ((Below.refl _ _).alloc (Nat.le_refl _) _).alloc (by simp) _⟩
/-- the cuts of a tree of at most d nodes are handed on -/
def CutsAt (d : Nat) : Prop := ∀ (x : Tx) (w : World), Tr.isTx x = true → x.length / 2 ≤ d →
  Calls Try.prog 24 #[.string ⟨x.toArray⟩] w fun e w' => ∃ v, e = .returned v ∧ IsSeq w' w.heap.size w'.heap.size v (cts x) ∧ Below w.heap.size w w'
set_option maxHeartbeats 2000000 in
theorem cutsOf_at (d : Nat) (IH : CutsAt d) (A : Option Addr) (n c B : Nat) (ts : List Tx) (w : World) (hl : ts.length = n) (hts : ∀ t ∈ ts, Tr.isTx t = true ∧ t.length / 2 ≤ d) (h16 : byT ts ≤ 16) (hB : B ≤ w.heap.size) (h : Row w B A (strs ts)) :
    Calls Try.prog 44 #[.slice A n c] w fun e w' => ∃ v, e = .returned v ∧ IsSeq w' w.heap.size w'.heap.size v (ctsOf ts) ∧ Below w.heap.size w w' := by
  have hn8 : n ≤ 8 := by have := len_byT (ts := ts) (fun t ht => (hts t ht).1); omega
  have HL := Lib.hid hl
  have HT := Lib.hid hts
  have H16 := Lib.hid h16
  clear hl hts h16
  go_enter Try.func44, Try.ntmps44
  go_wp2_with fail
  go_loopw [3, 8] (fun v i wr => ∃ (k : Nat), k ≤ n ∧ i = .int .i64 k ∧ Hid (∃ lo hi, w.heap.size ≤ lo ∧ IsSeq wr lo hi v (ctsOf (ts.take k))) ∧ Hid (Below w.heap.size w wr)) (fun _ i _ => n - (intOf i).toNat)
  case atStart => exact ⟨0, Nat.zero_le _, rfl, ⟨w.heap.size, w.heap.size, Nat.le_refl _, _, _, rfl, enters_of Try.func65 (by kernel_rfl) rfl, noCutting_its w, Nat.le_refl _, Nat.le_refl _⟩, Below.refl _ _⟩
  case round =>
    obtain ⟨k, hk, rfl, HS, HB⟩ := hrel
    by_cases hlt : k < n
    · obtain ⟨b, hb⟩ := at_lt (show k < ts.length by rw [HL.out]; exact hlt)
      obtain ⟨hbx, hbd⟩ := HT.out b (List.mem_of_getElem? hb)
      obtain ⟨ba, oa, rfl, _, hcw⟩ := (h.below HB.out hB) k _ (strs_at hb)
      obtain ⟨lo, hi, hlo, hseq⟩ := HS.out
      have HSQ := Lib.hid hseq
      have HLO := Lib.hid hlo
      have hsz := HB.out.size
      have CT := fun W => IH b W hbx hbd
      have o1 : ∀ c ∈ ctsOf (ts.take k), OkC (byT (ts.take k)) c := ctsOf_ok (fun t ht => (HT.out t (List.mem_of_mem_take ht)).1)
      have o2 : ∀ c ∈ cts b, OkC b.length c := cts_ok hbx
      have hst := ctsOf_step hb
      have hsum : byT (ts.take k) + b.length ≤ 16 := by
        have e1 : byT (ts.take (k + 1)) = byT (ts.take k) + b.length := by
          rw [List.take_add_one, hb, Option.toList_some, byT_app]; simp [byT]
        have e2 : byT (ts.take (k + 1)) ≤ byT ts := by
          have := byT_app (ts.take (k + 1)) (ts.drop (k + 1))
          rw [List.take_append_drop] at this
          omega
        have := H16.out
        omega
      have HO1 := Lib.hid o1
      have HO2 := Lib.hid o2
      have HST := Lib.hid hst
      have HSUM := Lib.hid hsum
      obtain ⟨X, hX⟩ : ∃ X : ByteArray, X = ⟨b.toArray⟩ := ⟨_, rfl⟩
      simp only [← hX] at CT
      rw [← hX] at hcw
      clear hb hbx hbd hseq hlo HS o1 o2 hst hsum hX
      go_wp2_with fail
      refine (CT _).mono ?_
      rintro e w2 ⟨v2, rfl, hs2, hb2⟩
      have hz2 := hb2.size
      have z1 : hi ≤ wr.heap.size := by obtain ⟨_, _, _, _, _, _, z⟩ := HSQ.out; exact z
      have TG := together_any _ _ w2 _ _ lo hi wr.heap.size w2.heap.size w.heap.size (HSQ.out.later (Rg.of_below hb2 z1)) hs2 HLO.out hsz (by omega) HO1.out HO2.out HSUM.out
      have HB2 := Lib.hid (HB.out.trans (hb2.mono hsz))
      clear hs2 hb2 HSQ
      go_wp2_with fail
      refine TG.mono ?_
      rintro e w3 ⟨v3, rfl, hs3, hb3⟩
      have HB3 : Hid (Below w.heap.size w w3) := HB2.out.trans (hb3.mono (by omega))
      have HS3 : Hid (∃ lo hi, w.heap.size ≤ lo ∧ IsSeq w3 lo hi v3 (ctsOf (ts.take (k + 1)))) := by rw [Hid, HST.out]; exact ⟨_, _, Nat.le_refl _, hs3⟩
      clear hs3 hb3 TG
      go_wp2
      go_roundw
      case rel => exact ⟨k + 1, by omega, by go_num, HS3, HB3⟩
      case measure => simp [intOf]; omega
    · obtain rfl : k = n := by omega
      have G : Hid (∃ lo hi, w.heap.size ≤ lo ∧ IsSeq wr lo hi u3 (ctsOf ts)) := by
        have := HS.out
        rw [List.take_of_length_le (by rw [HL.out]; exact Nat.le_refl _)] at this
        exact this
      clear HS
      go_wp2
      go_ret
      obtain ⟨lo, hi, hlo, gf, lb, e1, e2, e3, e4, e5⟩ := G.out
      exact ⟨_, rfl, ⟨gf, lb, e1, e2, fun l J Jx W hW hJ hJx hY h0 => e3 l J Jx W (hW.mono hlo e5) hJ hJx (fun pre x W1 m hj hx hlen => by
        obtain ⟨fn, tmps, assign, body, hy, hR⟩ := hY pre x W1 m hj hx hlen
        exact ⟨fn, tmps, assign, body, hy, hR.mono fun e W' hh => hh.elim (fun ⟨q1, q2, q3⟩ => .inl ⟨q1, q2, q3.mono hlo e5 (Nat.le_refl _)⟩) (fun ⟨q1, q2, q3⟩ => .inr ⟨q1, q2, q3.mono hlo e5 (Nat.le_refl _)⟩)⟩) h0, HB.out.size, Nat.le_refl _⟩, HB.out⟩
theorem cutsAt_zero : CutsAt 0 := fun x w hx hd => by have := (Tr.br_parts hx).1.1; omega
set_option maxHeartbeats 2000000 in
theorem cutsAt_succ (d : Nat) (IH : CutsAt d) : CutsAt (d + 1) := fun x w hx hd => by
  obtain ⟨⟨h2, h16⟩, hbr, h7⟩ := Tr.br_parts hx
  have hby := br_byT hx
  have CB := fun W => branches_any x W hx
  have hce := cts_eq hx
  obtain ⟨L, hL⟩ : ∃ L, L = cts x := ⟨_, rfl⟩
  rw [← hL] at hce ⊢
  clear hL
  obtain ⟨R, hR⟩ : ∃ R, R = ctsOf (Tr.brT x) := ⟨_, rfl⟩
  rw [← hR] at hce
  have HRR := Lib.hid hR
  have hts : ∀ t ∈ Tr.brT x, Tr.isTx t = true ∧ t.length / 2 ≤ d := fun t ht => ⟨(hbr t ht).1, by have := mem_byT ht; omega⟩
  have o1 : ∀ c ∈ R, OkC (byT (Tr.brT x)) c := by rw [hR]; exact ctsOf_ok (fun t ht => (hts t ht).1)
  clear hR
  have HO1 := Lib.hid o1
  have HTS := Lib.hid hts
  have HCE := Lib.hid hce
  obtain ⟨X, hX⟩ : ∃ X : ByteArray, X = ⟨x.toArray⟩ := ⟨_, rfl⟩
  have HX := Lib.hid hX
  rw [← hX]
  simp only [← hX] at CB
  have hct := box_new w (.string X) 40
  have bW : Below w.heap.size w (w.alloc (.cells #[.string X] 40)) := (Below.refl _ _).alloc (Nat.le_refl _) _
  clear hX hx o1 hts hce hbr
  go_enter Try.func24, Try.ntmps24
  go_wp2_with fail
  refine (CB _).mono ?_
  rintro e w2 ⟨A, q, c, rfl, hq, own2, bel2⟩
  have b2 : Below w.heap.size w w2 := bW.trans (bel2.mono (by simp))
  have hct2 := (bel2.cell (p := ⟨w.heap.size, 0, none⟩) (by simp)).trans hct
  have hz2 : w.heap.size + 1 ≤ w2.heap.size := by have := bel2.size; simpa using this
  have CC := cutsOf_at d IH A q c w2.heap.size (Tr.brT x) w2 hq.symm HTS.out (by omega) (Nat.le_refl _) (row_of_own own2)
  rw [← HRR.out] at CC
  clear own2 bel2 CB hct hq
  go_wp2_with fail
  refine CC.mono ?_
  rintro e w3 ⟨v3, rfl, hs3, hb3⟩
  have hz3 := hb3.size
  have hct3 := (hb3.cell (p := ⟨w.heap.size, 0, none⟩) (by show w.heap.size < w2.heap.size; omega)).trans hct2
  have b4 : Below w3.heap.size w3 (w3.alloc (.cells #[v3] 39)) := (Below.refl _ _).alloc (Nat.le_refl _) _
  have G : Hid (IsSeq (w3.alloc (.cells #[v3] 39)) w.heap.size (w3.alloc (.cells #[v3] 39)).heap.size (.func (.func 46) #[] #[.pointer (some ⟨w3.heap.size, 0, none⟩), .pointer (some ⟨w.heap.size, 0, none⟩)]) L) := by
    have hs : (w3.alloc (.cells #[v3] 39)).heap.size = w3.heap.size + 1 := by simp
    have h1 := box_new w3 v3 39
    have h2 := (b4.cell (p := ⟨w.heap.size, 0, none⟩) (by show w.heap.size < w3.heap.size; omega)).trans hct3
    rw [HX.out] at h2
    rw [HCE.out]
    exact ⟨_, _, rfl, enters_of Try.func46 (by kernel_rfl) rfl, cuts_its _ _ _ w.heap.size _ w2.heap.size w3.heap.size v3 _ x h1 h2 (hs3.later (Rg.of_below b4 (Nat.le_refl _))) (by omega) (by omega) (by omega) (by omega) (Nat.le_refl _) HO1.out (by omega), by omega, Nat.le_refl _⟩
  have GB : Hid (Below w.heap.size w (w3.alloc (.cells #[v3] 39))) := (b2.trans (hb3.mono (by omega))).alloc (by omega) _
  obtain ⟨gf, lb, rfl, _⟩ := hs3
  have hf1 : (Value.func (.func gf) #[] lb).oneCell' = true := rfl
  have hz4 := box_new w3 .nilFunc 39
  have hf4 : (w3.alloc (.cells #[.nilFunc] 39)).frozen? ⟨w3.heap.size, 0, none⟩ = false := frozen_of_row _ _ 0 _ _ (heap_alloc_new w3 _)
  clear CC hb3 b2 b4 hct2 hct3 HX
  go_wp2
  go_ret
  exact ⟨_, rfl, by simpa using G.out, GB.out⟩
theorem cutsAt_all : ∀ d, CutsAt d
  | 0 => cutsAt_zero
  | d+1 => cutsAt_succ d (cutsAt_all d)
end Go.Proofs.Ytgklilckjpbdnaa
/-
  A result beside a code, handed back.
-/
namespace Go.Proofs.Ytgklilckjpbdnaa
open Go.RowKit Fld
set_option linter.unusedVariables false

theorem ResI.of' {r : Int × Int} {w w' : World} {x k : Int} (h : r = (x, k)) (hb : Below w.heap.size w w') : ResI r w (.returned (.tuple #[.int .i64 x, .int .i64 k])) w' := by
  subst h; exact ⟨rfl, hb⟩
end Go.Proofs.Ytgklilckjpbdnaa
/-
  How many cuts a tree has: the program's count.
-/
namespace Go.Proofs.Ytgklilckjpbdnaa
open Go.RowKit Fld Go.Shelf
set_option linter.unusedVariables false
set_option linter.unusedSimpArgs false
set_option maxRecDepth 100000
attribute [local go_sem] Oper.semAt_some

def cntT : Nat → Tx → Nat
  | 0, _ => 0
  | k+1, x => (Tr.brT x).foldl (fun a b => a * cntT k b) 1 + 1
theorem ctF_length : ∀ (k : Nat) (x : Tx), (ctF k x).length = cntT k x
  | 0, x => rfl
  | k+1, x => by
    rw [ctF_succ, List.length_append, List.length_map, cntT]
    congr 1
    have : ∀ (ts : List Tx) (acc : List Ct), (ts.foldl (fun acc b => togT acc (ctF k b)) acc).length = ts.foldl (fun a b => a * cntT k b) acc.length := fun ts => by
      induction ts with
      | nil => intro acc; rw [List.foldl_nil, List.foldl_nil]
      | cons a r ih =>
        intro acc
        rw [List.foldl_cons, List.foldl_cons, ih, togT_length, ctF_length k a]
    exact this _ _
def chkN (x : Tx) : Bool := decide (cntT 8 x ≤ 1000)
theorem chkN_all : Tr.allT.all chkN = true := by decide +kernel
theorem cts_length {x : Tx} (h : Tr.isTx x = true) : (cts x).length = cntT 8 x ∧ cntT 8 x ≤ 1000 := by
  refine ⟨by unfold cts; exact ctF_length 8 x, ?_⟩
  have := Tr.tx_of chkN_all h
  unfold chkN at this
  exact of_decide_eq_true this
def countCutsA (t : List Int) : Int × Int := if Tr.isLv t = true then ((cntT 8 (Tr.txt t) : Int), 0) else (0, 1)
theorem countCutsA_yes {t : List Int} (h : Tr.isLv t = true) : countCutsA t = ((cntT 8 (Tr.txt t) : Int), 0) := if_pos h
theorem countCutsA_no {t : List Int} (h : Tr.isLv t = false) : countCutsA t = (0, 1) := if_neg (by rw [h]; simp)
theorem KpR.set {lo hi E b o : Nat} {w : World} (v : Value) (h1 : ¬ (lo ≤ b ∧ b < hi)) (h2 : b < E) : KpR lo hi E w (w.setCell ⟨b, o, none⟩ v) :=
  ⟨by rw [World.size_setCell]; exact Nat.le_refl _, fun k h3 h4 _ => heap_setCell_other w ⟨b, o, none⟩ k v (by show k ≠ b; omega), fun k h3 _ => heap_setCell_other w ⟨b, o, none⟩ k v (by show k ≠ b; omega)⟩
set_option maxHeartbeats 2000000 in
theorem pCountCuts_L (A : Option Addr) (n c B : Nat) (t : List Int) (w : World) (hl : t.length = n) (hn : n ≤ 1048576) (hB : B ≤ w.heap.size) (h : Row w B A (ints t)) (hc : n ≤ c) :
    Calls Try.prog 9 #[.slice A n c] w (ResI (countCutsA t) w) := by
  have C0 := isLevels_any A n c B t w hl (by omega) h
  cases hlv : Tr.isLv t
  · have G := Lib.hid (countCutsA_no hlv)
    rw [hlv] at C0
    clear hl
    refine (callsIn_wide (n := 3)).1 ?_
    refine callsIn_of_wp_marks Try.func9 rfl trivial ?_ rfl
    simp only [Try.ntmps9, List.size_toArray, List.length_cons, List.length_nil, Nat.reduceAdd, Nat.reduceSub, Array.replicate_succ, Array.replicate_zero, List.push_toArray, List.append_toArray, List.nil_append, List.cons_append]
    refine wpIn_wide.2 ?_
    go_wp2_with fail
    refine C0.mono ?_
    rintro e w' ⟨rfl, d, rfl⟩
    go_wp2
    exact ⟨.tuple #[.int .i64 0, .int .i64 1], by simp [results, Try.f9, go_sem], ResI.of' G.out (below_drewN (Below.refl _ _) d)⟩
  · rw [hlv] at C0
    obtain ⟨l1, l8⟩ := lv_bd hlv
    have hx := Tr.tx_txt hlv
    have G := Lib.hid (countCutsA_yes hlv)
    obtain ⟨hcl, hcb⟩ := cts_length hx
    have CT := fun W (hB' : B ≤ W.heap.size) (hR : Row W B A (ints t)) => treeOf_any A n c B t W hl (by omega) (by omega) hc hB' hR
    have CU := fun W => cutsAt_all 8 (Tr.txt t) W hx (by have := (Tr.br_parts hx).1.2; omega)
    obtain ⟨L, hL⟩ : ∃ L, L = cts (Tr.txt t) := ⟨_, rfl⟩
    obtain ⟨N, hN⟩ : ∃ N, N = cntT 8 (Tr.txt t) := ⟨_, rfl⟩
    rw [← hL, ← hN] at hcl
    rw [← hN] at hcb G
    simp only [← hL] at CU
    have HCL := Lib.hid hcl
    obtain ⟨X, hX⟩ : ∃ X : ByteArray, X = ⟨(Tr.txt t).toArray⟩ := ⟨_, rfl⟩
    simp only [← hX] at CT CU
    clear hl hlv hx hL hN hcl hX l1 l8
    refine (callsIn_wide (n := 3)).1 ?_
    refine callsIn_of_wp_marks Try.func9 rfl trivial ?_ rfl
    simp only [Try.ntmps9, List.size_toArray, List.length_cons, List.length_nil, Nat.reduceAdd, Nat.reduceSub, Array.replicate_succ, Array.replicate_zero, List.push_toArray, List.append_toArray, List.nil_append, List.cons_append]
    refine wpIn_wide.2 ?_
    go_wp2_with fail
    refine C0.mono ?_
    rintro e w' ⟨rfl, d, rfl⟩
    obtain ⟨W0, hW0⟩ : ∃ W0 : World, W0 = w.drewN d := ⟨_, rfl⟩
    have b0 : Below w.heap.size w W0 := by rw [hW0]; exact below_drewN (Below.refl _ _) d
    rw [← hW0]
    clear hW0
    have b1 : Below W0.heap.size W0 (W0.alloc (.cells #[.int .i64 0] 2)) := (Below.refl _ _).alloc (Nat.le_refl _) _
    have hc0 := box_new W0 (.int .i64 0) 2
    have hf0 : (W0.alloc (.cells #[.int .i64 0] 2)).frozen? ⟨W0.heap.size, 0, none⟩ = false := frozen_of_row _ _ 0 _ _ (heap_alloc_new W0 _)
    have hz0 := b0.size
    go_wp2_with fail
    refine (CT _ (by simp; omega) ((h.below b0 hB).below b1 (by omega))).mono ?_
    rintro e w2 ⟨rfl, b2⟩
    have hz2 : W0.heap.size + 1 ≤ w2.heap.size := by have := b2.size; simpa using this
    go_wp2_with fail
    refine (CU _).mono ?_
    rintro e w3 ⟨v3, rfl, hs3, b3⟩
    have hz3 := b3.size
    obtain ⟨gf, lb, rfl, eg, hit, _, _⟩ := hs3
    have b23 : Below (W0.heap.size + 1) (W0.alloc (.cells #[.int .i64 0] 2)) w3 := by
      have e : (W0.alloc (.cells #[.int .i64 0] 2)).heap.size = W0.heap.size + 1 := by simp
      rw [e] at b2
      exact b2.trans (b3.mono hz2)
    have hc3 := (b23.cell (p := ⟨W0.heap.size, 0, none⟩) (by show W0.heap.size < _; omega)).trans hc0
    have hf3 : w3.frozen? ⟨W0.heap.size, 0, none⟩ = false := by
      have e := b23.block W0.heap.size (by omega)
      unfold World.frozen? at hf0 ⊢
      rw [e]; exact hf0
    have bw3 : Below w.heap.size w w3 := (b0.trans (b1.mono hz0)).trans (b23.mono (by omega))
    clear b2 b3 b23 hc0 hf0 CT CU C0 b0 b1
    go_wp2_with fail
    refine (wpIn_wide (n := 3)).1 ?_
    refine wp_rng (lo := w2.heap.size) (hi := w3.heap.size) (xs := L) (w0 := w3) (enc := encC) rfl eg hit (Rg.refl _ _ _) (Nat.le_refl _)
      (fun pre W' => (W'.cell? ⟨W0.heap.size, 0, none⟩ = some (.int .i64 (pre.length : Int)) ∧ W'.frozen? ⟨W0.heap.size, 0, none⟩ = false) ∧ Below w.heap.size w W') (fun pre W' => False)
      ((Abd.frozen _ _ (fun (pre : List Ct) => .int .i64 (pre.length : Int))).and (Abd.below (by omega) (Nat.le_refl _))) ⟨fun _ _ _ h _ => h, fun _ _ _ _ _ h _ _ _ => h⟩ ⟨⟨hc3, hf3⟩, bw3⟩
      (fun x a' W' => a' = { tmps := #[.slice A n c, undef, .int .i64 0, .int .i64 0, .pointer (some ⟨W0.heap.size, 0, none⟩), .slice A n c, .bool true, .bool false, .slice A n c, .string X, .func (.func gf) #[] lb, encC x, undef, undef, undef], defers := [] }) (fun x a' => ⟨fun _ _ _ h _ => h, fun _ _ _ _ _ h _ _ _ => h⟩) ?assign ?body ?done ?stop
    case assign =>
      rintro l1 m1 pre x Wr K hI hx hK
      simp only [List.setIfInBounds_toArray, List.set_cons_succ, List.set_cons_zero]
      gi_wp2
      exact hK _ _ (Below.refl _ _) rfl
    case body =>
      rintro l1 m1 pre x a' R hl1 _ ⟨⟨hc, hf⟩, hb⟩ rfl hx hlen
      have hk : pre.length < 1000 := by have := HCL.out; omega
      gi_wp2
      refine ⟨KpR.set _ (by omega) (by omega), ⟨?_, by rw [World.frozen?_setCell]; exact hf⟩, below_set hb (by omega) _⟩
      rw [List.length_append]
      exact World.cell?_setCell_same' _ _ _ (by rw [hc]; rfl)
    case done =>
      rintro D Wd hD ⟨⟨hc, hf⟩, hb⟩ hDo
      rw [HCL.out] at hc
      go_wp2
      refine ⟨by simp, .inl ⟨_, _, rfl, run_takeDeferred hDo, ?_⟩⟩
      exact ⟨.tuple #[.int .i64 N, .int .i64 0], by simp [results, Try.f9, go_sem], ResI.of' G.out ((Abd.below (β := Unit) (B := w3.heap.size) (by omega) (Nat.le_refl _)).turn () Wd D _ _ hb hD hDo rfl)⟩
    case stop =>
      rintro D pre Wd hD hJd hDo
      exact hJd.elim
end Go.Proofs.Ytgklilckjpbdnaa
/-
  CountCuts, the model's way.
-/
namespace Go.Proofs.Ytgklilckjpbdnaa
open Go.RowKit Fld
set_option linter.unusedVariables false
set_option linter.unusedSimpArgs false
set_option maxRecDepth 100000

def chkC (t : List Int) : Bool := decide (cntS 8 (Tr.can t) = (cntT 8 (Tr.txt t) : Int))
theorem chkC_all : Tr.allLv.all chkC = true := by decide +kernel
theorem cnt_same {t : List Int} (h : Tr.isLv t = true) : cntS 8 (Tr.can t) = (cntT 8 (Tr.txt t) : Int) := by
  have := Tr.all_of chkC_all (Tr.isLv_iff.1 h)
  unfold chkC at this
  exact of_decide_eq_true this
theorem sum_snoc {L : List Int} {k : Nat} {x : Int} (h : L[k]? = some x) : (L.take (k + 1)).sum = (L.take k).sum + x := by rw [take_snoc h, List.sum_append]; simp
set_option maxHeartbeats 2000000 in
theorem sCountCuts_L (A : Option Addr) (n c B : Nat) (t : List Int) (w : World) (hl : t.length = n) (hn : n ≤ 1048576) (hB : B ≤ w.heap.size) (h : Row w B A (ints t)) :
    Calls Try.prog 7 #[.slice A n c] w (ResI (countCutsA t) w) := by
  have C0 := l03Is_any A n c B t w hl hn h
  cases hlv : Tr.isLv t
  · have G := Lib.hid (countCutsA_no hlv)
    rw [hlv] at C0
    go_enter Try.func7, Try.ntmps7
    go_wp2_with fail
    refine C0.mono ?_
    rintro e w' ⟨rfl, d, rfl⟩
    go_wp2
    go_ret2
    exact ResI.of' G.out (below_drewN (Below.refl _ _) d)
  · rw [hlv] at C0
    have G := Lib.hid (countCutsA_yes hlv)
    obtain ⟨hclv, hcl⟩ := lv_can hlv
    have HLV := Lib.hid hlv
    have HL := Lib.hid hl
    have hsum : sumC (spF 8 (Tr.can t)) = (cntT 8 (Tr.txt t) : Int) := by rw [spF_sum]; exact cnt_same hlv
    have hok := spF_ok 8 (Tr.can t) hclv (lv_bd hclv).2
    have h256 : sumC (spF 8 (Tr.can t)) ≤ 1000 := by
      rw [hsum]; have := (cts_length (Tr.tx_txt hlv)).2; omega
    have hlen := len_sumC hok
    obtain ⟨L, hL⟩ : ∃ L, L = (spF 8 (Tr.can t)).map (·.2.2) := ⟨_, rfl⟩
    have HLS : Hid (L.sum = (cntT 8 (Tr.txt t) : Int)) := by rw [Hid, hL, ← hsum]; rfl
    have HLB : Hid (∀ k, 0 ≤ (L.take k).sum ∧ (L.take k).sum ≤ 1000) := fun k => by
      have e : (L.take k).sum = sumC ((spF 8 (Tr.can t)).take k) := by rw [hL, ← List.map_take]; rfl
      rw [e]
      have h1 := sumC_take hok k
      have h2 := sumC_nonneg (m := (Tr.can t).length) (S := (spF 8 (Tr.can t)).take k) (fun s hs => hok s (List.mem_of_mem_take hs))
      omega
    have hll : L.length ≤ 1000 := by rw [hL, List.length_map]; omega
    have HCU : Hid (∀ (ad : Addr) (c9 : Nat) (W : World), Row W W.heap.size (some ad) (ints (Tr.can t)) → Calls Try.prog 20 #[.slice (some ad) n c9] W (ResCt L W)) := fun ad c9 W hR => by
      rw [hL]
      exact l05Cuts_any ad n c9 W.heap.size (Tr.can t) W (by rw [hcl, HL.out]) hclv (Nat.le_refl _) hR
    have HCN : Hid (∀ W, Below w.heap.size w W → Calls Try.prog 21 #[.slice A n c] W (NewRow 2 n (ints (Tr.can t)) W)) := fun W hW => l03Canon_any A n c B t W HL.out HLV.out (by have := hW.size; omega) (h.below hW hB)
    obtain ⟨x0, hx0⟩ := at_lt (show 0 < (Tr.can t).length by have := (lv_bd hclv).1; omega)
    have HX := Lib.hid hx0
    obtain ⟨T, hT⟩ : ∃ T, T = Tr.can t := ⟨_, rfl⟩
    rw [← hT] at HX HCU HCN
    obtain ⟨N, hN⟩ : ∃ N, N = cntT 8 (Tr.txt t) := ⟨_, rfl⟩
    rw [← hN] at HLS G
    clear hl hlv hclv hcl hsum hok h256 hlen hL hx0 hT hN h
    go_enter Try.func7, Try.ntmps7
    go_wp2_with fail
    refine C0.mono ?_
    rintro e w' ⟨rfl, d, rfl⟩
    have B0 : Hid (Below w.heap.size w (w.drewN d)) := below_drewN (Below.refl _ _) d
    clear C0
    go_wp2_with fail
    refine (HCN.out _ B0.out).mono ?_
    rintro e w2 ⟨A2, c2, rfl, own2, bel2⟩
    have B2 : Hid (Below w.heap.size w w2) := B0.out.trans (bel2.mono B0.out.size)
    have hr2 := row_of_own own2
    obtain ⟨b9, o9, rfl, _, _⟩ := hr2 0 _ (ints_at HX.out)
    have HR2 := Lib.hid hr2
    clear own2 bel2 hr2
    go_wp2_with fail
    refine (HCU.out _ _ _ HR2.out).mono ?_
    rintro e w3 ⟨g, cg, rfl, hcg, hcm, hgz, hcells, bel3⟩
    have B3 : Hid (Below w.heap.size w w3) := B2.out.trans (bel3.mono B2.out.size)
    have HC := Lib.hid hcells
    obtain ⟨q, hq⟩ : ∃ q, q = L.length := ⟨_, rfl⟩
    have hq1 : q ≤ 1000 := by omega
    have HQ := Lib.hid hq
    rw [← hq]
    clear hcells bel3 hq hll hcg
    go_wp2_with fail
    go_loopw [5, 6] (fun s i wr => ∃ k : Nat, k ≤ q ∧ s = .int .i64 (L.take k).sum ∧ i = .int .i64 k ∧ wr = w3) (fun _ i _ => q - (intOf i).toNat)
    case atStart => exact ⟨0, by omega, by simp, rfl, rfl⟩
    case round =>
      obtain ⟨k, hk, rfl, rfl, rfl⟩ := hrel
      by_cases hlt : k < q
      · obtain ⟨x, hx⟩ := at_lt (show k < L.length by rw [← HQ.out]; exact hlt)
        have hc := HC.out k x hx
        have hs1 := HLB.out k
        have hs2 := HLB.out (k + 1)
        have e := sum_snoc hx
        rw [e] at hs2
        have HE := Lib.hid e
        obtain ⟨y, hy⟩ : ∃ y, y = (L.take k).sum := ⟨_, rfl⟩
        rw [← hy] at HE hs1 hs2 ⊢
        have hw : IntKind.i64.wrap (y + x) = y + x := IntWalk.i64_in _ (by omega)
        clear e hy hx
        go_wp2
        go_roundw
        case rel => exact ⟨k + 1, by omega, by rw [HE.out], by go_num, (by first | trivial | rfl)⟩
        case measure => simp [intOf]; omega
      · obtain rfl : k = q := by omega
        have E : Hid ((L.take k).sum = (N : Int)) := by rw [Hid, List.take_of_length_le (by rw [← HQ.out]; exact Nat.le_refl _)]; exact HLS.out
        rw [E.out]
        go_wp2
        go_ret2
        exact ResI.of' G.out B3.out
end Go.Proofs.Ytgklilckjpbdnaa
