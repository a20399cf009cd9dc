/-
  One step of the program's elimination: a row is scaled, and taken from the others.
-/
import Derived.Test.YtdgdanpkekcckaaSys
import Derived.Test.YtdgdanpkekcckaaMat
import Derived.Test.YtdgdanpkekcckaaNum
import Derived.StillTailTactics
import Derived.Deep.RegionLaw
import Derived.IntWalk
namespace Go.Proofs.Ytdgdanpkekcckaa
open Go.RowKit Fld
set_option linter.unusedVariables false
set_option linter.unusedSimpArgs false
set_option maxRecDepth 100000

def scaleRow (r : List Int) (s : Int) : List Int := r.map fun x => x * s % 10007
theorem scaleRow_length (r : List Int) (s : Int) : (scaleRow r s).length = r.length := by simp [scaleRow]
theorem scaleRow_at {r : List Int} {s x : Int} {k : Nat} (h : r[k]? = some x) : (scaleRow r s)[k]? = some (x * s % 10007) := by unfold scaleRow; rw [List.getElem?_map, h]; rfl
/-- a row less f times another -/
def lessRow (r p : List Int) (f : Int) : List Int := (List.range r.length).map fun k => (r.getD k 0 - f * p.getD k 0 % 10007) % 10007
theorem lessRow_length (r p : List Int) (f : Int) : (lessRow r p f).length = r.length := by simp [lessRow]
theorem lessRow_at {r p : List Int} {f x y : Int} {k : Nat} (h : r[k]? = some x) (h' : p[k]? = some y) : (lessRow r p f)[k]? = some ((x - f * y % 10007) % 10007) := by
  have hk : k < r.length := by
    rcases Nat.lt_or_ge k r.length with g | g
    · exact g
    · rw [List.getElem?_eq_none g] at h; cases h
  unfold lessRow
  rw [List.getElem?_map, List.getElem?_range hk]
  show some ((r.getD k 0 - f * p.getD k 0 % 10007) % 10007) = _
  rw [List.getD_eq_getElem?_getD, List.getD_eq_getElem?_getD, h, h']; rfl
theorem mix_at {us vs : List Int} {j : Nat} {x : Int} (hu : j ≤ us.length) (h : vs[j]? = some x) : (us.take j ++ vs.drop j)[j]? = some x := by
  have e1 : (us.take j).length = j := by simp; omega
  rw [List.getElem?_append_right (by omega), e1, Nat.sub_self, List.getElem?_drop, Nat.add_zero]; exact h
/-- a row is written number by number -/
def Mixing (w : World) (lo hi : Nat) (V : Value) (n : Nat) (m : List (List Int)) (vs : List Value) (c : Nat) (us r : List Int) (j : Nat) (wr : World) : Prop :=
  OwnSys wr lo hi V n (m.set c (us.take j ++ r.drop j)) vs ∧ Within lo hi w wr
theorem Mixing.start {w : World} {lo hi n c : Nat} {V : Value} {m : List (List Int)} {vs : List Value} {us r : List Int} (h : OwnSys w lo hi V n m vs) (hr : m[c]? = some r) : Mixing w lo hi V n m vs c us r 0 w := by
  refine ⟨?_, Within.refl _ _ _⟩
  have e : m.set c (us.take 0 ++ r.drop 0) = m := by
    rw [List.take_zero, List.drop_zero, List.nil_append]
    apply List.ext_getElem?
    intro i
    rw [List.getElem?_set]
    by_cases e : c = i
    · subst e
      rw [if_pos rfl]
      rcases Nat.lt_or_ge c m.length with g | g
      · rw [if_pos g, hr]
      · rw [List.getElem?_eq_none g] at hr; cases hr
    · rw [if_neg e]
  rw [e]; exact h
theorem Mixing.step {w wr : World} {lo hi n c g cc j : Nat} {V : Value} {m : List (List Int)} {vs : List Value} {us r : List Int} {u : Int} (h : Mixing w lo hi V n m vs c us r j wr) (hc : c < m.length) (hl : us.length = r.length) (hj : j < r.length) (hu : us[j]? = some u)
    (hv : vs[c]? = some (.slice (some ⟨g, 0, none⟩) r.length cc)) (hg : lo ≤ g ∧ g < hi) : Mixing w lo hi V n m vs c us r (j + 1) (wr.setCell ⟨g, j, none⟩ (.int .i64 u)) := by
  have hlen : (us.take j ++ r.drop j).length = r.length := by simp; omega
  have hrow : (m.set c (us.take j ++ r.drop j))[c]? = some (us.take j ++ r.drop j) := List.getElem?_set_self (by exact hc)
  have h1 := h.1.put (k := j) (x := u) hrow (by rw [hlen]; exact hv)
  rw [List.set_set, mark_step hj hl hu] at h1
  refine ⟨h1, h.2.trans ⟨rfl, rfl, rfl, by simp [World.setCell], fun i hi hr => Below.heap_setCell wr ⟨g, j, none⟩ _ i (fun e => ?_)⟩⟩
  have e2 : i = g := e
  omega
theorem Mixing.done {w wr : World} {lo hi n c : Nat} {V : Value} {m : List (List Int)} {vs : List Value} {us r : List Int} (h : Mixing w lo hi V n m vs c us r r.length wr) (hl : us.length = r.length) : OwnSys wr lo hi V n (m.set c us) vs ∧ Within lo hi w wr := by
  have e : us.take r.length ++ r.drop r.length = us := by rw [List.take_of_length_le (by omega), List.drop_of_length_le (Nat.le_refl _), List.append_nil]
  have h1 := h.1
  rw [e] at h1
  exact ⟨h1, h.2⟩
theorem mixM_at {α : Type} {us vs : List α} {j : Nat} {x : α} (hu : j ≤ us.length) (h : vs[j]? = some x) : (us.take j ++ vs.drop j)[j]? = some x := by
  have e1 : (us.take j).length = j := by simp; omega
  rw [List.getElem?_append_right (by omega), e1, Nat.sub_self, List.getElem?_drop, Nat.add_zero]; exact h
theorem mixM_both {α : Type} {us vs : List α} {j c : Nat} {x : α} (hj : j ≤ us.length) (hu : us[c]? = some x) (hv : vs[c]? = some x) : (us.take j ++ vs.drop j)[c]? = some x := by
  have e1 : (us.take j).length = j := by simp; omega
  rcases Nat.lt_or_ge c j with g | g
  · rw [List.getElem?_append_left (by omega), List.getElem?_take, if_pos g]; exact hu
  · rw [List.getElem?_append_right (by omega), e1, List.getElem?_drop, show j + (c - j) = c from by omega]; exact hv
theorem mixM_same {α : Type} {us vs : List α} {j : Nat} {x : α} (hu : us[j]? = some x) (hv : vs[j]? = some x) : us.take (j + 1) ++ vs.drop (j + 1) = us.take j ++ vs.drop j := by
  have hj : j < vs.length := by
    rcases Nat.lt_or_ge j vs.length with g | g
    · exact g
    · rw [List.getElem?_eq_none g] at hv; cases hv
  rw [List.take_add_one, hu, List.drop_eq_getElem_cons hj]
  rw [List.getElem?_eq_getElem hj] at hv
  injection hv with hv
  rw [hv]
  simp
theorem Mixing.drew {w wr : World} {lo hi n c : Nat} {V : Value} {m : List (List Int)} {vs : List Value} {us r : List Int} {j : Nat} (h : Mixing w lo hi V n m vs c us r j wr) : Mixing w lo hi V n m vs c us r j wr.drew :=
  ⟨h.1.drewN 1, ⟨h.2.os, h.2.tape, h.2.output, h.2.size, h.2.block⟩⟩
theorem scale_num {r : List Int} {s y : Int} {k : Nat} (h : (scaleRow r s)[k]? = some y) : 0 ≤ y ∧ y < 10007 := by
  have h1 := List.mem_of_getElem? h
  unfold scaleRow at h1
  rw [List.mem_map] at h1
  obtain ⟨z, _, rfl⟩ := h1
  omega
theorem still1 {P : Program} {f : FuncId} {args : Array Value} {w : World} {v : Value} (h : Calls P f args w fun e w' => e = .returned v ∧ w = w') : Calls P f args w fun e w' => e = .returned v ∧ w' = w :=
  h.mono fun _ _ ⟨he, hw⟩ => ⟨he, hw.symm⟩
/-- what a step of the elimination leaves -/
def pivL (m : List (List Int)) (c : Nat) : List Int := scaleRow (m.getD c []) (inv ((m.getD c []).getD c 0))
def elimL (m : List (List Int)) (c : Nat) : List (List Int) := (List.range m.length).map fun i => if i = c then pivL m c else lessRow (m.getD i []) (pivL m c) ((m.getD i []).getD c 0)
theorem elimL_length (m : List (List Int)) (c : Nat) : (elimL m c).length = m.length := by simp [elimL]
theorem elimL_at {m : List (List Int)} {c i : Nat} {r : List Int} (h : m[i]? = some r) (hne : i ≠ c) : (elimL m c)[i]? = some (lessRow r (pivL m c) (r.getD c 0)) := by
  have hi : i < m.length := by
    rcases Nat.lt_or_ge i m.length with g | g
    · exact g
    · rw [List.getElem?_eq_none g] at h; cases h
  unfold elimL
  rw [List.getElem?_map, List.getElem?_range hi]
  show some (if i = c then _ else _) = _
  rw [if_neg hne, getD_of h]
theorem elimL_self {m : List (List Int)} {c : Nat} (hc : c < m.length) : (elimL m c)[c]? = some (pivL m c) := by
  unfold elimL
  rw [List.getElem?_map, List.getElem?_range hc]
  show some (if c = c then _ else _) = _
  rw [if_pos rfl]
theorem lessRow_zero {r p : List Int} (h : allNum r = true) : lessRow r p 0 = r := by
  apply List.ext_getElem?
  intro k
  rcases Nat.lt_or_ge k r.length with g | g
  · obtain ⟨x, hx⟩ := at_lt g
    have := isNum_iff.1 (List.all_eq_true.1 h x (List.mem_of_getElem? hx))
    unfold lessRow
    rw [List.getElem?_map, List.getElem?_range g, hx]
    show some ((r.getD k 0 - 0 * p.getD k 0 % 10007) % 10007) = _
    rw [List.getD_eq_getElem?_getD, hx, Int.zero_mul]
    show some ((x - 0 % 10007) % 10007) = _
    congr 1; omega
  · rw [List.getElem?_eq_none (by rw [lessRow_length]; exact g), List.getElem?_eq_none g]
theorem OwnSys.row_at {w : World} {lo hi n k : Nat} {v : Value} {m : List (List Int)} {vs : List Value} {r : List Int} (h : OwnSys w lo hi v n m vs) (hr : m[k]? = some r) (h0 : 0 < r.length) :
    ∃ b cc, vs[k]? = some (.slice (some ⟨b, 0, none⟩) r.length cc) ∧ lo ≤ b ∧ b < hi ∧ w.ownsRow lo 42 1 (.slice (some ⟨b, 0, none⟩) r.length cc) r.length (ints r) := by
  obtain ⟨A, cc, e, o⟩ := h.inner k r hr
  rcases o.1.2 with ⟨_, e2⟩ | ⟨b, cap, cur, hv, hb, _⟩
  · omega
  · injection hv with e1 e2 e3
    subst e1
    exact ⟨b, cc, e, hb, o.2 b rfl, o.1⟩
theorem numR {r : List Int} {k : Nat} {x : Int} (h : allNum r = true) (hx : r[k]? = some x) : 0 ≤ x ∧ x < 10007 := by
  have := isNum_iff.1 (List.all_eq_true.1 h x (List.mem_of_getElem? hx))
  exact ⟨by omega, by omega⟩
set_option maxHeartbeats 2000000 in
theorem eliminate_any (g n cap lo hi c q : Nat) (m : List (List Int)) (vs : List Value) (w : World) (hq : Wide m q) (hnum : ∀ r ∈ m, allNum r = true) (hc : c < n) (hcq : c < q) (hn : n ≤ 8) (hq16 : q ≤ 16) (hhi : hi ≤ w.heap.size)
    (h : OwnSys w lo hi (.slice (some ⟨g, 0, none⟩) n cap) n m vs) :
    Calls Try.prog 34 #[.slice (some ⟨g, 0, none⟩) n cap, .int .i64 c] w fun e w' => e = .returned (.tuple #[]) ∧ OwnSys w' lo hi (.slice (some ⟨g, 0, none⟩) n cap) n (elimL m c) vs ∧ Within lo hi w w' := by
  have hl := h.size
  obtain ⟨r, hr⟩ := at_lt (show c < m.length by omega)
  have hrq := hq.at_ hr
  obtain ⟨x, hx⟩ := at_lt (show c < r.length by omega)
  have hrn := hnum r (List.mem_of_getElem? hr)
  obtain ⟨x0, x1⟩ := numR hrn hx
  obtain ⟨b, cc, hvc, hb0, hb1, ho⟩ := h.row_at hr (by omega)
  have hcell := ho.cellAt c (by omega)
  rw [ints_at hx] at hcell
  have hcg := h.outer.1.cellAt c (by omega)
  rw [hvc] at hcg
  obtain ⟨s, hs⟩ : ∃ s, s = inv x := ⟨_, rfl⟩
  obtain ⟨s0, s1⟩ : 0 ≤ s ∧ s < 10007 := by rw [hs]; exact ⟨inv_lo x, inv_hi x⟩
  have HP : Hid (pivL m c = scaleRow r s) := by
    unfold Hid pivL
    rw [getD_of hr, List.getD_eq_getElem?_getD, hx, hs]; rfl
  have HM := Lib.hid (Mixing.start (us := scaleRow r s) h hr)
  have HRQ := Lib.hid hrq
  have HRN := Lib.hid hrn
  have HV := Lib.hid hvc
  have HS := Lib.hid hs
  have HR := Lib.hid hr
  have HL := Lib.hid hl
  have HH := Lib.hid h
  have c0 : (0 : Int) ≤ (c : Int) := Int.natCast_nonneg _
  have c1 : (c : Int) < (n : Int) := by omega
  have c2 : (c : Int) < (r.length : Int) := by omega
  have r16 : r.length ≤ 16 := by omega
  clear hx hs hr hvc ho h hl hrq
  go_enter Try.func34, Try.ntmps34
  go_wp2_with fail
  refine (inverse_any _ _ x0 x1).mono ?_
  rintro e w' ⟨rfl, rfl⟩
  rw [← HS.out]
  go_wp2_with fail
  go_loopw [22] (fun k wr => ∃ j : Nat, j ≤ r.length ∧ k = .int .i64 j ∧ Mixing w lo hi (.slice (some ⟨g, 0, none⟩) n cap) n m vs c (scaleRow r s) r j wr) (fun k _ => r.length - (intOf k).toNat)
  case atStart => exact ⟨0, Nat.zero_le _, rfl, HM.out⟩
  case round =>
    obtain ⟨j, hj, rfl, HX⟩ := hrel
    by_cases hlt : j < r.length
    · obtain ⟨y, hy⟩ := at_lt hlt
      obtain ⟨y0, y1⟩ := numR HRN.out hy
      have hlen : (((scaleRow r s).take j ++ r.drop j)).length = r.length := by rw [List.length_append, List.length_take, List.length_drop, scaleRow_length]; omega
      obtain ⟨b', cc', e, _, _, ho⟩ := HX.1.row_at (List.getElem?_set_self (by rw [HL.out]; exact hc)) (by rw [hlen]; omega)
      rw [HV.out, hlen] at e
      cases e
      rw [hlen] at ho
      have hcj := ho.cellAt j (by omega)
      have hfj := ho.frozenAt j
      rw [ints_at (mix_at (by rw [scaleRow_length]; omega) hy)] at hcj
      have G := Lib.hid (HX.step (by rw [HL.out]; exact hc) (scaleRow_length r s) hlt (scaleRow_at hy) HV.out ⟨hb0, hb1⟩)
      have j0 : (0 : Int) ≤ (j : Int) := Int.natCast_nonneg _
      have j1 : (j : Int) < (r.length : Int) := by omega
      clear hy HX ho hlen
      go_wp2_with (go_at_call 33; refine (times_any _ _ _ y0 y1 s0 s1).mono ?_; rintro e w' ⟨rfl, rfl⟩)
      go_roundw
      case rel => exact ⟨j + 1, by omega, by go_num, G.out⟩
      case measure => simp [intOf]; omega
    · obtain rfl : j = r.length := by omega
      have G := Lib.hid (HX.done (scaleRow_length r s))
      clear HX HM
      go_wp2_with fail
      obtain ⟨P, hP⟩ : ∃ P, P = scaleRow r s := ⟨_, rfl⟩
      obtain ⟨E, hE⟩ : ∃ E, E = elimL m c := ⟨_, rfl⟩
      obtain ⟨D, hD⟩ : ∃ D, D = m.set c P := ⟨_, rfl⟩
      have HG : Hid (OwnSys wr lo hi (.slice (some ⟨g, 0, none⟩) n cap) n D vs ∧ Within lo hi w wr) := by have := G.out; rw [← hP, ← hD] at this; exact this
      have EL : Hid (E.length = n) := by rw [Hid, hE, elimL_length, HL.out]
      have DL : Hid (D.length = n) := by rw [Hid, hD, List.length_set, HL.out]
      have HEc : Hid (E[c]? = some P) := by rw [Hid, hE, elimL_self (by rw [HL.out]; exact hc), HP.out, hP]
      have HDc : Hid (D[c]? = some P) := by rw [Hid, hD]; exact List.getElem?_set_self (by rw [HL.out]; exact hc)
      have HEa : Hid (∀ a ra, m[a]? = some ra → a ≠ c → E[a]? = some (lessRow ra P (ra.getD c 0))) := fun a ra h1 h2 => by rw [hE, elimL_at h1 h2, HP.out, hP]
      have HDa : Hid (∀ a ra, m[a]? = some ra → a ≠ c → D[a]? = some ra) := fun a ra h1 h2 => by rw [hD, List.getElem?_set_ne (Ne.symm h2)]; exact h1
      have HPL : Hid (P.length = r.length) := by rw [Hid, hP, scaleRow_length]
      have HPN : Hid (∀ (k : Nat) (y : Int), P[k]? = some y → 0 ≤ y ∧ y < 10007) := by rw [hP]; intro k y hy; exact scale_num hy
      have HEq : Hid (E = elimL m c) := hE
      clear G hP hE hD
      go_loopw [37] (fun i wr => ∃ a : Nat, a ≤ n ∧ i = .int .i64 a ∧ Hid (OwnSys wr lo hi (.slice (some ⟨g, 0, none⟩) n cap) n (E.take a ++ D.drop a) vs ∧ Within lo hi w wr)) (fun i _ => n - (intOf i).toNat)
      case atStart => exact ⟨0, Nat.zero_le _, rfl, by simpa [Hid] using HG.out⟩
      case round =>
        obtain ⟨a, ha, rfl, HX⟩ := hrel
        by_cases hlt : a < n
        · obtain ⟨ra, hra⟩ := at_lt (show a < m.length by rw [HL.out]; exact hlt)
          have hral := hq.at_ hra
          have hran := hnum ra (List.mem_of_getElem? hra)
          have hMc : (E.take a ++ D.drop a)[c]? = some P := mixM_both (by rw [EL.out]; omega) HEc.out HDc.out
          have a0 : (0 : Int) ≤ (a : Int) := Int.natCast_nonneg _
          have a1 : (a : Int) < (n : Int) := by omega
          have c3 : (c : Int) < (ra.length : Int) := by omega
          by_cases hac : a = c
          · have ta := beq_t (show (a : Int) = (c : Int) by omega)
            obtain ⟨z, hz⟩ := at_lt (show c < P.length by rw [HPL.out]; omega)
            obtain ⟨bp, cp, hvp, _, _, hop⟩ := HX.out.1.row_at hMc (by rw [HPL.out]; omega)
            have hout := HX.out.1.outer.1.cellAt c (by omega)
            rw [hvp, HPL.out, ← hac] at hout
            have hcl := hop.cellAt c (by rw [HPL.out]; omega)
            rw [ints_at hz] at hcl
            have HN : Hid (E.take (a + 1) ++ D.drop (a + 1) = E.take a ++ D.drop a) := by rw [hac]; exact mixM_same HEc.out HDc.out
            clear hz hop hvp hMc hra hral hran hac
            go_wp2
            go_roundw
            case rel => exact ⟨a + 1, by omega, by go_num, by rw [HN.out]; exact HX⟩
            case measure => simp [intOf]; omega
          · have ta := beq_f (show (a : Int) ≠ (c : Int) by omega)
            have hMa : (E.take a ++ D.drop a)[a]? = some ra := mixM_at (by rw [EL.out]; omega) (HDa.out a ra hra hac)
            obtain ⟨f, hf⟩ := at_lt (show c < ra.length by omega)
            obtain ⟨f0, f1⟩ := numR hran hf
            obtain ⟨ba, ca, hva, hba0, hba1, hoa⟩ := HX.out.1.row_at hMa (by omega)
            have hout := HX.out.1.outer.1.cellAt a (by omega)
            rw [hva] at hout
            have hcl := hoa.cellAt c (by omega)
            rw [ints_at hf] at hcl
            have HEr : Hid (E[a]? = some (lessRow ra P f)) := by
              have := HEa.out a ra hra hac
              rw [List.getD_eq_getElem?_getD, hf] at this
              exact this
            by_cases hf0 : f = 0
            · have tf := beq_t hf0
              have HN : Hid (E.take (a + 1) ++ D.drop (a + 1) = E.take a ++ D.drop a) := mixM_same (by have := HEr.out; rw [hf0, lessRow_zero hran] at this; exact this) (HDa.out a ra hra hac)
              clear hf hoa hva hMc hMa hra hral hran hf0 hac
              go_wp2
              go_roundw
              case rel => exact ⟨a + 1, by omega, by go_num, by rw [HN.out]; exact HX⟩
              case measure => simp [intOf]; omega
            · have tf := beq_f hf0
              obtain ⟨U, hU⟩ : ∃ U, U = lessRow ra P f := ⟨_, rfl⟩
              obtain ⟨M, hM⟩ : ∃ M, M = E.take a ++ D.drop a := ⟨_, rfl⟩
              have HU := Lib.hid hU
              have HMM := Lib.hid hM
              have HXM : Hid (OwnSys wr lo hi (.slice (some ⟨g, 0, none⟩) n cap) n M vs ∧ Within lo hi w wr) := by rw [hM]; exact HX
              rw [← hM] at hMa hMc
              have ML : Hid (M.length = n) := HXM.out.1.size
              obtain ⟨bp, cp, hvp, hbp0, hbp1, _⟩ := HXM.out.1.row_at hMc (by rw [HPL.out]; omega)
              rw [HV.out, HPL.out] at hvp
              cases hvp
              obtain ⟨w2, hw2⟩ : ∃ w2 : World, w2 = wr := ⟨_, rfl⟩
              subst hw2
              have UL : Hid (U.length = ra.length) := by rw [Hid, hU, lessRow_length]
              have HS0 := Lib.hid (Mixing.start (us := U) HXM.out.1 hMa)
              have HMa := Lib.hid hMa
              have HMc := Lib.hid hMc
              have HVA := Lib.hid hva
              have HRAN := Lib.hid hran
              have HAC := Lib.hid hac
              have HEU : Hid (E[a]? = some U) := by rw [Hid, hU]; exact HEr.out
              have HRAL : Hid (ra.length = r.length) := by have := HRQ.out; rw [Hid]; omega
              clear hf hoa hva hMc hMa hra hral hran hf0 hac hU hM HX
              go_wp2_with fail
              go_loopw [55] (fun k wr => ∃ j : Nat, j ≤ ra.length ∧ k = .int .i64 j ∧ Mixing w2 lo hi (.slice (some ⟨g, 0, none⟩) n cap) n M vs a U ra j wr) (fun k _ => ra.length - (intOf k).toNat)
              case atStart => exact ⟨0, Nat.zero_le _, rfl, HS0.out⟩
              case round =>
                obtain ⟨j, hj, rfl, HX⟩ := hrel
                by_cases hjl : j < ra.length
                · obtain ⟨y, hy⟩ := at_lt hjl
                  obtain ⟨y0, y1⟩ := numR HRAN.out hy
                  obtain ⟨z, hz⟩ := at_lt (show j < P.length by rw [HPL.out, ← HRAL.out]; exact hjl)
                  obtain ⟨z0, z1⟩ := HPN.out j z hz
                  have hlen : ((U.take j ++ ra.drop j)).length = ra.length := by rw [List.length_append, List.length_take, List.length_drop, UL.out]; omega
                  obtain ⟨b2, cc2, e, _, _, ho⟩ := HX.1.row_at (List.getElem?_set_self (by rw [ML.out]; exact hlt)) (by rw [hlen]; omega)
                  rw [HVA.out, hlen] at e
                  cases e
                  rw [hlen] at ho
                  have hcj := ho.cellAt j (by omega)
                  have hfj := ho.frozenAt j
                  rw [ints_at (mix_at (by rw [UL.out]; omega) hy)] at hcj
                  obtain ⟨b3, cc3, e, _, _, hop⟩ := HX.1.row_at (k := c) (r := P) (by rw [List.getElem?_set_ne HAC.out]; exact HMc.out) (by rw [HPL.out]; omega)
                  rw [HV.out, HPL.out] at e
                  cases e
                  have hcp := hop.cellAt j (by rw [HPL.out, ← HRAL.out]; omega)
                  rw [ints_at hz] at hcp
                  obtain ⟨p, hp⟩ : ∃ p, p = f * z % 10007 := ⟨_, rfl⟩
                  obtain ⟨u, hu⟩ : ∃ u, u = (y - p) % 10007 := ⟨_, rfl⟩
                  obtain ⟨p0, p1⟩ : 0 ≤ p ∧ p < 10007 := by omega
                  have C1 : Hid (∀ w : World, Calls Try.prog 33 #[.int .i64 f, .int .i64 z] w fun e w' => e = .returned (.int .i64 p) ∧ w = w') := fun w => by rw [hp]; exact times_any _ _ _ f0 f1 z0 z1
                  have C2 : Hid (∀ w : World, Calls Try.prog 48 #[.int .i64 y, .int .i64 p] w fun e w' => e = .returned (.int .i64 u) ∧ w = w') := fun w => by rw [hu]; exact minus_any _ _ _ y0 y1 p0 p1
                  have HUJ : U[j]? = some u := by rw [HU.out, lessRow_at hy hz, hu, hp]
                  have G := Lib.hid ((HX.drew).step (by rw [ML.out]; exact hlt) UL.out hjl HUJ HVA.out ⟨hba0, hba1⟩)
                  have hcj' : wr.drew.cell? ⟨ba, j, none⟩ = some (.int .i64 y) := hcj
                  have hfj' : wr.drew.frozen? ⟨ba, j, none⟩ = false := hfj
                  have j0 : (0 : Int) ≤ (j : Int) := Int.natCast_nonneg _
                  have j1 : (j : Int) < (ra.length : Int) := by omega
                  have j2 : (j : Int) < (r.length : Int) := by rw [← HRAL.out]; exact j1
                  have j3 : (j : Int) < (q : Int) := by have := HRQ.out; omega
                  have j4 : j < q := by omega
                  clear hy hz HX ho hop hlen hp hu HUJ
                  go_wp2_with fail
                  refine wp_region_still_tail 14 (by kernel_rfl) (by kernel_rfl) ?_
                  simp only [List.take_succ_cons, List.take_zero, List.drop_succ_cons, List.drop_zero]
                  repeat still_step
                  refine wpStill_step (fun K hK => ?_)
                  go_simp
                  refine ⟨_, still1 (C1.out _), hK _ ?_⟩
                  clear hK K
                  repeat still_step
                  refine wpStill_step (fun K hK => ?_)
                  go_simp
                  refine ⟨_, still1 (C2.out _), hK _ ?_⟩
                  clear hK K
                  repeat still_step
                  refine wpStill_nil ?_
                  change wpList _ _ _ _ _ wr.drew
                  go_wp2
                  go_roundw
                  case rel => exact ⟨j + 1, by omega, by go_num, by exact G.out⟩
                  case measure => simp [intOf]; omega
                · obtain rfl : j = ra.length := by omega
                  have G0 := Lib.hid (HX.done UL.out)
                  have HN : Hid (M.set a U = E.take (a + 1) ++ D.drop (a + 1)) := by
                    rw [Hid, HMM.out]
                    exact mark_step (by rw [DL.out]; exact hlt) (by rw [EL.out, DL.out]) HEU.out
                  have G : Hid (OwnSys wr lo hi (.slice (some ⟨g, 0, none⟩) n cap) n (E.take (a + 1) ++ D.drop (a + 1)) vs ∧ Within lo hi w wr) := by
                    rw [Hid, ← HN.out]
                    exact ⟨G0.out.1, HXM.out.2.trans G0.out.2⟩
                  clear HX HS0
                  go_wp2
                  go_roundw
                  case rel => exact ⟨a + 1, by omega, by go_num, G⟩
                  case measure => simp [intOf]; omega
        · obtain rfl : a = n := by omega
          have G : Hid (OwnSys wr lo hi (.slice (some ⟨g, 0, none⟩) a cap) a (elimL m c) vs ∧ Within lo hi w wr) := by
            have e : E.take a ++ D.drop a = E := by rw [List.take_of_length_le (by rw [EL.out]; exact Nat.le_refl _), List.drop_of_length_le (by rw [DL.out]; exact Nat.le_refl _), List.append_nil]
            have := HX.out
            rw [e, HEq.out] at this
            exact this
          clear HX
          go_wp2
          go_end0
          exact ⟨rfl, G.out.1, G.out.2⟩
end Go.Proofs.Ytdgdanpkekcckaa
