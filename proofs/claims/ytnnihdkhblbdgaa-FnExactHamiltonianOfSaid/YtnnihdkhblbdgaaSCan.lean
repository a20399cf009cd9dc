/-
  The model's canonical list of a level list.
-/
import Derived.Test.YtnnihdkhblbdgaaParts
import Derived.Test.YtnnihdkhblbdgaaTreeC
import Derived.Laws.AppendOwnNone
namespace Go.Proofs.Ytnnihdkhblbdgaa
open Go.RowKit Fld
set_option linter.unusedVariables false
set_option linter.unusedSimpArgs false
set_option maxRecDepth 100000

theorem own_shape' {w : World} {base : Nat} {T : TypeId} {v : Value} {n : Nat} {vs : List Value} (h : w.ownsRow base T 1 v n vs) : ∃ A c, v = .slice A n c := by
  rcases h.2 with ⟨rfl, rfl⟩ | ⟨g, cap, cur, rfl, _⟩
  · exact ⟨_, _, rfl⟩
  · exact ⟨_, _, rfl⟩
theorem row_news {w : World} {B : Nat} {ad : Addr} {vs : List Value} (h : Row w B (some ad) vs) : ∀ j u, vs[j]? = some u → w.cell? (ad.add j) = some u := by
  intro j u hu
  obtain ⟨b, o, e, _, hc⟩ := h j u hu
  cases e
  have : (⟨b, o, none⟩ : Addr).add j = ⟨b, o + j, none⟩ := by unfold Addr.add; split <;> simp_all
  rw [this]; exact hc
/-- values that are rows of numbers -/
def Vals (w : World) (B : Nat) (m : List (List Int)) (vs : List Value) : Prop :=
  vs.length = m.length ∧ ∀ (k : Nat) (r : List Int), m[k]? = some r → ∃ (A : Option Addr) (c : Nat), vs[k]? = some (Value.slice A r.length c) ∧ r.length ≤ c ∧ c ≤ maxLen ∧ Row w B A (ints r)
theorem Vals.nil (w : World) (B : Nat) : Vals w B [] [] := ⟨rfl, fun k r h => by simp at h⟩
theorem Vals.below {w w' : World} {B B' : Nat} {m : List (List Int)} {vs : List Value} (h : Vals w B m vs) (hb : Below B' w w') (hB : B ≤ B') : Vals w' B m vs :=
  ⟨h.1, fun k r hr => by obtain ⟨A, c, e1, e2, e3, e4⟩ := h.2 k r hr; exact ⟨A, c, e1, e2, e3, e4.below hb hB⟩⟩
theorem Vals.more {w : World} {B B' : Nat} {m : List (List Int)} {vs : List Value} (h : Vals w B m vs) (hB : B ≤ B') : Vals w B' m vs :=
  ⟨h.1, fun k r hr => by obtain ⟨A, c, e1, e2, e3, e4⟩ := h.2 k r hr; exact ⟨A, c, e1, e2, e3, e4.more hB⟩⟩
theorem Vals.next {w w' : World} {m : List (List Int)} {vs : List Value} (h : Vals w w.heap.size m vs) (hb : Below w.heap.size w w') : Vals w' w'.heap.size m vs := (h.below hb (Nat.le_refl _)).more hb.size
theorem Vals.one {v : Value} {m : List (List Int)} {vs : List Value} {w : World} {B : Nat} (h : Vals w B m vs) : ∀ u ∈ vs, u.oneCell' = true := by
  intro u hu
  obtain ⟨k, hk⟩ := List.mem_iff_getElem?.1 hu
  have hkl : k < m.length := by
    rw [← h.1]
    rcases Nat.lt_or_ge k vs.length with y | y
    · exact y
    · rw [List.getElem?_eq_none y] at hk; cases hk
  obtain ⟨A, c, e, _⟩ := h.2 k _ (List.getElem?_eq_getElem hkl)
  rw [hk] at e
  injection e with e
  subst e
  rfl
/-- put in at a place -/
theorem Vals.put {w : World} {B k : Nat} {m : List (List Int)} {vs : List Value} {A : Option Addr} {c : Nat} {r : List Int} (h : Vals w B m vs) (hk : k ≤ m.length) (hc : r.length ≤ c) (hm : c ≤ maxLen) (hr : Row w B A (ints r)) :
    Vals w B (m.take k ++ r :: m.drop k) (vs.take k ++ .slice A r.length c :: vs.drop k) := by
  have hl := h.1
  refine ⟨by simp [hl], fun j s hs => ?_⟩
  have e1 : (m.take k).length = k := by rw [List.length_take]; omega
  have e2 : (vs.take k).length = k := by rw [List.length_take]; omega
  rcases Nat.lt_trichotomy j k with g | g | g
  · rw [List.getElem?_append_left (by omega), List.getElem?_take, if_pos g] at hs
    obtain ⟨A', c', q1, q2⟩ := h.2 j s hs
    exact ⟨A', c', by rw [List.getElem?_append_left (by omega), List.getElem?_take, if_pos g]; exact q1, q2⟩
  · subst g
    rw [List.getElem?_append_right (by omega), e1, Nat.sub_self] at hs
    simp only [List.getElem?_cons_zero, Option.some.injEq] at hs
    subst hs
    exact ⟨A, c, by rw [List.getElem?_append_right (by omega), e2, Nat.sub_self]; rfl, hc, hm, hr⟩
  · obtain ⟨i, rfl⟩ : ∃ i, j = k + 1 + i := ⟨j - k - 1, by omega⟩
    rw [List.getElem?_append_right (by omega), e1, show k + 1 + i - k = i + 1 from by omega, List.getElem?_cons_succ, List.getElem?_drop] at hs
    obtain ⟨A', c', q1, q2⟩ := h.2 (k + i) s hs
    exact ⟨A', c', by rw [List.getElem?_append_right (by omega), e2, show k + 1 + i - k = i + 1 from by omega, List.getElem?_cons_succ, List.getElem?_drop]; exact q1, q2⟩
/-- a list of lists in memory, by its values -/
def Rws (w : World) (A : Option Addr) (m : List (List Int)) : Prop := ∃ vs, Row w w.heap.size A vs ∧ Vals w w.heap.size m vs
theorem Rws.next {w w' : World} {A : Option Addr} {m : List (List Int)} (h : Rws w A m) (hb : Below w.heap.size w w') : Rws w' A m := by
  obtain ⟨vs, h1, h2⟩ := h
  exact ⟨vs, (h1.below hb (Nat.le_refl _)).more hb.size, h2.next hb⟩
theorem Rws.drewN {w : World} {A : Option Addr} {m : List (List Int)} (h : Rws w A m) (k : Nat) : Rws (w.drewN k) A m := h.next (below_drewN (Below.refl _ _) k)
theorem Rws.mat {w : World} {A : Option Addr} {m : List (List Int)} (h : Rws w A m) : Mat w w.heap.size A m := by
  obtain ⟨vs, h1, h2⟩ := h
  intro k r hr
  obtain ⟨A', c', q1, q2, q3, q4⟩ := h2.2 k r hr
  obtain ⟨b, o, e, hb, hc⟩ := h1 k _ q1
  exact ⟨b, o, A', c', e, hb, hc, q2, q3, q4⟩
theorem Row.dropA {w : World} {B b o k : Nat} {vs : List Value} (h : Row w B (some ⟨b, o, none⟩) vs) : Row w B (some ⟨b, o + k, none⟩) (vs.drop k) := fun j v hv => by
  rw [List.getElem?_drop] at hv
  obtain ⟨b', o', e, hb, hc⟩ := h (k + j) v hv
  cases e
  exact ⟨b, o + k, rfl, hb, by rw [Nat.add_assoc]; exact hc⟩
theorem Row.takeA {w : World} {B : Nat} {A : Option Addr} {vs : List Value} (h : Row w B A vs) (k : Nat) : Row w B A (vs.take k) := fun j v hv => by
  rw [List.getElem?_take] at hv
  split at hv
  · exact h j v hv
  · cases hv
/-- the branches so far, in descending order -/
def sortedTo (t : List Int) (i : Nat) : List (List Int) := (((Tr.partsL t).take i).map Tr.can).foldl (fun s p => Tr.insD p s) []
theorem sortedTo_step {t : List Int} {i : Nat} {p : List Int} (h : (Tr.partsL t)[i]? = some p) : sortedTo t (i + 1) = Tr.insD (Tr.can p) (sortedTo t i) := by
  unfold sortedTo
  rw [List.take_add_one, h, Option.toList_some, List.map_append, List.foldl_append]; rfl
theorem sortedTo_length (t : List Int) : ∀ i, i ≤ (Tr.partsL t).length → (sortedTo t i).length = i
  | 0, _ => rfl
  | i+1, h => by
    rw [sortedTo_step (List.getElem?_eq_getElem h), Tr.insD_length, sortedTo_length t i (by omega)]
theorem sortedTo_end {t : List Int} (h : Tr.isLv t = true) : Tr.can t = Tr.up (sortedTo t (Tr.partsL t).length) := by
  unfold sortedTo
  rw [List.take_length]
  exact (Tr.can_parts h).1
theorem insD_mem {p : List Int} : ∀ {S : List (List Int)} {s : List Int}, s ∈ Tr.insD p S → s = p ∨ s ∈ S
  | [], s, hs => by simpa [Tr.insD] using hs
  | a :: r, s, hs => by
    rw [Tr.insD] at hs
    split at hs
    · simpa using hs
    · rw [List.mem_cons] at hs
      rcases hs with rfl | hs
      · simp
      · rcases insD_mem hs with e | e
        · exact .inl e
        · exact .inr (by simp [e])
theorem lv_can {t : List Int} (h : Tr.isLv t = true) : Tr.isLv (Tr.can t) = true ∧ (Tr.can t).length = t.length := by
  have h1 := Tr.all_of Tr.chk1_all (Tr.isLv_iff.1 h)
  unfold Tr.chk1 at h1
  simp only [Bool.and_eq_true, beq_iff_eq] at h1
  exact ⟨h1.1.1.2, h1.1.2⟩
theorem sorted_key : ∀ (L : List (List Int)), (∀ p ∈ L, Tr.isLv p = true) → ∀ S : List (List Int), (∀ s ∈ S, Tr.isLv s = true) → ∀ s ∈ (L.map Tr.can).foldl (fun s p => Tr.insD p s) S, Tr.isLv s = true
  | [], _, S, hS, s, hs => hS s hs
  | p :: r, hp, S, hS, s, hs => sorted_key r (fun p' hp' => hp p' (by simp [hp'])) (Tr.insD (Tr.can p) S) (fun s hs => by
      rcases insD_mem hs with rfl | e
      · exact (lv_can (hp p (by simp))).1
      · exact hS s e) s hs
theorem sorted_lv {t : List Int} (h : Tr.isLv t = true) {k q : Nat} {s : List Int} (hs : (sortedTo t k)[q]? = some s) : Tr.isLv s = true :=
  sorted_key ((Tr.partsL t).take k) (fun p hp => ((Tr.can_parts h).2.1 p (List.mem_of_mem_take hp)).1) [] (fun s hs => by cases hs) s (List.mem_of_getElem? hs)
theorem sorted_bd {t : List Int} (h : Tr.isLv t = true) {k q : Nat} {s : List Int} (hs : (sortedTo t k)[q]? = some s) : s.length ≤ 1048576 := by
  have := (Tr.isLv_iff.1 (sorted_lv h hs)).2.1; omega
theorem lv_el {s : List Int} {j : Nat} {x : Int} (h : Tr.isLv s = true) (hx : s[j]? = some x) : 0 ≤ x ∧ x ≤ 8 := by
  have h1 := Tr.isLv_iff.1 h
  have hj : j < s.length := by
    rcases Nat.lt_or_ge j s.length with y | y
    · exact y
    · rw [List.getElem?_eq_none y] at hx; cases hx
  have h2 := StepsTo.bd (n := s.length) h1.2.2.2 h1.2.2.1 hj (lv_at hx)
  have := h1.2.1
  exact ⟨h2.1, by omega⟩
def outL (l : List Int) : List Int := 0 :: l.map (· + 1)
theorem outL_push (l : List Int) (x : Int) : ints (outL l) ++ [.int .i64 (x + 1)] = ints (outL (l ++ [x])) := by simp [outL, ints, intsK]
theorem outL_length (l : List Int) : (outL l).length = l.length + 1 := by simp [outL]
theorem flat_take' {S : List (List Int)} {k : Nat} {x : List Int} (h : S[k]? = some x) : (S.take (k + 1)).flatten = (S.take k).flatten ++ x := by
  rw [List.take_add_one, h]; simp
theorem flat_le' (S : List (List Int)) (k : Nat) : (S.take k).flatten.length ≤ S.flatten.length := by
  have : S.flatten = (S.take k).flatten ++ (S.drop k).flatten := by rw [← List.flatten_append, List.take_append_drop]
  rw [this, List.length_append]; omega
def SCan (d : Nat) : Prop := ∀ (A : Option Addr) (n c B : Nat) (t : List Int) (w : World), t.length = n → n ≤ d → Tr.isLv t = true → B ≤ w.heap.size → Row w B A (ints t) →
    Calls Try.prog 107 #[.slice A n c] w (NewRow 2 n (ints (Tr.can t)) w)
set_option maxHeartbeats 2000000 in
theorem sCan_succ (d : Nat) (IH : SCan d) : SCan (d + 1) := by
  obtain ⟨i0, hi, hz0, hz1, hz2⟩ := info_parts info_i64
  obtain ⟨j0, hj, hy0, hy1, hy2⟩ := info_parts info_row
  intro A n c B t w hl hnd hlv hB h
  have n8 : n ≤ 8 := by have := (Tr.isLv_iff.1 hlv).2.1; omega
  obtain ⟨_, PS, P7⟩ := Tr.can_parts hlv
  have HPS := Lib.hid PS
  have HL := Lib.hid hl
  have HLV := Lib.hid hlv
  obtain ⟨P, hP⟩ : ∃ P, P = (Tr.partsL t).length := ⟨_, rfl⟩
  have HP : Hid ((Tr.partsL t).length = P) := hP.symm
  have C0 := l03Parts_any A n c B t w hl hlv hB h
  rw [HP.out] at C0
  have hP7 : P ≤ 7 := by rw [hP]; exact P7
  clear hl hlv PS P7 hP
  go_enter Try.func107, Try.ntmps107
  go_wp2_with fail
  refine C0.mono ?_
  rintro e w1 ⟨Ap, cp, pvs, rfl, ownp, belp⟩
  have HMP : Hid (Mat w1 w1.heap.size Ap (Tr.partsL t)) := ownp.mat
  have HB1 := Lib.hid belp
  have hs1 := belp.size
  clear ownp belp C0
  go_wp2_with fail
  go_loopw [4, 5] (fun v i wr => ∃ (k cap : Nat) (b o : Nat), k ≤ P ∧ v = .slice (some ⟨b, o, none⟩) k cap ∧ k ≤ cap ∧ i = .int .i64 k ∧ Rws wr (some ⟨b, o, none⟩) (sortedTo t k) ∧ Below w1.heap.size w1 wr) (fun _ i _ => P - (intOf i).toNat)
  case atStart => exact ⟨0, 0, w1.heap.size, 0, Nat.zero_le _, rfl, Nat.le_refl _, rfl, ⟨[], Row.nil _ _ _, Vals.nil _ _⟩, (Below.refl _ _).alloc (Nat.le_refl _) _⟩
  case round =>
    obtain ⟨k, cap, b, o, hk, rfl, hkc, rfl, HR, HB⟩ := hrel
    have hsz := HB.size
    by_cases hlt : k < P
    · obtain ⟨p, hp⟩ := at_lt (show k < (Tr.partsL t).length by rw [HP.out]; exact hlt)
      obtain ⟨bp, op, Ak, ck, rfl, hbp, hcp, hlc, hcm, hrp⟩ := HMP.out.below HB (Nat.le_refl _) k p hp
      obtain ⟨hpl, hpt⟩ := HPS.out p (List.mem_of_getElem? hp)
      have hpt2 : p.length ≤ d := by have := HL.out; omega
      have HSS : Hid (sortedTo t (k + 1) = Tr.insD (Tr.can p) (sortedTo t k)) := sortedTo_step hp
      have HSL : Hid ((sortedTo t k).length = k) := sortedTo_length t k (by rw [HP.out]; exact hk)
      have hp8 : p.length ≤ 8 := by have := (Tr.isLv_iff.1 hpl).2.1; exact this
      have HPL := Lib.hid hpl
      clear hp hpt hpl
      go_wp2_with fail
      refine (IH Ak p.length ck w1.heap.size p _ rfl hpt2 HPL.out (by omega) hrp).mono ?_
      rintro e w2 ⟨A2, c2, rfl, own2, bel2⟩
      have HR2 := Lib.hid (HR.next bel2)
      have HB2 := Lib.hid (HB.trans (bel2.mono hsz))
      have hs2 := bel2.size
      have HO2 := Lib.hid own2
      obtain ⟨hc2, hc2m⟩ := own_cap own2
      have HCL : Hid ((Tr.can p).length = p.length) := by
        have := own_len own2; rw [ints_length] at this; exact this
      have HROW2 : Hid (Row w2 w2.heap.size A2 (ints (Tr.can p))) := row_of_own own2
      clear HR HB bel2 own2 hcp
      go_wp2_with fail
      go_loopw [7] (fun a wr => ∃ (at' m : Nat), at' ≤ k ∧ a = .int .i64 at' ∧ wr = w2.drewN m ∧ Hid (∀ j s, j < at' → (sortedTo t k)[j]? = some s → Tr.lessL s (Tr.can p) = false)) (fun a _ => k - (intOf a).toNat)
      case atStart => exact ⟨0, 0, Nat.zero_le _, rfl, rfl, fun j s hj => by omega⟩
      case round =>
        obtain ⟨q, m, hq, rfl, rfl, HQ⟩ := hrel
        by_cases hqk : q < k
        · obtain ⟨s, hs⟩ := at_lt (show q < (sortedTo t k).length by rw [HSL.out]; exact hqk)
          obtain ⟨_, _, As, cs, e1, _, hcs, _, _, hrs⟩ := (HR2.out.drewN m).mat q s hs
          cases e1
          have hs1 : s.length ≤ 1048576 := by
            have := HR2.out
            exact sorted_bd HLV.out hs
          have C1 := l01Less_any As A2 s.length p.length cs c2 _ _ s (Tr.can p) (w2.drewN m) rfl HCL.out (by omega) (by omega) hrs (HROW2.out.drewN m)
          cases hless : Tr.lessL s (Tr.can p)
          · rw [hless] at C1
            have HQ2 : Hid (∀ j s, j < q + 1 → (sortedTo t k)[j]? = some s → Tr.lessL s (Tr.can p) = false) := fun j s' hj hs' => by
              by_cases hjq : j = q
              · subst hjq; rw [hs] at hs'; injection hs' with hs'; rw [← hs']; exact hless
              · exact HQ.out j s' (by omega) hs'
            clear hs HQ hless
            go_wp2_with fail
            refine C1.mono ?_
            rintro e w3 ⟨rfl, m3, rfl⟩
            go_wp2
            go_roundw
            case rel => exact ⟨q + 1, _, by omega, by go_num, rfl, HQ2⟩
            case measure => simp [intOf]; omega
          · rw [hless] at C1
            have HQ2 : Hid (∀ s, (sortedTo t k)[q]? = some s → Tr.lessL s (Tr.can p) = true) := fun s' hs' => by
              rw [hs] at hs'; injection hs' with hs'; rw [← hs']; exact hless
            clear hs hless
            go_wp2_with fail
            refine C1.mono ?_
            rintro e w3' ⟨rfl, m3, rfl⟩
            clear hcs hrs C1
            obtain ⟨W, hW⟩ : ∃ W, W = (w2.drewN m).drewN m3 := ⟨_, rfl⟩
            have BW : Hid (Below w2.heap.size w2 W) := by rw [hW]; exact below_drewN (below_drewN (Below.refl _ _) _) _
            have hW1 : w2.heap.size ≤ W.heap.size := BW.out.size
            rw [← hW]
            clear hW
            obtain ⟨vs, hrow, hvals⟩ := HR2.out.next BW.out
            have hvl : vs.length = k := by rw [hvals.1]; exact HSL.out
            have HVL := Lib.hid hvl
            have HPV : Hid (Row W W.heap.size A2 (ints (Tr.can p))) := (HROW2.out.below BW.out (Nat.le_refl _)).more hW1
            have OWN1 := Lib.hid (World.ownsRow_lit (base := W.heap.size) (size := 1) (e := 23) W #[.slice A2 p.length c2] 1 (Nat.le_refl _) (by simp [maxLen]) rfl)
            have HROW := Lib.hid hrow
            have HVALS := Lib.hid hvals
            have HPUT : Hid (sortedTo t (k + 1) = (sortedTo t k).take q ++ Tr.can p :: (sortedTo t k).drop q) := by
              rw [Hid, HSS.out]; exact Tr.insD_at HQ.out HQ2.out (by rw [HSL.out]; exact hq)
            clear hrow hvals hvl HQ HQ2
            have HLEN1 : Hid ((vs.drop q).length = (k - q) * 1) := by rw [Hid, List.length_drop, HVL.out]; omega
            have HNEWS1 : Hid (∀ j u, (vs.drop q)[j]? = some u → (W.alloc (.cells #[.slice A2 p.length c2] 23)).cell? ((⟨b, o + q, none⟩ : Addr).add j) = some u) := row_news (Row.dropA (HROW.out.alloc (Nat.le_refl _) _))
            have HONE1 : Hid (∀ u ∈ vs.drop q, u.oneCell' = true) := fun u hu => HVALS.out.one (v := u) u (List.mem_of_mem_drop hu)
            have HLEN2 : Hid ((vs.take q).length = q * 1) := by rw [Hid, List.length_take, HVL.out]; omega
            have HONE2 : Hid (∀ u ∈ vs.take q, u.oneCell' = true) := fun u hu => HVALS.out.one (v := u) u (List.mem_of_mem_take hu)
            have HONE3 : Hid (∀ u ∈ [Value.slice A2 p.length c2] ++ vs.drop q, u.oneCell' = true) := fun u hu => by
              rw [List.mem_append, List.mem_singleton] at hu
              rcases hu with rfl | hu
              · rfl
              · exact HVALS.out.one (v := u) u (List.mem_of_mem_drop hu)
            have HS5 : Hid (q + (1 + (k - q)) = k + 1) := by rw [Hid]; omega
            go_wp2_with (first
              | (at_builtin; (refine wpList_append_own _ rfl (.tmp 42) (.tmp 45) 22 rfl W.heap.size 23 j0 _ 1 24 Try.underlying22 hj hy0 hy1 hy2 rfl (by omega) (.slice (some ⟨W.heap.size, 0, none⟩) 1 1) 1 [.slice A2 p.length c2] rfl OWN1.out ⟨b, o + q, none⟩ (k - q) (cap - q) (vs.drop q) rfl HLEN1.out HNEWS1.out HONE1.out (by simp only [maxLen]; omega) (by omega) (by simp) ?_; intro v3 w3 own3 hgrow3 _; obtain ⟨g3, c3, rfl⟩ := own_form own3 (by omega); have BW3 : Hid (Below W.heap.size W w3) := ((Below.refl _ _).alloc (Nat.le_refl _) _).grown hgrow3 (by simp) (fun z hz => (OWN1.out.lt z hz).1); have hW3 : W.heap.size ≤ w3.heap.size := BW3.out.size; have HO3 := Lib.hid (OwnR.of own3); have OWN2 := Lib.hid (World.ownsRow_lit (base := w3.heap.size) (size := 1) (e := 23) w3 #[] 0 (Nat.le_refl _) (Nat.zero_le _) rfl); have HNEWS2 : Hid (∀ j u, (vs.take q)[j]? = some u → (w3.alloc (.cells #[] 23)).cell? ((⟨b, o, none⟩ : Addr).add j) = some u) := row_news ((((HROW.out.takeA q).below BW3.out (Nat.le_refl _)).more hW3).alloc (Nat.le_refl _) _)))
              | (at_builtin; refine wpList_append_own _ rfl (.tmp 47) (.tmp 50) 22 rfl w3.heap.size 23 j0 _ 1 24 Try.underlying22 hj hy0 hy1 hy2 rfl (by omega) (.slice (some ⟨w3.heap.size, 0, none⟩) 0 0) 0 [] rfl OWN2.out ⟨b, o, none⟩ q cap (vs.take q) rfl HLEN2.out HNEWS2.out HONE2.out (by simp only [maxLen]; omega) (by omega) (by simp) ?_; intro v4 w4 own4 hgrow4 _; obtain ⟨A4, c4, rfl⟩ := own_shape' own4; rw [Nat.zero_add, List.nil_append] at own4; have BW4 : Below w3.heap.size w3 w4 := ((Below.refl _ _).alloc (Nat.le_refl _) _).grown hgrow4 (by simp) (fun z hz => (OWN2.out.lt z hz).1); have hW4 : w3.heap.size ≤ w4.heap.size := BW4.size; have HO4 := (HO3.out.below BW4 (Nat.le_refl _)).1)
              | (at_builtin; refine wpList_append_own _ rfl (.tmp 51) (.tmp 52) 22 rfl w3.heap.size 23 j0 _ 1 24 Try.underlying22 hj hy0 hy1 hy2 rfl (by omega) (.slice A4 q c4) q (vs.take q) rfl own4 ⟨g3, 0, none⟩ (1 + (k - q)) c3 ([Value.slice A2 p.length c2] ++ vs.drop q) rfl (by rw [Nat.mul_one]; exact own_len HO4) (row_news (row_of_own HO4)) HONE3.out (by simp only [maxLen]; omega) (by omega) (by omega) ?_; intro v5 w5 own5 hgrow5 _; rw [HS5.out] at own5; obtain ⟨g5, c5, rfl⟩ := own_form own5 (by omega)))
            have BW5 : Hid (Below w3.heap.size w3 w5) := BW4.grown hgrow5 hW4 (fun z hz => (own4.lt z hz).1)
            have GB : Hid (Below w1.heap.size w1 w5) := ((HB2.out.trans (BW.out.mono (by omega))).trans (BW3.out.mono (by omega))).trans (BW5.out.mono (by omega))
            have GC : k + 1 ≤ c5 := (own_cap own5).1
            have GR : Hid (Rws w5 (some ⟨g5, 0, none⟩) (sortedTo t (k + 1))) := by
              refine ⟨_, row_of_own own5, ?_⟩
              have hv := Vals.put (k := q) (A := A2) (c := c2) (r := Tr.can p) ((HVALS.out.next BW3.out).next BW5.out) (by rw [HSL.out]; exact hq) (by rw [HCL.out]; exact hc2) hc2m (((HPV.out.below BW3.out (Nat.le_refl _)).below BW5.out hW3).more (by have := BW5.out.size; omega))
              rw [HCL.out, ← HPUT.out] at hv
              exact hv
            clear own5 hgrow5 own4 hgrow4 BW4 HO4 own3 hgrow3
            go_wp2
            go_roundw
            case rel => exact ⟨k + 1, c5, g5, 0, by omega, rfl, GC, by go_num, GR.out, GB.out⟩
            case measure => simp [intOf]; omega
        · obtain rfl : q = k := by omega
          have HQ2 : Hid (∀ s, (sortedTo t q)[q]? = some s → Tr.lessL s (Tr.can p) = true) := fun s' hs' => by
            rw [List.getElem?_eq_none (by rw [HSL.out]; exact Nat.le_refl _)] at hs'; cases hs'
          obtain ⟨W, hW⟩ : ∃ W, W = w2.drewN m := ⟨_, rfl⟩
          have BW : Hid (Below w2.heap.size w2 W) := by rw [hW]; exact below_drewN (Below.refl _ _) _
          have hW1 : w2.heap.size ≤ W.heap.size := BW.out.size
          rw [← hW]
          clear hW
          obtain ⟨vs, hrow, hvals⟩ := HR2.out.next BW.out
          have hvl : vs.length = q := by rw [hvals.1]; exact HSL.out
          have HVL := Lib.hid hvl
          have HPV : Hid (Row W W.heap.size A2 (ints (Tr.can p))) := (HROW2.out.below BW.out (Nat.le_refl _)).more hW1
          have OWN1 := Lib.hid (World.ownsRow_lit (base := W.heap.size) (size := 1) (e := 23) W #[.slice A2 p.length c2] 1 (Nat.le_refl _) (by simp [maxLen]) rfl)
          have HROW := Lib.hid hrow
          have HVALS := Lib.hid hvals
          have HPUT : Hid (sortedTo t (q + 1) = (sortedTo t q).take q ++ Tr.can p :: (sortedTo t q).drop q) := by
            rw [Hid, HSS.out]; exact Tr.insD_at HQ.out HQ2.out (by rw [HSL.out]; exact hq)
          clear hrow hvals hvl HQ HQ2
          by_cases hcap : q = cap
          · subst hcap
            have HLEN1 : Hid (([] : List Value).length = 0 * 1) := rfl
            have HNEWS1 : Hid (∀ j u, ([] : List Value)[j]? = some u → (W.alloc (.cells #[.slice A2 p.length c2] 23)).cell? ((⟨b, o, none⟩ : Addr).add j) = some u) := fun j u hu => by simp at hu
            have HE1 : Hid ([Value.slice A2 p.length c2] ++ ([] : List Value) = [Value.slice A2 p.length c2] ++ vs.drop q) := by
              rw [Hid, List.drop_of_length_le (by rw [HVL.out]; omega)]
            have HONE1 : Hid (∀ u ∈ ([] : List Value), u.oneCell' = true) := fun u hu => by cases hu
            have HLEN2 : Hid ((vs.take q).length = q * 1) := by rw [Hid, List.length_take, HVL.out]; omega
            have HONE2 : Hid (∀ u ∈ vs.take q, u.oneCell' = true) := fun u hu => HVALS.out.one (v := u) u (List.mem_of_mem_take hu)
            have HONE3 : Hid (∀ u ∈ [Value.slice A2 p.length c2] ++ vs.drop q, u.oneCell' = true) := fun u hu => by
              rw [List.mem_append, List.mem_singleton] at hu
              rcases hu with rfl | hu
              · rfl
              · exact HVALS.out.one (v := u) u (List.mem_of_mem_drop hu)
            go_wp2_with (first
              | (at_builtin; (refine wpList_append_own _ rfl (.tmp 42) (.tmp 45) 22 rfl W.heap.size 23 j0 _ 1 24 Try.underlying22 hj hy0 hy1 hy2 rfl (by omega) (.slice (some ⟨W.heap.size, 0, none⟩) 1 1) 1 [.slice A2 p.length c2] rfl OWN1.out ⟨b, o, none⟩ 0 0 [] rfl HLEN1.out HNEWS1.out HONE1.out (by simp only [maxLen]; omega) (by omega) (by simp) ?_; intro v3 w3 own3 hgrow3 _; obtain ⟨g3, c3, rfl⟩ := own_form own3 (by omega); rw [show 1 + 0 = 1 from rfl] at own3; rw [HE1.out] at own3; have BW3 : Hid (Below W.heap.size W w3) := ((Below.refl _ _).alloc (Nat.le_refl _) _).grown hgrow3 (by simp) (fun z hz => (OWN1.out.lt z hz).1); have hW3 : W.heap.size ≤ w3.heap.size := BW3.out.size; have HO3 := Lib.hid (OwnR.of own3); have OWN2 := Lib.hid (World.ownsRow_lit (base := w3.heap.size) (size := 1) (e := 23) w3 #[] 0 (Nat.le_refl _) (Nat.zero_le _) rfl); have HNEWS2 : Hid (∀ j u, (vs.take q)[j]? = some u → (w3.alloc (.cells #[] 23)).cell? ((⟨b, o, none⟩ : Addr).add j) = some u) := row_news ((((HROW.out.takeA q).below BW3.out (Nat.le_refl _)).more hW3).alloc (Nat.le_refl _) _)))
              | (at_builtin; refine wpList_append_own _ rfl (.tmp 47) (.tmp 50) 22 rfl w3.heap.size 23 j0 _ 1 24 Try.underlying22 hj hy0 hy1 hy2 rfl (by omega) (.slice (some ⟨w3.heap.size, 0, none⟩) 0 0) 0 [] rfl OWN2.out ⟨b, o, none⟩ q q (vs.take q) rfl HLEN2.out HNEWS2.out HONE2.out (by simp only [maxLen]; omega) (by omega) (by simp) ?_; intro v4 w4 own4 hgrow4 _; obtain ⟨A4, c4, rfl⟩ := own_shape' own4; rw [Nat.zero_add, List.nil_append] at own4; have BW4 : Below w3.heap.size w3 w4 := ((Below.refl _ _).alloc (Nat.le_refl _) _).grown hgrow4 (by simp) (fun z hz => (OWN2.out.lt z hz).1); have hW4 : w3.heap.size ≤ w4.heap.size := BW4.size; have HO4 := (HO3.out.below BW4 (Nat.le_refl _)).1)
              | (at_builtin; refine wpList_append_own _ rfl (.tmp 51) (.tmp 52) 22 rfl w3.heap.size 23 j0 _ 1 24 Try.underlying22 hj hy0 hy1 hy2 rfl (by omega) (.slice A4 q c4) q (vs.take q) rfl own4 ⟨g3, 0, none⟩ 1 c3 ([Value.slice A2 p.length c2] ++ vs.drop q) rfl (by rw [Nat.mul_one]; exact own_len HO4) (row_news (row_of_own HO4)) HONE3.out (by simp only [maxLen]; omega) (by omega) (by omega) ?_; intro v5 w5 own5 hgrow5 _; obtain ⟨g5, c5, rfl⟩ := own_form own5 (by omega)))
            have BW5 : Hid (Below w3.heap.size w3 w5) := BW4.grown hgrow5 hW4 (fun z hz => (own4.lt z hz).1)
            have GB : Hid (Below w1.heap.size w1 w5) := ((HB2.out.trans (BW.out.mono (by omega))).trans (BW3.out.mono (by omega))).trans (BW5.out.mono (by omega))
            have GC : q + 1 ≤ c5 := (own_cap own5).1
            have GR : Hid (Rws w5 (some ⟨g5, 0, none⟩) (sortedTo t (q + 1))) := by
              refine ⟨_, row_of_own own5, ?_⟩
              have hv := Vals.put (k := q) (A := A2) (c := c2) (r := Tr.can p) ((HVALS.out.next BW3.out).next BW5.out) (by rw [HSL.out]; exact hq) (by rw [HCL.out]; exact hc2) hc2m (((HPV.out.below BW3.out (Nat.le_refl _)).below BW5.out hW3).more (by have := BW5.out.size; omega))
              rw [HCL.out, ← HPUT.out] at hv
              exact hv
            clear own5 hgrow5 own4 hgrow4 BW4 HO4 own3 hgrow3
            go_wp2
            go_roundw
            case rel => exact ⟨q + 1, c5, g5, 0, by omega, rfl, GC, by go_num, GR.out, GB.out⟩
            case measure => simp [intOf]; omega
          · skip
            have HLEN1 : Hid ((vs.drop q).length = 0 * 1) := by rw [Hid, List.length_drop, HVL.out]; omega
            have HNEWS1 : Hid (∀ j u, (vs.drop q)[j]? = some u → (W.alloc (.cells #[.slice A2 p.length c2] 23)).cell? ((⟨b, o + q, none⟩ : Addr).add j) = some u) := row_news (Row.dropA (HROW.out.alloc (Nat.le_refl _) _))
            have HONE1 : Hid (∀ u ∈ vs.drop q, u.oneCell' = true) := fun u hu => HVALS.out.one (v := u) u (List.mem_of_mem_drop hu)
            have HLEN2 : Hid ((vs.take q).length = q * 1) := by rw [Hid, List.length_take, HVL.out]; omega
            have HONE2 : Hid (∀ u ∈ vs.take q, u.oneCell' = true) := fun u hu => HVALS.out.one (v := u) u (List.mem_of_mem_take hu)
            have HONE3 : Hid (∀ u ∈ [Value.slice A2 p.length c2] ++ vs.drop q, u.oneCell' = true) := fun u hu => by
              rw [List.mem_append, List.mem_singleton] at hu
              rcases hu with rfl | hu
              · rfl
              · exact HVALS.out.one (v := u) u (List.mem_of_mem_drop hu)
            go_wp2_with (first
              | (at_builtin; (refine wpList_append_own _ rfl (.tmp 42) (.tmp 45) 22 rfl W.heap.size 23 j0 _ 1 24 Try.underlying22 hj hy0 hy1 hy2 rfl (by omega) (.slice (some ⟨W.heap.size, 0, none⟩) 1 1) 1 [.slice A2 p.length c2] rfl OWN1.out ⟨b, o + q, none⟩ 0 (cap - q) (vs.drop q) rfl HLEN1.out HNEWS1.out HONE1.out (by simp only [maxLen]; omega) (by omega) (by simp) ?_; intro v3 w3 own3 hgrow3 _; obtain ⟨g3, c3, rfl⟩ := own_form own3 (by omega); rw [show 1 + 0 = 1 from rfl] at own3; have BW3 : Hid (Below W.heap.size W w3) := ((Below.refl _ _).alloc (Nat.le_refl _) _).grown hgrow3 (by simp) (fun z hz => (OWN1.out.lt z hz).1); have hW3 : W.heap.size ≤ w3.heap.size := BW3.out.size; have HO3 := Lib.hid (OwnR.of own3); have OWN2 := Lib.hid (World.ownsRow_lit (base := w3.heap.size) (size := 1) (e := 23) w3 #[] 0 (Nat.le_refl _) (Nat.zero_le _) rfl); have HNEWS2 : Hid (∀ j u, (vs.take q)[j]? = some u → (w3.alloc (.cells #[] 23)).cell? ((⟨b, o, none⟩ : Addr).add j) = some u) := row_news ((((HROW.out.takeA q).below BW3.out (Nat.le_refl _)).more hW3).alloc (Nat.le_refl _) _)))
              | (at_builtin; refine wpList_append_own _ rfl (.tmp 47) (.tmp 50) 22 rfl w3.heap.size 23 j0 _ 1 24 Try.underlying22 hj hy0 hy1 hy2 rfl (by omega) (.slice (some ⟨w3.heap.size, 0, none⟩) 0 0) 0 [] rfl OWN2.out ⟨b, o, none⟩ q cap (vs.take q) rfl HLEN2.out HNEWS2.out HONE2.out (by simp only [maxLen]; omega) (by omega) (by simp) ?_; intro v4 w4 own4 hgrow4 _; obtain ⟨A4, c4, rfl⟩ := own_shape' own4; rw [Nat.zero_add, List.nil_append] at own4; have BW4 : Below w3.heap.size w3 w4 := ((Below.refl _ _).alloc (Nat.le_refl _) _).grown hgrow4 (by simp) (fun z hz => (OWN2.out.lt z hz).1); have hW4 : w3.heap.size ≤ w4.heap.size := BW4.size; have HO4 := (HO3.out.below BW4 (Nat.le_refl _)).1)
              | (at_builtin; refine wpList_append_own _ rfl (.tmp 51) (.tmp 52) 22 rfl w3.heap.size 23 j0 _ 1 24 Try.underlying22 hj hy0 hy1 hy2 rfl (by omega) (.slice A4 q c4) q (vs.take q) rfl own4 ⟨g3, 0, none⟩ 1 c3 ([Value.slice A2 p.length c2] ++ vs.drop q) rfl (by rw [Nat.mul_one]; exact own_len HO4) (row_news (row_of_own HO4)) HONE3.out (by simp only [maxLen]; omega) (by omega) (by omega) ?_; intro v5 w5 own5 hgrow5 _; obtain ⟨g5, c5, rfl⟩ := own_form own5 (by omega)))
            have BW5 : Hid (Below w3.heap.size w3 w5) := BW4.grown hgrow5 hW4 (fun z hz => (own4.lt z hz).1)
            have GB : Hid (Below w1.heap.size w1 w5) := ((HB2.out.trans (BW.out.mono (by omega))).trans (BW3.out.mono (by omega))).trans (BW5.out.mono (by omega))
            have GC : q + 1 ≤ c5 := (own_cap own5).1
            have GR : Hid (Rws w5 (some ⟨g5, 0, none⟩) (sortedTo t (q + 1))) := by
              refine ⟨_, row_of_own own5, ?_⟩
              have hv := Vals.put (k := q) (A := A2) (c := c2) (r := Tr.can p) ((HVALS.out.next BW3.out).next BW5.out) (by rw [HSL.out]; exact hq) (by rw [HCL.out]; exact hc2) hc2m (((HPV.out.below BW3.out (Nat.le_refl _)).below BW5.out hW3).more (by have := BW5.out.size; omega))
              rw [HCL.out, ← HPUT.out] at hv
              exact hv
            clear own5 hgrow5 own4 hgrow4 BW4 HO4 own3 hgrow3
            go_wp2
            go_roundw
            case rel => exact ⟨q + 1, c5, g5, 0, by omega, rfl, GC, by go_num, GR.out, GB.out⟩
            case measure => simp [intOf]; omega
    · obtain rfl : k = P := by omega
      have HE : Hid (Tr.can t = outL (sortedTo t k).flatten) := by
        have := sortedTo_end HLV.out
        rw [HP.out] at this
        exact this
      have HSL : Hid ((sortedTo t k).length = k) := sortedTo_length t k (by rw [HP.out]; exact Nat.le_refl _)
      have HFL : Hid ((sortedTo t k).flatten.length + 1 = n) := by
        have h1 := (lv_can HLV.out).2
        rw [HE.out, outL_length, HL.out] at h1
        exact h1
      have HR2 := Lib.hid HR
      have HB2 := Lib.hid (HB1.out.trans (HB.mono hs1))
      have hwr : w.heap.size ≤ wr.heap.size := by omega
      clear HR HB
      obtain ⟨wo, hwo⟩ : ∃ wo, wo = wr := ⟨wr, rfl⟩
      subst hwo
      go_wp2_with fail
      go_loopw [9, 10] (fun v i W => ∃ (q g cap j : Nat), q ≤ k ∧ v = .slice (some ⟨g, 0, none⟩) j cap ∧ i = .int .i64 q ∧ Hid (j = ((sortedTo t k).take q).flatten.length + 1) ∧ Growing wo 2 g j cap (ints (outL ((sortedTo t k).take q).flatten)) W) (fun _ i _ => k - (intOf i).toNat)
      case atStart => exact ⟨0, wo.heap.size, 1, 1, Nat.zero_le _, rfl, rfl, rfl, World.ownsRow_lit (base := wo.heap.size) (size := 1) (e := 2) wo #[.int .i64 0] 1 (Nat.le_refl _) (by simp [maxLen]) rfl, (Below.refl _ _).alloc (Nat.le_refl _) _⟩
      case round =>
        obtain ⟨q, g, cp2, j, hq, rfl, rfl, HJ, HG⟩ := hrel
        have hsz := HG.2.size
        by_cases hlt2 : q < k
        · obtain ⟨r, hr⟩ := at_lt (show q < (sortedTo t k).length by rw [HSL.out]; exact hlt2)
          have hrl := sorted_lv HLV.out hr
          have hr8 : r.length ≤ 8 := (Tr.isLv_iff.1 hrl).2.1
          have HRT : Hid (((sortedTo t k).take (q + 1)).flatten = ((sortedTo t k).take q).flatten ++ r) := flat_take' hr
          have hfl : ((sortedTo t k).take q).flatten.length + r.length ≤ 8 := by
            have h1 := flat_le' (sortedTo t k) (q + 1)
            rw [HRT.out, List.length_append] at h1
            have := HFL.out; omega
          obtain ⟨F, hF⟩ : ∃ F, F = ((sortedTo t k).take q).flatten := ⟨_, rfl⟩
          rw [← hF] at HRT hfl HG HJ
          have HRL := Lib.hid hrl
          have HRR := Lib.hid hr
          have HFL2 := Lib.hid hfl
          have F0 : Hid (Growing wo 2 g j cp2 (ints (outL (F ++ r.take 0))) wr) := by
            rw [Hid, List.take_zero, List.append_nil]; exact HG
          have hj8 : j ≤ 9 := by have := HJ.out; omega
          have J0 : Hid (j = F.length + 0 + 1) := HJ
          clear hrl hr hF HG HJ hfl
          go_wp2_with fail
          go_loopw [9, 11] (fun v i W => ∃ (e g cap j : Nat), e ≤ r.length ∧ j ≤ 9 ∧ v = .slice (some ⟨g, 0, none⟩) j cap ∧ i = .int .i64 e ∧ Hid (j = F.length + e + 1) ∧ Growing wo 2 g j cap (ints (outL (F ++ r.take e))) W) (fun _ i _ => r.length - (intOf i).toNat)
          case atStart => exact ⟨0, g, cp2, j, Nat.zero_le _, hj8, rfl, rfl, J0, F0.out⟩
          case round =>
            obtain ⟨e, g, cp2, j, he, hj9, rfl, rfl, HJ, HG⟩ := hrel
            have hsz := HG.2.size
            have HR3 := (HR2.out.next HG.2).mat q r HRR.out
            obtain ⟨_, _, Ar, cr, e1, _, hcr, _, _, hrr⟩ := HR3
            cases e1
            by_cases hlt3 : e < r.length
            · obtain ⟨x, hx⟩ := at_lt hlt3
              obtain ⟨br, orr, rfl, _, hcx⟩ := hrr e _ (ints_at hx)
              obtain ⟨x0, x8⟩ := lv_el HRL.out hx
              have HXE : Hid (r.take (e + 1) = r.take e ++ [x]) := by rw [Hid, List.take_add_one, hx]; rfl
              have HG' := Lib.hid HG
              have hown := HG.1
              clear hx HG hrr
              go_wp2_with (at_builtin; refine wpList_append_lies _ rfl (.tmp 70) (.tmp 79) 23 rfl wo.heap.size 2 i0 _ 1 8 Try.underlying23 hi hz0 hz1 hz2 rfl (by omega) (.slice (some ⟨g, 0, none⟩) j cp2) j (ints (outL (F ++ r.take e))) rfl (hown.alloc _) ⟨wr.heap.size, 0, none⟩ 1 1 [.int .i64 (x + 1)] rfl rfl (World.news_of_block (cs := #[.int .i64 (x + 1)]) (heap_alloc_new _ _)) (by simp [Value.oneCell']) (by omega) (by simp only [maxLen]; omega) (by omega) (by simp; omega) (wr.heap.size + 1) (by simp) ?_; intro g4 cap4 w4 hown4 hgrow4 hat4 hlt4)
              rw [outL_push, List.append_assoc, ← HXE.out] at hown4
              have G := Lib.hid (HG'.out.step ((Below.refl _ _).alloc (Nat.le_refl _) _) hown4 hgrow4)
              clear hown4 hgrow4 hat4 hown
              go_wp2
              go_roundw
              case rel => exact ⟨e + 1, g4, cap4, j + 1, by omega, by have := HJ.out; have := HFL2.out; omega, rfl, by go_num, by have := HJ.out; rw [Hid]; omega, G.out⟩
              case measure => simp [intOf]; omega
            · obtain rfl : e = r.length := by omega
              have G : Hid (Growing wo 2 g j cp2 (ints (outL ((sortedTo t k).take (q + 1)).flatten)) wr) := by
                rw [Hid, HRT.out]
                rw [List.take_length] at HG
                exact HG
              have GJ : Hid (j = ((sortedTo t k).take (q + 1)).flatten.length + 1) := by
                have := HJ.out
                rw [Hid, HRT.out, List.length_append]; omega
              clear HG hrr HJ
              go_wp2
              go_roundw
              case rel => exact ⟨q + 1, g, cp2, j, by omega, rfl, by go_num, GJ, G.out⟩
              case measure => simp [intOf]; omega
        · obtain rfl : q = k := by omega
          rw [List.take_of_length_le (by rw [HSL.out]; exact Nat.le_refl _), ← HE.out] at HG
          have e : j = n := by
            have h1 := HJ.out
            rw [List.take_of_length_le (by rw [HSL.out]; exact Nat.le_refl _)] at h1
            have := HFL.out; omega
          subst e
          have G : Hid (NewRow 2 j (ints (Tr.can t)) w (.returned (.slice (some ⟨g, 0, none⟩) j cp2)) wr) := ⟨_, _, rfl, ((OwnR.of HG.1).more hwr (Nat.le_refl _)).1, HB2.out.trans (HG.2.mono hwr)⟩
          clear HG HJ
          go_wp2
          go_ret
          exact G.out
theorem sCan_upto : ∀ d, SCan d
  | 0 => fun A n c B t w hl hd hlv => by have := (Tr.isLv_iff.1 hlv).1; omega
  | d+1 => sCan_succ d (sCan_upto d)
theorem l03Canon_any (A : Option Addr) (n c B : Nat) (t : List Int) (w : World) (hl : t.length = n) (hlv : Tr.isLv t = true) (hB : B ≤ w.heap.size) (h : Row w B A (ints t)) :
    Calls Try.prog 107 #[.slice A n c] w (NewRow 2 n (ints (Tr.can t)) w) := sCan_upto n A n c B t w hl (Nat.le_refl _) hlv hB h
end Go.Proofs.Ytnnihdkhblbdgaa
