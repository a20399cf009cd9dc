/-
  The model's sort of trees: put in one after another.
-/
import Derived.Test.YtolkbbbbahhfaaaGreatCmpX
import Derived.Test.YtolkbbbbahhfaaaGreatOwn1
import Derived.Test.YtolkbbbbahhfaaaGreatSkip
import Derived.BigQuiet
import Derived.Deep.RegionHeld3
namespace Go.Proofs.YtolkbbbbahhfaaaGreat
open Go.RowKit Fld
set_option linter.unusedVariables false
set_option linter.unusedSimpArgs false
set_option maxRecDepth 100000

theorem step_append_own {P : Program} {w : World} {ops : Array Oper} {o : Oper} {a : Act} {K : Act → World → Prop} {Q : Exit → Act → World → Prop} {E : Prop} (hgd : o.guard = none) (s x : Operand) (t : TypeId)
    (ho : o.op = .call { callee := .builtin .append, args := #[s, x], argTypes := #[t, t] })
    (base : Nat) (e : TypeId) (i : TypeInfo) (z : Value) (size bytes : Nat) (ht : P.underlying t = some (.slice e)) (hi : P.info? e = some i) (hz : i.zero = some z)
    (hsize : i.size = size) (hby : i.bytes = bytes) (hzs : z.cells.size = size) (hsz : 0 < size)
    (v : Value) (n : Nat) (xs : List Value) (hs : a.eval s = v) (hown : w.ownsRow base e size v n xs)
    (ad : Addr) (m c : Nat) (news : List Value) (hx : a.eval x = .slice (some ad) m c) (hl : news.length = m * size) (hnews : ∀ j u, news[j]? = some u → w.cell? (ad.add j) = some u) (h1 : ∀ u ∈ news, u.oneCell' = true)
    (h63 : n + m ≤ maxLen) (hbytes : (n + m) * bytes ≤ 140737488355328) (hbase : base ≤ w.heap.size)
    (h : ∀ v' w', w'.ownsRow base e size v' (n + m) (xs ++ news) → w.grownBy w' v.ownBlock → (v' = .slice none 0 0 ↔ v = .slice none 0 0 ∧ m = 0) → K (a.put o.dst v') w') :
    if Region.wanted o (yielded ops a.tmps) = true then Oper.wp P o a w K Q else E := by
  have hw : Region.wanted o (yielded ops a.tmps) = true := by simp [Region.wanted, hgd]
  rw [if_pos hw]
  exact wp_append_own w s x t ho base e i z size bytes ht hi hz hsize hby hzs hsz v n xs hs hown ad m c news hx hl hnews h1 h63 hbytes hbase h
/-- put in at a place -/
theorem insB_at {p : List Int} : ∀ {S : List (List Int)} {k : Nat}, (∀ j s, j < k → S[j]? = some s → Tr.beforeL p s = false) → (∀ s, S[k]? = some s → Tr.beforeL p s = true) → k ≤ S.length → Tr.insB p S = S.take k ++ p :: S.drop k
  | [], k, _, _, h => by
    have : k = 0 := by simpa using h
    subst this; rfl
  | s :: r, 0, _, h2, _ => by
    have := h2 s rfl
    rw [Tr.insB, if_pos this]; rfl
  | s :: r, k+1, h1, h2, h3 => by
    have h0 := h1 0 s (by omega) rfl
    rw [Tr.insB, if_neg (by rw [h0]; simp), insB_at (S := r) (k := k) (fun j x hj hx => h1 (j + 1) x (by omega) hx) (fun x hx => h2 x hx) (by simpa using h3)]
    rfl
theorem insB_length (p : List Int) : ∀ S : List (List Int), (Tr.insB p S).length = S.length + 1
  | [] => rfl
  | s :: r => by
    rw [Tr.insB]; split
    · rfl
    · rw [List.length_cons, insB_length p r]; rfl
theorem insB_mem {p : List Int} : ∀ {S : List (List Int)} {s : List Int}, s ∈ Tr.insB p S → s = p ∨ s ∈ S
  | [], s, hs => by simpa [Tr.insB] using hs
  | a :: r, s, hs => by
    rw [Tr.insB] at hs
    split at hs
    · simpa using hs
    · rw [List.mem_cons] at hs
      rcases hs with rfl | hs
      · simp
      · rcases insB_mem hs with e | e
        · exact .inl e
        · exact .inr (by simp [e])
def sortB (L : List (List Int)) (i : Nat) : List (List Int) := (L.take i).foldl (fun o p => Tr.insB p o) []
theorem sortB_step {L : List (List Int)} {i : Nat} {p : List Int} (h : L[i]? = some p) : sortB L (i + 1) = Tr.insB p (sortB L i) := by
  unfold sortB
  rw [List.take_add_one, h, Option.toList_some, List.foldl_append]; rfl
theorem sortB_length (L : List (List Int)) : ∀ i, i ≤ L.length → (sortB L i).length = i
  | 0, _ => rfl
  | i+1, h => by
    rw [sortB_step (List.getElem?_eq_getElem h), insB_length, sortB_length L i (by omega)]
theorem sortB_mem {L : List (List Int)} : ∀ {i : Nat} {s : List Int}, i ≤ L.length → s ∈ sortB L i → s ∈ L
  | 0, s, _, hs => by cases hs
  | i+1, s, h, hs => by
    rw [sortB_step (List.getElem?_eq_getElem h)] at hs
    rcases insB_mem hs with e | e
    · rw [e]; exact List.getElem_mem _
    · exact sortB_mem (by omega) e
theorem sortB_end (L : List (List Int)) : sortB L L.length = Tr.sortL L := by
  unfold sortB Tr.sortL; rw [List.take_length]
/-- sorted lists in memory -/
def ResRws (m : List (List Int)) (w : World) (e : Ending) (w' : World) : Prop :=
  ∃ (b o cap : Nat), e = .returned (.slice (some ⟨b, o, none⟩) m.length cap) ∧ m.length ≤ cap ∧ Rws w' (some ⟨b, o, none⟩) m ∧ Below w.heap.size w w'
set_option maxHeartbeats 4000000 in
theorem l03Sort_any (A : Option Addr) (n c B : Nat) (L : List (List Int)) (w : World) (hl : L.length = n) (n8 : n ≤ 8) (hr : ∀ r ∈ L, Tr.isLv r = true) (hB : B ≤ w.heap.size) (h : Mat w B A L) :
    Calls Tryz.prog 142 #[.slice A n c] w (ResRws (Tr.sortL L) w) := by
  obtain ⟨i0, hi, hz0, hz1, hz2⟩ := info_parts info_i64
  obtain ⟨j0, hj, hy0, hy1, hy2⟩ := info_parts info_row
  have HL := Lib.hid hl
  have HR0 := Lib.hid hr
  clear hl hr
  go_enter Tryz.func142, Tryz.ntmps142
  go_wp2_with fail
  go_loopw [3, 4] (fun v i wr => ∃ (k cap : Nat) (b o : Nat), k ≤ n ∧ v = .slice (some ⟨b, o, none⟩) k cap ∧ k ≤ cap ∧ i = .int .i64 k ∧ Rws wr (some ⟨b, o, none⟩) (sortB L k) ∧ Below w.heap.size w wr) (fun _ i _ => n - (intOf i).toNat)
  case atStart => exact ⟨0, 0, w.heap.size, 0, Nat.zero_le _, rfl, Nat.le_refl _, rfl, ⟨[], Row.nil _ _ _, Vals.nil _ _⟩, (Below.refl _ _).alloc (Nat.le_refl _) _⟩
  case round =>
    obtain ⟨k, cap, b, o, hk, rfl, hkc, rfl, HR, HB⟩ := hrel
    have hsz := HB.size
    by_cases hlt : k < n
    · obtain ⟨p, hp⟩ := at_lt (show k < L.length by rw [HL.out]; exact hlt)
      obtain ⟨bp, op, Ak, ck, rfl, hbp, hcp, hlc, hcm, hrp⟩ := (h.below HB hB) k p hp
      have hpl := HR0.out p (List.mem_of_getElem? hp)
      obtain ⟨p1, p8⟩ := lv_bd hpl
      obtain ⟨x0, hx0⟩ := at_lt (show 0 < p.length by omega)
      obtain ⟨br, orr, rfl, _, _⟩ := hrp 0 _ (ints_at hx0)
      have HSS : Hid (sortB L (k + 1) = Tr.insB p (sortB L k)) := sortB_step hp
      have HSL : Hid ((sortB L k).length = k) := sortB_length L k (by rw [HL.out]; exact hk)
      have HSM : Hid (∀ s ∈ sortB L k, Tr.isLv s = true) := fun s hs => HR0.out s (sortB_mem (by rw [HL.out]; exact hk) hs)
      have HRP := Lib.hid hrp
      have HRW := Lib.hid HR
      have HBW := Lib.hid HB
      have hka : (k : Int) < n := by omega
      have hk0 : (0 : Int) ≤ (k : Int) := Int.natCast_nonneg _
      have hkm : k ≤ 8 := by omega
      clear hp hpl hx0 HR HB hrp
      obtain ⟨wo, hwo⟩ : ∃ wo, wo = wr := ⟨wr, rfl⟩
      subst hwo
      go_wp2_with fail
      go_loopw [5] (fun a wr => ∃ (at' m : Nat), at' ≤ k ∧ a = .int .i64 at' ∧ wr = wo.drewN m ∧ Hid (∀ j s, j < at' → (sortB L k)[j]? = some s → Tr.beforeL p s = false)) (fun a _ => k - (intOf a).toNat)
      case atStart => exact ⟨0, 0, Nat.zero_le _, rfl, rfl, fun j s hj => by omega⟩
      case round =>
        obtain ⟨q, m, hq, rfl, rfl, HQ⟩ := hrel
        have hq0 : (0 : Int) ≤ (q : Int) := Int.natCast_nonneg _
        by_cases hqk : q < k
        · have hqi : (q : Int) < (k : Int) := by omega
          have hd : decide ((q : Int) < (k : Int)) = true := decide_eq_true hqi
          obtain ⟨s, hs⟩ := at_lt (show q < (sortB L k).length by rw [HSL.out]; exact hqk)
          obtain ⟨_, _, As, cs, e1, _, hcs, _, _, hrs⟩ := HRW.out.mat q s hs
          cases e1
          obtain ⟨s1, s8⟩ := lv_bd (HSM.out s (List.mem_of_getElem? hs))
          have CB := fun a : Nat => l03Before_any (some ⟨br, orr, none⟩) As p.length s.length ck cs B wo.heap.size p s (wo.drewN (m + a)) rfl rfl (by omega) (by omega) (HRP.out.drewN (m + a)) hrs
          cases hbf : Tr.beforeL p s
          · simp only [hbf] at CB
            have HQ2 : Hid (∀ j s, j < q + 1 → (sortB L k)[j]? = some s → Tr.beforeL p s = false) := fun j s' hj hs' => by
              by_cases hjq : j = q
              · subst hjq; rw [hs] at hs'; injection hs' with hs'; rw [← hs']; exact hbf
              · exact HQ.out j s' (by omega) hs'
            clear hs HQ hbf
            go_wp2_with fail
            go_quiet ((go_at_call 83; exact quiet_any (CB _)))
            go_wp2
            go_roundw
            case rel => exact ⟨q + 1, _, by omega, by go_num, rfl, HQ2⟩
            case measure => simp [intOf]; omega
          · simp only [hbf] at CB
            have HQ2 : Hid (∀ s, (sortB L k)[q]? = some s → Tr.beforeL p s = true) := fun s' hs' => by
              rw [hs] at hs'; injection hs' with hs'; rw [← hs']; exact hbf
            clear hs hbf
            go_wp2_with fail
            go_quiet ((go_at_call 83; exact quiet_any (CB _)))
            clear hcs hrs CB
            obtain ⟨W, hW⟩ : ∃ W, W = (wo.drewN m).drewN nq := ⟨_, rfl⟩
            have BW : Hid (Below wo.heap.size wo W) := by rw [hW]; exact below_drewN (below_drewN (Below.refl _ _) _) _
            have hW1 : wo.heap.size ≤ W.heap.size := BW.out.size
            rw [← hW]
            clear hW
            obtain ⟨vs, hrow, hvals⟩ := HRW.out.next BW.out
            have hvl : vs.length = k := by rw [hvals.1]; exact HSL.out
            have HVL := Lib.hid hvl
            have HROW := Lib.hid hrow
            have HVALS := Lib.hid hvals
            have HPW : Hid (Row W B (some ⟨br, orr, none⟩) (ints p)) := HRP.out.below BW.out (by omega)
            have hcpW : W.cell? ⟨bp, op + k, none⟩ = some (.slice (some ⟨br, orr, none⟩) p.length ck) := (BW.out.cell (p := ⟨bp, op + k, none⟩) (by show bp < wo.heap.size; omega)).trans hcp
            have HPUT : Hid (sortB L (k + 1) = (sortB L k).take q ++ p :: (sortB L k).drop q) := by
              rw [Hid, HSS.out]; exact insB_at HQ.out HQ2.out (by rw [HSL.out]; exact hq)
            have hqK : (q : Int) ≤ (k : Int) := by omega
            have hKc : (k : Int) ≤ (cap : Int) := by omega
            have hcap0 : (q : Int) ≤ (cap : Int) := by omega
            clear hrow hvals hvl HQ HQ2 hcp
            have HLEN1 : Hid ((vs.drop q).length = (k - q) * 1) := by rw [Hid, List.length_drop, HVL.out]; omega
            have HONE1 : Hid (∀ u ∈ vs.drop q, u.oneCell' = true) := fun u hu => HVALS.out.one (v := u) u (List.mem_of_mem_drop hu)
            have HNW1 : Hid (∀ w2 (B2 : Below W.heap.size W w2) (x : Obj), ∀ j u, (vs.drop q)[j]? = some u → (w2.alloc x).cell? ((⟨b, o + q, none⟩ : Addr).add j) = some u) := fun w2 B2 x => row_news (((Row.dropA HROW.out).below B2 (Nat.le_refl _)).below ((Below.refl _ _).alloc (Nat.le_refl _) x) B2.size)
            have HLEN2 : Hid ((vs.take q).length = q * 1) := by rw [Hid, List.length_take, HVL.out]; omega
            have HONE2 : Hid (∀ u ∈ vs.take q, u.oneCell' = true) := fun u hu => HVALS.out.one (v := u) u (List.mem_of_mem_take hu)
            go_wp2_with fail
            go_region_held3 (fun w' => w'.cell? ⟨bp, op + k, none⟩ = some (.slice (some ⟨br, orr, none⟩) p.length ck)) (first | go_keep | exact hcpW | exact ((show Below W.heap.size W w2 from ⟨bel2.os, bel2.tape, bel2.output, bel2.size, bel2.block⟩).cell (p := ⟨bp, op + k, none⟩) (by show bp < W.heap.size; omega)).trans hcpW | exact (((show Below W.heap.size W w2 from ⟨bel2.os, bel2.tape, bel2.output, bel2.size, bel2.block⟩).alloc (show W.heap.size ≤ w2.heap.size from bel2.size) _).cell (p := ⟨bp, op + k, none⟩) (by show bp < W.heap.size; omega)).trans hcpW | exact (BW3.cell (p := ⟨bp, op + k, none⟩) (by show bp < W.heap.size; omega)).trans hcpW)
              (first
                | (go_at_call 88; refine (l01Own_any ⟨br, orr, none⟩ p.length ck B p _ rfl (by omega) (by show B ≤ W.heap.size; omega) (by exact HPW.out)).mono ?_; rintro e w2 ⟨A2, c2, rfl, own2, bel2⟩)
                | (have B2 : Below W.heap.size W w2 := ⟨bel2.os, bel2.tape, bel2.output, bel2.size, bel2.block⟩; have OWN1 := World.ownsRow_lit (base := W.heap.size) (size := 1) (e := 23) w2 #[.slice A2 p.length c2] 1 B2.size (by simp [maxLen]) rfl; refine step_append_own (by rfl) _ _ 22 (by rfl) W.heap.size 23 j0 _ 1 24 Tryz.underlying22 hj hy0 hy1 hy2 rfl (by omega) (.slice (some ⟨w2.heap.size, 0, none⟩) 1 1) 1 [.slice A2 p.length c2] (by rfl) OWN1 ⟨b, o + q, none⟩ (k - q) (cap - q) (vs.drop q) (by rfl) HLEN1.out (HNW1.out w2 B2 _) HONE1.out (by simp only [maxLen]; omega) (by omega) (by have := B2.size; simp; omega) ?_; intro v3 w3 own3 hgrow3 _; obtain ⟨g3, c3, rfl⟩ := own_form own3 (by omega); have BW3 : Below W.heap.size W w3 := (B2.alloc B2.size _).grown hgrow3 (by have := B2.size; simp; omega) (fun z hz => (OWN1.lt z hz).1)))
            have B2 : Below W.heap.size W w2 := ⟨bel2.os, bel2.tape, bel2.output, bel2.size, bel2.block⟩
            have HO2 : Hid (w2.ownsRow W.heap.size 2 1 (.slice A2 p.length c2) p.length (ints p)) := own2
            obtain ⟨hc2, hc2m⟩ := own_cap HO2.out
            have hW3 : W.heap.size ≤ w3.heap.size := BW3.size
            have HPV : Hid (Row w2 w2.heap.size A2 (ints p)) := row_of_own HO2.out
            have HB23 : Hid (Below w2.heap.size w2 w3) := ((Below.refl _ _).alloc (Nat.le_refl _) _).grown hgrow3 (by simp) (fun z hz => (World.ownsRow_lit (base := w2.heap.size) (size := 1) (e := 23) w2 #[.slice A2 p.length c2] 1 (Nat.le_refl _) (by simp [maxLen]) rfl).lt z hz |>.1)
            have HO3 := Lib.hid (OwnR.of own3)
            have OWN2 := Lib.hid (World.ownsRow_lit (base := w3.heap.size) (size := 1) (e := 23) w3 #[] 0 (Nat.le_refl _) (Nat.zero_le _) rfl)
            have HBW3 := Lib.hid BW3
            have HNEWS2 : Hid (∀ j u, (vs.take q)[j]? = some u → (w3.alloc (.cells #[] 23)).cell? ((⟨b, o, none⟩ : Addr).add j) = some u) := row_news ((((HROW.out.takeA q).below BW3 (Nat.le_refl _)).more hW3).alloc (Nat.le_refl _) _)
            have HONE3 : Hid (∀ u ∈ [Value.slice A2 p.length c2] ++ vs.drop q, u.oneCell' = true) := fun u hu => by
              rw [List.mem_append, List.mem_singleton] at hu
              rcases hu with rfl | hu
              · rfl
              · exact HVALS.out.one (v := u) u (List.mem_of_mem_drop hu)
            have HS5 : Hid (q + (1 + (k - q)) = k + 1) := by rw [Hid]; omega
            clear own2 bel2 B2 hgrow3 own3 BW3 hcpW
            go_wp2_with (first
              | (at_builtin; refine wpList_append_own _ rfl (.tmp 42) (.tmp 45) 22 rfl w3.heap.size 23 j0 _ 1 24 Tryz.underlying22 hj hy0 hy1 hy2 rfl (by omega) (.slice (some ⟨w3.heap.size, 0, none⟩) 0 0) 0 [] rfl OWN2.out ⟨b, o, none⟩ q cap (vs.take q) rfl HLEN2.out HNEWS2.out HONE2.out (by simp only [maxLen]; omega) (by omega) (by simp) ?_; intro v4 w4 own4 hgrow4 _; obtain ⟨A4, c4, rfl⟩ := own_shape' own4; rw [Nat.zero_add, List.nil_append] at own4; have BW4 : Below w3.heap.size w3 w4 := ((Below.refl _ _).alloc (Nat.le_refl _) _).grown hgrow4 (by simp) (fun z hz => (OWN2.out.lt z hz).1); have hW4 : w3.heap.size ≤ w4.heap.size := BW4.size; have HO4 := (HO3.out.below BW4 (Nat.le_refl _)).1)
              | (at_builtin; refine wpList_append_own _ rfl (.tmp 46) (.tmp 47) 22 rfl w3.heap.size 23 j0 _ 1 24 Tryz.underlying22 hj hy0 hy1 hy2 rfl (by omega) (.slice A4 q c4) q (vs.take q) rfl own4 ⟨g3, 0, none⟩ (1 + (k - q)) c3 ([Value.slice A2 p.length c2] ++ vs.drop q) rfl (by rw [Nat.mul_one]; exact own_len HO4) (row_news (row_of_own HO4)) HONE3.out (by simp only [maxLen]; omega) (by omega) (by omega) ?_; intro v5 w5 own5 hgrow5 _; rw [HS5.out] at own5; obtain ⟨g5, c5, rfl⟩ := own_form own5 (by omega)))
            have BW5 : Hid (Below w3.heap.size w3 w5) := BW4.grown hgrow5 hW4 (fun z hz => (own4.lt z hz).1)
            have GB : Hid (Below w.heap.size w w5) := ((HBW.out.trans (BW.out.mono hsz)).trans (HBW3.out.mono (by omega))).trans (BW5.out.mono (by omega))
            have GC : k + 1 ≤ c5 := (own_cap own5).1
            have GR : Hid (Rws w5 (some ⟨g5, 0, none⟩) (sortB L (k + 1))) := by
              refine ⟨_, row_of_own own5, ?_⟩
              have hv := Vals.put (k := q) (A := A2) (c := c2) (r := p) ((HVALS.out.next HBW3.out).next BW5.out) (by rw [HSL.out]; exact hq) hc2 hc2m (((HPV.out.below HB23.out (Nat.le_refl _)).below BW5.out (by have := HB23.out.size; omega)).more (by have := BW5.out.size; have := HB23.out.size; omega))
              rw [← HPUT.out] at hv
              exact hv
            clear own5 hgrow5 own4 hgrow4 BW4 HO4
            go_wp2
            go_roundw
            case rel => exact ⟨k + 1, c5, g5, 0, by omega, rfl, GC, by go_num, GR.out, GB.out⟩
            case measure => simp [intOf]; omega
        · obtain rfl : q = k := by omega
          have hd : decide ((q : Int) < (q : Int)) = false := decide_eq_false (by omega)
          have HQ2 : Hid (∀ s, (sortB L q)[q]? = some s → Tr.beforeL p s = true) := fun s' hs' => by
            rw [List.getElem?_eq_none (by rw [HSL.out]; exact Nat.le_refl _)] at hs'; cases hs'
          go_wp2_with fail
          go_quiet (fail)
          obtain ⟨W, hW⟩ : ∃ W, W = (wo.drewN m).drewN nq := ⟨_, rfl⟩
          have BW : Hid (Below wo.heap.size wo W) := by rw [hW]; exact below_drewN (below_drewN (Below.refl _ _) _) _
          have hW1 : wo.heap.size ≤ W.heap.size := BW.out.size
          rw [← hW]
          clear hW
          obtain ⟨vs, hrow, hvals⟩ := HRW.out.next BW.out
          have hvl : vs.length = q := by rw [hvals.1]; exact HSL.out
          have HVL := Lib.hid hvl
          have HROW := Lib.hid hrow
          have HVALS := Lib.hid hvals
          have HPW : Hid (Row W B (some ⟨br, orr, none⟩) (ints p)) := HRP.out.below BW.out (by omega)
          have hcpW : W.cell? ⟨bp, op + q, none⟩ = some (.slice (some ⟨br, orr, none⟩) p.length ck) := (BW.out.cell (p := ⟨bp, op + q, none⟩) (by show bp < wo.heap.size; omega)).trans hcp
          have HPUT : Hid (sortB L (q + 1) = (sortB L q).take q ++ p :: (sortB L q).drop q) := by
            rw [Hid, HSS.out]; exact insB_at HQ.out HQ2.out (by rw [HSL.out]; exact hq)
          have hqK : (q : Int) ≤ (q : Int) := by omega
          have hKc : (q : Int) ≤ (cap : Int) := by omega
          have hcap0 : (q : Int) ≤ (cap : Int) := by omega
          clear hrow hvals hvl HQ HQ2 hcp
          by_cases hcap : q = cap
          · subst hcap
            have HLEN1 : Hid (([] : List Value).length = 0 * 1) := rfl
            have HONE1 : Hid (∀ u ∈ ([] : List Value), u.oneCell' = true) := fun u hu => by cases hu
            have HNW1 : Hid (∀ w2 (B2 : Below W.heap.size W w2) (x : Obj), ∀ j u, ([] : List Value)[j]? = some u → (w2.alloc x).cell? ((⟨b, o, none⟩ : Addr).add j) = some u) := fun w2 B2 x j u hu => by simp at hu
            have HLEN2 : Hid ((vs.take q).length = q * 1) := by rw [Hid, List.length_take, HVL.out]; omega
            have HONE2 : Hid (∀ u ∈ vs.take q, u.oneCell' = true) := fun u hu => HVALS.out.one (v := u) u (List.mem_of_mem_take hu)
            go_wp2_with fail
            go_region_held3 (fun w' => w'.cell? ⟨bp, op + q, none⟩ = some (.slice (some ⟨br, orr, none⟩) p.length ck)) (first | go_keep | exact hcpW | exact ((show Below W.heap.size W w2 from ⟨bel2.os, bel2.tape, bel2.output, bel2.size, bel2.block⟩).cell (p := ⟨bp, op + q, none⟩) (by show bp < W.heap.size; omega)).trans hcpW | exact (((show Below W.heap.size W w2 from ⟨bel2.os, bel2.tape, bel2.output, bel2.size, bel2.block⟩).alloc (show W.heap.size ≤ w2.heap.size from bel2.size) _).cell (p := ⟨bp, op + q, none⟩) (by show bp < W.heap.size; omega)).trans hcpW | exact (BW3.cell (p := ⟨bp, op + q, none⟩) (by show bp < W.heap.size; omega)).trans hcpW)
              (first
                | (go_at_call 88; refine (l01Own_any ⟨br, orr, none⟩ p.length ck B p _ rfl (by omega) (by show B ≤ W.heap.size; omega) (by exact HPW.out)).mono ?_; rintro e w2 ⟨A2, c2, rfl, own2, bel2⟩)
                | (have B2 : Below W.heap.size W w2 := ⟨bel2.os, bel2.tape, bel2.output, bel2.size, bel2.block⟩; have OWN1 := World.ownsRow_lit (base := W.heap.size) (size := 1) (e := 23) w2 #[.slice A2 p.length c2] 1 B2.size (by simp [maxLen]) rfl; refine step_append_own (by rfl) _ _ 22 (by rfl) W.heap.size 23 j0 _ 1 24 Tryz.underlying22 hj hy0 hy1 hy2 rfl (by omega) (.slice (some ⟨w2.heap.size, 0, none⟩) 1 1) 1 [.slice A2 p.length c2] (by rfl) OWN1 ⟨b, o, none⟩ 0 0 [] (by rfl) HLEN1.out (HNW1.out w2 B2 _) HONE1.out (by simp only [maxLen]; omega) (by omega) (by have := B2.size; simp; omega) ?_; intro v3 w3 own3 hgrow3 _; obtain ⟨g3, c3, rfl⟩ := own_form own3 (by omega); have BW3 : Below W.heap.size W w3 := (B2.alloc B2.size _).grown hgrow3 (by have := B2.size; simp; omega) (fun z hz => (OWN1.lt z hz).1)))
            have HDE : Hid ([Value.slice A2 p.length c2] ++ ([] : List Value) = [Value.slice A2 p.length c2] ++ vs.drop q) := by rw [Hid, List.drop_of_length_le (by rw [HVL.out]; omega)]
            rw [HDE.out] at own3
            have e10 : 1 + 0 = 1 := rfl
            rw [e10] at own3
            have B2 : Below W.heap.size W w2 := ⟨bel2.os, bel2.tape, bel2.output, bel2.size, bel2.block⟩
            have HO2 : Hid (w2.ownsRow W.heap.size 2 1 (.slice A2 p.length c2) p.length (ints p)) := own2
            obtain ⟨hc2, hc2m⟩ := own_cap HO2.out
            have hW3 : W.heap.size ≤ w3.heap.size := BW3.size
            have HPV : Hid (Row w2 w2.heap.size A2 (ints p)) := row_of_own HO2.out
            have HB23 : Hid (Below w2.heap.size w2 w3) := ((Below.refl _ _).alloc (Nat.le_refl _) _).grown hgrow3 (by simp) (fun z hz => (World.ownsRow_lit (base := w2.heap.size) (size := 1) (e := 23) w2 #[.slice A2 p.length c2] 1 (Nat.le_refl _) (by simp [maxLen]) rfl).lt z hz |>.1)
            have HO3 := Lib.hid (OwnR.of own3)
            have OWN2 := Lib.hid (World.ownsRow_lit (base := w3.heap.size) (size := 1) (e := 23) w3 #[] 0 (Nat.le_refl _) (Nat.zero_le _) rfl)
            have HBW3 := Lib.hid BW3
            have HNEWS2 : Hid (∀ j u, (vs.take q)[j]? = some u → (w3.alloc (.cells #[] 23)).cell? ((⟨b, o, none⟩ : Addr).add j) = some u) := row_news ((((HROW.out.takeA q).below BW3 (Nat.le_refl _)).more hW3).alloc (Nat.le_refl _) _)
            have HONE3 : Hid (∀ u ∈ [Value.slice A2 p.length c2] ++ vs.drop q, u.oneCell' = true) := fun u hu => by
              rw [List.mem_append, List.mem_singleton] at hu
              rcases hu with rfl | hu
              · rfl
              · exact HVALS.out.one (v := u) u (List.mem_of_mem_drop hu)
            clear own2 bel2 B2 hgrow3 own3 BW3 hcpW
            go_wp2_with (first
              | (at_builtin; refine wpList_append_own _ rfl (.tmp 42) (.tmp 45) 22 rfl w3.heap.size 23 j0 _ 1 24 Tryz.underlying22 hj hy0 hy1 hy2 rfl (by omega) (.slice (some ⟨w3.heap.size, 0, none⟩) 0 0) 0 [] rfl OWN2.out ⟨b, o, none⟩ q q (vs.take q) rfl HLEN2.out HNEWS2.out HONE2.out (by simp only [maxLen]; omega) (by omega) (by simp) ?_; intro v4 w4 own4 hgrow4 _; obtain ⟨A4, c4, rfl⟩ := own_shape' own4; rw [Nat.zero_add, List.nil_append] at own4; have BW4 : Below w3.heap.size w3 w4 := ((Below.refl _ _).alloc (Nat.le_refl _) _).grown hgrow4 (by simp) (fun z hz => (OWN2.out.lt z hz).1); have hW4 : w3.heap.size ≤ w4.heap.size := BW4.size; have HO4 := (HO3.out.below BW4 (Nat.le_refl _)).1)
              | (at_builtin; refine wpList_append_own _ rfl (.tmp 46) (.tmp 47) 22 rfl w3.heap.size 23 j0 _ 1 24 Tryz.underlying22 hj hy0 hy1 hy2 rfl (by omega) (.slice A4 q c4) q (vs.take q) rfl own4 ⟨g3, 0, none⟩ 1 c3 ([Value.slice A2 p.length c2] ++ vs.drop q) rfl (by rw [Nat.mul_one]; exact own_len HO4) (row_news (row_of_own HO4)) HONE3.out (by simp only [maxLen]; omega) (by omega) (by omega) ?_; intro v5 w5 own5 hgrow5 _; obtain ⟨g5, c5, rfl⟩ := own_form own5 (by omega)))
            have BW5 : Hid (Below w3.heap.size w3 w5) := BW4.grown hgrow5 hW4 (fun z hz => (own4.lt z hz).1)
            have GB : Hid (Below w.heap.size w w5) := ((HBW.out.trans (BW.out.mono hsz)).trans (HBW3.out.mono (by omega))).trans (BW5.out.mono (by omega))
            have GC : q + 1 ≤ c5 := (own_cap own5).1
            have GR : Hid (Rws w5 (some ⟨g5, 0, none⟩) (sortB L (q + 1))) := by
              refine ⟨_, row_of_own own5, ?_⟩
              have hv := Vals.put (k := q) (A := A2) (c := c2) (r := p) ((HVALS.out.next HBW3.out).next BW5.out) (by rw [HSL.out]; exact hq) hc2 hc2m (((HPV.out.below HB23.out (Nat.le_refl _)).below BW5.out (by have := HB23.out.size; omega)).more (by have := BW5.out.size; have := HB23.out.size; omega))
              rw [← HPUT.out] at hv
              exact hv
            clear own5 hgrow5 own4 hgrow4 BW4 HO4
            go_wp2
            go_roundw
            case rel => exact ⟨q + 1, c5, g5, 0, by omega, rfl, GC, by go_num, GR.out, GB.out⟩
            case measure => simp [intOf]; omega
          · skip
            have HLEN1 : Hid ((vs.drop q).length = 0 * 1) := by rw [Hid, List.length_drop, HVL.out]; omega
            have HONE1 : Hid (∀ u ∈ vs.drop q, u.oneCell' = true) := fun u hu => HVALS.out.one (v := u) u (List.mem_of_mem_drop hu)
            have HNW1 : Hid (∀ w2 (B2 : Below W.heap.size W w2) (x : Obj), ∀ j u, (vs.drop q)[j]? = some u → (w2.alloc x).cell? ((⟨b, o + q, none⟩ : Addr).add j) = some u) := fun w2 B2 x => row_news (((Row.dropA HROW.out).below B2 (Nat.le_refl _)).below ((Below.refl _ _).alloc (Nat.le_refl _) x) B2.size)
            have HLEN2 : Hid ((vs.take q).length = q * 1) := by rw [Hid, List.length_take, HVL.out]; omega
            have HONE2 : Hid (∀ u ∈ vs.take q, u.oneCell' = true) := fun u hu => HVALS.out.one (v := u) u (List.mem_of_mem_take hu)
            go_wp2_with fail
            go_region_held3 (fun w' => w'.cell? ⟨bp, op + q, none⟩ = some (.slice (some ⟨br, orr, none⟩) p.length ck)) (first | go_keep | exact hcpW | exact ((show Below W.heap.size W w2 from ⟨bel2.os, bel2.tape, bel2.output, bel2.size, bel2.block⟩).cell (p := ⟨bp, op + q, none⟩) (by show bp < W.heap.size; omega)).trans hcpW | exact (((show Below W.heap.size W w2 from ⟨bel2.os, bel2.tape, bel2.output, bel2.size, bel2.block⟩).alloc (show W.heap.size ≤ w2.heap.size from bel2.size) _).cell (p := ⟨bp, op + q, none⟩) (by show bp < W.heap.size; omega)).trans hcpW | exact (BW3.cell (p := ⟨bp, op + q, none⟩) (by show bp < W.heap.size; omega)).trans hcpW)
              (first
                | (go_at_call 88; refine (l01Own_any ⟨br, orr, none⟩ p.length ck B p _ rfl (by omega) (by show B ≤ W.heap.size; omega) (by exact HPW.out)).mono ?_; rintro e w2 ⟨A2, c2, rfl, own2, bel2⟩)
                | (have B2 : Below W.heap.size W w2 := ⟨bel2.os, bel2.tape, bel2.output, bel2.size, bel2.block⟩; have OWN1 := World.ownsRow_lit (base := W.heap.size) (size := 1) (e := 23) w2 #[.slice A2 p.length c2] 1 B2.size (by simp [maxLen]) rfl; refine step_append_own (by rfl) _ _ 22 (by rfl) W.heap.size 23 j0 _ 1 24 Tryz.underlying22 hj hy0 hy1 hy2 rfl (by omega) (.slice (some ⟨w2.heap.size, 0, none⟩) 1 1) 1 [.slice A2 p.length c2] (by rfl) OWN1 ⟨b, o + q, none⟩ 0 (cap - q) (vs.drop q) (by rfl) HLEN1.out (HNW1.out w2 B2 _) HONE1.out (by simp only [maxLen]; omega) (by omega) (by have := B2.size; simp; omega) ?_; intro v3 w3 own3 hgrow3 _; obtain ⟨g3, c3, rfl⟩ := own_form own3 (by omega); have BW3 : Below W.heap.size W w3 := (B2.alloc B2.size _).grown hgrow3 (by have := B2.size; simp; omega) (fun z hz => (OWN1.lt z hz).1)))
            have e10 : 1 + 0 = 1 := rfl
            rw [e10] at own3
            have B2 : Below W.heap.size W w2 := ⟨bel2.os, bel2.tape, bel2.output, bel2.size, bel2.block⟩
            have HO2 : Hid (w2.ownsRow W.heap.size 2 1 (.slice A2 p.length c2) p.length (ints p)) := own2
            obtain ⟨hc2, hc2m⟩ := own_cap HO2.out
            have hW3 : W.heap.size ≤ w3.heap.size := BW3.size
            have HPV : Hid (Row w2 w2.heap.size A2 (ints p)) := row_of_own HO2.out
            have HB23 : Hid (Below w2.heap.size w2 w3) := ((Below.refl _ _).alloc (Nat.le_refl _) _).grown hgrow3 (by simp) (fun z hz => (World.ownsRow_lit (base := w2.heap.size) (size := 1) (e := 23) w2 #[.slice A2 p.length c2] 1 (Nat.le_refl _) (by simp [maxLen]) rfl).lt z hz |>.1)
            have HO3 := Lib.hid (OwnR.of own3)
            have OWN2 := Lib.hid (World.ownsRow_lit (base := w3.heap.size) (size := 1) (e := 23) w3 #[] 0 (Nat.le_refl _) (Nat.zero_le _) rfl)
            have HBW3 := Lib.hid BW3
            have HNEWS2 : Hid (∀ j u, (vs.take q)[j]? = some u → (w3.alloc (.cells #[] 23)).cell? ((⟨b, o, none⟩ : Addr).add j) = some u) := row_news ((((HROW.out.takeA q).below BW3 (Nat.le_refl _)).more hW3).alloc (Nat.le_refl _) _)
            have HONE3 : Hid (∀ u ∈ [Value.slice A2 p.length c2] ++ vs.drop q, u.oneCell' = true) := fun u hu => by
              rw [List.mem_append, List.mem_singleton] at hu
              rcases hu with rfl | hu
              · rfl
              · exact HVALS.out.one (v := u) u (List.mem_of_mem_drop hu)
            clear own2 bel2 B2 hgrow3 own3 BW3 hcpW
            go_wp2_with (first
              | (at_builtin; refine wpList_append_own _ rfl (.tmp 42) (.tmp 45) 22 rfl w3.heap.size 23 j0 _ 1 24 Tryz.underlying22 hj hy0 hy1 hy2 rfl (by omega) (.slice (some ⟨w3.heap.size, 0, none⟩) 0 0) 0 [] rfl OWN2.out ⟨b, o, none⟩ q cap (vs.take q) rfl HLEN2.out HNEWS2.out HONE2.out (by simp only [maxLen]; omega) (by omega) (by simp) ?_; intro v4 w4 own4 hgrow4 _; obtain ⟨A4, c4, rfl⟩ := own_shape' own4; rw [Nat.zero_add, List.nil_append] at own4; have BW4 : Below w3.heap.size w3 w4 := ((Below.refl _ _).alloc (Nat.le_refl _) _).grown hgrow4 (by simp) (fun z hz => (OWN2.out.lt z hz).1); have hW4 : w3.heap.size ≤ w4.heap.size := BW4.size; have HO4 := (HO3.out.below BW4 (Nat.le_refl _)).1)
              | (at_builtin; refine wpList_append_own _ rfl (.tmp 46) (.tmp 47) 22 rfl w3.heap.size 23 j0 _ 1 24 Tryz.underlying22 hj hy0 hy1 hy2 rfl (by omega) (.slice A4 q c4) q (vs.take q) rfl own4 ⟨g3, 0, none⟩ 1 c3 ([Value.slice A2 p.length c2] ++ vs.drop q) rfl (by rw [Nat.mul_one]; exact own_len HO4) (row_news (row_of_own HO4)) HONE3.out (by simp only [maxLen]; omega) (by omega) (by omega) ?_; intro v5 w5 own5 hgrow5 _; obtain ⟨g5, c5, rfl⟩ := own_form own5 (by omega)))
            have BW5 : Hid (Below w3.heap.size w3 w5) := BW4.grown hgrow5 hW4 (fun z hz => (own4.lt z hz).1)
            have GB : Hid (Below w.heap.size w w5) := ((HBW.out.trans (BW.out.mono hsz)).trans (HBW3.out.mono (by omega))).trans (BW5.out.mono (by omega))
            have GC : q + 1 ≤ c5 := (own_cap own5).1
            have GR : Hid (Rws w5 (some ⟨g5, 0, none⟩) (sortB L (q + 1))) := by
              refine ⟨_, row_of_own own5, ?_⟩
              have hv := Vals.put (k := q) (A := A2) (c := c2) (r := p) ((HVALS.out.next HBW3.out).next BW5.out) (by rw [HSL.out]; exact hq) hc2 hc2m (((HPV.out.below HB23.out (Nat.le_refl _)).below BW5.out (by have := HB23.out.size; omega)).more (by have := BW5.out.size; have := HB23.out.size; omega))
              rw [← HPUT.out] at hv
              exact hv
            clear own5 hgrow5 own4 hgrow4 BW4 HO4
            go_wp2
            go_roundw
            case rel => exact ⟨q + 1, c5, g5, 0, by omega, rfl, GC, by go_num, GR.out, GB.out⟩
            case measure => simp [intOf]; omega
    · obtain rfl : k = n := by omega
      have G : Hid (ResRws (Tr.sortL L) w (.returned (.slice (some ⟨b, o, none⟩) k cap)) wr) := by
        have e := sortB_end L
        rw [HL.out] at e
        have e2 : (Tr.sortL L).length = k := by rw [← e]; exact sortB_length L k (by rw [HL.out]; exact Nat.le_refl _)
        rw [e] at HR
        rw [Hid]
        unfold ResRws
        rw [e2]
        exact ⟨b, o, cap, rfl, hkc, HR, HB⟩
      clear HR HB
      go_wp2
      go_ret
      exact G.out
end Go.Proofs.YtolkbbbbahhfaaaGreat
