/-
  The copy of a matrix as a system of the program's.
-/
import Derived.Test.YtnnihdkhblbdgaaSys
import Derived.Test.YtnnihdkhblbdgaaMat
import Derived.OwnWalk
namespace Go.Proofs.Ytnnihdkhblbdgaa
open Go.RowKit Fld
set_option linter.unusedVariables false
set_option linter.unusedSimpArgs false
set_option maxRecDepth 100000

/-- a new row is laid into a place of the outer row -/
theorem OwnSys.put_row {w : World} {lo hi hi' n k q c g cap : Nat} {A : Option Addr} {m : List (List Int)} {vs : List Value} {row : List Int} (h : OwnSys w lo hi (.slice (some ⟨g, 0, none⟩) n cap) n m vs) (hk : k < m.length) (hq : row.length = q)
    (ho : OwnR w hi hi' 51 (.slice A q c) q (ints row)) (hl : lo ≤ hi) (hh : hi ≤ hi') : OwnSys (w.setCell ⟨g, k, none⟩ (.slice A q c)) lo hi' (.slice (some ⟨g, 0, none⟩) n cap) n (m.set k row) (vs.set k (.slice A q c)) := by
  have hs := h.outer.1.stored k (.slice A q c)
  have hg2 : ∀ g', Value.ownBlock (.slice A q c) = some g' → hi ≤ g' := fun g' e => (ho.1.lt g' e).1
  refine ⟨⟨hs.1, fun g' e => by have := h.outer.2 g' e; omega⟩, by rw [List.length_set, List.length_set]; exact h.len, ?_, ?_⟩
  · intro s r hr
    by_cases hsk : k = s
    · subst hsk
      rw [List.getElem?_set_self hk] at hr
      injection hr with hr
      subst hr
      subst hq
      refine ⟨A, c, by rw [List.getElem?_set_self (by rw [h.len]; exact hk)], ?_⟩
      exact (ho.more hl (Nat.le_refl _)).grown hs.2 ((own_types ho.1 h.outer.1 (by decide)).imp id (fun e => e))
    · rw [List.getElem?_set_ne hsk] at hr
      obtain ⟨A2, c2, e2, o2⟩ := h.inner s r hr
      exact ⟨A2, c2, by rw [List.getElem?_set_ne hsk]; exact e2, (o2.more (Nat.le_refl _) hh).grown hs.2 ((own_types o2.1 h.outer.1 (by decide)).imp id (fun e => e))⟩
  · intro r s u t g' hne hu ht hb hb'
    by_cases hrk : k = r
    · subst hrk
      have hks : k ≠ s := hne
      rw [List.getElem?_set_self (by rw [h.len]; exact hk)] at hu
      rw [List.getElem?_set_ne hks] at ht
      injection hu with hu
      subst hu
      have h1 := hg2 g' hb
      have hsl : s < m.length := by
        rcases Nat.lt_or_ge s m.length with x | x
        · exact x
        · rw [List.getElem?_eq_none (by rw [h.len]; exact x)] at ht; cases ht
      obtain ⟨A2, c2, e2, o2⟩ := h.inner s _ (List.getElem?_eq_getElem hsl)
      rw [ht] at e2
      injection e2 with e2
      subst e2
      have := o2.2 g' hb'
      omega
    · rw [List.getElem?_set_ne hrk] at hu
      by_cases hsk : k = s
      · subst hsk
        rw [List.getElem?_set_self (by rw [h.len]; exact hk)] at ht
        injection ht with ht
        subst ht
        have h1 := hg2 g' hb'
        have hrl : r < m.length := by
          rcases Nat.lt_or_ge r m.length with x | x
          · exact x
          · rw [List.getElem?_eq_none (by rw [h.len]; exact x)] at hu; cases hu
        obtain ⟨A2, c2, e2, o2⟩ := h.inner r _ (List.getElem?_eq_getElem hrl)
        rw [hu] at e2
        injection e2 with e2
        subst e2
        have := o2.2 g' hb
        omega
      · rw [List.getElem?_set_ne hsk] at ht
        exact h.apart r s u t g' hne hu ht hb hb'
/-- an outer row of empty rows -/
theorem OwnSys.blank {w w1 : World} {n : Nat} (h : w1.ownsRow w.heap.size 58 1 (.slice (some ⟨w.heap.size, 0, none⟩) n n) n (madeCells (Value.slice none 0 0).cells (n * 1)).toList) (hz : w.heap.size < w1.heap.size) :
    OwnSys w1 w.heap.size w1.heap.size (.slice (some ⟨w.heap.size, 0, none⟩) n n) n (List.replicate n []) (List.replicate n (.slice none 0 0)) := by
  have e : (madeCells (Value.slice none 0 0).cells (n * 1)).toList = List.replicate n (.slice none 0 0) := by rw [Nat.mul_one]; exact toList_madeCells_one _ _
  rw [e] at h
  refine ⟨⟨h, fun g hg => by have : w.heap.size = g := (by simpa [Value.ownBlock] using hg); omega⟩, by simp, ?_, ?_⟩
  · intro r row hr
    rw [List.getElem?_replicate] at hr
    split at hr
    · rename_i hlt
      injection hr with hr
      subst hr
      exact ⟨none, 0, by rw [List.getElem?_replicate, if_pos hlt]; rfl, World.ownsRow_nil _ _ _ _, fun g hg => by simp [Value.ownBlock] at hg⟩
    · cases hr
  · intro r s u t g hne hu ht hb
    rw [List.getElem?_replicate] at hu
    split at hu
    · injection hu with hu; subst hu; simp [Value.ownBlock] at hb
    · cases hu
/-- a new list of lists -/
def NewSys (n : Nat) (m : List (List Int)) (w : World) (e : Ending) (w' : World) : Prop :=
  ∃ A c vs, e = .returned (.slice A n c) ∧ OwnSys w' w.heap.size w'.heap.size (.slice A n c) n m vs ∧ Below w.heap.size w w'
/-- the rows up to k are filled -/
def FillS (w : World) (n : Nat) (m : List (List Int)) (k : Nat) (wr : World) : Prop :=
  ∃ vs, OwnSys wr w.heap.size wr.heap.size (.slice (some ⟨w.heap.size, 0, none⟩) n n) n (m.take k ++ List.replicate (n - k) []) vs ∧ Below w.heap.size w wr ∧ w.heap.size < wr.heap.size
theorem fillS_step {m : List (List Int)} {n k : Nat} {r : List Int} (hl : m.length = n) (h : m[k]? = some r) : (m.take k ++ List.replicate (n - k) []).set k r = m.take (k + 1) ++ List.replicate (n - (k + 1)) [] := by
  have hk : k < n := by
    rcases Nat.lt_or_ge k n with g | g
    · exact g
    · rw [List.getElem?_eq_none (by omega)] at h; cases h
  have e1 : (m.take k).length = k := by simp; omega
  rw [List.set_append, if_neg (by omega), e1, Nat.sub_self, show n - k = (n - (k + 1)) + 1 from by omega, List.replicate_succ, List.set_cons_zero, List.take_add_one, h]
  simp
theorem FillS.step {w wr w2 : World} {n k c : Nat} {A : Option Addr} {m : List (List Int)} {row : List Int} (h : FillS w n m k wr) (hl : m.length = n) (hr : m[k]? = some row)
    (ho : w2.ownsRow wr.heap.size 51 1 (.slice A row.length c) row.length (ints row)) (hb : Below wr.heap.size wr w2) : FillS w n m (k + 1) (w2.setCell ⟨w.heap.size, k, none⟩ (.slice A row.length c)) := by
  obtain ⟨vs, h1, h2, h3⟩ := h
  have hk : k < n := by
    rcases Nat.lt_or_ge k n with g | g
    · exact g
    · rw [List.getElem?_eq_none (by omega)] at hr; cases hr
  have hlen : (m.take k ++ List.replicate (n - k) []).length = n := by simp; omega
  have h4 := (h1.below hb (Nat.le_refl _)).put_row (k := k) (by omega) rfl (OwnR.of ho) (by omega) hb.size
  rw [fillS_step hl hr] at h4
  have hsz : (w2.setCell ⟨w.heap.size, k, none⟩ (.slice A row.length c)).heap.size = w2.heap.size := by simp [World.setCell]
  exact ⟨_, by rw [hsz]; exact h4, below_set (h2.trans (hb.mono (by omega))) (Nat.le_refl _) _, by rw [hsz]; have := hb.size; omega⟩
theorem FillS.done {w wr : World} {n : Nat} {m : List (List Int)} (h : FillS w n m n wr) (hl : m.length = n) : NewSys n m w (.returned (.slice (some ⟨w.heap.size, 0, none⟩) n n)) wr := by
  obtain ⟨vs, h1, h2, _⟩ := h
  rw [Nat.sub_self, List.take_of_length_le (by omega)] at h1
  simp only [List.replicate_zero, List.append_nil] at h1
  exact ⟨_, _, vs, rfl, h1, h2⟩
theorem FillS.start {w w1 : World} {n : Nat} {m : List (List Int)} (h : w1.ownsRow w.heap.size 58 1 (.slice (some ⟨w.heap.size, 0, none⟩) n n) n (madeCells (Value.slice none 0 0).cells (n * 1)).toList) (hg : w.grownBy w1 none) : FillS w n m 0 w1 := by
  have hz : w.heap.size < w1.heap.size := (h.lt w.heap.size rfl).2
  refine ⟨List.replicate n (.slice none 0 0), ?_, (Below.refl _ _).grown hg (Nat.le_refl _) (fun k hk => by cases hk), hz⟩
  simp only [List.take_zero, List.nil_append, Nat.sub_zero]
  exact OwnSys.blank h hz
theorem FillS.cell {w wr w2 : World} {n k : Nat} {m : List (List Int)} (h : FillS w n m k wr) (hl : m.length = n) (hk : k < n) (hb : Below wr.heap.size wr w2) :
    (∃ u, w2.cell? ⟨w.heap.size, k, none⟩ = some u) ∧ w2.frozen? ⟨w.heap.size, k, none⟩ = false := by
  obtain ⟨vs, h1, _, h3⟩ := h
  have h2 := (h1.below hb (Nat.le_refl _)).outer.1
  refine ⟨?_, h2.frozenAt k⟩
  have e := h2.cellAt k (by omega)
  have hv : k < vs.length := by rw [own_len h2]; exact hk
  rw [List.getElem?_eq_getElem hv] at e
  exact ⟨_, e⟩


/-- an append of no cells at all -/
theorem run_append_none {P : Program} (w : World) (t tn ty e : TypeId) (i : TypeInfo) (ht : P.underlying t = some (.slice e)) (htn : P.underlying tn = some (.int .i64)) (hi : P.info? e = some i)
    (base : Option Addr) (n c : Nat) (hc : n ≤ c) : (Builtin.append_ #[t, tn] ty #[.slice base n c, .int .i64 0]).run P w = .ok (.slice base n c) w := by
  have hw : IntKind.i64.wrap (0 : Int) = 0 := by decide
  cases base <;> simp [Builtin.append_, run_underlying ht, run_underlying htn, sizeOf, typeInfo, hi, asInt, asIntOf, hw, hc, storeCells]
theorem wpList_append_none {P : Program} (w : World) {ops : Array Oper} {rest : List Oper} {o : Oper} {a : Act} {Q : Exit → Act → World → Prop}
    (hg : o.guard = none) (s x : Operand) (t tn : TypeId) (hop : o.op = Op.call { callee := Callee.builtin Builtin.append, args := #[s, x], argTypes := #[t, tn] })
    (e : TypeId) (i : TypeInfo) (ht : P.underlying t = some (.slice e)) (htn : P.underlying tn = some (.int .i64)) (hi : P.info? e = some i)
    (base : Option Addr) (n c : Nat) (hc : n ≤ c) (hs : a.eval s = .slice base n c) (hx : a.eval x = .int .i64 0)
    (hK : wpList P ops Q rest (a.put o.dst (.slice base n c)) w) : wpList P ops Q (o :: rest) a w := by
  refine wpList_plain hg fun K hK' => ?_
  have hrun := run_append_none w t tn o.type e i ht htn hi base n c hc
  unfold Oper.wp
  simp [execOp, hop, resolve, invoke, builtin, hs, hx, hrun, Result.andThen]
  exact hK' _ _ hK
theorem info_sysrow : (Try.prog.info? 58).map (fun i => (i.zero, i.size, i.bytes)) = some (some (.slice none 0 0), 1, 24) := by kernel_rfl
set_option maxHeartbeats 800000 in
theorem systemOf_any (A : Option Addr) (n c B q : Nat) (m : List (List Int)) (w : World) (hl : m.length = n) (hn : n ≤ 8) (hq : Wide m q) (hq16 : q ≤ 16) (hB : B ≤ w.heap.size) (h : Mat w B A m) :
    Calls Try.prog 69 #[.slice A n c, .int .i64 0] w (NewSys n m w) := by
  obtain ⟨i0, hi, hz0, hz1, hz2⟩ := info_parts info_sysrow
  obtain ⟨j0, hj, _, _, _⟩ := info_parts numbersOf_any_info
  have HL := Lib.hid hl
  have HQ := Lib.hid hq
  clear hl hq
  go_enter Try.func69, Try.ntmps69
  go_wp2_with (at_make; refine wpList_make_full _ rfl (.tmp 9) (.tmp 9) 57 rfl w.heap.size 58 i0 _ 1 Try.underlying57 hi hz0 hz1 .i64 .i64 _ _ n rfl rfl rfl rfl (by rw [hz2]; omega) (by simp only [maxLen]; omega) (Nat.le_refl _) ?_; intro w1 hown hg)
  have F0 := FillS.start (m := m) hown hg
  clear hown hg hz0 hz1 hz2 hi
  go_loopw [13] (fun i wr => ∃ k : Nat, k ≤ n ∧ i = .int .i64 k ∧ FillS w n m k wr) (fun i _ => n - (intOf i).toNat)
  case atStart => exact ⟨0, Nat.zero_le _, rfl, F0⟩
  case round =>
    obtain ⟨k, hk, rfl, HF⟩ := hrel
    by_cases hlt : k < n
    · obtain ⟨r, hr⟩ := at_lt (show k < m.length by rw [HL.out]; exact hlt)
      have hrq := HQ.out.at_ hr
      obtain ⟨vs, hvs, hbel, hsz⟩ := id HF
      obtain ⟨b, o, Ak, ck, rfl, _, hc, hlc, hcm, hrow⟩ := h.below hbel hB k r hr
      have hrl : r.length ≤ 1048576 := by omega
      have HF' := Lib.hid HF
      have HR := Lib.hid hr
      have hBs := hbel.size
      have k0 : (0 : Int) ≤ (k : Int) := Int.natCast_nonneg _
      have k1 : (k : Int) < (n : Int) := by omega
      clear hr F0 HF hvs hbel hrq
      go_wp2_with fail
      refine (numbersOf_any Ak r.length ck B r _ rfl hrl (by omega) hrow).mono ?_
      rintro e w2 ⟨A2, c2, rfl, own2, be2⟩
      obtain ⟨⟨u, hu⟩, hf⟩ := HF'.out.cell HL.out hlt be2
      have hcap2 := (own_cap own2).1
      have G := Lib.hid (HF'.out.step HL.out HR.out own2 be2)
      clear own2
      go_wp2_with (at_builtin; refine wpList_append_none _ rfl (.tmp 21) (.tmp 22) 58 3 rfl 51 j0 Try.underlying58 Try.underlying3 hj A2 r.length c2 hcap2 rfl rfl ?_)
      go_roundw
      case rel => exact ⟨k + 1, by omega, by go_num, G.out⟩
      case measure => simp [intOf]; omega
    · obtain rfl : k = n := by omega
      have G := Lib.hid (HF.done HL.out)
      clear HF F0
      go_wp2
      go_ret
      exact G.out
end Go.Proofs.Ytnnihdkhblbdgaa
