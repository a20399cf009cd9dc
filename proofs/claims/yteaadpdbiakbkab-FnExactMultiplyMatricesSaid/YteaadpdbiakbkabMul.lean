/-
  Products of matrices, the program's and the model's alike.
-/
import Derived.Test.YteaadpdbiakbkabMat
namespace Go.Proofs.Yteaadpdbiakbkab
open Go.RowKit Fld
set_option linter.unusedVariables false
set_option linter.unusedSimpArgs false

def prodRow (r : List Int) (b : List (List Int)) : List Int := (List.range (b.getD 0 []).length).map fun k : Nat => dotK r (colAt b k) r.length
def prodM (a b : List (List Int)) : List (List Int) := a.map fun r => prodRow r b
theorem prodRow_length (r : List Int) (b : List (List Int)) : (prodRow r b).length = (b.getD 0 []).length := by simp [prodRow]
theorem prodRow_at (r : List Int) (b : List (List Int)) {k : Nat} (h : k < (b.getD 0 []).length) : (prodRow r b)[k]? = some (dotK r (colAt b k) r.length) := by
  unfold prodRow; rw [List.getElem?_map, List.getElem?_range h]; rfl
theorem prodM_at {a b : List (List Int)} {i : Nat} {r : List Int} (h : a[i]? = some r) : (prodM a b)[i]? = some (prodRow r b) := by unfold prodM; rw [List.getElem?_map, h]; rfl
theorem prodM_length (a b : List (List Int)) : (prodM a b).length = a.length := by simp [prodM]
theorem colAt_num {b : List (List Int)} {k q : Nat} (hw : Wide b q) (hk : k < q) (h : ∀ r ∈ b, allNum r = true) : allNum (colAt b k) = true := by
  rw [allNum_iff]
  intro x hx
  unfold colAt at hx
  rw [List.mem_map] at hx
  obtain ⟨r, hr, rfl⟩ := hx
  have hl := hw r hr
  rw [List.getD_eq_getElem?_getD, List.getElem?_eq_getElem (by omega), Option.getD_some]
  exact allNum_iff.1 (h r hr) _ (List.getElem_mem _)

/-- a row is added behind the last one -/
theorem OwnMat.push {w w2 : World} {lo hi n q c g cap : Nat} {v : Value} {A : Option Addr} {m : List (List Int)} {vs : List Value} {row : List Int} {o : Obj} (h : OwnMat w lo hi v n m vs) (hs : hi ≤ w.heap.size) (hq : row.length = q) (ho : w.ownsRow hi 2 1 (.slice A q c) q (ints row)) (hl : lo ≤ hi)
    (h2 : w2.ownsRow lo 29 1 (.slice (some ⟨g, 0, none⟩) (n + 1) cap) (n + 1) (vs ++ [.slice A q c])) (hg : (w.alloc o).grownBy w2 v.ownBlock) : OwnMat w2 lo w2.heap.size (.slice (some ⟨g, 0, none⟩) (n + 1) cap) (n + 1) (m ++ [row]) (vs ++ [.slice A q c]) := by
  subst hq
  have hz : w.heap.size + 1 ≤ w2.heap.size := by have := hg.size; simpa using this
  have hal : Below w.heap.size w (w.alloc o) := (Below.refl _ _).alloc (Nat.le_refl _) _
  have hnew : OwnR w hi w.heap.size 2 (.slice A row.length c) row.length (ints row) := OwnR.of ho
  have hcarry : ∀ (lo' hi' : Nat) (A2 : Option Addr) (c2 : Nat) (r2 : List Int), hi' ≤ w.heap.size → OwnR w lo' hi' 2 (.slice A2 r2.length c2) r2.length (ints r2) → OwnR w2 lo' hi' 2 (.slice A2 r2.length c2) r2.length (ints r2) := by
    intro lo' hi' A2 c2 r2 hhi o2
    exact (o2.below hal hhi).grown hg (own_types o2.1 h.outer.1 (by decide))
  refine ⟨OwnR.of h2, by simp [h.len], ?_, ?_⟩
  · intro r row2 hr
    rcases Nat.lt_or_ge r m.length with x | x
    · rw [List.getElem?_append_left x] at hr
      obtain ⟨A2, c2, e2, o2⟩ := h.inner r row2 hr
      refine ⟨A2, c2, by rw [List.getElem?_append_left (by rw [h.len]; exact x)]; exact e2, ?_⟩
      exact (hcarry lo hi A2 c2 row2 hs o2).more (Nat.le_refl _) (by omega)
    · rw [List.getElem?_append_right x] at hr
      have hx : r - m.length = 0 := by
        rcases Nat.eq_zero_or_pos (r - m.length) with y | y
        · exact y
        · rw [List.getElem?_eq_none (by simp; omega)] at hr; cases hr
      rw [hx] at hr
      simp only [List.getElem?_cons_zero, Option.some.injEq] at hr
      subst hr
      refine ⟨A, c, by rw [List.getElem?_append_right (by rw [h.len]; exact x), h.len, hx]; rfl, ?_⟩
      exact (hcarry hi w.heap.size A c row (Nat.le_refl _) hnew).more hl (by omega)
  · intro r s u t g' hne hu ht hb hb'
    have side : ∀ (r : Nat) (u : Value), (vs ++ [Value.slice A row.length c])[r]? = some u → u.ownBlock = some g' → (r < vs.length ∧ vs[r]? = some u ∧ g' < hi) ∨ (r = vs.length ∧ hi ≤ g') := by
      intro r u hu hb
      rcases Nat.lt_or_ge r vs.length with x | x
      · rw [List.getElem?_append_left x] at hu
        obtain ⟨A2, c2, e2, o2⟩ := h.inner r _ (List.getElem?_eq_getElem (by rw [← h.len]; exact x))
        rw [hu] at e2
        injection e2 with e2
        subst e2
        exact .inl ⟨x, hu, o2.2 g' hb⟩
      · rw [List.getElem?_append_right x] at hu
        have hx : r - vs.length = 0 := by
          rcases Nat.eq_zero_or_pos (r - vs.length) with y | y
          · exact y
          · rw [List.getElem?_eq_none (by simp; omega)] at hu; cases hu
        rw [hx] at hu
        simp only [List.getElem?_cons_zero, Option.some.injEq] at hu
        subst hu
        exact .inr ⟨by omega, (ho.lt g' hb).1⟩
    rcases side r u hu hb with ⟨h1, h3, h4⟩ | ⟨h1, h4⟩ <;> rcases side s t ht hb' with ⟨k1, k3, k4⟩ | ⟨k1, k4⟩
    · exact h.apart r s u t g' hne h3 k3 hb hb'
    · omega
    · omega
    · omega
theorem OwnMat.empty (w : World) : OwnMat (w.alloc (.cells #[] 29)) w.heap.size (w.heap.size + 1) (.slice (some ⟨w.heap.size, 0, none⟩) 0 0) 0 [] [] := by
  refine ⟨⟨World.ownsRow_lit w #[] 0 (Nat.le_refl _) (Nat.zero_le _) rfl, fun g hg => by have : w.heap.size = g := (by simpa [Value.ownBlock] using hg); omega⟩, rfl, fun r row hr => by simp at hr, fun r s u t g _ hu => by simp at hu⟩
/-- a list of lists that grows -/
def GrowM (w : World) (g n cap : Nat) (m : List (List Int)) (wr : World) : Prop := ∃ vs, OwnMat wr w.heap.size wr.heap.size (.slice (some ⟨g, 0, none⟩) n cap) n m vs ∧ Below w.heap.size w wr
theorem GrowM.start (w : World) : GrowM w w.heap.size 0 0 [] (w.alloc (.cells #[] 29)) :=
  ⟨[], by have := OwnMat.empty w; simpa using this, (Below.refl _ _).alloc (Nat.le_refl _) _⟩
theorem GrowM.done {w wr : World} {g n cap : Nat} {m : List (List Int)} (h : GrowM w g n cap m wr) : NewMat n m w (.returned (.slice (some ⟨g, 0, none⟩) n cap)) wr := by
  obtain ⟨vs, h1, h2⟩ := h
  exact ⟨_, _, vs, rfl, h1, h2⟩

set_option maxRecDepth 100000 in
set_option maxHeartbeats 1000000 in
theorem l01Product_any (A A' : Option Addr) (n n' c c' B : Nat) (a b : List (List Int)) (w : World) (hl : a.length = n) (hl' : b.length = n') (ha : isMatB a = true) (hb : isMatB b = true) (hab : (a.getD 0 []).length = n') (hB : B ≤ w.heap.size) (h : Mat w B A a) (h' : Mat w B A' b) :
    Calls Try.prog 61 #[.slice A n c, .slice A' n' c'] w (NewMat n (prodM a b) w) := by
  obtain ⟨i0, hi, hz0, hz1, hz2⟩ := info_parts info_i64
  obtain ⟨j0, hj, hy0, hy1, hy2⟩ := info_parts info_row
  obtain ⟨a1, a2, a3, a4, aw, an⟩ := isMatB_parts ha
  obtain ⟨b1, b2, b3, b4, bw, bn⟩ := isMatB_parts hb
  rw [hl] at a1 a2
  rw [hl'] at b1 b2
  rw [hab] at aw
  have HL := Lib.hid hl
  have HL' := Lib.hid hl'
  have HAW := Lib.hid aw
  have HBW := Lib.hid bw
  have HAN := Lib.hid an
  have HBN := Lib.hid bn
  obtain ⟨rb, hrb⟩ := at_lt (show 0 < b.length by omega)
  have eb : b.getD 0 [] = rb := getD_of hrb
  obtain ⟨bb, ob, Ab, cb, rfl, _, hcb, _, _, _⟩ := h' 0 rb hrb
  have hbb : bb < w.heap.size := lt_of_cell hcb
  rw [Nat.add_zero] at hcb
  rw [eb] at b3 b4
  have HEB := Lib.hid eb
  clear hl hl' ha hb aw bw an bn hab eb hrb a3 a4
  go_enter Try.func61, Try.ntmps61
  go_wp2_with fail
  go_loopw [5, 6] (fun v i wr => ∃ i' g cap : Nat, i' ≤ n ∧ v = .slice (some ⟨g, 0, none⟩) i' cap ∧ i = .int .i64 i' ∧ GrowM w g i' cap ((prodM a b).take i') wr) (fun _ i _ => n - (intOf i).toNat)
  case atStart => exact ⟨0, _, 0, Nat.zero_le _, rfl, rfl, GrowM.start ..⟩
  case round =>
    obtain ⟨i, g, cap, hi', rfl, rfl, vs, HM, HBel⟩ := hrel
    by_cases hlt : i < n
    · obtain ⟨r, hr⟩ := at_lt (show i < a.length by rw [HL.out]; exact hlt)
      have hrq := HAW.out.at_ hr
      obtain ⟨ba, oa, Ai, ci, rfl, hba, hca, _, _, hrowa⟩ := h.below HBel hB i r hr
      have HR := Lib.hid hr
      have HRQ := Lib.hid hrq
      rw [hrq] at hca
      have HRN := Lib.hid (HAN.out r (List.mem_of_getElem? hr))
      have hcb2 : wr.cell? ⟨bb, ob, none⟩ = some (.slice Ab rb.length cb) := (HBel.cell (p := ⟨bb, ob, none⟩) hbb).trans hcb
      have hmb := h'.below HBel hB
      have hwz := HBel.size
      have HM' := Lib.hid HM
      have HBel' := Lib.hid HBel
      have hbw : ba < wr.heap.size := lt_of_cell hca
      have HW : Hid (Wide b rb.length) := by have := HBW.out; rw [HEB.out] at this; exact this
      clear hr hrq HM HBel hcb
      obtain ⟨wo, hwo⟩ : ∃ wo : World, wo = wr := ⟨_, rfl⟩
      subst hwo
      go_wp2_with fail
      go_loopw [7, 8] (fun v i2 wr => ∃ k g2 cap2 : Nat, k ≤ rb.length ∧ v = .slice (some ⟨g2, 0, none⟩) k cap2 ∧ i2 = .int .i64 k ∧ Growing wo 2 g2 k cap2 (ints ((prodRow r b).take k)) wr) (fun _ i2 _ => rb.length - (intOf i2).toNat)
      case atStart => exact ⟨0, _, 0, Nat.zero_le _, rfl, rfl, Growing.start ..⟩
      case round =>
        obtain ⟨k, g2, cap2, hk, rfl, rfl, HG⟩ := hrel
        have hcb3 : wr.cell? ⟨bb, ob, none⟩ = some (.slice Ab rb.length cb) := (HG.2.cell (p := ⟨bb, ob, none⟩) (by show bb < wo.heap.size; omega)).trans hcb2
        by_cases hkl : k < rb.length
        · have hrow1 := hrowa.below HG.2 (by omega)
          have hmb1 := hmb.below HG.2 (by omega)
          have hca1 : wr.cell? ⟨ba, oa + i, none⟩ = some (.slice Ai n' ci) := (HG.2.cell (p := ⟨ba, oa + i, none⟩) hbw).trans hca
          have hsz := HG.2.size
          have HK : Hid (∀ W' : World, Below wr.heap.size wr W' → W'.cell? ⟨ba, oa + i, none⟩ = some (.slice Ai n' ci)) := fun W' hb => (hb.cell (p := ⟨ba, oa + i, none⟩) (by show ba < wr.heap.size; omega)).trans hca1
          have HO : Hid (∀ W' : World, Below wr.heap.size wr W' → W'.ownsRow wo.heap.size 2 1 (.slice (some ⟨g2, 0, none⟩) k cap2) k (ints ((prodRow r b).take k))) := fun W' hb => ((OwnR.of HG.1).below hb (Nat.le_refl _)).1
          have HD : Hid (ints ((prodRow r b).take k) ++ [.int .i64 (dotK r (colAt b k) n')] = ints ((prodRow r b).take (k + 1))) := by
            have e := prodRow_at r b (k := k) (by rw [HEB.out]; exact hkl)
            rw [HRQ.out] at e
            exact grow_ints e
          have HNE : Hid (some (Addr.block ⟨ba, oa + i, none⟩) ≠ Value.ownBlock (.slice (some ⟨g2, 0, none⟩) k cap2)) := fun e => by
            have h1 := (HG.1.lt g2 rfl).1
            have h2 : ba = g2 := by simpa [Value.ownBlock] using e
            omega
          have HCN := Lib.hid (colAt_num HW.out hkl HBN.out)
          have HCL := Lib.hid ((colAt_length b k).trans HL'.out)
          have HG' := Lib.hid HG
          have i0' : (0 : Int) ≤ (i : Int) := Int.natCast_nonneg _
          have i1' : (i : Int) < (n : Int) := by omega
          clear HG
          go_wp2_with fail
          go_region_held3 (fun w' => w'.cell? ⟨ba, oa + i, none⟩ = some (.slice Ai n' ci)) (first | go_keep | exact HK.out _ ⟨bel1.os, bel1.tape, bel1.output, bel1.size, bel1.block⟩ | exact HK.out _ (below_drewN (show Below wr.heap.size wr w1 from ⟨bel1.os, bel1.tape, bel1.output, bel1.size, bel1.block⟩) _) | exact HK.out _ ((below_drewN (show Below wr.heap.size wr w1 from ⟨bel1.os, bel1.tape, bel1.output, bel1.size, bel1.block⟩) m2).alloc (show wr.heap.size ≤ w1.heap.size from bel1.size) _) | exact World.grownBy.cell hgrow3 (HK.out _ ((below_drewN (show Below wr.heap.size wr w1 from ⟨bel1.os, bel1.tape, bel1.output, bel1.size, bel1.block⟩) m2).alloc (show wr.heap.size ≤ w1.heap.size from bel1.size) _)) HNE.out)
            (first
              | (go_at_call 82; refine (l01Column_any _ n' _ B rb.length k b _ HL'.out (by omega) HW.out hkl (by omega) (by show B ≤ wr.heap.size; omega) (by exact hmb1)).mono ?_; rintro e w1 ⟨A1, c1, rfl, own1, bel1⟩)
              | (go_at_call 56; refine (l01Dot_any _ _ n' _ _ _ _ r (colAt b k) _ HRQ.out HCL.out (by omega) (by exact hrow1.below (show Below wr.heap.size wr w1 from ⟨bel1.os, bel1.tape, bel1.output, bel1.size, bel1.block⟩) (by omega)) (by exact row_of_own own1) HRN.out HCN.out).mono ?_; rintro e w2 ⟨rfl, m2, rfl⟩)
              | (have tok := own1; refine step_append_lies _ (by rfl) _ _ _ (by rfl) wo.heap.size 2 i0 _ 1 8 Try.underlying29 hi hz0 hz1 hz2 rfl (by omega) (.slice (some ⟨g2, 0, none⟩) k cap2) k (ints ((prodRow r b).take k)) (by rfl) (HO.out _ (by exact (below_drewN (show Below wr.heap.size wr w1 from ⟨bel1.os, bel1.tape, bel1.output, bel1.size, bel1.block⟩) m2).alloc (show wr.heap.size ≤ w1.heap.size from bel1.size) _)) ⟨w1.heap.size, 0, none⟩ 1 1 [.int .i64 (dotK r (colAt b k) n')] (by rfl) (by rfl) (World.news_of_block (cs := #[.int .i64 (dotK r (colAt b k) n')]) (heap_alloc_new _ _)) (by simp [Value.oneCell']) (by omega) (by simp only [maxLen]; omega) (by omega) (by have hh : wr.heap.size ≤ w1.heap.size := bel1.size; simp; omega) (w1.heap.size + 1) (by simp) ?_; intro g3 cap3 w3 hown3 hgrow3 hat3 hlt3))
          rw [HD.out] at hown3
          have G := Lib.hid (HG'.out.step ((below_drewN (show Below wr.heap.size wr w1 from ⟨bel1.os, bel1.tape, bel1.output, bel1.size, bel1.block⟩) m2).alloc (show wr.heap.size ≤ w1.heap.size from bel1.size) _) hown3 hgrow3)
          clear hown3 hgrow3 hat3 own1 bel1
          go_wp2
          go_roundw
          case rel => exact ⟨k + 1, _, _, by omega, rfl, by go_num, G.out⟩
          case measure => simp [intOf]; omega
        · obtain rfl : k = rb.length := by omega
          have e1 : (prodRow r b).take rb.length = prodRow r b := List.take_of_length_le (by rw [prodRow_length, HEB.out]; omega)
          have HPL : Hid ((prodRow r b).length = rb.length) := by rw [Hid, prodRow_length, HEB.out]
          rw [e1] at HG
          have hown7 := HG.1
          have hsz := HG.2.size
          have HMo := Lib.hid (HM'.out.below HG.2 (Nat.le_refl _))
          have HB2 := Lib.hid (HBel'.out.trans (HG.2.mono hwz))
          have HGrow := Lib.hid (prodM_at (b := b) HR.out)
          have hownO := HMo.out.outer.1
          go_wp2_with (at_builtin; refine wpList_append_lies _ rfl (.tmp 36) (.tmp 38) 35 rfl w.heap.size 29 j0 _ 1 24 Try.underlying35 hj hy0 hy1 hy2 rfl (by omega) (.slice (some ⟨g, 0, none⟩) i cap) i vs rfl (hownO.alloc _) ⟨wr.heap.size, 0, none⟩ 1 1 [.slice (some ⟨g2, 0, none⟩) rb.length cap2] rfl rfl (World.news_of_block (cs := #[.slice (some ⟨g2, 0, none⟩) rb.length cap2]) (heap_alloc_new _ _)) (by simp [Value.oneCell']) (by omega) (by simp only [maxLen]; omega) (by omega) (by simp; omega) (wr.heap.size + 1) (by simp) ?_; intro g4 cap4 w4 hown4 hgrow4 hat4 hlt4)
          have G : Hid (GrowM w g4 (i + 1) cap4 ((prodM a b).take (i + 1)) w4) := by
            have h1 := HMo.out.push (row := prodRow r b) hsz HPL.out hown7 hwz hown4 hgrow4
            have e2 : (prodM a b).take (i + 1) = (prodM a b).take i ++ [prodRow r b] := by rw [List.take_add_one, HGrow.out]; rfl
            refine ⟨_, by rw [e2]; exact h1, ?_⟩
            refine (HB2.out.alloc (by omega) _).grown hgrow4 (by simp; omega) (fun q hq => (hownO.lt q hq).1)
          clear hown4 hgrow4 hat4 hownO hown7 HG
          go_wp2
          go_roundw
          case rel => exact ⟨i + 1, _, _, by omega, rfl, by go_num, G.out⟩
          case measure => simp [intOf]; omega
    · obtain rfl : i = n := by omega
      have e : (prodM a b).take i = prodM a b := List.take_of_length_le (by rw [prodM_length, HL.out]; omega)
      rw [e] at HM
      have G := Lib.hid (GrowM.done ⟨vs, HM, HBel⟩)
      clear HM HBel
      go_wp2
      go_ret
      exact G.out

def mulA (a b : List (List Int)) : List (List Int) × Int := if isMatB a = true ∧ isMatB b = true then (if (a.getD 0 []).length = b.length then (prodM a b, 0) else ([], 5)) else ([], 1)
theorem mulA_no1 {a b : List (List Int)} (h : isMatB a = false) : mulA a b = ([], 1) := if_neg (by rw [h]; simp)
theorem mulA_no2 {a b : List (List Int)} (h : isMatB b = false) : mulA a b = ([], 1) := if_neg (by rw [h]; simp)
theorem mulA_no5 {a b : List (List Int)} (ha : isMatB a = true) (hb : isMatB b = true) (h : (a.getD 0 []).length ≠ b.length) : mulA a b = ([], 5) := (if_pos ⟨ha, hb⟩).trans (if_neg h)
theorem mulA_yes {a b : List (List Int)} (ha : isMatB a = true) (hb : isMatB b = true) (h : (a.getD 0 []).length = b.length) : mulA a b = (prodM a b, 0) := (if_pos ⟨ha, hb⟩).trans (if_pos h)
/-- a list of lists beside a code -/
def MatEnd (r : List (List Int) × Int) (w : World) (e : Ending) (w' : World) : Prop :=
  ∃ A n c vs, e = .returned (.tuple #[.slice A n c, .int .i64 r.2]) ∧ OwnMat w' w.heap.size w'.heap.size (.slice A n c) n r.1 vs ∧ Below w.heap.size w w'
theorem OwnMat.nil (w : World) (lo hi : Nat) : OwnMat w lo hi (.slice none 0 0) 0 [] [] :=
  ⟨⟨World.ownsRow_nil _ _ _ _, fun g hg => by simp [Value.ownBlock] at hg⟩, rfl, fun r row hr => by simp at hr, fun r s u t g _ hu => by simp at hu⟩
theorem MatEnd.err {r : List (List Int) × Int} {w w' : World} {k : Int} (h : r = ([], k)) (hb : Below w.heap.size w w') : MatEnd r w (.returned (.tuple #[.slice none 0 0, .int .i64 k])) w' := by
  subst h; exact ⟨_, _, _, [], rfl, OwnMat.nil _ _ _, hb⟩
theorem MatEnd.ok {r : List (List Int) × Int} {w w' : World} {k : Int} {m : List (List Int)} {A : Option Addr} {n c : Nat} {vs : List Value} (h : r = (m, k)) (ho : OwnMat w' w.heap.size w'.heap.size (.slice A n c) n m vs) (hb : Below w.heap.size w w') : MatEnd r w (.returned (.tuple #[.slice A n c, .int .i64 k])) w' := by
  subst h; exact ⟨_, _, _, vs, rfl, ho, hb⟩
theorem below_undrew {w w' : World} {a : Nat} (h : Below (w.drewN a).heap.size (w.drewN a) w') : Below w.heap.size w w' := ⟨h.os, h.tape, h.output, h.size, h.block⟩
theorem Filling.below {w wr W : World} {T : TypeId} {n k : Nat} {xs : List Int} (h : Filling w T n xs k wr) (hb : Below wr.heap.size wr W) : Filling w T n xs k W :=
  ⟨((OwnR.of h.1).below hb (Nat.le_refl _)).1, h.2.trans (hb.mono h.2.size)⟩
set_option maxRecDepth 100000 in
set_option maxHeartbeats 1000000 in
theorem sMultiplyMatrices_any (A A' : Option Addr) (n n' c c' B : Nat) (a b : List (List Int)) (w : World) (hl : a.length = n) (hl' : b.length = n') (hn : n ≤ 1048576) (hn' : n' ≤ 1048576) (hB : B ≤ w.heap.size) (h : Mat w B A a) (h' : Mat w B A' b) :
    Calls Try.prog 25 #[.slice A n c, .slice A' n' c'] w (MatEnd (mulA a b) w) := by
  have HL := Lib.hid hl
  have HL' := Lib.hid hl'
  clear hl hl'
  cases ha : isMatB a
  · have H := Lib.hid (mulA_no1 (b := b) ha)
    have ca : (matCode a != 0) = true := bne_t (by rw [matCode_no ha]; omega)
    go_enter Try.func25, Try.ntmps25
    go_wp2_with fail
    refine (l01Matrix_any _ n _ B a _ HL.out (by omega) h).mono ?_
    rintro e w' ⟨rfl, j1, rfl⟩
    go_wp2
    go_ret2
    exact MatEnd.err H.out (below_drewN (Below.refl _ _) _)
  · cases hb : isMatB b
    · have H := Lib.hid (mulA_no2 (a := a) hb)
      have ca : (matCode a != 0) = false := bne_f (matCode_yes ha)
      have cb : (matCode b != 0) = true := bne_t (by rw [matCode_no hb]; omega)
      go_enter Try.func25, Try.ntmps25
      go_wp2_with fail
      refine (l01Matrix_any _ n _ B a _ HL.out (by omega) h).mono ?_
      rintro e w' ⟨rfl, j1, rfl⟩
      go_wp2_with fail
      refine (l01Matrix_any _ n' _ B b _ HL'.out (by omega) (by exact h'.drewN j1)).mono ?_
      rintro e w' ⟨rfl, j2, rfl⟩
      go_wp2
      go_ret2
      exact MatEnd.err H.out (below_drewN (Below.refl _ _) _)
    · obtain ⟨a1, a2, a3, a4, aw, an⟩ := isMatB_parts ha
      obtain ⟨b1, b2, b3, b4, bw, bn⟩ := isMatB_parts hb
      rw [HL.out] at a1 a2
      rw [HL'.out] at b1 b2
      have ca : (matCode a != 0) = false := bne_f (matCode_yes ha)
      have cb : (matCode b != 0) = false := bne_f (matCode_yes hb)
      obtain ⟨ra, hra⟩ := at_lt (show 0 < a.length by rw [HL.out]; omega)
      obtain ⟨ba, oa, Aa, ca, rfl, hba, hca, _, _, _⟩ := h 0 ra hra
      rw [Nat.add_zero] at hca
      have ea : a.getD 0 [] = ra := getD_of hra
      obtain ⟨rb, hrb⟩ := at_lt (show 0 < b.length by rw [HL'.out]; omega)
      obtain ⟨bb, ob, Ab, cb, rfl, hbb, hcb, _, _, _⟩ := h' 0 rb hrb
      rw [Nat.add_zero] at hcb
      have eb : b.getD 0 [] = rb := getD_of hrb
      rw [ea] at a3 a4
      rw [eb] at b3 b4
      by_cases hab : ra.length = n'
      · have tab : ((ra.length : Int) != n') = false := bne_f (by omega)
        have tab2 : ((n' : Int) != ra.length) = false := bne_f (by omega)
        have hab2 : (a.getD 0 []).length = n' := by rw [ea]; exact hab
        have H := Lib.hid (mulA_yes ha hb (by rw [hab2, HL'.out]))
        have HA := Lib.hid ha
        have HBm := Lib.hid hb
        have HAB := Lib.hid hab2
        clear ha hb hab hab2 ea eb hra hrb aw an bw bn
        go_enter Try.func25, Try.ntmps25
        go_wp2_with fail
        refine (l01Matrix_any _ n _ B a _ HL.out (by omega) h).mono ?_
        rintro e w' ⟨rfl, j1, rfl⟩
        go_wp2_with fail
        refine (l01Matrix_any _ n' _ B b _ HL'.out (by omega) (by exact h'.drewN j1)).mono ?_
        rintro e w' ⟨rfl, j2, rfl⟩
        go_wp2_with fail
        refine (l01Product_any _ _ n n' _ _ B a b _ HL.out HL'.out HA.out HBm.out HAB.out (by exact hB) (by exact h) (by exact h')).mono ?_
        rintro e w3 ⟨A3, c3, vs3, rfl, own3, bel3⟩
        go_wp2
        go_ret2
        exact MatEnd.ok H.out (by exact own3) (by exact below_undrew bel3)
      · have tab : ((ra.length : Int) != n') = true := bne_t (by omega)
        have tab2 : ((n' : Int) != ra.length) = true := bne_t (by omega)
        have H := Lib.hid (mulA_no5 ha hb (by rw [ea, HL'.out]; exact hab))
        clear hab ea eb hra hrb aw an bw bn
        go_enter Try.func25, Try.ntmps25
        go_wp2_with fail
        refine (l01Matrix_any _ n _ B a _ HL.out (by omega) h).mono ?_
        rintro e w' ⟨rfl, j1, rfl⟩
        go_wp2_with fail
        refine (l01Matrix_any _ n' _ B b _ HL'.out (by omega) (by exact h'.drewN j1)).mono ?_
        rintro e w' ⟨rfl, j2, rfl⟩
        go_wp2
        go_ret2
        exact MatEnd.err H.out (below_drewN (Below.refl _ _) _)
set_option maxRecDepth 100000 in
set_option maxHeartbeats 1000000 in
theorem multiplyMatrices_any (A A' : Option Addr) (n n' c c' B : Nat) (a b : List (List Int)) (w : World) (hl : a.length = n) (hl' : b.length = n') (hn : n ≤ 1048576) (hn' : n' ≤ 1048576) (hB : B ≤ w.heap.size) (h : Mat w B A a) (h' : Mat w B A' b) :
    Calls Try.prog 27 #[.slice A n c, .slice A' n' c'] w (MatEnd (mulA a b) w) := by
  have HL := Lib.hid hl
  have HL' := Lib.hid hl'
  clear hl hl'
  cases ha : isMatB a
  · have H := Lib.hid (mulA_no1 (b := b) ha)
    go_enter Try.func27, Try.ntmps27
    go_wp2_with fail
    refine (isMatrix_any _ n _ B a _ HL.out (by omega) h).mono ?_
    rintro e w' ⟨rfl, rfl⟩
    go_wp2
    go_ret2
    exact MatEnd.err H.out (Below.refl _ _)
  · cases hb : isMatB b
    · have H := Lib.hid (mulA_no2 (a := a) hb)
      go_enter Try.func27, Try.ntmps27
      go_wp2_with fail
      refine (isMatrix_any _ n _ B a _ HL.out (by omega) h).mono ?_
      rintro e w' ⟨rfl, rfl⟩
      go_wp2_with fail
      refine (isMatrix_any _ n' _ B b _ HL'.out (by omega) h').mono ?_
      rintro e w' ⟨rfl, rfl⟩
      go_wp2
      go_ret2
      exact MatEnd.err H.out (Below.refl _ _)
    · obtain ⟨a1, a2, a3, a4, aw, an⟩ := isMatB_parts ha
      obtain ⟨b1, b2, b3, b4, bw, bn⟩ := isMatB_parts hb
      rw [HL.out] at a1 a2
      rw [HL'.out] at b1 b2
      obtain ⟨ra, hra⟩ := at_lt (show 0 < a.length by rw [HL.out]; omega)
      obtain ⟨ba, oa, Aa, ca, rfl, hba, hca, _, _, _⟩ := h 0 ra hra
      rw [Nat.add_zero] at hca
      have ea : a.getD 0 [] = ra := getD_of hra
      obtain ⟨rb, hrb⟩ := at_lt (show 0 < b.length by rw [HL'.out]; omega)
      obtain ⟨bb, ob, Ab, cb, rfl, hbb, hcb, _, _, _⟩ := h' 0 rb hrb
      rw [Nat.add_zero] at hcb
      have eb : b.getD 0 [] = rb := getD_of hrb
      rw [ea] at a3 a4
      rw [eb] at b3 b4
      by_cases hab : ra.length = n'
      · have tab : ((ra.length : Int) != n') = false := bne_f (by omega)
        have tab2 : ((n' : Int) != ra.length) = false := bne_f (by omega)
        have hab2 : (a.getD 0 []).length = n' := by rw [ea]; exact hab
        have H := Lib.hid (mulA_yes ha hb (by rw [hab2, HL'.out]))
        have HEB := Lib.hid eb
        have HW : Hid (Wide b rb.length) := by rw [eb] at bw; exact bw
        rw [hab2] at aw
        have HAW := Lib.hid aw
        have HAN := Lib.hid an
        have HBN := Lib.hid bn
        have HPL := Lib.hid (show (prodM a b).length = n by rw [prodM_length, HL.out])
        have hbw : bb < w.heap.size := lt_of_cell hcb
        obtain ⟨j0, hj, hy0, hy1, hy2⟩ := info_parts info_row
        obtain ⟨i0, hi, hz0, hz1, hz2⟩ := info_parts columnOf_any_info
        clear hab hab2 ea eb hra hrb aw an bw bn
        go_enter Try.func27, Try.ntmps27
        go_wp2_with fail
        refine (isMatrix_any _ n _ B a _ HL.out (by omega) h).mono ?_
        rintro e w' ⟨rfl, rfl⟩
        go_wp2_with fail
        refine (isMatrix_any _ n' _ B b _ HL'.out (by omega) h').mono ?_
        rintro e w' ⟨rfl, rfl⟩
        go_wp2_with (at_make; refine wpList_make_full _ rfl (.tmp 26) (.tmp 26) 35 rfl w.heap.size 29 j0 _ 1 Try.underlying35 hj hy0 hy1 .i64 .i64 _ _ n rfl rfl rfl rfl (by rw [hy2]; omega) (by simp only [maxLen]; omega) (Nat.le_refl _) ?_; intro w1 hown hg)
        have F0 := FillM.start (m := prodM a b) hown hg
        clear hown hg hy0 hy1 hy2 hj ha hb
        go_loopw [30] (fun i wr => ∃ k : Nat, k ≤ n ∧ i = .int .i64 k ∧ FillM w n (prodM a b) k wr) (fun i _ => n - (intOf i).toNat)
        case atStart => exact ⟨0, Nat.zero_le _, rfl, F0⟩
        case round =>
          obtain ⟨i, hi', rfl, HF⟩ := hrel
          by_cases hlt : i < n
          · obtain ⟨r, hr⟩ := at_lt (show i < a.length by rw [HL.out]; exact hlt)
            have hrq := HAW.out.at_ hr
            obtain ⟨vs, hvs, hbel, hsz0⟩ := id HF
            obtain ⟨ba2, oa2, Ai, ci, e1, _, hci, _, _, hrowa⟩ := h.below hbel hB i r hr
            injection e1 with e1
            injection e1 with e2 e3
            subst e2 e3
            rw [hrq] at hci
            have hbi : ba < wr.heap.size := lt_of_cell hci
            have HR := Lib.hid hr
            have HRQ := Lib.hid hrq
            have HRN := Lib.hid (HAN.out r (List.mem_of_getElem? hr))
            have hcb2 : wr.cell? ⟨bb, ob, none⟩ = some (.slice Ab rb.length cb) := (hbel.cell (p := ⟨bb, ob, none⟩) hbw).trans hcb
            have hmb := h'.below hbel hB
            have hwz := hbel.size
            have HF' := Lib.hid HF
            have HPR := Lib.hid ((prodRow_length r b).trans (congrArg List.length HEB.out))
            clear hr hrq HF hvs hbel F0
            obtain ⟨wo, hwo⟩ : ∃ wo : World, wo = wr := ⟨_, rfl⟩
            subst hwo
            go_wp2_with (at_make; refine wpList_make_full _ rfl (.tmp 36) (.tmp 36) 65 rfl wo.heap.size 49 i0 _ 1 Try.underlying65 hi hz0 hz1 .i64 .i64 _ _ rb.length rfl rfl rfl rfl (by rw [hz2]; omega) (by simp only [maxLen]; omega) (Nat.le_refl _) ?_; intro w1 hown hg)
            have F1 := Filling.start (xs := prodRow r b) hown hg
            clear hown hg
            go_loopw [40] (fun k2 wr => ∃ k : Nat, k ≤ rb.length ∧ k2 = .int .i64 k ∧ Filling wo 49 rb.length (prodRow r b) k wr) (fun k2 _ => rb.length - (intOf k2).toNat)
            case atStart => exact ⟨0, Nat.zero_le _, rfl, F1⟩
            case round =>
              obtain ⟨k, hk, rfl, HG⟩ := hrel
              have HG' := Lib.hid HG
              have hgz := HG.2.size
              by_cases hkl : k < rb.length
              · have hrow1 := hrowa.below HG.2 (by omega)
                have hmb1 := hmb.below HG.2 (by omega)
                have hci1 : wr.cell? ⟨ba, oa + i, none⟩ = some (.slice Ai n' ci) := (HG.2.cell (p := ⟨ba, oa + i, none⟩) hbi).trans hci
                have HCN := Lib.hid (colAt_num HW.out hkl HBN.out)
                have HCL := Lib.hid ((colAt_length b k).trans HL'.out)
                have HD : Hid ((prodRow r b)[k]? = some (dotK r (colAt b k) n')) := by
                  have e := prodRow_at r b (k := k) (by rw [HEB.out]; exact hkl)
                  rw [HRQ.out] at e
                  exact e
                clear HG F1
                go_wp2_with fail
                refine (numbersOf_any Ai n' ci B r _ HRQ.out (by omega) (by show B ≤ wr.heap.size; omega) (by exact hrow1)).mono ?_
                rintro e w2 ⟨A2, c2, rfl, own2, bel2⟩
                have hmb2 := hmb1.below bel2 (by omega)
                have r2 := row_of_own own2
                go_wp2_with fail
                refine (columnOf_any _ n' _ B rb.length k b _ HL'.out (by omega) HW.out hkl (by omega) (by have := bel2.size; omega) (by exact hmb2)).mono ?_
                rintro e w3 ⟨A3, c3, rfl, own3, bel3⟩
                have r3 := row_of_own own3
                have r2' := r2.below bel3 (Nat.le_refl _)
                go_wp2_with fail
                refine (dotOf_any _ _ n' _ _ _ _ r (colAt b k) _ HRQ.out HCL.out (by omega) (by exact r2') (by exact r3) HRN.out HCN.out).mono ?_
                rintro e w4 ⟨rfl, m4, rfl⟩
                have bb4 : Below wr.heap.size wr (w3.drewN m4) := below_drewN (bel2.trans (bel3.mono bel2.size)) _
                have HG2 := Lib.hid (HG'.out.below bb4)
                have hf := HG2.out.1.frozenAt k
                have ho := fill_at' HG2.out HPR.out hkl
                have G := Lib.hid (HG2.out.step HPR.out HD.out)
                clear own2 own3 r2 r3 r2' bel2 bel3 bb4
                go_wp2
                go_roundw
                case rel => exact ⟨k + 1, by omega, by go_num, G.out⟩
                case measure => simp [intOf]; omega
              · obtain rfl : k = rb.length := by omega
                obtain ⟨A5, c5, hv5, own5, bel5⟩ := HG.done HPR.out
                injection hv5 with hv5
                injection hv5 with hA5 _ hc5
                subst hA5 hc5
                have r5 := row_of_own own5
                clear F1 HG
                go_wp2_with fail
                refine (integersOf_any _ rb.length _ _ (prodRow r b) _ HPR.out (by omega) (Nat.le_refl _) (by exact r5)).mono ?_
                rintro e w6 ⟨A6, c6, rfl, own6, bel6⟩
                have bel7 : Below wo.heap.size wo w6 := bel5.trans (bel6.mono bel5.size)
                have own7 : w6.ownsRow wo.heap.size 2 1 (.slice A6 (prodRow r b).length c6) (prodRow r b).length (ints (prodRow r b)) := by
                  rw [HPR.out]; exact ((OwnR.of own6).more bel5.size (Nat.le_refl _)).1
                obtain ⟨⟨u, hu⟩, hf⟩ := HF'.out.cell HPL.out hlt bel7
                have G0 := HF'.out.step HPL.out (prodM_at (b := b) HR.out) own7 bel7
                rw [HPR.out] at G0
                have G := Lib.hid G0
                clear own5 own6 own7 bel5 bel6 G0 r5
                go_wp2
                go_roundw
                case rel => exact ⟨i + 1, by omega, by go_num, G.out⟩
                case measure => simp [intOf]; omega
          · obtain rfl : i = n := by omega
            obtain ⟨A8, c8, vs8, hv8, own8, bel8⟩ := HF.done HPL.out
            injection hv8 with hv8
            injection hv8 with hA8 _ hc8
            subst hA8 hc8
            have G := Lib.hid own8
            have G2 := Lib.hid bel8
            clear HF F0 own8 bel8
            go_wp2
            go_ret2
            exact MatEnd.ok H.out G.out G2.out
      · have tab : ((ra.length : Int) != n') = true := bne_t (by omega)
        have tab2 : ((n' : Int) != ra.length) = true := bne_t (by omega)
        have H := Lib.hid (mulA_no5 ha hb (by rw [ea, HL'.out]; exact hab))
        clear hab ea eb hra hrb aw an bw bn
        go_enter Try.func27, Try.ntmps27
        go_wp2_with fail
        refine (isMatrix_any _ n _ B a _ HL.out (by omega) h).mono ?_
        rintro e w' ⟨rfl, rfl⟩
        go_wp2_with fail
        refine (isMatrix_any _ n' _ B b _ HL'.out (by omega) h').mono ?_
        rintro e w' ⟨rfl, rfl⟩
        go_wp2
        go_ret2
        exact MatEnd.err H.out (Below.refl _ _)
end Go.Proofs.Yteaadpdbiakbkab
