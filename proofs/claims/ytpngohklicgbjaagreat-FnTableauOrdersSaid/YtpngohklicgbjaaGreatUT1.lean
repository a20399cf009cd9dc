/-
  Texts of this seat, joined: what several laws lean on.
-/
import Derived.Test.YtpngohklicgbjaaGreatDrawX
import Derived.Test.YtpngohklicgbjaaGreatPush
import Derived.Deep.RegionLaw
import Derived.Deep.AppendLies
import Derived.Test.YtpngohklicgbjaaGreatTab
import Derived.Test.YtpngohklicgbjaaGreatMat
import Derived.Test.YtpngohklicgbjaaGreatNest
import Derived.OwnWalk
import Derived.Test.YtpngohklicgbjaaGreatSlices
import Derived.Laws.CopyOwn
import Derived.Test.YtpngohklicgbjaaGreatMark1
import Derived.Test.YtpngohklicgbjaaGreatOwn1
import Derived.Test.YtpngohklicgbjaaGreatShelf
import Derived.Test.YtpngohklicgbjaaGreatGrow
import Derived.Test.YtpngohklicgbjaaGreatTree
import Derived.BigRegion
import Derived.Lib.OthersKept
import Derived.Test.YtpngohklicgbjaaGreatTreeD
import Derived.Outline
import Derived.Laws.DeepStrings4
import Derived.Test.YtpngohklicgbjaaGreatTreeE
import Derived.Laws.Strings2
/-
  Draws of level lists beside tableaus.
-/
namespace Go.Proofs.YtpngohklicgbjaaGreat
open Go.RowKit Fld
set_option linter.unusedVariables false
set_option linter.unusedSimpArgs false
set_option maxRecDepth 100000

theorem at_lastK {ys : List Int} {j : Nat} (h : ys.length = j + 1) : ∃ y, ys[j]? = some y ∧ y ∈ ys := by
  have hj : j < ys.length := by omega
  exact ⟨ys[j], List.getElem?_eq_getElem hj, List.getElem_mem hj⟩
def UpToK (ys : List Int) (j : Nat) : Prop := ∀ y ∈ ys, 0 ≤ y ∧ y ≤ (j : Int)
theorem UpToK.snoc {ys : List Int} {j : Nat} {r : Int} (h : UpToK ys j) (h0 : 0 ≤ r) (h1 : r ≤ (j : Int) + 1) : UpToK (ys ++ [r]) (j + 1) := fun y hy => by
  rcases List.mem_append.1 hy with h2 | h2
  · have := h y h2; omega
  · obtain rfl : y = r := by simpa using h2
    omega
set_option maxHeartbeats 2000000 in
theorem l09Tree_any (G B : Nat) (xs : List Int) (most : Nat) (w : World) (h1 : 1 ≤ most) (hn : most ≤ 16) (s : Src w 83 G B xs) :
    Calls Tryz.prog 24 #[.pointer (some ⟨G, 0, none⟩), .int .i64 most] w (DrawnL (fun ys => ys.length ≤ most + 1) 83 G B xs w) := by
  obtain ⟨i0, hi, hz0, hz1, hz2⟩ := info_parts info_i64
  have HG := s.lt
  have HBG := s.base
  have S0 := Lib.hid (s.alloc (.cells #[.int .i64 0] 2))
  have O0 : Hid ((w.alloc (.cells #[.int .i64 0] 2)).ownsRow w.heap.size 2 1 (.slice (some ⟨w.heap.size, 0, none⟩) 1 1) 1 (ints [0])) := World.ownsRow_lit w #[.int .i64 0] 1 (Nat.le_refl _) (by decide) rfl
  have U0 : Hid (UpToK [0] 0) := fun y hy => by
    obtain rfl : y = 0 := by simpa using hy
    omega
  clear s
  go_enter Tryz.func24, Tryz.ntmps24
  go_wp2_with fail
  refine (l01Next_any G B xs _ _ (by omega) S0.out).mono ?_
  rintro e w1 ⟨r, rfl, r0, r1, s1, o1⟩
  obtain ⟨rn, rfl⟩ : ∃ rn : Nat, r = (rn : Int) := ⟨r.toNat, by omega⟩
  have hrm : rn + 1 ≤ most := by omega
  have O1 := Lib.hid (own_pastv O0.out HG o1)
  have G1 := Lib.hid (only_trans (World.grownBy_alloc w (.cells #[.int .i64 0] 2) (some G)) o1)
  have S1 := Lib.hid s1
  clear O0 S0 s1 o1
  go_wp2_with fail
  go_loopw [5, 6] (fun v q wr => ∃ j g cap : Nat, ∃ ys : List Int, j ≤ rn ∧ v = .slice (some ⟨g, 0, none⟩) (j + 1) cap ∧ q = .int .i64 ((rn : Int) - j) ∧ ys.length = j + 1 ∧ Hid (UpToK ys j) ∧ wr.ownsRow w.heap.size 2 1 (.slice (some ⟨g, 0, none⟩) (j + 1) cap) (j + 1) (ints ys) ∧ Src wr 83 G B xs ∧ w.grownBy wr (some G)) (fun _ q _ => (intOf q).toNat)
  case atStart => exact ⟨0, _, _, [0], by omega, rfl, by simp, rfl, U0, O1.out, S1.out, G1.out⟩
  case round =>
    obtain ⟨j, g, cap, ys, hj, rfl, rfl, hy1, HU, hown, hs, ho⟩ := hrel
    by_cases hlt : j < rn
    · have h0 : (0 : Int) < (rn : Int) - j := by omega
      have hg := (hown.lt g rfl).1
      obtain ⟨y, hy, hm⟩ := at_lastK hy1
      have hy2 := HU.out y hm
      have hc := hown.cellAt j (by omega)
      rw [ints_at hy] at hc
      have HY1 := Lib.hid hy1
      have HO := Lib.hid hown
      have HGR := Lib.hid ho
      have hsz := ho.size
      clear hown hy1 ho hy hm O1 S1 G1 U0
      go_wp2_with fail
      refine (l01Next_any G B xs _ _ (by omega) hs).mono ?_
      rintro e w1 ⟨r, rfl, q0, q1, s1, o1⟩
      have own1 := own_pastv HO.out HG o1
      have hsz1 := o1.size
      have HR : Hid (UpToK (ys ++ [1 + r]) (j + 1)) := HU.out.snoc (by omega) (by omega)
      have HR' := Lib.hid (ints_snocK ys (1 + r))
      have O1 := Lib.hid o1
      clear hs o1 HU
      go_wp2_with (at_builtin; refine wpList_append_lies _ rfl (.tmp 15) (.tmp 26) 25 rfl w.heap.size 2 i0 _ 1 8 Tryz.underlying25 hi hz0 hz1 hz2 rfl (by omega) (.slice (some ⟨g, 0, none⟩) (j + 1) cap) (j + 1) (ints ys) rfl (own1.alloc _) ⟨w1.heap.size, 0, none⟩ 1 1 [.int .i64 (1 + r)] rfl rfl (World.news_of_block (cs := #[.int .i64 (1 + r)]) (heap_alloc_new _ _)) (by simp [Value.oneCell']) (by omega) (by simp only [maxLen]; omega) (by omega) (by simp; omega) (w1.heap.size + 1) (by simp) ?_; intro g2 cap2 w2 hown2 hgrow2 hat2 hlt2)
      rw [HR'.out] at hown2
      have s2 := (s1.alloc (.cells #[.int .i64 (1 + r)] 2)).only (g := g) hgrow2 (by omega) (by omega)
      have G2 := Lib.hid (only_row (only_alloc (only_trans HGR.out O1.out) _) hgrow2 hg)
      have S2 := Lib.hid s2
      have OW2 := Lib.hid hown2
      clear hown2 hgrow2 hat2 s1 s2 own1
      go_wp2
      go_roundw
      case rel => exact ⟨j + 1, _, _, ys ++ [1 + r], by omega, rfl, by go_num, by simp [HY1.out], HR, OW2.out, S2.out, G2.out⟩
      case measure => simp [intOf]; omega
    · obtain rfl : rn = j := by omega
      have h0 : ¬ (0 : Int) < (rn : Int) - rn := by omega
      have hg := (hown.lt g rfl).1
      obtain ⟨y, hy, hm⟩ := at_lastK hy1
      have hy2 := HU.out y hm
      have HY := Lib.hid hy
      have HY1 := Lib.hid hy1
      have HO := Lib.hid hown
      have HGR := Lib.hid ho
      have hsz := ho.size
      clear hown hy1 ho hy hm O1 S1 G1 U0 HU
      go_wp2_with fail
      refine (l01Next_any G B xs _ _ (by omega) hs).mono ?_
      rintro e w2 ⟨r, rfl, _, _, s2, o2⟩
      have O2 := Lib.hid (own_pastv HO.out HG o2)
      have G2 := Lib.hid (only_trans HGR.out o2)
      have hsz2 := o2.size
      have HG2 := s2.lt
      clear o2 hs HO HGR
      by_cases hr : r = 0
      · have t := beq_t hr
        have hc := O2.out.cellAt rn (by omega)
        rw [ints_at HY.out] at hc
        clear hr
        go_wp2_with fail
        refine (l01Pick_any G B xs _ 3 _ _ [0, y + 2, -1] _ (s2.alloc _) (Row.new w2 _ (ints [0, y + 2, -1])) (fun b o e => by injection e with e; injection e with e1; omega) rfl (by omega) (by omega)).mono ?_
        rintro e w3 ⟨v, rfl, hv, s3, o3⟩
        have O3 := Lib.hid (own_pastv (O2.out.alloc _) HG o3)
        have G3 := Lib.hid (only_trans (only_alloc G2.out _) o3)
        have S3 := Lib.hid s3
        have HR' := Lib.hid (ints_snocK ys v)
        have hsz3 := o3.size
        have hgw : g < w3.heap.size := (O3.out.lt g rfl).2
        clear s3 o3 hv hc O2 G2 s2
        go_wp2_with (at_builtin; refine wpList_append_lies _ rfl (.tmp 31) (.tmp 42) 25 rfl w.heap.size 2 i0 _ 1 8 Tryz.underlying25 hi hz0 hz1 hz2 rfl (by omega) (.slice (some ⟨g, 0, none⟩) (rn + 1) cap) (rn + 1) (ints ys) rfl (O3.out.alloc _) ⟨w3.heap.size, 0, none⟩ 1 1 [.int .i64 v] rfl rfl (World.news_of_block (cs := #[.int .i64 v]) (heap_alloc_new _ _)) (by simp [Value.oneCell']) (by omega) (by simp only [maxLen]; omega) (by omega) (by simp; omega) (w3.heap.size + 1) (by simp) ?_; intro g4 cap4 w4 hown4 hgrow4 hat4 hlt4)
        rw [HR'.out] at hown4
        have HD : Hid (DrawnL (fun ys => ys.length ≤ most + 1) 83 G B xs w (.returned (.slice (some ⟨g4, 0, none⟩) (rn + 1 + 1) cap4)) w4) := ⟨g4, cap4, _, _, rfl, by simp [HY1.out], by simp [HY1.out]; omega, hown4, (S3.out.alloc (.cells #[.int .i64 v] 2)).only (g := g) hgrow4 (by omega) (by omega), only_row (only_alloc G3.out _) hgrow4 hg⟩
        clear hown4 hgrow4 hat4 O3 G3 S3
        go_wp2
        go_ret
        exact HD.out
      · have t := beq_f hr
        have HD : Hid (DrawnL (fun ys => ys.length ≤ most + 1) 83 G B xs w (.returned (.slice (some ⟨g, 0, none⟩) (rn + 1) cap)) w2) := ⟨g, cap, _, _, rfl, HY1.out, by show ys.length ≤ _; rw [HY1.out]; omega, O2.out, s2, G2.out⟩
        clear hr O2 G2 s2
        go_wp2
        go_ret
        exact HD.out
end Go.Proofs.YtpngohklicgbjaaGreat
/-
  A row of a list of lists grows in its place.
-/
namespace Go.Proofs.YtpngohklicgbjaaGreat
open Go.RowKit Fld
set_option linter.unusedVariables false
set_option linter.unusedSimpArgs false
set_option maxRecDepth 100000

theorem OwnMat.grow_row {w w' : World} {lo hi n g cap i g5 c5 c : Nat} {A : Option Addr} {m : List (List Int)} {vs : List Value} {row : List Int} {x : Int} (h : OwnMat w lo hi (.slice (some ⟨g, 0, none⟩) n cap) n m vs) (hs : hi ≤ w.heap.size)
    (hi' : m[i]? = some row) (hv : vs[i]? = some (.slice A row.length c)) (o : w'.ownsRow lo 2 1 (.slice (some ⟨g5, 0, none⟩) (row.length + 1) c5) (row.length + 1) (ints (row ++ [x])))
    (hg : w.grownBy w' (Value.ownBlock (.slice A row.length c))) (hat : Value.ownBlock (.slice A row.length c) = some g5 ∨ hi ≤ g5) (hlt : g5 < w'.heap.size) :
    OwnMat (w'.setCell ⟨g, i, none⟩ (.slice (some ⟨g5, 0, none⟩) (row.length + 1) c5)) lo w'.heap.size (.slice (some ⟨g, 0, none⟩) n cap) n (m.set i (row ++ [x])) (vs.set i (.slice (some ⟨g5, 0, none⟩) (row.length + 1) c5)) := by
  have hil : i < m.length := by
    rcases Nat.lt_or_ge i m.length with q | q
    · exact q
    · rw [List.getElem?_eq_none q] at hi'; cases hi'
  have hsz := hg.size
  obtain ⟨A0, c0, e0, o0⟩ := h.inner i row hi'
  rw [hv] at e0
  injection e0 with e0
  injection e0 with eA eq ec
  subst eA ec
  have outer := h.outer.grown hg (own_types h.outer.1 o0.1 (by decide))
  have hst := outer.1.stored i (.slice (some ⟨g5, 0, none⟩) (row.length + 1) c5)
  have el : (row ++ [x]).length = row.length + 1 := by rw [List.length_append]; rfl
  refine ⟨⟨hst.1, fun g' e => by have := outer.2 g' e; omega⟩, by rw [List.length_set, List.length_set]; exact h.len, ?_, ?_⟩
  · intro s r hr
    by_cases his : i = s
    · subst his
      rw [List.getElem?_set_self hil] at hr
      injection hr with hr
      subst hr
      refine ⟨some ⟨g5, 0, none⟩, c5, by rw [List.getElem?_set_self (by rw [h.len]; exact hil), el], ?_⟩
      rw [el]
      exact (OwnR.of o).grown hst.2 (own_types o outer.1 (by decide))
    · rw [List.getElem?_set_ne his] at hr
      obtain ⟨A2, c2, e2, o2⟩ := h.inner s r hr
      have o3 : OwnR w' lo hi 2 (.slice A2 r.length c2) r.length (ints r) := o2.grown hg (by
        cases hb : Value.ownBlock (.slice A2 r.length c2) with
        | none => exact .inl rfl
        | some q => exact .inr (fun e => h.apart s i _ _ q (Ne.symm his) e2 hv hb e.symm))
      exact ⟨A2, c2, by rw [List.getElem?_set_ne his]; exact e2, (o3.more (Nat.le_refl _) (by omega)).grown hst.2 (own_types o3.1 outer.1 (by decide))⟩
  · have key : ∀ s t g', i ≠ s → vs[s]? = some t → t.ownBlock = some g' → g' ≠ g5 := by
      intro s t g' hne ht hb e
      subst e
      have hsl : s < m.length := by
        rcases Nat.lt_or_ge s m.length with q | q
        · exact q
        · rw [List.getElem?_eq_none (by rw [h.len]; exact q)] at ht; cases ht
      obtain ⟨A2, c2, e2, o2⟩ := h.inner s _ (List.getElem?_eq_getElem hsl)
      rw [ht] at e2
      injection e2 with e2
      subst e2
      rcases hat with q | q
      · exact h.apart i s _ _ g' hne hv ht q hb
      · have := o2.2 g' hb; omega
    intro r s u t g' hne hu ht hb hb'
    by_cases hir : i = r
    · subst hir
      rw [List.getElem?_set_self (by rw [h.len]; exact hil)] at hu
      rw [List.getElem?_set_ne hne] at ht
      injection hu with hu
      subst hu
      have e5 : g5 = g' := by simpa [Value.ownBlock] using hb
      exact key s t g' hne ht hb' e5.symm
    · rw [List.getElem?_set_ne hir] at hu
      by_cases his : i = s
      · subst his
        rw [List.getElem?_set_self (by rw [h.len]; exact hil)] at ht
        injection ht with ht
        subst ht
        have e5 : g5 = g' := by simpa [Value.ownBlock] using hb'
        exact key r u g' hir hu hb e5.symm
      · rw [List.getElem?_set_ne his] at ht
        exact h.apart r s u t g' hne hu ht hb hb'
end Go.Proofs.YtpngohklicgbjaaGreat
/-
  Draws of tableaus, and seldom of something that is none.
-/
namespace Go.Proofs.YtpngohklicgbjaaGreat
open Go.RowKit Fld
set_option linter.unusedVariables false
set_option linter.unusedSimpArgs false
set_option maxRecDepth 100000

/-- whatever happens off the blocks from lo on, P stays -/
def Keeps (lo : Nat) (w' : World) (P : World → Prop) : Prop := ∀ W : World, w'.heap.size ≤ W.heap.size → (∀ g, lo ≤ g → g < w'.heap.size → W.heap[g]? = w'.heap[g]?) → P W
def TabP (A D : Option Addr) (m : List (List Int)) (b : List Int) (W : World) : Prop := Mat W W.heap.size A m ∧ Row W W.heap.size D (ints b)
/-- a tableau, or something near one, that was drawn -/
def DrawnTx (T : TypeId) (G B : Nat) (xs : List Int) (w : World) (e : Ending) (w' : World) : Prop :=
  ∃ A n c D n' d m b, e = .returned (.agg #[.slice A n c, .slice D n' d]) ∧ (m.length = n ∧ b.length = n') ∧ (n ≤ 8 ∧ n' ≤ 9) ∧ (n ≤ c ∧ n' ≤ d) ∧ Keeps w.heap.size w' (TabP A D m b) ∧ Src w' T G B xs ∧ w.grownBy w' (some G)
structure TS (w : World) (xb n : Nat) (A : Option Addr) (c : Nat) (m : List (List Int)) (vs : List Value) (D : Option Addr) (d : Nat) (b : List Int) (wr : World) : Prop where
  box : Bx wr xb 27 (.slice A n c) (.slice D n d)
  res : Bx wr w.heap.size 27 (.slice none 0 0) (.slice none 0 0)
  mat : OwnMat wr (w.heap.size + 1) xb (.slice A n c) n m vs
  row : OwnR wr (w.heap.size + 1) xb 2 (.slice D n d) n (ints b)
  ap : ApartK vs (.slice D n d)
  lo : w.heap.size < xb
section
variable {w wr wr' : World} {xb n c d G B : Nat} {A D : Option Addr} {m : List (List Int)} {vs : List Value} {b xs : List Int} {T : TypeId}
theorem TS.keep (h : TS w xb n A c m vs D d b wr) (hk : ∀ g, w.heap.size ≤ g → g ≤ xb → wr'.heap[g]? = wr.heap[g]?) : TS w xb n A c m vs D d b wr' := by
  have h1 := h.lo
  exact ⟨(hk xb (by omega) (Nat.le_refl _)).trans h.box, (hk _ (Nat.le_refl _) (by omega)).trans h.res, h.mat.keep (fun g a b => hk g (by omega) (by omega)), h.row.keep (fun g a b => hk g (by omega) (by omega)), h.ap, h1⟩
theorem TS.only (h : TS w xb n A c m vs D d b wr) (o : wr.grownBy wr' (some G)) (hG : G < w.heap.size) : TS w xb n A c m vs D d b wr' :=
  h.keep (fun g a b => o.block g (by have := h.box.lt; omega) (fun e => by have := Option.some.inj e; omega))
theorem TS.keeps (h : TS w xb n A c m vs D d b wr) : Keeps (w.heap.size + 1) wr (TabP A D m b) := fun W hz hW => by
  have h1 := h.box.lt
  exact ⟨(h.mat.keep (w' := W) (fun g a b => hW g a (by omega))).mat.more (by omega), (h.row.keep (w' := W) (fun g a b => hW g a (by omega))).row.more (by omega)⟩
theorem own_ne_box {lo k g : Nat} {cap q : Nat} {us : List Value} {u v : Value} (h : wr.ownsRow lo 2 1 (.slice (some ⟨g, 0, none⟩) q cap) q us) (hb : Bx wr k 27 u v) : g ≠ k := by
  rcases h.2 with ⟨e, _⟩ | ⟨g', cap', cur, e, _, hg, _⟩
  · cases e
  · injection e with e
    injection e with e
    injection e with e
    subst e
    intro e2
    subst e2
    unfold Bx at hb
    rw [hb] at hg
    injection hg with hg
    injection hg with _ ht
    exact absurd ht (by decide)
theorem TS.appB {w6 : World} {o : Obj} {g5 cap5 : Nat} (h : TS w xb n A c m vs D d b wr) (ho : w6.ownsRow (w.heap.size + 1) 2 1 (.slice (some ⟨g5, 0, none⟩) (n + 1) cap5) (n + 1) (ints (b ++ [1]))) (hg : (wr.alloc o).grownBy w6 (Value.ownBlock (.slice D n d))) :
    Bx (w6.setCell ⟨xb, 1, none⟩ (.slice (some ⟨g5, 0, none⟩) (n + 1) cap5)) xb 27 (.slice A n c) (.slice (some ⟨g5, 0, none⟩) (n + 1) cap5) ∧ Bx (w6.setCell ⟨xb, 1, none⟩ (.slice (some ⟨g5, 0, none⟩) (n + 1) cap5)) w.heap.size 27 (.slice none 0 0) (.slice none 0 0) ∧
      Keeps (w.heap.size + 1) (w6.setCell ⟨xb, 1, none⟩ (.slice (some ⟨g5, 0, none⟩) (n + 1) cap5)) (TabP A (some ⟨g5, 0, none⟩) m (b ++ [1])) ∧ Below (w.heap.size + 1) wr (w6.setCell ⟨xb, 1, none⟩ (.slice (some ⟨g5, 0, none⟩) (n + 1) cap5)) := by
  have h1 := h.lo
  have h2 := h.box.lt
  have hz : wr.heap.size + 1 ≤ w6.heap.size := by have := hg.size; simpa using this
  have hs : (w6.setCell ⟨xb, 1, none⟩ (.slice (some ⟨g5, 0, none⟩) (n + 1) cap5)).heap.size = w6.heap.size := by simp [World.setCell]
  have hal : Below wr.heap.size wr (wr.alloc o) := (Below.refl _ _).alloc (Nat.le_refl _) _
  have hB : Below (w.heap.size + 1) wr w6 := ((Below.refl (w.heap.size + 1) wr).alloc (by omega) o).grown hg (by simp; omega) (fun q hq => (h.row.1.lt q hq).1)
  have hbx : Bx w6 xb 27 (.slice A n c) (.slice D n d) := (hg.block xb (by simp; omega) (fun e => by have := h.row.2 xb e.symm; omega)).trans (h.box.next hal)
  have hres : Bx w6 w.heap.size 27 (.slice none 0 0) (.slice none 0 0) := (hB.block _ (by omega)).trans h.res
  have hne := own_ne_box ho hbx
  have hset : ∀ g, g ≠ xb → (w6.setCell ⟨xb, 1, none⟩ (.slice (some ⟨g5, 0, none⟩) (n + 1) cap5)).heap[g]? = w6.heap[g]? := fun g hg2 => Below.heap_setCell _ _ _ _ hg2
  have hm1 := h.mat.below hal (by omega)
  have hr1 := h.row.below hal (by omega)
  have hM : OwnMat w6 (w.heap.size + 1) xb (.slice A n c) n m vs := ⟨hm1.outer.grown hg (own_types hm1.outer.1 hr1.1 (by decide)), hm1.len, fun r row hr => by
    obtain ⟨A2, c2, e1, o1⟩ := hm1.inner r row hr
    refine ⟨A2, c2, e1, o1.grown hg ?_⟩
    cases hob : (Value.slice A2 row.length c2).ownBlock with
    | none => exact .inl rfl
    | some q => exact .inr (fun e => h.ap _ (List.mem_of_getElem? e1) q hob e.symm), hm1.apart⟩
  have hO : OwnR w6 (w.heap.size + 1) w6.heap.size 2 (.slice (some ⟨g5, 0, none⟩) (n + 1) cap5) (n + 1) (ints (b ++ [1])) := OwnR.of ho
  refine ⟨heap_setK hbx _, (hset _ (by omega)).trans hres, fun W hzW hW => ⟨?_, ?_⟩, hB.setCell (p := ⟨xb, 1, none⟩) (by show w.heap.size + 1 ≤ xb; omega) _⟩
  · exact (hM.keep (w' := W) (fun g a b => (hW g a (by omega)).trans (hset g (by omega)))).mat.more (by omega)
  · have hg5 := (ho.lt g5 rfl)
    refine Row.more (B := w6.heap.size) ?_ (by omega)
    intro k v hv
    obtain ⟨b2, o2, e, hb, hc⟩ := hO.row k v hv
    injection e with e
    injection e with e1 e2
    subst e1 e2
    refine ⟨_, _, rfl, hb, ?_⟩
    rw [← hc]
    exact World.cell?_of_block (a := ⟨g5, 0 + k, none⟩) ((hW g5 hg5.1 (by rw [hs]; exact hg5.2)).trans (hset g5 hne))
theorem mat_drop {W : World} {S : Nat} (h : Mat W S A m) (hc : c = 1 → m.length ≤ 1) : Mat W S (if c = 1 then A else Option.map (fun x : Addr => { block := x.block, off := x.off + 1 }) A) (m.drop 1) := fun k r hr => by
  rw [List.getElem?_drop] at hr
  obtain ⟨b, o, Ak, ck, e, h1, h2, h3⟩ := h (1 + k) r hr
  have hk : 1 + k < m.length := (List.getElem?_eq_some_iff.1 hr).1
  rw [if_neg (fun e => by have := hc e; omega)]
  subst e
  exact ⟨b, o + 1, Ak, ck, rfl, h1, by rw [show o + 1 + k = o + (1 + k) by omega]; exact h2, h3⟩
theorem TS.setA (h : TS w xb n A c m vs D d b wr) (v : Value) : Bx (wr.setCell ⟨xb, 0, none⟩ v) xb 27 v (.slice D n d) ∧ Bx (wr.setCell ⟨xb, 0, none⟩ v) w.heap.size 27 (.slice none 0 0) (.slice none 0 0) ∧ Keeps (w.heap.size + 1) (wr.setCell ⟨xb, 0, none⟩ v) (TabP A D m b) ∧ Below (w.heap.size + 1) wr (wr.setCell ⟨xb, 0, none⟩ v) := by
  have h1 := h.lo
  have h2 := h.box.lt
  have hs : (wr.setCell ⟨xb, 0, none⟩ v).heap.size = wr.heap.size := by simp [World.setCell]
  have hset : ∀ g, g ≠ xb → (wr.setCell ⟨xb, 0, none⟩ v).heap[g]? = wr.heap[g]? := fun g hg2 => Below.heap_setCell _ _ _ _ hg2
  refine ⟨heap_setK h.box _, (hset _ (by omega)).trans h.res, fun W hz hW => ⟨?_, ?_⟩, (Below.refl _ _).setCell (p := ⟨xb, 0, none⟩) (by show w.heap.size + 1 ≤ xb; omega) _⟩
  · exact (h.mat.keep (w' := W) (fun g a b => (hW g a (by omega)).trans (hset g (by omega)))).mat.more (by omega)
  · exact (h.row.keep (w' := W) (fun g a b => (hW g a (by omega)).trans (hset g (by omega)))).row.more (by omega)
theorem cell_othK {w : World} {b g k : Nat} {o : Nat} {v x : Value} (h : w.cell? ⟨b, o, none⟩ = some x) (hne : b ≠ g) : (w.setCell ⟨g, k, none⟩ v).cell? ⟨b, o, none⟩ = some x :=
  (World.cell?_of_block (heap_setCell_other w ⟨g, k, none⟩ b v hne)).trans h
theorem TS.rowAt {k q g0 cg : Nat} {r0 : List Int} (h : TS w xb n A c m vs D d b wr) (hv : vs[k]? = some (.slice (some ⟨g0, 0, none⟩) q cg)) (hr : m[k]? = some r0) (hq : r0.length = q) : OwnR wr (w.heap.size + 1) xb 2 (.slice (some ⟨g0, 0, none⟩) q cg) q (ints r0) := by
  obtain ⟨A2, c2, e1, o1⟩ := h.mat.inner k r0 hr
  rw [hv] at e1
  injection e1 with e1
  injection e1 with e1 e2 e3
  subst e1 e3 hq
  exact o1
theorem TS.setRow {k j q g0 cg : Nat} {r0 : List Int} (h : TS w xb n A c m vs D d b wr) (hv : vs[k]? = some (.slice (some ⟨g0, 0, none⟩) q cg)) (hr : m[k]? = some r0) (hq : r0.length = q) (v : Int) : TS w xb n A c (m.set k (r0.set j v)) vs D d b (wr.setCell ⟨g0, j, none⟩ (.int .i64 v)) := by
  have o1 := h.rowAt hv hr hq
  obtain ⟨st, gr⟩ := o1.1.stored j (.int .i64 v)
  rw [ints_put] at st
  have hg0 := o1.2 g0 rfl
  have hg1 := (o1.1.lt g0 rfl).1
  have h1 := h.lo
  have hset : ∀ g, g ≠ g0 → (wr.setCell ⟨g0, j, none⟩ (.int .i64 v)).heap[g]? = wr.heap[g]? := fun g hg2 => Below.heap_setCell _ _ _ _ hg2
  exact ⟨(hset _ (by omega)).trans h.box, (hset _ (by omega)).trans h.res, h.mat.set_row hv (by rw [List.length_set]; exact hq) st gr, h.row.grown gr (.inr (h.ap _ (List.mem_of_getElem? hv) g0 rfl)), h.ap, h1⟩
theorem TS.growRow {wa w3 : World} {g0 cg gA g3 cap3 : Nat} {r0 : List Int} {x : Int} (h : TS w xb r0.length (some ⟨gA, 0, none⟩) c m vs D d b wa) (hr : m[0]? = some r0) (hv : vs[0]? = some (.slice (some ⟨g0, 0, none⟩) r0.length cg)) (o : w3.ownsRow (w.heap.size + 1) 2 1 (.slice (some ⟨g3, 0, none⟩) (r0.length + 1) cap3) (r0.length + 1) (ints (r0 ++ [x])))
    (hg : wa.grownBy w3 (Value.ownBlock (.slice (some ⟨g0, 0, none⟩) r0.length cg))) (hat : Value.ownBlock (.slice (some ⟨g0, 0, none⟩) r0.length cg) = some g3 ∨ xb ≤ g3) (hlt : g3 < w3.heap.size) :
    Bx (w3.setCell ⟨gA, 0, none⟩ (.slice (some ⟨g3, 0, none⟩) (r0.length + 1) cap3)) xb 27 (.slice (some ⟨gA, 0, none⟩) r0.length c) (.slice D r0.length d) ∧ Bx (w3.setCell ⟨gA, 0, none⟩ (.slice (some ⟨g3, 0, none⟩) (r0.length + 1) cap3)) w.heap.size 27 (.slice none 0 0) (.slice none 0 0) ∧
      Keeps (w.heap.size + 1) (w3.setCell ⟨gA, 0, none⟩ (.slice (some ⟨g3, 0, none⟩) (r0.length + 1) cap3)) (TabP (some ⟨gA, 0, none⟩) D (m.set 0 (r0 ++ [x])) b) ∧ Below (w.heap.size + 1) wa (w3.setCell ⟨gA, 0, none⟩ (.slice (some ⟨g3, 0, none⟩) (r0.length + 1) cap3)) := by
  have h1 := h.lo
  have h2 := h.box.lt
  have hg0 := (h.rowAt hv hr rfl).2 g0 rfl
  have hg1 := ((h.rowAt hv hr rfl).1.lt g0 rfl).1
  have hA0 := h.mat.outer.2 gA rfl
  have hA1 := (h.mat.outer.1.lt gA rfl).1
  have hz := hg.size
  have hs : (w3.setCell ⟨gA, 0, none⟩ (.slice (some ⟨g3, 0, none⟩) (r0.length + 1) cap3)).heap.size = w3.heap.size := by simp [World.setCell]
  have hM := h.mat.grow_row (by omega) hr hv o hg hat hlt
  have hO := h.mat.outer.1.kept hg (own_types h.mat.outer.1 (h.rowAt hv hr rfl).1 (by decide))
  have hst := (hO.stored 0 (.slice (some ⟨g3, 0, none⟩) (r0.length + 1) cap3)).2
  have hD : OwnR w3 (w.heap.size + 1) xb 2 (.slice D r0.length d) r0.length (ints b) := h.row.grown hg (.inr (h.ap _ (List.mem_of_getElem? hv) g0 rfl))
  have hD2 := hD.grown hst (own_types hD.1 hO (by decide))
  have hset : ∀ g, g ≠ gA → (w3.setCell ⟨gA, 0, none⟩ (.slice (some ⟨g3, 0, none⟩) (r0.length + 1) cap3)).heap[g]? = w3.heap[g]? := fun g hg2 => Below.heap_setCell _ _ _ _ hg2
  have hBl : Below (w.heap.size + 1) wa w3 := (Below.refl (w.heap.size + 1) wa).grown hg (by omega) (fun q hq => by cases hq; exact hg1)
  refine ⟨(hset _ (by omega)).trans ((hg.block xb h2 (fun e => by have e2 : xb = g0 := Option.some.inj e; omega)).trans h.box), (hset _ (by omega)).trans ((hBl.block _ (by omega)).trans h.res), fun W hzW hW => ⟨?_, ?_⟩, hBl.setCell (p := ⟨gA, 0, none⟩) hA1 _⟩
  · exact (hM.keep (w' := W) (fun g a b => hW g a (by omega))).mat.more (by omega)
  · exact (hD2.keep (w' := W) (fun g a b => hW g a (by omega))).row.more (by omega)
/-- the box is read into the result -/
theorem tx_done {P : World → Prop} {n' : Nat} (hr : Bx wr w.heap.size 27 (.slice none 0 0) (.slice none 0 0)) (hP : Keeps (w.heap.size + 1) wr (TabP A D m b)) (hl : m.length = n ∧ b.length = n') (h8 : n ≤ 8 ∧ n' ≤ 9) (hc : n ≤ c ∧ n' ≤ d) (s : Src wr T G B xs) (o : w.grownBy wr (some G)) (hB : B ≤ w.heap.size) (hG : G < w.heap.size) :
    DrawnTx T G B xs w (.returned (.agg #[.slice A n c, .slice D n' d])) ((wr.setCell ⟨w.heap.size, 0, none⟩ (.slice A n c)).setCell ⟨w.heap.size, 1, none⟩ (.slice D n' d)) ∧ Bx ((wr.setCell ⟨w.heap.size, 0, none⟩ (.slice A n c)).setCell ⟨w.heap.size, 1, none⟩ (.slice D n' d)) w.heap.size 27 (.slice A n c) (.slice D n' d) := by
  have hs : ((wr.setCell ⟨w.heap.size, 0, none⟩ (.slice A n c)).setCell ⟨w.heap.size, 1, none⟩ (.slice D n' d)).heap.size = wr.heap.size := by simp [World.setCell]
  have hk : ∀ g, w.heap.size + 1 ≤ g → ((wr.setCell ⟨w.heap.size, 0, none⟩ (.slice A n c)).setCell ⟨w.heap.size, 1, none⟩ (.slice D n' d)).heap[g]? = wr.heap[g]? := fun g hg => by
    rw [Below.heap_setCell _ _ _ _ (by show g ≠ w.heap.size; omega), Below.heap_setCell _ _ _ _ (by show g ≠ w.heap.size; omega)]
  refine ⟨⟨A, n, c, D, n', d, m, b, rfl, hl, h8, hc, fun W hz hW => hP W (by omega) (fun g a b => (hW g (by omega) (by omega)).trans (hk g a)), (s.put (g := w.heap.size) (by omega) hB).put (g := w.heap.size) (by omega) hB, only_put (g := w.heap.size) (only_put (g := w.heap.size) o (Nat.le_refl _)) (Nat.le_refl _)⟩, hr.stored _ _⟩
end
set_option maxHeartbeats 8000000 in
theorem l09Spoil_any (G B : Nat) (xs : List Int) (most : Nat) (w : World) (h1 : 1 ≤ most) (h8 : most ≤ 8) (s : Src w 83 G B xs) :
    Calls Tryz.prog 23 #[.pointer (some ⟨G, 0, none⟩), .int .i64 most] w (DrawnTx 83 G B xs w) := by
  obtain ⟨i0, hi, hz0, hz1, hz2⟩ := info_parts info_i64
  have HG := s.lt
  have HBG := s.base
  have HS := Lib.hid (s.alloc (.cells #[.slice none 0 0, .slice none 0 0] 27))
  have HR : Hid (Bx (w.alloc (.cells #[.slice none 0 0, .slice none 0 0] 27)) w.heap.size 27 (.slice none 0 0) (.slice none 0 0)) := Bx.new _ _ _ _
  have HO : Hid (w.grownBy (w.alloc (.cells #[.slice none 0 0, .slice none 0 0] 27)) (some G)) := World.grownBy_alloc w _ _
  obtain ⟨W0, hW0⟩ : ∃ W0, W0 = w.alloc (.cells #[.slice none 0 0, .slice none 0 0] 27) := ⟨_, rfl⟩
  have z0 : W0.heap.size = w.heap.size + 1 := by rw [hW0]; simp
  rw [← hW0] at HS HR HO
  clear s
  go_enter Tryz.func23, Tryz.ntmps23
  go_wp2_with fail
  rw [← hW0]
  clear hW0
  refine (l09Draw_any G B xs most W0 h1 h8 HS.out).mono ?_
  rintro e w1 ⟨n, A, c, vs, m, D, d, b, rfl, ⟨hn1, hn8⟩, ⟨hml, hbl⟩, hw, own1, ownB, hap, s1, o1⟩
  obtain ⟨xb, hxb⟩ : ∃ xb, xb = w1.heap.size := ⟨_, rfl⟩
  have hz1' := o1.size
  have R1 : Bx w1 w.heap.size 27 (.slice none 0 0) (.slice none 0 0) := (o1.block _ HR.out.lt (fun e => by have := Option.some.inj e; omega)).trans HR.out
  have hbel : Below w1.heap.size w1 (w1.alloc (.cells #[.slice A n c, .slice D n d] 27)) := (Below.refl _ _).alloc (Nat.le_refl _) _
  have T1 : Hid (TS w xb n A c m vs D d b (w1.alloc (.cells #[.slice A n c, .slice D n d] 27))) := by
    subst hxb
    rw [z0] at own1 ownB
    exact ⟨Bx.new _ _ _ _, R1.next hbel, own1.below hbel (Nat.le_refl _), ownB.below hbel (Nat.le_refl _), hap, R1.lt⟩
  have S1 := Lib.hid (s1.alloc (.cells #[.slice A n c, .slice D n d] 27))
  have O1 := Lib.hid (only_alloc (only_trans HO.out o1) (.cells #[.slice A n c, .slice D n d] 27))
  have HML := Lib.hid hml
  have HBL := Lib.hid hbl
  have hcc := own_cap own1.outer.1
  have hcd := own_cap ownB.1
  have hcm : c ≤ maxLen := hcc.2
  have hdm : d ≤ maxLen := hcd.2
  clear HS HR HO own1 ownB hap s1 o1 hml hbl R1 hbel
  go_wp2_with fail
  rw [← hxb]
  clear hxb
  refine (l01Next_any G B xs _ _ (by omega) S1.out).mono ?_
  rintro e w2 ⟨r, rfl, r0, r1, s2, o2⟩
  have T2 := Lib.hid (T1.out.only o2 HG)
  have O2 := Lib.hid (only_trans O1.out o2)
  have S2 := Lib.hid s2
  clear s2 o2 T1 O1 S1
  rcases (show r = 0 ∨ r = 1 ∨ r = 2 ∨ r = 3 ∨ r = 4 ∨ 5 ≤ r by omega) with rfl | rfl | rfl | rfl | rfl | hr
  · have b1 := T2.out.box.c1
    have zl := T2.out.lo
    have zt := T2.out.box.lt
    have hownB := T2.out.row.1
    have HS := Lib.hid (ints_snocK b 1)
    go_upto_region 13 with (at_builtin; refine wpList_append_lies _ rfl (.tmp 14) (.tmp 15) 25 rfl (w.heap.size + 1) 2 i0 _ 1 8 Tryz.underlying25 hi hz0 hz1 hz2 rfl (by omega) (.slice D n d) n (ints b) rfl (hownB.alloc _) ⟨w2.heap.size, 0, none⟩ 1 1 [.int .i64 1] rfl rfl (World.news_of_block (cs := #[.int .i64 1]) (heap_alloc_new _ _)) (by simp [Value.oneCell']) (by omega) (by simp only [maxLen]; omega) (by omega) (by simp; omega) (w2.heap.size + 1) (by simp) ?_; intro g5 cap5 w6 hown5 hgrow5 hat5 hlt5; have hb6 : Bx w6 xb 27 (.slice A n c) (.slice D n d) := (hgrow5.block xb (by simp; omega) (fun e => by have := T2.out.row.2 xb e.symm; omega)).trans (T2.out.box.next ((Below.refl _ _).alloc (Nat.le_refl _) _)); have k6 := hb6.c1; have f6 := hb6.free 1)
    rw [HS.out] at hown5
    obtain ⟨hb3, hr3, hP3, hBL⟩ := T2.out.appB hown5 hgrow5
    have hl3 : m.length = n ∧ (b ++ [1]).length = n + 1 := ⟨HML.out, by simp [HBL.out]⟩
    have h83 : n ≤ 8 ∧ n + 1 ≤ 9 := by omega
    have hc3 : n ≤ c ∧ n + 1 ≤ cap5 := ⟨hcc.1, (own_cap hown5).1⟩
    have s3 := S2.out.belowK hBL (by omega) (by omega)
    have o3 := grown_belowK O2.out hBL (by omega)
    obtain ⟨W6, hW6⟩ : ∃ W6, W6 = w6.setCell ⟨xb, 1, none⟩ (.slice (some ⟨g5, 0, none⟩) (n + 1) cap5) := ⟨_, rfl⟩
    rw [← hW6] at hb3 hr3 hP3 s3 o3 ⊢
    clear hW6 b1 hb6 k6 f6 hown5 hgrow5 hat5 hBL hownB HS
    obtain ⟨hT, hX⟩ := tx_done (P := fun _ => True) hr3 hP3 hl3 h83 hc3 s3 o3 (by omega) HG
    have HT := Lib.hid hT
    have HX := Lib.hid hX
    have x0 := hb3.c0
    have x1 := hb3.c1
    have q0 := hr3.c0
    have q1 := hr3.c1
    have f0 := hr3.free 0
    have f1 := hr3.free 1
    clear hT hX hb3 hr3 hP3 hl3 h83 hc3 s3 o3
    go_wp2
    all_goals exact bodyPost_ret (v := .agg #[.slice A n c, .slice (some ⟨g5, 0, none⟩) (n + 1) cap5]) (results_cell_row rfl _ _ w.heap.size 27 _ (0, 0) _ rfl HX.out Tryz.underlying27 rfl info_tb) rfl HT.out
  · have zl := T2.out.lo
    have zt := T2.out.box.lt
    obtain ⟨r0, hr0⟩ := at_lt (show 0 < m.length by rw [HML.out]; omega)
    have hr0n : r0.length = n := hw r0 (List.mem_of_getElem? hr0)
    obtain ⟨Ag, cg, hv0, hro⟩ := T2.out.mat.inner 0 r0 hr0
    rw [hr0n] at hv0 hro
    obtain ⟨g0, rfl, hg0, hg0'⟩ : ∃ g0, Ag = some ⟨g0, 0, none⟩ ∧ w.heap.size + 1 ≤ g0 ∧ g0 < xb := by
      rcases hro.1.2 with ⟨e1, e2⟩ | ⟨g, cap, cur, e1, _⟩
      · exfalso; have := own_len hro.1; rw [e2] at this; simp at this; omega
      · injection e1 with e1 _ _
        subst e1
        exact ⟨g, rfl, (hro.1.lt g rfl).1, hro.2 g rfl⟩
    obtain ⟨gA, rfl, hgA, hgA'⟩ : ∃ g0, A = some ⟨g0, 0, none⟩ ∧ w.heap.size + 1 ≤ g0 ∧ g0 < xb := by
      rcases T2.out.mat.outer.1.2 with ⟨e1, e2⟩ | ⟨g, cap, cur, e1, _⟩
      · exfalso; have := own_len T2.out.mat.outer.1; rw [e2] at this; simp at this; omega
      · injection e1 with e1 _ _
        subst e1
        exact ⟨g, rfl, (T2.out.mat.outer.1.lt g rfl).1, T2.out.mat.outer.2 g rfl⟩
    subst hr0n
    have hgne : g0 ≠ gA := fun e => by
      rcases own_types T2.out.mat.outer.1 hro.1 (by decide) with h | h
      · simp [Value.ownBlock] at h
      · exact h (by simp [Value.ownBlock, e])
    have HK : Hid (∀ W, TS w xb r0.length (some ⟨gA, 0, none⟩) c m vs D d b W → W.cell? ⟨xb, 0, none⟩ = some (.slice (some ⟨gA, 0, none⟩) r0.length c) ∧ W.cell? ⟨gA, 0, none⟩ = some (.slice (some ⟨g0, 0, none⟩) r0.length cg) ∧ W.frozen? ⟨gA, 0, none⟩ = false) := fun W h => by
      refine ⟨h.box.c0, ?_, h.mat.outer.1.frozenAt 0⟩
      have := h.mat.outer.1.cellAt 0 (by omega)
      rw [hv0] at this
      exact this
    have TB : Hid (∀ W, Below w2.heap.size w2 W → TS w xb r0.length (some ⟨gA, 0, none⟩) c m vs D d b W) := fun W hb => T2.out.keep (fun g _ h => hb.block g (by omega))
    have HV0 := Lib.hid hv0
    have HR0 := Lib.hid hr0
    have HOW : Hid (∀ W', Below w2.heap.size w2 W' → W'.ownsRow (w.heap.size + 1) 2 1 (.slice (some ⟨g0, 0, none⟩) r0.length cg) r0.length (ints r0)) := fun W' hb => ((TB.out W' hb).rowAt HV0.out HR0.out rfl).1
    have HK2 : Hid (∀ W' W3, Below w2.heap.size w2 W' → W'.grownBy W3 (Value.ownBlock (.slice (some ⟨g0, 0, none⟩) r0.length cg)) → W3.cell? ⟨xb, 0, none⟩ = some (.slice (some ⟨gA, 0, none⟩) r0.length c) ∧ W3.cell? ⟨gA, 0, none⟩ = some (.slice (some ⟨g0, 0, none⟩) r0.length cg) ∧ W3.frozen? ⟨gA, 0, none⟩ = false) := fun W' W3 hb hg => by
      obtain ⟨q1, q2, q3⟩ := HK.out W' (TB.out W' hb)
      have hs := hb.size
      exact ⟨(World.cell?_of_block (hg.block xb (by omega) (fun e => by have e2 : xb = g0 := Option.some.inj e; omega))).trans q1, (World.cell?_of_block (hg.block gA (by omega) (fun e => by have e2 : gA = g0 := Option.some.inj e; exact hgne e2.symm))).trans q2, (World.frozen?_of_block (hg.block gA (by omega) (fun e => by have e2 : gA = g0 := Option.some.inj e; exact hgne e2.symm))).trans q3⟩
    have HIX := Lib.hid (ints_snocK r0 1)
    have hn9 : r0.length ≤ 8 := hn8
    have hrp : 0 < r0.length := by omega
    have hrpI : (0 : Int) < (r0.length : Int) := by omega
    have a0 := (HK.out _ T2.out).1
    have a1 := (HK.out _ T2.out).2.1
    have a2 : (w2.alloc (.cells #[.int .i64 1] 2)).cell? ⟨xb, 0, none⟩ = _ := (HK.out _ (TB.out _ ((Below.refl _ _).alloc (Nat.le_refl _) _))).1
    have a3 : (w2.alloc (.cells #[.int .i64 1] 2)).cell? ⟨gA, 0, none⟩ = _ := (HK.out _ (TB.out _ ((Below.refl _ _).alloc (Nat.le_refl _) _))).2.1
    have a4 : (w2.drew.alloc (.cells #[.int .i64 1] 2)).cell? ⟨xb, 0, none⟩ = _ := (HK.out _ (TB.out _ ((below_drewN (Below.refl _ _) 1).alloc (Nat.le_refl _) _))).1
    have a5 : (w2.drew.alloc (.cells #[.int .i64 1] 2)).cell? ⟨gA, 0, none⟩ = _ := (HK.out _ (TB.out _ ((below_drewN (Below.refl _ _) 1).alloc (Nat.le_refl _) _))).2.1
    clear hv0 hr0 hro
    go_upto_region 6 with fail
    go_region_law (first
      | (refine step_append_lies _ (by rfl) _ _ _ (by rfl) (w.heap.size + 1) 2 i0 _ 1 8 Tryz.underlying25 hi hz0 hz1 hz2 rfl (by omega) (.slice (some ⟨g0, 0, none⟩) r0.length cg) r0.length (ints r0) (by rfl) (HOW.out _ (by exact (below_drewN (Below.refl _ _) _).alloc (Nat.le_refl _) _)) ⟨w2.heap.size, 0, none⟩ 1 1 [.int .i64 1] (by rfl) (by rfl) (World.news_of_block (cs := #[.int .i64 1]) (heap_alloc_new _ _)) (by simp [Value.oneCell']) (by omega) (by simp only [maxLen]; omega) (by omega) (by simp; omega) (w2.heap.size + 1) (by simp) ?_; intro g3 cap3 w3 hown3 hgrow3 hat3 hlt3; have hq3 := HK2.out _ _ ((below_drewN (Below.refl _ _) _).alloc (Nat.le_refl _) _) hgrow3; have hf1 := hq3.1; have hf2 := hq3.2.1; have hf3 := hq3.2.2; clear hq3))
    all_goals
      rw [HIX.out] at hown3
      have hB0 : Below w2.heap.size w2 (w2.alloc (.cells #[.int .i64 1] 2)).drew := ((Below.refl _ _).alloc (Nat.le_refl _) _).drew
      obtain ⟨hb3, hr3, hP3, hBL3⟩ := (TB.out _ hB0).growRow HR0.out HV0.out hown3 hgrow3 (hat3.imp id (fun e => by omega)) hlt3
      have hBL := (hB0.mono (show w.heap.size + 1 ≤ w2.heap.size by omega)).trans hBL3
      have hl3 : (m.set 0 (r0 ++ [1])).length = r0.length ∧ b.length = r0.length := ⟨by rw [List.length_set]; exact HML.out, HBL.out⟩
      have s3 := S2.out.belowK hBL (by omega) (by omega)
      have o3 := grown_belowK O2.out hBL (by omega)
      obtain ⟨W6, hW6⟩ : ∃ W6, W6 = w3.setCell ⟨gA, 0, none⟩ (.slice (some ⟨g3, 0, none⟩) (r0.length + 1) cap3) := ⟨_, rfl⟩
      rw [← hW6] at hb3 hr3 hP3 s3 o3 ⊢
      obtain ⟨hT, hX⟩ := tx_done (P := fun _ => True) hr3 hP3 hl3 ⟨hn8, by omega⟩ ⟨hcc.1, hcd.1⟩ s3 o3 (by omega) HG
      have HT := Lib.hid hT
      have HX := Lib.hid hX
      have x0 := hb3.c0
      have x1 := hb3.c1
      have q0 := hr3.c0
      have q1 := hr3.c1
      have y0 := hr3.free 0
      have y1 := hr3.free 1
      clear hT hX hb3 hr3 hP3 hBL3 hBL s3 o3 hW6 hown3 hgrow3 hat3 hlt3 hf1 hf2 hf3 hB0 a0 a1 a2 a3 a4 a5 HK HK2 TB HOW hl3
      go_wp2
      all_goals exact bodyPost_ret (v := .agg #[.slice (some ⟨gA, 0, none⟩) r0.length c, .slice D r0.length d]) (results_cell_row rfl _ _ w.heap.size 27 _ (0, 0) _ rfl HX.out Tryz.underlying27 rfl info_tb) rfl HT.out
  · have zl := T2.out.lo
    have zt := T2.out.box.lt
    obtain ⟨r0, hr0⟩ := at_lt (show 0 < m.length by rw [HML.out]; omega)
    have hr0n : r0.length = n := hw r0 (List.mem_of_getElem? hr0)
    obtain ⟨Ag, cg, hv0, hro⟩ := T2.out.mat.inner 0 r0 hr0
    rw [hr0n] at hv0 hro
    obtain ⟨g0, rfl, hg0, hg0'⟩ : ∃ g0, Ag = some ⟨g0, 0, none⟩ ∧ w.heap.size + 1 ≤ g0 ∧ g0 < xb := by
      rcases hro.1.2 with ⟨e1, e2⟩ | ⟨g, cap, cur, e1, _⟩
      · exfalso; have := own_len hro.1; rw [e2] at this; simp at this; omega
      · injection e1 with e1 _ _
        subst e1
        exact ⟨g, rfl, (hro.1.lt g rfl).1, hro.2 g rfl⟩
    obtain ⟨gA, rfl, hgA, hgA'⟩ : ∃ g0, A = some ⟨g0, 0, none⟩ ∧ w.heap.size + 1 ≤ g0 ∧ g0 < xb := by
      rcases T2.out.mat.outer.1.2 with ⟨e1, e2⟩ | ⟨g, cap, cur, e1, _⟩
      · exfalso; have := own_len T2.out.mat.outer.1; rw [e2] at this; simp at this; omega
      · injection e1 with e1 _ _
        subst e1
        exact ⟨g, rfl, (T2.out.mat.outer.1.lt g rfl).1, T2.out.mat.outer.2 g rfl⟩
    have HK : Hid (∀ W, TS w xb n (some ⟨gA, 0, none⟩) c m vs D d b W → W.cell? ⟨xb, 0, none⟩ = some (.slice (some ⟨gA, 0, none⟩) n c) ∧ W.cell? ⟨gA, 0, none⟩ = some (.slice (some ⟨g0, 0, none⟩) n cg)) := fun W h => by
      refine ⟨h.box.c0, ?_⟩
      have := h.mat.outer.1.cellAt 0 (by omega)
      rw [hv0] at this
      exact this
    have TB : Hid (∀ W, Below w2.heap.size w2 W → TS w xb n (some ⟨gA, 0, none⟩) c m vs D d b W) := fun W hb => T2.out.keep (fun g _ h => hb.block g (by omega))
    have hgne : gA ≠ g0 := fun e => by
      rcases own_types T2.out.mat.outer.1 hro.1 (by decide) with h | h
      · simp [Value.ownBlock] at h
      · exact h (by simp [Value.ownBlock, e])
    have CP : ∀ W, Src W 83 G B xs → Row W (w2.heap.size + 1) (some ⟨w2.heap.size, 0, none⟩) (ints [-1, 10007]) → Calls Tryz.prog 50 #[.pointer (some ⟨G, 0, none⟩), .slice (some ⟨w2.heap.size, 0, none⟩) 2 2] W (Drawn (· ∈ ([-1, 10007] : List Int)) 83 G B xs W) := fun W hs hr =>
      l01Pick_any G B xs _ 2 _ _ [-1, 10007] W hs hr (fun b o e => by injection e with e; injection e with e1; omega) rfl (by omega) (by omega)
    have HBW : Hid (∀ o, Below w2.heap.size w2 (w2.alloc o).drew) := fun o => ((Below.refl _ _).alloc (Nat.le_refl _) _).drew
    have HV0 := Lib.hid hv0
    have HR0 := Lib.hid hr0
    have HRN := Lib.hid hr0n
    clear hv0 hr0 hr0n hro
    have hrp : 0 < n := by omega
    have hrpI : (0 : Int) < (n : Int) := by omega
    go_upto_region 8 with fail
    go_region_held3 (fun W => W.cell? ⟨xb, 0, none⟩ = some (.slice (some ⟨gA, 0, none⟩) n c) ∧ W.cell? ⟨gA, 0, none⟩ = some (.slice (some ⟨g0, 0, none⟩) n cg))
      (first | exact HK.out _ (TB.out _ (Below.refl _ _).drew) | exact HK.out _ (TB.out _ (below_drewN (Below.refl _ _) _)) | exact HK.out _ (TB.out _ ((below_drewN (Below.refl _ _) _).alloc (Nat.le_refl _) _)) | exact HK.out w3 ((TB.out _ (HBW.out _)).only o3 HG) | (have hz := HK.out w3 ((TB.out _ (HBW.out _)).only o3 HG); exact ⟨cell_othK hz.1 (by omega), cell_othK hz.2 hgne⟩))
      ((go_at_call 50; refine (CP _ (by exact (S2.out.alloc _).belowK (lo := w.heap.size) (below_drewN (Below.refl _ _) 1) HG (by simp; omega)) (by exact Row.new w2 _ (ints [-1, 10007]))).mono ?_; clear CP; rintro e w3 ⟨v, rfl, hv, s3, o3⟩; have hz := ((TB.out _ (HBW.out (.cells #[.int .i64 (-1), .int .i64 10007] 2))).only o3 HG).rowAt HV0.out HR0.out HRN.out; have k6 := hz.1.cellAt 0 (by omega); have f6 := hz.1.frozenAt 0; rw [ints_at (List.getElem?_eq_getElem (show 0 < r0.length by have := HRN.out; omega))] at k6; clear hz))
    all_goals
      have T3 := ((TB.out _ (HBW.out (.cells #[.int .i64 (-1), .int .i64 10007] 2))).only o3 HG).setRow (j := 0) HV0.out HR0.out HRN.out v
      have S3 := s3.put (g := g0) (k := 0) (v := .int .i64 v) (by omega) (by omega)
      have O3 := only_put (g := g0) (k := 0) (v := .int .i64 v) (only_trans (only_drewN (only_alloc O2.out (.cells #[.int .i64 (-1), .int .i64 10007] 2)) 1) o3) (by omega)
      obtain ⟨W6, hW6⟩ : ∃ W6, W6 = w3.setCell ⟨g0, 0, none⟩ (.int .i64 v) := ⟨_, rfl⟩
      rw [← hW6] at T3 S3 O3 ⊢
      obtain ⟨hT, hX⟩ := tx_done (P := fun _ => True) T3.res T3.keeps ⟨by rw [List.length_set]; exact HML.out, HBL.out⟩ ⟨hn8, by omega⟩ ⟨hcc.1, hcd.1⟩ S3 O3 (by omega) HG
      have HT := Lib.hid hT
      have HX := Lib.hid hX
      have x0 := T3.box.c0
      have x1 := T3.box.c1
      have q0 := T3.res.c0
      have q1 := T3.res.c1
      have y0 := T3.res.free 0
      have y1 := T3.res.free 1
      clear hT hX T3 S3 O3 hW6 k6 f6 s3 o3 hv HK TB HBW
      go_wp2
      all_goals exact bodyPost_ret (v := .agg #[.slice (some ⟨gA, 0, none⟩) n c, .slice D n d]) (results_cell_row rfl _ _ w.heap.size 27 _ (0, 0) _ rfl HX.out Tryz.underlying27 rfl info_tb) rfl HT.out
  · have b0 := T2.out.box.c0
    have b1 := T2.out.box.c1
    have bf0 := T2.out.box.free 0
    have bf1 := T2.out.box.free 1
    have hb := T2.out.box.stored (.slice none 0 0) (.slice none 0 0)
    have zl := T2.out.lo
    have hr3 : Bx ((w2.setCell ⟨xb, 0, none⟩ (.slice none 0 0)).setCell ⟨xb, 1, none⟩ (.slice none 0 0)) w.heap.size 27 (.slice none 0 0) (.slice none 0 0) := by
      unfold Bx; rw [Below.heap_setCell _ _ _ _ (by show w.heap.size ≠ xb; omega), Below.heap_setCell _ _ _ _ (by show w.heap.size ≠ xb; omega)]; exact T2.out.res
    have s3 := (S2.out.put (g := xb) (k := 0) (v := .slice none 0 0) (by omega) (by omega)).put (g := xb) (k := 1) (v := .slice none 0 0) (by omega) (by omega)
    have o3 := only_put (g := xb) (k := 1) (v := .slice none 0 0) (only_put (g := xb) (k := 0) (v := .slice none 0 0) O2.out (by omega)) (by omega)
    obtain ⟨W6, hW6⟩ : ∃ W6, W6 = (w2.setCell ⟨xb, 0, none⟩ (.slice none 0 0)).setCell ⟨xb, 1, none⟩ (.slice none 0 0) := ⟨_, rfl⟩
    have hb3 := hb
    rw [← hW6] at hb3 hr3 s3 o3
    have hP3 : Keeps (w.heap.size + 1) W6 (TabP none none [] []) := fun W _ _ => ⟨fun k r hr => by simp at hr, fun k v hv => by simp [ints, intsK] at hv⟩
    have hl3 : ([] : List (List Int)).length = 0 ∧ ([] : List Int).length = 0 := ⟨rfl, rfl⟩
    have h83 : 0 ≤ 8 ∧ 0 ≤ 9 := by omega
    have hc3 : 0 ≤ 0 ∧ 0 ≤ 0 := by omega
    clear hb
    go_upto_region 13 with fail
    rw [← hW6]
    clear hW6 b0 b1 bf0 bf1
    obtain ⟨hT, hX⟩ := tx_done (P := fun _ => True) hr3 hP3 hl3 h83 hc3 s3 o3 (by omega) HG
    have HT := Lib.hid hT
    have HX := Lib.hid hX
    have x0 := hb3.c0
    have x1 := hb3.c1
    have q0 := hr3.c0
    have q1 := hr3.c1
    have f0 := hr3.free 0
    have f1 := hr3.free 1
    clear hT hX hb3 hr3 hP3 hl3 h83 hc3 s3 o3
    go_wp2
    all_goals exact bodyPost_ret (v := .agg #[.slice none 0 0, .slice none 0 0]) (results_cell_row rfl _ _ w.heap.size 27 _ (0, 0) _ rfl HX.out Tryz.underlying27 rfl info_tb) rfl HT.out
  · have b0 := T2.out.box.c0
    have bf0 := T2.out.box.free 0
    have zl := T2.out.lo
    go_upto_region 13 with fail
    obtain ⟨hb3, hr3, hP4, hBL⟩ := T2.out.setA (.slice (if c = 1 then A else Option.map (fun x : Addr => { block := x.block, off := x.off + 1 }) A) (n - 1) (c - 1))
    obtain ⟨A6, hA6⟩ : ∃ A6, A6 = (if c = 1 then A else Option.map (fun x : Addr => { block := x.block, off := x.off + 1 }) A) := ⟨_, rfl⟩
    have hP3 : Keeps (w.heap.size + 1) (w2.setCell ⟨xb, 0, none⟩ (.slice A6 (n - 1) (c - 1))) (TabP A6 D (m.drop 1) b) := fun W hz hW => by
      rw [hA6] at hz hW ⊢
      exact ⟨mat_drop (hP4 W hz hW).1 (fun e => by have := HML.out; omega), (hP4 W hz hW).2⟩
    rw [← hA6] at hb3 hr3 hBL ⊢
    have hl3 : (m.drop 1).length = n - 1 ∧ b.length = n := ⟨by rw [List.length_drop, HML.out], HBL.out⟩
    have h83 : n - 1 ≤ 8 ∧ n ≤ 9 := by omega
    have hc3 : n - 1 ≤ c - 1 ∧ n ≤ d := by omega
    have s3 := S2.out.belowK hBL (by omega) (by have := T2.out.box.lt; omega)
    have o3 := grown_belowK O2.out hBL (by omega)
    obtain ⟨W6, hW6⟩ : ∃ W6, W6 = w2.setCell ⟨xb, 0, none⟩ (.slice A6 (n - 1) (c - 1)) := ⟨_, rfl⟩
    rw [← hW6] at hb3 hr3 hP3 s3 o3 ⊢
    clear hW6 hA6 hP4 hBL b0 bf0
    obtain ⟨hT, hX⟩ := tx_done (P := fun _ => True) hr3 hP3 hl3 h83 hc3 s3 o3 (by omega) HG
    have HT := Lib.hid hT
    have HX := Lib.hid hX
    have x0 := hb3.c0
    have x1 := hb3.c1
    have q0 := hr3.c0
    have q1 := hr3.c1
    have f0 := hr3.free 0
    have f1 := hr3.free 1
    clear hT hX hb3 hr3 hP3 hl3 h83 hc3 s3 o3
    go_wp2
    all_goals exact bodyPost_ret (v := .agg #[.slice A6 (n - 1) (c - 1), .slice D n d]) (results_cell_row rfl _ _ w.heap.size 27 _ (0, 0) _ rfl HX.out Tryz.underlying27 rfl info_tb) rfl HT.out
  · obtain ⟨hT, hX⟩ := tx_done (P := fun _ => True) T2.out.res T2.out.keeps ⟨HML.out, HBL.out⟩ ⟨hn8, by omega⟩ ⟨hcc.1, hcd.1⟩ S2.out O2.out (by omega) HG
    have HT := Lib.hid hT
    have HX := Lib.hid hX
    have b0 := T2.out.box.c0
    have b1 := T2.out.box.c1
    have q0 := T2.out.res.c0
    have q1 := T2.out.res.c1
    have f0 := T2.out.res.free 0
    have f1 := T2.out.res.free 1
    clear hT hX
    go_wp2
    all_goals exact bodyPost_ret (v := .agg #[.slice A n c, .slice D n d]) (results_cell_row rfl _ _ w.heap.size 27 _ (0, 0) _ rfl HX.out Tryz.underlying27 rfl info_tb) rfl HT.out
end Go.Proofs.YtpngohklicgbjaaGreat
/-
  Draws of a tableau and a tree, and of a tableau alone.
-/
namespace Go.Proofs.YtpngohklicgbjaaGreat
open Go.RowKit Fld
set_option linter.unusedVariables false
set_option linter.unusedSimpArgs false
set_option maxRecDepth 100000

theorem results_boxS {P : Program} {fn : Func} {p u : Tmp} {ty : TypeId} (h : fn.results = #[.cell p ty, .tmp u]) (tmps : Array Value) (w : World) (g : Nat) (t : TypeId) (cs : Array Value) (fr : Nat × Nat) (d : TypeDesc) (x : Value)
    (hp : tmps.getD p undef = .pointer (some ⟨g, 0, none⟩)) (hg : w.heap[g]? = some (.cells cs t fr))
    (hu : P.underlying ty = some d) (hd : (match d with | .struct _ | .array _ _ => true | _ => false) = true) (hi : (P.info? ty).map (·.size) = some cs.size) (hx : tmps.getD u undef = x) :
    (results fn tmps).run P w = .ok (.tuple #[.agg cs, x]) w := by
  have hp' : tmps[p]?.getD undef = .pointer (some ⟨g, 0, none⟩) := by simpa using hp
  rw [← hx]
  simp [results, h, hp', asAddr, Sem.run_bind, Result.andThen, run_loadVar_row w g t ty cs fr d hg hu hd hi]
/-- a tableau, or something near one, and a list -/
def DrawnSW (w : World) (e : Ending) (w' : World) : Prop :=
  ∃ A n c D n' d g2 n2 c2 m b t, e = .returned (.tuple #[.agg #[.slice A n c, .slice D n' d], .slice (some ⟨g2, 0, none⟩) n2 c2]) ∧ (m.length = n ∧ b.length = n') ∧ (n ≤ 8 ∧ n' ≤ 9) ∧ (n ≤ c ∧ n' ≤ d) ∧ (t.length = n2 ∧ n2 ≤ 9 ∧ n2 ≤ c2) ∧ Mat w' w'.heap.size A m ∧ Row w' w'.heap.size D (ints b) ∧ Row w' w'.heap.size (some ⟨g2, 0, none⟩) (ints t) ∧ Below w.heap.size w w'
/-- a tableau, or something near one -/
def DrawnTA (w : World) (e : Ending) (w' : World) : Prop :=
  ∃ A n c D n' d m b, e = .returned (.agg #[.slice A n c, .slice D n' d]) ∧ (m.length = n ∧ b.length = n') ∧ (n ≤ 8 ∧ n' ≤ 9) ∧ (n ≤ c ∧ n' ≤ d) ∧ Mat w' w'.heap.size A m ∧ Row w' w'.heap.size D (ints b) ∧ Below w.heap.size w w'
set_option maxHeartbeats 2000000 in
theorem drawStageWeights_any (A0 : Option Addr) (k c0 : Nat) (xs : List Int) (w : World) (hn : k ≤ 4096) (h : IsCode w A0 k xs) : Calls Tryz.prog 6 #[.slice A0 k c0] w (DrawnSW w) := by
  obtain ⟨W0, hW0⟩ : ∃ W0, W0 = w.alloc (.cells #[.slice none 0 0, .slice none 0 0] 27) := ⟨_, rfl⟩
  have HB : Hid (Below w.heap.size w W0) := by rw [hW0]; exact (Below.refl _ _).alloc (Nat.le_refl _) _
  have HX : Hid (Bx W0 w.heap.size 27 (.slice none 0 0) (.slice none 0 0)) := by rw [hW0]; exact Bx.new _ _ _ _
  have hs0 : W0.heap.size = w.heap.size + 1 := by rw [hW0]; simp
  have HC := Lib.hid (h.below HB.out)
  clear h
  go_enter Tryz.func6, Tryz.ntmps6
  go_wp2_with fail
  rw [← hW0]
  clear hW0
  refine (l01From_any A0 k c0 W0.heap.size xs W0 HC.out.1 hn (Nat.le_refl _) HC.out.2.1 HC.out.2.2).mono ?_
  rintro e w1 ⟨G, rfl, hG, s1, b1⟩
  have hz1 := b1.size
  have S1 := Lib.hid s1
  have B1 := Lib.hid (HB.out.trans (b1.mono HB.out.size))
  have X1 := Lib.hid (HX.out.next b1)
  have hGl := s1.lt
  clear s1 b1
  go_wp2_with fail
  refine (l09Spoil_any G _ _ 6 w1 (by omega) (by omega) S1.out).mono ?_
  rintro e w2 ⟨A, n, c, D, n', d, m, b, rfl, hl, h8, hc, hk2, s2, o2⟩
  have hz2 := o2.size
  have S2 := Lib.hid s2
  have K2 := Lib.hid hk2
  have B2 := Lib.hid (below_only B1.out o2 (by omega) (by omega))
  have X2 : Hid (Bx w2 w.heap.size 27 (.slice none 0 0) (.slice none 0 0)) := (o2.block _ X1.out.lt (fun e => by have := Option.some.inj e; omega)).trans X1.out
  clear s2 o2 hk2
  go_wp2_with fail
  refine (l09Tree_any G _ _ 8 w2 (by omega) (by omega) S2.out).mono ?_
  rintro e w3 ⟨g2, c2, n2, t, rfl, htl, ht9, own3, s3, o3⟩
  have hz3 := o3.size
  have P3 := Lib.hid (K2.out w3 hz3 (fun g h1 h2 => o3.block g h2 (fun e => by have := Option.some.inj e; omega)))
  have B3 := Lib.hid (below_only B2.out o3 (by omega) (by omega))
  have X3 : Bx w3 w.heap.size 27 (.slice none 0 0) (.slice none 0 0) := (o3.block _ X2.out.lt (fun e => by have := Option.some.inj e; omega)).trans X2.out
  have hc2 := (own_cap own3).1
  have hlo := own3.lt g2 rfl
  have T3 := Lib.hid (row_of_own own3)
  have O3 := Lib.hid own3
  have k0 := X3.c0
  have k1 := X3.c1
  have f0 := X3.free 0
  have f1 := X3.free 1
  have XX := Lib.hid X3
  have K3 := Lib.hid (K2.out)
  have O33 := Lib.hid o3
  clear own3 s3 o3 X3
  go_wp2
  have hkp : ∀ g, g ≠ w.heap.size → ((w3.setCell ⟨w.heap.size, 0, none⟩ (.slice A n c)).setCell ⟨w.heap.size, 1, none⟩ (.slice D n' d)).heap[g]? = w3.heap[g]? := fun g hg => by
    rw [Below.heap_setCell _ _ _ _ (by show g ≠ w.heap.size; exact hg), Below.heap_setCell _ _ _ _ (by show g ≠ w.heap.size; exact hg)]
  have hsz : ((w3.setCell ⟨w.heap.size, 0, none⟩ (.slice A n c)).setCell ⟨w.heap.size, 1, none⟩ (.slice D n' d)).heap.size = w3.heap.size := by simp [World.setCell]
  have PP := K3.out ((w3.setCell ⟨w.heap.size, 0, none⟩ (.slice A n c)).setCell ⟨w.heap.size, 1, none⟩ (.slice D n' d)) (by rw [hsz]; exact hz3) (fun g h1 h2 => (hkp g (by omega)).trans (O33.out.block g h2 (fun e => by have := Option.some.inj e; omega)))
  have TT : Row ((w3.setCell ⟨w.heap.size, 0, none⟩ (.slice A n c)).setCell ⟨w.heap.size, 1, none⟩ (.slice D n' d)) w3.heap.size (some ⟨g2, 0, none⟩) (ints t) := fun j v hv => by
    obtain ⟨b9, o9, e9, h9, hc9⟩ := T3.out j v hv
    injection e9 with e9
    injection e9 with e1 e2
    subst e1 e2
    exact ⟨_, _, rfl, h9, (World.cell?_of_block (a := ⟨g2, 0 + j, none⟩) (hkp g2 (by omega))).trans hc9⟩
  exact bodyPost_ret (v := .tuple #[.agg #[.slice A n c, .slice D n' d], .slice (some ⟨g2, 0, none⟩) n2 c2]) (results_boxS rfl _ _ w.heap.size 27 _ (0, 0) _ _ rfl (XX.out.stored _ _) Tryz.underlying27 rfl info_tb rfl) rfl
    ⟨A, n, c, D, n', d, g2, n2, c2, m, b, t, rfl, hl, h8, hc, ⟨htl, by omega, hc2⟩, PP.1, PP.2, by rw [hsz]; exact TT, below_set (below_set B3.out (Nat.le_refl _) _) (Nat.le_refl _) _⟩
set_option maxHeartbeats 2000000 in
theorem drawOrderOf_any (A0 : Option Addr) (k c0 : Nat) (xs : List Int) (w : World) (hn : k ≤ 4096) (h : IsCode w A0 k xs) : Calls Tryz.prog 14 #[.slice A0 k c0] w (DrawnTA w) := by
  obtain ⟨W0, hW0⟩ : ∃ W0, W0 = w.alloc (.cells #[.slice none 0 0, .slice none 0 0] 27) := ⟨_, rfl⟩
  have HB : Hid (Below w.heap.size w W0) := by rw [hW0]; exact (Below.refl _ _).alloc (Nat.le_refl _) _
  have HX : Hid (Bx W0 w.heap.size 27 (.slice none 0 0) (.slice none 0 0)) := by rw [hW0]; exact Bx.new _ _ _ _
  have hs0 : W0.heap.size = w.heap.size + 1 := by rw [hW0]; simp
  have HC := Lib.hid (h.below HB.out)
  clear h
  go_enter Tryz.func14, Tryz.ntmps14
  go_wp2_with fail
  rw [← hW0]
  clear hW0
  refine (l01From_any A0 k c0 W0.heap.size xs W0 HC.out.1 hn (Nat.le_refl _) HC.out.2.1 HC.out.2.2).mono ?_
  rintro e w1 ⟨G, rfl, hG, s1, b1⟩
  have hz1 := b1.size
  have S1 := Lib.hid s1
  have B1 := Lib.hid (HB.out.trans (b1.mono HB.out.size))
  have X1 := Lib.hid (HX.out.next b1)
  have hGl := s1.lt
  clear s1 b1
  go_wp2_with fail
  refine (l09Spoil_any G _ _ 4 w1 (by omega) (by omega) S1.out).mono ?_
  rintro e w2 ⟨A, n, c, D, n', d, m, b, rfl, hl, h8, hc, hk2, s2, o2⟩
  have hz2 := o2.size
  have K2 := Lib.hid hk2
  have B2 := Lib.hid (below_only B1.out o2 (by omega) (by omega))
  have X2 : Bx w2 w.heap.size 27 (.slice none 0 0) (.slice none 0 0) := (o2.block _ X1.out.lt (fun e => by have := Option.some.inj e; omega)).trans X1.out
  have k0 := X2.c0
  have k1 := X2.c1
  have f0 := X2.free 0
  have f1 := X2.free 1
  have XX := Lib.hid X2
  clear s2 o2 hk2 X2
  go_wp2
  have hkp : ∀ g, g ≠ w.heap.size → ((w2.setCell ⟨w.heap.size, 0, none⟩ (.slice A n c)).setCell ⟨w.heap.size, 1, none⟩ (.slice D n' d)).heap[g]? = w2.heap[g]? := fun g hg => by
    rw [Below.heap_setCell _ _ _ _ (by show g ≠ w.heap.size; exact hg), Below.heap_setCell _ _ _ _ (by show g ≠ w.heap.size; exact hg)]
  have hsz : ((w2.setCell ⟨w.heap.size, 0, none⟩ (.slice A n c)).setCell ⟨w.heap.size, 1, none⟩ (.slice D n' d)).heap.size = w2.heap.size := by simp [World.setCell]
  have PP := K2.out ((w2.setCell ⟨w.heap.size, 0, none⟩ (.slice A n c)).setCell ⟨w.heap.size, 1, none⟩ (.slice D n' d)) (by rw [hsz]; exact Nat.le_refl _) (fun g h1 h2 => hkp g (by omega))
  exact bodyPost_ret (v := .agg #[.slice A n c, .slice D n' d]) (results_cell_row rfl _ _ w.heap.size 27 _ (0, 0) _ rfl (XX.out.stored _ _) Tryz.underlying27 rfl info_tb) rfl
    ⟨A, n, c, D, n', d, m, b, rfl, hl, h8, hc, PP.1, PP.2, below_set (below_set B2.out (Nat.le_refl _) _) (Nat.le_refl _) _⟩
end Go.Proofs.YtpngohklicgbjaaGreat
/-
  What is a tableau: the plain test, the program's and the model's.
-/
namespace Go.Proofs.YtpngohklicgbjaaGreat
open Go.RowKit Fld
set_option linter.unusedVariables false
set_option linter.unusedSimpArgs false
set_option maxRecDepth 100000

def isTabB (m : List (List Int)) (b : List Int) : Bool := decide (1 ≤ b.length ∧ b.length ≤ 8 ∧ m.length = b.length) && (allNum b && okRows b.length m)
theorem isTabB_len {m : List (List Int)} {b : List Int} (h : b.length = 0 ∨ 8 < b.length ∨ m.length ≠ b.length) : isTabB m b = false := by
  unfold isTabB; rw [decide_eq_false (by omega)]; rfl
theorem isTabB_num {m : List (List Int)} {b : List Int} (h : allNum b = false) : isTabB m b = false := by
  unfold isTabB; rw [h]; simp
theorem isTabB_bad {m : List (List Int)} {b r : List Int} {k : Nat} (hr : m[k]? = some r) (h : r.length ≠ b.length ∨ allNum r = false) : isTabB m b = false := by
  unfold isTabB
  have : okRows b.length m = false := by
    unfold okRows
    rw [List.all_eq_false]
    refine ⟨r, List.mem_of_getElem? hr, ?_⟩
    rcases h with h | h
    · simp [h]
    · simp [h]
  rw [this, Bool.and_false, Bool.and_false]
theorem isTabB_yes {m : List (List Int)} {b : List Int} {n : Nat} (hl : m.length = n) (hb : b.length = n) (h1 : 1 ≤ n) (h8 : n ≤ 8) (hn : allNum b = true) (h : okRows n (m.take n) = true) : isTabB m b = true := by
  unfold isTabB
  rw [List.take_of_length_le (by omega)] at h
  rw [decide_eq_true (by omega), hn, hb, h]; rfl
theorem isTabB_parts {m : List (List Int)} {b : List Int} (h : isTabB m b = true) : 1 ≤ b.length ∧ b.length ≤ 8 ∧ m.length = b.length ∧ allNum b = true ∧ Wide m b.length ∧ ∀ r ∈ m, allNum r = true := by
  unfold isTabB at h
  rw [Bool.and_eq_true, Bool.and_eq_true] at h
  obtain ⟨h1, h2, h3⟩ := h
  have h4 := of_decide_eq_true h1
  unfold okRows at h3
  rw [List.all_eq_true] at h3
  refine ⟨h4.1, h4.2.1, h4.2.2, h2, fun r hr => ?_, fun r hr => ?_⟩
  · have := h3 r hr; simp at this; exact this.1
  · have := h3 r hr; simp at this; exact this.2

set_option maxHeartbeats 1600000 in
theorem isTableau_any (A D : Option Addr) (n c n' d B B' : Nat) (m : List (List Int)) (b : List Int) (w : World) (hl : m.length = n) (hl' : b.length = n') (hn : n ≤ 9223372036854775807) (hn' : n' ≤ 9223372036854775807) (hB : B ≤ w.heap.size) (hB' : B' ≤ w.heap.size) (h : Mat w B A m) (r : Row w B' D (ints b)) :
    Calls Tryz.prog 25 #[.agg #[.slice A n c, .slice D n' d]] w fun e w' => e = .returned (.bool (isTabB m b)) ∧ Below w.heap.size w w' := by
  have HL := Lib.hid hl
  have HL' := Lib.hid hl'
  clear hl hl'
  obtain ⟨W0, hW0⟩ : ∃ W0, W0 = w.alloc (.cells #[.slice A n c, .slice D n' d] 27) := ⟨_, rfl⟩
  have HB : Hid (Below w.heap.size w W0) := by rw [hW0]; exact (Below.refl _ _).alloc (Nat.le_refl _) _
  have HM : Hid (Mat W0 B A m) := h.below HB.out hB
  have HR : Hid (Row W0 B' D (ints b)) := r.below HB.out hB'
  have hx := heap_alloc_new w (.cells #[.slice A n c, .slice D n' d] 27)
  have hx0 : W0.cell? ⟨w.heap.size, 0, none⟩ = some (.slice A n c) := by rw [hW0, cell_of_row _ _ 0 _ _ _ hx]; rfl
  have hx1 : W0.cell? ⟨w.heap.size, 1, none⟩ = some (.slice D n' d) := by rw [hW0, cell_of_row _ _ 1 _ _ _ hx]; rfl
  clear h r hx hB hB'
  by_cases h0 : n = 0
  · have H : Hid (isTabB m b = false) := isTabB_len (by rw [HL'.out]; have := HL.out; omega)
    subst h0
    clear hx0 hx1
    go_enter Tryz.func25, Tryz.ntmps25
    go_wp2
    go_ret
    exact ⟨ret_bool H.out.symm, by rw [← hW0]; exact HB.out⟩
  · by_cases h8 : 8 < n
    · have H : Hid (isTabB m b = false) := isTabB_len (by rw [HL'.out]; have := HL.out; omega)
      have t0 : ¬ ((n : Int) < 1) := by omega
      clear h0 hx0 hx1
      go_enter Tryz.func25, Tryz.ntmps25
      go_wp2
      go_ret
      exact ⟨ret_bool H.out.symm, by rw [← hW0]; exact HB.out⟩
    · by_cases hq : n' = n
      · subst hq
        have hn1 : 1 ≤ n' := by omega
        have t0 : ¬ ((n' : Int) < 1) := by omega
        clear h0
        cases hnb : allNum b
        · have H : Hid (isTabB m b = false) := isTabB_num hnb
          go_enter Tryz.func25, Tryz.ntmps25
          go_wp2_with fail
          rw [← hW0]
          refine (areNumbers_any _ _ _ B' b _ HL'.out (by omega) HR.out).mono ?_
          rintro e w' ⟨rfl, rfl⟩
          rw [hnb]
          clear hW0 hx0 hx1
          go_wp2
          go_ret
          exact ⟨ret_bool H.out.symm, HB.out⟩
        · go_enter Tryz.func25, Tryz.ntmps25
          go_wp2_with fail
          rw [← hW0]
          refine (areNumbers_any _ _ _ B' b _ HL'.out (by omega) HR.out).mono ?_
          rintro e w' ⟨rfl, rfl⟩
          rw [hnb]
          have HNB := Lib.hid hnb
          clear hW0 hnb
          go_wp2_with fail
          go_loop [31] (fun i => ∃ k : Nat, k ≤ n' ∧ i = .int .i64 k ∧ Hid (okRows n' (m.take k) = true)) (fun i => n' - (intOf i).toNat)
          case atStart => exact ⟨0, Nat.zero_le _, rfl, rfl⟩
          case round =>
            obtain ⟨k, hk, rfl, HT⟩ := hrel
            by_cases hlt : k < n'
            · obtain ⟨r, hr⟩ := at_lt (show k < m.length by rw [HL.out]; exact hlt)
              obtain ⟨b2, o2, Ak, ck, rfl, _, hc, hlc, hcm, hrow⟩ := HM.out k r hr
              unfold maxLen at hcm
              by_cases hrq : r.length = n'
              · have tr : ((r.length : Int) != n') = false := bne_f (by omega)
                cases hnum : allNum r
                · have H : Hid (isTabB m b = false) := isTabB_bad hr (.inr hnum)
                  clear hr hrq HT
                  go_wp2_with (go_at_call 35; refine (areNumbers_any _ _ _ B r _ rfl (by omega) hrow).mono ?_; rintro e w' ⟨rfl, rfl⟩)
                  go_ret
                  exact ⟨ret_bool H.out.symm, HB.out⟩
                · have G := Lib.hid (okRows_step hr hrq hnum HT.out)
                  clear hr hrq HT
                  go_wp2_with (go_at_call 35; refine (areNumbers_any _ _ _ B r _ rfl (by omega) hrow).mono ?_; rintro e w' ⟨rfl, rfl⟩)
                  go_round
                  case rel => exact ⟨k + 1, by omega, by go_num, G⟩
                  case measure => simp [intOf]; omega
              · have tr : ((r.length : Int) != n') = true := bne_t (by omega)
                have H : Hid (isTabB m b = false) := isTabB_bad hr (.inl (by rw [HL'.out]; exact hrq))
                clear hr hrq HT
                go_wp2
                go_ret
                exact ⟨ret_bool H.out.symm, HB.out⟩
            · obtain rfl : k = n' := by omega
              have H : Hid (isTabB m b = true) := isTabB_yes HL.out HL'.out (by omega) (by omega) HNB.out HT.out
              clear HT
              go_wp2
              go_ret
              exact ⟨ret_bool H.out.symm, HB.out⟩
      · have H : Hid (isTabB m b = false) := isTabB_len (by rw [HL'.out]; have := HL.out; omega)
        have t0 : ¬ ((n : Int) < 1) := by omega
        have t1 := bne_t (show (n' : Int) ≠ (n : Int) by omega)
        clear h0 hq hx0 hx1
        go_enter Tryz.func25, Tryz.ntmps25
        go_wp2
        go_ret
        exact ⟨ret_bool H.out.symm, by rw [← hW0]; exact HB.out⟩
set_option maxHeartbeats 1600000 in
theorem l09Is_any (A D : Option Addr) (n c n' d B B' : Nat) (m : List (List Int)) (b : List Int) (w : World) (hl : m.length = n) (hl' : b.length = n') (hn : n ≤ 9223372036854775807) (hn' : n' ≤ 9223372036854775807) (hB : B ≤ w.heap.size) (hB' : B' ≤ w.heap.size) (h : Mat w B A m) (r : Row w B' D (ints b)) :
    Calls Tryz.prog 42 #[.agg #[.slice A n c, .slice D n' d]] w fun e w' => e = .returned (.bool (isTabB m b)) ∧ Below w.heap.size w w' := by
  have HL := Lib.hid hl
  have HL' := Lib.hid hl'
  clear hl hl'
  obtain ⟨W0, hW0⟩ : ∃ W0, W0 = w.alloc (.cells #[.slice A n c, .slice D n' d] 27) := ⟨_, rfl⟩
  have HB : Hid (Below w.heap.size w W0) := by rw [hW0]; exact (Below.refl _ _).alloc (Nat.le_refl _) _
  have HM : Hid (Mat W0 B A m) := h.below HB.out hB
  have HR : Hid (Row W0 B' D (ints b)) := r.below HB.out hB'
  have hx := heap_alloc_new w (.cells #[.slice A n c, .slice D n' d] 27)
  have hx0 : W0.cell? ⟨w.heap.size, 0, none⟩ = some (.slice A n c) := by rw [hW0, cell_of_row _ _ 0 _ _ _ hx]; rfl
  have hx1 : W0.cell? ⟨w.heap.size, 1, none⟩ = some (.slice D n' d) := by rw [hW0, cell_of_row _ _ 1 _ _ _ hx]; rfl
  clear h r hx hB hB'
  by_cases h0 : n' = 0
  · have H : Hid (isTabB m b = false) := isTabB_len (by rw [HL'.out]; have := HL.out; omega)
    subst h0
    clear hx0 hx1
    go_enter Tryz.func42, Tryz.ntmps42
    go_wp2
    go_ret
    exact ⟨ret_bool H.out.symm, by rw [← hW0]; exact HB.out⟩
  · by_cases h8 : 8 < n'
    · have H : Hid (isTabB m b = false) := isTabB_len (by rw [HL'.out]; have := HL.out; omega)
      have t0 : ¬ ((n' : Int) < 1) := by omega
      clear h0 hx0 hx1
      go_enter Tryz.func42, Tryz.ntmps42
      go_wp2
      go_ret
      exact ⟨ret_bool H.out.symm, by rw [← hW0]; exact HB.out⟩
    · by_cases hq : n = n'
      · subst hq
        have hn1 : 1 ≤ n := by omega
        have t0 : ¬ ((n : Int) < 1) := by omega
        clear h0
        cases hnb : allNum b
        · have H : Hid (isTabB m b = false) := isTabB_num hnb
          go_enter Tryz.func42, Tryz.ntmps42
          go_wp2_with fail
          rw [← hW0]
          refine (l01Numbers_any _ _ _ B' b _ HL'.out (by omega) HR.out).mono ?_
          rintro e w' ⟨rfl, rfl⟩
          rw [hnb]
          clear hW0 hx0 hx1
          go_wp2
          go_ret
          exact ⟨ret_bool H.out.symm, HB.out⟩
        · go_enter Tryz.func42, Tryz.ntmps42
          go_wp2_with fail
          rw [← hW0]
          refine (l01Numbers_any _ _ _ B' b _ HL'.out (by omega) HR.out).mono ?_
          rintro e w' ⟨rfl, rfl⟩
          rw [hnb]
          have HNB := Lib.hid hnb
          clear hW0 hnb
          go_wp2_with fail
          go_loop [4] (fun i => ∃ k : Nat, k ≤ n ∧ i = .int .i64 k ∧ Hid (okRows n (m.take k) = true)) (fun i => n - (intOf i).toNat)
          case atStart => exact ⟨0, Nat.zero_le _, rfl, rfl⟩
          case round =>
            obtain ⟨k, hk, rfl, HT⟩ := hrel
            by_cases hlt : k < n
            · obtain ⟨r, hr⟩ := at_lt (show k < m.length by rw [HL.out]; exact hlt)
              obtain ⟨b2, o2, Ak, ck, rfl, _, hc, hlc, hcm, hrow⟩ := HM.out k r hr
              unfold maxLen at hcm
              by_cases hrq : r.length = n
              · have tr : ((r.length : Int) != n) = false := bne_f (by omega)
                cases hnum : allNum r
                · have H : Hid (isTabB m b = false) := isTabB_bad hr (.inr hnum)
                  clear hr hrq HT
                  go_wp2_with fail
                  refine (l01Numbers_any _ _ _ B r _ rfl (by omega) hrow).mono ?_
                  rintro e w' ⟨rfl, rfl⟩
                  rw [hnum]
                  go_wp2
                  go_ret
                  exact ⟨ret_bool H.out.symm, HB.out⟩
                · have G := Lib.hid (okRows_step hr hrq hnum HT.out)
                  clear hr hrq HT
                  go_wp2_with fail
                  refine (l01Numbers_any _ _ _ B r _ rfl (by omega) hrow).mono ?_
                  rintro e w' ⟨rfl, rfl⟩
                  rw [hnum]
                  go_wp2
                  go_round
                  case rel => exact ⟨k + 1, by omega, by go_num, G⟩
                  case measure => simp [intOf]; omega
              · have tr : ((r.length : Int) != n) = true := bne_t (by omega)
                have H : Hid (isTabB m b = false) := isTabB_bad hr (.inl (by rw [HL'.out]; exact hrq))
                clear hr hrq HT
                go_wp2
                go_ret
                exact ⟨ret_bool H.out.symm, HB.out⟩
            · obtain rfl : k = n := by omega
              have H : Hid (isTabB m b = true) := isTabB_yes HL.out HL'.out (by omega) (by omega) HNB.out HT.out
              clear HT
              go_wp2
              go_ret
              exact ⟨ret_bool H.out.symm, HB.out⟩
      · have H : Hid (isTabB m b = false) := isTabB_len (by rw [HL'.out]; have := HL.out; omega)
        have t0 : ¬ ((n' : Int) < 1) := by omega
        have t1 := bne_t (show (n : Int) ≠ (n' : Int) by omega)
        clear h0 hq hx0 hx1
        go_enter Tryz.func42, Tryz.ntmps42
        go_wp2
        go_ret
        exact ⟨ret_bool H.out.symm, by rw [← hW0]; exact HB.out⟩
end Go.Proofs.YtpngohklicgbjaaGreat
/-
  Systems of the program's: rows of numbers, each of the call's own, apart from each other: a number is stored, two rows change places.
-/
namespace Go.Proofs.YtpngohklicgbjaaGreat
open Go.RowKit Fld
set_option linter.unusedVariables false
set_option linter.unusedSimpArgs false
set_option maxRecDepth 100000

/-- a list of lists of the call's own: its rows lie apart -/
structure OwnSys (w : World) (lo hi : Nat) (v : Value) (n : Nat) (m : List (List Int)) (vs : List Value) : Prop where
  outer : OwnR w lo hi 53 v n vs
  len : vs.length = m.length
  inner : ∀ (r : Nat) (row : List Int), m[r]? = some row → ∃ A c, vs[r]? = some (.slice A row.length c) ∧ OwnR w lo hi 68 (.slice A row.length c) row.length (ints row)
  apart : ∀ (r s : Nat) (u t : Value) (g : Nat), r ≠ s → vs[r]? = some u → vs[s]? = some t → u.ownBlock = some g → t.ownBlock ≠ some g
theorem OwnSys.keep {w w' : World} {lo hi n : Nat} {v : Value} {m : List (List Int)} {vs : List Value} (h : OwnSys w lo hi v n m vs) (hk : ∀ g, lo ≤ g → g < hi → w'.heap[g]? = w.heap[g]?) : OwnSys w' lo hi v n m vs :=
  ⟨h.outer.keep hk, h.len, fun r row hr => by obtain ⟨A, c, h1, h2⟩ := h.inner r row hr; exact ⟨A, c, h1, h2.keep hk⟩, h.apart⟩
theorem OwnSys.below {w w' : World} {lo hi n B : Nat} {v : Value} {m : List (List Int)} {vs : List Value} (h : OwnSys w lo hi v n m vs) (hb : Below B w w') (hB : hi ≤ B) : OwnSys w' lo hi v n m vs := h.keep fun g _ hg => hb.block g (by omega)
theorem OwnSys.within {w w' : World} {lo hi lo' hi' n : Nat} {v : Value} {m : List (List Int)} {vs : List Value} (h : OwnSys w lo hi v n m vs) (hb : Within lo' hi' w w') (hs : hi ≤ w.heap.size) (hd : hi ≤ lo' ∨ hi' ≤ lo) : OwnSys w' lo hi v n m vs :=
  h.keep fun g h1 h2 => hb.block g (by omega) (by omega)
theorem OwnSys.more {w : World} {lo hi lo' hi' n : Nat} {v : Value} {m : List (List Int)} {vs : List Value} (h : OwnSys w lo hi v n m vs) (h1 : lo' ≤ lo) (h2 : hi ≤ hi') : OwnSys w lo' hi' v n m vs :=
  ⟨h.outer.more h1 h2, h.len, fun r row hr => by obtain ⟨A, c, h3, h4⟩ := h.inner r row hr; exact ⟨A, c, h3, h4.more h1 h2⟩, h.apart⟩
theorem OwnSys.mat {w : World} {lo hi n c : Nat} {A : Option Addr} {m : List (List Int)} {vs : List Value} (h : OwnSys w lo hi (.slice A n c) n m vs) : Mat w hi A m := by
  intro k r hr
  obtain ⟨Ak, ck, h1, h2⟩ := h.inner k r hr
  obtain ⟨b, o, e, hb, hc⟩ := h.outer.row k _ h1
  have := own_cap h2.1
  exact ⟨b, o, Ak, ck, e, hb, hc, this.1, this.2, h2.row⟩
theorem OwnSys.drewN {w : World} {lo hi n : Nat} {v : Value} {m : List (List Int)} {vs : List Value} (h : OwnSys w lo hi v n m vs) (k : Nat) : OwnSys (w.drewN k) lo hi v n m vs := h.keep fun _ _ _ => rfl
theorem OwnSys.size {w : World} {lo hi n : Nat} {v : Value} {m : List (List Int)} {vs : List Value} (h : OwnSys w lo hi v n m vs) : m.length = n := by
  have := own_len h.outer.1; have := h.len; omega
/-- one row of it is written anew, in its place -/
theorem OwnSys.set_row {w w' : World} {lo hi n r q c : Nat} {v : Value} {A : Option Addr} {m : List (List Int)} {vs : List Value} {row' : List Int} (h : OwnSys w lo hi v n m vs) (hr : vs[r]? = some (.slice A q c)) (hq : row'.length = q)
    (h1 : w'.ownsRow lo 68 1 (.slice A q c) q (ints row')) (hg : w.grownBy w' (Value.ownBlock (.slice A q c))) : OwnSys w' lo hi v n (m.set r row') vs := by
  have hrl : r < m.length := by
    rcases Nat.lt_or_ge r m.length with g | g
    · exact g
    · rw [List.getElem?_eq_none (by rw [h.len]; exact g)] at hr; cases hr
  obtain ⟨A0, c0, e0, o0⟩ := h.inner r _ (List.getElem?_eq_getElem hrl)
  rw [hr] at e0
  injection e0 with e0
  injection e0 with eA eq ec
  subst eA ec
  have hot : w.ownsRow lo 68 1 (.slice A q c) q (ints m[r]) := by rw [eq]; exact o0.1
  refine ⟨h.outer.grown hg ?_, by rw [List.length_set]; exact h.len, ?_, h.apart⟩
  · exact own_types h.outer.1 hot (by decide)
  · intro s row hs
    by_cases hsr : r = s
    · subst hsr
      rw [List.getElem?_set_self (by exact hrl)] at hs
      injection hs with hs
      subst hs
      refine ⟨A, c, by rw [hq]; exact hr, ⟨by rw [hq]; exact h1, ?_⟩⟩
      rw [hq, eq]; exact o0.2
    · rw [List.getElem?_set_ne hsr] at hs
      obtain ⟨A2, c2, e2, o2⟩ := h.inner s row hs
      refine ⟨A2, c2, e2, o2.grown hg ?_⟩
      cases hb : Value.ownBlock (.slice A2 row.length c2) with
      | none => exact .inl rfl
      | some g => exact .inr (fun e => h.apart s r _ _ g (Ne.symm hsr) e2 hr hb e.symm)

/-- a number is stored -/
theorem OwnSys.put {w : World} {lo hi n r k g c : Nat} {v : Value} {m : List (List Int)} {vs : List Value} {row : List Int} {x : Int} (h : OwnSys w lo hi v n m vs) (hr : m[r]? = some row) (hv : vs[r]? = some (.slice (some ⟨g, 0, none⟩) row.length c)) :
    OwnSys (w.setCell ⟨g, k, none⟩ (.int .i64 x)) lo hi v n (m.set r (row.set k x)) vs := by
  obtain ⟨A0, c0, e0, o0⟩ := h.inner r row hr
  rw [hv] at e0
  injection e0 with e0
  injection e0 with eA eq ec
  subst eA ec
  obtain ⟨h1, h2⟩ := o0.1.stored k (.int .i64 x)
  refine h.set_row hv (by rw [List.length_set]) ?_ h2
  have e : (ints row).set k (.int .i64 x) = ints (row.set k x) := by unfold ints intsK; rw [List.map_set]
  rw [e] at h1
  exact h1
/-- two places of a list change -/
def swapL {α : Type} (l : List α) (p q : Nat) (a b : α) : List α := (l.set p b).set q a
theorem swapL_at {α : Type} {l : List α} {p q : Nat} {a b : α} (hp : l[p]? = some a) (hq : l[q]? = some b) (i : Nat) : (swapL l p q a b)[i]? = l[if i = p then q else if i = q then p else i]? := by
  have hpl : p < l.length := by
    rcases Nat.lt_or_ge p l.length with g | g
    · exact g
    · rw [List.getElem?_eq_none g] at hp; cases hp
  have hql : q < l.length := by
    rcases Nat.lt_or_ge q l.length with g | g
    · exact g
    · rw [List.getElem?_eq_none g] at hq; cases hq
  unfold swapL
  rw [List.getElem?_set, List.getElem?_set]
  by_cases e1 : q = i
  · subst e1
    rw [if_pos rfl, if_pos (by rw [List.length_set]; exact hql)]
    by_cases e2 : q = p
    · subst e2; rw [if_pos rfl, hp]
    · rw [if_neg e2, if_pos rfl, hp]
  · rw [if_neg e1]
    by_cases e2 : p = i
    · subst e2; rw [if_pos rfl, if_pos hpl, if_pos rfl, hq]
    · rw [if_neg e2, if_neg (fun e => e2 e.symm), if_neg (fun e => e1 e.symm)]
/-- two rows change places -/
theorem OwnSys.swap {w : World} {lo hi n p q g c : Nat} {m : List (List Int)} {vs : List Value} {r s : List Int} {u t : Value} (h : OwnSys w lo hi (.slice (some ⟨g, 0, none⟩) n c) n m vs)
    (hp : m[p]? = some r) (hq : m[q]? = some s) (hu : vs[p]? = some u) (ht : vs[q]? = some t) :
    OwnSys ((w.setCell ⟨g, p, none⟩ t).setCell ⟨g, q, none⟩ u) lo hi (.slice (some ⟨g, 0, none⟩) n c) n (swapL m p q r s) (swapL vs p q u t) := by
  obtain ⟨h1, h2⟩ := h.outer.1.stored p t
  obtain ⟨h3, h4⟩ := h1.stored q u
  refine ⟨⟨h3, h.outer.2⟩, by unfold swapL; simp [h.len], ?_, ?_⟩
  · intro i row hi
    rw [swapL_at hp hq] at hi
    obtain ⟨A, c', e, o⟩ := h.inner _ row hi
    refine ⟨A, c', by rw [swapL_at hu ht]; exact e, ?_⟩
    have hne := own_types o.1 h.outer.1 (by decide)
    exact (o.grown h2 hne).grown h4 hne
  · intro i j a b gg hij ha hb hg
    rw [swapL_at hu ht] at ha hb
    refine h.apart _ _ a b gg ?_ ha hb hg
    split <;> split <;> (try split) <;> (try split) <;> omega
end Go.Proofs.YtpngohklicgbjaaGreat
/-
  The copy of a matrix as a system of the program's.
-/
namespace Go.Proofs.YtpngohklicgbjaaGreat
open Go.RowKit Fld
set_option linter.unusedVariables false
set_option linter.unusedSimpArgs false
set_option maxRecDepth 100000

/-- a new row is laid into a place of the outer row -/
theorem OwnSys.put_row {w : World} {lo hi hi' n k q c g cap : Nat} {A : Option Addr} {m : List (List Int)} {vs : List Value} {row : List Int} (h : OwnSys w lo hi (.slice (some ⟨g, 0, none⟩) n cap) n m vs) (hk : k < m.length) (hq : row.length = q)
    (ho : OwnR w hi hi' 68 (.slice A q c) q (ints row)) (hl : lo ≤ hi) (hh : hi ≤ hi') : OwnSys (w.setCell ⟨g, k, none⟩ (.slice A q c)) lo hi' (.slice (some ⟨g, 0, none⟩) n cap) n (m.set k row) (vs.set k (.slice A q c)) := by
  have hs := h.outer.1.stored k (.slice A q c)
  have hg2 : ∀ g', Value.ownBlock (.slice A q c) = some g' → hi ≤ g' := fun g' e => (ho.1.lt g' e).1
  refine ⟨⟨hs.1, fun g' e => by have := h.outer.2 g' e; omega⟩, by rw [List.length_set, List.length_set]; exact h.len, ?_, ?_⟩
  · intro s r hr
    by_cases hsk : k = s
    · subst hsk
      rw [List.getElem?_set_self hk] at hr
      injection hr with hr
      subst hr
      subst hq
      refine ⟨A, c, by rw [List.getElem?_set_self (by rw [h.len]; exact hk)], ?_⟩
      exact (ho.more hl (Nat.le_refl _)).grown hs.2 ((own_types ho.1 h.outer.1 (by decide)).imp id (fun e => e))
    · rw [List.getElem?_set_ne hsk] at hr
      obtain ⟨A2, c2, e2, o2⟩ := h.inner s r hr
      exact ⟨A2, c2, by rw [List.getElem?_set_ne hsk]; exact e2, (o2.more (Nat.le_refl _) hh).grown hs.2 ((own_types o2.1 h.outer.1 (by decide)).imp id (fun e => e))⟩
  · intro r s u t g' hne hu ht hb hb'
    by_cases hrk : k = r
    · subst hrk
      have hks : k ≠ s := hne
      rw [List.getElem?_set_self (by rw [h.len]; exact hk)] at hu
      rw [List.getElem?_set_ne hks] at ht
      injection hu with hu
      subst hu
      have h1 := hg2 g' hb
      have hsl : s < m.length := by
        rcases Nat.lt_or_ge s m.length with x | x
        · exact x
        · rw [List.getElem?_eq_none (by rw [h.len]; exact x)] at ht; cases ht
      obtain ⟨A2, c2, e2, o2⟩ := h.inner s _ (List.getElem?_eq_getElem hsl)
      rw [ht] at e2
      injection e2 with e2
      subst e2
      have := o2.2 g' hb'
      omega
    · rw [List.getElem?_set_ne hrk] at hu
      by_cases hsk : k = s
      · subst hsk
        rw [List.getElem?_set_self (by rw [h.len]; exact hk)] at ht
        injection ht with ht
        subst ht
        have h1 := hg2 g' hb'
        have hrl : r < m.length := by
          rcases Nat.lt_or_ge r m.length with x | x
          · exact x
          · rw [List.getElem?_eq_none (by rw [h.len]; exact x)] at hu; cases hu
        obtain ⟨A2, c2, e2, o2⟩ := h.inner r _ (List.getElem?_eq_getElem hrl)
        rw [hu] at e2
        injection e2 with e2
        subst e2
        have := o2.2 g' hb
        omega
      · rw [List.getElem?_set_ne hsk] at ht
        exact h.apart r s u t g' hne hu ht hb hb'
/-- an outer row of empty rows -/
theorem OwnSys.blank {w w1 : World} {n : Nat} (h : w1.ownsRow w.heap.size 53 1 (.slice (some ⟨w.heap.size, 0, none⟩) n n) n (madeCells (Value.slice none 0 0).cells (n * 1)).toList) (hz : w.heap.size < w1.heap.size) :
    OwnSys w1 w.heap.size w1.heap.size (.slice (some ⟨w.heap.size, 0, none⟩) n n) n (List.replicate n []) (List.replicate n (.slice none 0 0)) := by
  have e : (madeCells (Value.slice none 0 0).cells (n * 1)).toList = List.replicate n (.slice none 0 0) := by rw [Nat.mul_one]; exact toList_madeCells_one _ _
  rw [e] at h
  refine ⟨⟨h, fun g hg => by have : w.heap.size = g := (by simpa [Value.ownBlock] using hg); omega⟩, by simp, ?_, ?_⟩
  · intro r row hr
    rw [List.getElem?_replicate] at hr
    split at hr
    · rename_i hlt
      injection hr with hr
      subst hr
      exact ⟨none, 0, by rw [List.getElem?_replicate, if_pos hlt]; rfl, World.ownsRow_nil _ _ _ _, fun g hg => by simp [Value.ownBlock] at hg⟩
    · cases hr
  · intro r s u t g hne hu ht hb
    rw [List.getElem?_replicate] at hu
    split at hu
    · injection hu with hu; subst hu; simp [Value.ownBlock] at hb
    · cases hu
/-- a new list of lists -/
def NewSys (n : Nat) (m : List (List Int)) (w : World) (e : Ending) (w' : World) : Prop :=
  ∃ A c vs, e = .returned (.slice A n c) ∧ OwnSys w' w.heap.size w'.heap.size (.slice A n c) n m vs ∧ Below w.heap.size w w'
/-- the rows up to k are filled -/
def FillS (w : World) (n : Nat) (m : List (List Int)) (k : Nat) (wr : World) : Prop :=
  ∃ vs, OwnSys wr w.heap.size wr.heap.size (.slice (some ⟨w.heap.size, 0, none⟩) n n) n (m.take k ++ List.replicate (n - k) []) vs ∧ Below w.heap.size w wr ∧ w.heap.size < wr.heap.size
theorem fillS_step {m : List (List Int)} {n k : Nat} {r : List Int} (hl : m.length = n) (h : m[k]? = some r) : (m.take k ++ List.replicate (n - k) []).set k r = m.take (k + 1) ++ List.replicate (n - (k + 1)) [] := by
  have hk : k < n := by
    rcases Nat.lt_or_ge k n with g | g
    · exact g
    · rw [List.getElem?_eq_none (by omega)] at h; cases h
  have e1 : (m.take k).length = k := by simp; omega
  rw [List.set_append, if_neg (by omega), e1, Nat.sub_self, show n - k = (n - (k + 1)) + 1 from by omega, List.replicate_succ, List.set_cons_zero, List.take_add_one, h]
  simp
theorem FillS.step {w wr w2 : World} {n k c : Nat} {A : Option Addr} {m : List (List Int)} {row : List Int} (h : FillS w n m k wr) (hl : m.length = n) (hr : m[k]? = some row)
    (ho : w2.ownsRow wr.heap.size 68 1 (.slice A row.length c) row.length (ints row)) (hb : Below wr.heap.size wr w2) : FillS w n m (k + 1) (w2.setCell ⟨w.heap.size, k, none⟩ (.slice A row.length c)) := by
  obtain ⟨vs, h1, h2, h3⟩ := h
  have hk : k < n := by
    rcases Nat.lt_or_ge k n with g | g
    · exact g
    · rw [List.getElem?_eq_none (by omega)] at hr; cases hr
  have hlen : (m.take k ++ List.replicate (n - k) []).length = n := by simp; omega
  have h4 := (h1.below hb (Nat.le_refl _)).put_row (k := k) (by omega) rfl (OwnR.of ho) (by omega) hb.size
  rw [fillS_step hl hr] at h4
  have hsz : (w2.setCell ⟨w.heap.size, k, none⟩ (.slice A row.length c)).heap.size = w2.heap.size := by simp [World.setCell]
  exact ⟨_, by rw [hsz]; exact h4, below_set (h2.trans (hb.mono (by omega))) (Nat.le_refl _) _, by rw [hsz]; have := hb.size; omega⟩
theorem FillS.done {w wr : World} {n : Nat} {m : List (List Int)} (h : FillS w n m n wr) (hl : m.length = n) : NewSys n m w (.returned (.slice (some ⟨w.heap.size, 0, none⟩) n n)) wr := by
  obtain ⟨vs, h1, h2, _⟩ := h
  rw [Nat.sub_self, List.take_of_length_le (by omega)] at h1
  simp only [List.replicate_zero, List.append_nil] at h1
  exact ⟨_, _, vs, rfl, h1, h2⟩
theorem FillS.start {w w1 : World} {n : Nat} {m : List (List Int)} (h : w1.ownsRow w.heap.size 53 1 (.slice (some ⟨w.heap.size, 0, none⟩) n n) n (madeCells (Value.slice none 0 0).cells (n * 1)).toList) (hg : w.grownBy w1 none) : FillS w n m 0 w1 := by
  have hz : w.heap.size < w1.heap.size := (h.lt w.heap.size rfl).2
  refine ⟨List.replicate n (.slice none 0 0), ?_, (Below.refl _ _).grown hg (Nat.le_refl _) (fun k hk => by cases hk), hz⟩
  simp only [List.take_zero, List.nil_append, Nat.sub_zero]
  exact OwnSys.blank h hz
theorem FillS.cell {w wr w2 : World} {n k : Nat} {m : List (List Int)} (h : FillS w n m k wr) (hl : m.length = n) (hk : k < n) (hb : Below wr.heap.size wr w2) :
    (∃ u, w2.cell? ⟨w.heap.size, k, none⟩ = some u) ∧ w2.frozen? ⟨w.heap.size, k, none⟩ = false := by
  obtain ⟨vs, h1, _, h3⟩ := h
  have h2 := (h1.below hb (Nat.le_refl _)).outer.1
  refine ⟨?_, h2.frozenAt k⟩
  have e := h2.cellAt k (by omega)
  have hv : k < vs.length := by rw [own_len h2]; exact hk
  rw [List.getElem?_eq_getElem hv] at e
  exact ⟨_, e⟩


/-- an append of no cells at all -/
theorem run_append_none {P : Program} (w : World) (t tn ty e : TypeId) (i : TypeInfo) (ht : P.underlying t = some (.slice e)) (htn : P.underlying tn = some (.int .i64)) (hi : P.info? e = some i)
    (base : Option Addr) (n c : Nat) (hc : n ≤ c) : (Builtin.append_ #[t, tn] ty #[.slice base n c, .int .i64 0]).run P w = .ok (.slice base n c) w := by
  have hw : IntKind.i64.wrap (0 : Int) = 0 := by decide
  cases base <;> simp [Builtin.append_, run_underlying ht, run_underlying htn, sizeOf, typeInfo, hi, asInt, asIntOf, hw, hc, storeCells]
theorem wpList_append_none {P : Program} (w : World) {ops : Array Oper} {rest : List Oper} {o : Oper} {a : Act} {Q : Exit → Act → World → Prop}
    (hg : o.guard = none) (s x : Operand) (t tn : TypeId) (hop : o.op = Op.call { callee := Callee.builtin Builtin.append, args := #[s, x], argTypes := #[t, tn] })
    (e : TypeId) (i : TypeInfo) (ht : P.underlying t = some (.slice e)) (htn : P.underlying tn = some (.int .i64)) (hi : P.info? e = some i)
    (base : Option Addr) (n c : Nat) (hc : n ≤ c) (hs : a.eval s = .slice base n c) (hx : a.eval x = .int .i64 0)
    (hK : wpList P ops Q rest (a.put o.dst (.slice base n c)) w) : wpList P ops Q (o :: rest) a w := by
  refine wpList_plain hg fun K hK' => ?_
  have hrun := run_append_none w t tn o.type e i ht htn hi base n c hc
  unfold Oper.wp
  simp [execOp, hop, resolve, invoke, builtin, hs, hx, hrun, Result.andThen]
  exact hK' _ _ hK
theorem info_sysrow : (Tryz.prog.info? 53).map (fun i => (i.zero, i.size, i.bytes)) = some (some (.slice none 0 0), 1, 24) := by kernel_rfl
set_option maxHeartbeats 800000 in
theorem systemOf_any (A : Option Addr) (n c B q : Nat) (m : List (List Int)) (w : World) (hl : m.length = n) (hn : n ≤ 8) (hq : Wide m q) (hq16 : q ≤ 16) (hB : B ≤ w.heap.size) (h : Mat w B A m) :
    Calls Tryz.prog 51 #[.slice A n c, .int .i64 0] w (NewSys n m w) := by
  obtain ⟨i0, hi, hz0, hz1, hz2⟩ := info_parts info_sysrow
  obtain ⟨j0, hj, _, _, _⟩ := info_parts numbersOf_any_info
  have HL := Lib.hid hl
  have HQ := Lib.hid hq
  clear hl hq
  go_enter Tryz.func51, Tryz.ntmps51
  go_wp2_with (at_make; refine wpList_make_full _ rfl (.tmp 9) (.tmp 9) 55 rfl w.heap.size 53 i0 _ 1 Tryz.underlying55 hi hz0 hz1 .i64 .i64 _ _ n rfl rfl rfl rfl (by rw [hz2]; omega) (by simp only [maxLen]; omega) (Nat.le_refl _) ?_; intro w1 hown hg)
  have F0 := FillS.start (m := m) hown hg
  clear hown hg hz0 hz1 hz2 hi
  go_loopw [13] (fun i wr => ∃ k : Nat, k ≤ n ∧ i = .int .i64 k ∧ FillS w n m k wr) (fun i _ => n - (intOf i).toNat)
  case atStart => exact ⟨0, Nat.zero_le _, rfl, F0⟩
  case round =>
    obtain ⟨k, hk, rfl, HF⟩ := hrel
    by_cases hlt : k < n
    · obtain ⟨r, hr⟩ := at_lt (show k < m.length by rw [HL.out]; exact hlt)
      have hrq := HQ.out.at_ hr
      obtain ⟨vs, hvs, hbel, hsz⟩ := id HF
      obtain ⟨b, o, Ak, ck, rfl, _, hc, hlc, hcm, hrow⟩ := h.below hbel hB k r hr
      have hrl : r.length ≤ 1048576 := by omega
      have HF' := Lib.hid HF
      have HR := Lib.hid hr
      have hBs := hbel.size
      have k0 : (0 : Int) ≤ (k : Int) := Int.natCast_nonneg _
      have k1 : (k : Int) < (n : Int) := by omega
      clear hr F0 HF hvs hbel hrq
      go_wp2_with fail
      refine (numbersOf_any Ak r.length ck B r _ rfl hrl (by omega) hrow).mono ?_
      rintro e w2 ⟨A2, c2, rfl, own2, be2⟩
      obtain ⟨⟨u, hu⟩, hf⟩ := HF'.out.cell HL.out hlt be2
      have hcap2 := (own_cap own2).1
      have G := Lib.hid (HF'.out.step HL.out HR.out own2 be2)
      clear own2
      go_wp2_with (at_builtin; refine wpList_append_none _ rfl (.tmp 21) (.tmp 22) 53 3 rfl 68 j0 Tryz.underlying53 Tryz.underlying3 hj A2 r.length c2 hcap2 rfl rfl ?_)
      go_roundw
      case rel => exact ⟨k + 1, by omega, by go_num, G.out⟩
      case measure => simp [intOf]; omega
    · obtain rfl : k = n := by omega
      have G := Lib.hid (HF.done HL.out)
      clear HF F0
      go_wp2
      go_ret
      exact G.out
end Go.Proofs.YtpngohklicgbjaaGreat
/-
  The program's copy of a tableau.
-/
namespace Go.Proofs.YtpngohklicgbjaaGreat
open Go.RowKit Fld
set_option linter.unusedVariables false
set_option linter.unusedSimpArgs false
set_option maxRecDepth 100000

theorem cell_othT {w : World} {b g k : Nat} {o : Nat} {v x : Value} (h : w.cell? ⟨b, o, none⟩ = some x) (hne : b ≠ g) : (w.setCell ⟨g, k, none⟩ v).cell? ⟨b, o, none⟩ = some x :=
  (World.cell?_of_block (heap_setCell_other w ⟨g, k, none⟩ b v hne)).trans h
/-- a new scheme: rows and numbers that can be read -/
def NewSch (n n' : Nat) (m : List (List Int)) (b : List Int) (w : World) (e : Ending) (w' : World) : Prop :=
  ∃ A c D d, e = .returned (.agg #[.slice A n c, .slice D n' d]) ∧ n ≤ c ∧ n' ≤ d ∧ Mat w' w'.heap.size A m ∧ Row w' w'.heap.size D (ints b) ∧ Below w.heap.size w w'
theorem info_sch : (Tryz.prog.info? 57).map (·.size) = some 2 := by kernel_rfl
set_option maxHeartbeats 2000000 in
theorem schemeOf_any (A D : Option Addr) (n c n' d B B' q : Nat) (m : List (List Int)) (b : List Int) (w : World) (hl : m.length = n) (hl' : b.length = n') (hn : n ≤ 8) (hq : Wide m q) (hq16 : q ≤ 16) (hn' : n' ≤ 1048576) (hB : B ≤ w.heap.size) (hB' : B' ≤ w.heap.size) (h : Mat w B A m) (r : Row w B' D (ints b)) :
    Calls Tryz.prog 28 #[.agg #[.slice A n c, .slice D n' d]] w (NewSch n n' m b w) := by
  have HL := Lib.hid hl
  have HL' := Lib.hid hl'
  have HQ := Lib.hid hq
  obtain ⟨W0, hW0⟩ : ∃ W0, W0 = (w.alloc (.cells #[.slice A n c, .slice D n' d] 27)).alloc (.cells #[.slice none 0 0, .slice none 0 0] 57) := ⟨_, rfl⟩
  have FB : Below w.heap.size w W0 := by rw [hW0]; exact ((Below.refl _ _).alloc (Nat.le_refl _) _).alloc (by simp) _
  have FS : W0.heap.size = w.heap.size + 2 := by rw [hW0]; simp
  have F0 : Bx W0 w.heap.size 27 (.slice A n c) (.slice D n' d) := by
    rw [hW0]; exact (Bx.new w _ _ _).next ((Below.refl _ _).alloc (Nat.le_refl _) _)
  have F1 : Bx W0 (w.heap.size + 1) 57 (.slice none 0 0) (.slice none 0 0) := by
    rw [hW0]; have := Bx.new (w.alloc (.cells #[.slice A n c, .slice D n' d] 27)) 57 (.slice none 0 0) (.slice none 0 0); simpa using this
  have HM := Lib.hid (h.below FB hB)
  have HR := Lib.hid (r.below FB hB')
  have T1 := fun W (hW : Below W0.heap.size W0 W) => systemOf_any A n c B q m W HL.out hn HQ.out hq16 (by have := hW.size; have := FB.size; omega) (HM.out.below hW (by have := FB.size; omega))
  have T2 := fun W (hW : Below W0.heap.size W0 W) => numbersOf_any D n' d B' b W HL'.out hn' (by have := hW.size; have := FB.size; omega) (HR.out.below hW (by have := FB.size; omega))
  have HK : Hid (∀ W, Below W0.heap.size W0 W → W.cell? ⟨w.heap.size, 0, none⟩ = some (.slice A n c) ∧ W.cell? ⟨w.heap.size, 1, none⟩ = some (.slice D n' d)) := fun W hb => ⟨(F0.next hb).c0, (F0.next hb).c1⟩
  have H2 : Hid (∀ W, Below W0.heap.size W0 W → Bx W (w.heap.size + 1) 57 (.slice none 0 0) (.slice none 0 0)) := fun W hb => F1.next hb
  have HB := Lib.hid FB
  have HS := Lib.hid FS
  clear F0 F1 FB FS hl hl' hq h r hB hB'
  go_enter Tryz.func28, Tryz.ntmps28
  go_wp2_with fail
  change Code.wp _ _ _ _ ((w.alloc (.cells #[.slice A n c, .slice D n' d] 27)).alloc (.cells #[.slice none 0 0, .slice none 0 0] 57))
  rw [← hW0]
  clear hW0
  go_region_held3 (fun W => W.cell? ⟨w.heap.size, 0, none⟩ = some (.slice A n c) ∧ W.cell? ⟨w.heap.size, 1, none⟩ = some (.slice D n' d))
    (first | exact HK.out _ (Below.refl _ _).drew | exact HK.out _ (below_drewN (Below.refl _ _) _) | exact HK.out _ (below_undrawn (a := 1) bel2) | exact HK.out w3 ((below_undrawn (a := 1) bel2).trans (bel3.mono bel2.size)) | (have hz := HK.out w3 ((below_undrawn (a := 1) bel2).trans (bel3.mono bel2.size)); exact ⟨cell_othT (cell_othT hz.1 (by omega)) (by omega), cell_othT (cell_othT hz.2 (by omega)) (by omega)⟩))
    (first
      | (go_at_call 51; refine (T1 _ (by first | exact (Below.refl _ _).drew | exact below_drewN (Below.refl _ _) _)).mono ?_; clear T1; rintro e w2 ⟨A2, c2, vs2, rfl, own2, bel2⟩)
      | (go_at_call 37; refine (T2 _ (by exact below_undrawn (a := 1) bel2)).mono ?_; clear T2; rintro e w3 ⟨A3, c3, rfl, own3, bel3⟩)
      | (have hz := H2.out w3 ((below_undrawn (a := 1) bel2).trans (bel3.mono bel2.size)); have z0 := hz.c0; have z1 := hz.c1; have f0 := hz.free 0; have f1 := hz.free 1; clear hz; go_simp))
  have hb3 : Below W0.heap.size W0 w3 := (below_undrawn (a := 1) bel2).trans (bel3.mono bel2.size)
  have hz2 : W0.heap.size ≤ w2.heap.size := bel2.size
  have hz3 := bel3.size
  have R : Bx ((w3.setCell ⟨w.heap.size + 1, 0, none⟩ (.slice A2 n c2)).setCell ⟨w.heap.size + 1, 1, none⟩ (.slice A3 n' c3)) (w.heap.size + 1) 57 (.slice A2 n c2) (.slice A3 n' c3) := (H2.out w3 hb3).stored _ _
  have hk : ∀ g, W0.heap.size ≤ g → ((w3.setCell ⟨w.heap.size + 1, 0, none⟩ (.slice A2 n c2)).setCell ⟨w.heap.size + 1, 1, none⟩ (.slice A3 n' c3)).heap[g]? = w3.heap[g]? := fun g hg => by
    rw [Below.heap_setCell _ _ _ _ (by show g ≠ w.heap.size + 1; have := HS.out; omega), Below.heap_setCell _ _ _ _ (by show g ≠ w.heap.size + 1; have := HS.out; omega)]
  have hsz : ((w3.setCell ⟨w.heap.size + 1, 0, none⟩ (.slice A2 n c2)).setCell ⟨w.heap.size + 1, 1, none⟩ (.slice A3 n' c3)).heap.size = w3.heap.size := by simp [World.setCell]
  have GB : Hid (Below w.heap.size w ((w3.setCell ⟨w.heap.size + 1, 0, none⟩ (.slice A2 n c2)).setCell ⟨w.heap.size + 1, 1, none⟩ (.slice A3 n' c3))) := by
    have h0 : Below w.heap.size w w3 := HB.out.trans (hb3.mono HB.out.size)
    exact below_set (below_set h0 (by omega) _) (by omega) _
  have GM := Lib.hid (((own2.below bel3 (Nat.le_refl _)).keep (fun g h1 h2 => hk g h1)).mat.more (B' := ((w3.setCell ⟨w.heap.size + 1, 0, none⟩ (.slice A2 n c2)).setCell ⟨w.heap.size + 1, 1, none⟩ (.slice A3 n' c3)).heap.size) (by rw [hsz]; exact hz3))
  have GR := Lib.hid (((OwnR.of own3).keep (fun g h1 h2 => hk g (by omega))).row.more (B' := ((w3.setCell ⟨w.heap.size + 1, 0, none⟩ (.slice A2 n c2)).setCell ⟨w.heap.size + 1, 1, none⟩ (.slice A3 n' c3)).heap.size) (by rw [hsz]; exact Nat.le_refl _))
  have hc2 : n ≤ c2 := by
    rcases own2.outer.1.2 with ⟨e1, e2⟩ | ⟨g, cap, cur, e1, _, _, e2, e3, _⟩
    · injection e1 with _ _ e3; subst e3; omega
    · injection e1 with _ _ e4; subst e4; exact e2
  have hc3 := (own_cap own3).1
  have HR2 := Lib.hid R
  clear R own2 own3 bel2 bel3 hb3 hk hsz hz2 hz3
  go_wp2
  refine bodyPost_ret (v := .agg #[.slice A2 n c2, .slice A3 n' c3]) ?_ rfl ⟨A2, c2, A3, c3, rfl, hc2, hc3, GM.out, GR.out, GB.out⟩
  exact results_cell_row rfl _ _ (w.heap.size + 1) 57 _ (0, 0) _ rfl HR2.out Tryz.underlying57 rfl info_sch
end Go.Proofs.YtpngohklicgbjaaGreat
/-
  slices.Repeat of the list with one 1.
-/
namespace Go.Proofs.YtpngohklicgbjaaGreat
open Go.RowKit Fld
set_option linter.unusedVariables false
set_option linter.unusedSimpArgs false
set_option maxRecDepth 100000

set_option maxHeartbeats 1000000 in
theorem mul64_one (n : Nat) (hn : n ≤ 8) (w : World) : Calls Tryz.prog 125 #[.int .u64 1, .int .u64 (n : Int)] w fun e w' => e = .returned (.tuple #[.int .u64 0, .int .u64 (n : Int)]) ∧ w = w' := by
  have : n = 0 ∨ n = 1 ∨ n = 2 ∨ n = 3 ∨ n = 4 ∨ n = 5 ∨ n = 6 ∨ n = 7 ∨ n = 8 := by omega
  rcases this with rfl | rfl | rfl | rfl | rfl | rfl | rfl | rfl | rfl
  all_goals
    go_enter Tryz.func125, Tryz.ntmps125
    go_wp2
    go_ret2
    exact ⟨rfl, rfl⟩
set_option maxHeartbeats 1000000 in
theorem bitsMul_one (n : Nat) (hn : n ≤ 8) (w : World) : Calls Tryz.prog 105 #[.int .u64 1, .int .u64 (n : Int)] w fun e w' => e = .returned (.tuple #[.int .u64 0, .int .u64 (n : Int)]) ∧ w = w' := by
  go_enter Tryz.func105, Tryz.ntmps105
  go_wp2_with fail
  refine (mul64_one n hn w).mono ?_
  rintro e w' ⟨rfl, rfl⟩
  go_wp2
  go_ret2
  exact ⟨rfl, rfl⟩
def onesK (n k : Nat) : List Value := ints (List.replicate k 1) ++ ints (List.replicate (n - k) 0)
theorem onesK_len {n k : Nat} (h : k ≤ n) : (onesK n k).length = n := by simp [onesK, ints, intsK]; omega
theorem onesK_at {n k j : Nat} (h : j < k) : (onesK n k)[j]? = some (.int .i64 1) := by
  unfold onesK ints intsK
  rw [List.getElem?_append_left (by simp; omega)]
  simp [h]
theorem onesK_all (n : Nat) : onesK n n = ints (List.replicate n 1) := by simp [onesK, ints, intsK]
theorem onesK_put {n k d : Nat} (h : k + d ≤ n) : (onesK n k).take k ++ (ints (List.replicate d 1) ++ (onesK n k).drop (k + d)) = onesK n (k + d) := by
  unfold onesK ints intsK
  rw [List.take_left' (by simp), List.drop_append, List.length_map, List.length_replicate, show k + d - k = d by omega, List.drop_of_length_le (by simp), List.nil_append, ← List.map_drop, List.drop_replicate, show n - k - d = n - (k + d) by omega, ← List.append_assoc, ← List.map_append, List.replicate_append_replicate]
theorem step_copy_row {P : Program} {ops : Array Oper} {o : Oper} {a : Act} {w : World} {K : Act → World → Prop} {Q : Exit → Act → World → Prop} {E : Prop}
    (hg : o.guard = none) (d s : Operand) (dT sT : TypeId) (ho : o.op = .call { callee := .builtin .copy, args := #[d, s], argTypes := #[dT, sT] }) (elem : TypeId) (hu : P.underlying dT = some (.slice elem)) (hsz : (P.info? elem).map (·.size) = some 1)
    (g off dLen dCap : Nat) (ad : Addr) (sLen sCap : Nat) (hd : a.eval d = .slice (some ⟨g, off, none⟩) dLen dCap) (hs : a.eval s = .slice (some ad) sLen sCap)
    (cur : Array Value) (t : TypeId) (hgc : w.heap[g]? = some (.cells cur t (0, 0))) (cs : List Value) (hn : cs.length = Nat.min sLen dLen)
    (hsrc : ∀ j v, cs[j]? = some v → w.cell? (ad.add j) = some v) (hfit : off + cs.length ≤ cur.size) (h1 : ∀ v ∈ cs, v.oneCell' = true)
    (hK : K (a.put o.dst (goInt cs.length)) (w.setRow g (cur.toList.take off ++ (cs ++ cur.toList.drop (off + cs.length))).toArray)) : if Region.wanted o (yielded ops a.tmps) = true then Oper.wp P o a w K Q else E := by
  have hw : Region.wanted o (yielded ops a.tmps) = true := by simp [Region.wanted, hg]
  rw [if_pos hw]
  have hrun := run_copy_row (P := P) w dT sT o.type elem g off dLen dCap ad sLen sCap cur t cs hu hsz hgc hn hsrc hfit h1
  unfold Oper.wp
  simp [execOp, ho, resolve, invoke, builtin, hd, hs, hrun, Result.andThen]
  exact hK
theorem info_numR : (Tryz.prog.info? 68).map (fun i => (i.zero, i.size, i.bytes)) = some (some (.int .i64 0), 1, 8) := by kernel_rfl
theorem info_numS : (Tryz.prog.info? 68).map (·.size) = some 1 := by kernel_rfl
set_option maxHeartbeats 2000000 in
theorem repeat_any (A : Option Addr) (c B n : Nat) (w : World) (hn1 : 1 ≤ n) (hn : n ≤ 8) (hB : B ≤ w.heap.size) (h : Row w B A (ints [1])) :
    Calls Tryz.prog 83 #[.slice A 1 c, .int .i64 (n : Int)] w (NewRow 68 n (ints (List.replicate n 1)) w) := by
  obtain ⟨i0, hi, hz0, hz1, hz2⟩ := info_parts info_numR
  obtain ⟨ba, oa, rfl, hba, hca⟩ := h 0 _ rfl
  rw [Nat.add_zero] at hca
  have t0 : ¬ ((n : Int) < 0) := by omega
  go_enter Tryz.func83, Tryz.ntmps83
  go_wp2_with (first | (go_at_call 105; refine (bitsMul_one n hn w).mono ?_; rintro e w' ⟨rfl, rfl⟩) | (at_make; refine wpList_make_full _ rfl (.tmp 29) (.tmp 29) 53 rfl w.heap.size 68 i0 _ 1 Tryz.underlying53 hi hz0 hz1 .i64 .i64 _ _ n rfl rfl rfl rfl (by rw [hz2]; omega) (by simp only [maxLen]; omega) (Nat.le_refl _) ?_; intro w1 hown hg))
  have hz : w.heap.size < w1.heap.size := (hown.lt w.heap.size rfl).2
  have hB1 : Below w.heap.size w w1 := (Below.refl _ _).grown hg (Nat.le_refl _) (fun k hk => by cases hk)
  obtain ⟨cur, hcur, hcs, hct⟩ : ∃ cur : Array Value, w1.heap[w.heap.size]? = some (.cells cur 68 (0, 0)) ∧ cur.size = n ∧ cur.toList = List.replicate n (.int .i64 0) := by
    rcases hown.2 with ⟨e, _⟩ | ⟨g, cap, cur, e, _, h2, _, _, h3, h4⟩
    · cases e
    · injection e with e1 _ e3
      injection e1 with e1
      injection e1 with e1
      subst e1 e3
      refine ⟨cur, h2, by omega, ?_⟩
      rw [List.take_of_length_le (by rw [Array.length_toList]; omega), Nat.mul_one] at h4
      rw [h4]; exact toList_madeCells_one _ _
  have hca1 : w1.cell? ⟨ba, oa, none⟩ = some (.int .i64 1) := (hB1.cell (p := ⟨ba, oa, none⟩) (by show ba < _; omega)).trans hca
  have HB1 := Lib.hid hB1
  have HCT := Lib.hid hct
  clear hown hg hz0 hz1 hz2 hi hB1 hct
  have hmin : (1 : Nat) = Nat.min 1 n := (Nat.min_eq_left hn1).symm
  have hsrc : ∀ j v, [Value.int .i64 1][j]? = some v → w1.cell? ((⟨ba, oa, none⟩ : Addr).add j) = some v := fun j v hv => by rcases j with _ | j; (· simp at hv; subst hv; simpa [Addr.add] using hca1); (· simp at hv)
  have hfit : 0 + [Value.int .i64 1].length ≤ cur.size := by simp; omega
  have hone : ∀ v ∈ [Value.int .i64 1], v.oneCell' = true := by simp [Value.oneCell']
  have hrun := run_copy_row (P := Tryz.prog) w1 53 53 3 68 w.heap.size 0 n n ⟨ba, oa, none⟩ 1 c cur 68 [.int .i64 1] Tryz.underlying53 info_numS hcur hmin hsrc hfit hone
  go_wp2_with fail
  rw [hrun]
  obtain ⟨W2, hW2⟩ : ∃ W2, W2 = w1.setRow w.heap.size (List.take 0 cur.toList ++ [Value.int .i64 1] ++ List.drop (0 + [Value.int .i64 1].length) cur.toList).toArray := ⟨_, rfl⟩
  have hg2 : Hid (W2.heap[w.heap.size]? = some (.cells (onesK n 1).toArray 68 (0, 0))) := by
    have e : List.take 0 cur.toList ++ [Value.int .i64 1] ++ List.drop (0 + [Value.int .i64 1].length) cur.toList = onesK n 1 := by
      rw [HCT.out]; simp [onesK, ints, intsK]
    rw [hW2, e]; exact setRow_heap _ _ _ _ _ _ hcur
  have hB2 : Hid (Below w.heap.size w W2) := by rw [hW2]; exact below_setRow HB1.out (Nat.le_refl _) _
  have hone1 : goInt ([Value.int .i64 1].length : Nat) = .int .i64 1 := rfl
  rw [← hW2, hone1]
  clear hW2 hrun hsrc hfit hone hmin hca1 hca hcur hcs HCT HB1 hone1
  go_wp2_with fail
  go_loopw [8] (fun i wr => ∃ k : Nat, 1 ≤ k ∧ k ≤ n ∧ i = .int .i64 k ∧ Hid (wr.heap[w.heap.size]? = some (.cells (onesK n k).toArray 68 (0, 0))) ∧ Hid (Below w.heap.size w wr)) (fun i _ => n - (intOf i).toNat)
  case atStart => exact ⟨1, Nat.le_refl _, hn1, rfl, hg2, hB2⟩
  case round =>
    obtain ⟨k, hk1, hk, rfl, HG, HBr⟩ := hrel
    by_cases hlt : k < n
    · obtain ⟨d, hd⟩ : ∃ d, d = Nat.min k (n - k) := ⟨_, rfl⟩
      have hd1 : 1 ≤ d ∧ k + d ≤ n := by
        have h1 : d ≤ k := by rw [hd]; exact Nat.min_le_left _ _
        have h2 : d ≤ n - k := by rw [hd]; exact Nat.min_le_right _ _
        have h3 : d = k ∨ d = n - k := by rw [hd]; exact Nat.le_total k (n - k) |>.elim (fun h => .inl (Nat.min_eq_left h)) (fun h => .inr (Nat.min_eq_right h))
        omega
      have hcl : (ints (List.replicate d 1)).length = Nat.min k (n - k) := by rw [← hd]; simp [ints, intsK]
      have hcl2 : (ints (List.replicate d 1)).length = d := by simp [ints, intsK]
      have hGd : wr.drew.heap[w.heap.size]? = some (.cells (onesK n k).toArray 68 (0, 0)) := HG.out
      have hsrc : ∀ j v, (ints (List.replicate d 1))[j]? = some v → wr.drew.cell? ((⟨w.heap.size, 0, none⟩ : Addr).add j) = some v := fun j v hv => by
        have hj : j < d := by have := (List.getElem?_eq_some_iff.1 hv).1; rw [hcl2] at this; exact this
        have hv1 : v = .int .i64 1 := by
          have := ints_at (xs := List.replicate d 1) (k := j) (x := 1) (by simp [hj]); rw [this] at hv; exact (Option.some.inj hv).symm
        have hjk : j < k := by have h1 : Nat.min k (n - k) ≤ k := Nat.min_le_left _ _; rw [← hd] at h1; omega
        have e : (⟨w.heap.size, 0, none⟩ : Addr).add j = ⟨w.heap.size, 0 + j, none⟩ := by rcases j with _ | j <;> simp [Addr.add]
        rw [e, Nat.zero_add, cell_of_row wr.drew _ j _ _ _ hGd, hv1]
        rw [List.getElem?_toArray, onesK_at hjk]
      have hfit : k + (ints (List.replicate d 1)).length ≤ (onesK n k).toArray.size := by rw [hcl2, List.size_toArray, onesK_len hk]; exact hd1.2
      have hone : ∀ v ∈ ints (List.replicate d 1), v.oneCell' = true := ints_cells _
      have hput : (onesK n k).toArray.toList.take k ++ (ints (List.replicate d 1) ++ (onesK n k).toArray.toList.drop (k + (ints (List.replicate d 1)).length)) = onesK n (k + d) := by rw [hcl2]; exact onesK_put hd1.2
      have HP := Lib.hid hput
      have HCL := Lib.hid hcl2
      have hwk : IntKind.i64.wrap ((k : Int) + (d : Int)) = (k : Int) + (d : Int) := IntWalk.i64_in _ (by omega)
      have HD := Lib.hid hd
      have hnk : ¬ n = k := by omega
      have HMIN := Lib.hid hcl
      clear hd hput hcl2 hcl
      go_wp2_with fail
      go_region_law (go_loud (refine step_copy_row (by rfl) (.tmp 41) (.tmp 44) 53 53 (by rfl) 68 Tryz.underlying53 info_numS w.heap.size k (n - k) (n - k) ⟨w.heap.size, 0, none⟩ k n (by simp [Act.eval, Act.put, hnk]) (by simp [Act.eval, Act.put]) (onesK n k).toArray 68 hGd (ints (List.replicate d 1)) (by exact HMIN.out) hsrc hfit hone ?_); rw [HP.out, HCL.out])
      obtain ⟨W3, hW3⟩ : ∃ W3, W3 = wr.drew.setRow w.heap.size (onesK n (k + d)).toArray := ⟨_, rfl⟩
      have hg3 : Hid (W3.heap[w.heap.size]? = some (.cells (onesK n (k + d)).toArray 68 (0, 0))) := by rw [hW3]; exact setRow_heap _ _ _ _ _ _ hGd
      have hB3 : Hid (Below w.heap.size w W3) := by rw [hW3]; exact below_setRow HBr.out.drew (Nat.le_refl _) _
      rw [← hW3]
      clear hW3 hGd hsrc hfit hone HG HBr HP HCL HMIN HD
      simp only [Act.put, List.setIfInBounds_toArray, List.set_cons_succ, List.set_cons_zero, List.getElem_toArray, List.getElem_cons_zero, List.getElem_cons_succ]
      go_wp2
      go_roundw
      case rel => exact ⟨k + d, by omega, by omega, by go_num, hg3, hB3⟩
      case measure => simp [intOf]; omega
    · obtain rfl : k = n := by omega
      have GO : Hid (NewRow 68 k (ints (List.replicate k 1)) w (.returned (.slice (some ⟨w.heap.size, 0, none⟩) k k)) wr) := by
        refine ⟨_, _, rfl, ⟨by simp [ints, intsK], .inr ⟨w.heap.size, k, _, rfl, Nat.le_refl _, HG.out, Nat.le_refl _, by simp only [maxLen]; omega, by rw [List.size_toArray, onesK_len (Nat.le_refl _), Nat.mul_one], ?_⟩⟩, HBr.out⟩
        rw [onesK_all, Nat.mul_one, List.take_of_length_le (by simp [ints, intsK])]
      go_wp2
      go_ret
      exact GO.out
end Go.Proofs.YtpngohklicgbjaaGreat
/-
  A list beside a code, as a function of this program hands it back.
-/
namespace Go.Proofs.YtpngohklicgbjaaGreat
open Go.RowKit Fld
set_option linter.unusedVariables false
set_option linter.unusedSimpArgs false
set_option maxRecDepth 100000

theorem OwnR.drewN {w : World} {lo hi : Nat} {T : TypeId} {v : Value} {n : Nat} {vs : List Value} (h : OwnR w lo hi T v n vs) (k : Nat) : OwnR (w.drewN k) lo hi T v n vs := h.keep fun _ _ _ => rfl
/-- a list that the call owns, beside a code -/
def ResL (r : List Int × Int) (w : World) (e : Ending) (w' : World) : Prop :=
  r.1.length ≤ 1048576 ∧ ∃ A c, e = .returned (.tuple #[.slice A r.1.length c, .int .i64 r.2]) ∧ w'.ownsRow w.heap.size 2 1 (.slice A r.1.length c) r.1.length (ints r.1) ∧ Below w.heap.size w w'
theorem ResL.nil {r : List Int × Int} {w w' : World} {k : Int} (h : r = ([], k)) (hb : Below w.heap.size w w') : ResL r w (.returned (.tuple #[.slice none 0 0, .int .i64 k])) w' := by
  subst h
  exact ⟨Nat.zero_le _, none, 0, rfl, World.ownsRow_nil .., hb⟩
theorem ResL.of {r : List Int × Int} {w w' : World} {A : Option Addr} {n c : Nat} {xs : List Int} {k : Int} (h : r = (xs, k)) (hl : xs.length = n) (hn : n ≤ 1048576)
    (ho : w'.ownsRow w.heap.size 2 1 (.slice A n c) n (ints xs)) (hb : Below w.heap.size w w') : ResL r w (.returned (.tuple #[.slice A n c, .int .i64 k])) w' := by
  subst h; subst hl
  exact ⟨hn, A, c, rfl, ho, hb⟩
/-- a number beside a code -/
def ResI (r : Int × Int) (w : World) (e : Ending) (w' : World) : Prop :=
  e = .returned (.tuple #[.int .i64 r.1, .int .i64 r.2]) ∧ Below w.heap.size w w'
/-- a test -/
def ResB (b : Bool) (w : World) (e : Ending) (w' : World) : Prop := e = .returned (.bool b) ∧ Below w.heap.size w w'
end Go.Proofs.YtpngohklicgbjaaGreat
/-
  The nodes of a tableau: the program's and the model's.
-/
namespace Go.Proofs.YtpngohklicgbjaaGreat
open Go.RowKit Fld
set_option linter.unusedVariables false
set_option linter.unusedSimpArgs false
set_option maxRecDepth 100000

/-- the products of the rows with a list -/
def appL (m : List (List Int)) (v : List Int) : List Int := m.map fun r => dotK r v v.length
theorem appL_length (m : List (List Int)) (v : List Int) : (appL m v).length = m.length := by simp [appL]
theorem appL_at {m : List (List Int)} {v r : List Int} {k n : Nat} (h : m[k]? = some r) (hv : v.length = n) : (appL m v)[k]? = some (dotK r v n) := by
  unfold appL; rw [List.getElem?_map, h, ← hv]; rfl
theorem appL_num (m : List (List Int)) (v : List Int) : allNum (appL m v) = true := by
  rw [allNum_iff]
  intro x hx
  unfold appL at hx
  obtain ⟨r, _, rfl⟩ := List.mem_map.1 hx
  exact dotK_bd r v _
theorem Filling.drewN {w wr : World} {T : TypeId} {n k : Nat} {xs : List Int} (h : Filling w T n xs k wr) (j : Nat) : Filling w T n xs k (wr.drewN j) := ⟨h.1, below_drewN h.2 j⟩
theorem info_appN : (Tryz.prog.info? 68).map (fun i => (i.zero, i.size, i.bytes)) = some (some (.int .i64 0), 1, 8) := by kernel_rfl
set_option maxHeartbeats 1000000 in
theorem applied_any (A D A2 : Option Addr) (n c n' d c2 B B2 : Nat) (m : List (List Int)) (v : List Int) (w : World) (hl : m.length = n) (hn : n ≤ 8) (hq : Wide m n) (hnum : ∀ r ∈ m, allNum r = true) (hv : v.length = n) (hvn : allNum v = true) (hB : B ≤ w.heap.size) (hB2 : B2 ≤ w.heap.size) (h : Mat w B A m) (h2 : Row w B2 A2 (ints v)) :
    Calls Tryz.prog 53 #[.agg #[.slice A n c, .slice D n' d], .slice A2 n c2] w (NewRow 68 n (ints (appL m v)) w) := by
  obtain ⟨i0, hi, hz0, hz1, hz2⟩ := info_parts info_appN
  have HL := Lib.hid hl
  have HQ := Lib.hid hq
  have HN := Lib.hid hnum
  have HV := Lib.hid hv
  have HVN := Lib.hid hvn
  have HAL : Hid ((appL m v).length = n) := (appL_length m v).trans hl
  obtain ⟨W0, hW0⟩ : ∃ W0, W0 = w.alloc (.cells #[.slice A n c, .slice D n' d] 57) := ⟨_, rfl⟩
  have HB : Hid (Below w.heap.size w W0) := by rw [hW0]; exact (Below.refl _ _).alloc (Nat.le_refl _) _
  have HX : Bx W0 w.heap.size 57 (.slice A n c) (.slice D n' d) := by rw [hW0]; exact Bx.new _ _ _ _
  have hz := HB.out.size
  have HM := Lib.hid (h.below HB.out hB)
  have HR2 := Lib.hid (h2.below HB.out hB2)
  have HXX := Lib.hid HX
  have q0 := HX.c0
  clear hl hq hnum hv hvn h h2 HX
  go_enter Tryz.func53, Tryz.ntmps53
  go_wp2_with (at_make; rw [← hW0]; clear hW0; refine wpList_make_full _ rfl (.tmp 10) (.tmp 10) 53 rfl W0.heap.size 68 i0 _ 1 Tryz.underlying53 hi hz0 hz1 .i64 .i64 _ _ n rfl rfl rfl rfl (by rw [hz2]; omega) (by simp only [maxLen]; omega) (Nat.le_refl _) ?_; intro w1 hown hg; have q1 := (HXX.out.next ((Below.refl _ _).grown hg (Nat.le_refl _) (fun k hk => by cases hk))).c0)
  have F0 := Filling.start (xs := appL m v) hown hg
  clear hown hg hz0 hz1 hz2 hi q0 q1
  go_loopw [15] (fun i wr => ∃ k : Nat, k ≤ n ∧ i = .int .i64 k ∧ Filling W0 68 n (appL m v) k wr) (fun i _ => n - (intOf i).toNat)
  case atStart => exact ⟨0, Nat.zero_le _, rfl, F0⟩
  case round =>
    obtain ⟨k, hk, rfl, HF⟩ := hrel
    by_cases hlt : k < n
    · obtain ⟨r, hr⟩ := at_lt (show k < m.length by rw [HL.out]; exact hlt)
      have hrq := HQ.out.at_ hr
      have hrn := HN.out r (List.mem_of_getElem? hr)
      obtain ⟨b, o, Ak, ck, rfl, _, hc, _, _, hrow⟩ := HM.out.below HF.2 (by omega) k r hr
      have hzr := HF.2.size
      have hf := HF.1.frozenAt k
      have ho := fill_at' HF HAL.out hlt
      rw [hrq] at hc
      have hf' : ∀ j, (wr.drewN j).frozen? ⟨W0.heap.size, k, none⟩ = false := fun j => hf
      have ho' : ∀ j, (wr.drewN j).cell? ⟨W0.heap.size, k, none⟩ = some (.int .i64 0) := fun j => ho
      have HDT := dotOf_any Ak A2 n ck c2 B B2 r v wr hrq HV.out (by omega) hrow (HR2.out.below HF.2 (by omega)) hrn HVN.out
      have G := fun j => Lib.hid ((HF.drewN j).step HAL.out (appL_at hr HV.out))
      clear hr hrq hrn F0 HF hrow
      go_wp2_with fail
      refine HDT.mono ?_
      rintro e w2 ⟨rfl, j, rfl⟩
      have G1 := G j
      have z1 := hf' j
      have z2 := ho' j
      clear HDT G hf' ho' hf ho
      go_wp2
      go_roundw
      case rel => exact ⟨k + 1, by omega, by go_num, G1.out⟩
      case measure => simp [intOf]; omega
    · obtain rfl : k = n := by omega
      have G := Lib.hid ((HF.done HAL.out).after HB.out)
      clear HF F0
      go_wp2
      go_ret
      exact G.out
set_option maxHeartbeats 1000000 in
theorem ones_any (A D : Option Addr) (n c n' d : Nat) (w : World) (hn1 : 1 ≤ n') (hn : n' ≤ 8) :
    Calls Tryz.prog 52 #[.agg #[.slice A n c, .slice D n' d]] w (NewRow 68 n' (ints (List.replicate n' 1)) w) := by
  have HB : Hid (Below w.heap.size w (w.alloc (.cells #[.slice A n c, .slice D n' d] 57))) := (Below.refl _ _).alloc (Nat.le_refl _) _
  have HB2 : Hid (Below w.heap.size w ((w.alloc (.cells #[.slice A n c, .slice D n' d] 57)).alloc (.cells #[.int .i64 1] 68))) := HB.out.alloc HB.out.size _
  go_enter Tryz.func52, Tryz.ntmps52
  go_wp2_with fail
  refine (repeat_any _ _ _ n' _ hn1 hn (Nat.le_refl _) (show Row _ _ _ [Value.int .i64 1] from by have := Row.new (w.alloc (.cells #[.slice A n c, .slice D n' d] 57)) 68 [Value.int .i64 1]; simpa using this)).mono ?_
  rintro e w3 ⟨A3, c3, rfl, own3, b3⟩
  have G : Hid (NewRow 68 n' (ints (List.replicate n' 1)) w (.returned (.slice A3 n' c3)) w3) := NewRow.after HB2.out ⟨A3, c3, rfl, own3, b3⟩
  clear own3 b3
  go_wp2
  go_ret
  exact G.out
theorem Growing.drewN {w wr : World} {T : TypeId} {g j cap : Nat} {vs : List Value} (h : Growing w T g j cap vs wr) (i : Nat) : Growing w T g j cap vs (wr.drewN i) := ⟨h.1, below_drewN h.2 i⟩
theorem grow_ones (j : Nat) : ints (List.replicate j 1) ++ [.int .i64 1] = ints (List.replicate (j + 1) 1) := by
  simp [ints, intsK, List.replicate_succ']
set_option maxHeartbeats 1000000 in
theorem l09Ones_any (n : Nat) (w : World) (hn : n ≤ 8) : Calls Tryz.prog 57 #[.int .i64 (n : Int)] w (NewRow 2 n (ints (List.replicate n 1)) w) := by
  obtain ⟨i0, hi, hz0, hz1, hz2⟩ := info_parts info_i64
  go_enter Tryz.func57, Tryz.ntmps57
  go_wp2_with fail
  go_loopw [0, 3] (fun i v wr => ∃ j g cap : Nat, j ≤ n ∧ v = .slice (some ⟨g, 0, none⟩) j cap ∧ i = .int .i64 ((n : Int) - j) ∧ Growing w 2 g j cap (ints (List.replicate j 1)) wr) (fun i _ _ => (intOf i).toNat)
  case atStart => exact ⟨0, _, 0, Nat.zero_le _, rfl, by simp, Growing.start ..⟩
  case round =>
    obtain ⟨j, g, cap, hj, rfl, rfl, HF⟩ := hrel
    by_cases hlt : j < n
    · have HF' := Lib.hid HF
      have hown := HF.1
      have hpos : (0 : Int) < (n : Int) - j := by omega
      have hwr : IntKind.i64.wrap ((n : Int) - j - 1) = (n : Int) - j - 1 := IntWalk.i64_in _ (by omega)
      have HC := Lib.hid (grow_ones j)
      clear HF
      go_wp2_with (at_builtin; refine wpList_append_lies _ rfl (.tmp 9) (.tmp 10) 25 rfl w.heap.size 2 i0 _ 1 8 Tryz.underlying25 hi hz0 hz1 hz2 rfl (by omega) (.slice (some ⟨g, 0, none⟩) j cap) j (ints (List.replicate j 1)) rfl (hown.alloc _) ⟨wr.heap.size, 0, none⟩ 1 1 [.int .i64 1] rfl rfl (World.news_of_block (cs := #[.int .i64 1]) (heap_alloc_new _ _)) (by simp [Value.oneCell']) (by omega) (by simp only [maxLen]; omega) (by omega) (by simp; have := HF'.out.2.size; omega) (wr.heap.size + 1) (by simp) ?_; intro g2 cap2 w2 hown2 hgrow2 hat2 hlt2)
      rw [HC.out] at hown2
      have G := Lib.hid (HF'.out.step ((Below.refl _ _).alloc (Nat.le_refl _) _) hown2 hgrow2)
      clear hown2 hgrow2 hat2 hown
      go_wp2
      go_roundw
      case rel => exact ⟨j + 1, _, _, by omega, rfl, by push_cast; congr 1; omega, G.out⟩
      case measure => simp [intOf]; omega
    · obtain rfl : j = n := by omega
      have G := Lib.hid HF.done
      have hpos : ¬ (0 : Int) < (j : Int) - j := by omega
      clear HF
      go_wp2
      go_ret
      exact G.out
set_option maxHeartbeats 1000000 in
theorem l09Times_any (A A2 : Option Addr) (n c c2 B B2 : Nat) (m : List (List Int)) (v : List Int) (w : World) (hl : m.length = n) (hn : n ≤ 8) (hq : Wide m n) (hnum : ∀ r ∈ m, allNum r = true) (hv : v.length = n) (hvn : allNum v = true) (hB : B ≤ w.heap.size) (hB2 : B2 ≤ w.heap.size) (h : Mat w B A m) (h2 : Row w B2 A2 (ints v)) :
    Calls Tryz.prog 59 #[.slice A n c, .slice A2 n c2] w (NewRow 2 n (ints (appL m v)) w) := by
  obtain ⟨i0, hi, hz0, hz1, hz2⟩ := info_parts info_i64
  have HL := Lib.hid hl
  have HQ := Lib.hid hq
  have HN := Lib.hid hnum
  have HV := Lib.hid hv
  have HVN := Lib.hid hvn
  have HAL : Hid ((appL m v).length = n) := (appL_length m v).trans hl
  clear hl hq hnum hv hvn
  go_enter Tryz.func59, Tryz.ntmps59
  go_wp2_with fail
  go_loopw [5, 6] (fun u i wr => ∃ j g cap : Nat, j ≤ n ∧ u = .slice (some ⟨g, 0, none⟩) j cap ∧ i = .int .i64 j ∧ Growing w 2 g j cap (ints ((appL m v).take j)) wr) (fun _ i _ => n - (intOf i).toNat)
  case atStart => exact ⟨0, _, 0, Nat.zero_le _, rfl, rfl, Growing.start ..⟩
  case round =>
    obtain ⟨j, g, cap, hj, rfl, rfl, HF⟩ := hrel
    by_cases hlt : j < n
    · obtain ⟨r, hr⟩ := at_lt (show j < m.length by rw [HL.out]; exact hlt)
      have hrq := HQ.out.at_ hr
      have hrn := HN.out r (List.mem_of_getElem? hr)
      obtain ⟨b, o, Ak, ck, rfl, _, hc, _, _, hrow⟩ := h.below HF.2 (by omega) j r hr
      rw [hrq] at hc
      have HDT := l01Dot_any Ak A2 n ck c2 B B2 r v wr hrq HV.out (by omega) hrow (h2.below HF.2 (by omega)) hrn HVN.out
      have HC := Lib.hid (grow_ints (appL_at hr HV.out))
      have HF' := Lib.hid HF
      have hzr := HF.2.size
      clear hr hrq hrn HF hrow
      go_wp2_with fail
      refine HDT.mono ?_
      rintro e w2 ⟨rfl, i, rfl⟩
      have hown := (HF'.out.drewN i).1
      obtain ⟨x, hx⟩ : ∃ x, x = dotK r v n := ⟨_, rfl⟩
      rw [← hx] at HC ⊢
      clear HDT hx
      go_wp2_with (at_builtin; refine wpList_append_lies _ rfl (.tmp 14) (.tmp 21) 25 rfl w.heap.size 2 i0 _ 1 8 Tryz.underlying25 hi hz0 hz1 hz2 rfl (by omega) (.slice (some ⟨g, 0, none⟩) j cap) j (ints ((appL m v).take j)) rfl (hown.alloc _) ⟨wr.heap.size, 0, none⟩ 1 1 [.int .i64 x] rfl rfl (World.news_of_block (cs := #[.int .i64 x]) (heap_alloc_new _ _)) (by simp [Value.oneCell']) (by omega) (by simp only [maxLen]; omega) (by omega) (by simp; omega) (wr.heap.size + 1) (by simp) ?_; intro g2 cap2 w2 hown2 hgrow2 hat2 hlt2)
      rw [HC.out] at hown2
      have G := Lib.hid ((HF'.out.drewN i).step ((Below.refl _ _).alloc (Nat.le_refl _) _) hown2 hgrow2)
      clear hown2 hgrow2 hat2 hown
      go_wp2
      go_roundw
      case rel => exact ⟨j + 1, _, _, by omega, rfl, by go_num, G.out⟩
      case measure => simp [intOf]; omega
    · obtain rfl : j = n := by omega
      have e : (appL m v).take j = appL m v := List.take_of_length_le (by rw [HAL.out]; omega)
      rw [e] at HF
      have G := Lib.hid HF.done
      clear HF
      go_wp2
      go_ret
      exact G.out
/-- what NodesOf answers -/
def nodesA (m : List (List Int)) (b : List Int) : List Int × Int := if isTabB m b = true then (appL m (List.replicate b.length 1), 0) else ([], 1)
theorem ones_num (n : Nat) : allNum (List.replicate n (1 : Int)) = true := by rw [allNum_iff]; intro x hx; have := (List.mem_replicate.1 hx).2; omega
end Go.Proofs.YtpngohklicgbjaaGreat
/-
  A strings.Builder of the call's own: what its two methods answer that the program calls.
-/
namespace Go.Proofs.YtpngohklicgbjaaGreat
open Go.RowKit Fld
set_option linter.unusedVariables false
set_option linter.unusedSimpArgs false
set_option maxRecDepth 100000

theorem bld_used (b : Nat) (w : World) (h0 : w.cell? ⟨b, 0, none⟩ = some (.pointer (some ⟨b, 0, none⟩))) :
    Calls Tryz.prog 135 #[.pointer (some ⟨b, 0, none⟩)] w fun e w' => e = .returned (.tuple #[]) ∧ w' = w := by
  obtain ⟨j, hj, _⟩ := Option.map_eq_some_iff.1 Tryz.Builder_Extra_169.toX72.sizeBuilder
  go_enter Tryz.func135, Tryz.ntmps135
  go_wp2
  rw [Lib.run_neq_ptr_same w _ Tryz.underlying128 hj]
  go_wp2
  go_end0
  exact ⟨rfl, rfl⟩
theorem bld_fresh (b : Nat) (w : World) (h0 : w.cell? ⟨b, 0, none⟩ = some (.pointer none)) (hsh : w.shape? b = some (130, 2)) (hfz : w.frozen? ⟨b, 0, none⟩ = false) :
    Calls Tryz.prog 135 #[.pointer (some ⟨b, 0, none⟩)] w fun e w' => e = .returned (.tuple #[]) ∧ w' = w.setCell ⟨b, 0, none⟩ (.pointer (some ⟨b, 0, none⟩)) := by
  obtain ⟨j, hj, hjs⟩ := Option.map_eq_some_iff.1 Tryz.Builder_Extra_169.toX72.sizeBuilder
  go_enter Tryz.func135, Tryz.ntmps135
  go_wp2
  rw [Lib.run_to_unsafe w ⟨b, 0, none⟩ Tryz.underlying128 Tryz.underlying170 hj (by rw [hjs]; decide) hsh (Nat.zero_lt_succ 1)]
  simp only [Result.andThen]
  rw [Oper.upon_value]
  go_wp2
  rw [run_callFunc_extern Tryz.func147 (by kernel_rfl) (by kernel_rfl) (by kernel_rfl) (e := Extern.AbiNoEscape.same) (by kernel_rfl)]
  rw [Lib.run_noEscape]
  simp only [Result.andThen]
  rw [Oper.upon_value]
  go_wp2
  rw [Lib.run_from_unsafe w ⟨b, 0, none⟩ Tryz.underlying170 Tryz.underlying128 hj hsh Tryz.Builder_Extra_169.toX72.liesBuilder]
  simp only [Result.andThen]
  rw [Oper.upon_value]
  go_wp2
  go_end0
  exact ⟨rfl, rfl⟩
theorem bld_check (B b : Nat) (bs : List Value) (w : World) (h : Lib.IsBuilder 130 5 B b bs w) :
    Calls Tryz.prog 135 #[.pointer (some ⟨b, 0, none⟩)] w fun e w' => e = .returned (.tuple #[]) ∧ (Lib.BuilderAt 130 5 B b (.pointer (some ⟨b, 0, none⟩)) bs w' ∧ Below B w w') := by
  rcases h with h | h
  · refine (bld_fresh b w h.cell0 h.shape h.frozen0).mono ?_
    rintro e w' ⟨rfl, rfl⟩
    exact ⟨rfl, h.used _, (Below.refl B w).setCell (p := ⟨b, 0, none⟩) h.1 _⟩
  · refine (bld_used b w h.cell0).mono ?_
    rintro e w' ⟨rfl, rfl⟩
    exact ⟨rfl, h, Below.refl B _⟩
theorem info_byte : (Tryz.prog.info? 5).map (fun i => (i.zero, i.size, i.bytes)) = some (some (.int .u8 0), 1, 1) := by kernel_rfl
set_option maxHeartbeats 1000000 in
theorem bld_write (B b : Nat) (bs : List Value) (s : ByteArray) (w : World) (h : Lib.IsBuilder 130 5 B b bs w) (hlen : bs.length + s.size ≤ 1048576) (hBw : B ≤ w.heap.size) :
    Calls Tryz.prog 107 #[.pointer (some ⟨b, 0, none⟩), .string s] w fun e w' => e = .returned (.tuple #[.int .i64 s.size, .nilIface]) ∧ (Lib.BuilderAt 130 5 B b (.pointer (some ⟨b, 0, none⟩)) (bs ++ Lib.strCells s) w' ∧ Below B w w') := by
  obtain ⟨i0, hi, hz0, hz1, hz2⟩ := info_parts info_byte
  go_enter Tryz.func107, Tryz.ntmps107
  go_wp2_with (go_at_call 135; refine (bld_check B b bs _ h).mono ?_)
  rintro e w1 ⟨rfl, h1, hb1⟩
  obtain ⟨hB, v, hbk, hown, hne⟩ := h1
  have c0 : w1.cell? ⟨b, 0, none⟩ = some (.pointer (some ⟨b, 0, none⟩)) := by rw [Lib.cell_of_heap hbk]; rfl
  have c1 : w1.cell? ⟨b, 1, none⟩ = some v := by rw [Lib.cell_of_heap hbk]; rfl
  go_wp2_with (at_builtin; refine Lib.wpList_append_own_string _ rfl _ _ 22 9 rfl B 5 i0 Tryz.underlying22 Tryz.underlying9 hi hz0 hz1 hz2 _ _ _ rfl hown s rfl ?c3 ?c4 ?c5 ?_)
  case c3 => unfold maxLen; omega
  case c4 => omega
  case c5 => have := hb1.size; omega
  intro v' w2 hown' hgrow _
  have hlt : b < w1.heap.size := by
    rcases Nat.lt_or_ge b w1.heap.size with h' | h'
    · exact h'
    · simp [Array.getElem?_eq_none h'] at hbk
  have hb2 : w2.heap[b]? = some (.cells #[.pointer (some ⟨b, 0, none⟩), v] 130 (0, 0)) := by
    rw [hgrow.block b hlt (fun e => hne e.symm)]
    exact hbk
  have d0 : w2.cell? ⟨b, 0, none⟩ = some (.pointer (some ⟨b, 0, none⟩)) := by rw [Lib.cell_of_heap hb2]; rfl
  have d1 : w2.cell? ⟨b, 1, none⟩ = some v := by rw [Lib.cell_of_heap hb2]; rfl
  have f1 : w2.frozen? ⟨b, 1, none⟩ = false := Lib.frozen_of_heap hb2 1
  obtain ⟨ao, n', cap, rfl⟩ : ∃ ao n' cap, v' = .slice ao n' cap := by
    rcases hown'.2 with ⟨hv, _⟩ | ⟨g, cap, cur, hv, _⟩
    · exact ⟨_, _, _, hv⟩
    · exact ⟨_, _, _, hv⟩
  go_wp2
  go_ret2
  refine ⟨rfl, ?_, ?_⟩
  · exact Lib.BuilderAt.put (T := 130) (e := 5) hB hb2 (bs' := bs ++ Lib.strCells s) (by simpa [Lib.strCells_length] using hown') Tryz.Builder_Extra_169.neB5
  · exact (hb1.grown hgrow (by have := hb1.size; omega) (fun k hk => (hown.lt k hk).1)).setCell (p := ⟨b, 1, none⟩) hB _
end Go.Proofs.YtpngohklicgbjaaGreat
/-
  The library's sort of a few texts in a row of the call's own.
-/
namespace Go.Proofs.YtpngohklicgbjaaGreat
open Go.RowKit Fld
set_option linter.unusedVariables false
set_option linter.unusedSimpArgs false
set_option maxRecDepth 100000

def strs (ls : List (List UInt8)) : List Value := ls.map fun l => .string ⟨l.toArray⟩
theorem strs_at {ls : List (List UInt8)} {k : Nat} {l : List UInt8} (h : ls[k]? = some l) : (strs ls)[k]? = some (.string ⟨l.toArray⟩) := by
  unfold strs; rw [List.getElem?_map, h]; rfl
theorem strs_length (ls : List (List UInt8)) : (strs ls).length = ls.length := by simp [strs]
theorem strs_set (ls : List (List UInt8)) (k : Nat) (l : List UInt8) : strs (ls.set k l) = (strs ls).set k (.string ⟨l.toArray⟩) := by unfold strs; rw [List.map_set]

/-! what insertion does, in any order -/
section
variable {α : Type} {le : α → α → Bool}
def insAt (S : List α) (j : Nat) (x : α) (R : List α) : List α := S.take j ++ x :: (S.drop j ++ R)
theorem insAt_x {S R : List α} {j : Nat} {x : α} (h : j ≤ S.length) : (insAt S j x R)[j]? = some x := by
  unfold insAt
  have e : (S.take j).length = j := by rw [List.length_take]; omega
  rw [List.getElem?_append_right (by omega), e, Nat.sub_self]; rfl
theorem insAt_y {S R : List α} {j : Nat} {x y : α} (h : j + 1 ≤ S.length) (hy : S[j]? = some y) : (insAt S (j + 1) x R)[j]? = some y := by
  unfold insAt
  rw [List.getElem?_append_left (by rw [List.length_take]; omega), List.getElem?_take, if_pos (by omega)]; exact hy
theorem insAt_swap {S R : List α} {j : Nat} {x y : α} (h : j + 1 ≤ S.length) (hy : S[j]? = some y) : ((insAt S (j + 1) x R).set (j + 1) y).set j x = insAt S j x R := by
  unfold insAt
  have e : (S.take j).length = j := by rw [List.length_take]; omega
  have hd : S.drop j = y :: S.drop (j + 1) := by
    have hlt : j < S.length := by omega
    rw [List.drop_eq_getElem_cons hlt]
    rw [List.getElem?_eq_getElem hlt] at hy
    injection hy with hy
    rw [hy]
  rw [List.take_add_one, hy, hd]
  simp only [Option.toList_some, List.append_assoc, List.cons_append, List.nil_append]
  rw [List.set_append_right _ _ (by omega), e, show j + 1 - j = 1 from by omega, List.set_cons_succ, List.set_cons_zero, List.set_append_right _ _ (by omega), e, Nat.sub_self, List.set_cons_zero]
theorem insAt_start {S R : List α} {x : α} : insAt S S.length x R = S ++ x :: R := by unfold insAt; simp
theorem ins_perm (S : List α) (j : Nat) (x : α) : (S.take j ++ x :: S.drop j).Perm (x :: S) := by
  have := @List.perm_middle _ x (S.take j) (S.drop j)
  rwa [List.take_append_drop] at this
theorem ins_done (tr : ∀ {a b c : α}, le a b = true → le b c = true → le a c = true) {S : List α} {j : Nat} {x : α} (hS : S.Pairwise fun a b => le a b = true) (h1 : ∀ s ∈ S.drop j, le x s = true) (hj : j ≤ S.length) (h2 : ∀ y, 0 < j → S[j - 1]? = some y → le y x = true) : (S.take j ++ x :: S.drop j).Pairwise fun a b => le a b = true := by
  have hS' := hS
  rw [← List.take_append_drop j S, List.pairwise_append] at hS'
  obtain ⟨p1, p2, p3⟩ := hS'
  rw [List.pairwise_append, List.pairwise_cons]
  refine ⟨p1, ⟨h1, p2⟩, fun a ha b hb => ?_⟩
  rw [List.mem_cons] at hb
  rcases hb with rfl | hb
  · obtain ⟨i, hi⟩ := List.mem_iff_getElem?.1 ha
    rw [List.getElem?_take] at hi
    split at hi
    · rename_i hij
      obtain ⟨y, hy⟩ : ∃ y, S[j - 1]? = some y := ⟨_, List.getElem?_eq_getElem (by omega)⟩
      have hyx := h2 y (by omega) hy
      rcases Nat.lt_or_ge i (j - 1) with g | g
      · refine tr ?_ hyx
        have hi2 : i < S.length := by omega
        have hj2 : j - 1 < S.length := by omega
        rw [List.getElem?_eq_getElem hi2] at hi
        rw [List.getElem?_eq_getElem hj2] at hy
        injection hi with hi
        injection hy with hy
        subst hi hy
        exact List.pairwise_iff_getElem.1 hS i (j - 1) hi2 hj2 g
      · have : i = j - 1 := by omega
        subst this
        rw [hy] at hi
        injection hi with hi
        rw [← hi]; exact hyx
    · cases hi
  · exact p3 a ha b hb
theorem ins_low {S : List α} {j : Nat} {x y : α} (h1 : ∀ s ∈ S.drop (j + 1), le x s = true) (hy : S[j]? = some y) (hxy : le x y = true) : ∀ s ∈ S.drop j, le x s = true := by
  intro s hs
  have hlt : j < S.length := by
    rcases Nat.lt_or_ge j S.length with g | g
    · exact g
    · rw [List.getElem?_eq_none g] at hy; cases hy
  rw [List.drop_eq_getElem_cons hlt, List.mem_cons] at hs
  rw [List.getElem?_eq_getElem hlt] at hy
  injection hy with hy
  rcases hs with rfl | hs
  · rw [hy]; exact hxy
  · exact h1 s hs
/-- the first i of l, sorted, ahead of the others -/
structure Insd (le : α → α → Bool) (l : List α) (i : Nat) (S : List α) : Prop where
  len : S.length = i
  perm : S.Perm (l.take i)
  sorted : S.Pairwise fun a b => le a b = true
theorem Insd.one (l : List α) (h : 1 ≤ l.length) : Insd le l 1 (l.take 1) := by
  refine ⟨by rw [List.length_take]; omega, List.Perm.refl _, ?_⟩
  match l, h with
  | a :: r, _ => simp
theorem Insd.step (tr : ∀ {a b c : α}, le a b = true → le b c = true → le a c = true) {l S : List α} {i j : Nat} {x : α} (h : Insd le l i S) (hx : l[i]? = some x) (h1 : ∀ s ∈ S.drop j, le x s = true) (hj : j ≤ i) (h2 : ∀ y, 0 < j → S[j - 1]? = some y → le y x = true) : Insd le l (i + 1) (S.take j ++ x :: S.drop j) := by
  refine ⟨?_, ?_, ins_done (le := le) tr h.sorted h1 (by rw [h.len]; exact hj) h2⟩
  · have := (ins_perm S j x).length_eq
    rw [this, List.length_cons, h.len]
  · rw [List.take_add_one, hx]
    refine (ins_perm S j x).trans (((h.perm).cons x).trans ?_)
    exact (List.perm_append_singleton x _).symm
theorem Insd.eq (asy : ∀ {a b : α}, le a b = true → le b a = true → a = b) {l S : List α} {n : Nat} (h : Insd le l n S) (hl : l.length = n) {T : List α} (hp : T.Perm l) (hT : T.Pairwise fun a b => le a b = true) : S = T := by
  have p := h.perm
  rw [List.take_of_length_le (by omega)] at p
  exact List.Perm.eq_of_pairwise (le := fun a b => le a b = true) (fun a b _ _ h1 h2 => asy h1 h2) h.sorted hT (p.trans hp.symm)
end

theorem treeNaN_any (x : ByteArray) (w : World) : Calls Tryz.prog 120 #[.string x] w fun e w' => e = .returned (.bool false) ∧ w = w' := by
  go_enter Tryz.func120, Tryz.ntmps120
  go_wp2
  go_ret
  exact ⟨by simp, rfl⟩
theorem less_eq (x y : List UInt8) : Op.bytesLess x y = !Tr.leS y x := by
  induction x generalizing y with
  | nil => cases y <;> rfl
  | cons a x ih =>
    cases y with
    | nil => rfl
    | cons b y =>
      rw [Op.bytesLess, Tr.leS, ih]
      by_cases e : a = b
      · subst e; simp
      · have e' : ¬ b = a := fun h => e h.symm
        simp only [e, e', if_false, decide_false, Bool.false_and, Bool.or_false]
        rcases Nat.lt_or_ge a.toNat b.toNat with g | g
        · have h1 : a < b := UInt8.lt_iff_toNat_lt.2 g
          have h2 : ¬ b < a := fun h => by have := UInt8.lt_iff_toNat_lt.1 h; omega
          simp [h1, h2]
        · have h3 : a.toNat ≠ b.toNat := fun h => e (UInt8.toNat_inj.1 h)
          have h1 : b < a := UInt8.lt_iff_toNat_lt.2 (by omega)
          have h2 : ¬ a < b := fun h => by have := UInt8.lt_iff_toNat_lt.1 h; omega
          simp [h1, h2]
          exact fun h => absurd h e
theorem treeLess_any (x y : List UInt8) (w : World) : Calls Tryz.prog 132 #[.string ⟨x.toArray⟩, .string ⟨y.toArray⟩] w fun e w' => e = .returned (.bool (!Tr.leS y x)) ∧ w = w' := by
  go_enter Tryz.func132, Tryz.ntmps132
  go_wp2_with (go_at_call 120; refine (treeNaN_any _ _).mono ?_; rintro e w' ⟨rfl, rfl⟩)
  go_ret
  exact ⟨ret_bool (less_eq x y), rfl⟩
/-- a row of texts that a sort turns -/
def Srow (base g n cap : Nat) (w : World) (ls : List (List UInt8)) (wr : World) : Prop := wr.ownsRow base 60 1 (.slice (some ⟨g, 0, none⟩) n cap) n (strs ls) ∧ w.grownBy wr (some g)
theorem Srow.swap {base g n cap j : Nat} {w wr : World} {ls : List (List UInt8)} {x y : List UInt8} (h : Srow base g n cap w ls wr) :
    Srow base g n cap w ((ls.set (j + 1) y).set j x) ((wr.setCell ⟨g, j + 1, none⟩ (.string ⟨y.toArray⟩)).setCell ⟨g, j, none⟩ (.string ⟨x.toArray⟩)) := by
  obtain ⟨h1, h2⟩ := h.1.stored (j + 1) (.string ⟨y.toArray⟩)
  obtain ⟨h3, h4⟩ := h1.stored j (.string ⟨x.toArray⟩)
  rw [← strs_set, ← strs_set] at h3
  exact ⟨h3, grownBy_trans h.2 (grownBy_trans h2 h4)⟩
theorem Srow.drewN {base g n cap : Nat} {w wr : World} {ls : List (List UInt8)} (h : Srow base g n cap w ls wr) (m : Nat) : Srow base g n cap w ls (wr.drewN m) := ⟨h.1, ⟨h.2.os, h.2.tape, h.2.output, h.2.size, h.2.block⟩⟩
set_option maxHeartbeats 1000000 in
theorem treeInsert_any (base g n cap : Nat) (ss : List (List UInt8)) (w : World) (hl : ss.length = n) (h1 : 1 ≤ n) (hn : n ≤ 12) (h : w.ownsRow base 60 1 (.slice (some ⟨g, 0, none⟩) n cap) n (strs ss)) :
    Calls Tryz.prog 126 #[.slice (some ⟨g, 0, none⟩) n cap, .int .i64 0, .int .i64 n] w fun e w' => e = .returned (.tuple #[]) ∧ Srow base g n cap w (Tr.sortS ss) w' := by
  have HL := Lib.hid hl
  have F0 : Hid (Srow base g n cap w (ss.take 1 ++ ss.drop 1) w) := by rw [Hid, List.take_append_drop]; exact ⟨h, World.grownBy.refl _ _⟩
  have I0 := Lib.hid (Insd.one (le := Tr.leS) ss (by omega))
  clear hl h
  go_enter Tryz.func126, Tryz.ntmps126
  go_wp2_with fail
  go_loopw [6] (fun i wr => ∃ (k : Nat) (S : List (List UInt8)), 1 ≤ k ∧ k ≤ n ∧ i = .int .i64 k ∧ Hid (Insd Tr.leS ss k S) ∧ Srow base g n cap w (S ++ ss.drop k) wr) (fun i _ => n - (intOf i).toNat)
  case atStart => exact ⟨1, _, Nat.le_refl _, h1, rfl, I0, F0.out⟩
  case round =>
    obtain ⟨i, S, i1, hi, rfl, HI, HF⟩ := hrel
    by_cases hlt : i < n
    · obtain ⟨x, hx⟩ := at_lt (show i < ss.length by rw [HL.out]; exact hlt)
      have HX := Lib.hid hx
      have hin : Hid (∀ j T W, j ≤ i → Srow base g n cap w (insAt S j x (ss.drop (i + 1))) W → Insd Tr.leS ss (i + 1) T → T = S.take j ++ x :: S.drop j → Srow base g n cap w (T ++ ss.drop (i + 1)) W) := by
        intro j T W hj hW hT e
        subst e
        unfold insAt at hW
        simpa using hW
      have F1 : Hid (Srow base g n cap w (insAt S i x (ss.drop (i + 1))) wr) := by
        rw [Hid]
        have e := insAt_start (S := S) (R := ss.drop (i + 1)) (x := x)
        rw [HI.out.len] at e
        rw [e]
        have e2 : ss.drop i = x :: ss.drop (i + 1) := by
          have hlt2 : i < ss.length := by rw [HL.out]; exact hlt
          rw [List.drop_eq_getElem_cons hlt2]
          rw [List.getElem?_eq_getElem hlt2] at hx
          injection hx with hx
          rw [hx]
        rw [← e2]; exact HF
      clear hx HF F0 I0
      go_wp2_with fail
      go_loopw [7] (fun jj wr => ∃ j : Nat, j ≤ i ∧ jj = .int .i64 j ∧ Hid (∀ s ∈ S.drop j, Tr.leS x s = true) ∧ Srow base g n cap w (insAt S j x (ss.drop (i + 1))) wr) (fun jj _ => (intOf jj).toNat)
      case atStart => exact ⟨i, Nat.le_refl _, rfl, (fun s hs => by rw [List.drop_of_length_le (by rw [HI.out.len]; exact Nat.le_refl _)] at hs; cases hs), F1.out⟩
      case round =>
        obtain ⟨j, hj, rfl, HD, HF⟩ := hrel
        by_cases h0 : j = 0
        · have G : Hid (∃ T, Insd Tr.leS ss (i + 1) T ∧ Srow base g n cap w (T ++ ss.drop (i + 1)) wr) :=
            have hT := HI.out.step (le := Tr.leS) Tr.leS_tr HX.out HD.out hj (fun y hy => by omega)
            ⟨_, hT, hin.out j _ _ hj HF hT rfl⟩
          obtain rfl : j = 0 := h0
          obtain ⟨T, hT, hW⟩ := G.out
          have GT := Lib.hid hT
          have GW := Lib.hid hW
          clear HF HD F1 G hT hW hin
          go_wp2_with fail
          go_quiet (fail)
          go_wp2
          go_roundw
          case rel => exact ⟨i + 1, T, by omega, by omega, by go_num, GT, GW.out.drewN _⟩
          case measure => simp [intOf]; omega
        · obtain ⟨k, rfl⟩ : ∃ k, j = k + 1 := ⟨j - 1, by omega⟩
          obtain ⟨y, hy⟩ := at_lt (show k < S.length by rw [HI.out.len]; omega)
          have hjl : k + 1 ≤ S.length := by rw [HI.out.len]; exact hj
          have c1 := HF.1.cellAt (k + 1) (by omega)
          have c2 := HF.1.cellAt k (by omega)
          have f1 := HF.1.frozenAt (k + 1)
          have f2 := HF.1.frozenAt k
          rw [strs_at (insAt_x hjl)] at c1
          rw [strs_at (insAt_y hjl hy)] at c2
          have hd : decide ((0 : Int) < (k : Int) + 1) = true := decide_eq_true (by omega)
          cases hyx : Tr.leS y x
          · have HD2 : Hid (∀ s ∈ S.drop k, Tr.leS x s = true) := ins_low HD.out hy (Tr.leS_to hyx)
            have HS : Hid (insAt S k x (ss.drop (i + 1)) = ((insAt S (k + 1) x (ss.drop (i + 1))).set (k + 1) y).set k x) := (insAt_swap hjl hy).symm
            have G : Hid (∀ m, Srow base g n cap w (insAt S k x (ss.drop (i + 1))) (((wr.drewN m).setCell ⟨g, k + 1, none⟩ (.string ⟨y.toArray⟩)).setCell ⟨g, k, none⟩ (.string ⟨x.toArray⟩))) := fun m => by rw [HS.out]; exact (HF.drewN m).swap
            clear HF HD F1 hjl hy hin h0 HS
            have C0 : ∀ w : World, Calls Tryz.prog 132 #[.string ⟨x.toArray⟩, .string ⟨y.toArray⟩] w fun e w' => e = .returned (.bool true) ∧ w = w' := fun w => by have := treeLess_any x y w; rw [hyx] at this; exact this
            go_wp2_with fail
            go_quiet ((go_at_call 132; exact quietL (C0 _)))
            go_wp2_with fail
            go_region
            go_wp2
            go_roundw
            case rel => exact ⟨k, by omega, by go_num, HD2, G.out _⟩
            case measure => simp [intOf]
          · have G : Hid (∃ T, Insd Tr.leS ss (i + 1) T ∧ Srow base g n cap w (T ++ ss.drop (i + 1)) wr) :=
              have hT := HI.out.step (le := Tr.leS) Tr.leS_tr HX.out HD.out hj (fun z _ hz => by rw [Nat.add_sub_cancel, hy] at hz; injection hz with hz; rw [← hz]; exact hyx)
              ⟨_, hT, hin.out (k + 1) _ _ hj HF hT rfl⟩
            obtain ⟨T, hT, hW⟩ := G.out
            have GT := Lib.hid hT
            have GW := Lib.hid hW
            clear HF HD F1 G hT hW hin hjl hy h0
            have C0 : ∀ w : World, Calls Tryz.prog 132 #[.string ⟨x.toArray⟩, .string ⟨y.toArray⟩] w fun e w' => e = .returned (.bool false) ∧ w = w' := fun w => by have := treeLess_any x y w; rw [hyx] at this; exact this
            go_wp2_with fail
            go_quiet ((go_at_call 132; exact quietL (C0 _)))
            go_wp2
            go_roundw
            case rel => exact ⟨i + 1, T, by omega, by omega, by go_num, GT, GW.out.drewN _⟩
            case measure => simp [intOf]; omega
    · obtain rfl : i = n := by omega
      have G : Hid (Srow base g i cap w (Tr.sortS ss) wr) := by
        have e := HI.out.eq (fun h k => Tr.leS_as h k) HL.out (Tr.sortS_perm ss) (Tr.sortS_sorted ss)
        rw [e, List.drop_of_length_le (by rw [HL.out]; exact Nat.le_refl _), List.append_nil] at HF
        exact HF
      clear HF F0 HI I0
      go_wp2
      go_end0
      exact ⟨rfl, G.out⟩
theorem bitsLen_any (n : Nat) (hn : n ≤ 12) (w : World) : Calls Tryz.prog 118 #[.int .u64 n] w fun e w' => (∃ l : Int, e = .returned (.int .i64 l)) ∧ w = w' := by
  have h : n = 0 ∨ n = 1 ∨ n = 2 ∨ n = 3 ∨ n = 4 ∨ n = 5 ∨ n = 6 ∨ n = 7 ∨ n = 8 ∨ n = 9 ∨ n = 10 ∨ n = 11 ∨ n = 12 := by omega
  rcases h with rfl | rfl | rfl | rfl | rfl | rfl | rfl | rfl | rfl | rfl | rfl | rfl | rfl
  all_goals
    go_enter Tryz.func118, Tryz.ntmps118
    go_wp2
    go_ret
    exact ⟨⟨_, rfl⟩, rfl⟩
theorem bitsLen (n : Nat) (hn : n ≤ 12) (w : World) : Calls Tryz.prog 90 #[.int .u64 n] w fun e w' => (∃ l : Int, e = .returned (.int .i64 l)) ∧ w = w' := by
  go_enter Tryz.func90, Tryz.ntmps90
  go_wp2_with fail
  refine (bitsLen_any n hn _).mono ?_
  rintro e w' ⟨⟨l, rfl⟩, rfl⟩
  go_wp2
  go_ret
  exact ⟨⟨_, rfl⟩, rfl⟩
/-- what a sort leaves -/
def Sorted (base n : Nat) (v : Value) (w : World) (ls : List (List UInt8)) (e : Ending) (w' : World) : Prop := e = .returned (.tuple #[]) ∧ w'.ownsRow base 60 1 v n (strs ls) ∧ w.grownBy w' v.ownBlock
theorem treeInsert_all (A : Option Addr) (base n c : Nat) (ss : List (List UInt8)) (w : World) (hn : n ≤ 12) (h : w.ownsRow base 60 1 (.slice A n c) n (strs ss)) :
    Calls Tryz.prog 126 #[.slice A n c, .int .i64 0, .int .i64 n] w (Sorted base n (.slice A n c) w (Tr.sortS ss)) := by
  have hl : ss.length = n := by rw [← strs_length]; exact own_len h
  rcases Nat.eq_zero_or_pos n with h0 | h0
  · subst h0
    have e : ss = [] := List.eq_nil_of_length_eq_zero hl
    subst e
    clear hl
    go_enter Tryz.func126, Tryz.ntmps126
    go_wp2_with fail
    go_loopw [6] (fun i wr => i = .int .i64 1 ∧ wr = w) (fun i _ => 0)
    case atStart => exact ⟨rfl, rfl⟩
    case round =>
      obtain ⟨rfl, rfl⟩ := hrel
      go_wp2
      go_end0
      exact ⟨rfl, h, World.grownBy.refl _ _⟩
  · obtain ⟨g, cap, hv⟩ := own_form h h0
    injection hv with hA _ hcap
    subst hA hcap
    refine (treeInsert_any base g n c ss w hl h0 hn h).mono ?_
    rintro e w' ⟨rfl, h1, h2⟩
    exact ⟨rfl, h1, h2⟩
theorem treePdq_any (A : Option Addr) (base n c : Nat) (ss : List (List UInt8)) (l : Int) (w : World) (hn : n ≤ 12) (h : w.ownsRow base 60 1 (.slice A n c) n (strs ss)) :
    Calls Tryz.prog 106 #[.slice A n c, .int .i64 0, .int .i64 n, .int .i64 l] w (Sorted base n (.slice A n c) w (Tr.sortS ss)) := by
  go_enter Tryz.func106, Tryz.ntmps106
  go_wp2_with fail
  go_loopw [1, 2] (fun a b wr => a = .int .i64 0 ∧ b = .int .i64 n ∧ wr = w) (fun _ _ _ => 0)
  case atStart => exact ⟨rfl, rfl, rfl⟩
  case round =>
    obtain ⟨rfl, rfl, rfl⟩ := hrel
    go_wp2_with fail
    refine (treeInsert_all A base n c ss _ hn h).mono ?_
    rintro e w' ⟨rfl, h1, h2⟩
    go_wp2
    go_end0
    exact ⟨rfl, h1, h2⟩
theorem treeSort_any (A : Option Addr) (base n c : Nat) (ss : List (List UInt8)) (w : World) (hn : n ≤ 12) (h : w.ownsRow base 60 1 (.slice A n c) n (strs ss)) :
    Calls Tryz.prog 84 #[.slice A n c] w (Sorted base n (.slice A n c) w (Tr.sortS ss)) := by
  go_enter Tryz.func84, Tryz.ntmps84
  go_wp2_with fail
  refine (bitsLen n hn _).mono ?_
  rintro e w' ⟨⟨l, rfl⟩, rfl⟩
  go_wp2_with fail
  refine (treePdq_any A base n c ss l _ hn h).mono ?_
  rintro e w' ⟨rfl, h1, h2⟩
  go_wp2
  go_end0
  exact ⟨rfl, h1, h2⟩
end Go.Proofs.YtpngohklicgbjaaGreat
/-
  Texts of trees: one after the other, and the tree on some branches.
-/
namespace Go.Proofs.YtpngohklicgbjaaGreat
open Go.RowKit Fld
set_option linter.unusedVariables false
set_option linter.unusedSimpArgs false
set_option maxRecDepth 100000

theorem bytes_S (l : List UInt8) : Lib.strCells ⟨l.toArray⟩ = Lib.byteCells l := rfl
theorem size_S (l : List UInt8) : (⟨l.toArray⟩ : ByteArray).size = l.length := by simp [ByteArray.size]
theorem flat_take {ss : List (List UInt8)} {k : Nat} {x : List UInt8} (h : ss[k]? = some x) : (ss.take (k + 1)).flatten = (ss.take k).flatten ++ x := by
  rw [List.take_add_one, h]; simp
theorem flat_le (ss : List (List UInt8)) (k : Nat) : (ss.take k).flatten.length ≤ ss.flatten.length := by
  have : ss.flatten = (ss.take k).flatten ++ (ss.drop k).flatten := by rw [← List.flatten_append, List.take_append_drop]
  rw [this, List.length_append]; omega
theorem textOf_any (A : Option Addr) (n c B : Nat) (ss : List (List UInt8)) (w : World) (hl : ss.length = n) (hn : n ≤ 1048576) (ht : ss.flatten.length ≤ 1048576) (hB : B ≤ w.heap.size) (h : Row w B A (strs ss)) :
    Calls Tryz.prog 85 #[.slice A n c] w fun e w' => e = .returned (.string ⟨ss.flatten.toArray⟩) ∧ Below w.heap.size w w' := by
  have HL := Lib.hid hl
  have HT := Lib.hid ht
  clear hl ht
  go_enter Tryz.func85, Tryz.ntmps85
  go_wp2_with fail
  go_loopw [8] (fun i wr => ∃ k : Nat, k ≤ n ∧ i = .int .i64 k ∧ Lib.IsBuilder 130 5 w.heap.size w.heap.size (Lib.byteCells (ss.take k).flatten) wr ∧ Below w.heap.size w wr) (fun i _ => n - (intOf i).toNat)
  case atStart => exact ⟨0, Nat.zero_le _, rfl, Lib.fresh_isBuilder _ _ _, (Below.refl _ _).alloc (Nat.le_refl _) _⟩
  case round =>
    obtain ⟨k, hk, rfl, HI, HB⟩ := hrel
    have hsz := HB.size
    by_cases hlt : k < n
    · obtain ⟨x, hx⟩ := at_lt (show k < ss.length by rw [HL.out]; exact hlt)
      obtain ⟨b, o, rfl, _, hc⟩ := h.below HB hB k _ (strs_at hx)
      have HX := Lib.hid (flat_take hx)
      have hsx : (⟨x.toArray⟩ : ByteArray).size = x.length := size_S x
      have hle : (Lib.byteCells (ss.take k).flatten).length + (⟨x.toArray⟩ : ByteArray).size ≤ 1048576 := by
        have h1 := flat_le ss (k + 1)
        rw [HX.out, List.length_append] at h1
        have := HT.out
        rw [Lib.byteCells_length, size_S]; omega
      have HI' := Lib.hid HI
      have HB' := Lib.hid HB
      clear hx HI HB hsx
      go_wp2_with fail
      refine (bld_write w.heap.size w.heap.size _ _ _ HI'.out hle hsz).mono ?_
      rintro e w2 ⟨rfl, h1, b1⟩
      have G : Hid (Lib.IsBuilder 130 5 w.heap.size w.heap.size (Lib.byteCells (ss.take (k + 1)).flatten) w2) := by
        rw [Hid, HX.out, Lib.byteCells_append]; exact .inr h1
      have GB := Lib.hid (HB'.out.trans b1)
      clear h1 b1 HI' HB'
      go_wp2
      go_roundw
      case rel => exact ⟨k + 1, by omega, by go_num, G.out, GB.out⟩
      case measure => simp [intOf]; omega
    · obtain rfl : k = n := by omega
      rw [List.take_of_length_le (by rw [HL.out]; exact Nat.le_refl _)] at HI
      have HB' := Lib.hid HB
      clear HB
      go_wp2_with fail
      refine (Tryz.Builder_String_any w.heap.size w.heap.size _ _ HI hsz).mono ?_
      rintro e w2 ⟨rfl, b1⟩
      have GB := Lib.hid (HB'.out.trans b1)
      clear b1 HB'
      go_wp2
      go_ret
      exact ⟨rfl, GB.out⟩
theorem flat_sorted (ss : List (List UInt8)) : (Tr.sortS ss).flatten.length = ss.flatten.length := by
  rw [List.length_flatten, List.length_flatten]
  exact ((Tr.sortS_perm ss).map _).sum_nat
theorem rootOn_any (A : Option Addr) (base n c : Nat) (ss : List (List UInt8)) (w : World) (hn : n ≤ 12) (ht : ss.flatten.length ≤ 1048574) (hB : base ≤ w.heap.size) (h : w.ownsRow base 60 1 (.slice A n c) n (strs ss)) :
    Calls Tryz.prog 55 #[.slice A n c] w fun e w' => e = .returned (.string ⟨(Tr.wrap (Tr.sortS ss)).toArray⟩) ∧ Below base w w' := by
  have hl : ss.length = n := by rw [← strs_length]; exact own_len h
  go_enter Tryz.func55, Tryz.ntmps55
  go_wp2_with fail
  refine (treeSort_any A base n c ss _ hn h).mono ?_
  rintro e w1 ⟨rfl, ho, hg⟩
  have b1 : Below base w w1 := (Below.refl _ _).grown hg hB (fun b hb => (h.lt b hb).1)
  have hs1 := hg.size
  clear h hg
  go_wp2_with fail
  have hcall := textOf_any A n c w1.heap.size (Tr.sortS ss) w1 (by rw [Tr.sortS_length]; exact hl) (by omega) (by rw [flat_sorted]; omega) (Nat.le_refl _) (row_of_own ho)
  obtain ⟨L, hL⟩ : ∃ L, L = (Tr.sortS ss).flatten := ⟨_, rfl⟩
  have hz : L.length ≤ 1048574 := by rw [hL, flat_sorted]; exact ht
  have GW : Hid (Tr.wrap (Tr.sortS ss) = [91] ++ L ++ [93]) := by rw [hL]; rfl
  rw [← hL] at hcall
  clear hL ht ho hl
  refine hcall.mono ?_
  rintro e w2 ⟨rfl, b2⟩
  have GB := Lib.hid (b1.trans (b2.mono (by omega)))
  have GE : Hid (∀ z : ByteArray, z = ByteArray.mk #[91] ++ ⟨L.toArray⟩ ++ ByteArray.mk #[93] → z = ⟨(Tr.wrap (Tr.sortS ss)).toArray⟩) := fun z hz => by
    rw [hz, show (ByteArray.mk #[91]) = ⟨([91] : List UInt8).toArray⟩ from rfl, show (ByteArray.mk #[93]) = ⟨([93] : List UInt8).toArray⟩ from rfl, ByteArray.mk_append_mk, ByteArray.mk_append_mk, GW.out]
  clear b1 b2 hcall
  go_wp2
  go_ret
  refine ⟨?_, GB.out⟩
  rw [GE.out _ rfl]
  rfl
end Go.Proofs.YtpngohklicgbjaaGreat
/-
  Level lists: what the tests answer, the program's and the model's.
-/
namespace Go.Proofs.YtpngohklicgbjaaGreat
open Go.RowKit Fld
set_option linter.unusedVariables false
set_option linter.unusedSimpArgs false
set_option maxRecDepth 100000

theorem below_undrew' {w w' : World} {a : Nat} (h : Below (w.drewN a).heap.size (w.drewN a) w') : Below w.heap.size w w' := ⟨h.os, h.tape, h.output, h.size, h.block⟩
theorem lv_at {t : List Int} {k : Nat} {x : Int} (h : t[k]? = some x) : t.getD k 0 = x := by rw [List.getD_eq_getElem?_getD, h]; rfl
/-- the steps up to a place are those of a level list -/
def StepsTo (t : List Int) (k : Nat) : Prop := ∀ i, i < k → 1 ≤ i → 1 ≤ t.getD i 0 ∧ t.getD i 0 ≤ t.getD (i - 1) 0 + 1
theorem StepsTo.one (t : List Int) : StepsTo t 1 := fun i h1 h2 => by omega
theorem StepsTo.step {t : List Int} {k : Nat} {x y : Int} (h : StepsTo t k) (hx : t.getD k 0 = x) (hy : t.getD (k - 1) 0 = y) (h1 : 1 ≤ x) (h2 : x ≤ y + 1) : StepsTo t (k + 1) := fun i hi h3 => by
  by_cases e : i = k
  · subst e; rw [hx, hy]; exact ⟨h1, h2⟩
  · exact h i (by omega) h3
theorem StepsTo.lv {t : List Int} {n : Nat} (h : StepsTo t n) (hl : t.length = n) (h1 : 1 ≤ n) (h8 : n ≤ 8) (h0 : t.getD 0 0 = 0) : Tr.isLv t = true :=
  Tr.isLv_iff.2 ⟨by omega, by omega, h0, fun i hi h2 => h i (by omega) h2⟩
theorem StepsTo.le {t : List Int} {n : Nat} (h : StepsTo t n) (h0 : t.getD 0 0 = 0) : ∀ k, k < n → t.getD k 0 ≤ (k : Int)
  | 0, _ => by rw [h0]; exact Int.le_refl _
  | k+1, hk => by
    have h1 := StepsTo.le h h0 k (by omega)
    have h2 := (h (k + 1) hk (by omega)).2
    rw [Nat.add_sub_cancel] at h2
    omega
theorem lv_no_len {t : List Int} (h : t.length = 0 ∨ 8 < t.length) : Tr.isLv t = false := by
  apply Bool.eq_false_iff.2
  intro e
  obtain ⟨h0, h1, _⟩ := Tr.isLv_iff.1 e
  omega
theorem lv_no_head {t : List Int} (h : t.getD 0 0 ≠ 0) : Tr.isLv t = false := by
  apply Bool.eq_false_iff.2
  intro e
  exact h (Tr.isLv_iff.1 e).2.2.1
theorem lv_no_at {t : List Int} {k : Nat} {x y : Int} (hx : t.getD k 0 = x) (hy : t.getD (k - 1) 0 = y) (hk : k < t.length) (h1 : 1 ≤ k) (h : x < 1 ∨ y + 1 < x) : Tr.isLv t = false := by
  apply Bool.eq_false_iff.2
  intro e
  have := (Tr.isLv_iff.1 e).2.2.2 k hk h1
  rw [hx, hy] at this
  omega
theorem lv_no_big {t : List Int} {k : Nat} {y : Int} (hy : t.getD k 0 = y) (hk : k < t.length) (h : 8 < y) : Tr.isLv t = false := by
  apply Bool.eq_false_iff.2
  intro e
  have h1 := Tr.isLv_iff.1 e
  have h2 : StepsTo t t.length := h1.2.2.2
  have := h2.le h1.2.2.1 k hk
  have := h1.2.1
  omega
theorem StepsTo.bd {t : List Int} {n k : Nat} {y : Int} (h : StepsTo t n) (h0 : t.getD 0 0 = 0) (hk : k < n) (hy : t.getD k 0 = y) : 0 ≤ y ∧ y ≤ (k : Int) := by
  have h1 := h.le h0 k hk
  rw [hy] at h1
  refine ⟨?_, h1⟩
  rcases Nat.eq_zero_or_pos k with e | e
  · rw [e, h0] at hy; omega
  · have := (h k hk e).1; rw [hy] at this; omega
set_option maxHeartbeats 400000 in
theorem isLevels_any (A : Option Addr) (n c B : Nat) (t : List Int) (w : World) (hl : t.length = n) (hn : n ≤ 9223372036854775807) (h : Row w B A (ints t)) :
    Calls Tryz.prog 26 #[.slice A n c] w fun e w' => e = .returned (.bool (Tr.isLv t)) ∧ ∃ m, w' = w.drewN m := by
  by_cases h0 : n = 0
  · have G := Lib.hid (lv_no_len (t := t) (.inl (by omega)))
    have tn := beq_t (show (n : Int) = 0 by omega)
    clear hl h0
    go_enter Tryz.func26, Tryz.ntmps26
    go_wp2
    go_ret
    exact ⟨ret_bool G.out.symm, 0, rfl⟩
  · have tn := beq_f (show ¬ (n : Int) = 0 by omega)
    by_cases h8 : n ≤ 8
    · obtain ⟨z, hz⟩ := at_lt (show 0 < t.length by omega)
      obtain ⟨b, o, rfl, _, hcz⟩ := h 0 _ (ints_at hz)
      rw [Nat.add_zero] at hcz
      have HL := Lib.hid hl
      have n0' : (0 : Int) < (n : Int) := by omega
      by_cases hz0 : z = 0
      · subst hz0
        have HZ := Lib.hid (lv_at hz)
        clear hl hz h0
        go_enter Tryz.func26, Tryz.ntmps26
        go_wp2_with fail
        go_loopw [3] (fun i wr => ∃ j m : Nat, j + 1 ≤ n ∧ i = .int .i64 ((j : Int) + 1) ∧ wr = w.drewN m ∧ Hid (StepsTo t (j + 1))) (fun i _ => n - (intOf i).toNat)
        case atStart => exact ⟨0, 0, by omega, rfl, rfl, StepsTo.one t⟩
        case round =>
          obtain ⟨j, m, hj, rfl, rfl, HT⟩ := hrel
          by_cases hlt : j + 1 < n
          · obtain ⟨x, hx⟩ := at_lt (show j + 1 < t.length by rw [HL.out]; exact hlt)
            obtain ⟨y, hy⟩ := at_lt (show j < t.length by rw [HL.out]; omega)
            obtain ⟨_, _, e1, _, hcx⟩ := h (j + 1) _ (ints_at hx)
            cases e1
            obtain ⟨_, _, e1, _, hcy⟩ := h j _ (ints_at hy)
            cases e1
            obtain ⟨y0, y1⟩ := HT.out.bd HZ.out (by omega) (lv_at hy)
            have j8 : (j : Int) ≤ 8 := by omega
            by_cases hx1 : x < 1
            · have G := Lib.hid (lv_no_at (t := t) (k := j + 1) (lv_at hx) (lv_at hy) (by rw [HL.out]; exact hlt) (by omega) (.inl hx1))
              have hd1 : decide (x < 1) = true := decide_eq_true hx1
              clear hx hy HT
              go_wp2_with fail
              go_quiet (fail)
              go_wp2
              go_ret
              exact ⟨ret_bool G.out.symm, _, World.drewN_drewN ..⟩
            · have hd1 : decide (x < 1) = false := decide_eq_false hx1
              by_cases hx2 : y + 1 < x
              · have G := Lib.hid (lv_no_at (t := t) (k := j + 1) (lv_at hx) (lv_at hy) (by rw [HL.out]; exact hlt) (by omega) (.inr hx2))
                have hd2 : decide (y + 1 < x) = true := decide_eq_true hx2
                clear hx hy HT
                go_wp2_with fail
                go_quiet (fail)
                go_wp2
                go_ret
                exact ⟨ret_bool G.out.symm, _, World.drewN_drewN ..⟩
              · have G : Hid (StepsTo t (j + 1 + 1)) := HT.out.step (lv_at hx) (lv_at hy) (by omega) (by omega)
                have hd2 : decide (y + 1 < x) = false := decide_eq_false hx2
                clear hx hy HT
                go_wp2_with fail
                go_quiet (fail)
                go_wp2
                go_roundw
                case rel => exact ⟨j + 1, _, by omega, by go_num, rfl, G⟩
                case measure => simp [intOf]; omega
          · have G := Lib.hid (HT.out.lv (n := j + 1) (by rw [HL.out]; omega) (by omega) (by omega) HZ.out)
            clear HT
            go_wp2
            go_ret
            exact ⟨ret_bool G.out.symm, _, rfl⟩
      · have G := Lib.hid (lv_no_head (t := t) (by rw [lv_at hz]; exact hz0))
        have tz := bne_t hz0
        clear hl hz h0
        go_enter Tryz.func26, Tryz.ntmps26
        go_wp2
        go_ret
        exact ⟨ret_bool G.out.symm, 0, rfl⟩
    · have G := Lib.hid (lv_no_len (t := t) (.inr (by omega)))
      clear hl h0
      go_enter Tryz.func26, Tryz.ntmps26
      go_wp2
      go_ret
      exact ⟨ret_bool G.out.symm, 0, rfl⟩
set_option maxHeartbeats 400000 in
theorem l03Is_any (A : Option Addr) (n c B : Nat) (t : List Int) (w : World) (hl : t.length = n) (hn : n ≤ 1048576) (h : Row w B A (ints t)) :
    Calls Tryz.prog 56 #[.slice A n c] w fun e w' => e = .returned (.bool (Tr.isLv t)) ∧ ∃ m, w' = w.drewN m := by
  by_cases h0 : n = 0
  · have G := Lib.hid (lv_no_len (t := t) (.inl (by omega)))
    obtain rfl : n = 0 := h0
    clear hl
    go_enter Tryz.func56, Tryz.ntmps56
    go_wp2_with fail
    go_loopw [3] (fun i wr => i = .int .i64 1 ∧ wr = w) (fun i _ => 0)
    case atStart => exact ⟨rfl, rfl⟩
    case round =>
      obtain ⟨rfl, rfl⟩ := hrel
      go_wp2
      go_ret
      exact ⟨ret_bool G.out.symm, 0, rfl⟩
  · obtain ⟨z, hz⟩ := at_lt (show 0 < t.length by omega)
    obtain ⟨b, o, rfl, _, hcz⟩ := h 0 _ (ints_at hz)
    rw [Nat.add_zero] at hcz
    have HL := Lib.hid hl
    have n0' : (0 : Int) < (n : Int) := by omega
    have hcz' : ∀ m, (w.drewN m).cell? ⟨b, o, none⟩ = some (.int .i64 z) := fun m => hcz
    by_cases hz0 : z = 0
    · subst hz0
      have HZ := Lib.hid (lv_at hz)
      clear hl hz h0
      go_enter Tryz.func56, Tryz.ntmps56
      go_wp2_with fail
      go_loopw [3] (fun i wr => ∃ j m : Nat, j + 1 ≤ n ∧ i = .int .i64 ((j : Int) + 1) ∧ wr = w.drewN m ∧ Hid (StepsTo t (j + 1))) (fun i _ => n - (intOf i).toNat)
      case atStart => exact ⟨0, 0, by omega, rfl, rfl, StepsTo.one t⟩
      case round =>
        obtain ⟨j, m, hj, rfl, rfl, HT⟩ := hrel
        by_cases hlt : j + 1 < n
        · obtain ⟨x, hx⟩ := at_lt (show j + 1 < t.length by rw [HL.out]; exact hlt)
          obtain ⟨y, hy⟩ := at_lt (show j < t.length by rw [HL.out]; omega)
          obtain ⟨_, _, e1, _, hcx⟩ := h (j + 1) _ (ints_at hx)
          cases e1
          obtain ⟨_, _, e1, _, hcy⟩ := h j _ (ints_at hy)
          cases e1
          obtain ⟨y0, y1⟩ := HT.out.bd HZ.out (by omega) (lv_at hy)
          cases hb : isIn x 1 (y + 1)
          · have G := Lib.hid (lv_no_at (t := t) (k := j + 1) (lv_at hx) (lv_at hy) (by rw [HL.out]; exact hlt) (by omega) (by unfold isIn at hb; rw [decide_eq_false_iff_not] at hb; omega))
            clear hx hy HT
            go_wp2_with fail
            go_quiet ((go_at_call 86; exact quietL2 (l01In_any _ _ _ _)))
            go_wp2
            go_ret
            exact ⟨ret_bool G.out.symm, _, World.drewN_drewN ..⟩
          · have G : Hid (StepsTo t (j + 1 + 1)) := HT.out.step (lv_at hx) (lv_at hy) (isIn_iff.1 hb).1 (isIn_iff.1 hb).2
            clear hx hy HT
            go_wp2_with fail
            go_quiet ((go_at_call 86; exact quietL2 (l01In_any _ _ _ _)))
            go_wp2
            go_roundw
            case rel => exact ⟨j + 1, _, by omega, by go_num, rfl, G⟩
            case measure => simp [intOf]; omega
        · by_cases h8 : n ≤ 8
          · have G := Lib.hid (HT.out.lv (n := j + 1) (by rw [HL.out]; omega) (by omega) (by omega) HZ.out)
            clear HT
            go_wp2
            go_ret
            exact ⟨ret_bool G.out.symm, _, rfl⟩
          · have G := Lib.hid (lv_no_len (t := t) (.inr (by rw [HL.out]; omega)))
            clear HT
            go_wp2
            go_ret
            exact ⟨ret_bool G.out.symm, _, rfl⟩
    · have G := Lib.hid (lv_no_head (t := t) (by rw [lv_at hz]; exact hz0))
      have tz := beq_f hz0
      clear hl hz h0
      go_enter Tryz.func56, Tryz.ntmps56
      go_wp2_with fail
      go_loopw [3] (fun i wr => ∃ j m : Nat, j + 1 ≤ n ∧ i = .int .i64 ((j : Int) + 1) ∧ wr = w.drewN m) (fun i _ => n - (intOf i).toNat)
      case atStart => exact ⟨0, 0, by omega, rfl, rfl⟩
      case round =>
        obtain ⟨j, m, hj, rfl, rfl⟩ := hrel
        by_cases hlt : j + 1 < n
        · obtain ⟨x, hx⟩ := at_lt (show j + 1 < t.length by rw [HL.out]; exact hlt)
          obtain ⟨y, hy⟩ := at_lt (show j < t.length by rw [HL.out]; omega)
          obtain ⟨_, _, e1, _, hcx⟩ := h (j + 1) _ (ints_at hx)
          cases e1
          obtain ⟨_, _, e1, _, hcy⟩ := h j _ (ints_at hy)
          cases e1
          obtain ⟨v, hv⟩ : ∃ v, IntKind.i64.wrap (y + 1) = v := ⟨_, rfl⟩
          clear hx hy
          cases hb : isIn x 1 v
          · go_wp2_with fail
            go_quiet ((go_at_call 86; exact quietL2 (l01In_any _ _ _ _)))
            go_wp2
            go_ret
            exact ⟨ret_bool G.out.symm, _, World.drewN_drewN ..⟩
          · go_wp2_with fail
            go_quiet ((go_at_call 86; exact quietL2 (l01In_any _ _ _ _)))
            go_wp2
            go_roundw
            case rel => exact ⟨j + 1, _, by omega, by go_num, rfl⟩
            case measure => simp [intOf]; omega
        · by_cases h8 : n ≤ 8
          · go_wp2
            go_ret
            exact ⟨ret_bool G.out.symm, _, rfl⟩
          · go_wp2
            go_ret
            exact ⟨ret_bool G.out.symm, _, rfl⟩
theorem pIsLevels_L (A : Option Addr) (n c B : Nat) (xs : List Int) (w : World) (hl : xs.length = n) (hn : n ≤ 1048576) (hB : B ≤ w.heap.size) (h : Row w B A (ints xs)) :
    Calls Tryz.prog 26 #[.slice A n c] w (ResB (Tr.isLv xs) w) := (isLevels_any A n c B xs w hl (by omega) h).mono fun e w' ⟨he, m, hw⟩ => ⟨he, hw ▸ below_drewN (Below.refl _ _) m⟩
end Go.Proofs.YtpngohklicgbjaaGreat
/-
  The program's tree of a list: its text.
-/
namespace Go.Proofs.YtpngohklicgbjaaGreat
open Go.RowKit Fld
set_option linter.unusedVariables false
set_option linter.unusedSimpArgs false
set_option maxRecDepth 100000

theorem tw_at {x : Int} : ∀ {l : List Int} {k : Nat}, (∀ j y, j < k → l[j]? = some y → x < y) → (∀ y, l[k]? = some y → ¬ x < y) → k ≤ l.length → l.takeWhile (fun y => decide (x < y)) = l.take k ∧ l.dropWhile (fun y => decide (x < y)) = l.drop k
  | [], k, _, _, h => by simp
  | a :: l, 0, _, h, _ => by
    have := h a rfl
    simp [this]
  | a :: l, k+1, h1, h2, h3 => by
    have ha := h1 0 a (by omega) rfl
    obtain ⟨e1, e2⟩ := tw_at (l := l) (k := k) (fun j y hj hy => h1 (j + 1) y (by omega) hy) (fun y hy => h2 y hy) (by simpa using h3)
    simp [ha, e1, e2]
/-- a part of a list begins at st and ends at e -/
theorem spl_step {t : List Int} {f st e : Nat} {x : Int} (hx : t[st]? = some x) (h1 : ∀ j y, st < j → j < e → t[j]? = some y → x < y) (h2 : ∀ y, t[e]? = some y → ¬ x < y) (hst : st < e) (he : e ≤ t.length) :
    Tr.splF (f + 1) (t.drop st) = (t.drop st).take (e - st) :: Tr.splF f (t.drop e) := by
  have hlt : st < t.length := by omega
  have hd : t.drop st = x :: t.drop (st + 1) := by
    rw [List.drop_eq_getElem_cons hlt]
    rw [List.getElem?_eq_getElem hlt] at hx
    injection hx with hx
    rw [hx]
  obtain ⟨e1, e2⟩ := tw_at (x := x) (l := t.drop (st + 1)) (k := e - (st + 1)) (fun j y hj hy => h1 (st + 1 + j) y (by omega) (by omega) (by rw [List.getElem?_drop] at hy; exact hy)) (fun y hy => h2 y (by rw [List.getElem?_drop, show st + 1 + (e - (st + 1)) = e from by omega] at hy; exact hy)) (by rw [List.length_drop]; omega)
  rw [hd, Tr.splF, e1, e2, List.drop_drop, show e - st = (e - (st + 1)) + 1 from by omega, List.take_succ_cons, show st + 1 + (e - (st + 1)) = e from by omega]
theorem spl_nil (f : Nat) : Tr.splF f [] = [] := by cases f <;> rfl
theorem Row.part {w : World} {B b o : Nat} {t : List Int} (h : Row w B (some ⟨b, o, none⟩) (ints t)) (st k : Nat) : Row w B (some ⟨b, o + st, none⟩) (ints ((t.drop st).take k)) := fun j v hv => by
  have hj : ((t.drop st).take k)[j]? ≠ none := fun e => by
    unfold ints intsK at hv
    rw [List.getElem?_map, e] at hv; cases hv
  obtain ⟨x, hx⟩ := Option.ne_none_iff_exists'.1 hj
  rw [ints_at hx] at hv
  injection hv with hv
  subst hv
  rw [List.getElem?_take] at hx
  split at hx
  · rw [List.getElem?_drop] at hx
    obtain ⟨b', o', e', hb, hc⟩ := h (st + j) _ (ints_at hx)
    cases e'
    exact ⟨b, o + st, rfl, hb, by rw [Nat.add_assoc]; exact hc⟩
  · cases hx
theorem info_tree : (Tryz.prog.info? 60).map (fun i => (i.zero, i.size, i.bytes)) = some (some (.string ByteArray.empty), 1, 16) := by kernel_rfl
theorem spl_flat : ∀ (f : Nat) (l : List Int), l.length ≤ f → (Tr.splF f l).flatten = l
  | 0, l, h => by have : l = [] := List.eq_nil_of_length_eq_zero (by omega); subst this; rfl
  | f+1, [], _ => rfl
  | f+1, x :: xs, h => by
    have h1 : (xs.dropWhile fun y => decide (x < y)).length ≤ f := by
      have := (List.dropWhile_sublist (fun y => decide (x < y)) (l := xs)).length_le
      simp at h; omega
    rw [Tr.splF, List.flatten_cons, spl_flat f _ h1, List.cons_append, List.takeWhile_append_dropWhile]
theorem spl_mem : ∀ (f : Nat) (l : List Int) (p : List Int), p ∈ Tr.splF f l → 1 ≤ p.length
  | 0, l, p, h => by simp [Tr.splF] at h
  | f+1, [], p, h => by simp [Tr.splF] at h
  | f+1, x :: xs, p, h => by
    rw [Tr.splF, List.mem_cons] at h
    rcases h with rfl | h
    · simp
    · exact spl_mem f _ p h
theorem sum_two (L : List (List Int)) (f : List Int → List UInt8) (h : ∀ p ∈ L, (f p).length = 2 * p.length) : ((L.map f).flatten).length = 2 * L.flatten.length := by
  induction L with
  | nil => rfl
  | cons a r ih =>
    have h1 := h a (by simp)
    have h2 := ih (fun p hp => h p (by simp [hp]))
    rw [List.map_cons, List.flatten_cons, List.flatten_cons, List.length_append, List.length_append, h1, h2]; omega
theorem part_le {L : List (List Int)} {p : List Int} (h : p ∈ L) : p.length ≤ L.flatten.length := by
  induction L with
  | nil => cases h
  | cons a r ih =>
    rw [List.flatten_cons, List.length_append]
    rcases List.mem_cons.1 h with rfl | h
    · omega
    · have := ih h; omega
theorem txt_len : ∀ (d : Nat) (t : List Int), 1 ≤ t.length → t.length ≤ d → (Tr.txtF d t).length = 2 * t.length
  | 0, t, h1, h2 => by omega
  | d+1, t, h1, h2 => by
    have hf := spl_flat t.length (t.drop 1) (by rw [List.length_drop]; omega)
    have hs := sum_two (Tr.splF t.length (t.drop 1)) (Tr.txtF d) (fun p hp => by
      have a1 := spl_mem _ _ p hp
      have a2 := part_le hp
      rw [hf, List.length_drop] at a2
      exact txt_len d p a1 (by omega))
    rw [hf, List.length_drop] at hs
    rw [Tr.txtF, Tr.wrap, List.length_cons, List.length_append, flat_sorted, hs]
    simp; omega
def TreeOf (d : Nat) : Prop := ∀ (A : Option Addr) (n c B : Nat) (t : List Int) (w : World), t.length = n → 1 ≤ n → n ≤ d → n ≤ c → B ≤ w.heap.size → Row w B A (ints t) →
    Calls Tryz.prog 30 #[.slice A n c] w fun e w' => e = .returned (.string ⟨(Tr.txtF d t).toArray⟩) ∧ Below w.heap.size w w'
theorem treeOf_zero : TreeOf 0 := fun A n c B t w hl h1 h2 => by omega
set_option maxHeartbeats 1000000 in
theorem treeOf_succ (d : Nat) (hd : d + 1 ≤ 8) (IH : TreeOf d) : TreeOf (d + 1) := by
  obtain ⟨i0, hi, hz0, hz1, hz2⟩ := info_parts info_tree
  intro A n c B t w hl h1 hnd hnc hB h
  obtain ⟨x0, hx0⟩ := at_lt (show 0 < t.length by omega)
  obtain ⟨b, o, rfl, _, _⟩ := h 0 _ (ints_at hx0)
  have HL := Lib.hid hl
  have HN : Hid (n ≤ d + 1) := hnd
  have n8 : n ≤ 8 := by omega
  clear hl hx0 hnd
  go_enter Tryz.func30, Tryz.ntmps30
  go_wp2_with fail
  go_loopw [3, 4] (fun v s wr => ∃ (st k f : Nat) (Av : Option Addr) (cv : Nat) (done : List (List Int)), 1 ≤ st ∧ st ≤ n ∧ k + 1 ≤ st ∧ v = .slice Av k cv ∧ s = .int .i64 st ∧ Hid (n ≤ st + f) ∧ Hid (Tr.splF n (t.drop 1) = done ++ Tr.splF f (t.drop st)) ∧ wr.ownsRow w.heap.size 60 1 (.slice Av k cv) k (strs (done.map (Tr.txtF d))) ∧ Below w.heap.size w wr) (fun _ s _ => n - (intOf s).toNat)
  case atStart => exact ⟨1, 0, n, none, 0, [], Nat.le_refl _, h1, Nat.le_refl _, rfl, rfl, Nat.le_add_left _ _, rfl, World.ownsRow_nil .., Below.refl _ _⟩
  case round =>
    obtain ⟨st, k, f, Av, cv, done, s1, s2, hk, rfl, rfl, HF, HS, ho, HB⟩ := hrel
    have hsz := HB.size
    by_cases hlt : st < n
    · obtain ⟨x, hx⟩ := at_lt (show st < t.length by rw [HL.out]; exact hlt)
      obtain ⟨_, _, e1, _, hcx⟩ := h.below HB hB st _ (ints_at hx)
      cases e1
      have HX := Lib.hid hx
      have HO := Lib.hid ho
      have HBB := Lib.hid HB
      clear hx ho HB
      go_wp2_with fail
      go_loopw [5] (fun ee wr2 => ∃ e m : Nat, st < e ∧ e ≤ n ∧ ee = .int .i64 e ∧ wr2 = wr.drewN m ∧ Hid (∀ j y, st < j → j < e → t[j]? = some y → x < y)) (fun ee _ => n - (intOf ee).toNat)
      case atStart => exact ⟨st + 1, 0, by omega, by omega, by go_num, rfl, fun j y h1 h2 => by omega⟩
      case round =>
        obtain ⟨e, m, e1, e2, rfl, rfl, HE⟩ := hrel
        have hxw : ∀ m, (wr.drewN m).cell? ⟨b, o + st, none⟩ = some (.int .i64 x) := fun m => hcx
        have GO : Hid (∀ M, Calls Tryz.prog 30 #[.slice (some ⟨b, o + st, none⟩) (e - st) (c - st)] (wr.drewN M) fun e1 w2 => e1 = .returned (.string ⟨(Tr.txtF d ((t.drop st).take (e - st))).toArray⟩) ∧ w2.ownsRow w.heap.size 60 1 (.slice Av k cv) k (strs (done.map (Tr.txtF d))) ∧ Below w.heap.size w w2) := fun M =>
          (IH _ (e - st) (c - st) (wr.drewN M).heap.size ((t.drop st).take (e - st)) _ (by rw [List.length_take, List.length_drop, HL.out]; omega) (by omega) (by have := HN.out; omega) (by omega) (Nat.le_refl _) (((h.below HBB.out hB).more (by show B ≤ wr.heap.size; omega)).drewN M |>.part st (e - st))).mono fun e1 w2 ⟨he1, b2⟩ =>
            ⟨he1, (((OwnR.of HO.out).drewN M).below b2 (Nat.le_refl _)).1, (below_drewN HBB.out M).trans (b2.mono (by show w.heap.size ≤ wr.heap.size; omega))⟩
        have GS : Hid (e = n ∨ (∃ y, t[e]? = some y ∧ ¬ x < y) → n ≤ e + (f - 1) ∧ Tr.splF n (t.drop 1) = (done ++ [(t.drop st).take (e - st)]) ++ Tr.splF (f - 1) (t.drop e)) := fun hc => by
          have hf := HF.out
          refine ⟨by omega, ?_⟩
          have e3 := spl_step (f := f - 1) HX.out HE.out (fun y hy => by
            rcases hc with hc | ⟨z, hz, hxz⟩
            · rw [List.getElem?_eq_none (by rw [HL.out]; omega)] at hy; cases hy
            · rw [hz] at hy; injection hy with hy; rw [← hy]; exact hxz) e1 (by rw [HL.out]; exact e2)
          rw [HS.out, show f = f - 1 + 1 from by omega, e3]
          simp
        by_cases hen : e < n
        · obtain ⟨y, hy⟩ := at_lt (show e < t.length by rw [HL.out]; exact hen)
          obtain ⟨_, _, e3, _, hcy⟩ := h.below HBB.out hB e _ (ints_at hy)
          cases e3
          have hcy' : ∀ m, (wr.drewN m).cell? ⟨b, o + e, none⟩ = some (.int .i64 y) := fun m => hcy
          have hd1 : decide ((e : Int) < (n : Int)) = true := decide_eq_true (by omega)
          by_cases hxy : x < y
          · have hd2 : decide (x < y) = true := decide_eq_true hxy
            have HE2 : Hid (∀ j z, st < j → j < e + 1 → t[j]? = some z → x < z) := fun j z h1 h2 hz => by
              by_cases hje : j = e
              · subst hje; rw [hy] at hz; injection hz with hz; rw [← hz]; exact hxy
              · exact HE.out j z h1 (by omega) hz
            clear hy HE GS GO
            go_wp2_with fail
            go_quiet (fail)
            go_wp2
            go_roundw
            case rel => exact ⟨e + 1, _, by omega, by omega, by go_num, rfl, HE2⟩
            case measure => simp [intOf]; omega
          · have hd2 : decide (x < y) = false := decide_eq_false hxy
            have GS2 := Lib.hid (GS.out (.inr ⟨y, hy, hxy⟩))
            clear hy HE GS
            go_wp2_with fail
            go_quiet (fail)
            go_wp2_with fail
            refine (GO.out _).mono ?_
            rintro e1 w2 ⟨rfl, own2, b2⟩
            have hs2 := b2.size
            have HB2 := Lib.hid b2
            have HO2 := Lib.hid own2
            clear b2 GO
            go_wp2_with (at_builtin; (refine wpList_append_lies _ rfl (.tmp 29) (.tmp 35) 65 rfl w.heap.size 60 i0 _ 1 16 Tryz.underlying65 hi hz0 hz1 hz2 rfl (by omega) (.slice Av k cv) k (strs (done.map (Tr.txtF d))) rfl (own2.alloc _) ⟨w2.heap.size, 0, none⟩ 1 1 [.string ⟨(Tr.txtF d ((t.drop st).take (e - st))).toArray⟩] rfl rfl (World.news_of_block (cs := #[.string ⟨(Tr.txtF d ((t.drop st).take (e - st))).toArray⟩]) (heap_alloc_new _ _)) (by simp [Value.oneCell']) (by omega) (by simp only [maxLen]; omega) (by omega) (by simp; omega) (w2.heap.size + 1) (by simp) ?_); intro g2 cap2 w3 hown2 hgrow2 hat2 hlt2)
            rw [show strs (done.map (Tr.txtF d)) ++ [.string ⟨(Tr.txtF d ((t.drop st).take (e - st))).toArray⟩] = strs ((done ++ [(t.drop st).take (e - st)]).map (Tr.txtF d)) by simp [strs]] at hown2
            have G3 := Lib.hid hown2
            have GB3 : Hid (Below w.heap.size w w3) := ((HB2.out.alloc hs2 _).grown hgrow2 (by simp; omega) (fun q hq => (HO2.out.lt q hq).1))
            clear hown2 hgrow2 hat2 own2
            go_wp2
            go_roundw
            case rel => exact ⟨e, k + 1, f - 1, _, _, _, by omega, by omega, by omega, rfl, by go_num, GS2.out.1, GS2.out.2, G3.out, GB3.out⟩
            case measure => simp [intOf]; omega
        · obtain rfl : e = n := by omega
          have hd1 : decide ((e : Int) < (e : Int)) = false := decide_eq_false (by omega)
          have GS2 := Lib.hid (GS.out (.inl rfl))
          clear HE GS
          go_wp2_with fail
          go_quiet (fail)
          go_wp2_with fail
          refine (GO.out _).mono ?_
          rintro e1 w2 ⟨rfl, own2, b2⟩
          have hs2 := b2.size
          have HB2 := Lib.hid b2
          have HO2 := Lib.hid own2
          clear b2 GO
          go_wp2_with (at_builtin; (refine wpList_append_lies _ rfl (.tmp 29) (.tmp 35) 65 rfl w.heap.size 60 i0 _ 1 16 Tryz.underlying65 hi hz0 hz1 hz2 rfl (by omega) (.slice Av k cv) k (strs (done.map (Tr.txtF d))) rfl (own2.alloc _) ⟨w2.heap.size, 0, none⟩ 1 1 [.string ⟨(Tr.txtF d ((t.drop st).take (e - st))).toArray⟩] rfl rfl (World.news_of_block (cs := #[.string ⟨(Tr.txtF d ((t.drop st).take (e - st))).toArray⟩]) (heap_alloc_new _ _)) (by simp [Value.oneCell']) (by omega) (by simp only [maxLen]; omega) (by omega) (by simp; omega) (w2.heap.size + 1) (by simp) ?_); intro g2 cap2 w3 hown2 hgrow2 hat2 hlt2)
          rw [show strs (done.map (Tr.txtF d)) ++ [.string ⟨(Tr.txtF d ((t.drop st).take (e - st))).toArray⟩] = strs ((done ++ [(t.drop st).take (e - st)]).map (Tr.txtF d)) by simp [strs]] at hown2
          have G3 := Lib.hid hown2
          have GB3 : Hid (Below w.heap.size w w3) := ((HB2.out.alloc hs2 _).grown hgrow2 (by simp; omega) (fun q hq => (HO2.out.lt q hq).1))
          clear hown2 hgrow2 hat2 own2
          go_wp2
          go_roundw
          case rel => exact ⟨e, k + 1, f - 1, _, _, _, by omega, by omega, by omega, rfl, by go_num, GS2.out.1, GS2.out.2, G3.out, GB3.out⟩
          case measure => simp [intOf]; omega
    · obtain rfl : st = n := by omega
      rw [List.drop_of_length_le (show t.length ≤ st by rw [HL.out]; exact Nat.le_refl _), spl_nil, List.append_nil] at HS
      have hf := spl_flat st (t.drop 1) (by rw [List.length_drop, HL.out]; omega)
      have hlen : (done.map (Tr.txtF d)).flatten.length = 2 * (st - 1) := by
        have h5 := sum_two done (Tr.txtF d) (fun p hp => by
          rw [← HS.out] at hp
          have a1 := spl_mem _ _ p hp
          have a2 := part_le hp
          rw [hf, List.length_drop, HL.out] at a2
          exact txt_len d p a1 (by have := HN.out; omega))
        rw [h5, ← HS.out, hf, List.length_drop, HL.out]
      have GE : Hid (Tr.txtF (d + 1) t = Tr.wrap (Tr.sortS (done.map (Tr.txtF d)))) := by rw [Hid, Tr.txtF, HL.out, HS.out]
      have HLEN := Lib.hid hlen
      have HBB := Lib.hid HB
      clear hf HS hlen HB
      go_wp2_with fail
      refine (rootOn_any Av w.heap.size k cv _ _ (by omega) (by rw [HLEN.out]; omega) hsz ho).mono ?_
      rintro e w2 ⟨rfl, b2⟩
      have GB := Lib.hid (HBB.out.trans b2)
      clear ho b2
      go_wp2
      go_ret
      exact ⟨by rw [GE.out]; rfl, GB.out⟩
theorem treeOf_upto : ∀ d, d ≤ 8 → TreeOf d
  | 0, _ => treeOf_zero
  | d+1, h => treeOf_succ d h (treeOf_upto d (by omega))
theorem treeOf_any (A : Option Addr) (n c B : Nat) (t : List Int) (w : World) (hl : t.length = n) (h1 : 1 ≤ n) (h8 : n ≤ 8) (hc : n ≤ c) (hB : B ≤ w.heap.size) (h : Row w B A (ints t)) :
    Calls Tryz.prog 30 #[.slice A n c] w fun e w' => e = .returned (.string ⟨(Tr.txt t).toArray⟩) ∧ Below w.heap.size w w' := treeOf_upto 8 (Nat.le_refl _) A n c B t w hl h1 h8 hc hB h
end Go.Proofs.YtpngohklicgbjaaGreat
/-
  The levels of a text of brackets.
-/
namespace Go.Proofs.YtpngohklicgbjaaGreat
open Go.RowKit Fld
set_option linter.unusedVariables false
set_option linter.unusedSimpArgs false
set_option maxRecDepth 100000

theorem nodes_any (l : List UInt8) (w : World) (hn : l.length ≤ 1048576) : Calls Tryz.prog 68 #[.string ⟨l.toArray⟩] w fun e w' => e = .returned (.int .i64 ((l.length / 2 : Nat) : Int)) ∧ w = w' := by
  obtain ⟨s, hs⟩ : ∃ s : ByteArray, s = ⟨l.toArray⟩ := ⟨_, rfl⟩
  have hz : s.size = l.length := by rw [hs]; exact size_S l
  rw [← hs, ← hz]
  rw [← hz] at hn
  clear hz hs
  go_enter Tryz.func68, Tryz.ntmps68
  go_wp2
  go_ret
  exact ⟨rfl, rfl⟩
theorem own_ne_iter {w : World} {lo : Nat} {T : TypeId} {v : Value} {n : Nat} {vs : List Value} {k : Nat} {s : ByteArray} {p : Nat} (h : w.ownsRow lo T 1 v n vs) (hk : w.heap[k]? = some (.stringIter s p)) : some k ≠ v.ownBlock := by
  intro e
  rcases h.2 with ⟨rfl, _⟩ | ⟨g, cap, cur, rfl, _, hg, _⟩
  · cases e
  · have e2 : k = g := by simpa [Value.ownBlock] using e
    subst e2
    rw [hk] at hg
    cases hg
theorem own_iterAt {w : World} {lo : Nat} {T : TypeId} {v : Value} {n : Nat} {vs : List Value} {k : Nat} {s : ByteArray} {p p' : Nat} (h : w.ownsRow lo T 1 v n vs) (hk : w.heap[k]? = some (.stringIter s p)) : (w.iterAt k s p').ownsRow lo T 1 v n vs := by
  have hne := own_ne_iter h hk
  refine ⟨h.1, ?_⟩
  rcases h.2 with h1 | ⟨g, cap, cur, hv, hb, hg, r⟩
  · exact .inl h1
  · refine .inr ⟨g, cap, cur, hv, hb, ?_, r⟩
    rw [Lib.iterAt_other _ _ _ _ _ (fun e => hne (by rw [hv, ← e]; simp [Value.ownBlock]))]
    exact hg
/-- all bytes are brackets -/
def Brk (s : List UInt8) : Prop := ∀ c ∈ s, c = 91 ∨ c = 93
theorem byte_at {s : List UInt8} {p : Nat} {c : UInt8} (h : s[p]? = some c) (hp : p < (⟨s.toArray⟩ : ByteArray).size) : (⟨s.toArray⟩ : ByteArray)[p]'hp = c := by
  have h1 : p < s.length := by rw [← size_S]; exact hp
  rw [List.getElem?_eq_getElem h1] at h
  exact Option.some.inj h
theorem lvl_open {s : List UInt8} {p : Nat} (h : s[p]? = some 91) (l : Int) : Tr.lvlF l (s.drop p) = l :: Tr.lvlF (l + 1) (s.drop (p + 1)) := by
  have hlt : p < s.length := by
    rcases Nat.lt_or_ge p s.length with g | g
    · exact g
    · rw [List.getElem?_eq_none g] at h; cases h
  rw [List.getElem?_eq_getElem hlt] at h
  injection h with h
  rw [List.drop_eq_getElem_cons hlt, h, Tr.lvlF, if_pos rfl]
theorem lvl_close {s : List UInt8} {p : Nat} (h : s[p]? = some 93) (l : Int) : Tr.lvlF l (s.drop p) = Tr.lvlF (l - 1) (s.drop (p + 1)) := by
  have hlt : p < s.length := by
    rcases Nat.lt_or_ge p s.length with g | g
    · exact g
    · rw [List.getElem?_eq_none g] at h; cases h
  rw [List.getElem?_eq_getElem hlt] at h
  injection h with h
  rw [List.drop_eq_getElem_cons hlt, h, Tr.lvlF, if_neg (by decide)]
set_option maxHeartbeats 1000000 in
theorem levels_any (s : List UInt8) (w : World) (hn : s.length ≤ 1048576) (hb : Brk s) :
    Calls Tryz.prog 94 #[.string ⟨s.toArray⟩] w (NewRow 2 (Tr.lvl s).length (ints (Tr.lvl s)) w) := by
  obtain ⟨i0, hi, hz0, hz1, hz2⟩ := info_parts info_i64
  have HB := Lib.hid hb
  have HN := Lib.hid hn
  obtain ⟨S, hS⟩ : ∃ S : ByteArray, S = ⟨s.toArray⟩ := ⟨_, rfl⟩
  have hsz : S.size = s.length := by rw [hS]; exact size_S s
  have HSZ := Lib.hid hsz
  have HS := Lib.hid hS
  have C0 := nodes_any s w hn
  rw [← hS] at C0 ⊢
  have hcap : s.length / 2 ≤ 1048576 := by omega
  obtain ⟨q, hq⟩ : ∃ q, q = s.length / 2 := ⟨_, rfl⟩
  rw [← hq] at C0 hcap
  clear hb hS hsz hn hq
  go_enter Tryz.func94, Tryz.ntmps94
  go_wp2_with fail
  refine C0.mono ?_
  rintro e w' ⟨rfl, rfl⟩
  go_wp2_with (at_make; refine wpList_make_own _ rfl _ _ 25 rfl w.heap.size 2 i0 (.int .i64 0) 1 Tryz.underlying25 hi hz0 hz1 .i64 .i64 _ q rfl rfl rfl (by rw [hz2]; omega) (by unfold maxLen; omega) (Nat.le_refl _) ?_; intro w1 hown hg)
  have HO1 := Lib.hid hown
  have HB1 : Hid (Below w.heap.size w w1) := (Below.refl _ _).grown hg (Nat.le_refl _) (fun k hk => by cases hk)
  have hs1 := hg.size
  clear hown hg
  go_loopw [3, 4] (fun v l wr => ∃ (p g cap : Nat) (lv : Int) (L : List Int), p ≤ S.size ∧ -(p : Int) ≤ lv ∧ lv ≤ p ∧ v = .slice (some ⟨g, 0, none⟩) L.length cap ∧ l = .int .i64 lv ∧ L.length ≤ p ∧ wr.heap[w1.heap.size]? = some (.stringIter S p) ∧ Hid (Tr.lvl s = L ++ Tr.lvlF lv (s.drop p)) ∧ Hid (wr.ownsRow w.heap.size 2 1 (.slice (some ⟨g, 0, none⟩) L.length cap) L.length (ints L)) ∧ Below w.heap.size w wr) (fun _ _ wr => S.size - wr.iterPos w1.heap.size)
  case atStart =>
    have hit := World.iter_heap w1 S 0
    exact ⟨0, _, q, 0, [], Nat.zero_le _, by omega, by omega, rfl, rfl, Nat.le_refl _, hit, rfl, HO1.out.alloc _, HB1.out.alloc (by omega) _⟩
  case round =>
    obtain ⟨p, g, cap, lv, L, hp, l0, l1, rfl, rfl, hL, hit, HE, HO, HBw⟩ := hrel
    have hlt := (Array.getElem?_eq_some_iff.1 hit).1
    by_cases hps : p < S.size
    · obtain ⟨c, hc⟩ := at_lt (show p < s.length by rw [← HSZ.out]; exact hps)
      have hbyte : S[p]'hps = c := by
        have hS := HS.out
        subst hS
        exact byte_at hc hps
      have hcb := HB.out c (List.mem_of_getElem? hc)
      have hasc : (S[p]'hps).toNat < 128 := by rw [hbyte]; rcases hcb with rfl | rfl <;> decide
      have hnx : ∀ ty, (Instr.next (.pointer (some ⟨w1.heap.size, 0, none⟩)) true ty).run Tryz.prog wr = _ := fun ty => Lib.run_next_ascii_at wr w1.heap.size S p ty hit hps hasc
      rw [hbyte] at hnx
      have hp3 : p + 1 ≤ 1048576 := by have := HSZ.out; have := HN.out; omega
      have HIT := Lib.hid hit
      have hit2 := Lib.iterAt_heap wr w1.heap.size S p (p + 1) hit
      have HO2 := Lib.hid (own_iterAt (p' := p + 1) HO.out hit)
      have HB2 := Lib.hid (Lib.below_iterAt HBw (k := w1.heap.size) hs1 S (p + 1))
      have hsz2 : (wr.iterAt w1.heap.size S (p + 1)).heap.size = wr.heap.size := Lib.iterAt_size ..
      rcases hcb with rfl | rfl
      · have HE2 : Hid (Tr.lvl s = (L ++ [lv]) ++ Tr.lvlF (lv + 1) (s.drop (p + 1))) := by rw [Hid, HE.out, lvl_open hc]; simp
        have e91 : ((91 : UInt8).toNat : Int) = 91 := rfl
        rw [e91] at hnx
        generalize hW : wr.iterAt w1.heap.size S (p + 1) = W at *
        have hown2 := HO2.out
        have HH2 := Lib.hid hit2
        have hW1 : w1.heap.size < W.heap.size := by omega
        have hW2 : w.heap.size ≤ W.heap.size := by omega
        clear hc hbyte hasc HE HBw HO hit hW hit2 hsz2
        go_wp2_with (at_builtin; (refine wpList_append_lies _ rfl (.tmp 17) (.tmp 19) 25 rfl w.heap.size 2 i0 _ 1 8 Tryz.underlying25 hi hz0 hz1 hz2 rfl (by omega) (.slice (some ⟨g, 0, none⟩) L.length cap) L.length (ints L) rfl (hown2.alloc _) ⟨W.heap.size, 0, none⟩ 1 1 [.int .i64 lv] rfl rfl (World.news_of_block (cs := #[.int .i64 lv]) (heap_alloc_new _ _)) (by simp [Value.oneCell']) (by omega) (by simp only [maxLen]; omega) (by omega) (by simp; omega) (W.heap.size + 1) (by simp) ?_); intro g2 cap2 w3 hown3 hgrow3 hat3 hlt3)
        have G3 : Hid (w3.ownsRow w.heap.size 2 1 (.slice (some ⟨g2, 0, none⟩) (L ++ [lv]).length cap2) (L ++ [lv]).length (ints (L ++ [lv]))) := by
          have e : ints L ++ [.int .i64 lv] = ints (L ++ [lv]) := by simp [ints, intsK]
          rw [e] at hown3
          rw [Hid, List.length_append]; exact hown3
        have GB3 : Hid (Below w.heap.size w w3) := (HB2.out.alloc hW2 _).grown hgrow3 (by simp; omega) (fun q hq => (HO2.out.lt q hq).1)
        have GI : Hid (w3.heap[w1.heap.size]? = some (.stringIter S (p + 1))) := by
          rw [Hid, hgrow3.block _ (by simp; omega) (own_ne_iter HO2.out HH2.out), Lib.alloc_old _ _ _ hW1]
          exact HH2.out
        have hl2 : (L ++ [lv]).length = L.length + 1 := by simp
        have HL2 := Lib.hid hl2
        clear hown3 hgrow3 hat3 hown2 hl2
        go_wp2
        go_roundw
        case rel => exact ⟨p + 1, g2, cap2, lv + 1, L ++ [lv], by omega, by omega, by omega, by rw [HL2.out], by go_num, by have := HL2.out; omega, GI.out, HE2, G3, GB3.out⟩
        case measure =>
          simp only [World.iterPos, GI.out, HIT.out]
          omega
      · have HE2 : Hid (Tr.lvl s = L ++ Tr.lvlF (lv - 1) (s.drop (p + 1))) := by rw [Hid, HE.out, lvl_close hc]
        have e93 : ((93 : UInt8).toNat : Int) = 93 := rfl
        rw [e93] at hnx
        generalize hW : wr.iterAt w1.heap.size S (p + 1) = W at *
        have HH2 := Lib.hid hit2
        clear hc hbyte hasc HE HBw HO hit hW hit2 hsz2
        go_wp2
        go_roundw
        case rel => exact ⟨p + 1, g, cap, lv - 1, L, by omega, by omega, by omega, rfl, by go_num, by omega, HH2.out, HE2, HO2, HB2.out⟩
        case measure =>
          simp only [World.iterPos, HH2.out, HIT.out]
          omega
    · have hnx : ∀ ty, (Instr.next (.pointer (some ⟨w1.heap.size, 0, none⟩)) true ty).run Tryz.prog wr = _ := fun ty => Lib.run_next_end_at wr w1.heap.size S p ty hit hps
      have e : Tr.lvl s = L := by
        have := HE.out
        rw [List.drop_of_length_le (by have := HSZ.out; omega), Tr.lvlF, List.append_nil] at this
        exact this
      have G : Hid (NewRow 2 (Tr.lvl s).length (ints (Tr.lvl s)) w (.returned (.slice (some ⟨g, 0, none⟩) L.length cap)) wr) := by rw [e]; exact ⟨_, _, rfl, HO.out, HBw⟩
      clear HBw HE e hit
      go_wp2
      go_ret
      exact G.out
end Go.Proofs.YtpngohklicgbjaaGreat
/-
  A text is split into those of trees.
-/
namespace Go.Proofs.YtpngohklicgbjaaGreat
open Go.RowKit Fld
set_option linter.unusedVariables false
set_option linter.unusedSimpArgs false
set_option maxRecDepth 100000

theorem extract_S (s : List UInt8) (a b : Nat) : (⟨s.toArray⟩ : ByteArray).extract a b = ⟨((s.drop a).take (b - a)).toArray⟩ := by
  apply ByteArray.ext
  simp [ByteArray.data_extract]
theorem tr_open {cur : List UInt8} {o : Nat} {acc : List (List UInt8)} {s : List UInt8} {p : Nat} (h : s[p]? = some 91) : Tr.trF cur o acc (s.drop p) = Tr.trF (cur ++ [91]) (o + 1) acc (s.drop (p + 1)) := by
  have hlt : p < s.length := by
    rcases Nat.lt_or_ge p s.length with g | g
    · exact g
    · rw [List.getElem?_eq_none g] at h; cases h
  rw [List.getElem?_eq_getElem hlt] at h
  injection h with h
  rw [List.drop_eq_getElem_cons hlt, h, Tr.trF, if_pos rfl]
theorem tr_close {cur : List UInt8} {o : Nat} {acc : List (List UInt8)} {s : List UInt8} {p : Nat} (h : s[p]? = some 93) : Tr.trF cur o acc (s.drop p) = if o = 0 then ([], false) else if o = 1 then Tr.trF [] 0 (acc ++ [cur ++ [93]]) (s.drop (p + 1)) else Tr.trF (cur ++ [93]) (o - 1) acc (s.drop (p + 1)) := by
  have hlt : p < s.length := by
    rcases Nat.lt_or_ge p s.length with g | g
    · exact g
    · rw [List.getElem?_eq_none g] at h; cases h
  rw [List.getElem?_eq_getElem hlt] at h
  injection h with h
  rw [List.drop_eq_getElem_cons hlt, h, Tr.trF, if_neg (by decide), if_pos rfl]
theorem tr_other {cur : List UInt8} {o : Nat} {acc : List (List UInt8)} {s : List UInt8} {p : Nat} {c : UInt8} (h : s[p]? = some c) (h1 : c ≠ 91) (h2 : c ≠ 93) : Tr.trF cur o acc (s.drop p) = ([], false) := by
  have hlt : p < s.length := by
    rcases Nat.lt_or_ge p s.length with g | g
    · exact g
    · rw [List.getElem?_eq_none g] at h; cases h
  rw [List.getElem?_eq_getElem hlt] at h
  injection h with h
  rw [List.drop_eq_getElem_cons hlt, h, Tr.trF, if_neg h1, if_neg h2]
theorem cut_step {s : List UInt8} {a p : Nat} {c : UInt8} (h : s[p]? = some c) (ha : a ≤ p) : (s.drop a).take (p + 1 - a) = (s.drop a).take (p - a) ++ [c] := by
  rw [show p + 1 - a = p - a + 1 from by omega, List.take_add_one, List.getElem?_drop, show a + (p - a) = p from by omega, h]; rfl
/-- the texts of trees, and whether there are no others -/
def ResT (r : List (List UInt8) × Bool) (w : World) (e : Ending) (w' : World) : Prop :=
  ∃ A q c, e = .returned (.tuple #[.slice A q c, .bool r.2]) ∧ w'.ownsRow w.heap.size 60 1 (.slice A q c) q (strs r.1) ∧ Below w.heap.size w w'
theorem ResT.none {r : List (List UInt8) × Bool} {w w' : World} (h : r = ([], false)) (hb : Below w.heap.size w w') : ResT r w (.returned (.tuple #[.slice none 0 0, .bool false])) w' := by
  subst h; exact ⟨_, _, _, rfl, World.ownsRow_nil .., hb⟩
set_option maxHeartbeats 2000000 in
theorem treesIn_any (s : List UInt8) (w : World) (hn : s.length ≤ 1048576) :
    Calls Tryz.prog 64 #[.string ⟨s.toArray⟩] w (ResT (Tr.trF [] 0 [] s) w) := by
  obtain ⟨i0, hi, hz0, hz1, hz2⟩ := info_parts info_tree
  have HN := Lib.hid hn
  obtain ⟨S, hS⟩ : ∃ S : ByteArray, S = ⟨s.toArray⟩ := ⟨_, rfl⟩
  have HSZ : Hid (S.size = s.length) := by rw [Hid, hS]; exact size_S s
  have HS := Lib.hid hS
  rw [← hS]
  have hs20 : S.size ≤ 1048576 := by rw [HSZ.out]; exact hn
  clear hS hn
  go_enter Tryz.func64, Tryz.ntmps64
  go_wp2_with fail
  go_loopw [4, 5, 6] (fun v a o wr => ∃ (p st op q cv : Nat) (Av : Option Addr) (acc : List (List UInt8)), p ≤ S.size ∧ st ≤ p ∧ op ≤ p ∧ q ≤ p ∧ v = .slice Av q cv ∧ a = .int .i64 st ∧ o = .int .i64 op ∧ wr.heap[w.heap.size]? = some (.stringIter S p) ∧ Hid (Tr.trF [] 0 [] s = Tr.trF ((s.drop st).take (p - st)) op acc (s.drop p)) ∧ Hid (wr.ownsRow w.heap.size 60 1 (.slice Av q cv) q (strs acc)) ∧ Below w.heap.size w wr) (fun _ _ _ wr => S.size - wr.iterPos w.heap.size)
  case atStart => exact ⟨0, 0, 0, 0, 0, none, [], Nat.zero_le _, Nat.le_refl _, Nat.le_refl _, Nat.le_refl _, rfl, rfl, rfl, World.iter_heap w S 0, by simp [Hid], World.ownsRow_nil .., (Below.refl _ _).alloc (Nat.le_refl _) _⟩
  case round =>
    obtain ⟨p, st, op, q, cv, Av, acc, hp, hst, hop, hq, rfl, rfl, rfl, hit, HE, HO, HBw⟩ := hrel
    have hlt := (Array.getElem?_eq_some_iff.1 hit).1
    by_cases hps : p < S.size
    · obtain ⟨c, hc⟩ := at_lt (show p < s.length by rw [← HSZ.out]; exact hps)
      have hbyte : S[p]'hps = c := by
        have hS := HS.out
        subst hS
        exact byte_at hc hps
      have HIT := Lib.hid hit
      by_cases hasc : c.toNat < 128
      · have hnx : ∀ ty, (Instr.next (.pointer (some ⟨w.heap.size, 0, none⟩)) true ty).run Tryz.prog wr = _ := fun ty => Lib.run_next_ascii_at wr w.heap.size S p ty hit hps (by rw [hbyte]; exact hasc)
        rw [hbyte] at hnx
        have hit2 := Lib.iterAt_heap wr w.heap.size S p (p + 1) hit
        have HO2 := Lib.hid (own_iterAt (p' := p + 1) HO.out hit)
        have HB2 := Lib.hid (Lib.below_iterAt HBw (k := w.heap.size) (Nat.le_refl _) S (p + 1))
        have hsz2 : (wr.iterAt w.heap.size S (p + 1)).heap.size = wr.heap.size := Lib.iterAt_size ..
        have hW1 : w.heap.size < (wr.iterAt w.heap.size S (p + 1)).heap.size := by rw [hsz2]; exact hlt
        by_cases h91 : c = 91
        · subst h91
          have e91 : ((91 : UInt8).toNat : Int) = 91 := rfl
          rw [e91] at hnx
          have HE2 : Hid (Tr.trF [] 0 [] s = Tr.trF ((s.drop st).take (p + 1 - st)) (op + 1) acc (s.drop (p + 1))) := by rw [Hid, HE.out, tr_open hc, cut_step hc hst]
          generalize hW : wr.iterAt w.heap.size S (p + 1) = W at *
          have HH2 := Lib.hid hit2
          have t0 : ((op : Int) + 1 == 0) = false := beq_f (by omega)
          clear hc hbyte hasc HE HBw HO hit hW hit2 hsz2
          go_wp2
          go_roundw
          case rel => exact ⟨p + 1, st, op + 1, q, cv, Av, acc, by omega, by omega, by omega, by omega, rfl, rfl, by go_num, HH2.out, HE2, HO2, HB2.out⟩
          case measure =>
            simp only [World.iterPos, HH2.out, HIT.out]
            omega
        · by_cases h93 : c = 93
          · subst h93
            have e93 : ((93 : UInt8).toNat : Int) = 93 := rfl
            rw [e93] at hnx
            have HTC := Lib.hid (HE.out.trans (tr_close hc))
            have HCUT : Hid ((s.drop st).take (p + 1 - st) = (s.drop st).take (p - st) ++ [93]) := cut_step hc hst
            generalize hW : wr.iterAt w.heap.size S (p + 1) = W at *
            have HH2 := Lib.hid hit2
            clear hc hbyte hasc HE HBw HO hit hW hit2 hsz2
            rcases (show op = 0 ∨ op = 1 ∨ 2 ≤ op by omega) with rfl | rfl | h2
            · have G : Hid (Tr.trF [] 0 [] s = ([], false)) := by rw [Hid, HTC.out, if_pos rfl]
              clear HTC
              go_wp2
              go_ret2
              exact ResT.none G.out HB2.out
            · have HE2 : Hid (Tr.trF [] 0 [] s = Tr.trF ((s.drop (p + 1)).take (p + 1 - (p + 1))) 0 (acc ++ [(s.drop st).take (p + 1 - st)]) (s.drop (p + 1))) := by
                rw [Hid, HTC.out, if_neg (by decide), if_pos rfl, Nat.sub_self, List.take_zero, HCUT.out]
              have HX : Hid (S.extract st (p + 1) = ⟨((s.drop st).take (p + 1 - st)).toArray⟩) := by rw [Hid, HS.out]; exact extract_S s st (p + 1)
              obtain ⟨X, hX⟩ : ∃ X, X = S.extract st (p + 1) := ⟨_, rfl⟩
              have HXX : Hid (S.extract st (p + 1) = X) := hX.symm
              have hown2 := HO2.out
              have hp1 : p + 1 ≤ S.size := hps
              clear HTC
              have hsl : ∀ W, (Instr.slice 9 (.string S) (some (.int .i64 (st : Int))) (some (.int .i64 ((p : Int) + 1))) none).run Tryz.prog W = .ok (.string X) W := fun W => by
                rw [run_slice_string W 9 S .i64 .i64 st ((p : Int) + 1) Tryz.underlying9 (by omega) (by omega) (by omega)]
                rw [← HXX.out]
                congr 3
              clear hX
              go_wp2_with (at_builtin; (refine wpList_append_lies _ rfl (.tmp 28) (.tmp 34) 65 rfl w.heap.size 60 i0 _ 1 16 Tryz.underlying65 hi hz0 hz1 hz2 rfl (by omega) (.slice Av q cv) q (strs acc) rfl (hown2.alloc _) ⟨W.heap.size, 0, none⟩ 1 1 [.string X] rfl rfl (World.news_of_block (cs := #[.string X]) (heap_alloc_new _ _)) (by simp [Value.oneCell']) (by omega) (by simp only [maxLen]; omega) (by omega) (by simp; omega) (W.heap.size + 1) (by simp) ?_); intro g2 cap2 w3 hown3 hgrow3 hat3 hlt3)
              have e1 : strs acc ++ [Value.string X] = strs (acc ++ [(s.drop st).take (p + 1 - st)]) := by rw [← HXX.out, HX.out]; simp [strs]
              rw [e1] at hown3
              have GI : Hid (w3.heap[w.heap.size]? = some (.stringIter S (p + 1))) := by
                rw [Hid, hgrow3.block _ (by simp; omega) (own_ne_iter HO2.out HH2.out), Lib.alloc_old _ _ _ hW1]
                exact HH2.out
              have G3 := Lib.hid hown3
              have GB3 : Hid (Below w.heap.size w w3) := (HB2.out.alloc (by omega) _).grown hgrow3 (by simp; omega) (fun z hz => (HO2.out.lt z hz).1)
              clear hown3 hgrow3 hat3 hown2 e1 hsl
              go_wp2
              go_roundw
              case rel => exact ⟨p + 1, p + 1, 0, q + 1, cap2, _, _, by omega, by omega, by omega, by omega, rfl, by go_num, rfl, GI.out, HE2, G3, GB3.out⟩
              case measure =>
                simp only [World.iterPos, GI.out, HIT.out]
                omega
            · have HE2 : Hid (Tr.trF [] 0 [] s = Tr.trF ((s.drop st).take (p + 1 - st)) (op - 1) acc (s.drop (p + 1))) := by
                rw [Hid, HTC.out, if_neg (by omega), if_neg (by omega), HCUT.out]
              have t0 : ((op : Int) - 1 == 0) = false := beq_f (by omega)
              clear HTC
              go_wp2
              go_roundw
              case rel => exact ⟨p + 1, st, op - 1, q, cv, Av, acc, by omega, by omega, by omega, by omega, rfl, rfl, by go_num, HH2.out, HE2, HO2, HB2.out⟩
              case measure =>
                simp only [World.iterPos, HH2.out, HIT.out]
                omega
          · have G : Hid (Tr.trF [] 0 [] s = ([], false)) := by rw [Hid, HE.out]; exact tr_other hc h91 h93
            have t1 : ((c.toNat : Int) == 91) = false := beq_f (fun e => h91 (UInt8.toNat_inj.1 (by simp; omega)))
            have t2 : ((c.toNat : Int) == 93) = false := beq_f (fun e => h93 (UInt8.toNat_inj.1 (by simp; omega)))
            generalize hW : wr.iterAt w.heap.size S (p + 1) = W at *
            clear hc hbyte hasc HE HBw HO hit hW hit2 hsz2 h91 h93
            go_wp2
            go_ret2
            exact ResT.none G.out HB2.out
      · have hd := decode_high S p hps (by rw [hbyte]; omega)
        have hnx : ∀ ty, (Instr.next (.pointer (some ⟨w.heap.size, 0, none⟩)) true ty).run Tryz.prog wr = _ := fun ty => Lib.run_next_any_at wr w.heap.size S p ty hit hps
        have h91 : c ≠ 91 := fun e => by subst e; exact hasc (by decide)
        have h93 : c ≠ 93 := fun e => by subst e; exact hasc (by decide)
        have G : Hid (Tr.trF [] 0 [] s = ([], false)) := by rw [Hid, HE.out]; exact tr_other hc h91 h93
        have HB2 := Lib.hid (Lib.below_iterAt HBw (k := w.heap.size) (Nat.le_refl _) S (p + (Utf8.decode S p).2))
        generalize hW : wr.iterAt w.heap.size S (p + (Utf8.decode S p).2) = W at *
        obtain ⟨rn, hrn⟩ : ∃ rn, rn = (Utf8.decode S p).1 := ⟨_, rfl⟩
        rw [← hrn] at hnx hd
        have t1 : ((rn : Int) == 91) = false := beq_f (by have := hd.1; omega)
        have t2 : ((rn : Int) == 93) = false := beq_f (by have := hd.1; omega)
        clear hc hbyte hasc HE HBw HO hit hW h91 h93 hrn hd
        go_wp2
        go_ret2
        exact ResT.none G.out HB2.out
    · have hnx : ∀ ty, (Instr.next (.pointer (some ⟨w.heap.size, 0, none⟩)) true ty).run Tryz.prog wr = _ := fun ty => Lib.run_next_end_at wr w.heap.size S p ty hit hps
      have e : Tr.trF [] 0 [] s = (acc, op == 0) := by
        have hl : s.length ≤ p := by have := HSZ.out; unfold Hid at this; omega
        have := HE.out
        rw [List.drop_of_length_le hl] at this
        rw [this]
        simp [Tr.trF]
      have G : Hid (ResT (Tr.trF [] 0 [] s) w (.returned (.tuple #[.slice Av q cv, .bool (op == 0)])) wr) := by
        rw [Hid, e]; exact ⟨Av, q, cv, rfl, HO.out, HBw⟩
      by_cases h0 : op = 0
      · subst h0
        clear HBw HE e hit
        go_wp2
        go_ret2
        exact G.out
      · have t0 : ((op : Int) == 0) = false := beq_f (by omega)
        have t1 : (op == 0) = false := by simp [h0]
        rw [t1] at G
        clear HBw HE e hit h0 t1
        go_wp2
        go_ret2
        exact G.out
end Go.Proofs.YtpngohklicgbjaaGreat
/-
  The branches of a tree by its text.
-/
namespace Go.Proofs.YtpngohklicgbjaaGreat
open Go.RowKit Fld
set_option linter.unusedVariables false
set_option linter.unusedSimpArgs false
set_option maxRecDepth 100000

/-- texts of the call's own -/
def ResTs (l : List (List UInt8)) (w : World) (e : Ending) (w' : World) : Prop :=
  ∃ A q c, e = .returned (.slice A q c) ∧ q = l.length ∧ w'.ownsRow w.heap.size 60 1 (.slice A q c) q (strs l) ∧ Below w.heap.size w w'
theorem branches_any (x : List UInt8) (w : World) (hx : Tr.isTx x = true) :
    Calls Tryz.prog 34 #[.string ⟨x.toArray⟩] w (ResTs (Tr.brT x) w) := by
  obtain ⟨⟨h2, h16⟩, _, _⟩ := Tr.br_parts hx
  obtain ⟨S, hS⟩ : ∃ S : ByteArray, S = ⟨x.toArray⟩ := ⟨_, rfl⟩
  have hsz : S.size = x.length := by rw [hS]; exact size_S x
  have HX : Hid (S.extract 1 (x.length - 1) = ⟨(Tr.inner x).toArray⟩) := by
    rw [Hid, hS, extract_S]; unfold Tr.inner; rw [show x.length - 1 - 1 = x.length - 2 from by omega]
  obtain ⟨X, hX⟩ : ∃ X, X = S.extract 1 (x.length - 1) := ⟨_, rfl⟩
  have hXX : X = ⟨(Tr.inner x).toArray⟩ := by rw [hX]; exact HX.out
  have HXX : Hid (S.extract 1 (x.length - 1) = X) := hX.symm
  have hil : (Tr.inner x).length ≤ 1048576 := by unfold Tr.inner; rw [List.length_take]; omega
  have C0 := treesIn_any (Tr.inner x) w hil
  rw [← hXX] at C0
  have hsl : ∀ W, (Instr.slice 60 (.string S) (some (.int .i64 1)) (some (.int .i64 ((S.size : Int) - 1))) none).run Tryz.prog W = .ok (.string X) W := fun W => by
    have h9 := run_slice_string W 60 S .i64 .i64 1 ((S.size : Int) - 1) Tryz.underlying60 (by omega) (by omega) (by omega)
    rw [show (S.size : Int) - 1 = ((x.length - 1 : Nat) : Int) from by omega] at h9 ⊢
    rw [h9, ← HXX.out]
    congr 3
  rw [← hS]
  have hs2 : 2 ≤ S.size := by omega
  have hs16 : S.size ≤ 16 := by omega
  clear hX hXX hS hsz h2 h16 hil hx
  go_enter Tryz.func34, Tryz.ntmps34
  go_wp2_with fail
  refine C0.mono ?_
  rintro e w1 ⟨A, q, c, rfl, own1, bel1⟩
  have G : Hid (ResTs (Tr.brT x) w (.returned (.slice A q c)) w1) := by
    refine ⟨A, q, c, rfl, ?_, own1, bel1⟩
    have := own_len own1
    rw [strs_length] at this
    exact this.symm
  clear own1 bel1
  go_wp2
  go_ret
  exact G.out
end Go.Proofs.YtpngohklicgbjaaGreat
/-
  What holds at all level lists of the model's canonical lists, gone through.
-/
namespace Go.Proofs.YtpngohklicgbjaaGreat.Tr
set_option maxRecDepth 100000

def chk6 (t : List Int) : Bool := decide (can t = up (((partsL t).map can).foldl (fun s p => insD p s) [])) && (partsL t).all (fun p => isLv p && decide (p.length < t.length)) && decide ((partsL t).length ≤ 7)
theorem chk6_all : allLv.all chk6 = true := by decide +kernel
theorem can_parts {t : List Int} (h : isLv t = true) : can t = up (((partsL t).map can).foldl (fun s p => insD p s) []) ∧ (∀ p ∈ partsL t, isLv p = true ∧ p.length < t.length) ∧ (partsL t).length ≤ 7 := by
  have h1 := all_of chk6_all (isLv_iff.1 h)
  unfold chk6 at h1
  simp only [Bool.and_eq_true, decide_eq_true_eq, List.all_eq_true] at h1
  exact ⟨h1.1.1, h1.1.2, h1.2⟩
/-- put in at a place -/
theorem insD_at {part : List Int} : ∀ {S : List (List Int)} {k : Nat}, (∀ j s, j < k → S[j]? = some s → lessL s part = false) → (∀ s, S[k]? = some s → lessL s part = true) → k ≤ S.length → insD part S = S.take k ++ part :: S.drop k
  | [], k, _, _, h => by
    have : k = 0 := by simpa using h
    subst this; rfl
  | s :: r, 0, _, h2, _ => by
    have := h2 s rfl
    rw [insD, if_pos this]; rfl
  | s :: r, k+1, h1, h2, h3 => by
    have h0 := h1 0 s (by omega) rfl
    rw [insD, if_neg (by rw [h0]; simp), insD_at (S := r) (k := k) (fun j x hj hx => h1 (j + 1) x (by omega) hx) (fun x hx => h2 x hx) (by simpa using h3)]
    rfl
theorem insD_length (part : List Int) : ∀ S : List (List Int), (insD part S).length = S.length + 1
  | [] => rfl
  | s :: r => by
    rw [insD]; split
    · rfl
    · rw [List.length_cons, insD_length part r]; rfl
theorem insD_sum (part : List Int) : ∀ S : List (List Int), (insD part S).flatten.length = S.flatten.length + part.length
  | [] => by simp [insD]
  | s :: r => by
    rw [insD]; split
    · rw [List.flatten_cons, List.length_append]; omega
    · rw [List.flatten_cons, List.flatten_cons, List.length_append, List.length_append, insD_sum part r]; omega
end Go.Proofs.YtpngohklicgbjaaGreat.Tr
/-
  Stage weights, plain: by the branches of a text, in any order.
-/
namespace Go.Proofs.YtpngohklicgbjaaGreat
open Go.RowKit Fld
set_option linter.unusedVariables false
set_option linter.unusedSimpArgs false
set_option maxRecDepth 100000

def mulL (a b : List Int) : List Int := List.zipWith (fun x y => x * y % 10007) a b
theorem mulL_length {a b : List Int} {n : Nat} (ha : a.length = n) (hb : b.length = n) : (mulL a b).length = n := by unfold mulL; rw [List.length_zipWith]; omega
theorem mulL_at {a b : List Int} {j : Nat} {x y : Int} (hx : a[j]? = some x) (hy : b[j]? = some y) : (mulL a b)[j]? = some (x * y % 10007) := by
  unfold mulL; rw [List.getElem?_zipWith, hx, hy]
theorem mulL_num : ∀ a b : List Int, allNum (mulL a b) = true
  | [], _ => by simp [mulL, allNum]
  | _ :: _, [] => by simp [mulL, allNum]
  | x :: a, y :: b => by
    have := mulL_num a b
    rw [allNum_iff] at this ⊢
    intro z hz
    unfold mulL at hz
    rw [List.zipWith_cons_cons, List.mem_cons] at hz
    rcases hz with rfl | hz
    · omega
    · exact this z hz
theorem mod_three (x y z : Int) : x * y % 10007 * z % 10007 = x * y * z % 10007 := by
  rw [Int.mul_emod, Int.emod_emod, ← Int.mul_emod]
theorem mulL_right : ∀ a b c : List Int, mulL (mulL a b) c = mulL (mulL a c) b
  | [], b, c => by simp [mulL]
  | x :: a, [], c => by cases c <;> simp [mulL]
  | x :: a, y :: b, [] => by simp [mulL]
  | x :: a, y :: b, z :: c => by
    have h := mulL_right a b c
    unfold mulL at h ⊢
    rw [List.zipWith_cons_cons, List.zipWith_cons_cons, List.zipWith_cons_cons, List.zipWith_cons_cons, h, mod_three, mod_three, Int.mul_right_comm]
/-- the stage weights of a text -/
def swF (m : List (List Int)) (n : Nat) : Nat → List UInt8 → List Int
  | 0, _ => List.replicate n 1
  | k+1, x => (Tr.brT x).foldl (fun a b => mulL a (appL m (swF m n k b))) (List.replicate n 1)
theorem foldW_congr (m : List (List Int)) (f g : List UInt8 → List Int) : ∀ (L : List (List UInt8)) (a : List Int), (∀ b ∈ L, f b = g b) → L.foldl (fun a b => mulL a (appL m (f b))) a = L.foldl (fun a b => mulL a (appL m (g b))) a
  | [], _, _ => rfl
  | b :: L, a, h => by rw [List.foldl_cons, List.foldl_cons, h b (by simp), foldW_congr m f g L _ (fun c hc => h c (by simp [hc]))]
theorem swF_fuel (m : List (List Int)) (n : Nat) : ∀ (k j : Nat) (x : List UInt8), Tr.isTx x = true → x.length ≤ k → x.length ≤ j → swF m n k x = swF m n j x := fun k => by
  induction k with
  | zero => intro j x hx h1 h2; have := (Tr.br_parts hx).1.1; omega
  | succ k ih =>
    intro j x hx h1 h2
    cases j with
    | zero => have := (Tr.br_parts hx).1.1; omega
    | succ j =>
      have hb := (Tr.br_parts hx).2.1
      exact foldW_congr m _ _ _ _ fun b hm => ih j b (hb b hm).1 (by have := (hb b hm).2; omega) (by have := (hb b hm).2; omega)
def sw (m : List (List Int)) (n : Nat) (x : List UInt8) : List Int := swF m n 16 x
theorem sw_eq {m : List (List Int)} {n : Nat} {x : List UInt8} (hx : Tr.isTx x = true) : sw m n x = (Tr.brT x).foldl (fun a b => mulL a (appL m (sw m n b))) (List.replicate n 1) := by
  have h := (Tr.br_parts hx).1
  unfold sw
  rw [swF_fuel m n 16 17 x hx (by omega) (by omega)]; rfl
/-- what the first k branches make -/
def swTo (m : List (List Int)) (n : Nat) (L : List (List UInt8)) (k : Nat) : List Int := (L.take k).foldl (fun a b => mulL a (appL m (sw m n b))) (List.replicate n 1)
theorem swTo_succ {m : List (List Int)} {n k : Nat} {L : List (List UInt8)} {b : List UInt8} (h : L[k]? = some b) : swTo m n L (k + 1) = mulL (swTo m n L k) (appL m (sw m n b)) := by
  unfold swTo; rw [List.take_add_one, h]; simp
theorem fold_len {m : List (List Int)} {n : Nat} (hm : m.length = n) (f : List UInt8 → List Int) : ∀ (L : List (List UInt8)) (a : List Int), a.length = n → (L.foldl (fun a b => mulL a (appL m (f b))) a).length = n
  | [], a, h => h
  | b :: L, a, h => by rw [List.foldl_cons]; exact fold_len hm f L _ (mulL_length h ((appL_length m _).trans hm))
theorem fold_num {m : List (List Int)} (f : List UInt8 → List Int) : ∀ (L : List (List UInt8)) (a : List Int), allNum a = true → allNum (L.foldl (fun a b => mulL a (appL m (f b))) a) = true
  | [], a, h => h
  | b :: L, a, h => by rw [List.foldl_cons]; exact fold_num f L _ (mulL_num _ _)
theorem swTo_len {m : List (List Int)} {n : Nat} (hm : m.length = n) (L : List (List UInt8)) (k : Nat) : (swTo m n L k).length = n := fold_len hm _ _ _ (by simp)
theorem swTo_num (m : List (List Int)) (n : Nat) (L : List (List UInt8)) (k : Nat) : allNum (swTo m n L k) = true := fold_num _ _ _ (ones_num n)
theorem sw_len {m : List (List Int)} {n : Nat} (hm : m.length = n) {x : List UInt8} (hx : Tr.isTx x = true) : (sw m n x).length = n := by rw [sw_eq hx]; exact fold_len hm _ _ _ (by simp)
theorem sw_num {m : List (List Int)} {n : Nat} {x : List UInt8} (hx : Tr.isTx x = true) : allNum (sw m n x) = true := by rw [sw_eq hx]; exact fold_num _ _ _ (ones_num n)
theorem swTo_br {m : List (List Int)} {n q : Nat} {x : List UInt8} (hx : Tr.isTx x = true) (hq : (Tr.brT x).length = q) : swTo m n (Tr.brT x) q = sw m n x := by
  rw [sw_eq hx]; unfold swTo; rw [List.take_of_length_le (by omega)]
def chkW (t : List Int) : Bool := ((Tr.partsL t).map Tr.txt).isPerm (Tr.brT (Tr.txt t))
theorem chkW_all : Tr.allLv.all chkW = true := by decide +kernel
theorem swTo_parts {m : List (List Int)} {n q : Nat} {t : List Int} (h : Tr.isLv t = true) (hq : (Tr.partsL t).length = q) : swTo m n ((Tr.partsL t).map Tr.txt) q = sw m n (Tr.txt t) := by
  have h1 : ((Tr.partsL t).map Tr.txt).Perm (Tr.brT (Tr.txt t)) := by
    have := Tr.all_of chkW_all (Tr.isLv_iff.1 h)
    unfold chkW at this
    exact List.isPerm_iff.1 this
  rw [sw_eq (Tr.tx_txt h)]; unfold swTo; rw [List.take_of_length_le (by rw [List.length_map]; omega)]
  exact h1.foldl_eq' (fun x _ y _ z => mulL_right _ _ _) _
end Go.Proofs.YtpngohklicgbjaaGreat
/-
  Lists compared: alike, less; the model's and the library's.
-/
namespace Go.Proofs.YtpngohklicgbjaaGreat
open Go.RowKit Fld
set_option linter.unusedVariables false
set_option linter.unusedSimpArgs false
set_option maxRecDepth 100000

set_option maxHeartbeats 400000 in
theorem l01Same_any (A A' : Option Addr) (n n' c c' B B' : Nat) (xs ys : List Int) (w : World) (hl : xs.length = n) (hl' : ys.length = n') (hn : n ≤ 9223372036854775807) (hn' : n' ≤ 9223372036854775807) (h : Row w B A (ints xs)) (h' : Row w B' A' (ints ys)) :
    Calls Tryz.prog 141 #[.slice A n c, .slice A' n' c'] w fun e w' => e = .returned (.bool (eqL xs ys)) ∧ ∃ m, w' = w.drewN m := by
  have HL := Lib.hid hl
  have HL' := Lib.hid hl'
  clear hl hl'
  by_cases hnn : n = n'
  · subst hnn
    go_enter Tryz.func141, Tryz.ntmps141
    go_wp2_with fail
    go_loopw [5] (fun i wr => ∃ k m : Nat, k ≤ n ∧ i = .int .i64 k ∧ wr = w.drewN m ∧ Hid (xs.take k = ys.take k)) (fun i _ => n - (intOf i).toNat)
    case atStart => exact ⟨0, 0, Nat.zero_le _, rfl, rfl, rfl⟩
    case round =>
      obtain ⟨k, m, hk, rfl, rfl, HT⟩ := hrel
      by_cases hlt : k < n
      · obtain ⟨x, hx⟩ := at_lt (show k < xs.length by rw [HL.out]; exact hlt)
        obtain ⟨y, hy⟩ := at_lt (show k < ys.length by rw [HL'.out]; exact hlt)
        obtain ⟨b, o, rfl, _, hc⟩ := h k _ (ints_at hx)
        obtain ⟨b', o', rfl, _, hc'⟩ := h' k _ (ints_at hy)
        by_cases hxy : x = y
        · subst hxy
          have G := Lib.hid (take_same HT.out hx hy)
          clear hx hy HT
          go_wp2_with fail
          go_quiet (fail)
          go_wp2
          go_roundw
          case rel => exact ⟨k + 1, _, by omega, by go_num, rfl, G⟩
          case measure => simp [intOf]; omega
        · have G := Lib.hid (eqL_at hx hy hxy)
          have t := bne_t hxy
          clear hx hy HT hxy
          go_wp2_with fail
          go_quiet (fail)
          go_wp2
          go_ret
          exact ⟨ret_bool G.out.symm, _, World.drewN_drewN ..⟩
      · obtain rfl : k = n := by omega
        have G := Lib.hid (eqL_end HT.out HL.out HL'.out)
        clear HT
        go_wp2
        go_ret
        exact ⟨ret_bool G.out.symm, _, rfl⟩
  · have G := Lib.hid (eqL_len (xs := xs) (ys := ys) (by rw [HL.out, HL'.out]; exact hnn))
    have t := bne_t (show (n : Int) ≠ (n' : Int) by omega)
    clear hnn
    go_enter Tryz.func141, Tryz.ntmps141
    go_wp2
    go_ret
    exact ⟨ret_bool G.out.symm, 0, rfl⟩
theorem less_at : ∀ {xs ys : List Int} {k : Nat} {x y : Int}, xs.take k = ys.take k → xs[k]? = some x → ys[k]? = some y → x ≠ y → Tr.lessL xs ys = decide (x < y)
  | [], ys, k, x, y, _, hx, _, _ => by simp at hx
  | a :: xs, [], k, x, y, _, _, hy, _ => by simp at hy
  | a :: xs, b :: ys, 0, x, y, _, hx, hy, hne => by
    simp at hx hy
    subst hx hy
    rw [Tr.lessL, if_neg hne]
  | a :: xs, b :: ys, k+1, x, y, h, hx, hy, hne => by
    simp only [List.take_succ_cons, List.cons.injEq] at h
    simp only [List.getElem?_cons_succ] at hx hy
    rw [Tr.lessL, if_pos h.1]
    exact less_at h.2 hx hy hne
theorem less_end : ∀ {xs ys : List Int} {k : Nat}, xs.take k = ys.take k → (xs.length = k ∨ ys.length = k) → Tr.lessL xs ys = decide (xs.length < ys.length)
  | [], [], k, _, _ => by simp [Tr.lessL]
  | [], b :: ys, k, _, _ => by simp [Tr.lessL]
  | a :: xs, [], k, _, _ => by simp [Tr.lessL]
  | a :: xs, b :: ys, 0, _, h => by simp at h
  | a :: xs, b :: ys, k+1, h, hl => by
    simp only [List.take_succ_cons, List.cons.injEq] at h
    simp only [List.length_cons, Nat.add_right_cancel_iff] at hl
    rw [Tr.lessL, if_pos h.1, less_end h.2 hl]
    simp
set_option maxHeartbeats 400000 in
theorem l01Less_any (A A' : Option Addr) (n n' c c' B B' : Nat) (xs ys : List Int) (w : World) (hl : xs.length = n) (hl' : ys.length = n') (hn : n ≤ 9223372036854775807) (hn' : n' ≤ 9223372036854775807) (h : Row w B A (ints xs)) (h' : Row w B' A' (ints ys)) :
    Calls Tryz.prog 149 #[.slice A n c, .slice A' n' c'] w fun e w' => e = .returned (.bool (Tr.lessL xs ys)) ∧ ∃ m, w' = w.drewN m := by
  have HL := Lib.hid hl
  have HL' := Lib.hid hl'
  clear hl hl'
  go_enter Tryz.func149, Tryz.ntmps149
  go_wp2_with fail
  go_loopw [5] (fun i wr => ∃ k m : Nat, k ≤ n ∧ k ≤ n' ∧ i = .int .i64 k ∧ wr = w.drewN m ∧ Hid (xs.take k = ys.take k)) (fun i _ => n - (intOf i).toNat)
  case atStart => exact ⟨0, 0, Nat.zero_le _, Nat.zero_le _, rfl, rfl, rfl⟩
  case round =>
    obtain ⟨k, m, hk, hk', rfl, rfl, HT⟩ := hrel
    by_cases hlt : k < n
    · by_cases hlt' : k < n'
      · obtain ⟨x, hx⟩ := at_lt (show k < xs.length by rw [HL.out]; exact hlt)
        obtain ⟨y, hy⟩ := at_lt (show k < ys.length by rw [HL'.out]; exact hlt')
        obtain ⟨b, o, rfl, _, hc⟩ := h k _ (ints_at hx)
        obtain ⟨b', o', rfl, _, hc'⟩ := h' k _ (ints_at hy)
        by_cases hxy : x = y
        · subst hxy
          have G := Lib.hid (take_same HT.out hx hy)
          clear hx hy HT
          go_wp2_with fail
          go_quiet (fail)
          go_wp2
          go_roundw
          case rel => exact ⟨k + 1, _, by omega, by omega, by go_num, rfl, G⟩
          case measure => simp [intOf]; omega
        · have G := Lib.hid (less_at HT.out hx hy hxy)
          have t := bne_t hxy
          clear hx hy HT hxy
          go_wp2_with fail
          go_quiet (fail)
          go_wp2_with fail
          go_quiet (fail)
          go_wp2
          go_ret
          exact ⟨by rw [G.out]; rfl, _, by rw [World.drewN_drewN, World.drewN_drewN]⟩
      · have G := Lib.hid (less_end HT.out (.inr (by rw [HL'.out]; omega)))
        rw [HL.out, HL'.out] at G
        clear HT
        go_wp2
        go_ret
        exact ⟨by rw [G.out]; rfl, _, rfl⟩
    · have G := Lib.hid (less_end HT.out (.inl (by rw [HL.out]; omega)))
      rw [HL.out, HL'.out] at G
      clear HT
      go_wp2
      go_ret
      exact ⟨by rw [G.out]; rfl, _, rfl⟩
end Go.Proofs.YtpngohklicgbjaaGreat
/-
  The program's canonical lists and its test on them.
-/
namespace Go.Proofs.YtpngohklicgbjaaGreat
open Go.RowKit Fld
set_option linter.unusedVariables false
set_option linter.unusedSimpArgs false
set_option maxRecDepth 100000

theorem wrap_brk {ss : List (List UInt8)} (h : ∀ x ∈ ss, Brk x) : Brk (Tr.wrap ss) := by
  intro c hc
  unfold Tr.wrap at hc
  rw [List.mem_cons, List.mem_append, List.mem_flatten, List.mem_singleton] at hc
  rcases hc with rfl | ⟨x, hx, hcx⟩ | rfl
  · exact .inl rfl
  · exact h x hx c hcx
  · exact .inr rfl
theorem txt_brk : ∀ (d : Nat) (t : List Int), Brk (Tr.txtF d t)
  | 0, t => fun c hc => by simp [Tr.txtF] at hc
  | d+1, t => by
    rw [Tr.txtF]
    refine wrap_brk fun x hx => ?_
    rw [(Tr.sortS_perm _).mem_iff, List.mem_map] at hx
    obtain ⟨p, _, rfl⟩ := hx
    exact txt_brk d p
theorem lv_txt {t : List Int} (h : Tr.isLv t = true) : Tr.lvl (Tr.txt t) = Tr.can t ∧ Tr.isLv (Tr.can t) = true ∧ (Tr.can t).length = t.length ∧ (Tr.txt t).length = 2 * t.length := by
  have h1 := Tr.all_of Tr.chk1_all (Tr.isLv_iff.1 h)
  unfold Tr.chk1 at h1
  simp only [Bool.and_eq_true, beq_iff_eq] at h1
  exact ⟨h1.1.1.1, h1.1.1.2, h1.1.2, h1.2⟩
theorem lv_bd {t : List Int} (h : Tr.isLv t = true) : 1 ≤ t.length ∧ t.length ≤ 8 := by
  have := Tr.isLv_iff.1 h
  exact ⟨this.1, this.2.1⟩
def isTr (t : List Int) : Bool := Tr.isLv t && eqL (Tr.can t) t
/-- levels of the text of a level list -/
theorem levelsOf_any (t : List Int) (w : World) (h : Tr.isLv t = true) : Calls Tryz.prog 94 #[.string ⟨(Tr.txt t).toArray⟩] w (NewRow 2 t.length (ints (Tr.can t)) w) := by
  obtain ⟨e1, _, e2, e3⟩ := lv_txt h
  have h1 := levels_any (Tr.txt t) w (by have := (lv_bd h).2; omega) (txt_brk _ _)
  rw [e1, e2] at h1
  exact h1
/-- what CanonicalTree is to answer -/
def canA (t : List Int) : List Int × Int := if Tr.isLv t = true then (Tr.can t, 0) else ([], 1)
theorem canA_yes {t : List Int} (h : Tr.isLv t = true) : canA t = (Tr.can t, 0) := if_pos h
theorem canA_no {t : List Int} (h : Tr.isLv t = false) : canA t = ([], 1) := if_neg (by rw [h]; simp)
end Go.Proofs.YtpngohklicgbjaaGreat
/-
  A result beside a code, handed back.
-/
namespace Go.Proofs.YtpngohklicgbjaaGreat
open Go.RowKit Fld
set_option linter.unusedVariables false

theorem ResI.of' {r : Int × Int} {w w' : World} {x k : Int} (h : r = (x, k)) (hb : Below w.heap.size w w') : ResI r w (.returned (.tuple #[.int .i64 x, .int .i64 k])) w' := by
  subst h; exact ⟨rfl, hb⟩
end Go.Proofs.YtpngohklicgbjaaGreat
/-
  Stage weights: the program's walk.
-/
namespace Go.Proofs.YtpngohklicgbjaaGreat
open Go.RowKit Fld
set_option linter.unusedVariables false
set_option linter.unusedSimpArgs false
set_option maxRecDepth 100000

theorem mix_stepW {U V : List Int} {j : Nat} {u : Int} (hu : U[j]? = some u) (hl : V.length = U.length) : (U.take j ++ V.drop j).set j u = U.take (j + 1) ++ V.drop (j + 1) := by
  have hj : j < U.length := (List.getElem?_eq_some_iff.1 hu).1
  exact mark_step (by omega) (by omega) hu
theorem mix_atW {U V : List Int} {j : Nat} {v : Int} (hv : V[j]? = some v) (hl : V.length = U.length) : (U.take j ++ V.drop j)[j]? = some v := by
  have hj : j < V.length := (List.getElem?_eq_some_iff.1 hv).1
  rw [List.getElem?_append_right (by rw [List.length_take]; omega), List.length_take, Nat.min_eq_left (by omega), Nat.sub_self, List.getElem?_drop, Nat.add_zero]; exact hv
theorem mix_lenW (U V : List Int) (j : Nat) (hl : V.length = U.length) (hj : j ≤ U.length) : (U.take j ++ V.drop j).length = U.length := by simp; omega
/-- the weights so far, in block g: nothing else of what was there has turned -/
def WState (w w2 : World) (T : TypeId) (g n c : Nat) (xs : List Int) (wr : World) : Prop :=
  wr.ownsRow w.heap.size T 1 (.slice (some ⟨g, 0, none⟩) n c) n (ints xs) ∧ Within g (g + 1) w2 wr
theorem WState.below {w w2 wr w3 : World} {T : TypeId} {g n c : Nat} {xs : List Int} (h : WState w w2 T g n c xs wr) (hb : Below wr.heap.size wr w3) : WState w w2 T g n c xs w3 := by
  refine ⟨?_, h.2.trans (Within.of_below hb)⟩
  exact (OwnR.below (OwnR.of h.1) hb (Nat.le_refl _)).1
theorem WState.put {w w2 wr : World} {T : TypeId} {g n c j : Nat} {xs : List Int} {u : Int} (h : WState w w2 T g n c xs wr) (hj : j < n) : WState w w2 T g n c (xs.set j u) (wr.setCell ⟨g, j, none⟩ (.int .i64 u)) := by
  have hs := h.1.stored j (.int .i64 u)
  refine ⟨?_, h.2.trans (Within.grown hs.2 (fun g' e => by injection e with e; subst e; exact ⟨Nat.le_refl _, Nat.lt_succ_self _⟩))⟩
  have := hs.1
  unfold ints intsK at this ⊢
  rw [List.map_set]; exact this
theorem WState.drewN {w w2 wr : World} {T : TypeId} {g n c : Nat} {xs : List Int} (h : WState w w2 T g n c xs wr) (j : Nat) : WState w w2 T g n c xs (wr.drewN j) := h.below (below_drewN (Below.refl _ _) j)
theorem own_block {w : World} {base : Nat} {T : TypeId} {A : Option Addr} {n c : Nat} {vs : List Value} (h : w.ownsRow base T 1 (.slice A n c) n vs) (hn : 1 ≤ n) : ∃ g, A = some ⟨g, 0, none⟩ ∧ base ≤ g ∧ g < w.heap.size := by
  rcases h.2 with ⟨_, h0⟩ | ⟨g, cap, cur, e, hb, hg, _⟩
  · omega
  · injection e with e1 _ e3
    exact ⟨g, e1, hb, (Array.getElem?_eq_some_iff.1 hg).1⟩
def StageW (d : Nat) : Prop := ∀ (x : List UInt8) (A D : Option Addr) (n c dd B : Nat) (m : List (List Int)) (w : World), Tr.isTx x = true → x.length ≤ d → m.length = n → 1 ≤ n → n ≤ 8 → Wide m n → (∀ r ∈ m, allNum r = true) → B ≤ w.heap.size → Mat w B A m →
  Calls Tryz.prog 29 #[.agg #[.slice A n c, .slice D n dd], .string ⟨x.toArray⟩] w (NewRow 68 n (ints (sw m n x)) w)
set_option maxHeartbeats 4000000 in
theorem stageW_succ (d : Nat) (IH : StageW d) : StageW (d + 1) := by
  intro x A D n c dd B m w hx hxd hl hn1 hn hq hnum hB h
  have hbr := Tr.br_parts hx
  have HX := Lib.hid hx
  have HL := Lib.hid hl
  have HQ := Lib.hid hq
  have HN := Lib.hid hnum
  obtain ⟨W0, hW0⟩ : ∃ W0, W0 = w.alloc (.cells #[.slice A n c, .slice D n dd] 57) := ⟨_, rfl⟩
  have HB : Hid (Below w.heap.size w W0) := by rw [hW0]; exact (Below.refl _ _).alloc (Nat.le_refl _) _
  have HBX : Hid (Bx W0 w.heap.size 57 (.slice A n c) (.slice D n dd)) := by rw [hW0]; exact Bx.new _ _ _ _
  have zA : w.heap.size < W0.heap.size := HBX.out.lt
  have HM := Lib.hid (h.below HB.out hB)
  have IHb : Hid (∀ b ∈ Tr.brT x, ∀ (V : World), Below W0.heap.size W0 V ∨ Mat V B A m → B ≤ V.heap.size → Mat V B A m → Calls Tryz.prog 29 #[.agg #[.slice A n c, .slice D n dd], .string ⟨b.toArray⟩] V (NewRow 68 n (ints (sw m n b)) V)) := fun b hb V _ h1 h2 =>
    IH b A D n c dd B m V (hbr.2.1 b hb).1 (by have := (hbr.2.1 b hb).2; omega) HL.out hn1 hn HQ.out HN.out h1 h2
  have CB := fun V => branches_any x V hx
  obtain ⟨L, hL⟩ : ∃ L, L = Tr.brT x := ⟨_, rfl⟩
  have HLL := Lib.hid hL
  have hq7 : L.length ≤ 7 := by rw [hL]; exact hbr.2.2
  have HTX : Hid (∀ b ∈ L, Tr.isTx b = true) := fun b hb => (hbr.2.1 b (by rw [← hL]; exact hb)).1
  rw [← hL] at IHb
  simp only [← hL] at CB
  obtain ⟨X, hX⟩ : ∃ X : ByteArray, X = ⟨x.toArray⟩ := ⟨_, rfl⟩
  rw [← hX] at CB ⊢
  clear hl hq hnum h hbr hx hL hX hxd IH
  go_enter Tryz.func29, Tryz.ntmps29
  go_wp2_with fail
  rw [← hW0]
  clear hW0
  refine (ones_any A D n c n dd W0 hn1 hn).mono ?_
  rintro e w1 ⟨A1, c1, rfl, own1, b1⟩
  obtain ⟨g1, rfl, hg0, hg1⟩ := own_block own1 hn1
  have hc1 := own_cap own1
  have hz1 := b1.size
  have HO1 := Lib.hid own1
  have HB1 := Lib.hid b1
  clear own1 b1
  go_wp2_with fail
  refine (CB w1).mono ?_
  rintro e w2 ⟨A2, q, c2, rfl, hq, own2, b2⟩
  have hz2 := b2.size
  have HQL := Lib.hid hq
  have hq7' : q ≤ 7 := by omega
  have HO2 := Lib.hid (OwnR.of own2)
  have S0 : Hid (WState w w2 68 g1 n c1 (swTo m n L 0) w2) := by
    refine ⟨?_, Within.refl _ _ _⟩
    exact ((((OwnR.of HO1.out).below b2 (Nat.le_refl _)).more (Nat.le_of_lt zA) (Nat.le_refl _))).1
  have HB2 := Lib.hid (HB1.out.trans (b2.mono hz1))
  have HBX2 := Lib.hid (HBX.out.next HB2.out)
  have HM2 := Lib.hid (HM.out.below HB2.out (by omega))
  have HBW := Lib.hid (HB.out.trans (HB2.out.mono (Nat.le_of_lt zA)))
  have FR : Hid (∀ xs wr, WState w w2 68 g1 n c1 xs wr → Row wr w2.heap.size A2 (strs L) ∧ Bx wr w.heap.size 57 (.slice A n c) (.slice D n dd) ∧ Mat wr B A m ∧ Below w.heap.size w wr ∧ w2.heap.size ≤ wr.heap.size) := fun xs wr hs =>
    ⟨(HO2.out.within hs.2 (Nat.le_refl _) (by omega)).row, HBX2.out.within hs.2 (by omega), HM2.out.below (hs.2.below (B := B) (by omega) (by omega)) (Nat.le_refl _), Below.then HBW.out hs.2 (by omega) (by omega), hs.2.size⟩
  clear hq own2 b2 HO1 HB1 CB HM HB HBX HB2
  go_wp2_with fail
  go_loopw [15] (fun i wr => ∃ k : Nat, k ≤ q ∧ i = .int .i64 k ∧ WState w w2 68 g1 n c1 (swTo m n L k) wr) (fun i _ => q - (intOf i).toNat)
  case atStart => exact ⟨0, Nat.zero_le _, rfl, S0.out⟩
  case round =>
    obtain ⟨k, hk, rfl, HS⟩ := hrel
    by_cases hlt : k < q
    · obtain ⟨b, hb⟩ := at_lt (show k < L.length by have := HQL.out; omega)
      obtain ⟨hrow, hbx, hmat, hbw, hzr⟩ := FR.out _ _ HS
      obtain ⟨b3, o3, rfl, _, hcb⟩ := hrow k _ (strs_at hb)
      have hbm := List.mem_of_getElem? hb
      have hbt := HTX.out b hbm
      have KK : Hid (∀ V, Below wr.heap.size wr V → V.cell? ⟨w.heap.size, 0, none⟩ = some (.slice A n c) ∧ V.cell? ⟨w.heap.size, 1, none⟩ = some (.slice D n dd)) := fun V hV => ⟨(hbx.next hV).c0, (hbx.next hV).c1⟩
      have C1 := fun V (hV : Below wr.heap.size wr V) => IHb.out b hbm V (.inr (hmat.below hV (by omega))) (by have := hV.size; omega) (hmat.below hV (by omega))
      have C2 := fun V (hV : Below wr.heap.size wr V) A3 c3 (h3 : Row V V.heap.size A3 (ints (sw m n b))) => applied_any A D A3 n c n dd c3 B V.heap.size m (sw m n b) V HL.out hn HQ.out HN.out (sw_len HL.out hbt) (sw_num hbt) (by have := hV.size; omega) (Nat.le_refl _) (hmat.below hV (by omega)) h3
      obtain ⟨Y, hY⟩ : ∃ Y : ByteArray, Y = ⟨b.toArray⟩ := ⟨_, rfl⟩
      rw [← hY] at hcb
      simp only [← hY] at C1
      have HSB := Lib.hid HS
      have HE := Lib.hid (swTo_succ (m := m) (n := n) hb)
      have hPl : Hid ((appL m (sw m n b)).length = n) := (appL_length _ _).trans HL.out
      have hPn : Hid (allNum (appL m (sw m n b)) = true) := appL_num _ _
      have hVl : Hid ((swTo m n L k).length = n) := swTo_len HL.out _ _
      have hVn : Hid (allNum (swTo m n L k) = true) := swTo_num _ _ _ _
      obtain ⟨P, hP⟩ : ∃ P, P = appL m (sw m n b) := ⟨_, rfl⟩
      obtain ⟨V0, hV0⟩ : ∃ V, V = swTo m n L k := ⟨_, rfl⟩
      rw [← hP] at HE hPl hPn
      simp only [← hP] at C2
      rw [← hV0] at HE HSB hVl hVn
      clear hb hrow hbx hmat hbm hbt hY HS hP hV0
      go_wp2_with fail
      go_region_held3 (fun V => V.cell? ⟨w.heap.size, 0, none⟩ = some (.slice A n c) ∧ V.cell? ⟨w.heap.size, 1, none⟩ = some (.slice D n dd))
        (first | exact KK.out _ (Below.refl _ _) | exact KK.out _ (Below.refl _ _).drew | exact KK.out _ (below_drewN (Below.refl _ _) _) | exact KK.out _ (below_undrawn (a := 1) be3) | exact KK.out _ ((below_undrawn (a := 1) be3).trans (be4.mono (below_undrawn (a := 1) be3).size)))
        (first
          | (go_at_call 29; refine (C1 _ (by first | exact (Below.refl _ _).drew | exact below_drewN (Below.refl _ _) _)).mono ?_; clear C1; rintro e w3 ⟨A3, c3, rfl, own3, be3⟩)
          | (go_at_call 53; refine (C2 _ (by exact below_undrawn (a := 1) be3) A3 c3 (by exact row_of_own own3)).mono ?_; clear C2; rintro e w4 ⟨A4, c4, rfl, own4, be4⟩))
      have hb34 : Below wr.heap.size wr w4 := (below_undrawn (a := 1) be3).trans (be4.mono (below_undrawn (a := 1) be3).size)
      have hz3 : wr.heap.size ≤ w3.heap.size := (below_undrawn (a := 1) be3).size
      have hz4 := be4.size
      have HS4 := Lib.hid (HSB.out.below hb34)
      have HO4 := Lib.hid (OwnR.of own4)
      have hzw := HSB.out.2.size
      clear own3 own4 be3 be4 hb34 KK hcb
      go_wp2_with fail
      go_loopw [25] (fun i wj => ∃ j : Nat, j ≤ n ∧ i = .int .i64 j ∧ WState w w2 68 g1 n c1 ((mulL V0 P).take j ++ V0.drop j) wj ∧ Within g1 (g1 + 1) w4 wj) (fun i _ => n - (intOf i).toNat)
      case atStart => exact ⟨0, Nat.zero_le _, rfl, by simpa using HS4.out, Within.refl _ _ _⟩
      case round =>
        obtain ⟨j, hj, rfl, HJ, HW4⟩ := hrel
        have hUl : Hid ((mulL V0 P).length = n) := mulL_length hVl.out hPl.out
        by_cases hjl : j < n
        · obtain ⟨p, hp⟩ := at_lt (show j < P.length by rw [hPl.out]; exact hjl)
          obtain ⟨v, hv⟩ := at_lt (show j < V0.length by rw [hVl.out]; exact hjl)
          obtain ⟨p0, p1⟩ := num_at hPn.out hp
          obtain ⟨v0, v1⟩ := num_at hVn.out hv
          obtain ⟨b5, o5, rfl, _, hcp⟩ := (HO4.out.within HW4 (Nat.le_refl _) (by omega)).row j _ (ints_at hp)
          have hcv := HJ.1.cellAt j (by omega)
          rw [ints_at (mix_atW hv (by rw [hVl.out, hUl.out]))] at hcv
          have hfv := HJ.1.frozenAt j
          have HU := mulL_at hv hp
          obtain ⟨u, hu⟩ : ∃ u, u = v * p % 10007 := ⟨_, rfl⟩
          have C5 : Hid (∀ w : World, Calls Tryz.prog 54 #[.int .i64 v, .int .i64 p] w fun e w' => e = .returned (.int .i64 u) ∧ w = w') := fun w => by rw [hu]; exact times_any _ _ _ v0 v1 p0 p1
          rw [← hu] at HU
          have G1 := HJ.put (u := u) hjl
          rw [mix_stepW HU (by rw [hVl.out, hUl.out])] at G1
          have HG1 := Lib.hid G1
          have HG2 : Hid (Within g1 (g1 + 1) w4 (wr.setCell ⟨g1, j, none⟩ (.int .i64 u))) := HW4.trans (Within.grown (HJ.1.stored j (.int .i64 u)).2 (fun g' e => by injection e with e; subst e; exact ⟨Nat.le_refl _, Nat.lt_succ_self _⟩))
          have j0 : (0 : Int) ≤ (j : Int) := Int.natCast_nonneg _
          have j1 : (j : Int) < (n : Int) := by omega
          clear hp hv HJ HW4 HU G1 hu
          go_wp2_with fail
          refine (C5.out _).mono ?_
          rintro e w6 ⟨rfl, rfl⟩
          go_wp2
          go_roundw
          case rel => exact ⟨j + 1, by omega, by go_num, HG1.out, HG2.out⟩
          case measure => simp [intOf]; omega
        · obtain rfl : j = n := by omega
          rw [List.take_of_length_le (by rw [hUl.out]; exact Nat.le_refl _), List.drop_of_length_le (by rw [hVl.out]; exact Nat.le_refl _), List.append_nil, ← HE.out] at HJ
          have HJH := Lib.hid HJ
          clear HJ HW4
          go_wp2
          go_roundw
          case rel => exact ⟨k + 1, by omega, by go_num, HJH.out⟩
          case measure => simp [intOf]; omega
    · obtain rfl : k = q := by omega
      have e : swTo m n L k = sw m n x := by rw [HLL.out]; exact swTo_br HX.out (by rw [← HLL.out]; exact HQL.out.symm)
      rw [e] at HS
      have G : Hid (NewRow 68 n (ints (sw m n x)) w (.returned (.slice (some ⟨g1, 0, none⟩) n c1)) wr) := ⟨_, _, rfl, HS.1, (FR.out _ _ HS).2.2.2.1⟩
      clear HS
      go_wp2
      go_ret
      exact G.out
theorem stageW_upto : ∀ d, StageW d
  | 0 => fun x A D n c dd B m w hx hxd => by have := (Tr.br_parts hx).1.1; omega
  | d + 1 => stageW_succ d (stageW_upto d)
theorem stageWeights_any (x : List UInt8) (A D : Option Addr) (n c dd B : Nat) (m : List (List Int)) (w : World) (hx : Tr.isTx x = true) (hl : m.length = n) (hn1 : 1 ≤ n) (hn : n ≤ 8) (hq : Wide m n) (hnum : ∀ r ∈ m, allNum r = true) (hB : B ≤ w.heap.size) (h : Mat w B A m) :
    Calls Tryz.prog 29 #[.agg #[.slice A n c, .slice D n dd], .string ⟨x.toArray⟩] w (NewRow 68 n (ints (sw m n x)) w) := stageW_upto x.length x A D n c dd B m w hx (Nat.le_refl _) hl hn1 hn hq hnum hB h
/-- the weight of a text -/
def wtT (m : List (List Int)) (b : List Int) (n : Nat) (x : List UInt8) : Int := dotK b (sw m n x) n
set_option maxHeartbeats 2000000 in
theorem weight_any (x : List UInt8) (A D : Option Addr) (n c d B B' : Nat) (m : List (List Int)) (b : List Int) (w : World) (hx : Tr.isTx x = true) (hl : m.length = n) (hl' : b.length = n) (hn1 : 1 ≤ n) (hn : n ≤ 8) (hq : Wide m n) (hnum : ∀ r ∈ m, allNum r = true) (hnb : allNum b = true) (hB : B ≤ w.heap.size) (hB' : B' ≤ w.heap.size) (h : Mat w B A m) (r : Row w B' D (ints b)) :
    Calls Tryz.prog 38 #[.agg #[.slice A n c, .slice D n d], .string ⟨x.toArray⟩] w fun e w' => e = .returned (.int .i64 (wtT m b n x)) ∧ Below w.heap.size w w' := by
  have HL := Lib.hid hl
  have HL' := Lib.hid hl'
  have HQ := Lib.hid hq
  have HN := Lib.hid hnum
  obtain ⟨W0, hW0⟩ : ∃ W0, W0 = w.alloc (.cells #[.slice A n c, .slice D n d] 57) := ⟨_, rfl⟩
  have HB : Hid (Below w.heap.size w W0) := by rw [hW0]; exact (Below.refl _ _).alloc (Nat.le_refl _) _
  have HX : Bx W0 w.heap.size 57 (.slice A n c) (.slice D n d) := by rw [hW0]; exact Bx.new _ _ _ _
  have hz := HB.out.size
  have HM := Lib.hid (h.below HB.out hB)
  have HR := Lib.hid (r.below HB.out hB')
  have KK : Hid (∀ V, Below W0.heap.size W0 V → V.cell? ⟨w.heap.size, 0, none⟩ = some (.slice A n c) ∧ V.cell? ⟨w.heap.size, 1, none⟩ = some (.slice D n d)) := fun V hV => ⟨(HX.next hV).c0, (HX.next hV).c1⟩
  have C1 := fun V (hV : Below W0.heap.size W0 V) => stageWeights_any x A D n c d B m V hx HL.out hn1 hn HQ.out HN.out (by have := hV.size; omega) (HM.out.below hV (by omega))
  have C2 := fun V (hV : Below W0.heap.size W0 V) A3 c3 (h3 : Row V V.heap.size A3 (ints (sw m n x))) => dotOf_any D A3 n d c3 B' V.heap.size b (sw m n x) V HL'.out (sw_len HL.out hx) (by omega) (HR.out.below hV (by omega)) h3 hnb (sw_num hx)
  have HW : Hid (wtT m b n x = dotK b (sw m n x) n) := rfl
  rw [HW.out]
  obtain ⟨X, hX⟩ : ∃ X : ByteArray, X = ⟨x.toArray⟩ := ⟨_, rfl⟩
  simp only [← hX] at C1
  rw [← hX]
  clear hl hl' hq hnum h r HX hX HW
  go_enter Tryz.func38, Tryz.ntmps38
  go_wp2_with fail
  change Code.wp _ _ _ _ (w.alloc (.cells #[.slice A n c, .slice D n d] 57))
  rw [← hW0]
  clear hW0
  go_region_held3 (fun V => V.cell? ⟨w.heap.size, 0, none⟩ = some (.slice A n c) ∧ V.cell? ⟨w.heap.size, 1, none⟩ = some (.slice D n d))
    (first | exact KK.out _ (Below.refl _ _) | exact KK.out _ (Below.refl _ _).drew | exact KK.out _ (below_drewN (Below.refl _ _) _) | exact KK.out _ (below_undrawn (a := 1) b2) | exact KK.out _ (below_drewN (below_undrawn (a := 1) b2) _))
    (first
      | (go_at_call 29; refine (C1 _ (by first | exact (Below.refl _ _).drew | exact below_drewN (Below.refl _ _) _)).mono ?_; clear C1; rintro e w2 ⟨A2, c2, rfl, own2, b2⟩)
      | (go_at_call 36; refine (C2 _ (by exact below_undrawn (a := 1) b2) A2 c2 (by exact row_of_own own2)).mono ?_; clear C2; rintro e w3 ⟨rfl, j3, rfl⟩))
  have hb2 : Below W0.heap.size W0 w2 := below_undrawn (a := 1) b2
  have G : Hid (Below w.heap.size w (w2.drewN j3)) := below_drewN (HB.out.trans (hb2.mono HB.out.size)) _
  clear own2 b2 hb2 KK
  go_wp2
  go_ret
  exact ⟨rfl, G.out⟩
/-- what StageWeights and WeightOf answer -/
def stageWA (m : List (List Int)) (b t : List Int) : List Int × Int := if isTabB m b = true ∧ Tr.isLv t = true then (sw m b.length (Tr.txt t), 0) else ([], 1)
def weightA (m : List (List Int)) (b t : List Int) : Int × Int := if isTabB m b = true ∧ Tr.isLv t = true then (wtT m b b.length (Tr.txt t), 0) else (0, 1)
set_option maxHeartbeats 4000000 in
theorem pStageWeights_L (A D : Option Addr) (n c n' d B B' : Nat) (m : List (List Int)) (b : List Int) (w : World) (hl : m.length = n) (hl' : b.length = n') (hn : n ≤ 9223372036854775807) (hn' : n' ≤ 9223372036854775807) (hB : B ≤ w.heap.size) (hB' : B' ≤ w.heap.size) (h : Mat w B A m) (r : Row w B' D (ints b)) (A2 : Option Addr) (n2 c2 B2 : Nat) (t : List Int) (hl2 : t.length = n2) (hn2 : n2 ≤ 1048576) (hB2 : B2 ≤ w.heap.size) (h2 : Row w B2 A2 (ints t)) (hc2 : n2 ≤ c2) :
    Calls Tryz.prog 7 #[.agg #[.slice A n c, .slice D n' d], .slice A2 n2 c2] w (ResL (stageWA m b t) w) := by
  have HL := Lib.hid hl
  have HL' := Lib.hid hl'
  have HL2 := Lib.hid hl2
  obtain ⟨W0, hW0⟩ : ∃ W0, W0 = w.alloc (.cells #[.slice A n c, .slice D n' d] 27) := ⟨_, rfl⟩
  have HB : Hid (Below w.heap.size w W0) := by rw [hW0]; exact (Below.refl _ _).alloc (Nat.le_refl _) _
  have HM : Hid (Mat W0 B A m) := h.below HB.out hB
  have HR : Hid (Row W0 B' D (ints b)) := r.below HB.out hB'
  have HT : Hid (Row W0 B2 A2 (ints t)) := h2.below HB.out hB2
  have HX : Hid (Bx W0 w.heap.size 27 (.slice A n c) (.slice D n' d)) := by rw [hW0]; exact Bx.new _ _ _ _
  have hz := HB.out.size
  clear hl hl' hl2 h r h2
  cases ht : isTabB m b
  · have G : Hid (stageWA m b t = ([], 1)) := by unfold stageWA; rw [Hid, if_neg (by rw [ht]; simp)]
    go_enter Tryz.func7, Tryz.ntmps7
    go_wp2_with fail
    rw [← hW0]
    refine (isTableau_any A D n c n' d B B' m b W0 HL.out HL'.out hn hn' (by omega) (by omega) HM.out HR.out).mono ?_
    rintro e w2 ⟨rfl, b2⟩
    rw [ht]
    have HB2 := Lib.hid (HB.out.trans (b2.mono HB.out.size))
    clear b2 hW0 ht
    go_wp2
    go_ret2
    exact ResL.nil G.out HB2.out
  · go_enter Tryz.func7, Tryz.ntmps7
    go_wp2_with fail
    rw [← hW0]
    refine (isTableau_any A D n c n' d B B' m b W0 HL.out HL'.out hn hn' (by omega) (by omega) HM.out HR.out).mono ?_
    rintro e w2 ⟨rfl, b2⟩
    rw [ht]
    have hz2 := b2.size
    have C0 := isLevels_any A2 n2 c2 B2 t w2 HL2.out (by omega) (HT.out.below b2 (by omega))
    have HB2 := Lib.hid (HB.out.trans (b2.mono HB.out.size))
    cases hlv : Tr.isLv t
    · have G : Hid (stageWA m b t = ([], 1)) := by unfold stageWA; rw [Hid, if_neg (by rw [hlv]; simp)]
      rw [hlv] at C0
      clear b2 hW0 ht
      go_wp2_with fail
      refine C0.mono ?_
      rintro e w3 ⟨rfl, j3, rfl⟩
      have HB3 := Lib.hid (below_drewN HB2.out j3)
      clear C0
      go_wp2
      go_ret2
      exact ResL.nil G.out HB3.out
    · rw [hlv] at C0
      obtain ⟨t1, t2, t3, t4, t5, t6⟩ := isTabB_parts ht
      rw [HL'.out] at t1 t2 t3 t5
      have hnn : n' = n := by rw [← t3]; exact HL.out
      subst hnn
      have HW := Lib.hid t5
      have HNB := Lib.hid t4
      have HN := Lib.hid t6
      have hx := Tr.tx_txt hlv
      obtain ⟨l1, l8⟩ := lv_bd hlv
      rw [HL2.out] at l1 l8
      have HM2 := Lib.hid (HM.out.below b2 (by omega))
      have HR2 := Lib.hid (HR.out.below b2 (by omega))
      have HT2 := Lib.hid (HT.out.below b2 (by omega))
      have HX2 := HX.out.next b2
      clear b2 hW0 t3 t4 t5 t6
      go_wp2_with fail
      refine C0.mono ?_
      rintro e w3 ⟨rfl, j3, rfl⟩
      have q0 : ∀ j, (w2.drewN j).cell? ⟨w.heap.size, 0, none⟩ = some (.slice A n' c) := fun j => HX2.c0
      have q1 : ∀ j, (w2.drewN j).cell? ⟨w.heap.size, 1, none⟩ = some (.slice D n' d) := fun j => HX2.c1
      have p0 := q0 j3
      have p1 := q1 j3
      have HTX := Lib.hid hx
      have G : Hid (stageWA m b t = (sw m n' (Tr.txt t), 0)) := by unfold stageWA; rw [Hid, if_pos ⟨ht, hlv⟩, HL'.out]
      clear C0 HX2 hlv ht hx
      go_wp2_with fail
      refine (schemeOf_any A D n' c n' d B B' n' m b (w2.drewN j3) HL.out HL'.out t2 HW.out (by omega) (by omega) (by show B ≤ w2.heap.size; omega) (by show B' ≤ w2.heap.size; omega) (HM2.out.drewN _) (HR2.out.drewN _)).mono ?_
      rintro e w4 ⟨A4, c4, D4, d4, rfl, hc4, hd4, m4, r4, b4⟩
      have hz4 : w2.heap.size ≤ w4.heap.size := b4.size
      have hb4 : Below w2.heap.size w2 w4 := ⟨b4.os, b4.tape, b4.output, b4.size, b4.block⟩
      have HB4 := Lib.hid (HB2.out.trans (hb4.mono HB2.out.size))
      have HM4 := Lib.hid m4
      have HR4 := Lib.hid r4
      have HT4 := Lib.hid (HT2.out.below hb4 (by omega))
      clear b4 hb4 m4 r4 q0 q1 p0 p1
      go_wp2_with fail
      refine (treeOf_any A2 n2 c2 B2 t w4 HL2.out l1 l8 hc2 (by omega) HT4.out).mono ?_
      rintro e w5 ⟨rfl, b5⟩
      have hz5 := b5.size
      have HB5 := Lib.hid (HB4.out.trans (b5.mono HB4.out.size))
      have HM5 := Lib.hid (HM4.out.below b5 (Nat.le_refl _))
      have HR5 := Lib.hid (HR4.out.below b5 (Nat.le_refl _))
      have HSL := Lib.hid (sw_len HL.out HTX.out)
      clear b5
      go_wp2_with fail
      refine (stageWeights_any (Tr.txt t) A4 D4 n' c4 d4 w4.heap.size m w5 HTX.out HL.out t1 t2 HW.out HN.out hz5 HM5.out).mono ?_
      rintro e w6 ⟨A6, c6, rfl, own6, b6⟩
      have HB6 := Lib.hid (HB5.out.trans (b6.mono HB5.out.size))
      have HR6 := Lib.hid (row_of_own own6)
      clear b6 own6
      go_wp2_with fail
      refine (integersOf_any A6 n' c6 w6.heap.size (sw m n' (Tr.txt t)) w6 HSL.out (by omega) (Nat.le_refl _) HR6.out).mono ?_
      rintro e w7 ⟨A7, c7, rfl, own7, b7⟩
      have HB7 := Lib.hid (HB6.out.trans (b7.mono HB6.out.size))
      have GR : Hid (ResL (stageWA m b t) w (.returned (.tuple #[.slice A7 n' c7, .int .i64 0])) w7) := ResL.of G.out HSL.out (by omega) ((OwnR.of own7).more HB6.out.size (Nat.le_refl _)).1 HB7.out
      clear b7 own7
      go_wp2
      go_ret2
      exact GR.out
set_option maxHeartbeats 4000000 in
theorem pWeightOf_L (A D : Option Addr) (n c n' d B B' : Nat) (m : List (List Int)) (b : List Int) (w : World) (hl : m.length = n) (hl' : b.length = n') (hn : n ≤ 9223372036854775807) (hn' : n' ≤ 9223372036854775807) (hB : B ≤ w.heap.size) (hB' : B' ≤ w.heap.size) (h : Mat w B A m) (r : Row w B' D (ints b)) (A2 : Option Addr) (n2 c2 B2 : Nat) (t : List Int) (hl2 : t.length = n2) (hn2 : n2 ≤ 1048576) (hB2 : B2 ≤ w.heap.size) (h2 : Row w B2 A2 (ints t)) (hc2 : n2 ≤ c2) :
    Calls Tryz.prog 13 #[.agg #[.slice A n c, .slice D n' d], .slice A2 n2 c2] w (ResI (weightA m b t) w) := by
  have HL := Lib.hid hl
  have HL' := Lib.hid hl'
  have HL2 := Lib.hid hl2
  obtain ⟨W0, hW0⟩ : ∃ W0, W0 = w.alloc (.cells #[.slice A n c, .slice D n' d] 27) := ⟨_, rfl⟩
  have HB : Hid (Below w.heap.size w W0) := by rw [hW0]; exact (Below.refl _ _).alloc (Nat.le_refl _) _
  have HM : Hid (Mat W0 B A m) := h.below HB.out hB
  have HR : Hid (Row W0 B' D (ints b)) := r.below HB.out hB'
  have HT : Hid (Row W0 B2 A2 (ints t)) := h2.below HB.out hB2
  have HX : Hid (Bx W0 w.heap.size 27 (.slice A n c) (.slice D n' d)) := by rw [hW0]; exact Bx.new _ _ _ _
  have hz := HB.out.size
  clear hl hl' hl2 h r h2
  cases ht : isTabB m b
  · have G : Hid (weightA m b t = (0, 1)) := by unfold weightA; rw [Hid, if_neg (by rw [ht]; simp)]
    go_enter Tryz.func13, Tryz.ntmps13
    go_wp2_with fail
    rw [← hW0]
    refine (isTableau_any A D n c n' d B B' m b W0 HL.out HL'.out hn hn' (by omega) (by omega) HM.out HR.out).mono ?_
    rintro e w2 ⟨rfl, b2⟩
    rw [ht]
    have HB2 := Lib.hid (HB.out.trans (b2.mono HB.out.size))
    clear b2 hW0 ht
    go_wp2
    go_ret2
    exact ResI.of' G.out HB2.out
  · go_enter Tryz.func13, Tryz.ntmps13
    go_wp2_with fail
    rw [← hW0]
    refine (isTableau_any A D n c n' d B B' m b W0 HL.out HL'.out hn hn' (by omega) (by omega) HM.out HR.out).mono ?_
    rintro e w2 ⟨rfl, b2⟩
    rw [ht]
    have hz2 := b2.size
    have C0 := isLevels_any A2 n2 c2 B2 t w2 HL2.out (by omega) (HT.out.below b2 (by omega))
    have HB2 := Lib.hid (HB.out.trans (b2.mono HB.out.size))
    cases hlv : Tr.isLv t
    · have G : Hid (weightA m b t = (0, 1)) := by unfold weightA; rw [Hid, if_neg (by rw [hlv]; simp)]
      rw [hlv] at C0
      clear b2 hW0 ht
      go_wp2_with fail
      refine C0.mono ?_
      rintro e w3 ⟨rfl, j3, rfl⟩
      have HB3 := Lib.hid (below_drewN HB2.out j3)
      clear C0
      go_wp2
      go_ret2
      exact ResI.of' G.out HB3.out
    · rw [hlv] at C0
      obtain ⟨t1, t2, t3, t4, t5, t6⟩ := isTabB_parts ht
      rw [HL'.out] at t1 t2 t3 t5
      have hnn : n' = n := by rw [← t3]; exact HL.out
      subst hnn
      have HW := Lib.hid t5
      have HNB := Lib.hid t4
      have HN := Lib.hid t6
      have hx := Tr.tx_txt hlv
      obtain ⟨l1, l8⟩ := lv_bd hlv
      rw [HL2.out] at l1 l8
      have HM2 := Lib.hid (HM.out.below b2 (by omega))
      have HR2 := Lib.hid (HR.out.below b2 (by omega))
      have HT2 := Lib.hid (HT.out.below b2 (by omega))
      have HX2 := HX.out.next b2
      clear b2 hW0 t3 t4 t5 t6
      go_wp2_with fail
      refine C0.mono ?_
      rintro e w3 ⟨rfl, j3, rfl⟩
      have q0 : ∀ j, (w2.drewN j).cell? ⟨w.heap.size, 0, none⟩ = some (.slice A n' c) := fun j => HX2.c0
      have q1 : ∀ j, (w2.drewN j).cell? ⟨w.heap.size, 1, none⟩ = some (.slice D n' d) := fun j => HX2.c1
      have p0 := q0 j3
      have p1 := q1 j3
      have HTX := Lib.hid hx
      have G : Hid (weightA m b t = (wtT m b n' (Tr.txt t), 0)) := by unfold weightA; rw [Hid, if_pos ⟨ht, hlv⟩, HL'.out]
      clear C0 HX2 hlv ht hx
      go_wp2_with fail
      refine (schemeOf_any A D n' c n' d B B' n' m b (w2.drewN j3) HL.out HL'.out t2 HW.out (by omega) (by omega) (by show B ≤ w2.heap.size; omega) (by show B' ≤ w2.heap.size; omega) (HM2.out.drewN _) (HR2.out.drewN _)).mono ?_
      rintro e w4 ⟨A4, c4, D4, d4, rfl, hc4, hd4, m4, r4, b4⟩
      have hz4 : w2.heap.size ≤ w4.heap.size := b4.size
      have hb4 : Below w2.heap.size w2 w4 := ⟨b4.os, b4.tape, b4.output, b4.size, b4.block⟩
      have HB4 := Lib.hid (HB2.out.trans (hb4.mono HB2.out.size))
      have HM4 := Lib.hid m4
      have HR4 := Lib.hid r4
      have HT4 := Lib.hid (HT2.out.below hb4 (by omega))
      clear b4 hb4 m4 r4 q0 q1 p0 p1
      go_wp2_with fail
      refine (treeOf_any A2 n2 c2 B2 t w4 HL2.out l1 l8 hc2 (by omega) HT4.out).mono ?_
      rintro e w5 ⟨rfl, b5⟩
      have hz5 := b5.size
      have HB5 := Lib.hid (HB4.out.trans (b5.mono HB4.out.size))
      have HM5 := Lib.hid (HM4.out.below b5 (Nat.le_refl _))
      have HR5 := Lib.hid (HR4.out.below b5 (Nat.le_refl _))
      clear b5
      go_wp2_with fail
      refine (weight_any (Tr.txt t) A4 D4 n' c4 d4 w4.heap.size w4.heap.size m b w5 HTX.out HL.out HL'.out t1 t2 HW.out HN.out HNB.out hz5 hz5 HM5.out HR5.out).mono ?_
      rintro e w6 ⟨rfl, b6⟩
      have HB6 := Lib.hid (HB5.out.trans (b6.mono HB5.out.size))
      clear b6
      go_wp2
      go_ret2
      exact ResI.of' G.out HB6.out
end Go.Proofs.YtpngohklicgbjaaGreat
