/-
  Texts of this seat, joined: what several laws lean on.
-/
import Derived.Test.YtpngohklicgbjaaGreatDrawX
import Derived.Test.YtpngohklicgbjaaGreatPush
import Derived.Deep.RegionLaw
import Derived.Deep.AppendLies
import Derived.Test.YtpngohklicgbjaaGreatTab
import Derived.Test.YtpngohklicgbjaaGreatMat
import Derived.Test.YtpngohklicgbjaaGreatNest
import Derived.OwnWalk
import Derived.Test.YtpngohklicgbjaaGreatSlices
import Derived.Laws.CopyOwn
import Derived.Test.YtpngohklicgbjaaGreatRes1
import Derived.Test.YtpngohklicgbjaaGreatOwn1
import Derived.Test.YtpngohklicgbjaaGreatTree
import Derived.Test.YtpngohklicgbjaaGreatBra
import Derived.Test.YtpngohklicgbjaaGreatLev
import Derived.Test.YtpngohklicgbjaaGreatCan
import Derived.Test.YtpngohklicgbjaaGreatTreeOf
import Derived.Test.YtpngohklicgbjaaGreatSame
import Derived.IntWalk
import Derived.StillTailTactics
import Derived.Test.YtpngohklicgbjaaGreatBraX
import Derived.Test.YtpngohklicgbjaaGreatDraws
/-
  Draws of level lists beside tableaus.
-/
namespace Go.Proofs.YtpngohklicgbjaaGreat
open Go.RowKit Fld
set_option linter.unusedVariables false
set_option linter.unusedSimpArgs false
set_option maxRecDepth 100000

theorem at_lastK {ys : List Int} {j : Nat} (h : ys.length = j + 1) : ∃ y, ys[j]? = some y ∧ y ∈ ys := by
  have hj : j < ys.length := by omega
  exact ⟨ys[j], List.getElem?_eq_getElem hj, List.getElem_mem hj⟩
def UpToK (ys : List Int) (j : Nat) : Prop := ∀ y ∈ ys, 0 ≤ y ∧ y ≤ (j : Int)
theorem UpToK.snoc {ys : List Int} {j : Nat} {r : Int} (h : UpToK ys j) (h0 : 0 ≤ r) (h1 : r ≤ (j : Int) + 1) : UpToK (ys ++ [r]) (j + 1) := fun y hy => by
  rcases List.mem_append.1 hy with h2 | h2
  · have := h y h2; omega
  · obtain rfl : y = r := by simpa using h2
    omega
set_option maxHeartbeats 2000000 in
theorem l09Tree_any (G B : Nat) (xs : List Int) (most : Nat) (w : World) (h1 : 1 ≤ most) (hn : most ≤ 16) (s : Src w 83 G B xs) :
    Calls Tryz.prog 24 #[.pointer (some ⟨G, 0, none⟩), .int .i64 most] w (DrawnL (fun ys => ys.length ≤ most + 1) 83 G B xs w) := by
  obtain ⟨i0, hi, hz0, hz1, hz2⟩ := info_parts info_i64
  have HG := s.lt
  have HBG := s.base
  have S0 := Lib.hid (s.alloc (.cells #[.int .i64 0] 2))
  have O0 : Hid ((w.alloc (.cells #[.int .i64 0] 2)).ownsRow w.heap.size 2 1 (.slice (some ⟨w.heap.size, 0, none⟩) 1 1) 1 (ints [0])) := World.ownsRow_lit w #[.int .i64 0] 1 (Nat.le_refl _) (by decide) rfl
  have U0 : Hid (UpToK [0] 0) := fun y hy => by
    obtain rfl : y = 0 := by simpa using hy
    omega
  clear s
  go_enter Tryz.func24, Tryz.ntmps24
  go_wp2_with fail
  refine (l01Next_any G B xs _ _ (by omega) S0.out).mono ?_
  rintro e w1 ⟨r, rfl, r0, r1, s1, o1⟩
  obtain ⟨rn, rfl⟩ : ∃ rn : Nat, r = (rn : Int) := ⟨r.toNat, by omega⟩
  have hrm : rn + 1 ≤ most := by omega
  have O1 := Lib.hid (own_pastv O0.out HG o1)
  have G1 := Lib.hid (only_trans (World.grownBy_alloc w (.cells #[.int .i64 0] 2) (some G)) o1)
  have S1 := Lib.hid s1
  clear O0 S0 s1 o1
  go_wp2_with fail
  go_loopw [5, 6] (fun v q wr => ∃ j g cap : Nat, ∃ ys : List Int, j ≤ rn ∧ v = .slice (some ⟨g, 0, none⟩) (j + 1) cap ∧ q = .int .i64 ((rn : Int) - j) ∧ ys.length = j + 1 ∧ Hid (UpToK ys j) ∧ wr.ownsRow w.heap.size 2 1 (.slice (some ⟨g, 0, none⟩) (j + 1) cap) (j + 1) (ints ys) ∧ Src wr 83 G B xs ∧ w.grownBy wr (some G)) (fun _ q _ => (intOf q).toNat)
  case atStart => exact ⟨0, _, _, [0], by omega, rfl, by simp, rfl, U0, O1.out, S1.out, G1.out⟩
  case round =>
    obtain ⟨j, g, cap, ys, hj, rfl, rfl, hy1, HU, hown, hs, ho⟩ := hrel
    by_cases hlt : j < rn
    · have h0 : (0 : Int) < (rn : Int) - j := by omega
      have hg := (hown.lt g rfl).1
      obtain ⟨y, hy, hm⟩ := at_lastK hy1
      have hy2 := HU.out y hm
      have hc := hown.cellAt j (by omega)
      rw [ints_at hy] at hc
      have HY1 := Lib.hid hy1
      have HO := Lib.hid hown
      have HGR := Lib.hid ho
      have hsz := ho.size
      clear hown hy1 ho hy hm O1 S1 G1 U0
      go_wp2_with fail
      refine (l01Next_any G B xs _ _ (by omega) hs).mono ?_
      rintro e w1 ⟨r, rfl, q0, q1, s1, o1⟩
      have own1 := own_pastv HO.out HG o1
      have hsz1 := o1.size
      have HR : Hid (UpToK (ys ++ [1 + r]) (j + 1)) := HU.out.snoc (by omega) (by omega)
      have HR' := Lib.hid (ints_snocK ys (1 + r))
      have O1 := Lib.hid o1
      clear hs o1 HU
      go_wp2_with (at_builtin; refine wpList_append_lies _ rfl (.tmp 15) (.tmp 26) 25 rfl w.heap.size 2 i0 _ 1 8 Tryz.underlying25 hi hz0 hz1 hz2 rfl (by omega) (.slice (some ⟨g, 0, none⟩) (j + 1) cap) (j + 1) (ints ys) rfl (own1.alloc _) ⟨w1.heap.size, 0, none⟩ 1 1 [.int .i64 (1 + r)] rfl rfl (World.news_of_block (cs := #[.int .i64 (1 + r)]) (heap_alloc_new _ _)) (by simp [Value.oneCell']) (by omega) (by simp only [maxLen]; omega) (by omega) (by simp; omega) (w1.heap.size + 1) (by simp) ?_; intro g2 cap2 w2 hown2 hgrow2 hat2 hlt2)
      rw [HR'.out] at hown2
      have s2 := (s1.alloc (.cells #[.int .i64 (1 + r)] 2)).only (g := g) hgrow2 (by omega) (by omega)
      have G2 := Lib.hid (only_row (only_alloc (only_trans HGR.out O1.out) _) hgrow2 hg)
      have S2 := Lib.hid s2
      have OW2 := Lib.hid hown2
      clear hown2 hgrow2 hat2 s1 s2 own1
      go_wp2
      go_roundw
      case rel => exact ⟨j + 1, _, _, ys ++ [1 + r], by omega, rfl, by go_num, by simp [HY1.out], HR, OW2.out, S2.out, G2.out⟩
      case measure => simp [intOf]; omega
    · obtain rfl : rn = j := by omega
      have h0 : ¬ (0 : Int) < (rn : Int) - rn := by omega
      have hg := (hown.lt g rfl).1
      obtain ⟨y, hy, hm⟩ := at_lastK hy1
      have hy2 := HU.out y hm
      have HY := Lib.hid hy
      have HY1 := Lib.hid hy1
      have HO := Lib.hid hown
      have HGR := Lib.hid ho
      have hsz := ho.size
      clear hown hy1 ho hy hm O1 S1 G1 U0 HU
      go_wp2_with fail
      refine (l01Next_any G B xs _ _ (by omega) hs).mono ?_
      rintro e w2 ⟨r, rfl, _, _, s2, o2⟩
      have O2 := Lib.hid (own_pastv HO.out HG o2)
      have G2 := Lib.hid (only_trans HGR.out o2)
      have hsz2 := o2.size
      have HG2 := s2.lt
      clear o2 hs HO HGR
      by_cases hr : r = 0
      · have t := beq_t hr
        have hc := O2.out.cellAt rn (by omega)
        rw [ints_at HY.out] at hc
        clear hr
        go_wp2_with fail
        refine (l01Pick_any G B xs _ 3 _ _ [0, y + 2, -1] _ (s2.alloc _) (Row.new w2 _ (ints [0, y + 2, -1])) (fun b o e => by injection e with e; injection e with e1; omega) rfl (by omega) (by omega)).mono ?_
        rintro e w3 ⟨v, rfl, hv, s3, o3⟩
        have O3 := Lib.hid (own_pastv (O2.out.alloc _) HG o3)
        have G3 := Lib.hid (only_trans (only_alloc G2.out _) o3)
        have S3 := Lib.hid s3
        have HR' := Lib.hid (ints_snocK ys v)
        have hsz3 := o3.size
        have hgw : g < w3.heap.size := (O3.out.lt g rfl).2
        clear s3 o3 hv hc O2 G2 s2
        go_wp2_with (at_builtin; refine wpList_append_lies _ rfl (.tmp 31) (.tmp 42) 25 rfl w.heap.size 2 i0 _ 1 8 Tryz.underlying25 hi hz0 hz1 hz2 rfl (by omega) (.slice (some ⟨g, 0, none⟩) (rn + 1) cap) (rn + 1) (ints ys) rfl (O3.out.alloc _) ⟨w3.heap.size, 0, none⟩ 1 1 [.int .i64 v] rfl rfl (World.news_of_block (cs := #[.int .i64 v]) (heap_alloc_new _ _)) (by simp [Value.oneCell']) (by omega) (by simp only [maxLen]; omega) (by omega) (by simp; omega) (w3.heap.size + 1) (by simp) ?_; intro g4 cap4 w4 hown4 hgrow4 hat4 hlt4)
        rw [HR'.out] at hown4
        have HD : Hid (DrawnL (fun ys => ys.length ≤ most + 1) 83 G B xs w (.returned (.slice (some ⟨g4, 0, none⟩) (rn + 1 + 1) cap4)) w4) := ⟨g4, cap4, _, _, rfl, by simp [HY1.out], by simp [HY1.out]; omega, hown4, (S3.out.alloc (.cells #[.int .i64 v] 2)).only (g := g) hgrow4 (by omega) (by omega), only_row (only_alloc G3.out _) hgrow4 hg⟩
        clear hown4 hgrow4 hat4 O3 G3 S3
        go_wp2
        go_ret
        exact HD.out
      · have t := beq_f hr
        have HD : Hid (DrawnL (fun ys => ys.length ≤ most + 1) 83 G B xs w (.returned (.slice (some ⟨g, 0, none⟩) (rn + 1) cap)) w2) := ⟨g, cap, _, _, rfl, HY1.out, by show ys.length ≤ _; rw [HY1.out]; omega, O2.out, s2, G2.out⟩
        clear hr O2 G2 s2
        go_wp2
        go_ret
        exact HD.out
end Go.Proofs.YtpngohklicgbjaaGreat
/-
  A row of a list of lists grows in its place.
-/
namespace Go.Proofs.YtpngohklicgbjaaGreat
open Go.RowKit Fld
set_option linter.unusedVariables false
set_option linter.unusedSimpArgs false
set_option maxRecDepth 100000

theorem OwnMat.grow_row {w w' : World} {lo hi n g cap i g5 c5 c : Nat} {A : Option Addr} {m : List (List Int)} {vs : List Value} {row : List Int} {x : Int} (h : OwnMat w lo hi (.slice (some ⟨g, 0, none⟩) n cap) n m vs) (hs : hi ≤ w.heap.size)
    (hi' : m[i]? = some row) (hv : vs[i]? = some (.slice A row.length c)) (o : w'.ownsRow lo 2 1 (.slice (some ⟨g5, 0, none⟩) (row.length + 1) c5) (row.length + 1) (ints (row ++ [x])))
    (hg : w.grownBy w' (Value.ownBlock (.slice A row.length c))) (hat : Value.ownBlock (.slice A row.length c) = some g5 ∨ hi ≤ g5) (hlt : g5 < w'.heap.size) :
    OwnMat (w'.setCell ⟨g, i, none⟩ (.slice (some ⟨g5, 0, none⟩) (row.length + 1) c5)) lo w'.heap.size (.slice (some ⟨g, 0, none⟩) n cap) n (m.set i (row ++ [x])) (vs.set i (.slice (some ⟨g5, 0, none⟩) (row.length + 1) c5)) := by
  have hil : i < m.length := by
    rcases Nat.lt_or_ge i m.length with q | q
    · exact q
    · rw [List.getElem?_eq_none q] at hi'; cases hi'
  have hsz := hg.size
  obtain ⟨A0, c0, e0, o0⟩ := h.inner i row hi'
  rw [hv] at e0
  injection e0 with e0
  injection e0 with eA eq ec
  subst eA ec
  have outer := h.outer.grown hg (own_types h.outer.1 o0.1 (by decide))
  have hst := outer.1.stored i (.slice (some ⟨g5, 0, none⟩) (row.length + 1) c5)
  have el : (row ++ [x]).length = row.length + 1 := by rw [List.length_append]; rfl
  refine ⟨⟨hst.1, fun g' e => by have := outer.2 g' e; omega⟩, by rw [List.length_set, List.length_set]; exact h.len, ?_, ?_⟩
  · intro s r hr
    by_cases his : i = s
    · subst his
      rw [List.getElem?_set_self hil] at hr
      injection hr with hr
      subst hr
      refine ⟨some ⟨g5, 0, none⟩, c5, by rw [List.getElem?_set_self (by rw [h.len]; exact hil), el], ?_⟩
      rw [el]
      exact (OwnR.of o).grown hst.2 (own_types o outer.1 (by decide))
    · rw [List.getElem?_set_ne his] at hr
      obtain ⟨A2, c2, e2, o2⟩ := h.inner s r hr
      have o3 : OwnR w' lo hi 2 (.slice A2 r.length c2) r.length (ints r) := o2.grown hg (by
        cases hb : Value.ownBlock (.slice A2 r.length c2) with
        | none => exact .inl rfl
        | some q => exact .inr (fun e => h.apart s i _ _ q (Ne.symm his) e2 hv hb e.symm))
      exact ⟨A2, c2, by rw [List.getElem?_set_ne his]; exact e2, (o3.more (Nat.le_refl _) (by omega)).grown hst.2 (own_types o3.1 outer.1 (by decide))⟩
  · have key : ∀ s t g', i ≠ s → vs[s]? = some t → t.ownBlock = some g' → g' ≠ g5 := by
      intro s t g' hne ht hb e
      subst e
      have hsl : s < m.length := by
        rcases Nat.lt_or_ge s m.length with q | q
        · exact q
        · rw [List.getElem?_eq_none (by rw [h.len]; exact q)] at ht; cases ht
      obtain ⟨A2, c2, e2, o2⟩ := h.inner s _ (List.getElem?_eq_getElem hsl)
      rw [ht] at e2
      injection e2 with e2
      subst e2
      rcases hat with q | q
      · exact h.apart i s _ _ g' hne hv ht q hb
      · have := o2.2 g' hb; omega
    intro r s u t g' hne hu ht hb hb'
    by_cases hir : i = r
    · subst hir
      rw [List.getElem?_set_self (by rw [h.len]; exact hil)] at hu
      rw [List.getElem?_set_ne hne] at ht
      injection hu with hu
      subst hu
      have e5 : g5 = g' := by simpa [Value.ownBlock] using hb
      exact key s t g' hne ht hb' e5.symm
    · rw [List.getElem?_set_ne hir] at hu
      by_cases his : i = s
      · subst his
        rw [List.getElem?_set_self (by rw [h.len]; exact hil)] at ht
        injection ht with ht
        subst ht
        have e5 : g5 = g' := by simpa [Value.ownBlock] using hb'
        exact key r u g' hir hu hb e5.symm
      · rw [List.getElem?_set_ne his] at ht
        exact h.apart r s u t g' hne hu ht hb hb'
end Go.Proofs.YtpngohklicgbjaaGreat
/-
  Draws of tableaus, and seldom of something that is none.
-/
namespace Go.Proofs.YtpngohklicgbjaaGreat
open Go.RowKit Fld
set_option linter.unusedVariables false
set_option linter.unusedSimpArgs false
set_option maxRecDepth 100000

/-- whatever happens off the blocks from lo on, P stays -/
def Keeps (lo : Nat) (w' : World) (P : World → Prop) : Prop := ∀ W : World, w'.heap.size ≤ W.heap.size → (∀ g, lo ≤ g → g < w'.heap.size → W.heap[g]? = w'.heap[g]?) → P W
def TabP (A D : Option Addr) (m : List (List Int)) (b : List Int) (W : World) : Prop := Mat W W.heap.size A m ∧ Row W W.heap.size D (ints b)
/-- a tableau, or something near one, that was drawn -/
def DrawnTx (T : TypeId) (G B : Nat) (xs : List Int) (w : World) (e : Ending) (w' : World) : Prop :=
  ∃ A n c D n' d m b, e = .returned (.agg #[.slice A n c, .slice D n' d]) ∧ (m.length = n ∧ b.length = n') ∧ (n ≤ 8 ∧ n' ≤ 9) ∧ (n ≤ c ∧ n' ≤ d) ∧ Keeps w.heap.size w' (TabP A D m b) ∧ Src w' T G B xs ∧ w.grownBy w' (some G)
structure TS (w : World) (xb n : Nat) (A : Option Addr) (c : Nat) (m : List (List Int)) (vs : List Value) (D : Option Addr) (d : Nat) (b : List Int) (wr : World) : Prop where
  box : Bx wr xb 27 (.slice A n c) (.slice D n d)
  res : Bx wr w.heap.size 27 (.slice none 0 0) (.slice none 0 0)
  mat : OwnMat wr (w.heap.size + 1) xb (.slice A n c) n m vs
  row : OwnR wr (w.heap.size + 1) xb 2 (.slice D n d) n (ints b)
  ap : ApartK vs (.slice D n d)
  lo : w.heap.size < xb
section
variable {w wr wr' : World} {xb n c d G B : Nat} {A D : Option Addr} {m : List (List Int)} {vs : List Value} {b xs : List Int} {T : TypeId}
theorem TS.keep (h : TS w xb n A c m vs D d b wr) (hk : ∀ g, w.heap.size ≤ g → g ≤ xb → wr'.heap[g]? = wr.heap[g]?) : TS w xb n A c m vs D d b wr' := by
  have h1 := h.lo
  exact ⟨(hk xb (by omega) (Nat.le_refl _)).trans h.box, (hk _ (Nat.le_refl _) (by omega)).trans h.res, h.mat.keep (fun g a b => hk g (by omega) (by omega)), h.row.keep (fun g a b => hk g (by omega) (by omega)), h.ap, h1⟩
theorem TS.only (h : TS w xb n A c m vs D d b wr) (o : wr.grownBy wr' (some G)) (hG : G < w.heap.size) : TS w xb n A c m vs D d b wr' :=
  h.keep (fun g a b => o.block g (by have := h.box.lt; omega) (fun e => by have := Option.some.inj e; omega))
theorem TS.keeps (h : TS w xb n A c m vs D d b wr) : Keeps (w.heap.size + 1) wr (TabP A D m b) := fun W hz hW => by
  have h1 := h.box.lt
  exact ⟨(h.mat.keep (w' := W) (fun g a b => hW g a (by omega))).mat.more (by omega), (h.row.keep (w' := W) (fun g a b => hW g a (by omega))).row.more (by omega)⟩
theorem own_ne_box {lo k g : Nat} {cap q : Nat} {us : List Value} {u v : Value} (h : wr.ownsRow lo 2 1 (.slice (some ⟨g, 0, none⟩) q cap) q us) (hb : Bx wr k 27 u v) : g ≠ k := by
  rcases h.2 with ⟨e, _⟩ | ⟨g', cap', cur, e, _, hg, _⟩
  · cases e
  · injection e with e
    injection e with e
    injection e with e
    subst e
    intro e2
    subst e2
    unfold Bx at hb
    rw [hb] at hg
    injection hg with hg
    injection hg with _ ht
    exact absurd ht (by decide)
theorem TS.appB {w6 : World} {o : Obj} {g5 cap5 : Nat} (h : TS w xb n A c m vs D d b wr) (ho : w6.ownsRow (w.heap.size + 1) 2 1 (.slice (some ⟨g5, 0, none⟩) (n + 1) cap5) (n + 1) (ints (b ++ [1]))) (hg : (wr.alloc o).grownBy w6 (Value.ownBlock (.slice D n d))) :
    Bx (w6.setCell ⟨xb, 1, none⟩ (.slice (some ⟨g5, 0, none⟩) (n + 1) cap5)) xb 27 (.slice A n c) (.slice (some ⟨g5, 0, none⟩) (n + 1) cap5) ∧ Bx (w6.setCell ⟨xb, 1, none⟩ (.slice (some ⟨g5, 0, none⟩) (n + 1) cap5)) w.heap.size 27 (.slice none 0 0) (.slice none 0 0) ∧
      Keeps (w.heap.size + 1) (w6.setCell ⟨xb, 1, none⟩ (.slice (some ⟨g5, 0, none⟩) (n + 1) cap5)) (TabP A (some ⟨g5, 0, none⟩) m (b ++ [1])) ∧ Below (w.heap.size + 1) wr (w6.setCell ⟨xb, 1, none⟩ (.slice (some ⟨g5, 0, none⟩) (n + 1) cap5)) := by
  have h1 := h.lo
  have h2 := h.box.lt
  have hz : wr.heap.size + 1 ≤ w6.heap.size := by have := hg.size; simpa using this
  have hs : (w6.setCell ⟨xb, 1, none⟩ (.slice (some ⟨g5, 0, none⟩) (n + 1) cap5)).heap.size = w6.heap.size := by simp [World.setCell]
  have hal : Below wr.heap.size wr (wr.alloc o) := (Below.refl _ _).alloc (Nat.le_refl _) _
  have hB : Below (w.heap.size + 1) wr w6 := ((Below.refl (w.heap.size + 1) wr).alloc (by omega) o).grown hg (by simp; omega) (fun q hq => (h.row.1.lt q hq).1)
  have hbx : Bx w6 xb 27 (.slice A n c) (.slice D n d) := (hg.block xb (by simp; omega) (fun e => by have := h.row.2 xb e.symm; omega)).trans (h.box.next hal)
  have hres : Bx w6 w.heap.size 27 (.slice none 0 0) (.slice none 0 0) := (hB.block _ (by omega)).trans h.res
  have hne := own_ne_box ho hbx
  have hset : ∀ g, g ≠ xb → (w6.setCell ⟨xb, 1, none⟩ (.slice (some ⟨g5, 0, none⟩) (n + 1) cap5)).heap[g]? = w6.heap[g]? := fun g hg2 => Below.heap_setCell _ _ _ _ hg2
  have hm1 := h.mat.below hal (by omega)
  have hr1 := h.row.below hal (by omega)
  have hM : OwnMat w6 (w.heap.size + 1) xb (.slice A n c) n m vs := ⟨hm1.outer.grown hg (own_types hm1.outer.1 hr1.1 (by decide)), hm1.len, fun r row hr => by
    obtain ⟨A2, c2, e1, o1⟩ := hm1.inner r row hr
    refine ⟨A2, c2, e1, o1.grown hg ?_⟩
    cases hob : (Value.slice A2 row.length c2).ownBlock with
    | none => exact .inl rfl
    | some q => exact .inr (fun e => h.ap _ (List.mem_of_getElem? e1) q hob e.symm), hm1.apart⟩
  have hO : OwnR w6 (w.heap.size + 1) w6.heap.size 2 (.slice (some ⟨g5, 0, none⟩) (n + 1) cap5) (n + 1) (ints (b ++ [1])) := OwnR.of ho
  refine ⟨heap_setK hbx _, (hset _ (by omega)).trans hres, fun W hzW hW => ⟨?_, ?_⟩, hB.setCell (p := ⟨xb, 1, none⟩) (by show w.heap.size + 1 ≤ xb; omega) _⟩
  · exact (hM.keep (w' := W) (fun g a b => (hW g a (by omega)).trans (hset g (by omega)))).mat.more (by omega)
  · have hg5 := (ho.lt g5 rfl)
    refine Row.more (B := w6.heap.size) ?_ (by omega)
    intro k v hv
    obtain ⟨b2, o2, e, hb, hc⟩ := hO.row k v hv
    injection e with e
    injection e with e1 e2
    subst e1 e2
    refine ⟨_, _, rfl, hb, ?_⟩
    rw [← hc]
    exact World.cell?_of_block (a := ⟨g5, 0 + k, none⟩) ((hW g5 hg5.1 (by rw [hs]; exact hg5.2)).trans (hset g5 hne))
theorem mat_drop {W : World} {S : Nat} (h : Mat W S A m) (hc : c = 1 → m.length ≤ 1) : Mat W S (if c = 1 then A else Option.map (fun x : Addr => { block := x.block, off := x.off + 1 }) A) (m.drop 1) := fun k r hr => by
  rw [List.getElem?_drop] at hr
  obtain ⟨b, o, Ak, ck, e, h1, h2, h3⟩ := h (1 + k) r hr
  have hk : 1 + k < m.length := (List.getElem?_eq_some_iff.1 hr).1
  rw [if_neg (fun e => by have := hc e; omega)]
  subst e
  exact ⟨b, o + 1, Ak, ck, rfl, h1, by rw [show o + 1 + k = o + (1 + k) by omega]; exact h2, h3⟩
theorem TS.setA (h : TS w xb n A c m vs D d b wr) (v : Value) : Bx (wr.setCell ⟨xb, 0, none⟩ v) xb 27 v (.slice D n d) ∧ Bx (wr.setCell ⟨xb, 0, none⟩ v) w.heap.size 27 (.slice none 0 0) (.slice none 0 0) ∧ Keeps (w.heap.size + 1) (wr.setCell ⟨xb, 0, none⟩ v) (TabP A D m b) ∧ Below (w.heap.size + 1) wr (wr.setCell ⟨xb, 0, none⟩ v) := by
  have h1 := h.lo
  have h2 := h.box.lt
  have hs : (wr.setCell ⟨xb, 0, none⟩ v).heap.size = wr.heap.size := by simp [World.setCell]
  have hset : ∀ g, g ≠ xb → (wr.setCell ⟨xb, 0, none⟩ v).heap[g]? = wr.heap[g]? := fun g hg2 => Below.heap_setCell _ _ _ _ hg2
  refine ⟨heap_setK h.box _, (hset _ (by omega)).trans h.res, fun W hz hW => ⟨?_, ?_⟩, (Below.refl _ _).setCell (p := ⟨xb, 0, none⟩) (by show w.heap.size + 1 ≤ xb; omega) _⟩
  · exact (h.mat.keep (w' := W) (fun g a b => (hW g a (by omega)).trans (hset g (by omega)))).mat.more (by omega)
  · exact (h.row.keep (w' := W) (fun g a b => (hW g a (by omega)).trans (hset g (by omega)))).row.more (by omega)
theorem cell_othK {w : World} {b g k : Nat} {o : Nat} {v x : Value} (h : w.cell? ⟨b, o, none⟩ = some x) (hne : b ≠ g) : (w.setCell ⟨g, k, none⟩ v).cell? ⟨b, o, none⟩ = some x :=
  (World.cell?_of_block (heap_setCell_other w ⟨g, k, none⟩ b v hne)).trans h
theorem TS.rowAt {k q g0 cg : Nat} {r0 : List Int} (h : TS w xb n A c m vs D d b wr) (hv : vs[k]? = some (.slice (some ⟨g0, 0, none⟩) q cg)) (hr : m[k]? = some r0) (hq : r0.length = q) : OwnR wr (w.heap.size + 1) xb 2 (.slice (some ⟨g0, 0, none⟩) q cg) q (ints r0) := by
  obtain ⟨A2, c2, e1, o1⟩ := h.mat.inner k r0 hr
  rw [hv] at e1
  injection e1 with e1
  injection e1 with e1 e2 e3
  subst e1 e3 hq
  exact o1
theorem TS.setRow {k j q g0 cg : Nat} {r0 : List Int} (h : TS w xb n A c m vs D d b wr) (hv : vs[k]? = some (.slice (some ⟨g0, 0, none⟩) q cg)) (hr : m[k]? = some r0) (hq : r0.length = q) (v : Int) : TS w xb n A c (m.set k (r0.set j v)) vs D d b (wr.setCell ⟨g0, j, none⟩ (.int .i64 v)) := by
  have o1 := h.rowAt hv hr hq
  obtain ⟨st, gr⟩ := o1.1.stored j (.int .i64 v)
  rw [ints_put] at st
  have hg0 := o1.2 g0 rfl
  have hg1 := (o1.1.lt g0 rfl).1
  have h1 := h.lo
  have hset : ∀ g, g ≠ g0 → (wr.setCell ⟨g0, j, none⟩ (.int .i64 v)).heap[g]? = wr.heap[g]? := fun g hg2 => Below.heap_setCell _ _ _ _ hg2
  exact ⟨(hset _ (by omega)).trans h.box, (hset _ (by omega)).trans h.res, h.mat.set_row hv (by rw [List.length_set]; exact hq) st gr, h.row.grown gr (.inr (h.ap _ (List.mem_of_getElem? hv) g0 rfl)), h.ap, h1⟩
theorem TS.growRow {wa w3 : World} {g0 cg gA g3 cap3 : Nat} {r0 : List Int} {x : Int} (h : TS w xb r0.length (some ⟨gA, 0, none⟩) c m vs D d b wa) (hr : m[0]? = some r0) (hv : vs[0]? = some (.slice (some ⟨g0, 0, none⟩) r0.length cg)) (o : w3.ownsRow (w.heap.size + 1) 2 1 (.slice (some ⟨g3, 0, none⟩) (r0.length + 1) cap3) (r0.length + 1) (ints (r0 ++ [x])))
    (hg : wa.grownBy w3 (Value.ownBlock (.slice (some ⟨g0, 0, none⟩) r0.length cg))) (hat : Value.ownBlock (.slice (some ⟨g0, 0, none⟩) r0.length cg) = some g3 ∨ xb ≤ g3) (hlt : g3 < w3.heap.size) :
    Bx (w3.setCell ⟨gA, 0, none⟩ (.slice (some ⟨g3, 0, none⟩) (r0.length + 1) cap3)) xb 27 (.slice (some ⟨gA, 0, none⟩) r0.length c) (.slice D r0.length d) ∧ Bx (w3.setCell ⟨gA, 0, none⟩ (.slice (some ⟨g3, 0, none⟩) (r0.length + 1) cap3)) w.heap.size 27 (.slice none 0 0) (.slice none 0 0) ∧
      Keeps (w.heap.size + 1) (w3.setCell ⟨gA, 0, none⟩ (.slice (some ⟨g3, 0, none⟩) (r0.length + 1) cap3)) (TabP (some ⟨gA, 0, none⟩) D (m.set 0 (r0 ++ [x])) b) ∧ Below (w.heap.size + 1) wa (w3.setCell ⟨gA, 0, none⟩ (.slice (some ⟨g3, 0, none⟩) (r0.length + 1) cap3)) := by
  have h1 := h.lo
  have h2 := h.box.lt
  have hg0 := (h.rowAt hv hr rfl).2 g0 rfl
  have hg1 := ((h.rowAt hv hr rfl).1.lt g0 rfl).1
  have hA0 := h.mat.outer.2 gA rfl
  have hA1 := (h.mat.outer.1.lt gA rfl).1
  have hz := hg.size
  have hs : (w3.setCell ⟨gA, 0, none⟩ (.slice (some ⟨g3, 0, none⟩) (r0.length + 1) cap3)).heap.size = w3.heap.size := by simp [World.setCell]
  have hM := h.mat.grow_row (by omega) hr hv o hg hat hlt
  have hO := h.mat.outer.1.kept hg (own_types h.mat.outer.1 (h.rowAt hv hr rfl).1 (by decide))
  have hst := (hO.stored 0 (.slice (some ⟨g3, 0, none⟩) (r0.length + 1) cap3)).2
  have hD : OwnR w3 (w.heap.size + 1) xb 2 (.slice D r0.length d) r0.length (ints b) := h.row.grown hg (.inr (h.ap _ (List.mem_of_getElem? hv) g0 rfl))
  have hD2 := hD.grown hst (own_types hD.1 hO (by decide))
  have hset : ∀ g, g ≠ gA → (w3.setCell ⟨gA, 0, none⟩ (.slice (some ⟨g3, 0, none⟩) (r0.length + 1) cap3)).heap[g]? = w3.heap[g]? := fun g hg2 => Below.heap_setCell _ _ _ _ hg2
  have hBl : Below (w.heap.size + 1) wa w3 := (Below.refl (w.heap.size + 1) wa).grown hg (by omega) (fun q hq => by cases hq; exact hg1)
  refine ⟨(hset _ (by omega)).trans ((hg.block xb h2 (fun e => by have e2 : xb = g0 := Option.some.inj e; omega)).trans h.box), (hset _ (by omega)).trans ((hBl.block _ (by omega)).trans h.res), fun W hzW hW => ⟨?_, ?_⟩, hBl.setCell (p := ⟨gA, 0, none⟩) hA1 _⟩
  · exact (hM.keep (w' := W) (fun g a b => hW g a (by omega))).mat.more (by omega)
  · exact (hD2.keep (w' := W) (fun g a b => hW g a (by omega))).row.more (by omega)
/-- the box is read into the result -/
theorem tx_done {P : World → Prop} {n' : Nat} (hr : Bx wr w.heap.size 27 (.slice none 0 0) (.slice none 0 0)) (hP : Keeps (w.heap.size + 1) wr (TabP A D m b)) (hl : m.length = n ∧ b.length = n') (h8 : n ≤ 8 ∧ n' ≤ 9) (hc : n ≤ c ∧ n' ≤ d) (s : Src wr T G B xs) (o : w.grownBy wr (some G)) (hB : B ≤ w.heap.size) (hG : G < w.heap.size) :
    DrawnTx T G B xs w (.returned (.agg #[.slice A n c, .slice D n' d])) ((wr.setCell ⟨w.heap.size, 0, none⟩ (.slice A n c)).setCell ⟨w.heap.size, 1, none⟩ (.slice D n' d)) ∧ Bx ((wr.setCell ⟨w.heap.size, 0, none⟩ (.slice A n c)).setCell ⟨w.heap.size, 1, none⟩ (.slice D n' d)) w.heap.size 27 (.slice A n c) (.slice D n' d) := by
  have hs : ((wr.setCell ⟨w.heap.size, 0, none⟩ (.slice A n c)).setCell ⟨w.heap.size, 1, none⟩ (.slice D n' d)).heap.size = wr.heap.size := by simp [World.setCell]
  have hk : ∀ g, w.heap.size + 1 ≤ g → ((wr.setCell ⟨w.heap.size, 0, none⟩ (.slice A n c)).setCell ⟨w.heap.size, 1, none⟩ (.slice D n' d)).heap[g]? = wr.heap[g]? := fun g hg => by
    rw [Below.heap_setCell _ _ _ _ (by show g ≠ w.heap.size; omega), Below.heap_setCell _ _ _ _ (by show g ≠ w.heap.size; omega)]
  refine ⟨⟨A, n, c, D, n', d, m, b, rfl, hl, h8, hc, fun W hz hW => hP W (by omega) (fun g a b => (hW g (by omega) (by omega)).trans (hk g a)), (s.put (g := w.heap.size) (by omega) hB).put (g := w.heap.size) (by omega) hB, only_put (g := w.heap.size) (only_put (g := w.heap.size) o (Nat.le_refl _)) (Nat.le_refl _)⟩, hr.stored _ _⟩
end
set_option maxHeartbeats 8000000 in
theorem l09Spoil_any (G B : Nat) (xs : List Int) (most : Nat) (w : World) (h1 : 1 ≤ most) (h8 : most ≤ 8) (s : Src w 83 G B xs) :
    Calls Tryz.prog 23 #[.pointer (some ⟨G, 0, none⟩), .int .i64 most] w (DrawnTx 83 G B xs w) := by
  obtain ⟨i0, hi, hz0, hz1, hz2⟩ := info_parts info_i64
  have HG := s.lt
  have HBG := s.base
  have HS := Lib.hid (s.alloc (.cells #[.slice none 0 0, .slice none 0 0] 27))
  have HR : Hid (Bx (w.alloc (.cells #[.slice none 0 0, .slice none 0 0] 27)) w.heap.size 27 (.slice none 0 0) (.slice none 0 0)) := Bx.new _ _ _ _
  have HO : Hid (w.grownBy (w.alloc (.cells #[.slice none 0 0, .slice none 0 0] 27)) (some G)) := World.grownBy_alloc w _ _
  obtain ⟨W0, hW0⟩ : ∃ W0, W0 = w.alloc (.cells #[.slice none 0 0, .slice none 0 0] 27) := ⟨_, rfl⟩
  have z0 : W0.heap.size = w.heap.size + 1 := by rw [hW0]; simp
  rw [← hW0] at HS HR HO
  clear s
  go_enter Tryz.func23, Tryz.ntmps23
  go_wp2_with fail
  rw [← hW0]
  clear hW0
  refine (l09Draw_any G B xs most W0 h1 h8 HS.out).mono ?_
  rintro e w1 ⟨n, A, c, vs, m, D, d, b, rfl, ⟨hn1, hn8⟩, ⟨hml, hbl⟩, hw, own1, ownB, hap, s1, o1⟩
  obtain ⟨xb, hxb⟩ : ∃ xb, xb = w1.heap.size := ⟨_, rfl⟩
  have hz1' := o1.size
  have R1 : Bx w1 w.heap.size 27 (.slice none 0 0) (.slice none 0 0) := (o1.block _ HR.out.lt (fun e => by have := Option.some.inj e; omega)).trans HR.out
  have hbel : Below w1.heap.size w1 (w1.alloc (.cells #[.slice A n c, .slice D n d] 27)) := (Below.refl _ _).alloc (Nat.le_refl _) _
  have T1 : Hid (TS w xb n A c m vs D d b (w1.alloc (.cells #[.slice A n c, .slice D n d] 27))) := by
    subst hxb
    rw [z0] at own1 ownB
    exact ⟨Bx.new _ _ _ _, R1.next hbel, own1.below hbel (Nat.le_refl _), ownB.below hbel (Nat.le_refl _), hap, R1.lt⟩
  have S1 := Lib.hid (s1.alloc (.cells #[.slice A n c, .slice D n d] 27))
  have O1 := Lib.hid (only_alloc (only_trans HO.out o1) (.cells #[.slice A n c, .slice D n d] 27))
  have HML := Lib.hid hml
  have HBL := Lib.hid hbl
  have hcc := own_cap own1.outer.1
  have hcd := own_cap ownB.1
  have hcm : c ≤ maxLen := hcc.2
  have hdm : d ≤ maxLen := hcd.2
  clear HS HR HO own1 ownB hap s1 o1 hml hbl R1 hbel
  go_wp2_with fail
  rw [← hxb]
  clear hxb
  refine (l01Next_any G B xs _ _ (by omega) S1.out).mono ?_
  rintro e w2 ⟨r, rfl, r0, r1, s2, o2⟩
  have T2 := Lib.hid (T1.out.only o2 HG)
  have O2 := Lib.hid (only_trans O1.out o2)
  have S2 := Lib.hid s2
  clear s2 o2 T1 O1 S1
  rcases (show r = 0 ∨ r = 1 ∨ r = 2 ∨ r = 3 ∨ r = 4 ∨ 5 ≤ r by omega) with rfl | rfl | rfl | rfl | rfl | hr
  · have b1 := T2.out.box.c1
    have zl := T2.out.lo
    have zt := T2.out.box.lt
    have hownB := T2.out.row.1
    have HS := Lib.hid (ints_snocK b 1)
    go_upto_region 13 with (at_builtin; refine wpList_append_lies _ rfl (.tmp 14) (.tmp 15) 25 rfl (w.heap.size + 1) 2 i0 _ 1 8 Tryz.underlying25 hi hz0 hz1 hz2 rfl (by omega) (.slice D n d) n (ints b) rfl (hownB.alloc _) ⟨w2.heap.size, 0, none⟩ 1 1 [.int .i64 1] rfl rfl (World.news_of_block (cs := #[.int .i64 1]) (heap_alloc_new _ _)) (by simp [Value.oneCell']) (by omega) (by simp only [maxLen]; omega) (by omega) (by simp; omega) (w2.heap.size + 1) (by simp) ?_; intro g5 cap5 w6 hown5 hgrow5 hat5 hlt5; have hb6 : Bx w6 xb 27 (.slice A n c) (.slice D n d) := (hgrow5.block xb (by simp; omega) (fun e => by have := T2.out.row.2 xb e.symm; omega)).trans (T2.out.box.next ((Below.refl _ _).alloc (Nat.le_refl _) _)); have k6 := hb6.c1; have f6 := hb6.free 1)
    rw [HS.out] at hown5
    obtain ⟨hb3, hr3, hP3, hBL⟩ := T2.out.appB hown5 hgrow5
    have hl3 : m.length = n ∧ (b ++ [1]).length = n + 1 := ⟨HML.out, by simp [HBL.out]⟩
    have h83 : n ≤ 8 ∧ n + 1 ≤ 9 := by omega
    have hc3 : n ≤ c ∧ n + 1 ≤ cap5 := ⟨hcc.1, (own_cap hown5).1⟩
    have s3 := S2.out.belowK hBL (by omega) (by omega)
    have o3 := grown_belowK O2.out hBL (by omega)
    obtain ⟨W6, hW6⟩ : ∃ W6, W6 = w6.setCell ⟨xb, 1, none⟩ (.slice (some ⟨g5, 0, none⟩) (n + 1) cap5) := ⟨_, rfl⟩
    rw [← hW6] at hb3 hr3 hP3 s3 o3 ⊢
    clear hW6 b1 hb6 k6 f6 hown5 hgrow5 hat5 hBL hownB HS
    obtain ⟨hT, hX⟩ := tx_done (P := fun _ => True) hr3 hP3 hl3 h83 hc3 s3 o3 (by omega) HG
    have HT := Lib.hid hT
    have HX := Lib.hid hX
    have x0 := hb3.c0
    have x1 := hb3.c1
    have q0 := hr3.c0
    have q1 := hr3.c1
    have f0 := hr3.free 0
    have f1 := hr3.free 1
    clear hT hX hb3 hr3 hP3 hl3 h83 hc3 s3 o3
    go_wp2
    all_goals exact bodyPost_ret (v := .agg #[.slice A n c, .slice (some ⟨g5, 0, none⟩) (n + 1) cap5]) (results_cell_row rfl _ _ w.heap.size 27 _ (0, 0) _ rfl HX.out Tryz.underlying27 rfl info_tb) rfl HT.out
  · have zl := T2.out.lo
    have zt := T2.out.box.lt
    obtain ⟨r0, hr0⟩ := at_lt (show 0 < m.length by rw [HML.out]; omega)
    have hr0n : r0.length = n := hw r0 (List.mem_of_getElem? hr0)
    obtain ⟨Ag, cg, hv0, hro⟩ := T2.out.mat.inner 0 r0 hr0
    rw [hr0n] at hv0 hro
    obtain ⟨g0, rfl, hg0, hg0'⟩ : ∃ g0, Ag = some ⟨g0, 0, none⟩ ∧ w.heap.size + 1 ≤ g0 ∧ g0 < xb := by
      rcases hro.1.2 with ⟨e1, e2⟩ | ⟨g, cap, cur, e1, _⟩
      · exfalso; have := own_len hro.1; rw [e2] at this; simp at this; omega
      · injection e1 with e1 _ _
        subst e1
        exact ⟨g, rfl, (hro.1.lt g rfl).1, hro.2 g rfl⟩
    obtain ⟨gA, rfl, hgA, hgA'⟩ : ∃ g0, A = some ⟨g0, 0, none⟩ ∧ w.heap.size + 1 ≤ g0 ∧ g0 < xb := by
      rcases T2.out.mat.outer.1.2 with ⟨e1, e2⟩ | ⟨g, cap, cur, e1, _⟩
      · exfalso; have := own_len T2.out.mat.outer.1; rw [e2] at this; simp at this; omega
      · injection e1 with e1 _ _
        subst e1
        exact ⟨g, rfl, (T2.out.mat.outer.1.lt g rfl).1, T2.out.mat.outer.2 g rfl⟩
    subst hr0n
    have hgne : g0 ≠ gA := fun e => by
      rcases own_types T2.out.mat.outer.1 hro.1 (by decide) with h | h
      · simp [Value.ownBlock] at h
      · exact h (by simp [Value.ownBlock, e])
    have HK : Hid (∀ W, TS w xb r0.length (some ⟨gA, 0, none⟩) c m vs D d b W → W.cell? ⟨xb, 0, none⟩ = some (.slice (some ⟨gA, 0, none⟩) r0.length c) ∧ W.cell? ⟨gA, 0, none⟩ = some (.slice (some ⟨g0, 0, none⟩) r0.length cg) ∧ W.frozen? ⟨gA, 0, none⟩ = false) := fun W h => by
      refine ⟨h.box.c0, ?_, h.mat.outer.1.frozenAt 0⟩
      have := h.mat.outer.1.cellAt 0 (by omega)
      rw [hv0] at this
      exact this
    have TB : Hid (∀ W, Below w2.heap.size w2 W → TS w xb r0.length (some ⟨gA, 0, none⟩) c m vs D d b W) := fun W hb => T2.out.keep (fun g _ h => hb.block g (by omega))
    have HV0 := Lib.hid hv0
    have HR0 := Lib.hid hr0
    have HOW : Hid (∀ W', Below w2.heap.size w2 W' → W'.ownsRow (w.heap.size + 1) 2 1 (.slice (some ⟨g0, 0, none⟩) r0.length cg) r0.length (ints r0)) := fun W' hb => ((TB.out W' hb).rowAt HV0.out HR0.out rfl).1
    have HK2 : Hid (∀ W' W3, Below w2.heap.size w2 W' → W'.grownBy W3 (Value.ownBlock (.slice (some ⟨g0, 0, none⟩) r0.length cg)) → W3.cell? ⟨xb, 0, none⟩ = some (.slice (some ⟨gA, 0, none⟩) r0.length c) ∧ W3.cell? ⟨gA, 0, none⟩ = some (.slice (some ⟨g0, 0, none⟩) r0.length cg) ∧ W3.frozen? ⟨gA, 0, none⟩ = false) := fun W' W3 hb hg => by
      obtain ⟨q1, q2, q3⟩ := HK.out W' (TB.out W' hb)
      have hs := hb.size
      exact ⟨(World.cell?_of_block (hg.block xb (by omega) (fun e => by have e2 : xb = g0 := Option.some.inj e; omega))).trans q1, (World.cell?_of_block (hg.block gA (by omega) (fun e => by have e2 : gA = g0 := Option.some.inj e; exact hgne e2.symm))).trans q2, (World.frozen?_of_block (hg.block gA (by omega) (fun e => by have e2 : gA = g0 := Option.some.inj e; exact hgne e2.symm))).trans q3⟩
    have HIX := Lib.hid (ints_snocK r0 1)
    have hn9 : r0.length ≤ 8 := hn8
    have hrp : 0 < r0.length := by omega
    have hrpI : (0 : Int) < (r0.length : Int) := by omega
    have a0 := (HK.out _ T2.out).1
    have a1 := (HK.out _ T2.out).2.1
    have a2 : (w2.alloc (.cells #[.int .i64 1] 2)).cell? ⟨xb, 0, none⟩ = _ := (HK.out _ (TB.out _ ((Below.refl _ _).alloc (Nat.le_refl _) _))).1
    have a3 : (w2.alloc (.cells #[.int .i64 1] 2)).cell? ⟨gA, 0, none⟩ = _ := (HK.out _ (TB.out _ ((Below.refl _ _).alloc (Nat.le_refl _) _))).2.1
    have a4 : (w2.drew.alloc (.cells #[.int .i64 1] 2)).cell? ⟨xb, 0, none⟩ = _ := (HK.out _ (TB.out _ ((below_drewN (Below.refl _ _) 1).alloc (Nat.le_refl _) _))).1
    have a5 : (w2.drew.alloc (.cells #[.int .i64 1] 2)).cell? ⟨gA, 0, none⟩ = _ := (HK.out _ (TB.out _ ((below_drewN (Below.refl _ _) 1).alloc (Nat.le_refl _) _))).2.1
    clear hv0 hr0 hro
    go_upto_region 6 with fail
    go_region_law (first
      | (refine step_append_lies _ (by rfl) _ _ _ (by rfl) (w.heap.size + 1) 2 i0 _ 1 8 Tryz.underlying25 hi hz0 hz1 hz2 rfl (by omega) (.slice (some ⟨g0, 0, none⟩) r0.length cg) r0.length (ints r0) (by rfl) (HOW.out _ (by exact (below_drewN (Below.refl _ _) _).alloc (Nat.le_refl _) _)) ⟨w2.heap.size, 0, none⟩ 1 1 [.int .i64 1] (by rfl) (by rfl) (World.news_of_block (cs := #[.int .i64 1]) (heap_alloc_new _ _)) (by simp [Value.oneCell']) (by omega) (by simp only [maxLen]; omega) (by omega) (by simp; omega) (w2.heap.size + 1) (by simp) ?_; intro g3 cap3 w3 hown3 hgrow3 hat3 hlt3; have hq3 := HK2.out _ _ ((below_drewN (Below.refl _ _) _).alloc (Nat.le_refl _) _) hgrow3; have hf1 := hq3.1; have hf2 := hq3.2.1; have hf3 := hq3.2.2; clear hq3))
    all_goals
      rw [HIX.out] at hown3
      have hB0 : Below w2.heap.size w2 (w2.alloc (.cells #[.int .i64 1] 2)).drew := ((Below.refl _ _).alloc (Nat.le_refl _) _).drew
      obtain ⟨hb3, hr3, hP3, hBL3⟩ := (TB.out _ hB0).growRow HR0.out HV0.out hown3 hgrow3 (hat3.imp id (fun e => by omega)) hlt3
      have hBL := (hB0.mono (show w.heap.size + 1 ≤ w2.heap.size by omega)).trans hBL3
      have hl3 : (m.set 0 (r0 ++ [1])).length = r0.length ∧ b.length = r0.length := ⟨by rw [List.length_set]; exact HML.out, HBL.out⟩
      have s3 := S2.out.belowK hBL (by omega) (by omega)
      have o3 := grown_belowK O2.out hBL (by omega)
      obtain ⟨W6, hW6⟩ : ∃ W6, W6 = w3.setCell ⟨gA, 0, none⟩ (.slice (some ⟨g3, 0, none⟩) (r0.length + 1) cap3) := ⟨_, rfl⟩
      rw [← hW6] at hb3 hr3 hP3 s3 o3 ⊢
      obtain ⟨hT, hX⟩ := tx_done (P := fun _ => True) hr3 hP3 hl3 ⟨hn8, by omega⟩ ⟨hcc.1, hcd.1⟩ s3 o3 (by omega) HG
      have HT := Lib.hid hT
      have HX := Lib.hid hX
      have x0 := hb3.c0
      have x1 := hb3.c1
      have q0 := hr3.c0
      have q1 := hr3.c1
      have y0 := hr3.free 0
      have y1 := hr3.free 1
      clear hT hX hb3 hr3 hP3 hBL3 hBL s3 o3 hW6 hown3 hgrow3 hat3 hlt3 hf1 hf2 hf3 hB0 a0 a1 a2 a3 a4 a5 HK HK2 TB HOW hl3
      go_wp2
      all_goals exact bodyPost_ret (v := .agg #[.slice (some ⟨gA, 0, none⟩) r0.length c, .slice D r0.length d]) (results_cell_row rfl _ _ w.heap.size 27 _ (0, 0) _ rfl HX.out Tryz.underlying27 rfl info_tb) rfl HT.out
  · have zl := T2.out.lo
    have zt := T2.out.box.lt
    obtain ⟨r0, hr0⟩ := at_lt (show 0 < m.length by rw [HML.out]; omega)
    have hr0n : r0.length = n := hw r0 (List.mem_of_getElem? hr0)
    obtain ⟨Ag, cg, hv0, hro⟩ := T2.out.mat.inner 0 r0 hr0
    rw [hr0n] at hv0 hro
    obtain ⟨g0, rfl, hg0, hg0'⟩ : ∃ g0, Ag = some ⟨g0, 0, none⟩ ∧ w.heap.size + 1 ≤ g0 ∧ g0 < xb := by
      rcases hro.1.2 with ⟨e1, e2⟩ | ⟨g, cap, cur, e1, _⟩
      · exfalso; have := own_len hro.1; rw [e2] at this; simp at this; omega
      · injection e1 with e1 _ _
        subst e1
        exact ⟨g, rfl, (hro.1.lt g rfl).1, hro.2 g rfl⟩
    obtain ⟨gA, rfl, hgA, hgA'⟩ : ∃ g0, A = some ⟨g0, 0, none⟩ ∧ w.heap.size + 1 ≤ g0 ∧ g0 < xb := by
      rcases T2.out.mat.outer.1.2 with ⟨e1, e2⟩ | ⟨g, cap, cur, e1, _⟩
      · exfalso; have := own_len T2.out.mat.outer.1; rw [e2] at this; simp at this; omega
      · injection e1 with e1 _ _
        subst e1
        exact ⟨g, rfl, (T2.out.mat.outer.1.lt g rfl).1, T2.out.mat.outer.2 g rfl⟩
    have HK : Hid (∀ W, TS w xb n (some ⟨gA, 0, none⟩) c m vs D d b W → W.cell? ⟨xb, 0, none⟩ = some (.slice (some ⟨gA, 0, none⟩) n c) ∧ W.cell? ⟨gA, 0, none⟩ = some (.slice (some ⟨g0, 0, none⟩) n cg)) := fun W h => by
      refine ⟨h.box.c0, ?_⟩
      have := h.mat.outer.1.cellAt 0 (by omega)
      rw [hv0] at this
      exact this
    have TB : Hid (∀ W, Below w2.heap.size w2 W → TS w xb n (some ⟨gA, 0, none⟩) c m vs D d b W) := fun W hb => T2.out.keep (fun g _ h => hb.block g (by omega))
    have hgne : gA ≠ g0 := fun e => by
      rcases own_types T2.out.mat.outer.1 hro.1 (by decide) with h | h
      · simp [Value.ownBlock] at h
      · exact h (by simp [Value.ownBlock, e])
    have CP : ∀ W, Src W 83 G B xs → Row W (w2.heap.size + 1) (some ⟨w2.heap.size, 0, none⟩) (ints [-1, 10007]) → Calls Tryz.prog 50 #[.pointer (some ⟨G, 0, none⟩), .slice (some ⟨w2.heap.size, 0, none⟩) 2 2] W (Drawn (· ∈ ([-1, 10007] : List Int)) 83 G B xs W) := fun W hs hr =>
      l01Pick_any G B xs _ 2 _ _ [-1, 10007] W hs hr (fun b o e => by injection e with e; injection e with e1; omega) rfl (by omega) (by omega)
    have HBW : Hid (∀ o, Below w2.heap.size w2 (w2.alloc o).drew) := fun o => ((Below.refl _ _).alloc (Nat.le_refl _) _).drew
    have HV0 := Lib.hid hv0
    have HR0 := Lib.hid hr0
    have HRN := Lib.hid hr0n
    clear hv0 hr0 hr0n hro
    have hrp : 0 < n := by omega
    have hrpI : (0 : Int) < (n : Int) := by omega
    go_upto_region 8 with fail
    go_region_held3 (fun W => W.cell? ⟨xb, 0, none⟩ = some (.slice (some ⟨gA, 0, none⟩) n c) ∧ W.cell? ⟨gA, 0, none⟩ = some (.slice (some ⟨g0, 0, none⟩) n cg))
      (first | exact HK.out _ (TB.out _ (Below.refl _ _).drew) | exact HK.out _ (TB.out _ (below_drewN (Below.refl _ _) _)) | exact HK.out _ (TB.out _ ((below_drewN (Below.refl _ _) _).alloc (Nat.le_refl _) _)) | exact HK.out w3 ((TB.out _ (HBW.out _)).only o3 HG) | (have hz := HK.out w3 ((TB.out _ (HBW.out _)).only o3 HG); exact ⟨cell_othK hz.1 (by omega), cell_othK hz.2 hgne⟩))
      ((go_at_call 50; refine (CP _ (by exact (S2.out.alloc _).belowK (lo := w.heap.size) (below_drewN (Below.refl _ _) 1) HG (by simp; omega)) (by exact Row.new w2 _ (ints [-1, 10007]))).mono ?_; clear CP; rintro e w3 ⟨v, rfl, hv, s3, o3⟩; have hz := ((TB.out _ (HBW.out (.cells #[.int .i64 (-1), .int .i64 10007] 2))).only o3 HG).rowAt HV0.out HR0.out HRN.out; have k6 := hz.1.cellAt 0 (by omega); have f6 := hz.1.frozenAt 0; rw [ints_at (List.getElem?_eq_getElem (show 0 < r0.length by have := HRN.out; omega))] at k6; clear hz))
    all_goals
      have T3 := ((TB.out _ (HBW.out (.cells #[.int .i64 (-1), .int .i64 10007] 2))).only o3 HG).setRow (j := 0) HV0.out HR0.out HRN.out v
      have S3 := s3.put (g := g0) (k := 0) (v := .int .i64 v) (by omega) (by omega)
      have O3 := only_put (g := g0) (k := 0) (v := .int .i64 v) (only_trans (only_drewN (only_alloc O2.out (.cells #[.int .i64 (-1), .int .i64 10007] 2)) 1) o3) (by omega)
      obtain ⟨W6, hW6⟩ : ∃ W6, W6 = w3.setCell ⟨g0, 0, none⟩ (.int .i64 v) := ⟨_, rfl⟩
      rw [← hW6] at T3 S3 O3 ⊢
      obtain ⟨hT, hX⟩ := tx_done (P := fun _ => True) T3.res T3.keeps ⟨by rw [List.length_set]; exact HML.out, HBL.out⟩ ⟨hn8, by omega⟩ ⟨hcc.1, hcd.1⟩ S3 O3 (by omega) HG
      have HT := Lib.hid hT
      have HX := Lib.hid hX
      have x0 := T3.box.c0
      have x1 := T3.box.c1
      have q0 := T3.res.c0
      have q1 := T3.res.c1
      have y0 := T3.res.free 0
      have y1 := T3.res.free 1
      clear hT hX T3 S3 O3 hW6 k6 f6 s3 o3 hv HK TB HBW
      go_wp2
      all_goals exact bodyPost_ret (v := .agg #[.slice (some ⟨gA, 0, none⟩) n c, .slice D n d]) (results_cell_row rfl _ _ w.heap.size 27 _ (0, 0) _ rfl HX.out Tryz.underlying27 rfl info_tb) rfl HT.out
  · have b0 := T2.out.box.c0
    have b1 := T2.out.box.c1
    have bf0 := T2.out.box.free 0
    have bf1 := T2.out.box.free 1
    have hb := T2.out.box.stored (.slice none 0 0) (.slice none 0 0)
    have zl := T2.out.lo
    have hr3 : Bx ((w2.setCell ⟨xb, 0, none⟩ (.slice none 0 0)).setCell ⟨xb, 1, none⟩ (.slice none 0 0)) w.heap.size 27 (.slice none 0 0) (.slice none 0 0) := by
      unfold Bx; rw [Below.heap_setCell _ _ _ _ (by show w.heap.size ≠ xb; omega), Below.heap_setCell _ _ _ _ (by show w.heap.size ≠ xb; omega)]; exact T2.out.res
    have s3 := (S2.out.put (g := xb) (k := 0) (v := .slice none 0 0) (by omega) (by omega)).put (g := xb) (k := 1) (v := .slice none 0 0) (by omega) (by omega)
    have o3 := only_put (g := xb) (k := 1) (v := .slice none 0 0) (only_put (g := xb) (k := 0) (v := .slice none 0 0) O2.out (by omega)) (by omega)
    obtain ⟨W6, hW6⟩ : ∃ W6, W6 = (w2.setCell ⟨xb, 0, none⟩ (.slice none 0 0)).setCell ⟨xb, 1, none⟩ (.slice none 0 0) := ⟨_, rfl⟩
    have hb3 := hb
    rw [← hW6] at hb3 hr3 s3 o3
    have hP3 : Keeps (w.heap.size + 1) W6 (TabP none none [] []) := fun W _ _ => ⟨fun k r hr => by simp at hr, fun k v hv => by simp [ints, intsK] at hv⟩
    have hl3 : ([] : List (List Int)).length = 0 ∧ ([] : List Int).length = 0 := ⟨rfl, rfl⟩
    have h83 : 0 ≤ 8 ∧ 0 ≤ 9 := by omega
    have hc3 : 0 ≤ 0 ∧ 0 ≤ 0 := by omega
    clear hb
    go_upto_region 13 with fail
    rw [← hW6]
    clear hW6 b0 b1 bf0 bf1
    obtain ⟨hT, hX⟩ := tx_done (P := fun _ => True) hr3 hP3 hl3 h83 hc3 s3 o3 (by omega) HG
    have HT := Lib.hid hT
    have HX := Lib.hid hX
    have x0 := hb3.c0
    have x1 := hb3.c1
    have q0 := hr3.c0
    have q1 := hr3.c1
    have f0 := hr3.free 0
    have f1 := hr3.free 1
    clear hT hX hb3 hr3 hP3 hl3 h83 hc3 s3 o3
    go_wp2
    all_goals exact bodyPost_ret (v := .agg #[.slice none 0 0, .slice none 0 0]) (results_cell_row rfl _ _ w.heap.size 27 _ (0, 0) _ rfl HX.out Tryz.underlying27 rfl info_tb) rfl HT.out
  · have b0 := T2.out.box.c0
    have bf0 := T2.out.box.free 0
    have zl := T2.out.lo
    go_upto_region 13 with fail
    obtain ⟨hb3, hr3, hP4, hBL⟩ := T2.out.setA (.slice (if c = 1 then A else Option.map (fun x : Addr => { block := x.block, off := x.off + 1 }) A) (n - 1) (c - 1))
    obtain ⟨A6, hA6⟩ : ∃ A6, A6 = (if c = 1 then A else Option.map (fun x : Addr => { block := x.block, off := x.off + 1 }) A) := ⟨_, rfl⟩
    have hP3 : Keeps (w.heap.size + 1) (w2.setCell ⟨xb, 0, none⟩ (.slice A6 (n - 1) (c - 1))) (TabP A6 D (m.drop 1) b) := fun W hz hW => by
      rw [hA6] at hz hW ⊢
      exact ⟨mat_drop (hP4 W hz hW).1 (fun e => by have := HML.out; omega), (hP4 W hz hW).2⟩
    rw [← hA6] at hb3 hr3 hBL ⊢
    have hl3 : (m.drop 1).length = n - 1 ∧ b.length = n := ⟨by rw [List.length_drop, HML.out], HBL.out⟩
    have h83 : n - 1 ≤ 8 ∧ n ≤ 9 := by omega
    have hc3 : n - 1 ≤ c - 1 ∧ n ≤ d := by omega
    have s3 := S2.out.belowK hBL (by omega) (by have := T2.out.box.lt; omega)
    have o3 := grown_belowK O2.out hBL (by omega)
    obtain ⟨W6, hW6⟩ : ∃ W6, W6 = w2.setCell ⟨xb, 0, none⟩ (.slice A6 (n - 1) (c - 1)) := ⟨_, rfl⟩
    rw [← hW6] at hb3 hr3 hP3 s3 o3 ⊢
    clear hW6 hA6 hP4 hBL b0 bf0
    obtain ⟨hT, hX⟩ := tx_done (P := fun _ => True) hr3 hP3 hl3 h83 hc3 s3 o3 (by omega) HG
    have HT := Lib.hid hT
    have HX := Lib.hid hX
    have x0 := hb3.c0
    have x1 := hb3.c1
    have q0 := hr3.c0
    have q1 := hr3.c1
    have f0 := hr3.free 0
    have f1 := hr3.free 1
    clear hT hX hb3 hr3 hP3 hl3 h83 hc3 s3 o3
    go_wp2
    all_goals exact bodyPost_ret (v := .agg #[.slice A6 (n - 1) (c - 1), .slice D n d]) (results_cell_row rfl _ _ w.heap.size 27 _ (0, 0) _ rfl HX.out Tryz.underlying27 rfl info_tb) rfl HT.out
  · obtain ⟨hT, hX⟩ := tx_done (P := fun _ => True) T2.out.res T2.out.keeps ⟨HML.out, HBL.out⟩ ⟨hn8, by omega⟩ ⟨hcc.1, hcd.1⟩ S2.out O2.out (by omega) HG
    have HT := Lib.hid hT
    have HX := Lib.hid hX
    have b0 := T2.out.box.c0
    have b1 := T2.out.box.c1
    have q0 := T2.out.res.c0
    have q1 := T2.out.res.c1
    have f0 := T2.out.res.free 0
    have f1 := T2.out.res.free 1
    clear hT hX
    go_wp2
    all_goals exact bodyPost_ret (v := .agg #[.slice A n c, .slice D n d]) (results_cell_row rfl _ _ w.heap.size 27 _ (0, 0) _ rfl HX.out Tryz.underlying27 rfl info_tb) rfl HT.out
end Go.Proofs.YtpngohklicgbjaaGreat
/-
  Draws of a tableau and a tree, and of a tableau alone.
-/
namespace Go.Proofs.YtpngohklicgbjaaGreat
open Go.RowKit Fld
set_option linter.unusedVariables false
set_option linter.unusedSimpArgs false
set_option maxRecDepth 100000

theorem results_boxS {P : Program} {fn : Func} {p u : Tmp} {ty : TypeId} (h : fn.results = #[.cell p ty, .tmp u]) (tmps : Array Value) (w : World) (g : Nat) (t : TypeId) (cs : Array Value) (fr : Nat × Nat) (d : TypeDesc) (x : Value)
    (hp : tmps.getD p undef = .pointer (some ⟨g, 0, none⟩)) (hg : w.heap[g]? = some (.cells cs t fr))
    (hu : P.underlying ty = some d) (hd : (match d with | .struct _ | .array _ _ => true | _ => false) = true) (hi : (P.info? ty).map (·.size) = some cs.size) (hx : tmps.getD u undef = x) :
    (results fn tmps).run P w = .ok (.tuple #[.agg cs, x]) w := by
  have hp' : tmps[p]?.getD undef = .pointer (some ⟨g, 0, none⟩) := by simpa using hp
  rw [← hx]
  simp [results, h, hp', asAddr, Sem.run_bind, Result.andThen, run_loadVar_row w g t ty cs fr d hg hu hd hi]
/-- a tableau, or something near one, and a list -/
def DrawnSW (w : World) (e : Ending) (w' : World) : Prop :=
  ∃ A n c D n' d g2 n2 c2 m b t, e = .returned (.tuple #[.agg #[.slice A n c, .slice D n' d], .slice (some ⟨g2, 0, none⟩) n2 c2]) ∧ (m.length = n ∧ b.length = n') ∧ (n ≤ 8 ∧ n' ≤ 9) ∧ (n ≤ c ∧ n' ≤ d) ∧ (t.length = n2 ∧ n2 ≤ 9 ∧ n2 ≤ c2) ∧ Mat w' w'.heap.size A m ∧ Row w' w'.heap.size D (ints b) ∧ Row w' w'.heap.size (some ⟨g2, 0, none⟩) (ints t) ∧ Below w.heap.size w w'
/-- a tableau, or something near one -/
def DrawnTA (w : World) (e : Ending) (w' : World) : Prop :=
  ∃ A n c D n' d m b, e = .returned (.agg #[.slice A n c, .slice D n' d]) ∧ (m.length = n ∧ b.length = n') ∧ (n ≤ 8 ∧ n' ≤ 9) ∧ (n ≤ c ∧ n' ≤ d) ∧ Mat w' w'.heap.size A m ∧ Row w' w'.heap.size D (ints b) ∧ Below w.heap.size w w'
set_option maxHeartbeats 2000000 in
theorem drawStageWeights_any (A0 : Option Addr) (k c0 : Nat) (xs : List Int) (w : World) (hn : k ≤ 4096) (h : IsCode w A0 k xs) : Calls Tryz.prog 6 #[.slice A0 k c0] w (DrawnSW w) := by
  obtain ⟨W0, hW0⟩ : ∃ W0, W0 = w.alloc (.cells #[.slice none 0 0, .slice none 0 0] 27) := ⟨_, rfl⟩
  have HB : Hid (Below w.heap.size w W0) := by rw [hW0]; exact (Below.refl _ _).alloc (Nat.le_refl _) _
  have HX : Hid (Bx W0 w.heap.size 27 (.slice none 0 0) (.slice none 0 0)) := by rw [hW0]; exact Bx.new _ _ _ _
  have hs0 : W0.heap.size = w.heap.size + 1 := by rw [hW0]; simp
  have HC := Lib.hid (h.below HB.out)
  clear h
  go_enter Tryz.func6, Tryz.ntmps6
  go_wp2_with fail
  rw [← hW0]
  clear hW0
  refine (l01From_any A0 k c0 W0.heap.size xs W0 HC.out.1 hn (Nat.le_refl _) HC.out.2.1 HC.out.2.2).mono ?_
  rintro e w1 ⟨G, rfl, hG, s1, b1⟩
  have hz1 := b1.size
  have S1 := Lib.hid s1
  have B1 := Lib.hid (HB.out.trans (b1.mono HB.out.size))
  have X1 := Lib.hid (HX.out.next b1)
  have hGl := s1.lt
  clear s1 b1
  go_wp2_with fail
  refine (l09Spoil_any G _ _ 6 w1 (by omega) (by omega) S1.out).mono ?_
  rintro e w2 ⟨A, n, c, D, n', d, m, b, rfl, hl, h8, hc, hk2, s2, o2⟩
  have hz2 := o2.size
  have S2 := Lib.hid s2
  have K2 := Lib.hid hk2
  have B2 := Lib.hid (below_only B1.out o2 (by omega) (by omega))
  have X2 : Hid (Bx w2 w.heap.size 27 (.slice none 0 0) (.slice none 0 0)) := (o2.block _ X1.out.lt (fun e => by have := Option.some.inj e; omega)).trans X1.out
  clear s2 o2 hk2
  go_wp2_with fail
  refine (l09Tree_any G _ _ 8 w2 (by omega) (by omega) S2.out).mono ?_
  rintro e w3 ⟨g2, c2, n2, t, rfl, htl, ht9, own3, s3, o3⟩
  have hz3 := o3.size
  have P3 := Lib.hid (K2.out w3 hz3 (fun g h1 h2 => o3.block g h2 (fun e => by have := Option.some.inj e; omega)))
  have B3 := Lib.hid (below_only B2.out o3 (by omega) (by omega))
  have X3 : Bx w3 w.heap.size 27 (.slice none 0 0) (.slice none 0 0) := (o3.block _ X2.out.lt (fun e => by have := Option.some.inj e; omega)).trans X2.out
  have hc2 := (own_cap own3).1
  have hlo := own3.lt g2 rfl
  have T3 := Lib.hid (row_of_own own3)
  have O3 := Lib.hid own3
  have k0 := X3.c0
  have k1 := X3.c1
  have f0 := X3.free 0
  have f1 := X3.free 1
  have XX := Lib.hid X3
  have K3 := Lib.hid (K2.out)
  have O33 := Lib.hid o3
  clear own3 s3 o3 X3
  go_wp2
  have hkp : ∀ g, g ≠ w.heap.size → ((w3.setCell ⟨w.heap.size, 0, none⟩ (.slice A n c)).setCell ⟨w.heap.size, 1, none⟩ (.slice D n' d)).heap[g]? = w3.heap[g]? := fun g hg => by
    rw [Below.heap_setCell _ _ _ _ (by show g ≠ w.heap.size; exact hg), Below.heap_setCell _ _ _ _ (by show g ≠ w.heap.size; exact hg)]
  have hsz : ((w3.setCell ⟨w.heap.size, 0, none⟩ (.slice A n c)).setCell ⟨w.heap.size, 1, none⟩ (.slice D n' d)).heap.size = w3.heap.size := by simp [World.setCell]
  have PP := K3.out ((w3.setCell ⟨w.heap.size, 0, none⟩ (.slice A n c)).setCell ⟨w.heap.size, 1, none⟩ (.slice D n' d)) (by rw [hsz]; exact hz3) (fun g h1 h2 => (hkp g (by omega)).trans (O33.out.block g h2 (fun e => by have := Option.some.inj e; omega)))
  have TT : Row ((w3.setCell ⟨w.heap.size, 0, none⟩ (.slice A n c)).setCell ⟨w.heap.size, 1, none⟩ (.slice D n' d)) w3.heap.size (some ⟨g2, 0, none⟩) (ints t) := fun j v hv => by
    obtain ⟨b9, o9, e9, h9, hc9⟩ := T3.out j v hv
    injection e9 with e9
    injection e9 with e1 e2
    subst e1 e2
    exact ⟨_, _, rfl, h9, (World.cell?_of_block (a := ⟨g2, 0 + j, none⟩) (hkp g2 (by omega))).trans hc9⟩
  exact bodyPost_ret (v := .tuple #[.agg #[.slice A n c, .slice D n' d], .slice (some ⟨g2, 0, none⟩) n2 c2]) (results_boxS rfl _ _ w.heap.size 27 _ (0, 0) _ _ rfl (XX.out.stored _ _) Tryz.underlying27 rfl info_tb rfl) rfl
    ⟨A, n, c, D, n', d, g2, n2, c2, m, b, t, rfl, hl, h8, hc, ⟨htl, by omega, hc2⟩, PP.1, PP.2, by rw [hsz]; exact TT, below_set (below_set B3.out (Nat.le_refl _) _) (Nat.le_refl _) _⟩
set_option maxHeartbeats 2000000 in
theorem drawOrderOf_any (A0 : Option Addr) (k c0 : Nat) (xs : List Int) (w : World) (hn : k ≤ 4096) (h : IsCode w A0 k xs) : Calls Tryz.prog 14 #[.slice A0 k c0] w (DrawnTA w) := by
  obtain ⟨W0, hW0⟩ : ∃ W0, W0 = w.alloc (.cells #[.slice none 0 0, .slice none 0 0] 27) := ⟨_, rfl⟩
  have HB : Hid (Below w.heap.size w W0) := by rw [hW0]; exact (Below.refl _ _).alloc (Nat.le_refl _) _
  have HX : Hid (Bx W0 w.heap.size 27 (.slice none 0 0) (.slice none 0 0)) := by rw [hW0]; exact Bx.new _ _ _ _
  have hs0 : W0.heap.size = w.heap.size + 1 := by rw [hW0]; simp
  have HC := Lib.hid (h.below HB.out)
  clear h
  go_enter Tryz.func14, Tryz.ntmps14
  go_wp2_with fail
  rw [← hW0]
  clear hW0
  refine (l01From_any A0 k c0 W0.heap.size xs W0 HC.out.1 hn (Nat.le_refl _) HC.out.2.1 HC.out.2.2).mono ?_
  rintro e w1 ⟨G, rfl, hG, s1, b1⟩
  have hz1 := b1.size
  have S1 := Lib.hid s1
  have B1 := Lib.hid (HB.out.trans (b1.mono HB.out.size))
  have X1 := Lib.hid (HX.out.next b1)
  have hGl := s1.lt
  clear s1 b1
  go_wp2_with fail
  refine (l09Spoil_any G _ _ 4 w1 (by omega) (by omega) S1.out).mono ?_
  rintro e w2 ⟨A, n, c, D, n', d, m, b, rfl, hl, h8, hc, hk2, s2, o2⟩
  have hz2 := o2.size
  have K2 := Lib.hid hk2
  have B2 := Lib.hid (below_only B1.out o2 (by omega) (by omega))
  have X2 : Bx w2 w.heap.size 27 (.slice none 0 0) (.slice none 0 0) := (o2.block _ X1.out.lt (fun e => by have := Option.some.inj e; omega)).trans X1.out
  have k0 := X2.c0
  have k1 := X2.c1
  have f0 := X2.free 0
  have f1 := X2.free 1
  have XX := Lib.hid X2
  clear s2 o2 hk2 X2
  go_wp2
  have hkp : ∀ g, g ≠ w.heap.size → ((w2.setCell ⟨w.heap.size, 0, none⟩ (.slice A n c)).setCell ⟨w.heap.size, 1, none⟩ (.slice D n' d)).heap[g]? = w2.heap[g]? := fun g hg => by
    rw [Below.heap_setCell _ _ _ _ (by show g ≠ w.heap.size; exact hg), Below.heap_setCell _ _ _ _ (by show g ≠ w.heap.size; exact hg)]
  have hsz : ((w2.setCell ⟨w.heap.size, 0, none⟩ (.slice A n c)).setCell ⟨w.heap.size, 1, none⟩ (.slice D n' d)).heap.size = w2.heap.size := by simp [World.setCell]
  have PP := K2.out ((w2.setCell ⟨w.heap.size, 0, none⟩ (.slice A n c)).setCell ⟨w.heap.size, 1, none⟩ (.slice D n' d)) (by rw [hsz]; exact Nat.le_refl _) (fun g h1 h2 => hkp g (by omega))
  exact bodyPost_ret (v := .agg #[.slice A n c, .slice D n' d]) (results_cell_row rfl _ _ w.heap.size 27 _ (0, 0) _ rfl (XX.out.stored _ _) Tryz.underlying27 rfl info_tb) rfl
    ⟨A, n, c, D, n', d, m, b, rfl, hl, h8, hc, PP.1, PP.2, below_set (below_set B2.out (Nat.le_refl _) _) (Nat.le_refl _) _⟩
end Go.Proofs.YtpngohklicgbjaaGreat
/-
  What is a tableau: the plain test, the program's and the model's.
-/
namespace Go.Proofs.YtpngohklicgbjaaGreat
open Go.RowKit Fld
set_option linter.unusedVariables false
set_option linter.unusedSimpArgs false
set_option maxRecDepth 100000

def isTabB (m : List (List Int)) (b : List Int) : Bool := decide (1 ≤ b.length ∧ b.length ≤ 8 ∧ m.length = b.length) && (allNum b && okRows b.length m)
theorem isTabB_len {m : List (List Int)} {b : List Int} (h : b.length = 0 ∨ 8 < b.length ∨ m.length ≠ b.length) : isTabB m b = false := by
  unfold isTabB; rw [decide_eq_false (by omega)]; rfl
theorem isTabB_num {m : List (List Int)} {b : List Int} (h : allNum b = false) : isTabB m b = false := by
  unfold isTabB; rw [h]; simp
theorem isTabB_bad {m : List (List Int)} {b r : List Int} {k : Nat} (hr : m[k]? = some r) (h : r.length ≠ b.length ∨ allNum r = false) : isTabB m b = false := by
  unfold isTabB
  have : okRows b.length m = false := by
    unfold okRows
    rw [List.all_eq_false]
    refine ⟨r, List.mem_of_getElem? hr, ?_⟩
    rcases h with h | h
    · simp [h]
    · simp [h]
  rw [this, Bool.and_false, Bool.and_false]
theorem isTabB_yes {m : List (List Int)} {b : List Int} {n : Nat} (hl : m.length = n) (hb : b.length = n) (h1 : 1 ≤ n) (h8 : n ≤ 8) (hn : allNum b = true) (h : okRows n (m.take n) = true) : isTabB m b = true := by
  unfold isTabB
  rw [List.take_of_length_le (by omega)] at h
  rw [decide_eq_true (by omega), hn, hb, h]; rfl
theorem isTabB_parts {m : List (List Int)} {b : List Int} (h : isTabB m b = true) : 1 ≤ b.length ∧ b.length ≤ 8 ∧ m.length = b.length ∧ allNum b = true ∧ Wide m b.length ∧ ∀ r ∈ m, allNum r = true := by
  unfold isTabB at h
  rw [Bool.and_eq_true, Bool.and_eq_true] at h
  obtain ⟨h1, h2, h3⟩ := h
  have h4 := of_decide_eq_true h1
  unfold okRows at h3
  rw [List.all_eq_true] at h3
  refine ⟨h4.1, h4.2.1, h4.2.2, h2, fun r hr => ?_, fun r hr => ?_⟩
  · have := h3 r hr; simp at this; exact this.1
  · have := h3 r hr; simp at this; exact this.2

set_option maxHeartbeats 1600000 in
theorem isTableau_any (A D : Option Addr) (n c n' d B B' : Nat) (m : List (List Int)) (b : List Int) (w : World) (hl : m.length = n) (hl' : b.length = n') (hn : n ≤ 9223372036854775807) (hn' : n' ≤ 9223372036854775807) (hB : B ≤ w.heap.size) (hB' : B' ≤ w.heap.size) (h : Mat w B A m) (r : Row w B' D (ints b)) :
    Calls Tryz.prog 25 #[.agg #[.slice A n c, .slice D n' d]] w fun e w' => e = .returned (.bool (isTabB m b)) ∧ Below w.heap.size w w' := by
  have HL := Lib.hid hl
  have HL' := Lib.hid hl'
  clear hl hl'
  obtain ⟨W0, hW0⟩ : ∃ W0, W0 = w.alloc (.cells #[.slice A n c, .slice D n' d] 27) := ⟨_, rfl⟩
  have HB : Hid (Below w.heap.size w W0) := by rw [hW0]; exact (Below.refl _ _).alloc (Nat.le_refl _) _
  have HM : Hid (Mat W0 B A m) := h.below HB.out hB
  have HR : Hid (Row W0 B' D (ints b)) := r.below HB.out hB'
  have hx := heap_alloc_new w (.cells #[.slice A n c, .slice D n' d] 27)
  have hx0 : W0.cell? ⟨w.heap.size, 0, none⟩ = some (.slice A n c) := by rw [hW0, cell_of_row _ _ 0 _ _ _ hx]; rfl
  have hx1 : W0.cell? ⟨w.heap.size, 1, none⟩ = some (.slice D n' d) := by rw [hW0, cell_of_row _ _ 1 _ _ _ hx]; rfl
  clear h r hx hB hB'
  by_cases h0 : n = 0
  · have H : Hid (isTabB m b = false) := isTabB_len (by rw [HL'.out]; have := HL.out; omega)
    subst h0
    clear hx0 hx1
    go_enter Tryz.func25, Tryz.ntmps25
    go_wp2
    go_ret
    exact ⟨ret_bool H.out.symm, by rw [← hW0]; exact HB.out⟩
  · by_cases h8 : 8 < n
    · have H : Hid (isTabB m b = false) := isTabB_len (by rw [HL'.out]; have := HL.out; omega)
      have t0 : ¬ ((n : Int) < 1) := by omega
      clear h0 hx0 hx1
      go_enter Tryz.func25, Tryz.ntmps25
      go_wp2
      go_ret
      exact ⟨ret_bool H.out.symm, by rw [← hW0]; exact HB.out⟩
    · by_cases hq : n' = n
      · subst hq
        have hn1 : 1 ≤ n' := by omega
        have t0 : ¬ ((n' : Int) < 1) := by omega
        clear h0
        cases hnb : allNum b
        · have H : Hid (isTabB m b = false) := isTabB_num hnb
          go_enter Tryz.func25, Tryz.ntmps25
          go_wp2_with fail
          rw [← hW0]
          refine (areNumbers_any _ _ _ B' b _ HL'.out (by omega) HR.out).mono ?_
          rintro e w' ⟨rfl, rfl⟩
          rw [hnb]
          clear hW0 hx0 hx1
          go_wp2
          go_ret
          exact ⟨ret_bool H.out.symm, HB.out⟩
        · go_enter Tryz.func25, Tryz.ntmps25
          go_wp2_with fail
          rw [← hW0]
          refine (areNumbers_any _ _ _ B' b _ HL'.out (by omega) HR.out).mono ?_
          rintro e w' ⟨rfl, rfl⟩
          rw [hnb]
          have HNB := Lib.hid hnb
          clear hW0 hnb
          go_wp2_with fail
          go_loop [31] (fun i => ∃ k : Nat, k ≤ n' ∧ i = .int .i64 k ∧ Hid (okRows n' (m.take k) = true)) (fun i => n' - (intOf i).toNat)
          case atStart => exact ⟨0, Nat.zero_le _, rfl, rfl⟩
          case round =>
            obtain ⟨k, hk, rfl, HT⟩ := hrel
            by_cases hlt : k < n'
            · obtain ⟨r, hr⟩ := at_lt (show k < m.length by rw [HL.out]; exact hlt)
              obtain ⟨b2, o2, Ak, ck, rfl, _, hc, hlc, hcm, hrow⟩ := HM.out k r hr
              unfold maxLen at hcm
              by_cases hrq : r.length = n'
              · have tr : ((r.length : Int) != n') = false := bne_f (by omega)
                cases hnum : allNum r
                · have H : Hid (isTabB m b = false) := isTabB_bad hr (.inr hnum)
                  clear hr hrq HT
                  go_wp2_with (go_at_call 35; refine (areNumbers_any _ _ _ B r _ rfl (by omega) hrow).mono ?_; rintro e w' ⟨rfl, rfl⟩)
                  go_ret
                  exact ⟨ret_bool H.out.symm, HB.out⟩
                · have G := Lib.hid (okRows_step hr hrq hnum HT.out)
                  clear hr hrq HT
                  go_wp2_with (go_at_call 35; refine (areNumbers_any _ _ _ B r _ rfl (by omega) hrow).mono ?_; rintro e w' ⟨rfl, rfl⟩)
                  go_round
                  case rel => exact ⟨k + 1, by omega, by go_num, G⟩
                  case measure => simp [intOf]; omega
              · have tr : ((r.length : Int) != n') = true := bne_t (by omega)
                have H : Hid (isTabB m b = false) := isTabB_bad hr (.inl (by rw [HL'.out]; exact hrq))
                clear hr hrq HT
                go_wp2
                go_ret
                exact ⟨ret_bool H.out.symm, HB.out⟩
            · obtain rfl : k = n' := by omega
              have H : Hid (isTabB m b = true) := isTabB_yes HL.out HL'.out (by omega) (by omega) HNB.out HT.out
              clear HT
              go_wp2
              go_ret
              exact ⟨ret_bool H.out.symm, HB.out⟩
      · have H : Hid (isTabB m b = false) := isTabB_len (by rw [HL'.out]; have := HL.out; omega)
        have t0 : ¬ ((n : Int) < 1) := by omega
        have t1 := bne_t (show (n' : Int) ≠ (n : Int) by omega)
        clear h0 hq hx0 hx1
        go_enter Tryz.func25, Tryz.ntmps25
        go_wp2
        go_ret
        exact ⟨ret_bool H.out.symm, by rw [← hW0]; exact HB.out⟩
set_option maxHeartbeats 1600000 in
theorem l09Is_any (A D : Option Addr) (n c n' d B B' : Nat) (m : List (List Int)) (b : List Int) (w : World) (hl : m.length = n) (hl' : b.length = n') (hn : n ≤ 9223372036854775807) (hn' : n' ≤ 9223372036854775807) (hB : B ≤ w.heap.size) (hB' : B' ≤ w.heap.size) (h : Mat w B A m) (r : Row w B' D (ints b)) :
    Calls Tryz.prog 42 #[.agg #[.slice A n c, .slice D n' d]] w fun e w' => e = .returned (.bool (isTabB m b)) ∧ Below w.heap.size w w' := by
  have HL := Lib.hid hl
  have HL' := Lib.hid hl'
  clear hl hl'
  obtain ⟨W0, hW0⟩ : ∃ W0, W0 = w.alloc (.cells #[.slice A n c, .slice D n' d] 27) := ⟨_, rfl⟩
  have HB : Hid (Below w.heap.size w W0) := by rw [hW0]; exact (Below.refl _ _).alloc (Nat.le_refl _) _
  have HM : Hid (Mat W0 B A m) := h.below HB.out hB
  have HR : Hid (Row W0 B' D (ints b)) := r.below HB.out hB'
  have hx := heap_alloc_new w (.cells #[.slice A n c, .slice D n' d] 27)
  have hx0 : W0.cell? ⟨w.heap.size, 0, none⟩ = some (.slice A n c) := by rw [hW0, cell_of_row _ _ 0 _ _ _ hx]; rfl
  have hx1 : W0.cell? ⟨w.heap.size, 1, none⟩ = some (.slice D n' d) := by rw [hW0, cell_of_row _ _ 1 _ _ _ hx]; rfl
  clear h r hx hB hB'
  by_cases h0 : n' = 0
  · have H : Hid (isTabB m b = false) := isTabB_len (by rw [HL'.out]; have := HL.out; omega)
    subst h0
    clear hx0 hx1
    go_enter Tryz.func42, Tryz.ntmps42
    go_wp2
    go_ret
    exact ⟨ret_bool H.out.symm, by rw [← hW0]; exact HB.out⟩
  · by_cases h8 : 8 < n'
    · have H : Hid (isTabB m b = false) := isTabB_len (by rw [HL'.out]; have := HL.out; omega)
      have t0 : ¬ ((n' : Int) < 1) := by omega
      clear h0 hx0 hx1
      go_enter Tryz.func42, Tryz.ntmps42
      go_wp2
      go_ret
      exact ⟨ret_bool H.out.symm, by rw [← hW0]; exact HB.out⟩
    · by_cases hq : n = n'
      · subst hq
        have hn1 : 1 ≤ n := by omega
        have t0 : ¬ ((n : Int) < 1) := by omega
        clear h0
        cases hnb : allNum b
        · have H : Hid (isTabB m b = false) := isTabB_num hnb
          go_enter Tryz.func42, Tryz.ntmps42
          go_wp2_with fail
          rw [← hW0]
          refine (l01Numbers_any _ _ _ B' b _ HL'.out (by omega) HR.out).mono ?_
          rintro e w' ⟨rfl, rfl⟩
          rw [hnb]
          clear hW0 hx0 hx1
          go_wp2
          go_ret
          exact ⟨ret_bool H.out.symm, HB.out⟩
        · go_enter Tryz.func42, Tryz.ntmps42
          go_wp2_with fail
          rw [← hW0]
          refine (l01Numbers_any _ _ _ B' b _ HL'.out (by omega) HR.out).mono ?_
          rintro e w' ⟨rfl, rfl⟩
          rw [hnb]
          have HNB := Lib.hid hnb
          clear hW0 hnb
          go_wp2_with fail
          go_loop [4] (fun i => ∃ k : Nat, k ≤ n ∧ i = .int .i64 k ∧ Hid (okRows n (m.take k) = true)) (fun i => n - (intOf i).toNat)
          case atStart => exact ⟨0, Nat.zero_le _, rfl, rfl⟩
          case round =>
            obtain ⟨k, hk, rfl, HT⟩ := hrel
            by_cases hlt : k < n
            · obtain ⟨r, hr⟩ := at_lt (show k < m.length by rw [HL.out]; exact hlt)
              obtain ⟨b2, o2, Ak, ck, rfl, _, hc, hlc, hcm, hrow⟩ := HM.out k r hr
              unfold maxLen at hcm
              by_cases hrq : r.length = n
              · have tr : ((r.length : Int) != n) = false := bne_f (by omega)
                cases hnum : allNum r
                · have H : Hid (isTabB m b = false) := isTabB_bad hr (.inr hnum)
                  clear hr hrq HT
                  go_wp2_with fail
                  refine (l01Numbers_any _ _ _ B r _ rfl (by omega) hrow).mono ?_
                  rintro e w' ⟨rfl, rfl⟩
                  rw [hnum]
                  go_wp2
                  go_ret
                  exact ⟨ret_bool H.out.symm, HB.out⟩
                · have G := Lib.hid (okRows_step hr hrq hnum HT.out)
                  clear hr hrq HT
                  go_wp2_with fail
                  refine (l01Numbers_any _ _ _ B r _ rfl (by omega) hrow).mono ?_
                  rintro e w' ⟨rfl, rfl⟩
                  rw [hnum]
                  go_wp2
                  go_round
                  case rel => exact ⟨k + 1, by omega, by go_num, G⟩
                  case measure => simp [intOf]; omega
              · have tr : ((r.length : Int) != n) = true := bne_t (by omega)
                have H : Hid (isTabB m b = false) := isTabB_bad hr (.inl (by rw [HL'.out]; exact hrq))
                clear hr hrq HT
                go_wp2
                go_ret
                exact ⟨ret_bool H.out.symm, HB.out⟩
            · obtain rfl : k = n := by omega
              have H : Hid (isTabB m b = true) := isTabB_yes HL.out HL'.out (by omega) (by omega) HNB.out HT.out
              clear HT
              go_wp2
              go_ret
              exact ⟨ret_bool H.out.symm, HB.out⟩
      · have H : Hid (isTabB m b = false) := isTabB_len (by rw [HL'.out]; have := HL.out; omega)
        have t0 : ¬ ((n' : Int) < 1) := by omega
        have t1 := bne_t (show (n : Int) ≠ (n' : Int) by omega)
        clear h0 hq hx0 hx1
        go_enter Tryz.func42, Tryz.ntmps42
        go_wp2
        go_ret
        exact ⟨ret_bool H.out.symm, by rw [← hW0]; exact HB.out⟩
end Go.Proofs.YtpngohklicgbjaaGreat
/-
  Systems of the program's: rows of numbers, each of the call's own, apart from each other: a number is stored, two rows change places.
-/
namespace Go.Proofs.YtpngohklicgbjaaGreat
open Go.RowKit Fld
set_option linter.unusedVariables false
set_option linter.unusedSimpArgs false
set_option maxRecDepth 100000

/-- a list of lists of the call's own: its rows lie apart -/
structure OwnSys (w : World) (lo hi : Nat) (v : Value) (n : Nat) (m : List (List Int)) (vs : List Value) : Prop where
  outer : OwnR w lo hi 53 v n vs
  len : vs.length = m.length
  inner : ∀ (r : Nat) (row : List Int), m[r]? = some row → ∃ A c, vs[r]? = some (.slice A row.length c) ∧ OwnR w lo hi 68 (.slice A row.length c) row.length (ints row)
  apart : ∀ (r s : Nat) (u t : Value) (g : Nat), r ≠ s → vs[r]? = some u → vs[s]? = some t → u.ownBlock = some g → t.ownBlock ≠ some g
theorem OwnSys.keep {w w' : World} {lo hi n : Nat} {v : Value} {m : List (List Int)} {vs : List Value} (h : OwnSys w lo hi v n m vs) (hk : ∀ g, lo ≤ g → g < hi → w'.heap[g]? = w.heap[g]?) : OwnSys w' lo hi v n m vs :=
  ⟨h.outer.keep hk, h.len, fun r row hr => by obtain ⟨A, c, h1, h2⟩ := h.inner r row hr; exact ⟨A, c, h1, h2.keep hk⟩, h.apart⟩
theorem OwnSys.below {w w' : World} {lo hi n B : Nat} {v : Value} {m : List (List Int)} {vs : List Value} (h : OwnSys w lo hi v n m vs) (hb : Below B w w') (hB : hi ≤ B) : OwnSys w' lo hi v n m vs := h.keep fun g _ hg => hb.block g (by omega)
theorem OwnSys.within {w w' : World} {lo hi lo' hi' n : Nat} {v : Value} {m : List (List Int)} {vs : List Value} (h : OwnSys w lo hi v n m vs) (hb : Within lo' hi' w w') (hs : hi ≤ w.heap.size) (hd : hi ≤ lo' ∨ hi' ≤ lo) : OwnSys w' lo hi v n m vs :=
  h.keep fun g h1 h2 => hb.block g (by omega) (by omega)
theorem OwnSys.more {w : World} {lo hi lo' hi' n : Nat} {v : Value} {m : List (List Int)} {vs : List Value} (h : OwnSys w lo hi v n m vs) (h1 : lo' ≤ lo) (h2 : hi ≤ hi') : OwnSys w lo' hi' v n m vs :=
  ⟨h.outer.more h1 h2, h.len, fun r row hr => by obtain ⟨A, c, h3, h4⟩ := h.inner r row hr; exact ⟨A, c, h3, h4.more h1 h2⟩, h.apart⟩
theorem OwnSys.mat {w : World} {lo hi n c : Nat} {A : Option Addr} {m : List (List Int)} {vs : List Value} (h : OwnSys w lo hi (.slice A n c) n m vs) : Mat w hi A m := by
  intro k r hr
  obtain ⟨Ak, ck, h1, h2⟩ := h.inner k r hr
  obtain ⟨b, o, e, hb, hc⟩ := h.outer.row k _ h1
  have := own_cap h2.1
  exact ⟨b, o, Ak, ck, e, hb, hc, this.1, this.2, h2.row⟩
theorem OwnSys.drewN {w : World} {lo hi n : Nat} {v : Value} {m : List (List Int)} {vs : List Value} (h : OwnSys w lo hi v n m vs) (k : Nat) : OwnSys (w.drewN k) lo hi v n m vs := h.keep fun _ _ _ => rfl
theorem OwnSys.size {w : World} {lo hi n : Nat} {v : Value} {m : List (List Int)} {vs : List Value} (h : OwnSys w lo hi v n m vs) : m.length = n := by
  have := own_len h.outer.1; have := h.len; omega
/-- one row of it is written anew, in its place -/
theorem OwnSys.set_row {w w' : World} {lo hi n r q c : Nat} {v : Value} {A : Option Addr} {m : List (List Int)} {vs : List Value} {row' : List Int} (h : OwnSys w lo hi v n m vs) (hr : vs[r]? = some (.slice A q c)) (hq : row'.length = q)
    (h1 : w'.ownsRow lo 68 1 (.slice A q c) q (ints row')) (hg : w.grownBy w' (Value.ownBlock (.slice A q c))) : OwnSys w' lo hi v n (m.set r row') vs := by
  have hrl : r < m.length := by
    rcases Nat.lt_or_ge r m.length with g | g
    · exact g
    · rw [List.getElem?_eq_none (by rw [h.len]; exact g)] at hr; cases hr
  obtain ⟨A0, c0, e0, o0⟩ := h.inner r _ (List.getElem?_eq_getElem hrl)
  rw [hr] at e0
  injection e0 with e0
  injection e0 with eA eq ec
  subst eA ec
  have hot : w.ownsRow lo 68 1 (.slice A q c) q (ints m[r]) := by rw [eq]; exact o0.1
  refine ⟨h.outer.grown hg ?_, by rw [List.length_set]; exact h.len, ?_, h.apart⟩
  · exact own_types h.outer.1 hot (by decide)
  · intro s row hs
    by_cases hsr : r = s
    · subst hsr
      rw [List.getElem?_set_self (by exact hrl)] at hs
      injection hs with hs
      subst hs
      refine ⟨A, c, by rw [hq]; exact hr, ⟨by rw [hq]; exact h1, ?_⟩⟩
      rw [hq, eq]; exact o0.2
    · rw [List.getElem?_set_ne hsr] at hs
      obtain ⟨A2, c2, e2, o2⟩ := h.inner s row hs
      refine ⟨A2, c2, e2, o2.grown hg ?_⟩
      cases hb : Value.ownBlock (.slice A2 row.length c2) with
      | none => exact .inl rfl
      | some g => exact .inr (fun e => h.apart s r _ _ g (Ne.symm hsr) e2 hr hb e.symm)

/-- a number is stored -/
theorem OwnSys.put {w : World} {lo hi n r k g c : Nat} {v : Value} {m : List (List Int)} {vs : List Value} {row : List Int} {x : Int} (h : OwnSys w lo hi v n m vs) (hr : m[r]? = some row) (hv : vs[r]? = some (.slice (some ⟨g, 0, none⟩) row.length c)) :
    OwnSys (w.setCell ⟨g, k, none⟩ (.int .i64 x)) lo hi v n (m.set r (row.set k x)) vs := by
  obtain ⟨A0, c0, e0, o0⟩ := h.inner r row hr
  rw [hv] at e0
  injection e0 with e0
  injection e0 with eA eq ec
  subst eA ec
  obtain ⟨h1, h2⟩ := o0.1.stored k (.int .i64 x)
  refine h.set_row hv (by rw [List.length_set]) ?_ h2
  have e : (ints row).set k (.int .i64 x) = ints (row.set k x) := by unfold ints intsK; rw [List.map_set]
  rw [e] at h1
  exact h1
/-- two places of a list change -/
def swapL {α : Type} (l : List α) (p q : Nat) (a b : α) : List α := (l.set p b).set q a
theorem swapL_at {α : Type} {l : List α} {p q : Nat} {a b : α} (hp : l[p]? = some a) (hq : l[q]? = some b) (i : Nat) : (swapL l p q a b)[i]? = l[if i = p then q else if i = q then p else i]? := by
  have hpl : p < l.length := by
    rcases Nat.lt_or_ge p l.length with g | g
    · exact g
    · rw [List.getElem?_eq_none g] at hp; cases hp
  have hql : q < l.length := by
    rcases Nat.lt_or_ge q l.length with g | g
    · exact g
    · rw [List.getElem?_eq_none g] at hq; cases hq
  unfold swapL
  rw [List.getElem?_set, List.getElem?_set]
  by_cases e1 : q = i
  · subst e1
    rw [if_pos rfl, if_pos (by rw [List.length_set]; exact hql)]
    by_cases e2 : q = p
    · subst e2; rw [if_pos rfl, hp]
    · rw [if_neg e2, if_pos rfl, hp]
  · rw [if_neg e1]
    by_cases e2 : p = i
    · subst e2; rw [if_pos rfl, if_pos hpl, if_pos rfl, hq]
    · rw [if_neg e2, if_neg (fun e => e2 e.symm), if_neg (fun e => e1 e.symm)]
/-- two rows change places -/
theorem OwnSys.swap {w : World} {lo hi n p q g c : Nat} {m : List (List Int)} {vs : List Value} {r s : List Int} {u t : Value} (h : OwnSys w lo hi (.slice (some ⟨g, 0, none⟩) n c) n m vs)
    (hp : m[p]? = some r) (hq : m[q]? = some s) (hu : vs[p]? = some u) (ht : vs[q]? = some t) :
    OwnSys ((w.setCell ⟨g, p, none⟩ t).setCell ⟨g, q, none⟩ u) lo hi (.slice (some ⟨g, 0, none⟩) n c) n (swapL m p q r s) (swapL vs p q u t) := by
  obtain ⟨h1, h2⟩ := h.outer.1.stored p t
  obtain ⟨h3, h4⟩ := h1.stored q u
  refine ⟨⟨h3, h.outer.2⟩, by unfold swapL; simp [h.len], ?_, ?_⟩
  · intro i row hi
    rw [swapL_at hp hq] at hi
    obtain ⟨A, c', e, o⟩ := h.inner _ row hi
    refine ⟨A, c', by rw [swapL_at hu ht]; exact e, ?_⟩
    have hne := own_types o.1 h.outer.1 (by decide)
    exact (o.grown h2 hne).grown h4 hne
  · intro i j a b gg hij ha hb hg
    rw [swapL_at hu ht] at ha hb
    refine h.apart _ _ a b gg ?_ ha hb hg
    split <;> split <;> (try split) <;> (try split) <;> omega
end Go.Proofs.YtpngohklicgbjaaGreat
/-
  The copy of a matrix as a system of the program's.
-/
namespace Go.Proofs.YtpngohklicgbjaaGreat
open Go.RowKit Fld
set_option linter.unusedVariables false
set_option linter.unusedSimpArgs false
set_option maxRecDepth 100000

/-- a new row is laid into a place of the outer row -/
theorem OwnSys.put_row {w : World} {lo hi hi' n k q c g cap : Nat} {A : Option Addr} {m : List (List Int)} {vs : List Value} {row : List Int} (h : OwnSys w lo hi (.slice (some ⟨g, 0, none⟩) n cap) n m vs) (hk : k < m.length) (hq : row.length = q)
    (ho : OwnR w hi hi' 68 (.slice A q c) q (ints row)) (hl : lo ≤ hi) (hh : hi ≤ hi') : OwnSys (w.setCell ⟨g, k, none⟩ (.slice A q c)) lo hi' (.slice (some ⟨g, 0, none⟩) n cap) n (m.set k row) (vs.set k (.slice A q c)) := by
  have hs := h.outer.1.stored k (.slice A q c)
  have hg2 : ∀ g', Value.ownBlock (.slice A q c) = some g' → hi ≤ g' := fun g' e => (ho.1.lt g' e).1
  refine ⟨⟨hs.1, fun g' e => by have := h.outer.2 g' e; omega⟩, by rw [List.length_set, List.length_set]; exact h.len, ?_, ?_⟩
  · intro s r hr
    by_cases hsk : k = s
    · subst hsk
      rw [List.getElem?_set_self hk] at hr
      injection hr with hr
      subst hr
      subst hq
      refine ⟨A, c, by rw [List.getElem?_set_self (by rw [h.len]; exact hk)], ?_⟩
      exact (ho.more hl (Nat.le_refl _)).grown hs.2 ((own_types ho.1 h.outer.1 (by decide)).imp id (fun e => e))
    · rw [List.getElem?_set_ne hsk] at hr
      obtain ⟨A2, c2, e2, o2⟩ := h.inner s r hr
      exact ⟨A2, c2, by rw [List.getElem?_set_ne hsk]; exact e2, (o2.more (Nat.le_refl _) hh).grown hs.2 ((own_types o2.1 h.outer.1 (by decide)).imp id (fun e => e))⟩
  · intro r s u t g' hne hu ht hb hb'
    by_cases hrk : k = r
    · subst hrk
      have hks : k ≠ s := hne
      rw [List.getElem?_set_self (by rw [h.len]; exact hk)] at hu
      rw [List.getElem?_set_ne hks] at ht
      injection hu with hu
      subst hu
      have h1 := hg2 g' hb
      have hsl : s < m.length := by
        rcases Nat.lt_or_ge s m.length with x | x
        · exact x
        · rw [List.getElem?_eq_none (by rw [h.len]; exact x)] at ht; cases ht
      obtain ⟨A2, c2, e2, o2⟩ := h.inner s _ (List.getElem?_eq_getElem hsl)
      rw [ht] at e2
      injection e2 with e2
      subst e2
      have := o2.2 g' hb'
      omega
    · rw [List.getElem?_set_ne hrk] at hu
      by_cases hsk : k = s
      · subst hsk
        rw [List.getElem?_set_self (by rw [h.len]; exact hk)] at ht
        injection ht with ht
        subst ht
        have h1 := hg2 g' hb'
        have hrl : r < m.length := by
          rcases Nat.lt_or_ge r m.length with x | x
          · exact x
          · rw [List.getElem?_eq_none (by rw [h.len]; exact x)] at hu; cases hu
        obtain ⟨A2, c2, e2, o2⟩ := h.inner r _ (List.getElem?_eq_getElem hrl)
        rw [hu] at e2
        injection e2 with e2
        subst e2
        have := o2.2 g' hb
        omega
      · rw [List.getElem?_set_ne hsk] at ht
        exact h.apart r s u t g' hne hu ht hb hb'
/-- an outer row of empty rows -/
theorem OwnSys.blank {w w1 : World} {n : Nat} (h : w1.ownsRow w.heap.size 53 1 (.slice (some ⟨w.heap.size, 0, none⟩) n n) n (madeCells (Value.slice none 0 0).cells (n * 1)).toList) (hz : w.heap.size < w1.heap.size) :
    OwnSys w1 w.heap.size w1.heap.size (.slice (some ⟨w.heap.size, 0, none⟩) n n) n (List.replicate n []) (List.replicate n (.slice none 0 0)) := by
  have e : (madeCells (Value.slice none 0 0).cells (n * 1)).toList = List.replicate n (.slice none 0 0) := by rw [Nat.mul_one]; exact toList_madeCells_one _ _
  rw [e] at h
  refine ⟨⟨h, fun g hg => by have : w.heap.size = g := (by simpa [Value.ownBlock] using hg); omega⟩, by simp, ?_, ?_⟩
  · intro r row hr
    rw [List.getElem?_replicate] at hr
    split at hr
    · rename_i hlt
      injection hr with hr
      subst hr
      exact ⟨none, 0, by rw [List.getElem?_replicate, if_pos hlt]; rfl, World.ownsRow_nil _ _ _ _, fun g hg => by simp [Value.ownBlock] at hg⟩
    · cases hr
  · intro r s u t g hne hu ht hb
    rw [List.getElem?_replicate] at hu
    split at hu
    · injection hu with hu; subst hu; simp [Value.ownBlock] at hb
    · cases hu
/-- a new list of lists -/
def NewSys (n : Nat) (m : List (List Int)) (w : World) (e : Ending) (w' : World) : Prop :=
  ∃ A c vs, e = .returned (.slice A n c) ∧ OwnSys w' w.heap.size w'.heap.size (.slice A n c) n m vs ∧ Below w.heap.size w w'
/-- the rows up to k are filled -/
def FillS (w : World) (n : Nat) (m : List (List Int)) (k : Nat) (wr : World) : Prop :=
  ∃ vs, OwnSys wr w.heap.size wr.heap.size (.slice (some ⟨w.heap.size, 0, none⟩) n n) n (m.take k ++ List.replicate (n - k) []) vs ∧ Below w.heap.size w wr ∧ w.heap.size < wr.heap.size
theorem fillS_step {m : List (List Int)} {n k : Nat} {r : List Int} (hl : m.length = n) (h : m[k]? = some r) : (m.take k ++ List.replicate (n - k) []).set k r = m.take (k + 1) ++ List.replicate (n - (k + 1)) [] := by
  have hk : k < n := by
    rcases Nat.lt_or_ge k n with g | g
    · exact g
    · rw [List.getElem?_eq_none (by omega)] at h; cases h
  have e1 : (m.take k).length = k := by simp; omega
  rw [List.set_append, if_neg (by omega), e1, Nat.sub_self, show n - k = (n - (k + 1)) + 1 from by omega, List.replicate_succ, List.set_cons_zero, List.take_add_one, h]
  simp
theorem FillS.step {w wr w2 : World} {n k c : Nat} {A : Option Addr} {m : List (List Int)} {row : List Int} (h : FillS w n m k wr) (hl : m.length = n) (hr : m[k]? = some row)
    (ho : w2.ownsRow wr.heap.size 68 1 (.slice A row.length c) row.length (ints row)) (hb : Below wr.heap.size wr w2) : FillS w n m (k + 1) (w2.setCell ⟨w.heap.size, k, none⟩ (.slice A row.length c)) := by
  obtain ⟨vs, h1, h2, h3⟩ := h
  have hk : k < n := by
    rcases Nat.lt_or_ge k n with g | g
    · exact g
    · rw [List.getElem?_eq_none (by omega)] at hr; cases hr
  have hlen : (m.take k ++ List.replicate (n - k) []).length = n := by simp; omega
  have h4 := (h1.below hb (Nat.le_refl _)).put_row (k := k) (by omega) rfl (OwnR.of ho) (by omega) hb.size
  rw [fillS_step hl hr] at h4
  have hsz : (w2.setCell ⟨w.heap.size, k, none⟩ (.slice A row.length c)).heap.size = w2.heap.size := by simp [World.setCell]
  exact ⟨_, by rw [hsz]; exact h4, below_set (h2.trans (hb.mono (by omega))) (Nat.le_refl _) _, by rw [hsz]; have := hb.size; omega⟩
theorem FillS.done {w wr : World} {n : Nat} {m : List (List Int)} (h : FillS w n m n wr) (hl : m.length = n) : NewSys n m w (.returned (.slice (some ⟨w.heap.size, 0, none⟩) n n)) wr := by
  obtain ⟨vs, h1, h2, _⟩ := h
  rw [Nat.sub_self, List.take_of_length_le (by omega)] at h1
  simp only [List.replicate_zero, List.append_nil] at h1
  exact ⟨_, _, vs, rfl, h1, h2⟩
theorem FillS.start {w w1 : World} {n : Nat} {m : List (List Int)} (h : w1.ownsRow w.heap.size 53 1 (.slice (some ⟨w.heap.size, 0, none⟩) n n) n (madeCells (Value.slice none 0 0).cells (n * 1)).toList) (hg : w.grownBy w1 none) : FillS w n m 0 w1 := by
  have hz : w.heap.size < w1.heap.size := (h.lt w.heap.size rfl).2
  refine ⟨List.replicate n (.slice none 0 0), ?_, (Below.refl _ _).grown hg (Nat.le_refl _) (fun k hk => by cases hk), hz⟩
  simp only [List.take_zero, List.nil_append, Nat.sub_zero]
  exact OwnSys.blank h hz
theorem FillS.cell {w wr w2 : World} {n k : Nat} {m : List (List Int)} (h : FillS w n m k wr) (hl : m.length = n) (hk : k < n) (hb : Below wr.heap.size wr w2) :
    (∃ u, w2.cell? ⟨w.heap.size, k, none⟩ = some u) ∧ w2.frozen? ⟨w.heap.size, k, none⟩ = false := by
  obtain ⟨vs, h1, _, h3⟩ := h
  have h2 := (h1.below hb (Nat.le_refl _)).outer.1
  refine ⟨?_, h2.frozenAt k⟩
  have e := h2.cellAt k (by omega)
  have hv : k < vs.length := by rw [own_len h2]; exact hk
  rw [List.getElem?_eq_getElem hv] at e
  exact ⟨_, e⟩


/-- an append of no cells at all -/
theorem run_append_none {P : Program} (w : World) (t tn ty e : TypeId) (i : TypeInfo) (ht : P.underlying t = some (.slice e)) (htn : P.underlying tn = some (.int .i64)) (hi : P.info? e = some i)
    (base : Option Addr) (n c : Nat) (hc : n ≤ c) : (Builtin.append_ #[t, tn] ty #[.slice base n c, .int .i64 0]).run P w = .ok (.slice base n c) w := by
  have hw : IntKind.i64.wrap (0 : Int) = 0 := by decide
  cases base <;> simp [Builtin.append_, run_underlying ht, run_underlying htn, sizeOf, typeInfo, hi, asInt, asIntOf, hw, hc, storeCells]
theorem wpList_append_none {P : Program} (w : World) {ops : Array Oper} {rest : List Oper} {o : Oper} {a : Act} {Q : Exit → Act → World → Prop}
    (hg : o.guard = none) (s x : Operand) (t tn : TypeId) (hop : o.op = Op.call { callee := Callee.builtin Builtin.append, args := #[s, x], argTypes := #[t, tn] })
    (e : TypeId) (i : TypeInfo) (ht : P.underlying t = some (.slice e)) (htn : P.underlying tn = some (.int .i64)) (hi : P.info? e = some i)
    (base : Option Addr) (n c : Nat) (hc : n ≤ c) (hs : a.eval s = .slice base n c) (hx : a.eval x = .int .i64 0)
    (hK : wpList P ops Q rest (a.put o.dst (.slice base n c)) w) : wpList P ops Q (o :: rest) a w := by
  refine wpList_plain hg fun K hK' => ?_
  have hrun := run_append_none w t tn o.type e i ht htn hi base n c hc
  unfold Oper.wp
  simp [execOp, hop, resolve, invoke, builtin, hs, hx, hrun, Result.andThen]
  exact hK' _ _ hK
theorem info_sysrow : (Tryz.prog.info? 53).map (fun i => (i.zero, i.size, i.bytes)) = some (some (.slice none 0 0), 1, 24) := by kernel_rfl
set_option maxHeartbeats 800000 in
theorem systemOf_any (A : Option Addr) (n c B q : Nat) (m : List (List Int)) (w : World) (hl : m.length = n) (hn : n ≤ 8) (hq : Wide m q) (hq16 : q ≤ 16) (hB : B ≤ w.heap.size) (h : Mat w B A m) :
    Calls Tryz.prog 51 #[.slice A n c, .int .i64 0] w (NewSys n m w) := by
  obtain ⟨i0, hi, hz0, hz1, hz2⟩ := info_parts info_sysrow
  obtain ⟨j0, hj, _, _, _⟩ := info_parts numbersOf_any_info
  have HL := Lib.hid hl
  have HQ := Lib.hid hq
  clear hl hq
  go_enter Tryz.func51, Tryz.ntmps51
  go_wp2_with (at_make; refine wpList_make_full _ rfl (.tmp 9) (.tmp 9) 55 rfl w.heap.size 53 i0 _ 1 Tryz.underlying55 hi hz0 hz1 .i64 .i64 _ _ n rfl rfl rfl rfl (by rw [hz2]; omega) (by simp only [maxLen]; omega) (Nat.le_refl _) ?_; intro w1 hown hg)
  have F0 := FillS.start (m := m) hown hg
  clear hown hg hz0 hz1 hz2 hi
  go_loopw [13] (fun i wr => ∃ k : Nat, k ≤ n ∧ i = .int .i64 k ∧ FillS w n m k wr) (fun i _ => n - (intOf i).toNat)
  case atStart => exact ⟨0, Nat.zero_le _, rfl, F0⟩
  case round =>
    obtain ⟨k, hk, rfl, HF⟩ := hrel
    by_cases hlt : k < n
    · obtain ⟨r, hr⟩ := at_lt (show k < m.length by rw [HL.out]; exact hlt)
      have hrq := HQ.out.at_ hr
      obtain ⟨vs, hvs, hbel, hsz⟩ := id HF
      obtain ⟨b, o, Ak, ck, rfl, _, hc, hlc, hcm, hrow⟩ := h.below hbel hB k r hr
      have hrl : r.length ≤ 1048576 := by omega
      have HF' := Lib.hid HF
      have HR := Lib.hid hr
      have hBs := hbel.size
      have k0 : (0 : Int) ≤ (k : Int) := Int.natCast_nonneg _
      have k1 : (k : Int) < (n : Int) := by omega
      clear hr F0 HF hvs hbel hrq
      go_wp2_with fail
      refine (numbersOf_any Ak r.length ck B r _ rfl hrl (by omega) hrow).mono ?_
      rintro e w2 ⟨A2, c2, rfl, own2, be2⟩
      obtain ⟨⟨u, hu⟩, hf⟩ := HF'.out.cell HL.out hlt be2
      have hcap2 := (own_cap own2).1
      have G := Lib.hid (HF'.out.step HL.out HR.out own2 be2)
      clear own2
      go_wp2_with (at_builtin; refine wpList_append_none _ rfl (.tmp 21) (.tmp 22) 53 3 rfl 68 j0 Tryz.underlying53 Tryz.underlying3 hj A2 r.length c2 hcap2 rfl rfl ?_)
      go_roundw
      case rel => exact ⟨k + 1, by omega, by go_num, G.out⟩
      case measure => simp [intOf]; omega
    · obtain rfl : k = n := by omega
      have G := Lib.hid (HF.done HL.out)
      clear HF F0
      go_wp2
      go_ret
      exact G.out
end Go.Proofs.YtpngohklicgbjaaGreat
/-
  The program's copy of a tableau.
-/
namespace Go.Proofs.YtpngohklicgbjaaGreat
open Go.RowKit Fld
set_option linter.unusedVariables false
set_option linter.unusedSimpArgs false
set_option maxRecDepth 100000

theorem cell_othT {w : World} {b g k : Nat} {o : Nat} {v x : Value} (h : w.cell? ⟨b, o, none⟩ = some x) (hne : b ≠ g) : (w.setCell ⟨g, k, none⟩ v).cell? ⟨b, o, none⟩ = some x :=
  (World.cell?_of_block (heap_setCell_other w ⟨g, k, none⟩ b v hne)).trans h
/-- a new scheme: rows and numbers that can be read -/
def NewSch (n n' : Nat) (m : List (List Int)) (b : List Int) (w : World) (e : Ending) (w' : World) : Prop :=
  ∃ A c D d, e = .returned (.agg #[.slice A n c, .slice D n' d]) ∧ n ≤ c ∧ n' ≤ d ∧ Mat w' w'.heap.size A m ∧ Row w' w'.heap.size D (ints b) ∧ Below w.heap.size w w'
theorem info_sch : (Tryz.prog.info? 57).map (·.size) = some 2 := by kernel_rfl
set_option maxHeartbeats 2000000 in
theorem schemeOf_any (A D : Option Addr) (n c n' d B B' q : Nat) (m : List (List Int)) (b : List Int) (w : World) (hl : m.length = n) (hl' : b.length = n') (hn : n ≤ 8) (hq : Wide m q) (hq16 : q ≤ 16) (hn' : n' ≤ 1048576) (hB : B ≤ w.heap.size) (hB' : B' ≤ w.heap.size) (h : Mat w B A m) (r : Row w B' D (ints b)) :
    Calls Tryz.prog 28 #[.agg #[.slice A n c, .slice D n' d]] w (NewSch n n' m b w) := by
  have HL := Lib.hid hl
  have HL' := Lib.hid hl'
  have HQ := Lib.hid hq
  obtain ⟨W0, hW0⟩ : ∃ W0, W0 = (w.alloc (.cells #[.slice A n c, .slice D n' d] 27)).alloc (.cells #[.slice none 0 0, .slice none 0 0] 57) := ⟨_, rfl⟩
  have FB : Below w.heap.size w W0 := by rw [hW0]; exact ((Below.refl _ _).alloc (Nat.le_refl _) _).alloc (by simp) _
  have FS : W0.heap.size = w.heap.size + 2 := by rw [hW0]; simp
  have F0 : Bx W0 w.heap.size 27 (.slice A n c) (.slice D n' d) := by
    rw [hW0]; exact (Bx.new w _ _ _).next ((Below.refl _ _).alloc (Nat.le_refl _) _)
  have F1 : Bx W0 (w.heap.size + 1) 57 (.slice none 0 0) (.slice none 0 0) := by
    rw [hW0]; have := Bx.new (w.alloc (.cells #[.slice A n c, .slice D n' d] 27)) 57 (.slice none 0 0) (.slice none 0 0); simpa using this
  have HM := Lib.hid (h.below FB hB)
  have HR := Lib.hid (r.below FB hB')
  have T1 := fun W (hW : Below W0.heap.size W0 W) => systemOf_any A n c B q m W HL.out hn HQ.out hq16 (by have := hW.size; have := FB.size; omega) (HM.out.below hW (by have := FB.size; omega))
  have T2 := fun W (hW : Below W0.heap.size W0 W) => numbersOf_any D n' d B' b W HL'.out hn' (by have := hW.size; have := FB.size; omega) (HR.out.below hW (by have := FB.size; omega))
  have HK : Hid (∀ W, Below W0.heap.size W0 W → W.cell? ⟨w.heap.size, 0, none⟩ = some (.slice A n c) ∧ W.cell? ⟨w.heap.size, 1, none⟩ = some (.slice D n' d)) := fun W hb => ⟨(F0.next hb).c0, (F0.next hb).c1⟩
  have H2 : Hid (∀ W, Below W0.heap.size W0 W → Bx W (w.heap.size + 1) 57 (.slice none 0 0) (.slice none 0 0)) := fun W hb => F1.next hb
  have HB := Lib.hid FB
  have HS := Lib.hid FS
  clear F0 F1 FB FS hl hl' hq h r hB hB'
  go_enter Tryz.func28, Tryz.ntmps28
  go_wp2_with fail
  change Code.wp _ _ _ _ ((w.alloc (.cells #[.slice A n c, .slice D n' d] 27)).alloc (.cells #[.slice none 0 0, .slice none 0 0] 57))
  rw [← hW0]
  clear hW0
  go_region_held3 (fun W => W.cell? ⟨w.heap.size, 0, none⟩ = some (.slice A n c) ∧ W.cell? ⟨w.heap.size, 1, none⟩ = some (.slice D n' d))
    (first | exact HK.out _ (Below.refl _ _).drew | exact HK.out _ (below_drewN (Below.refl _ _) _) | exact HK.out _ (below_undrawn (a := 1) bel2) | exact HK.out w3 ((below_undrawn (a := 1) bel2).trans (bel3.mono bel2.size)) | (have hz := HK.out w3 ((below_undrawn (a := 1) bel2).trans (bel3.mono bel2.size)); exact ⟨cell_othT (cell_othT hz.1 (by omega)) (by omega), cell_othT (cell_othT hz.2 (by omega)) (by omega)⟩))
    (first
      | (go_at_call 51; refine (T1 _ (by first | exact (Below.refl _ _).drew | exact below_drewN (Below.refl _ _) _)).mono ?_; clear T1; rintro e w2 ⟨A2, c2, vs2, rfl, own2, bel2⟩)
      | (go_at_call 37; refine (T2 _ (by exact below_undrawn (a := 1) bel2)).mono ?_; clear T2; rintro e w3 ⟨A3, c3, rfl, own3, bel3⟩)
      | (have hz := H2.out w3 ((below_undrawn (a := 1) bel2).trans (bel3.mono bel2.size)); have z0 := hz.c0; have z1 := hz.c1; have f0 := hz.free 0; have f1 := hz.free 1; clear hz; go_simp))
  have hb3 : Below W0.heap.size W0 w3 := (below_undrawn (a := 1) bel2).trans (bel3.mono bel2.size)
  have hz2 : W0.heap.size ≤ w2.heap.size := bel2.size
  have hz3 := bel3.size
  have R : Bx ((w3.setCell ⟨w.heap.size + 1, 0, none⟩ (.slice A2 n c2)).setCell ⟨w.heap.size + 1, 1, none⟩ (.slice A3 n' c3)) (w.heap.size + 1) 57 (.slice A2 n c2) (.slice A3 n' c3) := (H2.out w3 hb3).stored _ _
  have hk : ∀ g, W0.heap.size ≤ g → ((w3.setCell ⟨w.heap.size + 1, 0, none⟩ (.slice A2 n c2)).setCell ⟨w.heap.size + 1, 1, none⟩ (.slice A3 n' c3)).heap[g]? = w3.heap[g]? := fun g hg => by
    rw [Below.heap_setCell _ _ _ _ (by show g ≠ w.heap.size + 1; have := HS.out; omega), Below.heap_setCell _ _ _ _ (by show g ≠ w.heap.size + 1; have := HS.out; omega)]
  have hsz : ((w3.setCell ⟨w.heap.size + 1, 0, none⟩ (.slice A2 n c2)).setCell ⟨w.heap.size + 1, 1, none⟩ (.slice A3 n' c3)).heap.size = w3.heap.size := by simp [World.setCell]
  have GB : Hid (Below w.heap.size w ((w3.setCell ⟨w.heap.size + 1, 0, none⟩ (.slice A2 n c2)).setCell ⟨w.heap.size + 1, 1, none⟩ (.slice A3 n' c3))) := by
    have h0 : Below w.heap.size w w3 := HB.out.trans (hb3.mono HB.out.size)
    exact below_set (below_set h0 (by omega) _) (by omega) _
  have GM := Lib.hid (((own2.below bel3 (Nat.le_refl _)).keep (fun g h1 h2 => hk g h1)).mat.more (B' := ((w3.setCell ⟨w.heap.size + 1, 0, none⟩ (.slice A2 n c2)).setCell ⟨w.heap.size + 1, 1, none⟩ (.slice A3 n' c3)).heap.size) (by rw [hsz]; exact hz3))
  have GR := Lib.hid (((OwnR.of own3).keep (fun g h1 h2 => hk g (by omega))).row.more (B' := ((w3.setCell ⟨w.heap.size + 1, 0, none⟩ (.slice A2 n c2)).setCell ⟨w.heap.size + 1, 1, none⟩ (.slice A3 n' c3)).heap.size) (by rw [hsz]; exact Nat.le_refl _))
  have hc2 : n ≤ c2 := by
    rcases own2.outer.1.2 with ⟨e1, e2⟩ | ⟨g, cap, cur, e1, _, _, e2, e3, _⟩
    · injection e1 with _ _ e3; subst e3; omega
    · injection e1 with _ _ e4; subst e4; exact e2
  have hc3 := (own_cap own3).1
  have HR2 := Lib.hid R
  clear R own2 own3 bel2 bel3 hb3 hk hsz hz2 hz3
  go_wp2
  refine bodyPost_ret (v := .agg #[.slice A2 n c2, .slice A3 n' c3]) ?_ rfl ⟨A2, c2, A3, c3, rfl, hc2, hc3, GM.out, GR.out, GB.out⟩
  exact results_cell_row rfl _ _ (w.heap.size + 1) 57 _ (0, 0) _ rfl HR2.out Tryz.underlying57 rfl info_sch
end Go.Proofs.YtpngohklicgbjaaGreat
/-
  slices.Repeat of the list with one 1.
-/
namespace Go.Proofs.YtpngohklicgbjaaGreat
open Go.RowKit Fld
set_option linter.unusedVariables false
set_option linter.unusedSimpArgs false
set_option maxRecDepth 100000

set_option maxHeartbeats 1000000 in
theorem mul64_one (n : Nat) (hn : n ≤ 8) (w : World) : Calls Tryz.prog 125 #[.int .u64 1, .int .u64 (n : Int)] w fun e w' => e = .returned (.tuple #[.int .u64 0, .int .u64 (n : Int)]) ∧ w = w' := by
  have : n = 0 ∨ n = 1 ∨ n = 2 ∨ n = 3 ∨ n = 4 ∨ n = 5 ∨ n = 6 ∨ n = 7 ∨ n = 8 := by omega
  rcases this with rfl | rfl | rfl | rfl | rfl | rfl | rfl | rfl | rfl
  all_goals
    go_enter Tryz.func125, Tryz.ntmps125
    go_wp2
    go_ret2
    exact ⟨rfl, rfl⟩
set_option maxHeartbeats 1000000 in
theorem bitsMul_one (n : Nat) (hn : n ≤ 8) (w : World) : Calls Tryz.prog 105 #[.int .u64 1, .int .u64 (n : Int)] w fun e w' => e = .returned (.tuple #[.int .u64 0, .int .u64 (n : Int)]) ∧ w = w' := by
  go_enter Tryz.func105, Tryz.ntmps105
  go_wp2_with fail
  refine (mul64_one n hn w).mono ?_
  rintro e w' ⟨rfl, rfl⟩
  go_wp2
  go_ret2
  exact ⟨rfl, rfl⟩
def onesK (n k : Nat) : List Value := ints (List.replicate k 1) ++ ints (List.replicate (n - k) 0)
theorem onesK_len {n k : Nat} (h : k ≤ n) : (onesK n k).length = n := by simp [onesK, ints, intsK]; omega
theorem onesK_at {n k j : Nat} (h : j < k) : (onesK n k)[j]? = some (.int .i64 1) := by
  unfold onesK ints intsK
  rw [List.getElem?_append_left (by simp; omega)]
  simp [h]
theorem onesK_all (n : Nat) : onesK n n = ints (List.replicate n 1) := by simp [onesK, ints, intsK]
theorem onesK_put {n k d : Nat} (h : k + d ≤ n) : (onesK n k).take k ++ (ints (List.replicate d 1) ++ (onesK n k).drop (k + d)) = onesK n (k + d) := by
  unfold onesK ints intsK
  rw [List.take_left' (by simp), List.drop_append, List.length_map, List.length_replicate, show k + d - k = d by omega, List.drop_of_length_le (by simp), List.nil_append, ← List.map_drop, List.drop_replicate, show n - k - d = n - (k + d) by omega, ← List.append_assoc, ← List.map_append, List.replicate_append_replicate]
theorem step_copy_row {P : Program} {ops : Array Oper} {o : Oper} {a : Act} {w : World} {K : Act → World → Prop} {Q : Exit → Act → World → Prop} {E : Prop}
    (hg : o.guard = none) (d s : Operand) (dT sT : TypeId) (ho : o.op = .call { callee := .builtin .copy, args := #[d, s], argTypes := #[dT, sT] }) (elem : TypeId) (hu : P.underlying dT = some (.slice elem)) (hsz : (P.info? elem).map (·.size) = some 1)
    (g off dLen dCap : Nat) (ad : Addr) (sLen sCap : Nat) (hd : a.eval d = .slice (some ⟨g, off, none⟩) dLen dCap) (hs : a.eval s = .slice (some ad) sLen sCap)
    (cur : Array Value) (t : TypeId) (hgc : w.heap[g]? = some (.cells cur t (0, 0))) (cs : List Value) (hn : cs.length = Nat.min sLen dLen)
    (hsrc : ∀ j v, cs[j]? = some v → w.cell? (ad.add j) = some v) (hfit : off + cs.length ≤ cur.size) (h1 : ∀ v ∈ cs, v.oneCell' = true)
    (hK : K (a.put o.dst (goInt cs.length)) (w.setRow g (cur.toList.take off ++ (cs ++ cur.toList.drop (off + cs.length))).toArray)) : if Region.wanted o (yielded ops a.tmps) = true then Oper.wp P o a w K Q else E := by
  have hw : Region.wanted o (yielded ops a.tmps) = true := by simp [Region.wanted, hg]
  rw [if_pos hw]
  have hrun := run_copy_row (P := P) w dT sT o.type elem g off dLen dCap ad sLen sCap cur t cs hu hsz hgc hn hsrc hfit h1
  unfold Oper.wp
  simp [execOp, ho, resolve, invoke, builtin, hd, hs, hrun, Result.andThen]
  exact hK
theorem info_numR : (Tryz.prog.info? 68).map (fun i => (i.zero, i.size, i.bytes)) = some (some (.int .i64 0), 1, 8) := by kernel_rfl
theorem info_numS : (Tryz.prog.info? 68).map (·.size) = some 1 := by kernel_rfl
set_option maxHeartbeats 2000000 in
theorem repeat_any (A : Option Addr) (c B n : Nat) (w : World) (hn1 : 1 ≤ n) (hn : n ≤ 8) (hB : B ≤ w.heap.size) (h : Row w B A (ints [1])) :
    Calls Tryz.prog 83 #[.slice A 1 c, .int .i64 (n : Int)] w (NewRow 68 n (ints (List.replicate n 1)) w) := by
  obtain ⟨i0, hi, hz0, hz1, hz2⟩ := info_parts info_numR
  obtain ⟨ba, oa, rfl, hba, hca⟩ := h 0 _ rfl
  rw [Nat.add_zero] at hca
  have t0 : ¬ ((n : Int) < 0) := by omega
  go_enter Tryz.func83, Tryz.ntmps83
  go_wp2_with (first | (go_at_call 105; refine (bitsMul_one n hn w).mono ?_; rintro e w' ⟨rfl, rfl⟩) | (at_make; refine wpList_make_full _ rfl (.tmp 29) (.tmp 29) 53 rfl w.heap.size 68 i0 _ 1 Tryz.underlying53 hi hz0 hz1 .i64 .i64 _ _ n rfl rfl rfl rfl (by rw [hz2]; omega) (by simp only [maxLen]; omega) (Nat.le_refl _) ?_; intro w1 hown hg))
  have hz : w.heap.size < w1.heap.size := (hown.lt w.heap.size rfl).2
  have hB1 : Below w.heap.size w w1 := (Below.refl _ _).grown hg (Nat.le_refl _) (fun k hk => by cases hk)
  obtain ⟨cur, hcur, hcs, hct⟩ : ∃ cur : Array Value, w1.heap[w.heap.size]? = some (.cells cur 68 (0, 0)) ∧ cur.size = n ∧ cur.toList = List.replicate n (.int .i64 0) := by
    rcases hown.2 with ⟨e, _⟩ | ⟨g, cap, cur, e, _, h2, _, _, h3, h4⟩
    · cases e
    · injection e with e1 _ e3
      injection e1 with e1
      injection e1 with e1
      subst e1 e3
      refine ⟨cur, h2, by omega, ?_⟩
      rw [List.take_of_length_le (by rw [Array.length_toList]; omega), Nat.mul_one] at h4
      rw [h4]; exact toList_madeCells_one _ _
  have hca1 : w1.cell? ⟨ba, oa, none⟩ = some (.int .i64 1) := (hB1.cell (p := ⟨ba, oa, none⟩) (by show ba < _; omega)).trans hca
  have HB1 := Lib.hid hB1
  have HCT := Lib.hid hct
  clear hown hg hz0 hz1 hz2 hi hB1 hct
  have hmin : (1 : Nat) = Nat.min 1 n := (Nat.min_eq_left hn1).symm
  have hsrc : ∀ j v, [Value.int .i64 1][j]? = some v → w1.cell? ((⟨ba, oa, none⟩ : Addr).add j) = some v := fun j v hv => by rcases j with _ | j; (· simp at hv; subst hv; simpa [Addr.add] using hca1); (· simp at hv)
  have hfit : 0 + [Value.int .i64 1].length ≤ cur.size := by simp; omega
  have hone : ∀ v ∈ [Value.int .i64 1], v.oneCell' = true := by simp [Value.oneCell']
  have hrun := run_copy_row (P := Tryz.prog) w1 53 53 3 68 w.heap.size 0 n n ⟨ba, oa, none⟩ 1 c cur 68 [.int .i64 1] Tryz.underlying53 info_numS hcur hmin hsrc hfit hone
  go_wp2_with fail
  rw [hrun]
  obtain ⟨W2, hW2⟩ : ∃ W2, W2 = w1.setRow w.heap.size (List.take 0 cur.toList ++ [Value.int .i64 1] ++ List.drop (0 + [Value.int .i64 1].length) cur.toList).toArray := ⟨_, rfl⟩
  have hg2 : Hid (W2.heap[w.heap.size]? = some (.cells (onesK n 1).toArray 68 (0, 0))) := by
    have e : List.take 0 cur.toList ++ [Value.int .i64 1] ++ List.drop (0 + [Value.int .i64 1].length) cur.toList = onesK n 1 := by
      rw [HCT.out]; simp [onesK, ints, intsK]
    rw [hW2, e]; exact setRow_heap _ _ _ _ _ _ hcur
  have hB2 : Hid (Below w.heap.size w W2) := by rw [hW2]; exact below_setRow HB1.out (Nat.le_refl _) _
  have hone1 : goInt ([Value.int .i64 1].length : Nat) = .int .i64 1 := rfl
  rw [← hW2, hone1]
  clear hW2 hrun hsrc hfit hone hmin hca1 hca hcur hcs HCT HB1 hone1
  go_wp2_with fail
  go_loopw [8] (fun i wr => ∃ k : Nat, 1 ≤ k ∧ k ≤ n ∧ i = .int .i64 k ∧ Hid (wr.heap[w.heap.size]? = some (.cells (onesK n k).toArray 68 (0, 0))) ∧ Hid (Below w.heap.size w wr)) (fun i _ => n - (intOf i).toNat)
  case atStart => exact ⟨1, Nat.le_refl _, hn1, rfl, hg2, hB2⟩
  case round =>
    obtain ⟨k, hk1, hk, rfl, HG, HBr⟩ := hrel
    by_cases hlt : k < n
    · obtain ⟨d, hd⟩ : ∃ d, d = Nat.min k (n - k) := ⟨_, rfl⟩
      have hd1 : 1 ≤ d ∧ k + d ≤ n := by
        have h1 : d ≤ k := by rw [hd]; exact Nat.min_le_left _ _
        have h2 : d ≤ n - k := by rw [hd]; exact Nat.min_le_right _ _
        have h3 : d = k ∨ d = n - k := by rw [hd]; exact Nat.le_total k (n - k) |>.elim (fun h => .inl (Nat.min_eq_left h)) (fun h => .inr (Nat.min_eq_right h))
        omega
      have hcl : (ints (List.replicate d 1)).length = Nat.min k (n - k) := by rw [← hd]; simp [ints, intsK]
      have hcl2 : (ints (List.replicate d 1)).length = d := by simp [ints, intsK]
      have hGd : wr.drew.heap[w.heap.size]? = some (.cells (onesK n k).toArray 68 (0, 0)) := HG.out
      have hsrc : ∀ j v, (ints (List.replicate d 1))[j]? = some v → wr.drew.cell? ((⟨w.heap.size, 0, none⟩ : Addr).add j) = some v := fun j v hv => by
        have hj : j < d := by have := (List.getElem?_eq_some_iff.1 hv).1; rw [hcl2] at this; exact this
        have hv1 : v = .int .i64 1 := by
          have := ints_at (xs := List.replicate d 1) (k := j) (x := 1) (by simp [hj]); rw [this] at hv; exact (Option.some.inj hv).symm
        have hjk : j < k := by have h1 : Nat.min k (n - k) ≤ k := Nat.min_le_left _ _; rw [← hd] at h1; omega
        have e : (⟨w.heap.size, 0, none⟩ : Addr).add j = ⟨w.heap.size, 0 + j, none⟩ := by rcases j with _ | j <;> simp [Addr.add]
        rw [e, Nat.zero_add, cell_of_row wr.drew _ j _ _ _ hGd, hv1]
        rw [List.getElem?_toArray, onesK_at hjk]
      have hfit : k + (ints (List.replicate d 1)).length ≤ (onesK n k).toArray.size := by rw [hcl2, List.size_toArray, onesK_len hk]; exact hd1.2
      have hone : ∀ v ∈ ints (List.replicate d 1), v.oneCell' = true := ints_cells _
      have hput : (onesK n k).toArray.toList.take k ++ (ints (List.replicate d 1) ++ (onesK n k).toArray.toList.drop (k + (ints (List.replicate d 1)).length)) = onesK n (k + d) := by rw [hcl2]; exact onesK_put hd1.2
      have HP := Lib.hid hput
      have HCL := Lib.hid hcl2
      have hwk : IntKind.i64.wrap ((k : Int) + (d : Int)) = (k : Int) + (d : Int) := IntWalk.i64_in _ (by omega)
      have HD := Lib.hid hd
      have hnk : ¬ n = k := by omega
      have HMIN := Lib.hid hcl
      clear hd hput hcl2 hcl
      go_wp2_with fail
      go_region_law (go_loud (refine step_copy_row (by rfl) (.tmp 41) (.tmp 44) 53 53 (by rfl) 68 Tryz.underlying53 info_numS w.heap.size k (n - k) (n - k) ⟨w.heap.size, 0, none⟩ k n (by simp [Act.eval, Act.put, hnk]) (by simp [Act.eval, Act.put]) (onesK n k).toArray 68 hGd (ints (List.replicate d 1)) (by exact HMIN.out) hsrc hfit hone ?_); rw [HP.out, HCL.out])
      obtain ⟨W3, hW3⟩ : ∃ W3, W3 = wr.drew.setRow w.heap.size (onesK n (k + d)).toArray := ⟨_, rfl⟩
      have hg3 : Hid (W3.heap[w.heap.size]? = some (.cells (onesK n (k + d)).toArray 68 (0, 0))) := by rw [hW3]; exact setRow_heap _ _ _ _ _ _ hGd
      have hB3 : Hid (Below w.heap.size w W3) := by rw [hW3]; exact below_setRow HBr.out.drew (Nat.le_refl _) _
      rw [← hW3]
      clear hW3 hGd hsrc hfit hone HG HBr HP HCL HMIN HD
      simp only [Act.put, List.setIfInBounds_toArray, List.set_cons_succ, List.set_cons_zero, List.getElem_toArray, List.getElem_cons_zero, List.getElem_cons_succ]
      go_wp2
      go_roundw
      case rel => exact ⟨k + d, by omega, by omega, by go_num, hg3, hB3⟩
      case measure => simp [intOf]; omega
    · obtain rfl : k = n := by omega
      have GO : Hid (NewRow 68 k (ints (List.replicate k 1)) w (.returned (.slice (some ⟨w.heap.size, 0, none⟩) k k)) wr) := by
        refine ⟨_, _, rfl, ⟨by simp [ints, intsK], .inr ⟨w.heap.size, k, _, rfl, Nat.le_refl _, HG.out, Nat.le_refl _, by simp only [maxLen]; omega, by rw [List.size_toArray, onesK_len (Nat.le_refl _), Nat.mul_one], ?_⟩⟩, HBr.out⟩
        rw [onesK_all, Nat.mul_one, List.take_of_length_le (by simp [ints, intsK])]
      go_wp2
      go_ret
      exact GO.out
end Go.Proofs.YtpngohklicgbjaaGreat
/-
  The nodes of a tableau: the program's and the model's.
-/
namespace Go.Proofs.YtpngohklicgbjaaGreat
open Go.RowKit Fld
set_option linter.unusedVariables false
set_option linter.unusedSimpArgs false
set_option maxRecDepth 100000

/-- the products of the rows with a list -/
def appL (m : List (List Int)) (v : List Int) : List Int := m.map fun r => dotK r v v.length
theorem appL_length (m : List (List Int)) (v : List Int) : (appL m v).length = m.length := by simp [appL]
theorem appL_at {m : List (List Int)} {v r : List Int} {k n : Nat} (h : m[k]? = some r) (hv : v.length = n) : (appL m v)[k]? = some (dotK r v n) := by
  unfold appL; rw [List.getElem?_map, h, ← hv]; rfl
theorem appL_num (m : List (List Int)) (v : List Int) : allNum (appL m v) = true := by
  rw [allNum_iff]
  intro x hx
  unfold appL at hx
  obtain ⟨r, _, rfl⟩ := List.mem_map.1 hx
  exact dotK_bd r v _
theorem Filling.drewN {w wr : World} {T : TypeId} {n k : Nat} {xs : List Int} (h : Filling w T n xs k wr) (j : Nat) : Filling w T n xs k (wr.drewN j) := ⟨h.1, below_drewN h.2 j⟩
theorem info_appN : (Tryz.prog.info? 68).map (fun i => (i.zero, i.size, i.bytes)) = some (some (.int .i64 0), 1, 8) := by kernel_rfl
set_option maxHeartbeats 1000000 in
theorem applied_any (A D A2 : Option Addr) (n c n' d c2 B B2 : Nat) (m : List (List Int)) (v : List Int) (w : World) (hl : m.length = n) (hn : n ≤ 8) (hq : Wide m n) (hnum : ∀ r ∈ m, allNum r = true) (hv : v.length = n) (hvn : allNum v = true) (hB : B ≤ w.heap.size) (hB2 : B2 ≤ w.heap.size) (h : Mat w B A m) (h2 : Row w B2 A2 (ints v)) :
    Calls Tryz.prog 53 #[.agg #[.slice A n c, .slice D n' d], .slice A2 n c2] w (NewRow 68 n (ints (appL m v)) w) := by
  obtain ⟨i0, hi, hz0, hz1, hz2⟩ := info_parts info_appN
  have HL := Lib.hid hl
  have HQ := Lib.hid hq
  have HN := Lib.hid hnum
  have HV := Lib.hid hv
  have HVN := Lib.hid hvn
  have HAL : Hid ((appL m v).length = n) := (appL_length m v).trans hl
  obtain ⟨W0, hW0⟩ : ∃ W0, W0 = w.alloc (.cells #[.slice A n c, .slice D n' d] 57) := ⟨_, rfl⟩
  have HB : Hid (Below w.heap.size w W0) := by rw [hW0]; exact (Below.refl _ _).alloc (Nat.le_refl _) _
  have HX : Bx W0 w.heap.size 57 (.slice A n c) (.slice D n' d) := by rw [hW0]; exact Bx.new _ _ _ _
  have hz := HB.out.size
  have HM := Lib.hid (h.below HB.out hB)
  have HR2 := Lib.hid (h2.below HB.out hB2)
  have HXX := Lib.hid HX
  have q0 := HX.c0
  clear hl hq hnum hv hvn h h2 HX
  go_enter Tryz.func53, Tryz.ntmps53
  go_wp2_with (at_make; rw [← hW0]; clear hW0; refine wpList_make_full _ rfl (.tmp 10) (.tmp 10) 53 rfl W0.heap.size 68 i0 _ 1 Tryz.underlying53 hi hz0 hz1 .i64 .i64 _ _ n rfl rfl rfl rfl (by rw [hz2]; omega) (by simp only [maxLen]; omega) (Nat.le_refl _) ?_; intro w1 hown hg; have q1 := (HXX.out.next ((Below.refl _ _).grown hg (Nat.le_refl _) (fun k hk => by cases hk))).c0)
  have F0 := Filling.start (xs := appL m v) hown hg
  clear hown hg hz0 hz1 hz2 hi q0 q1
  go_loopw [15] (fun i wr => ∃ k : Nat, k ≤ n ∧ i = .int .i64 k ∧ Filling W0 68 n (appL m v) k wr) (fun i _ => n - (intOf i).toNat)
  case atStart => exact ⟨0, Nat.zero_le _, rfl, F0⟩
  case round =>
    obtain ⟨k, hk, rfl, HF⟩ := hrel
    by_cases hlt : k < n
    · obtain ⟨r, hr⟩ := at_lt (show k < m.length by rw [HL.out]; exact hlt)
      have hrq := HQ.out.at_ hr
      have hrn := HN.out r (List.mem_of_getElem? hr)
      obtain ⟨b, o, Ak, ck, rfl, _, hc, _, _, hrow⟩ := HM.out.below HF.2 (by omega) k r hr
      have hzr := HF.2.size
      have hf := HF.1.frozenAt k
      have ho := fill_at' HF HAL.out hlt
      rw [hrq] at hc
      have hf' : ∀ j, (wr.drewN j).frozen? ⟨W0.heap.size, k, none⟩ = false := fun j => hf
      have ho' : ∀ j, (wr.drewN j).cell? ⟨W0.heap.size, k, none⟩ = some (.int .i64 0) := fun j => ho
      have HDT := dotOf_any Ak A2 n ck c2 B B2 r v wr hrq HV.out (by omega) hrow (HR2.out.below HF.2 (by omega)) hrn HVN.out
      have G := fun j => Lib.hid ((HF.drewN j).step HAL.out (appL_at hr HV.out))
      clear hr hrq hrn F0 HF hrow
      go_wp2_with fail
      refine HDT.mono ?_
      rintro e w2 ⟨rfl, j, rfl⟩
      have G1 := G j
      have z1 := hf' j
      have z2 := ho' j
      clear HDT G hf' ho' hf ho
      go_wp2
      go_roundw
      case rel => exact ⟨k + 1, by omega, by go_num, G1.out⟩
      case measure => simp [intOf]; omega
    · obtain rfl : k = n := by omega
      have G := Lib.hid ((HF.done HAL.out).after HB.out)
      clear HF F0
      go_wp2
      go_ret
      exact G.out
set_option maxHeartbeats 1000000 in
theorem ones_any (A D : Option Addr) (n c n' d : Nat) (w : World) (hn1 : 1 ≤ n') (hn : n' ≤ 8) :
    Calls Tryz.prog 52 #[.agg #[.slice A n c, .slice D n' d]] w (NewRow 68 n' (ints (List.replicate n' 1)) w) := by
  have HB : Hid (Below w.heap.size w (w.alloc (.cells #[.slice A n c, .slice D n' d] 57))) := (Below.refl _ _).alloc (Nat.le_refl _) _
  have HB2 : Hid (Below w.heap.size w ((w.alloc (.cells #[.slice A n c, .slice D n' d] 57)).alloc (.cells #[.int .i64 1] 68))) := HB.out.alloc HB.out.size _
  go_enter Tryz.func52, Tryz.ntmps52
  go_wp2_with fail
  refine (repeat_any _ _ _ n' _ hn1 hn (Nat.le_refl _) (show Row _ _ _ [Value.int .i64 1] from by have := Row.new (w.alloc (.cells #[.slice A n c, .slice D n' d] 57)) 68 [Value.int .i64 1]; simpa using this)).mono ?_
  rintro e w3 ⟨A3, c3, rfl, own3, b3⟩
  have G : Hid (NewRow 68 n' (ints (List.replicate n' 1)) w (.returned (.slice A3 n' c3)) w3) := NewRow.after HB2.out ⟨A3, c3, rfl, own3, b3⟩
  clear own3 b3
  go_wp2
  go_ret
  exact G.out
theorem Growing.drewN {w wr : World} {T : TypeId} {g j cap : Nat} {vs : List Value} (h : Growing w T g j cap vs wr) (i : Nat) : Growing w T g j cap vs (wr.drewN i) := ⟨h.1, below_drewN h.2 i⟩
theorem grow_ones (j : Nat) : ints (List.replicate j 1) ++ [.int .i64 1] = ints (List.replicate (j + 1) 1) := by
  simp [ints, intsK, List.replicate_succ']
set_option maxHeartbeats 1000000 in
theorem l09Ones_any (n : Nat) (w : World) (hn : n ≤ 8) : Calls Tryz.prog 57 #[.int .i64 (n : Int)] w (NewRow 2 n (ints (List.replicate n 1)) w) := by
  obtain ⟨i0, hi, hz0, hz1, hz2⟩ := info_parts info_i64
  go_enter Tryz.func57, Tryz.ntmps57
  go_wp2_with fail
  go_loopw [0, 3] (fun i v wr => ∃ j g cap : Nat, j ≤ n ∧ v = .slice (some ⟨g, 0, none⟩) j cap ∧ i = .int .i64 ((n : Int) - j) ∧ Growing w 2 g j cap (ints (List.replicate j 1)) wr) (fun i _ _ => (intOf i).toNat)
  case atStart => exact ⟨0, _, 0, Nat.zero_le _, rfl, by simp, Growing.start ..⟩
  case round =>
    obtain ⟨j, g, cap, hj, rfl, rfl, HF⟩ := hrel
    by_cases hlt : j < n
    · have HF' := Lib.hid HF
      have hown := HF.1
      have hpos : (0 : Int) < (n : Int) - j := by omega
      have hwr : IntKind.i64.wrap ((n : Int) - j - 1) = (n : Int) - j - 1 := IntWalk.i64_in _ (by omega)
      have HC := Lib.hid (grow_ones j)
      clear HF
      go_wp2_with (at_builtin; refine wpList_append_lies _ rfl (.tmp 9) (.tmp 10) 25 rfl w.heap.size 2 i0 _ 1 8 Tryz.underlying25 hi hz0 hz1 hz2 rfl (by omega) (.slice (some ⟨g, 0, none⟩) j cap) j (ints (List.replicate j 1)) rfl (hown.alloc _) ⟨wr.heap.size, 0, none⟩ 1 1 [.int .i64 1] rfl rfl (World.news_of_block (cs := #[.int .i64 1]) (heap_alloc_new _ _)) (by simp [Value.oneCell']) (by omega) (by simp only [maxLen]; omega) (by omega) (by simp; have := HF'.out.2.size; omega) (wr.heap.size + 1) (by simp) ?_; intro g2 cap2 w2 hown2 hgrow2 hat2 hlt2)
      rw [HC.out] at hown2
      have G := Lib.hid (HF'.out.step ((Below.refl _ _).alloc (Nat.le_refl _) _) hown2 hgrow2)
      clear hown2 hgrow2 hat2 hown
      go_wp2
      go_roundw
      case rel => exact ⟨j + 1, _, _, by omega, rfl, by push_cast; congr 1; omega, G.out⟩
      case measure => simp [intOf]; omega
    · obtain rfl : j = n := by omega
      have G := Lib.hid HF.done
      have hpos : ¬ (0 : Int) < (j : Int) - j := by omega
      clear HF
      go_wp2
      go_ret
      exact G.out
set_option maxHeartbeats 1000000 in
theorem l09Times_any (A A2 : Option Addr) (n c c2 B B2 : Nat) (m : List (List Int)) (v : List Int) (w : World) (hl : m.length = n) (hn : n ≤ 8) (hq : Wide m n) (hnum : ∀ r ∈ m, allNum r = true) (hv : v.length = n) (hvn : allNum v = true) (hB : B ≤ w.heap.size) (hB2 : B2 ≤ w.heap.size) (h : Mat w B A m) (h2 : Row w B2 A2 (ints v)) :
    Calls Tryz.prog 59 #[.slice A n c, .slice A2 n c2] w (NewRow 2 n (ints (appL m v)) w) := by
  obtain ⟨i0, hi, hz0, hz1, hz2⟩ := info_parts info_i64
  have HL := Lib.hid hl
  have HQ := Lib.hid hq
  have HN := Lib.hid hnum
  have HV := Lib.hid hv
  have HVN := Lib.hid hvn
  have HAL : Hid ((appL m v).length = n) := (appL_length m v).trans hl
  clear hl hq hnum hv hvn
  go_enter Tryz.func59, Tryz.ntmps59
  go_wp2_with fail
  go_loopw [5, 6] (fun u i wr => ∃ j g cap : Nat, j ≤ n ∧ u = .slice (some ⟨g, 0, none⟩) j cap ∧ i = .int .i64 j ∧ Growing w 2 g j cap (ints ((appL m v).take j)) wr) (fun _ i _ => n - (intOf i).toNat)
  case atStart => exact ⟨0, _, 0, Nat.zero_le _, rfl, rfl, Growing.start ..⟩
  case round =>
    obtain ⟨j, g, cap, hj, rfl, rfl, HF⟩ := hrel
    by_cases hlt : j < n
    · obtain ⟨r, hr⟩ := at_lt (show j < m.length by rw [HL.out]; exact hlt)
      have hrq := HQ.out.at_ hr
      have hrn := HN.out r (List.mem_of_getElem? hr)
      obtain ⟨b, o, Ak, ck, rfl, _, hc, _, _, hrow⟩ := h.below HF.2 (by omega) j r hr
      rw [hrq] at hc
      have HDT := l01Dot_any Ak A2 n ck c2 B B2 r v wr hrq HV.out (by omega) hrow (h2.below HF.2 (by omega)) hrn HVN.out
      have HC := Lib.hid (grow_ints (appL_at hr HV.out))
      have HF' := Lib.hid HF
      have hzr := HF.2.size
      clear hr hrq hrn HF hrow
      go_wp2_with fail
      refine HDT.mono ?_
      rintro e w2 ⟨rfl, i, rfl⟩
      have hown := (HF'.out.drewN i).1
      obtain ⟨x, hx⟩ : ∃ x, x = dotK r v n := ⟨_, rfl⟩
      rw [← hx] at HC ⊢
      clear HDT hx
      go_wp2_with (at_builtin; refine wpList_append_lies _ rfl (.tmp 14) (.tmp 21) 25 rfl w.heap.size 2 i0 _ 1 8 Tryz.underlying25 hi hz0 hz1 hz2 rfl (by omega) (.slice (some ⟨g, 0, none⟩) j cap) j (ints ((appL m v).take j)) rfl (hown.alloc _) ⟨wr.heap.size, 0, none⟩ 1 1 [.int .i64 x] rfl rfl (World.news_of_block (cs := #[.int .i64 x]) (heap_alloc_new _ _)) (by simp [Value.oneCell']) (by omega) (by simp only [maxLen]; omega) (by omega) (by simp; omega) (wr.heap.size + 1) (by simp) ?_; intro g2 cap2 w2 hown2 hgrow2 hat2 hlt2)
      rw [HC.out] at hown2
      have G := Lib.hid ((HF'.out.drewN i).step ((Below.refl _ _).alloc (Nat.le_refl _) _) hown2 hgrow2)
      clear hown2 hgrow2 hat2 hown
      go_wp2
      go_roundw
      case rel => exact ⟨j + 1, _, _, by omega, rfl, by go_num, G.out⟩
      case measure => simp [intOf]; omega
    · obtain rfl : j = n := by omega
      have e : (appL m v).take j = appL m v := List.take_of_length_le (by rw [HAL.out]; omega)
      rw [e] at HF
      have G := Lib.hid HF.done
      clear HF
      go_wp2
      go_ret
      exact G.out
/-- what NodesOf answers -/
def nodesA (m : List (List Int)) (b : List Int) : List Int × Int := if isTabB m b = true then (appL m (List.replicate b.length 1), 0) else ([], 1)
theorem ones_num (n : Nat) : allNum (List.replicate n (1 : Int)) = true := by rw [allNum_iff]; intro x hx; have := (List.mem_replicate.1 hx).2; omega
end Go.Proofs.YtpngohklicgbjaaGreat
/-
  What holds at all level lists of the model's canonical lists, gone through.
-/
namespace Go.Proofs.YtpngohklicgbjaaGreat.Tr
set_option maxRecDepth 100000

def chk6 (t : List Int) : Bool := decide (can t = up (((partsL t).map can).foldl (fun s p => insD p s) [])) && (partsL t).all (fun p => isLv p && decide (p.length < t.length)) && decide ((partsL t).length ≤ 7)
theorem chk6_all : allLv.all chk6 = true := by decide +kernel
theorem can_parts {t : List Int} (h : isLv t = true) : can t = up (((partsL t).map can).foldl (fun s p => insD p s) []) ∧ (∀ p ∈ partsL t, isLv p = true ∧ p.length < t.length) ∧ (partsL t).length ≤ 7 := by
  have h1 := all_of chk6_all (isLv_iff.1 h)
  unfold chk6 at h1
  simp only [Bool.and_eq_true, decide_eq_true_eq, List.all_eq_true] at h1
  exact ⟨h1.1.1, h1.1.2, h1.2⟩
/-- put in at a place -/
theorem insD_at {part : List Int} : ∀ {S : List (List Int)} {k : Nat}, (∀ j s, j < k → S[j]? = some s → lessL s part = false) → (∀ s, S[k]? = some s → lessL s part = true) → k ≤ S.length → insD part S = S.take k ++ part :: S.drop k
  | [], k, _, _, h => by
    have : k = 0 := by simpa using h
    subst this; rfl
  | s :: r, 0, _, h2, _ => by
    have := h2 s rfl
    rw [insD, if_pos this]; rfl
  | s :: r, k+1, h1, h2, h3 => by
    have h0 := h1 0 s (by omega) rfl
    rw [insD, if_neg (by rw [h0]; simp), insD_at (S := r) (k := k) (fun j x hj hx => h1 (j + 1) x (by omega) hx) (fun x hx => h2 x hx) (by simpa using h3)]
    rfl
theorem insD_length (part : List Int) : ∀ S : List (List Int), (insD part S).length = S.length + 1
  | [] => rfl
  | s :: r => by
    rw [insD]; split
    · rfl
    · rw [List.length_cons, insD_length part r]; rfl
theorem insD_sum (part : List Int) : ∀ S : List (List Int), (insD part S).flatten.length = S.flatten.length + part.length
  | [] => by simp [insD]
  | s :: r => by
    rw [insD]; split
    · rw [List.flatten_cons, List.length_append]; omega
    · rw [List.flatten_cons, List.flatten_cons, List.length_append, List.length_append, insD_sum part r]; omega
end Go.Proofs.YtpngohklicgbjaaGreat.Tr
/-
  Stage weights, plain: by the branches of a text, in any order.
-/
namespace Go.Proofs.YtpngohklicgbjaaGreat
open Go.RowKit Fld
set_option linter.unusedVariables false
set_option linter.unusedSimpArgs false
set_option maxRecDepth 100000

def mulL (a b : List Int) : List Int := List.zipWith (fun x y => x * y % 10007) a b
theorem mulL_length {a b : List Int} {n : Nat} (ha : a.length = n) (hb : b.length = n) : (mulL a b).length = n := by unfold mulL; rw [List.length_zipWith]; omega
theorem mulL_at {a b : List Int} {j : Nat} {x y : Int} (hx : a[j]? = some x) (hy : b[j]? = some y) : (mulL a b)[j]? = some (x * y % 10007) := by
  unfold mulL; rw [List.getElem?_zipWith, hx, hy]
theorem mulL_num : ∀ a b : List Int, allNum (mulL a b) = true
  | [], _ => by simp [mulL, allNum]
  | _ :: _, [] => by simp [mulL, allNum]
  | x :: a, y :: b => by
    have := mulL_num a b
    rw [allNum_iff] at this ⊢
    intro z hz
    unfold mulL at hz
    rw [List.zipWith_cons_cons, List.mem_cons] at hz
    rcases hz with rfl | hz
    · omega
    · exact this z hz
theorem mod_three (x y z : Int) : x * y % 10007 * z % 10007 = x * y * z % 10007 := by
  rw [Int.mul_emod, Int.emod_emod, ← Int.mul_emod]
theorem mulL_right : ∀ a b c : List Int, mulL (mulL a b) c = mulL (mulL a c) b
  | [], b, c => by simp [mulL]
  | x :: a, [], c => by cases c <;> simp [mulL]
  | x :: a, y :: b, [] => by simp [mulL]
  | x :: a, y :: b, z :: c => by
    have h := mulL_right a b c
    unfold mulL at h ⊢
    rw [List.zipWith_cons_cons, List.zipWith_cons_cons, List.zipWith_cons_cons, List.zipWith_cons_cons, h, mod_three, mod_three, Int.mul_right_comm]
/-- the stage weights of a text -/
def swF (m : List (List Int)) (n : Nat) : Nat → List UInt8 → List Int
  | 0, _ => List.replicate n 1
  | k+1, x => (Tr.brT x).foldl (fun a b => mulL a (appL m (swF m n k b))) (List.replicate n 1)
theorem foldW_congr (m : List (List Int)) (f g : List UInt8 → List Int) : ∀ (L : List (List UInt8)) (a : List Int), (∀ b ∈ L, f b = g b) → L.foldl (fun a b => mulL a (appL m (f b))) a = L.foldl (fun a b => mulL a (appL m (g b))) a
  | [], _, _ => rfl
  | b :: L, a, h => by rw [List.foldl_cons, List.foldl_cons, h b (by simp), foldW_congr m f g L _ (fun c hc => h c (by simp [hc]))]
theorem swF_fuel (m : List (List Int)) (n : Nat) : ∀ (k j : Nat) (x : List UInt8), Tr.isTx x = true → x.length ≤ k → x.length ≤ j → swF m n k x = swF m n j x := fun k => by
  induction k with
  | zero => intro j x hx h1 h2; have := (Tr.br_parts hx).1.1; omega
  | succ k ih =>
    intro j x hx h1 h2
    cases j with
    | zero => have := (Tr.br_parts hx).1.1; omega
    | succ j =>
      have hb := (Tr.br_parts hx).2.1
      exact foldW_congr m _ _ _ _ fun b hm => ih j b (hb b hm).1 (by have := (hb b hm).2; omega) (by have := (hb b hm).2; omega)
def sw (m : List (List Int)) (n : Nat) (x : List UInt8) : List Int := swF m n 16 x
theorem sw_eq {m : List (List Int)} {n : Nat} {x : List UInt8} (hx : Tr.isTx x = true) : sw m n x = (Tr.brT x).foldl (fun a b => mulL a (appL m (sw m n b))) (List.replicate n 1) := by
  have h := (Tr.br_parts hx).1
  unfold sw
  rw [swF_fuel m n 16 17 x hx (by omega) (by omega)]; rfl
/-- what the first k branches make -/
def swTo (m : List (List Int)) (n : Nat) (L : List (List UInt8)) (k : Nat) : List Int := (L.take k).foldl (fun a b => mulL a (appL m (sw m n b))) (List.replicate n 1)
theorem swTo_succ {m : List (List Int)} {n k : Nat} {L : List (List UInt8)} {b : List UInt8} (h : L[k]? = some b) : swTo m n L (k + 1) = mulL (swTo m n L k) (appL m (sw m n b)) := by
  unfold swTo; rw [List.take_add_one, h]; simp
theorem fold_len {m : List (List Int)} {n : Nat} (hm : m.length = n) (f : List UInt8 → List Int) : ∀ (L : List (List UInt8)) (a : List Int), a.length = n → (L.foldl (fun a b => mulL a (appL m (f b))) a).length = n
  | [], a, h => h
  | b :: L, a, h => by rw [List.foldl_cons]; exact fold_len hm f L _ (mulL_length h ((appL_length m _).trans hm))
theorem fold_num {m : List (List Int)} (f : List UInt8 → List Int) : ∀ (L : List (List UInt8)) (a : List Int), allNum a = true → allNum (L.foldl (fun a b => mulL a (appL m (f b))) a) = true
  | [], a, h => h
  | b :: L, a, h => by rw [List.foldl_cons]; exact fold_num f L _ (mulL_num _ _)
theorem swTo_len {m : List (List Int)} {n : Nat} (hm : m.length = n) (L : List (List UInt8)) (k : Nat) : (swTo m n L k).length = n := fold_len hm _ _ _ (by simp)
theorem swTo_num (m : List (List Int)) (n : Nat) (L : List (List UInt8)) (k : Nat) : allNum (swTo m n L k) = true := fold_num _ _ _ (ones_num n)
theorem sw_len {m : List (List Int)} {n : Nat} (hm : m.length = n) {x : List UInt8} (hx : Tr.isTx x = true) : (sw m n x).length = n := by rw [sw_eq hx]; exact fold_len hm _ _ _ (by simp)
theorem sw_num {m : List (List Int)} {n : Nat} {x : List UInt8} (hx : Tr.isTx x = true) : allNum (sw m n x) = true := by rw [sw_eq hx]; exact fold_num _ _ _ (ones_num n)
theorem swTo_br {m : List (List Int)} {n q : Nat} {x : List UInt8} (hx : Tr.isTx x = true) (hq : (Tr.brT x).length = q) : swTo m n (Tr.brT x) q = sw m n x := by
  rw [sw_eq hx]; unfold swTo; rw [List.take_of_length_le (by omega)]
def chkW (t : List Int) : Bool := ((Tr.partsL t).map Tr.txt).isPerm (Tr.brT (Tr.txt t))
theorem chkW_all : Tr.allLv.all chkW = true := by decide +kernel
theorem swTo_parts {m : List (List Int)} {n q : Nat} {t : List Int} (h : Tr.isLv t = true) (hq : (Tr.partsL t).length = q) : swTo m n ((Tr.partsL t).map Tr.txt) q = sw m n (Tr.txt t) := by
  have h1 : ((Tr.partsL t).map Tr.txt).Perm (Tr.brT (Tr.txt t)) := by
    have := Tr.all_of chkW_all (Tr.isLv_iff.1 h)
    unfold chkW at this
    exact List.isPerm_iff.1 this
  rw [sw_eq (Tr.tx_txt h)]; unfold swTo; rw [List.take_of_length_le (by rw [List.length_map]; omega)]
  exact h1.foldl_eq' (fun x _ y _ z => mulL_right _ _ _) _
end Go.Proofs.YtpngohklicgbjaaGreat
/-
  A result beside a code, handed back.
-/
namespace Go.Proofs.YtpngohklicgbjaaGreat
open Go.RowKit Fld
set_option linter.unusedVariables false

theorem ResI.of' {r : Int × Int} {w w' : World} {x k : Int} (h : r = (x, k)) (hb : Below w.heap.size w w') : ResI r w (.returned (.tuple #[.int .i64 x, .int .i64 k])) w' := by
  subst h; exact ⟨rfl, hb⟩
end Go.Proofs.YtpngohklicgbjaaGreat
/-
  Stage weights: the program's walk.
-/
namespace Go.Proofs.YtpngohklicgbjaaGreat
open Go.RowKit Fld
set_option linter.unusedVariables false
set_option linter.unusedSimpArgs false
set_option maxRecDepth 100000

theorem mix_stepW {U V : List Int} {j : Nat} {u : Int} (hu : U[j]? = some u) (hl : V.length = U.length) : (U.take j ++ V.drop j).set j u = U.take (j + 1) ++ V.drop (j + 1) := by
  have hj : j < U.length := (List.getElem?_eq_some_iff.1 hu).1
  exact mark_step (by omega) (by omega) hu
theorem mix_atW {U V : List Int} {j : Nat} {v : Int} (hv : V[j]? = some v) (hl : V.length = U.length) : (U.take j ++ V.drop j)[j]? = some v := by
  have hj : j < V.length := (List.getElem?_eq_some_iff.1 hv).1
  rw [List.getElem?_append_right (by rw [List.length_take]; omega), List.length_take, Nat.min_eq_left (by omega), Nat.sub_self, List.getElem?_drop, Nat.add_zero]; exact hv
theorem mix_lenW (U V : List Int) (j : Nat) (hl : V.length = U.length) (hj : j ≤ U.length) : (U.take j ++ V.drop j).length = U.length := by simp; omega
/-- the weights so far, in block g: nothing else of what was there has turned -/
def WState (w w2 : World) (T : TypeId) (g n c : Nat) (xs : List Int) (wr : World) : Prop :=
  wr.ownsRow w.heap.size T 1 (.slice (some ⟨g, 0, none⟩) n c) n (ints xs) ∧ Within g (g + 1) w2 wr
theorem WState.below {w w2 wr w3 : World} {T : TypeId} {g n c : Nat} {xs : List Int} (h : WState w w2 T g n c xs wr) (hb : Below wr.heap.size wr w3) : WState w w2 T g n c xs w3 := by
  refine ⟨?_, h.2.trans (Within.of_below hb)⟩
  exact (OwnR.below (OwnR.of h.1) hb (Nat.le_refl _)).1
theorem WState.put {w w2 wr : World} {T : TypeId} {g n c j : Nat} {xs : List Int} {u : Int} (h : WState w w2 T g n c xs wr) (hj : j < n) : WState w w2 T g n c (xs.set j u) (wr.setCell ⟨g, j, none⟩ (.int .i64 u)) := by
  have hs := h.1.stored j (.int .i64 u)
  refine ⟨?_, h.2.trans (Within.grown hs.2 (fun g' e => by injection e with e; subst e; exact ⟨Nat.le_refl _, Nat.lt_succ_self _⟩))⟩
  have := hs.1
  unfold ints intsK at this ⊢
  rw [List.map_set]; exact this
theorem WState.drewN {w w2 wr : World} {T : TypeId} {g n c : Nat} {xs : List Int} (h : WState w w2 T g n c xs wr) (j : Nat) : WState w w2 T g n c xs (wr.drewN j) := h.below (below_drewN (Below.refl _ _) j)
theorem own_block {w : World} {base : Nat} {T : TypeId} {A : Option Addr} {n c : Nat} {vs : List Value} (h : w.ownsRow base T 1 (.slice A n c) n vs) (hn : 1 ≤ n) : ∃ g, A = some ⟨g, 0, none⟩ ∧ base ≤ g ∧ g < w.heap.size := by
  rcases h.2 with ⟨_, h0⟩ | ⟨g, cap, cur, e, hb, hg, _⟩
  · omega
  · injection e with e1 _ e3
    exact ⟨g, e1, hb, (Array.getElem?_eq_some_iff.1 hg).1⟩
def StageW (d : Nat) : Prop := ∀ (x : List UInt8) (A D : Option Addr) (n c dd B : Nat) (m : List (List Int)) (w : World), Tr.isTx x = true → x.length ≤ d → m.length = n → 1 ≤ n → n ≤ 8 → Wide m n → (∀ r ∈ m, allNum r = true) → B ≤ w.heap.size → Mat w B A m →
  Calls Tryz.prog 29 #[.agg #[.slice A n c, .slice D n dd], .string ⟨x.toArray⟩] w (NewRow 68 n (ints (sw m n x)) w)
set_option maxHeartbeats 4000000 in
theorem stageW_succ (d : Nat) (IH : StageW d) : StageW (d + 1) := by
  intro x A D n c dd B m w hx hxd hl hn1 hn hq hnum hB h
  have hbr := Tr.br_parts hx
  have HX := Lib.hid hx
  have HL := Lib.hid hl
  have HQ := Lib.hid hq
  have HN := Lib.hid hnum
  obtain ⟨W0, hW0⟩ : ∃ W0, W0 = w.alloc (.cells #[.slice A n c, .slice D n dd] 57) := ⟨_, rfl⟩
  have HB : Hid (Below w.heap.size w W0) := by rw [hW0]; exact (Below.refl _ _).alloc (Nat.le_refl _) _
  have HBX : Hid (Bx W0 w.heap.size 57 (.slice A n c) (.slice D n dd)) := by rw [hW0]; exact Bx.new _ _ _ _
  have zA : w.heap.size < W0.heap.size := HBX.out.lt
  have HM := Lib.hid (h.below HB.out hB)
  have IHb : Hid (∀ b ∈ Tr.brT x, ∀ (V : World), Below W0.heap.size W0 V ∨ Mat V B A m → B ≤ V.heap.size → Mat V B A m → Calls Tryz.prog 29 #[.agg #[.slice A n c, .slice D n dd], .string ⟨b.toArray⟩] V (NewRow 68 n (ints (sw m n b)) V)) := fun b hb V _ h1 h2 =>
    IH b A D n c dd B m V (hbr.2.1 b hb).1 (by have := (hbr.2.1 b hb).2; omega) HL.out hn1 hn HQ.out HN.out h1 h2
  have CB := fun V => branches_any x V hx
  obtain ⟨L, hL⟩ : ∃ L, L = Tr.brT x := ⟨_, rfl⟩
  have HLL := Lib.hid hL
  have hq7 : L.length ≤ 7 := by rw [hL]; exact hbr.2.2
  have HTX : Hid (∀ b ∈ L, Tr.isTx b = true) := fun b hb => (hbr.2.1 b (by rw [← hL]; exact hb)).1
  rw [← hL] at IHb
  simp only [← hL] at CB
  obtain ⟨X, hX⟩ : ∃ X : ByteArray, X = ⟨x.toArray⟩ := ⟨_, rfl⟩
  rw [← hX] at CB ⊢
  clear hl hq hnum h hbr hx hL hX hxd IH
  go_enter Tryz.func29, Tryz.ntmps29
  go_wp2_with fail
  rw [← hW0]
  clear hW0
  refine (ones_any A D n c n dd W0 hn1 hn).mono ?_
  rintro e w1 ⟨A1, c1, rfl, own1, b1⟩
  obtain ⟨g1, rfl, hg0, hg1⟩ := own_block own1 hn1
  have hc1 := own_cap own1
  have hz1 := b1.size
  have HO1 := Lib.hid own1
  have HB1 := Lib.hid b1
  clear own1 b1
  go_wp2_with fail
  refine (CB w1).mono ?_
  rintro e w2 ⟨A2, q, c2, rfl, hq, own2, b2⟩
  have hz2 := b2.size
  have HQL := Lib.hid hq
  have hq7' : q ≤ 7 := by omega
  have HO2 := Lib.hid (OwnR.of own2)
  have S0 : Hid (WState w w2 68 g1 n c1 (swTo m n L 0) w2) := by
    refine ⟨?_, Within.refl _ _ _⟩
    exact ((((OwnR.of HO1.out).below b2 (Nat.le_refl _)).more (Nat.le_of_lt zA) (Nat.le_refl _))).1
  have HB2 := Lib.hid (HB1.out.trans (b2.mono hz1))
  have HBX2 := Lib.hid (HBX.out.next HB2.out)
  have HM2 := Lib.hid (HM.out.below HB2.out (by omega))
  have HBW := Lib.hid (HB.out.trans (HB2.out.mono (Nat.le_of_lt zA)))
  have FR : Hid (∀ xs wr, WState w w2 68 g1 n c1 xs wr → Row wr w2.heap.size A2 (strs L) ∧ Bx wr w.heap.size 57 (.slice A n c) (.slice D n dd) ∧ Mat wr B A m ∧ Below w.heap.size w wr ∧ w2.heap.size ≤ wr.heap.size) := fun xs wr hs =>
    ⟨(HO2.out.within hs.2 (Nat.le_refl _) (by omega)).row, HBX2.out.within hs.2 (by omega), HM2.out.below (hs.2.below (B := B) (by omega) (by omega)) (Nat.le_refl _), Below.then HBW.out hs.2 (by omega) (by omega), hs.2.size⟩
  clear hq own2 b2 HO1 HB1 CB HM HB HBX HB2
  go_wp2_with fail
  go_loopw [15] (fun i wr => ∃ k : Nat, k ≤ q ∧ i = .int .i64 k ∧ WState w w2 68 g1 n c1 (swTo m n L k) wr) (fun i _ => q - (intOf i).toNat)
  case atStart => exact ⟨0, Nat.zero_le _, rfl, S0.out⟩
  case round =>
    obtain ⟨k, hk, rfl, HS⟩ := hrel
    by_cases hlt : k < q
    · obtain ⟨b, hb⟩ := at_lt (show k < L.length by have := HQL.out; omega)
      obtain ⟨hrow, hbx, hmat, hbw, hzr⟩ := FR.out _ _ HS
      obtain ⟨b3, o3, rfl, _, hcb⟩ := hrow k _ (strs_at hb)
      have hbm := List.mem_of_getElem? hb
      have hbt := HTX.out b hbm
      have KK : Hid (∀ V, Below wr.heap.size wr V → V.cell? ⟨w.heap.size, 0, none⟩ = some (.slice A n c) ∧ V.cell? ⟨w.heap.size, 1, none⟩ = some (.slice D n dd)) := fun V hV => ⟨(hbx.next hV).c0, (hbx.next hV).c1⟩
      have C1 := fun V (hV : Below wr.heap.size wr V) => IHb.out b hbm V (.inr (hmat.below hV (by omega))) (by have := hV.size; omega) (hmat.below hV (by omega))
      have C2 := fun V (hV : Below wr.heap.size wr V) A3 c3 (h3 : Row V V.heap.size A3 (ints (sw m n b))) => applied_any A D A3 n c n dd c3 B V.heap.size m (sw m n b) V HL.out hn HQ.out HN.out (sw_len HL.out hbt) (sw_num hbt) (by have := hV.size; omega) (Nat.le_refl _) (hmat.below hV (by omega)) h3
      obtain ⟨Y, hY⟩ : ∃ Y : ByteArray, Y = ⟨b.toArray⟩ := ⟨_, rfl⟩
      rw [← hY] at hcb
      simp only [← hY] at C1
      have HSB := Lib.hid HS
      have HE := Lib.hid (swTo_succ (m := m) (n := n) hb)
      have hPl : Hid ((appL m (sw m n b)).length = n) := (appL_length _ _).trans HL.out
      have hPn : Hid (allNum (appL m (sw m n b)) = true) := appL_num _ _
      have hVl : Hid ((swTo m n L k).length = n) := swTo_len HL.out _ _
      have hVn : Hid (allNum (swTo m n L k) = true) := swTo_num _ _ _ _
      obtain ⟨P, hP⟩ : ∃ P, P = appL m (sw m n b) := ⟨_, rfl⟩
      obtain ⟨V0, hV0⟩ : ∃ V, V = swTo m n L k := ⟨_, rfl⟩
      rw [← hP] at HE hPl hPn
      simp only [← hP] at C2
      rw [← hV0] at HE HSB hVl hVn
      clear hb hrow hbx hmat hbm hbt hY HS hP hV0
      go_wp2_with fail
      go_region_held3 (fun V => V.cell? ⟨w.heap.size, 0, none⟩ = some (.slice A n c) ∧ V.cell? ⟨w.heap.size, 1, none⟩ = some (.slice D n dd))
        (first | exact KK.out _ (Below.refl _ _) | exact KK.out _ (Below.refl _ _).drew | exact KK.out _ (below_drewN (Below.refl _ _) _) | exact KK.out _ (below_undrawn (a := 1) be3) | exact KK.out _ ((below_undrawn (a := 1) be3).trans (be4.mono (below_undrawn (a := 1) be3).size)))
        (first
          | (go_at_call 29; refine (C1 _ (by first | exact (Below.refl _ _).drew | exact below_drewN (Below.refl _ _) _)).mono ?_; clear C1; rintro e w3 ⟨A3, c3, rfl, own3, be3⟩)
          | (go_at_call 53; refine (C2 _ (by exact below_undrawn (a := 1) be3) A3 c3 (by exact row_of_own own3)).mono ?_; clear C2; rintro e w4 ⟨A4, c4, rfl, own4, be4⟩))
      have hb34 : Below wr.heap.size wr w4 := (below_undrawn (a := 1) be3).trans (be4.mono (below_undrawn (a := 1) be3).size)
      have hz3 : wr.heap.size ≤ w3.heap.size := (below_undrawn (a := 1) be3).size
      have hz4 := be4.size
      have HS4 := Lib.hid (HSB.out.below hb34)
      have HO4 := Lib.hid (OwnR.of own4)
      have hzw := HSB.out.2.size
      clear own3 own4 be3 be4 hb34 KK hcb
      go_wp2_with fail
      go_loopw [25] (fun i wj => ∃ j : Nat, j ≤ n ∧ i = .int .i64 j ∧ WState w w2 68 g1 n c1 ((mulL V0 P).take j ++ V0.drop j) wj ∧ Within g1 (g1 + 1) w4 wj) (fun i _ => n - (intOf i).toNat)
      case atStart => exact ⟨0, Nat.zero_le _, rfl, by simpa using HS4.out, Within.refl _ _ _⟩
      case round =>
        obtain ⟨j, hj, rfl, HJ, HW4⟩ := hrel
        have hUl : Hid ((mulL V0 P).length = n) := mulL_length hVl.out hPl.out
        by_cases hjl : j < n
        · obtain ⟨p, hp⟩ := at_lt (show j < P.length by rw [hPl.out]; exact hjl)
          obtain ⟨v, hv⟩ := at_lt (show j < V0.length by rw [hVl.out]; exact hjl)
          obtain ⟨p0, p1⟩ := num_at hPn.out hp
          obtain ⟨v0, v1⟩ := num_at hVn.out hv
          obtain ⟨b5, o5, rfl, _, hcp⟩ := (HO4.out.within HW4 (Nat.le_refl _) (by omega)).row j _ (ints_at hp)
          have hcv := HJ.1.cellAt j (by omega)
          rw [ints_at (mix_atW hv (by rw [hVl.out, hUl.out]))] at hcv
          have hfv := HJ.1.frozenAt j
          have HU := mulL_at hv hp
          obtain ⟨u, hu⟩ : ∃ u, u = v * p % 10007 := ⟨_, rfl⟩
          have C5 : Hid (∀ w : World, Calls Tryz.prog 54 #[.int .i64 v, .int .i64 p] w fun e w' => e = .returned (.int .i64 u) ∧ w = w') := fun w => by rw [hu]; exact times_any _ _ _ v0 v1 p0 p1
          rw [← hu] at HU
          have G1 := HJ.put (u := u) hjl
          rw [mix_stepW HU (by rw [hVl.out, hUl.out])] at G1
          have HG1 := Lib.hid G1
          have HG2 : Hid (Within g1 (g1 + 1) w4 (wr.setCell ⟨g1, j, none⟩ (.int .i64 u))) := HW4.trans (Within.grown (HJ.1.stored j (.int .i64 u)).2 (fun g' e => by injection e with e; subst e; exact ⟨Nat.le_refl _, Nat.lt_succ_self _⟩))
          have j0 : (0 : Int) ≤ (j : Int) := Int.natCast_nonneg _
          have j1 : (j : Int) < (n : Int) := by omega
          clear hp hv HJ HW4 HU G1 hu
          go_wp2_with fail
          refine (C5.out _).mono ?_
          rintro e w6 ⟨rfl, rfl⟩
          go_wp2
          go_roundw
          case rel => exact ⟨j + 1, by omega, by go_num, HG1.out, HG2.out⟩
          case measure => simp [intOf]; omega
        · obtain rfl : j = n := by omega
          rw [List.take_of_length_le (by rw [hUl.out]; exact Nat.le_refl _), List.drop_of_length_le (by rw [hVl.out]; exact Nat.le_refl _), List.append_nil, ← HE.out] at HJ
          have HJH := Lib.hid HJ
          clear HJ HW4
          go_wp2
          go_roundw
          case rel => exact ⟨k + 1, by omega, by go_num, HJH.out⟩
          case measure => simp [intOf]; omega
    · obtain rfl : k = q := by omega
      have e : swTo m n L k = sw m n x := by rw [HLL.out]; exact swTo_br HX.out (by rw [← HLL.out]; exact HQL.out.symm)
      rw [e] at HS
      have G : Hid (NewRow 68 n (ints (sw m n x)) w (.returned (.slice (some ⟨g1, 0, none⟩) n c1)) wr) := ⟨_, _, rfl, HS.1, (FR.out _ _ HS).2.2.2.1⟩
      clear HS
      go_wp2
      go_ret
      exact G.out
theorem stageW_upto : ∀ d, StageW d
  | 0 => fun x A D n c dd B m w hx hxd => by have := (Tr.br_parts hx).1.1; omega
  | d + 1 => stageW_succ d (stageW_upto d)
theorem stageWeights_any (x : List UInt8) (A D : Option Addr) (n c dd B : Nat) (m : List (List Int)) (w : World) (hx : Tr.isTx x = true) (hl : m.length = n) (hn1 : 1 ≤ n) (hn : n ≤ 8) (hq : Wide m n) (hnum : ∀ r ∈ m, allNum r = true) (hB : B ≤ w.heap.size) (h : Mat w B A m) :
    Calls Tryz.prog 29 #[.agg #[.slice A n c, .slice D n dd], .string ⟨x.toArray⟩] w (NewRow 68 n (ints (sw m n x)) w) := stageW_upto x.length x A D n c dd B m w hx (Nat.le_refl _) hl hn1 hn hq hnum hB h
/-- the weight of a text -/
def wtT (m : List (List Int)) (b : List Int) (n : Nat) (x : List UInt8) : Int := dotK b (sw m n x) n
set_option maxHeartbeats 2000000 in
theorem weight_any (x : List UInt8) (A D : Option Addr) (n c d B B' : Nat) (m : List (List Int)) (b : List Int) (w : World) (hx : Tr.isTx x = true) (hl : m.length = n) (hl' : b.length = n) (hn1 : 1 ≤ n) (hn : n ≤ 8) (hq : Wide m n) (hnum : ∀ r ∈ m, allNum r = true) (hnb : allNum b = true) (hB : B ≤ w.heap.size) (hB' : B' ≤ w.heap.size) (h : Mat w B A m) (r : Row w B' D (ints b)) :
    Calls Tryz.prog 38 #[.agg #[.slice A n c, .slice D n d], .string ⟨x.toArray⟩] w fun e w' => e = .returned (.int .i64 (wtT m b n x)) ∧ Below w.heap.size w w' := by
  have HL := Lib.hid hl
  have HL' := Lib.hid hl'
  have HQ := Lib.hid hq
  have HN := Lib.hid hnum
  obtain ⟨W0, hW0⟩ : ∃ W0, W0 = w.alloc (.cells #[.slice A n c, .slice D n d] 57) := ⟨_, rfl⟩
  have HB : Hid (Below w.heap.size w W0) := by rw [hW0]; exact (Below.refl _ _).alloc (Nat.le_refl _) _
  have HX : Bx W0 w.heap.size 57 (.slice A n c) (.slice D n d) := by rw [hW0]; exact Bx.new _ _ _ _
  have hz := HB.out.size
  have HM := Lib.hid (h.below HB.out hB)
  have HR := Lib.hid (r.below HB.out hB')
  have KK : Hid (∀ V, Below W0.heap.size W0 V → V.cell? ⟨w.heap.size, 0, none⟩ = some (.slice A n c) ∧ V.cell? ⟨w.heap.size, 1, none⟩ = some (.slice D n d)) := fun V hV => ⟨(HX.next hV).c0, (HX.next hV).c1⟩
  have C1 := fun V (hV : Below W0.heap.size W0 V) => stageWeights_any x A D n c d B m V hx HL.out hn1 hn HQ.out HN.out (by have := hV.size; omega) (HM.out.below hV (by omega))
  have C2 := fun V (hV : Below W0.heap.size W0 V) A3 c3 (h3 : Row V V.heap.size A3 (ints (sw m n x))) => dotOf_any D A3 n d c3 B' V.heap.size b (sw m n x) V HL'.out (sw_len HL.out hx) (by omega) (HR.out.below hV (by omega)) h3 hnb (sw_num hx)
  have HW : Hid (wtT m b n x = dotK b (sw m n x) n) := rfl
  rw [HW.out]
  obtain ⟨X, hX⟩ : ∃ X : ByteArray, X = ⟨x.toArray⟩ := ⟨_, rfl⟩
  simp only [← hX] at C1
  rw [← hX]
  clear hl hl' hq hnum h r HX hX HW
  go_enter Tryz.func38, Tryz.ntmps38
  go_wp2_with fail
  change Code.wp _ _ _ _ (w.alloc (.cells #[.slice A n c, .slice D n d] 57))
  rw [← hW0]
  clear hW0
  go_region_held3 (fun V => V.cell? ⟨w.heap.size, 0, none⟩ = some (.slice A n c) ∧ V.cell? ⟨w.heap.size, 1, none⟩ = some (.slice D n d))
    (first | exact KK.out _ (Below.refl _ _) | exact KK.out _ (Below.refl _ _).drew | exact KK.out _ (below_drewN (Below.refl _ _) _) | exact KK.out _ (below_undrawn (a := 1) b2) | exact KK.out _ (below_drewN (below_undrawn (a := 1) b2) _))
    (first
      | (go_at_call 29; refine (C1 _ (by first | exact (Below.refl _ _).drew | exact below_drewN (Below.refl _ _) _)).mono ?_; clear C1; rintro e w2 ⟨A2, c2, rfl, own2, b2⟩)
      | (go_at_call 36; refine (C2 _ (by exact below_undrawn (a := 1) b2) A2 c2 (by exact row_of_own own2)).mono ?_; clear C2; rintro e w3 ⟨rfl, j3, rfl⟩))
  have hb2 : Below W0.heap.size W0 w2 := below_undrawn (a := 1) b2
  have G : Hid (Below w.heap.size w (w2.drewN j3)) := below_drewN (HB.out.trans (hb2.mono HB.out.size)) _
  clear own2 b2 hb2 KK
  go_wp2
  go_ret
  exact ⟨rfl, G.out⟩
/-- what StageWeights and WeightOf answer -/
def stageWA (m : List (List Int)) (b t : List Int) : List Int × Int := if isTabB m b = true ∧ Tr.isLv t = true then (sw m b.length (Tr.txt t), 0) else ([], 1)
def weightA (m : List (List Int)) (b t : List Int) : Int × Int := if isTabB m b = true ∧ Tr.isLv t = true then (wtT m b b.length (Tr.txt t), 0) else (0, 1)
set_option maxHeartbeats 4000000 in
theorem pStageWeights_L (A D : Option Addr) (n c n' d B B' : Nat) (m : List (List Int)) (b : List Int) (w : World) (hl : m.length = n) (hl' : b.length = n') (hn : n ≤ 9223372036854775807) (hn' : n' ≤ 9223372036854775807) (hB : B ≤ w.heap.size) (hB' : B' ≤ w.heap.size) (h : Mat w B A m) (r : Row w B' D (ints b)) (A2 : Option Addr) (n2 c2 B2 : Nat) (t : List Int) (hl2 : t.length = n2) (hn2 : n2 ≤ 1048576) (hB2 : B2 ≤ w.heap.size) (h2 : Row w B2 A2 (ints t)) (hc2 : n2 ≤ c2) :
    Calls Tryz.prog 7 #[.agg #[.slice A n c, .slice D n' d], .slice A2 n2 c2] w (ResL (stageWA m b t) w) := by
  have HL := Lib.hid hl
  have HL' := Lib.hid hl'
  have HL2 := Lib.hid hl2
  obtain ⟨W0, hW0⟩ : ∃ W0, W0 = w.alloc (.cells #[.slice A n c, .slice D n' d] 27) := ⟨_, rfl⟩
  have HB : Hid (Below w.heap.size w W0) := by rw [hW0]; exact (Below.refl _ _).alloc (Nat.le_refl _) _
  have HM : Hid (Mat W0 B A m) := h.below HB.out hB
  have HR : Hid (Row W0 B' D (ints b)) := r.below HB.out hB'
  have HT : Hid (Row W0 B2 A2 (ints t)) := h2.below HB.out hB2
  have HX : Hid (Bx W0 w.heap.size 27 (.slice A n c) (.slice D n' d)) := by rw [hW0]; exact Bx.new _ _ _ _
  have hz := HB.out.size
  clear hl hl' hl2 h r h2
  cases ht : isTabB m b
  · have G : Hid (stageWA m b t = ([], 1)) := by unfold stageWA; rw [Hid, if_neg (by rw [ht]; simp)]
    go_enter Tryz.func7, Tryz.ntmps7
    go_wp2_with fail
    rw [← hW0]
    refine (isTableau_any A D n c n' d B B' m b W0 HL.out HL'.out hn hn' (by omega) (by omega) HM.out HR.out).mono ?_
    rintro e w2 ⟨rfl, b2⟩
    rw [ht]
    have HB2 := Lib.hid (HB.out.trans (b2.mono HB.out.size))
    clear b2 hW0 ht
    go_wp2
    go_ret2
    exact ResL.nil G.out HB2.out
  · go_enter Tryz.func7, Tryz.ntmps7
    go_wp2_with fail
    rw [← hW0]
    refine (isTableau_any A D n c n' d B B' m b W0 HL.out HL'.out hn hn' (by omega) (by omega) HM.out HR.out).mono ?_
    rintro e w2 ⟨rfl, b2⟩
    rw [ht]
    have hz2 := b2.size
    have C0 := isLevels_any A2 n2 c2 B2 t w2 HL2.out (by omega) (HT.out.below b2 (by omega))
    have HB2 := Lib.hid (HB.out.trans (b2.mono HB.out.size))
    cases hlv : Tr.isLv t
    · have G : Hid (stageWA m b t = ([], 1)) := by unfold stageWA; rw [Hid, if_neg (by rw [hlv]; simp)]
      rw [hlv] at C0
      clear b2 hW0 ht
      go_wp2_with fail
      refine C0.mono ?_
      rintro e w3 ⟨rfl, j3, rfl⟩
      have HB3 := Lib.hid (below_drewN HB2.out j3)
      clear C0
      go_wp2
      go_ret2
      exact ResL.nil G.out HB3.out
    · rw [hlv] at C0
      obtain ⟨t1, t2, t3, t4, t5, t6⟩ := isTabB_parts ht
      rw [HL'.out] at t1 t2 t3 t5
      have hnn : n' = n := by rw [← t3]; exact HL.out
      subst hnn
      have HW := Lib.hid t5
      have HNB := Lib.hid t4
      have HN := Lib.hid t6
      have hx := Tr.tx_txt hlv
      obtain ⟨l1, l8⟩ := lv_bd hlv
      rw [HL2.out] at l1 l8
      have HM2 := Lib.hid (HM.out.below b2 (by omega))
      have HR2 := Lib.hid (HR.out.below b2 (by omega))
      have HT2 := Lib.hid (HT.out.below b2 (by omega))
      have HX2 := HX.out.next b2
      clear b2 hW0 t3 t4 t5 t6
      go_wp2_with fail
      refine C0.mono ?_
      rintro e w3 ⟨rfl, j3, rfl⟩
      have q0 : ∀ j, (w2.drewN j).cell? ⟨w.heap.size, 0, none⟩ = some (.slice A n' c) := fun j => HX2.c0
      have q1 : ∀ j, (w2.drewN j).cell? ⟨w.heap.size, 1, none⟩ = some (.slice D n' d) := fun j => HX2.c1
      have p0 := q0 j3
      have p1 := q1 j3
      have HTX := Lib.hid hx
      have G : Hid (stageWA m b t = (sw m n' (Tr.txt t), 0)) := by unfold stageWA; rw [Hid, if_pos ⟨ht, hlv⟩, HL'.out]
      clear C0 HX2 hlv ht hx
      go_wp2_with fail
      refine (schemeOf_any A D n' c n' d B B' n' m b (w2.drewN j3) HL.out HL'.out t2 HW.out (by omega) (by omega) (by show B ≤ w2.heap.size; omega) (by show B' ≤ w2.heap.size; omega) (HM2.out.drewN _) (HR2.out.drewN _)).mono ?_
      rintro e w4 ⟨A4, c4, D4, d4, rfl, hc4, hd4, m4, r4, b4⟩
      have hz4 : w2.heap.size ≤ w4.heap.size := b4.size
      have hb4 : Below w2.heap.size w2 w4 := ⟨b4.os, b4.tape, b4.output, b4.size, b4.block⟩
      have HB4 := Lib.hid (HB2.out.trans (hb4.mono HB2.out.size))
      have HM4 := Lib.hid m4
      have HR4 := Lib.hid r4
      have HT4 := Lib.hid (HT2.out.below hb4 (by omega))
      clear b4 hb4 m4 r4 q0 q1 p0 p1
      go_wp2_with fail
      refine (treeOf_any A2 n2 c2 B2 t w4 HL2.out l1 l8 hc2 (by omega) HT4.out).mono ?_
      rintro e w5 ⟨rfl, b5⟩
      have hz5 := b5.size
      have HB5 := Lib.hid (HB4.out.trans (b5.mono HB4.out.size))
      have HM5 := Lib.hid (HM4.out.below b5 (Nat.le_refl _))
      have HR5 := Lib.hid (HR4.out.below b5 (Nat.le_refl _))
      have HSL := Lib.hid (sw_len HL.out HTX.out)
      clear b5
      go_wp2_with fail
      refine (stageWeights_any (Tr.txt t) A4 D4 n' c4 d4 w4.heap.size m w5 HTX.out HL.out t1 t2 HW.out HN.out hz5 HM5.out).mono ?_
      rintro e w6 ⟨A6, c6, rfl, own6, b6⟩
      have HB6 := Lib.hid (HB5.out.trans (b6.mono HB5.out.size))
      have HR6 := Lib.hid (row_of_own own6)
      clear b6 own6
      go_wp2_with fail
      refine (integersOf_any A6 n' c6 w6.heap.size (sw m n' (Tr.txt t)) w6 HSL.out (by omega) (Nat.le_refl _) HR6.out).mono ?_
      rintro e w7 ⟨A7, c7, rfl, own7, b7⟩
      have HB7 := Lib.hid (HB6.out.trans (b7.mono HB6.out.size))
      have GR : Hid (ResL (stageWA m b t) w (.returned (.tuple #[.slice A7 n' c7, .int .i64 0])) w7) := ResL.of G.out HSL.out (by omega) ((OwnR.of own7).more HB6.out.size (Nat.le_refl _)).1 HB7.out
      clear b7 own7
      go_wp2
      go_ret2
      exact GR.out
set_option maxHeartbeats 4000000 in
theorem pWeightOf_L (A D : Option Addr) (n c n' d B B' : Nat) (m : List (List Int)) (b : List Int) (w : World) (hl : m.length = n) (hl' : b.length = n') (hn : n ≤ 9223372036854775807) (hn' : n' ≤ 9223372036854775807) (hB : B ≤ w.heap.size) (hB' : B' ≤ w.heap.size) (h : Mat w B A m) (r : Row w B' D (ints b)) (A2 : Option Addr) (n2 c2 B2 : Nat) (t : List Int) (hl2 : t.length = n2) (hn2 : n2 ≤ 1048576) (hB2 : B2 ≤ w.heap.size) (h2 : Row w B2 A2 (ints t)) (hc2 : n2 ≤ c2) :
    Calls Tryz.prog 13 #[.agg #[.slice A n c, .slice D n' d], .slice A2 n2 c2] w (ResI (weightA m b t) w) := by
  have HL := Lib.hid hl
  have HL' := Lib.hid hl'
  have HL2 := Lib.hid hl2
  obtain ⟨W0, hW0⟩ : ∃ W0, W0 = w.alloc (.cells #[.slice A n c, .slice D n' d] 27) := ⟨_, rfl⟩
  have HB : Hid (Below w.heap.size w W0) := by rw [hW0]; exact (Below.refl _ _).alloc (Nat.le_refl _) _
  have HM : Hid (Mat W0 B A m) := h.below HB.out hB
  have HR : Hid (Row W0 B' D (ints b)) := r.below HB.out hB'
  have HT : Hid (Row W0 B2 A2 (ints t)) := h2.below HB.out hB2
  have HX : Hid (Bx W0 w.heap.size 27 (.slice A n c) (.slice D n' d)) := by rw [hW0]; exact Bx.new _ _ _ _
  have hz := HB.out.size
  clear hl hl' hl2 h r h2
  cases ht : isTabB m b
  · have G : Hid (weightA m b t = (0, 1)) := by unfold weightA; rw [Hid, if_neg (by rw [ht]; simp)]
    go_enter Tryz.func13, Tryz.ntmps13
    go_wp2_with fail
    rw [← hW0]
    refine (isTableau_any A D n c n' d B B' m b W0 HL.out HL'.out hn hn' (by omega) (by omega) HM.out HR.out).mono ?_
    rintro e w2 ⟨rfl, b2⟩
    rw [ht]
    have HB2 := Lib.hid (HB.out.trans (b2.mono HB.out.size))
    clear b2 hW0 ht
    go_wp2
    go_ret2
    exact ResI.of' G.out HB2.out
  · go_enter Tryz.func13, Tryz.ntmps13
    go_wp2_with fail
    rw [← hW0]
    refine (isTableau_any A D n c n' d B B' m b W0 HL.out HL'.out hn hn' (by omega) (by omega) HM.out HR.out).mono ?_
    rintro e w2 ⟨rfl, b2⟩
    rw [ht]
    have hz2 := b2.size
    have C0 := isLevels_any A2 n2 c2 B2 t w2 HL2.out (by omega) (HT.out.below b2 (by omega))
    have HB2 := Lib.hid (HB.out.trans (b2.mono HB.out.size))
    cases hlv : Tr.isLv t
    · have G : Hid (weightA m b t = (0, 1)) := by unfold weightA; rw [Hid, if_neg (by rw [hlv]; simp)]
      rw [hlv] at C0
      clear b2 hW0 ht
      go_wp2_with fail
      refine C0.mono ?_
      rintro e w3 ⟨rfl, j3, rfl⟩
      have HB3 := Lib.hid (below_drewN HB2.out j3)
      clear C0
      go_wp2
      go_ret2
      exact ResI.of' G.out HB3.out
    · rw [hlv] at C0
      obtain ⟨t1, t2, t3, t4, t5, t6⟩ := isTabB_parts ht
      rw [HL'.out] at t1 t2 t3 t5
      have hnn : n' = n := by rw [← t3]; exact HL.out
      subst hnn
      have HW := Lib.hid t5
      have HNB := Lib.hid t4
      have HN := Lib.hid t6
      have hx := Tr.tx_txt hlv
      obtain ⟨l1, l8⟩ := lv_bd hlv
      rw [HL2.out] at l1 l8
      have HM2 := Lib.hid (HM.out.below b2 (by omega))
      have HR2 := Lib.hid (HR.out.below b2 (by omega))
      have HT2 := Lib.hid (HT.out.below b2 (by omega))
      have HX2 := HX.out.next b2
      clear b2 hW0 t3 t4 t5 t6
      go_wp2_with fail
      refine C0.mono ?_
      rintro e w3 ⟨rfl, j3, rfl⟩
      have q0 : ∀ j, (w2.drewN j).cell? ⟨w.heap.size, 0, none⟩ = some (.slice A n' c) := fun j => HX2.c0
      have q1 : ∀ j, (w2.drewN j).cell? ⟨w.heap.size, 1, none⟩ = some (.slice D n' d) := fun j => HX2.c1
      have p0 := q0 j3
      have p1 := q1 j3
      have HTX := Lib.hid hx
      have G : Hid (weightA m b t = (wtT m b n' (Tr.txt t), 0)) := by unfold weightA; rw [Hid, if_pos ⟨ht, hlv⟩, HL'.out]
      clear C0 HX2 hlv ht hx
      go_wp2_with fail
      refine (schemeOf_any A D n' c n' d B B' n' m b (w2.drewN j3) HL.out HL'.out t2 HW.out (by omega) (by omega) (by show B ≤ w2.heap.size; omega) (by show B' ≤ w2.heap.size; omega) (HM2.out.drewN _) (HR2.out.drewN _)).mono ?_
      rintro e w4 ⟨A4, c4, D4, d4, rfl, hc4, hd4, m4, r4, b4⟩
      have hz4 : w2.heap.size ≤ w4.heap.size := b4.size
      have hb4 : Below w2.heap.size w2 w4 := ⟨b4.os, b4.tape, b4.output, b4.size, b4.block⟩
      have HB4 := Lib.hid (HB2.out.trans (hb4.mono HB2.out.size))
      have HM4 := Lib.hid m4
      have HR4 := Lib.hid r4
      have HT4 := Lib.hid (HT2.out.below hb4 (by omega))
      clear b4 hb4 m4 r4 q0 q1 p0 p1
      go_wp2_with fail
      refine (treeOf_any A2 n2 c2 B2 t w4 HL2.out l1 l8 hc2 (by omega) HT4.out).mono ?_
      rintro e w5 ⟨rfl, b5⟩
      have hz5 := b5.size
      have HB5 := Lib.hid (HB4.out.trans (b5.mono HB4.out.size))
      have HM5 := Lib.hid (HM4.out.below b5 (Nat.le_refl _))
      have HR5 := Lib.hid (HR4.out.below b5 (Nat.le_refl _))
      clear b5
      go_wp2_with fail
      refine (weight_any (Tr.txt t) A4 D4 n' c4 d4 w4.heap.size w4.heap.size m b w5 HTX.out HL.out HL'.out t1 t2 HW.out HN.out HNB.out hz5 hz5 HM5.out HR5.out).mono ?_
      rintro e w6 ⟨rfl, b6⟩
      have HB6 := Lib.hid (HB5.out.trans (b6.mono HB5.out.size))
      clear b6
      go_wp2
      go_ret2
      exact ResI.of' G.out HB6.out
end Go.Proofs.YtpngohklicgbjaaGreat
/-
  The model's branches of a list.
-/
namespace Go.Proofs.YtpngohklicgbjaaGreat
open Go.RowKit Fld
set_option linter.unusedVariables false
set_option linter.unusedSimpArgs false
set_option maxRecDepth 100000

/-- a number is added to a row, and the row laid into its place again -/
theorem OwnMat.app_row {w w2 : World} {lo hi n k q c g cap g2 c2 : Nat} {A : Option Addr} {m : List (List Int)} {vs : List Value} {r : List Int} {x : Int} {o : Obj}
    (h : OwnMat w lo hi (.slice (some ⟨g, 0, none⟩) n cap) n m vs) (hs : hi ≤ w.heap.size) (hk : m[k]? = some r) (hv : vs[k]? = some (.slice A q c)) (hq : r.length = q)
    (h2 : w2.ownsRow lo 2 1 (.slice (some ⟨g2, 0, none⟩) (q + 1) c2) (q + 1) (ints (r ++ [x]))) (hg : (w.alloc o).grownBy w2 (Value.ownBlock (.slice A q c)))
    (hat : Value.ownBlock (.slice A q c) = some g2 ∨ g2 = w.heap.size + 1) (hlt : g2 < w2.heap.size) :
    OwnMat (w2.setCell ⟨g, k, none⟩ (.slice (some ⟨g2, 0, none⟩) (q + 1) c2)) lo w2.heap.size (.slice (some ⟨g, 0, none⟩) n cap) n (m.set k (r ++ [x])) (vs.set k (.slice (some ⟨g2, 0, none⟩) (q + 1) c2)) := by
  have hal : Below w.heap.size w (w.alloc o) := (Below.refl _ _).alloc (Nat.le_refl _) _
  have hz : w.heap.size + 1 ≤ w2.heap.size := by have := hg.size; simpa using this
  have hkl : k < m.length := by
    rcases Nat.lt_or_ge k m.length with y | y
    · exact y
    · rw [List.getElem?_eq_none y] at hk; cases hk
  obtain ⟨A0, c0, e0, o0⟩ := h.inner k r hk
  rw [hv] at e0
  injection e0 with e0
  injection e0 with eA eq ec
  subst eA ec
  rw [← eq] at o0
  have hout2 : OwnR w2 lo hi 25 (.slice (some ⟨g, 0, none⟩) n cap) n vs := (h.outer.below hal hs).grown hg (own_types h.outer.1 o0.1 (by decide))
  have hset := hout2.1.stored k (.slice (some ⟨g2, 0, none⟩) (q + 1) c2)
  have other : ∀ s r2, s ≠ k → m[s]? = some r2 → ∃ A2 c', vs[s]? = some (.slice A2 r2.length c') ∧ OwnR w2 lo hi 2 (.slice A2 r2.length c') r2.length (ints r2) ∧ (∀ g', Value.ownBlock (.slice A2 r2.length c') = some g' → g' ≠ g2) := by
    intro s r2 hsk hr
    obtain ⟨A2, c', e2, o2⟩ := h.inner s r2 hr
    refine ⟨A2, c', e2, (o2.below hal hs).grown hg ?_, fun g' hg' => ?_⟩
    · cases hb : Value.ownBlock (.slice A2 r2.length c') with
      | none => exact .inl rfl
      | some g' => exact .inr (fun e => h.apart s k _ _ g' hsk e2 hv hb e.symm)
    · rcases hat with hat | hat
      · intro e
        exact h.apart s k _ _ g' hsk e2 hv hg' (by rw [hat, e])
      · have := o2.2 g' hg'; omega
  refine ⟨⟨hset.1, fun g' e => by have := hout2.2 g' e; omega⟩, by rw [List.length_set, List.length_set]; exact h.len, ?_, ?_⟩
  · intro s r2 hr
    by_cases hsk : k = s
    · subst hsk
      rw [List.getElem?_set_self hkl] at hr
      injection hr with hr
      subst hr
      have el : (r ++ [x]).length = q + 1 := by rw [List.length_append]; simp; exact hq
      refine ⟨some ⟨g2, 0, none⟩, c2, by rw [el, List.getElem?_set_self (by rw [h.len]; exact hkl)], ?_⟩
      rw [el]
      have oR : OwnR w2 lo w2.heap.size 2 (.slice (some ⟨g2, 0, none⟩) (q + 1) c2) (q + 1) (ints (r ++ [x])) := ⟨h2, fun g' e => by have : g2 = g' := (by simpa [Value.ownBlock] using e); omega⟩
      exact oR.grown hset.2 (own_types oR.1 hout2.1 (by decide))
    · rw [List.getElem?_set_ne hsk] at hr
      obtain ⟨A2, c', e2, o2, _⟩ := other s r2 (fun e => hsk e.symm) hr
      exact ⟨A2, c', by rw [List.getElem?_set_ne hsk]; exact e2, (o2.more (Nat.le_refl _) (by omega)).grown hset.2 (own_types o2.1 hout2.1 (by decide))⟩
  · intro a b u t g' hne hu ht hb hb'
    by_cases hak : k = a
    · subst hak
      rw [List.getElem?_set_self (by rw [h.len]; exact hkl)] at hu
      rw [List.getElem?_set_ne hne] at ht
      injection hu with hu
      subst hu
      have hbl : b < m.length := by
        rcases Nat.lt_or_ge b m.length with y | y
        · exact y
        · rw [List.getElem?_eq_none (by rw [h.len]; exact y)] at ht; cases ht
      obtain ⟨A2, c', e2, _, n2⟩ := other b _ (Ne.symm hne) (List.getElem?_eq_getElem hbl)
      rw [ht] at e2
      injection e2 with e2
      subst e2
      have h1 : g2 = g' := by simpa [Value.ownBlock] using hb
      exact n2 g' hb' h1.symm
    · rw [List.getElem?_set_ne hak] at hu
      by_cases hbk : k = b
      · subst hbk
        rw [List.getElem?_set_self (by rw [h.len]; exact hkl)] at ht
        injection ht with ht
        subst ht
        have hal2 : a < m.length := by
          rcases Nat.lt_or_ge a m.length with y | y
          · exact y
          · rw [List.getElem?_eq_none (by rw [h.len]; exact y)] at hu; cases hu
        obtain ⟨A2, c', e2, _, n2⟩ := other a _ hne (List.getElem?_eq_getElem hal2)
        rw [hu] at e2
        injection e2 with e2
        subst e2
        have h1 : g2 = g' := by simpa [Value.ownBlock] using hb'
        exact n2 g' hb h1.symm
      · rw [List.getElem?_set_ne hbk] at ht
        exact h.apart a b u t g' hne hu ht hb hb'
/-- the branches up to a place -/
def partsTo (t : List Int) (i : Nat) : List (List Int) := ((t.take i).drop 1).foldl Tr.addNode []
theorem partsTo_one (t : List Int) : partsTo t 1 = [] := by
  unfold partsTo
  have : (t.take 1).drop 1 = [] := List.drop_of_length_le (by rw [List.length_take]; omega)
  rw [this]; rfl
theorem partsTo_step {t : List Int} {i : Nat} {x : Int} (hx : t[i]? = some x) (h1 : 1 ≤ i) : partsTo t (i + 1) = Tr.addNode (partsTo t i) x := by
  unfold partsTo
  rw [List.take_add_one, hx, Option.toList_some, List.drop_append_of_le_length (by
    have : i < t.length := by
      rcases Nat.lt_or_ge i t.length with y | y
      · exact y
      · rw [List.getElem?_eq_none y] at hx; cases hx
    rw [List.length_take]; omega), List.foldl_append]
  rfl
theorem partsTo_end (t : List Int) : partsTo t t.length = Tr.partsL t := by unfold partsTo Tr.partsL; rw [List.take_length]
theorem add_new (m : List (List Int)) : Tr.addNode m 1 = (m ++ [[]]).set m.length ([] ++ [1 - 1]) := by
  simp [Tr.addNode]
theorem add_last {m : List (List Int)} {x : Int} {r : List Int} (h : x ≠ 1) (hr : m[m.length - 1]? = some r) : Tr.addNode m x = m.set (m.length - 1) (r ++ [x - 1]) := by
  unfold Tr.addNode
  simp only [if_neg h]
  rw [List.getD_eq_getElem?_getD, hr]; rfl
theorem add_length (m : List (List Int)) (x : Int) : (Tr.addNode m x).length = if x = 1 then m.length + 1 else m.length := by
  unfold Tr.addNode
  split <;> simp
theorem add_bd {m : List (List Int)} {x : Int} {q : Nat} (h : ∀ r ∈ m, r.length ≤ q) : ∀ r ∈ Tr.addNode m x, r.length ≤ q + 1 := by
  intro r hr
  unfold Tr.addNode at hr
  have hm : ∀ r ∈ (if x = 1 then m ++ [[]] else m), r.length ≤ q := by
    intro r hr
    split at hr
    · rw [List.mem_append] at hr
      rcases hr with hr | hr
      · exact h r hr
      · rw [List.mem_singleton] at hr; subst hr; simp
    · exact h r hr
  rcases List.mem_or_eq_of_mem_set hr with hr | rfl
  · have := hm r hr; omega
  · rw [List.length_append]
    have : ∀ k, ((if x = 1 then m ++ [[]] else m).getD k []).length ≤ q := fun k => by
      rw [List.getD_eq_getElem?_getD]
      cases e : (if x = 1 then m ++ [[]] else m)[k]? with
      | none => simp
      | some z => exact hm z (List.mem_of_getElem? e)
    exact Nat.succ_le_succ (this ((if x = 1 then m ++ [[]] else m).length - 1))
theorem parts_bd (t : List Int) : ∀ (k : Nat), k ≤ k → ∀ {r}, r ∈ partsTo t k → r.length ≤ k
  | 0, _, r, hr => by simp [partsTo] at hr
  | k+1, _, r, hr => by
    rcases Nat.eq_zero_or_pos k with e | e
    · subst e; rw [partsTo_one] at hr; cases hr
    · cases hx : t[k]? with
      | none =>
        have e2 : partsTo t (k + 1) = partsTo t k := by unfold partsTo; rw [List.take_add_one, hx]; simp
        rw [e2] at hr
        have := parts_bd t k (Nat.le_refl _) hr; omega
      | some x =>
        rw [partsTo_step hx e] at hr
        exact add_bd (fun r hr => parts_bd t k (Nat.le_refl _) hr) r hr
theorem below_drew' {B : Nat} {a w : World} (h : Below B a w) : Below B a w.drew := ⟨h.os, h.tape, h.output, h.size, h.block⟩
set_option maxHeartbeats 1000000 in
theorem l03Parts_any (A : Option Addr) (n c B : Nat) (t : List Int) (w : World) (hl : t.length = n) (hlv : Tr.isLv t = true) (hB : B ≤ w.heap.size) (h : Row w B A (ints t)) :
    Calls Tryz.prog 58 #[.slice A n c] w (NewMat (Tr.partsL t).length (Tr.partsL t) w) := by
  obtain ⟨i0, hi, hz0, hz1, hz2⟩ := info_parts info_i64
  obtain ⟨j0, hj, hy0, hy1, hy2⟩ := info_parts info_row
  have hL := Tr.isLv_iff.1 hlv
  obtain ⟨x0, hx0⟩ := at_lt (show 0 < t.length by have := hL.1; omega)
  obtain ⟨b, o, rfl, _, _⟩ := h 0 _ (ints_at hx0)
  have HST : Hid (StepsTo t n) := by rw [Hid, ← hl]; exact hL.2.2.2
  have HZ : Hid (t.getD 0 0 = 0) := hL.2.2.1
  have n1 : 1 ≤ n := by have := hL.1; omega
  have n8 : n ≤ 8 := by have := hL.2.1; omega
  have HL := Lib.hid hl
  clear hl hlv hL hx0
  go_enter Tryz.func58, Tryz.ntmps58
  go_wp2_with fail
  go_loopw [3, 4] (fun v i wr => ∃ (k q g cap : Nat) (m : List (List Int)), 1 ≤ k ∧ k ≤ n ∧ q ≤ k ∧ (2 ≤ k → 1 ≤ q) ∧ v = .slice (some ⟨g, 0, none⟩) q cap ∧ i = .int .i64 k ∧ Hid (m = partsTo t k) ∧ Hid (m.length = q) ∧ GrowM w g q cap m wr) (fun _ i _ => n - (intOf i).toNat)
  case atStart => exact ⟨1, 0, _, 0, [], Nat.le_refl _, n1, by omega, by omega, rfl, rfl, (partsTo_one t).symm, rfl, GrowM.start ..⟩
  case round =>
    obtain ⟨k, q, g, cap, m, k1, hk, hqk, hq1, rfl, rfl, HP, HQ, vs, HM, HBel⟩ := hrel
    have hsz := HBel.size
    by_cases hlt : k < n
    · obtain ⟨x, hx⟩ := at_lt (show k < t.length by rw [HL.out]; exact hlt)
      obtain ⟨_, _, e1, _, hcx⟩ := h.below HBel hB k _ (ints_at hx)
      cases e1
      have hx1 : 1 ≤ x := by have := (HST.out k hlt k1).1; rw [lv_at hx] at this; exact this
      have hx8 : x ≤ 8 := by have := HST.out.le HZ.out k hlt; rw [lv_at hx] at this; omega
      have HPS : Hid (partsTo t (k + 1) = Tr.addNode m x) := by rw [Hid, HP.out]; exact partsTo_step hx k1
      have HXK := Lib.hid hx
      clear hx
      by_cases hxe : x = 1
      · subst hxe
        have HM' := Lib.hid HM
        have HBel' := Lib.hid HBel
        have hown1 := (HM.below ((Below.refl wr.heap.size wr).alloc (Nat.le_refl _) (.cells #[] 2)) (Nat.le_refl _)).outer.1
        clear HM HBel
        go_wp2_with (at_builtin; refine wpList_append_lies _ rfl (.tmp 18) (.tmp 20) 24 rfl w.heap.size 25 j0 _ 1 24 Tryz.underlying24 hj hy0 hy1 hy2 rfl (by omega) (.slice (some ⟨g, 0, none⟩) q cap) q vs rfl (hown1.alloc _) ⟨wr.heap.size + 1, 0, none⟩ 1 1 [.slice (some ⟨wr.heap.size, 0, none⟩) 0 0] rfl rfl (by have := World.news_of_block (w := (wr.alloc (.cells #[] 2)).alloc (.cells #[.slice (some ⟨wr.heap.size, 0, none⟩) 0 0] 25)) (cs := #[.slice (some ⟨wr.heap.size, 0, none⟩) 0 0]) (heap_alloc_new _ _); simpa using this) (by simp [Value.oneCell']) (by omega) (by simp only [maxLen]; omega) (by omega) (by simp; omega) (wr.heap.size + 2) (by simp) ?_; intro g4 cap4 w4 hown4 hgrow4 hat4 hlt4)
        have HM1 : OwnMat w4 w.heap.size w4.heap.size (.slice (some ⟨g4, 0, none⟩) (q + 1) cap4) (q + 1) (m ++ [[]]) (vs ++ [.slice (some ⟨wr.heap.size, 0, none⟩) 0 0]) :=
          (HM'.out.below ((Below.refl wr.heap.size wr).alloc (Nat.le_refl _) (.cells #[] 2)) (Nat.le_refl _)).push (row := []) (by simp) rfl (World.ownsRow_lit wr #[] 0 (Nat.le_refl _) (Nat.zero_le _) rfl) hsz hown4 hgrow4
        have hwW : w.heap.size ≤ w4.heap.size := by have := hgrow4.size; simp at this; omega
        have HBW : Hid (Below w.heap.size w w4) := ((HBel'.out.alloc hsz _).alloc (by simp; omega) _).grown hgrow4 (by simp; omega) (fun p hp => (hown1.lt p hp).1)
        have hvv : (vs ++ [Value.slice (some ⟨wr.heap.size, 0, none⟩) 0 0])[q]? = some (.slice (some ⟨wr.heap.size, 0, none⟩) 0 0) := by
          have e : vs.length = q := by rw [HM'.out.len]; exact HQ.out
          rw [List.getElem?_append_right (by omega), e, Nat.sub_self]; rfl
        have HRR : Hid ((m ++ [[]])[q]? = some []) := by
          have e := HQ.out
          rw [Hid, List.getElem?_append_right (by omega), e, Nat.sub_self]; rfl
        have HRL : Hid (([] : List Int).length = 0) := rfl
        have hrl8 : 0 ≤ 8 := by omega
        have hcx2 : w4.cell? ⟨b, o + k, none⟩ = some (.int .i64 1) := (HBW.out.cell (p := ⟨b, o + k, none⟩) (by show b < w.heap.size; omega)).trans (((HBel'.out.cell (p := ⟨b, o + k, none⟩) (by show b < w.heap.size; omega)).symm).trans hcx)
        clear hcx
        have hcx := hcx2
        have HSET : Hid ((m ++ [[]]).set q ([] ++ [1 - 1]) = partsTo t (k + 1)) := by rw [Hid, HPS.out, add_new, HQ.out]
        have HLEN : Hid ((partsTo t (k + 1)).length = q + 1) := by rw [Hid, HPS.out, add_length, if_pos rfl, HQ.out]
        clear hown4 hgrow4 hat4 hown1 hcx2
        have HM2 := Lib.hid HM1
        have hcell := HM1.outer.1.cellAt q (by omega)
        rw [hvv] at hcell
        have hfr := HM1.outer.1.frozenAt q
        have HKO : Hid (∀ (o : Obj) (W2 : World), (w4.drew.alloc o).grownBy W2 (Value.ownBlock (.slice (some ⟨wr.heap.size, 0, none⟩) 0 0)) → W2.cell? ⟨g4, q, none⟩ = some (.slice (some ⟨wr.heap.size, 0, none⟩) 0 0) ∧ W2.frozen? ⟨g4, q, none⟩ = false) := fun o W2 hg => by
          have h1 : OwnR W2 w.heap.size w4.heap.size 25 (.slice (some ⟨g4, 0, none⟩) (q + 1) cap4) (q + 1) (vs ++ [Value.slice (some ⟨wr.heap.size, 0, none⟩) 0 0]) := by
            refine OwnR.grown (w := w4.drew.alloc o) ((HM2.out.outer.keep (w' := w4.drew) fun _ _ _ => rfl).below ((Below.refl _ _).alloc (Nat.le_refl _) _) (Nat.le_refl _)) hg ?_
            obtain ⟨A9, c9, e9, o9⟩ := HM2.out.inner q [] HRR.out
            rw [hvv] at e9
            injection e9 with e9
            exact own_types HM2.out.outer.1 (by rw [e9]; exact o9.1) (by decide)
          have h2 := h1.1.cellAt q (by omega)
          rw [hvv] at h2
          exact ⟨h2, h1.1.frozenAt q⟩
        have hrow : w4.drew.ownsRow w.heap.size 2 1 (.slice (some ⟨wr.heap.size, 0, none⟩) 0 0) 0 (ints []) := by
          obtain ⟨A9, c9, e9, o9⟩ := HM2.out.inner q [] HRR.out
          rw [hvv] at e9
          injection e9 with e9
          have o10 := (o9.keep (w' := w4.drew) fun _ _ _ => rfl).1
          have el := HRL.out
          rw [← e9, el] at o10
          exact o10
        have HROW := Lib.hid hrow
        have HVV := Lib.hid hvv
        have rl8 : 0 ≤ 8 := hrl8
        clear HM1 hvv hrow hrl8
        have hcx' : w4.drew.cell? ⟨b, o + k, none⟩ = some (.int .i64 1) := hcx
        have hcell' : w4.drew.cell? ⟨g4, q, none⟩ = some (.slice (some ⟨wr.heap.size, 0, none⟩) 0 0) := hcell
        have hfr' : w4.drew.frozen? ⟨g4, q, none⟩ = false := hfr
        have hwd : w.heap.size ≤ w4.drew.heap.size := hwW
        have HG : Hid (∀ (o : Obj) (W2 : World) (g5 cap5 : Nat), W2.ownsRow w.heap.size 2 1 (.slice (some ⟨g5, 0, none⟩) (0 + 1) cap5) (0 + 1) (ints [] ++ [.int .i64 (1 - 1)]) → (w4.drew.alloc o).grownBy W2 (Value.ownBlock (.slice (some ⟨wr.heap.size, 0, none⟩) 0 0)) → (Value.ownBlock (.slice (some ⟨wr.heap.size, 0, none⟩) 0 0) = some g5 ∨ g5 = w4.drew.heap.size + 1) → g5 < W2.heap.size → GrowM w g4 (q + 1) cap4 (partsTo t (k + 1)) (W2.setCell ⟨g4, q, none⟩ (.slice (some ⟨g5, 0, none⟩) (0 + 1) cap5))) := fun o W2 g5 cap5 hown5 hgrow5 hat5 hlt5 => by
          have e1 : ints [] ++ [.int .i64 (1 - 1)] = ints ([] ++ [1 - 1]) := by simp [ints, intsK]
          rw [e1] at hown5
          have h1 := OwnMat.app_row (w := w4.drew) (HM2.out.keep (w' := w4.drew) fun _ _ _ => rfl) (Nat.le_refl _) HRR.out HVV.out HRL.out hown5 hgrow5 hat5 hlt5
          rw [HSET.out] at h1
          refine ⟨_, by rw [show ∀ (p : Addr) (v : Value), (W2.setCell p v).heap.size = W2.heap.size from fun p v => by simp [World.setCell]]; exact h1, ?_⟩
          refine below_set (((below_drew' HBW.out).alloc hwd _).grown hgrow5 (by simp; omega) (fun q hq => (HROW.out.lt q hq).1)) ?_ _
          exact (HM2.out.outer.1.lt g4 rfl).1
        have hwr : IntKind.i64.wrap (1 - 1) = 1 - 1 := IntWalk.i64_in _ (by omega)
        have s0 : (0 : Int) ≤ (q : Int) := by omega
        have s1 : (q : Int) < (q : Int) + 1 := by omega
        have s2 : (0 : Int) ≤ (k : Int) := by omega
        have s3 : (k : Int) < (n : Int) := by omega
        go_wp2_with fail
        have hrow2 := HROW.out
        go_region_law (first | (go_loud (refine step_append_lies _ (by rfl) _ _ 25 (by rfl) w.heap.size 2 i0 _ 1 8 Tryz.underlying25 hi hz0 hz1 hz2 rfl (by omega) (.slice (some ⟨wr.heap.size, 0, none⟩) 0 0) 0 (ints []) rfl (hrow2.alloc _) ⟨w4.drew.heap.size, 0, none⟩ 1 1 [.int .i64 (1 - 1)] rfl rfl (World.news_of_block (cs := #[.int .i64 (1 - 1)]) (heap_alloc_new _ _)) (by simp [Value.oneCell']) (by omega) (by simp only [maxLen]; omega) (by omega) (by simp; omega) (w4.drew.heap.size + 1) (by simp) ?_); intro g5 cap5 w5 hown5 hgrow5 hat5 hlt5; obtain ⟨hc5, hf5⟩ := HKO.out _ _ hgrow5))
        all_goals
          have G := Lib.hid (HG.out _ _ _ _ hown5 hgrow5 hat5 hlt5)
          clear hown5 hgrow5 hat5 hc5 hf5 hrow2 hwr
          try clear hcellA
          go_wp2
          go_roundw
          case rel => exact ⟨k + 1, q + 1, g4, cap4, _, by omega, by omega, by omega, by omega, rfl, by go_num, rfl, HLEN.out, G.out⟩
          case measure => simp [intOf]; omega
      · have h2k : 2 ≤ k := by
          rcases Nat.lt_or_ge k 2 with y | y
          · have e : k = 1 := by omega
            subst e
            have h9 := (HST.out 1 hlt (Nat.le_refl _)).2
            rw [lv_at HXK.out, HZ.out] at h9
            omega
          · exact y
        obtain ⟨p, rfl⟩ : ∃ p, q = p + 1 := ⟨q - 1, by have := hq1 h2k; omega⟩
        have tx := beq_f hxe
        have hmp : p < m.length := by rw [HQ.out]; omega
        obtain ⟨r, hr⟩ := at_lt hmp
        obtain ⟨Ar, cr, hvv, hor⟩ := HM.inner p r hr
        have HM1 := HM
        have hwW := hsz
        have HBW := Lib.hid HBel
        have HRR := Lib.hid hr
        obtain ⟨rl, hrl⟩ : ∃ rl, rl = r.length := ⟨_, rfl⟩
        have HRL : Hid (r.length = rl) := hrl.symm
        rw [← hrl] at hvv
        have hrl8 : rl ≤ 8 := by
          have := parts_bd t k (by omega) (by rw [← HP.out]; exact List.mem_of_getElem? hr)
          omega
        have HSET : Hid (m.set p (r ++ [x - 1]) = partsTo t (k + 1)) := by
          have e := HQ.out
          rw [Hid, HPS.out, add_last hxe (r := r) (by rw [e]; exact hr), e]; rfl
        have HLEN : Hid ((partsTo t (k + 1)).length = p + 1) := by rw [Hid, HPS.out, add_length, if_neg hxe, HQ.out]
        clear HM HBel hr hor hrl hmp
        have HM2 := Lib.hid HM1
        have hcell := HM1.outer.1.cellAt p (by omega)
        rw [hvv] at hcell
        have hfr := HM1.outer.1.frozenAt p
        have HKO : Hid (∀ (o : Obj) (W2 : World), (wr.drew.alloc o).grownBy W2 (Value.ownBlock (.slice Ar rl cr)) → W2.cell? ⟨g, p, none⟩ = some (.slice Ar rl cr) ∧ W2.frozen? ⟨g, p, none⟩ = false) := fun o W2 hg => by
          have h1 : OwnR W2 w.heap.size wr.heap.size 25 (.slice (some ⟨g, 0, none⟩) (p + 1) cap) (p + 1) vs := by
            refine OwnR.grown (w := wr.drew.alloc o) ((HM2.out.outer.keep (w' := wr.drew) fun _ _ _ => rfl).below ((Below.refl _ _).alloc (Nat.le_refl _) _) (Nat.le_refl _)) hg ?_
            obtain ⟨A9, c9, e9, o9⟩ := HM2.out.inner p r HRR.out
            rw [hvv] at e9
            injection e9 with e9
            exact own_types HM2.out.outer.1 (by rw [e9]; exact o9.1) (by decide)
          have h2 := h1.1.cellAt p (by omega)
          rw [hvv] at h2
          exact ⟨h2, h1.1.frozenAt p⟩
        have hrow : wr.drew.ownsRow w.heap.size 2 1 (.slice Ar rl cr) rl (ints r) := by
          obtain ⟨A9, c9, e9, o9⟩ := HM2.out.inner p r HRR.out
          rw [hvv] at e9
          injection e9 with e9
          have o10 := (o9.keep (w' := wr.drew) fun _ _ _ => rfl).1
          have el := HRL.out
          rw [← e9, el] at o10
          exact o10
        have HROW := Lib.hid hrow
        have HVV := Lib.hid hvv
        have rl8 : rl ≤ 8 := hrl8
        clear HM1 hvv hrow hrl8
        have hcx' : wr.drew.cell? ⟨b, o + k, none⟩ = some (.int .i64 x) := hcx
        have hcell' : wr.drew.cell? ⟨g, p, none⟩ = some (.slice Ar rl cr) := hcell
        have hfr' : wr.drew.frozen? ⟨g, p, none⟩ = false := hfr
        have hwd : w.heap.size ≤ wr.drew.heap.size := hwW
        have HG : Hid (∀ (o : Obj) (W2 : World) (g5 cap5 : Nat), W2.ownsRow w.heap.size 2 1 (.slice (some ⟨g5, 0, none⟩) (rl + 1) cap5) (rl + 1) (ints r ++ [.int .i64 (x - 1)]) → (wr.drew.alloc o).grownBy W2 (Value.ownBlock (.slice Ar rl cr)) → (Value.ownBlock (.slice Ar rl cr) = some g5 ∨ g5 = wr.drew.heap.size + 1) → g5 < W2.heap.size → GrowM w g (p + 1) cap (partsTo t (k + 1)) (W2.setCell ⟨g, p, none⟩ (.slice (some ⟨g5, 0, none⟩) (rl + 1) cap5))) := fun o W2 g5 cap5 hown5 hgrow5 hat5 hlt5 => by
          have e1 : ints r ++ [.int .i64 (x - 1)] = ints (r ++ [x - 1]) := by simp [ints, intsK]
          rw [e1] at hown5
          have h1 := OwnMat.app_row (w := wr.drew) (HM2.out.keep (w' := wr.drew) fun _ _ _ => rfl) (Nat.le_refl _) HRR.out HVV.out HRL.out hown5 hgrow5 hat5 hlt5
          rw [HSET.out] at h1
          refine ⟨_, by rw [show ∀ (p : Addr) (v : Value), (W2.setCell p v).heap.size = W2.heap.size from fun p v => by simp [World.setCell]]; exact h1, ?_⟩
          refine below_set (((below_drew' HBW.out).alloc hwd _).grown hgrow5 (by simp; omega) (fun q hq => (HROW.out.lt q hq).1)) ?_ _
          exact (HM2.out.outer.1.lt g rfl).1
        have hwr : IntKind.i64.wrap (x - 1) = x - 1 := IntWalk.i64_in _ (by omega)
        have s0 : (0 : Int) ≤ (p : Int) := by omega
        have s1 : (p : Int) < (p : Int) + 1 := by omega
        have s2 : (0 : Int) ≤ (k : Int) := by omega
        have s3 : (k : Int) < (n : Int) := by omega
        have hcellA : ∀ o : Obj, (wr.alloc o).cell? ⟨g, p, none⟩ = some (.slice Ar rl cr) := fun o => (((Below.refl wr.heap.size wr).alloc (Nat.le_refl _) o).cell (p := ⟨g, p, none⟩) (lt_of_cell hcell)).trans hcell
        go_wp2_with fail
        have hrow2 := HROW.out
        go_region_law (first | (go_loud (refine step_append_lies _ (by rfl) _ _ 25 (by rfl) w.heap.size 2 i0 _ 1 8 Tryz.underlying25 hi hz0 hz1 hz2 rfl (by omega) (.slice Ar rl cr) rl (ints r) rfl (hrow2.alloc _) ⟨wr.drew.heap.size, 0, none⟩ 1 1 [.int .i64 (x - 1)] rfl rfl (World.news_of_block (cs := #[.int .i64 (x - 1)]) (heap_alloc_new _ _)) (by simp [Value.oneCell']) (by omega) (by simp only [maxLen]; omega) (by omega) (by simp; omega) (wr.drew.heap.size + 1) (by simp) ?_); intro g5 cap5 w5 hown5 hgrow5 hat5 hlt5; obtain ⟨hc5, hf5⟩ := HKO.out _ _ hgrow5))
        all_goals
          have G := Lib.hid (HG.out _ _ _ _ hown5 hgrow5 hat5 hlt5)
          clear hown5 hgrow5 hat5 hc5 hf5 hrow2 hwr
          try clear hcellA
          go_wp2
          go_roundw
          case rel => exact ⟨k + 1, p + 1, g, cap, _, by omega, by omega, by omega, by omega, rfl, by go_num, rfl, HLEN.out, G.out⟩
          case measure => simp [intOf]; omega
    · obtain rfl : k = n := by omega
      have e : m = Tr.partsL t := by rw [HP.out, ← HL.out]; exact partsTo_end t
      have G : Hid (NewMat (Tr.partsL t).length (Tr.partsL t) w (.returned (.slice (some ⟨g, 0, none⟩) q cap)) wr) := by
        have h1 := GrowM.done ⟨vs, HM, HBel⟩
        rw [e] at h1
        have e2 : (Tr.partsL t).length = q := by rw [← e]; exact HQ.out
        rw [Hid, e2]; exact h1
      clear HM HBel e
      go_wp2
      go_ret
      exact G.out
end Go.Proofs.YtpngohklicgbjaaGreat
/-
  Stage weights: the model's walk.
-/
namespace Go.Proofs.YtpngohklicgbjaaGreat
open Go.RowKit Fld
set_option linter.unusedVariables false
set_option linter.unusedSimpArgs false
set_option maxRecDepth 100000

theorem stillW {P : Program} {f : FuncId} {args : Array Value} {w : World} {v : Value} (h : Calls P f args w fun e w' => e = .returned v ∧ w = w') : Calls P f args w fun e w' => e = .returned v ∧ w' = w :=
  h.mono fun _ _ ⟨h1, h2⟩ => ⟨h1, h2.symm⟩
def StageM (d : Nat) : Prop := ∀ (t : List Int) (A D A2 : Option Addr) (n c dd n2 c2 B B2 : Nat) (m : List (List Int)) (w : World), Tr.isLv t = true → t.length ≤ d → t.length = n2 → m.length = n → 1 ≤ n → n ≤ 8 → Wide m n → (∀ r ∈ m, allNum r = true) → B ≤ w.heap.size → B2 ≤ w.heap.size → Mat w B A m → Row w B2 A2 (ints t) →
  Calls Tryz.prog 32 #[.agg #[.slice A n c, .slice D n dd], .slice A2 n2 c2] w (NewRow 2 n (ints (sw m n (Tr.txt t))) w)
set_option maxHeartbeats 4000000 in
theorem stageM_succ (d : Nat) (IH : StageM d) : StageM (d + 1) := by
  intro t A D A2 n c dd n2 c2 B B2 m w hlv htd hl2 hl hn1 hn hq hnum hB hB2 h h2
  obtain ⟨_, hpt, hq7⟩ := Tr.can_parts hlv
  have HLV := Lib.hid hlv
  have HL := Lib.hid hl
  have HL2 := Lib.hid hl2
  have HQ := Lib.hid hq
  have HN := Lib.hid hnum
  have hn2 : n2 ≤ 8 := by rw [← hl2]; exact (lv_bd hlv).2
  obtain ⟨W0, hW0⟩ : ∃ W0, W0 = w.alloc (.cells #[.slice A n c, .slice D n dd] 27) := ⟨_, rfl⟩
  have HB : Hid (Below w.heap.size w W0) := by rw [hW0]; exact (Below.refl _ _).alloc (Nat.le_refl _) _
  have HBX : Hid (Bx W0 w.heap.size 27 (.slice A n c) (.slice D n dd)) := by rw [hW0]; exact Bx.new _ _ _ _
  have zA : w.heap.size < W0.heap.size := HBX.out.lt
  have HM := Lib.hid (h.below HB.out hB)
  have HT := Lib.hid (h2.below HB.out hB2)
  have IHb : Hid (∀ b ∈ Tr.partsL t, ∀ (V : World) (A3 : Option Addr) (c3 B3 : Nat), B ≤ V.heap.size → B3 ≤ V.heap.size → Mat V B A m → Row V B3 A3 (ints b) → Calls Tryz.prog 32 #[.agg #[.slice A n c, .slice D n dd], .slice A3 b.length c3] V (NewRow 2 n (ints (sw m n (Tr.txt b))) V)) := fun b hb V A3 c3 B3 h1 h2 h3 h4 =>
    IH b A D A3 n c dd b.length c3 B B3 m V (hpt b hb).1 (by have := (hpt b hb).2; omega) rfl HL.out hn1 hn HQ.out HN.out h1 h2 h3 h4
  have HPT : Hid (∀ b ∈ Tr.partsL t, Tr.isLv b = true) := fun b hb => (hpt b hb).1
  have hq7' : (Tr.partsL t).length ≤ 7 := hq7
  have HALL : Hid (swTo m n ((Tr.partsL t).map Tr.txt) (Tr.partsL t).length = sw m n (Tr.txt t)) := swTo_parts hlv rfl
  have CB := fun V (hV : Below W0.heap.size W0 V) => l03Parts_any A2 n2 c2 B2 t V HL2.out HLV.out (by have := hV.size; omega) (HT.out.below hV (by omega))
  obtain ⟨L, hL⟩ : ∃ L, L = Tr.partsL t := ⟨_, rfl⟩
  rw [← hL] at IHb HPT HALL hq7'
  simp only [← hL] at CB
  obtain ⟨q, hqq⟩ : ∃ q, q = L.length := ⟨_, rfl⟩
  have HQL := Lib.hid hqq
  rw [← hqq] at hq7' HALL
  simp only [← hqq] at CB
  clear hl hl2 hq hnum h h2 hpt hL hqq htd IH hlv hq7
  go_enter Tryz.func32, Tryz.ntmps32
  go_wp2_with fail
  rw [← hW0]
  clear hW0
  refine (l09Ones_any n W0 hn).mono ?_
  rintro e w1 ⟨A1, c1, rfl, own1, b1⟩
  obtain ⟨g1, rfl, hg0, hg1⟩ := own_block own1 hn1
  have hc1 := own_cap own1
  have hz1 := b1.size
  have HO1 := Lib.hid own1
  have HB1 := Lib.hid b1
  clear own1 b1
  go_wp2_with fail
  refine (CB w1 HB1.out).mono ?_
  rintro e w2 ⟨A3, c3, vs, rfl, own2, b2⟩
  have hz2 := b2.size
  have HO2 := Lib.hid own2
  have S0 : Hid (WState w w2 2 g1 n c1 (swTo m n (L.map Tr.txt) 0) w2) := by
    refine ⟨?_, Within.refl _ _ _⟩
    exact ((((OwnR.of HO1.out).below b2 (Nat.le_refl _)).more (Nat.le_of_lt zA) (Nat.le_refl _))).1
  have HB2 := Lib.hid (HB1.out.trans (b2.mono hz1))
  have HBX2 := Lib.hid (HBX.out.next HB2.out)
  have HM2 := Lib.hid (HM.out.below HB2.out (by omega))
  have HBW := Lib.hid (HB.out.trans (HB2.out.mono (Nat.le_of_lt zA)))
  have FR : Hid (∀ xs wr, WState w w2 2 g1 n c1 xs wr → Mat wr w2.heap.size A3 L ∧ Bx wr w.heap.size 27 (.slice A n c) (.slice D n dd) ∧ Mat wr B A m ∧ Below w.heap.size w wr ∧ w2.heap.size ≤ wr.heap.size) := fun xs wr hs =>
    ⟨(HO2.out.within hs.2 (Nat.le_refl _) (by omega)).mat, HBX2.out.within hs.2 (by omega), HM2.out.below (hs.2.below (B := B) (by omega) (by omega)) (Nat.le_refl _), Below.then HBW.out hs.2 (by omega) (by omega), hs.2.size⟩
  clear own2 b2 HO1 HB1 CB HM HB HBX HB2 HT
  go_wp2_with fail
  go_loopw [7] (fun i wr => ∃ k : Nat, k ≤ q ∧ i = .int .i64 k ∧ WState w w2 2 g1 n c1 (swTo m n (L.map Tr.txt) k) wr) (fun i _ => q - (intOf i).toNat)
  case atStart => exact ⟨0, Nat.zero_le _, rfl, S0.out⟩
  case round =>
    obtain ⟨k, hk, rfl, HS⟩ := hrel
    by_cases hlt : k < q
    · obtain ⟨b, hb⟩ := at_lt (show k < L.length by have := HQL.out; omega)
      obtain ⟨hbr, hbx, hmat, hbw, hzr⟩ := FR.out _ _ HS
      obtain ⟨b3, o3, Ak, ck, rfl, hb3, hcb, hbl, hbm2, hbrow⟩ := hbr k b hb
      unfold maxLen at hbm2
      have hbm := List.mem_of_getElem? hb
      have hbt := Tr.tx_txt (HPT.out b hbm)
      have KK : Hid (∀ V, Below wr.heap.size wr V → V.cell? ⟨w.heap.size, 0, none⟩ = some (.slice A n c) ∧ V.cell? ⟨w.heap.size, 1, none⟩ = some (.slice D n dd) ∧ V.cell? ⟨b3, o3 + k, none⟩ = some (.slice Ak b.length ck)) := fun V hV => ⟨(hbx.next hV).c0, (hbx.next hV).c1, (hV.cell (p := ⟨b3, o3 + k, none⟩) (show b3 < _ by omega)).trans hcb⟩
      have C1 := fun V (hV : Below wr.heap.size wr V) => IHb.out b hbm V Ak ck w2.heap.size (by have := hV.size; omega) (by have := hV.size; omega) (hmat.below hV (by omega)) (hbrow.below hV (by omega))
      have C2 := fun V (hV : Below wr.heap.size wr V) A4 c4 (h3 : Row V V.heap.size A4 (ints (sw m n (Tr.txt b)))) => l09Times_any A A4 n c c4 B V.heap.size m (sw m n (Tr.txt b)) V HL.out hn HQ.out HN.out (sw_len HL.out hbt) (sw_num hbt) (by have := hV.size; omega) (Nat.le_refl _) (hmat.below hV (by omega)) h3
      have HSB := Lib.hid HS
      have HE := Lib.hid (swTo_succ (m := m) (n := n) (L := L.map Tr.txt) (k := k) (b := Tr.txt b) (by rw [List.getElem?_map, hb]; rfl))
      have hPl : Hid ((appL m (sw m n (Tr.txt b))).length = n) := (appL_length _ _).trans HL.out
      have hPn : Hid (allNum (appL m (sw m n (Tr.txt b))) = true) := appL_num _ _
      have hVl : Hid ((swTo m n (L.map Tr.txt) k).length = n) := swTo_len HL.out _ _
      have hVn : Hid (allNum (swTo m n (L.map Tr.txt) k) = true) := swTo_num _ _ _ _
      obtain ⟨P, hP⟩ : ∃ P, P = appL m (sw m n (Tr.txt b)) := ⟨_, rfl⟩
      obtain ⟨V0, hV0⟩ : ∃ V, V = swTo m n (L.map Tr.txt) k := ⟨_, rfl⟩
      rw [← hP] at HE hPl hPn
      simp only [← hP] at C2
      rw [← hV0] at HE HSB hVl hVn
      have k0 : (0 : Int) ≤ (k : Int) := Int.natCast_nonneg _
      have k1 : (k : Int) < (q : Int) := by omega
      clear hb hbr hbx hmat hbm hbt HS hP hV0 hbrow
      go_wp2_with fail
      go_region_held3 (fun V => V.cell? ⟨w.heap.size, 0, none⟩ = some (.slice A n c) ∧ V.cell? ⟨w.heap.size, 1, none⟩ = some (.slice D n dd) ∧ V.cell? ⟨b3, o3 + k, none⟩ = some (.slice Ak b.length ck))
        (first | exact KK.out _ (Below.refl _ _) | exact KK.out _ (Below.refl _ _).drew | exact KK.out _ (below_drewN (Below.refl _ _) _) | exact KK.out _ (below_undrawn (a := 1) be3) | exact KK.out _ ((below_undrawn (a := 1) be3).trans (be4.mono (below_undrawn (a := 1) be3).size)))
        (first
          | (go_at_call 32; refine (C1 _ (by first | exact (Below.refl _ _).drew | exact below_drewN (Below.refl _ _) _)).mono ?_; clear C1; rintro e w3 ⟨A4, c4, rfl, own3, be3⟩)
          | (go_at_call 59; refine (C2 _ (by exact below_undrawn (a := 1) be3) A4 c4 (by exact row_of_own own3)).mono ?_; clear C2; rintro e w4 ⟨A5, c5, rfl, own4, be4⟩))
      have hb34 : Below wr.heap.size wr w4 := (below_undrawn (a := 1) be3).trans (be4.mono (below_undrawn (a := 1) be3).size)
      have hz3 : wr.heap.size ≤ w3.heap.size := (below_undrawn (a := 1) be3).size
      have hz4 := be4.size
      have HS4 := Lib.hid (HSB.out.below hb34)
      have HO4 := Lib.hid (OwnR.of own4)
      have hzw := HSB.out.2.size
      clear own3 own4 be3 be4 hb34 KK hcb
      go_wp2_with fail
      go_loopw [9] (fun i wj => ∃ j : Nat, j ≤ n ∧ i = .int .i64 j ∧ WState w w2 2 g1 n c1 ((mulL V0 P).take j ++ V0.drop j) wj ∧ Within g1 (g1 + 1) w4 wj) (fun i _ => n - (intOf i).toNat)
      case atStart => exact ⟨0, Nat.zero_le _, rfl, by simpa using HS4.out, Within.refl _ _ _⟩
      case round =>
        obtain ⟨j, hj, rfl, HJ, HW4⟩ := hrel
        have hUl : Hid ((mulL V0 P).length = n) := mulL_length hVl.out hPl.out
        by_cases hjl : j < n
        · obtain ⟨p, hp⟩ := at_lt (show j < P.length by rw [hPl.out]; exact hjl)
          obtain ⟨v, hv⟩ := at_lt (show j < V0.length by rw [hVl.out]; exact hjl)
          obtain ⟨p0, p1⟩ := num_at hPn.out hp
          obtain ⟨v0, v1⟩ := num_at hVn.out hv
          obtain ⟨b5, o5, rfl, _, hcp⟩ := (HO4.out.within HW4 (Nat.le_refl _) (by omega)).row j _ (ints_at hp)
          have hcv := HJ.1.cellAt j (by omega)
          rw [ints_at (mix_atW hv (by rw [hVl.out, hUl.out]))] at hcv
          have hfv := HJ.1.frozenAt j
          have HU := mulL_at hv hp
          obtain ⟨u, hu⟩ : ∃ u, u = v * p % 10007 := ⟨_, rfl⟩
          have C5 : Hid (∀ w : World, Calls Tryz.prog 60 #[.int .i64 v, .int .i64 p] w fun e w' => e = .returned (.int .i64 u) ∧ w = w') := fun w => by rw [hu]; exact l01Mul_any _ _ _ v0 v1 p0 p1
          rw [← hu] at HU
          have HJd := HJ.drewN 1
          have G1 := HJd.put (u := u) hjl
          rw [mix_stepW HU (by rw [hVl.out, hUl.out])] at G1
          have HG1 : Hid (WState w w2 2 g1 n c1 ((mulL V0 P).take (j + 1) ++ V0.drop (j + 1)) (wr.drew.setCell ⟨g1, j, none⟩ (.int .i64 u))) := G1
          have HG2 : Hid (Within g1 (g1 + 1) w4 (wr.drew.setCell ⟨g1, j, none⟩ (.int .i64 u))) := (HW4.trans (Within.of_below (below_drewN (Below.refl _ _) 1))).trans (Within.grown (HJd.1.stored j (.int .i64 u)).2 (fun g' e => by injection e with e; subst e; exact ⟨Nat.le_refl _, Nat.lt_succ_self _⟩))
          have j0 : (0 : Int) ≤ (j : Int) := Int.natCast_nonneg _
          have j1 : (j : Int) < (n : Int) := by omega
          have hcv' : wr.drew.cell? ⟨g1, j, none⟩ = some (.int .i64 v) := hcv
          have hfv' : wr.drew.frozen? ⟨g1, j, none⟩ = false := hfv
          have hcp' : wr.drew.cell? ⟨b5, o5 + j, none⟩ = some (.int .i64 p) := hcp
          clear hp hv HJ HW4 HU G1 hu HJd
          go_wp2_with fail
          refine wp_region_still_tail 12 (by kernel_rfl) (by kernel_rfl) ?_
          simp only [List.take_succ_cons, List.take_zero, List.drop_succ_cons, List.drop_zero]
          repeat still_step
          refine wpStill_step (fun K hK => ?_)
          go_simp
          refine ⟨_, stillW (C5.out _), hK _ ?_⟩
          clear hK K
          repeat still_step
          refine wpStill_nil ?_
          change wpList _ _ _ _ _ wr.drew
          go_wp2
          go_roundw
          case rel => exact ⟨j + 1, by omega, by go_num, by exact HG1.out, by exact HG2.out⟩
          case measure => simp [intOf]; omega
        · obtain rfl : j = n := by omega
          rw [List.take_of_length_le (by rw [hUl.out]; exact Nat.le_refl _), List.drop_of_length_le (by rw [hVl.out]; exact Nat.le_refl _), List.append_nil, ← HE.out] at HJ
          have HJH := Lib.hid HJ
          clear HJ HW4
          go_wp2
          go_roundw
          case rel => exact ⟨k + 1, by omega, by go_num, HJH.out⟩
          case measure => simp [intOf]; omega
    · obtain rfl : k = q := by omega
      rw [HALL.out] at HS
      have G : Hid (NewRow 2 n (ints (sw m n (Tr.txt t))) w (.returned (.slice (some ⟨g1, 0, none⟩) n c1)) wr) := ⟨_, _, rfl, HS.1, (FR.out _ _ HS).2.2.2.1⟩
      clear HS
      go_wp2
      go_ret
      exact G.out
theorem stageM_upto : ∀ d, StageM d
  | 0 => fun t A D A2 n c dd n2 c2 B B2 m w hlv htd => by have := (lv_bd hlv).1; omega
  | d + 1 => stageM_succ d (stageM_upto d)
theorem l09Stages_any (t : List Int) (A D A2 : Option Addr) (n c dd n2 c2 B B2 : Nat) (m : List (List Int)) (w : World) (hlv : Tr.isLv t = true) (hl2 : t.length = n2) (hl : m.length = n) (hn1 : 1 ≤ n) (hn : n ≤ 8) (hq : Wide m n) (hnum : ∀ r ∈ m, allNum r = true) (hB : B ≤ w.heap.size) (hB2 : B2 ≤ w.heap.size) (h : Mat w B A m) (h2 : Row w B2 A2 (ints t)) :
    Calls Tryz.prog 32 #[.agg #[.slice A n c, .slice D n dd], .slice A2 n2 c2] w (NewRow 2 n (ints (sw m n (Tr.txt t))) w) := stageM_upto t.length t A D A2 n c dd n2 c2 B B2 m w hlv (Nat.le_refl _) hl2 hl hn1 hn hq hnum hB hB2 h h2
set_option maxHeartbeats 2000000 in
theorem l09Weight_any (t : List Int) (A D A2 : Option Addr) (n c d n2 c2 B B' B2 : Nat) (m : List (List Int)) (b : List Int) (w : World) (hlv : Tr.isLv t = true) (hl2 : t.length = n2) (hl : m.length = n) (hl' : b.length = n) (hn1 : 1 ≤ n) (hn : n ≤ 8) (hq : Wide m n) (hnum : ∀ r ∈ m, allNum r = true) (hnb : allNum b = true) (hB : B ≤ w.heap.size) (hB' : B' ≤ w.heap.size) (hB2 : B2 ≤ w.heap.size) (h : Mat w B A m) (r : Row w B' D (ints b)) (h2 : Row w B2 A2 (ints t)) :
    Calls Tryz.prog 98 #[.agg #[.slice A n c, .slice D n d], .slice A2 n2 c2] w fun e w' => e = .returned (.int .i64 (wtT m b n (Tr.txt t))) ∧ Below w.heap.size w w' := by
  have HL := Lib.hid hl
  have HL' := Lib.hid hl'
  have HL2 := Lib.hid hl2
  have HQ := Lib.hid hq
  have HN := Lib.hid hnum
  have HLV := Lib.hid hlv
  obtain ⟨W0, hW0⟩ : ∃ W0, W0 = w.alloc (.cells #[.slice A n c, .slice D n d] 27) := ⟨_, rfl⟩
  have HB : Hid (Below w.heap.size w W0) := by rw [hW0]; exact (Below.refl _ _).alloc (Nat.le_refl _) _
  have HX : Bx W0 w.heap.size 27 (.slice A n c) (.slice D n d) := by rw [hW0]; exact Bx.new _ _ _ _
  have hz := HB.out.size
  have HM := Lib.hid (h.below HB.out hB)
  have HR := Lib.hid (r.below HB.out hB')
  have HT := Lib.hid (h2.below HB.out hB2)
  have hx := Tr.tx_txt hlv
  have KK : Hid (∀ V, Below W0.heap.size W0 V → V.cell? ⟨w.heap.size, 0, none⟩ = some (.slice A n c) ∧ V.cell? ⟨w.heap.size, 1, none⟩ = some (.slice D n d)) := fun V hV => ⟨(HX.next hV).c0, (HX.next hV).c1⟩
  have C1 := fun V (hV : Below W0.heap.size W0 V) => l09Stages_any t A D A2 n c d n2 c2 B B2 m V HLV.out HL2.out HL.out hn1 hn HQ.out HN.out (by have := hV.size; omega) (by have := hV.size; omega) (HM.out.below hV (by omega)) (HT.out.below hV (by omega))
  have C2 := fun V (hV : Below W0.heap.size W0 V) A3 c3 (h3 : Row V V.heap.size A3 (ints (sw m n (Tr.txt t)))) => l01Dot_any D A3 n d c3 B' V.heap.size b (sw m n (Tr.txt t)) V HL'.out (sw_len HL.out hx) (by omega) (HR.out.below hV (by omega)) h3 hnb (sw_num hx)
  have HW : Hid (wtT m b n (Tr.txt t) = dotK b (sw m n (Tr.txt t)) n) := rfl
  rw [HW.out]
  clear hl hl' hl2 hq hnum h r h2 HX HW hlv hx
  go_enter Tryz.func98, Tryz.ntmps98
  go_wp2_with fail
  change Code.wp _ _ _ _ (w.alloc (.cells #[.slice A n c, .slice D n d] 27))
  rw [← hW0]
  clear hW0
  go_region_held3 (fun V => V.cell? ⟨w.heap.size, 0, none⟩ = some (.slice A n c) ∧ V.cell? ⟨w.heap.size, 1, none⟩ = some (.slice D n d))
    (first | exact KK.out _ (Below.refl _ _) | exact KK.out _ (Below.refl _ _).drew | exact KK.out _ (below_drewN (Below.refl _ _) _) | exact KK.out _ (below_undrawn (a := 1) b2) | exact KK.out _ (below_drewN (below_undrawn (a := 1) b2) _))
    (first
      | (go_at_call 32; refine (C1 _ (by first | exact (Below.refl _ _).drew | exact below_drewN (Below.refl _ _) _)).mono ?_; clear C1; rintro e w2 ⟨A4, c4, rfl, own2, b2⟩)
      | (go_at_call 87; refine (C2 _ (by exact below_undrawn (a := 1) b2) A4 c4 (by exact row_of_own own2)).mono ?_; clear C2; rintro e w3 ⟨rfl, j3, rfl⟩))
  have hb2 : Below W0.heap.size W0 w2 := below_undrawn (a := 1) b2
  have G : Hid (Below w.heap.size w (w2.drewN j3)) := below_drewN (HB.out.trans (hb2.mono HB.out.size)) _
  clear own2 b2 hb2 KK
  go_wp2
  go_ret
  exact ⟨rfl, G.out⟩
/-- the code of a tableau and a tree -/
def codeTT (m : List (List Int)) (b t : List Int) : Int := if isTabB m b = true ∧ Tr.isLv t = true then 0 else 1
set_option maxHeartbeats 2000000 in
theorem l09Code_any (A D : Option Addr) (n c n' d B B' : Nat) (m : List (List Int)) (b : List Int) (w : World) (hl : m.length = n) (hl' : b.length = n') (hn : n ≤ 9223372036854775807) (hn' : n' ≤ 9223372036854775807) (hB : B ≤ w.heap.size) (hB' : B' ≤ w.heap.size) (h : Mat w B A m) (r : Row w B' D (ints b)) (A2 : Option Addr) (n2 c2 B2 : Nat) (t : List Int) (hl2 : t.length = n2) (hn2 : n2 ≤ 1048576) (hB2 : B2 ≤ w.heap.size) (h2 : Row w B2 A2 (ints t)) :
    Calls Tryz.prog 31 #[.agg #[.slice A n c, .slice D n' d], .slice A2 n2 c2] w fun e w' => e = .returned (.int .i64 (codeTT m b t)) ∧ Below w.heap.size w w' := by
  have HL := Lib.hid hl
  have HL' := Lib.hid hl'
  have HL2 := Lib.hid hl2
  obtain ⟨W0, hW0⟩ : ∃ W0, W0 = w.alloc (.cells #[.slice A n c, .slice D n' d] 27) := ⟨_, rfl⟩
  have HB : Hid (Below w.heap.size w W0) := by rw [hW0]; exact (Below.refl _ _).alloc (Nat.le_refl _) _
  have HM : Hid (Mat W0 B A m) := h.below HB.out hB
  have HR : Hid (Row W0 B' D (ints b)) := r.below HB.out hB'
  have HT : Hid (Row W0 B2 A2 (ints t)) := h2.below HB.out hB2
  have HX : Hid (Bx W0 w.heap.size 27 (.slice A n c) (.slice D n' d)) := by rw [hW0]; exact Bx.new _ _ _ _
  have hz := HB.out.size
  clear hl hl' hl2 h r h2
  cases ht : isTabB m b
  · have G : Hid (codeTT m b t = 1) := by unfold codeTT; rw [Hid, if_neg (by rw [ht]; simp)]
    go_enter Tryz.func31, Tryz.ntmps31
    go_wp2_with fail
    rw [← hW0]
    refine (l09Is_any A D n c n' d B B' m b W0 HL.out HL'.out hn hn' (by omega) (by omega) HM.out HR.out).mono ?_
    rintro e w2 ⟨rfl, b2⟩
    rw [ht]
    have HB2 := Lib.hid (HB.out.trans (b2.mono HB.out.size))
    clear b2 hW0 ht
    go_wp2
    go_ret
    exact ⟨ret_i64 G.out.symm, HB2.out⟩
  · go_enter Tryz.func31, Tryz.ntmps31
    go_wp2_with fail
    rw [← hW0]
    refine (l09Is_any A D n c n' d B B' m b W0 HL.out HL'.out hn hn' (by omega) (by omega) HM.out HR.out).mono ?_
    rintro e w2 ⟨rfl, b2⟩
    rw [ht]
    have hz2 := b2.size
    have C0 := l03Is_any A2 n2 c2 B2 t w2 HL2.out hn2 (HT.out.below b2 (by omega))
    have HB2 := Lib.hid (HB.out.trans (b2.mono HB.out.size))
    cases hlv : Tr.isLv t
    · have G : Hid (codeTT m b t = 1) := by unfold codeTT; rw [Hid, if_neg (by rw [hlv]; simp)]
      rw [hlv] at C0
      clear b2 hW0 ht
      go_wp2_with fail
      refine C0.mono ?_
      rintro e w3 ⟨rfl, j3, rfl⟩
      have HB3 := Lib.hid (below_drewN HB2.out j3)
      clear C0
      go_wp2
      go_ret
      exact ⟨ret_i64 G.out.symm, HB3.out⟩
    · have G : Hid (codeTT m b t = 0) := by unfold codeTT; rw [Hid, if_pos ⟨ht, hlv⟩]
      rw [hlv] at C0
      clear b2 hW0 ht
      go_wp2_with fail
      refine C0.mono ?_
      rintro e w3 ⟨rfl, j3, rfl⟩
      have HB3 := Lib.hid (below_drewN HB2.out j3)
      clear C0
      go_wp2
      go_ret
      exact ⟨ret_i64 G.out.symm, HB3.out⟩
set_option maxHeartbeats 4000000 in
theorem sStageWeights_L (A D : Option Addr) (n c n' d B B' : Nat) (m : List (List Int)) (b : List Int) (w : World) (hl : m.length = n) (hl' : b.length = n') (hn : n ≤ 9223372036854775807) (hn' : n' ≤ 9223372036854775807) (hB : B ≤ w.heap.size) (hB' : B' ≤ w.heap.size) (h : Mat w B A m) (r : Row w B' D (ints b)) (A2 : Option Addr) (n2 c2 B2 : Nat) (t : List Int) (hl2 : t.length = n2) (hn2 : n2 ≤ 1048576) (hB2 : B2 ≤ w.heap.size) (h2 : Row w B2 A2 (ints t)) :
    Calls Tryz.prog 8 #[.agg #[.slice A n c, .slice D n' d], .slice A2 n2 c2] w (ResL (stageWA m b t) w) := by
  have HL := Lib.hid hl
  have HL' := Lib.hid hl'
  have HL2 := Lib.hid hl2
  obtain ⟨W0, hW0⟩ : ∃ W0, W0 = w.alloc (.cells #[.slice A n c, .slice D n' d] 27) := ⟨_, rfl⟩
  have HB : Hid (Below w.heap.size w W0) := by rw [hW0]; exact (Below.refl _ _).alloc (Nat.le_refl _) _
  have HM : Hid (Mat W0 B A m) := h.below HB.out hB
  have HR : Hid (Row W0 B' D (ints b)) := r.below HB.out hB'
  have HT : Hid (Row W0 B2 A2 (ints t)) := h2.below HB.out hB2
  have HX : Hid (Bx W0 w.heap.size 27 (.slice A n c) (.slice D n' d)) := by rw [hW0]; exact Bx.new _ _ _ _
  have hz := HB.out.size
  clear hl hl' hl2 h r h2
  by_cases hok : isTabB m b = true ∧ Tr.isLv t = true
  · have G : Hid (stageWA m b t = (sw m n' (Tr.txt t), 0)) := by unfold stageWA; rw [Hid, if_pos hok, HL'.out]
    have K : Hid (codeTT m b t = 0) := if_pos hok
    obtain ⟨ht, hlv⟩ := hok
    obtain ⟨t1, t2, t3, t4, t5, t6⟩ := isTabB_parts ht
    rw [HL'.out] at t1 t2 t3 t5
    have hnn : n' = n := by rw [← t3]; exact HL.out
    subst hnn
    have HW := Lib.hid t5
    have HNB := Lib.hid t4
    have HN := Lib.hid t6
    have HLV := Lib.hid hlv
    have HTX := Lib.hid (Tr.tx_txt hlv)
    clear t3 t4 t5 t6 ht hlv
    go_enter Tryz.func8, Tryz.ntmps8
    go_wp2_with fail
    rw [← hW0]
    refine (l09Code_any A D n' c n' d B B' m b W0 HL.out HL'.out hn hn' (by omega) (by omega) HM.out HR.out A2 n2 c2 B2 t HL2.out hn2 (by omega) HT.out).mono ?_
    rintro e w2 ⟨rfl, b2⟩
    rw [K.out]
    have hz2 := b2.size
    have HB2 := Lib.hid (HB.out.trans (b2.mono HB.out.size))
    have HM2 := Lib.hid (HM.out.below b2 (by omega))
    have HR2 := Lib.hid (HR.out.below b2 (by omega))
    have HT2 := Lib.hid (HT.out.below b2 (by omega))
    have q0 := (HX.out.next b2).c0
    have q1 := (HX.out.next b2).c1
    have HSL := Lib.hid (sw_len HL.out HTX.out)
    clear b2 hW0
    go_wp2_with fail
    refine (l09Stages_any t A D A2 n' c d n2 c2 B B2 m w2 HLV.out HL2.out HL.out t1 t2 HW.out HN.out (by omega) (by omega) HM2.out HT2.out).mono ?_
    rintro e w3 ⟨A3, c3, rfl, own3, b3⟩
    have HB3 := Lib.hid (HB2.out.trans (b3.mono HB2.out.size))
    have GR : Hid (ResL (stageWA m b t) w (.returned (.tuple #[.slice A3 n' c3, .int .i64 0])) w3) := ResL.of G.out HSL.out (by omega) ((OwnR.of own3).more HB2.out.size (Nat.le_refl _)).1 HB3.out
    clear own3 b3 q0 q1
    go_wp2
    go_ret2
    exact GR.out
  · have G : Hid (stageWA m b t = ([], 1)) := by unfold stageWA; rw [Hid, if_neg hok]
    have K : Hid (codeTT m b t = 1) := if_neg hok
    clear hok
    go_enter Tryz.func8, Tryz.ntmps8
    go_wp2_with fail
    rw [← hW0]
    refine (l09Code_any A D n c n' d B B' m b W0 HL.out HL'.out hn hn' (by omega) (by omega) HM.out HR.out A2 n2 c2 B2 t HL2.out hn2 (by omega) HT.out).mono ?_
    rintro e w2 ⟨rfl, b2⟩
    rw [K.out]
    have HB2 := Lib.hid (HB.out.trans (b2.mono HB.out.size))
    clear b2 hW0
    go_wp2
    go_ret2
    exact ResL.nil G.out HB2.out
end Go.Proofs.YtpngohklicgbjaaGreat
/-
  Stage weights by the branches that BranchesOf answers, plain.
-/
namespace Go.Proofs.YtpngohklicgbjaaGreat
open Go.RowKit Fld
set_option linter.unusedVariables false
set_option linter.unusedSimpArgs false
set_option maxRecDepth 100000

def chkBr (t : List Int) : Bool := ((Tr.branL t).map Tr.txt).isPerm (Tr.brT (Tr.txt t)) && ((Tr.branL t).all (fun r => Tr.isLv r) && decide ((Tr.branL t).length ≤ 8))
theorem chkBr_all : Tr.allLv.all chkBr = true := by decide +kernel
theorem branL_facts {t : List Int} (h : Tr.isLv t = true) : ((Tr.branL t).map Tr.txt).Perm (Tr.brT (Tr.txt t)) ∧ (∀ r ∈ Tr.branL t, Tr.isLv r = true) ∧ (Tr.branL t).length ≤ 8 := by
  have := Tr.all_of chkBr_all (Tr.isLv_iff.1 h)
  unfold chkBr at this
  rw [Bool.and_eq_true, Bool.and_eq_true] at this
  exact ⟨List.isPerm_iff.1 this.1, fun r hr => List.all_eq_true.1 this.2.1 r hr, of_decide_eq_true this.2.2⟩
theorem swTo_bran {m : List (List Int)} {n q : Nat} {t : List Int} (h : Tr.isLv t = true) (hq : (Tr.branL t).length = q) : swTo m n ((Tr.branL t).map Tr.txt) q = sw m n (Tr.txt t) := by
  rw [sw_eq (Tr.tx_txt h)]; unfold swTo; rw [List.take_of_length_le (by rw [List.length_map]; omega)]
  exact (branL_facts h).1.foldl_eq' (fun x _ y _ z => mulL_right _ _ _) _
end Go.Proofs.YtpngohklicgbjaaGreat
/-
  What the sum of products of two lists is, the program's and the model's alike.
-/
namespace Go.Proofs.YtpngohklicgbjaaGreat
open Go.RowKit Fld
set_option linter.unusedVariables false
set_option linter.unusedSimpArgs false
set_option maxRecDepth 100000

theorem dotA_no {n n' : Nat} {xs ys : List Int} (h : 64 < n ∨ n ≠ n' ∨ allNum xs = false ∨ allNum ys = false) : dotA n n' xs ys = (0, 2) :=
  if_neg (fun g => by rcases h with h | h | h | h; omega; exact h g.2.1; rw [h] at g; exact Bool.noConfusion g.2.2.1; rw [h] at g; exact Bool.noConfusion g.2.2.2)
set_option maxHeartbeats 400000 in
theorem dotOf_any' (A A' : Option Addr) (n n' c c' B B' : Nat) (xs ys : List Int) (w : World) (hl : xs.length = n) (hl' : ys.length = n') (hn : n ≤ 1048576) (hn' : n' ≤ 1048576) (hB : B ≤ w.heap.size) (hB' : B' ≤ w.heap.size) (h : Row w B A (ints xs)) (h' : Row w B' A' (ints ys)) :
    Calls Tryz.prog 11 #[.slice A n c, .slice A' n' c'] w fun e w' => e = .returned (.tuple #[.int .i64 (dotA n n' xs ys).1, .int .i64 (dotA n n' xs ys).2]) ∧ Below w.heap.size w w' := by
  have HL := Lib.hid hl
  have HL' := Lib.hid hl'
  clear hl hl'
  by_cases hb : n ≤ 64
  · by_cases hnn : n = n'
    · cases ha : allNum xs
      · have H := Lib.hid (dotA_no (n := n) (n' := n') (ys := ys) (.inr (.inr (.inl ha))))
        have t1 : ((n : Int) != n') = false := bne_f (by omega)
        clear hnn
        go_enter Tryz.func11, Tryz.ntmps11
        go_wp2_with fail
        refine (areNumbers_any _ _ _ B xs _ HL.out (by omega) h).mono ?_
        rintro e w' ⟨rfl, rfl⟩
        go_wp2
        go_ret2
        exact ⟨ret_pair H.out, Below.refl _ _⟩
      · cases ha' : allNum ys
        · have H := Lib.hid (dotA_no (n := n) (n' := n') (xs := xs) (.inr (.inr (.inr ha'))))
          have t1 : ((n : Int) != n') = false := bne_f (by omega)
          clear hnn
          go_enter Tryz.func11, Tryz.ntmps11
          go_wp2_with fail
          refine (areNumbers_any _ _ _ B xs _ HL.out (by omega) h).mono ?_
          rintro e w' ⟨rfl, rfl⟩
          go_wp2_with fail
          refine (areNumbers_any _ _ _ B' ys _ HL'.out (by omega) h').mono ?_
          rintro e w' ⟨rfl, rfl⟩
          go_wp2
          go_ret2
          exact ⟨ret_pair H.out, Below.refl _ _⟩
        · subst hnn
          have H := Lib.hid (show dotA n n xs ys = (dotK xs ys n, 0) from if_pos ⟨hb, rfl, ha, ha'⟩)
          have HA := Lib.hid ha
          have HA' := Lib.hid ha'
          go_enter Tryz.func11, Tryz.ntmps11
          go_wp2_with fail
          refine (areNumbers_any _ _ _ B xs _ HL.out (by omega) h).mono ?_
          rintro e w' ⟨rfl, rfl⟩
          go_wp2_with fail
          refine (areNumbers_any _ _ _ B' ys _ HL'.out (by omega) h').mono ?_
          rintro e w' ⟨rfl, rfl⟩
          go_wp2_with fail
          refine (numbersOf_any _ n _ B xs _ HL.out (by omega) hB h).mono ?_
          rintro e w1 ⟨A1, c1, rfl, own1, bel1⟩
          go_wp2_with fail
          refine (numbersOf_any _ n _ B' ys _ HL'.out (by omega) (Nat.le_trans hB' bel1.size) (h'.below bel1 hB')).mono ?_
          rintro e w2 ⟨A2, c2, rfl, own2, bel2⟩
          have r1 := (row_of_own own1).below bel2 (Nat.le_refl _)
          have r2 := row_of_own own2
          have bel3 : Below w.heap.size w w2 := bel1.trans (bel2.mono bel1.size)
          go_wp2_with fail
          refine (dotOf_any _ _ n _ _ _ _ xs ys _ HL.out HL'.out (by omega) r1 r2 HA.out HA'.out).mono ?_
          rintro e w' ⟨rfl, m, rfl⟩
          go_wp2
          go_ret2
          exact ⟨ret_pair H.out, below_drewN bel3 _⟩
    · have H := Lib.hid (dotA_no (xs := xs) (ys := ys) (.inr (.inl hnn)))
      have t1 : ((n : Int) != n') = true := bne_t (by omega)
      clear hnn
      go_enter Tryz.func11, Tryz.ntmps11
      go_wp2
      go_ret2
      exact ⟨ret_pair H.out, Below.refl _ _⟩
  · have H := Lib.hid (dotA_no (n := n) (n' := n') (xs := xs) (ys := ys) (.inl (by omega)))
    go_enter Tryz.func11, Tryz.ntmps11
    go_wp2
    go_ret2
    exact ⟨ret_pair H.out, Below.refl _ _⟩
end Go.Proofs.YtpngohklicgbjaaGreat
/-
  The laws' comparison of lists; lists in memory.
-/
namespace Go.Proofs.YtpngohklicgbjaaGreat
open Go.RowKit Fld
set_option linter.unusedVariables false
set_option linter.unusedSimpArgs false
set_option maxRecDepth 100000

set_option maxHeartbeats 400000 in
theorem likeInts_any (A A' : Option Addr) (n n' c c' B B' : Nat) (xs ys : List Int) (w : World) (hl : xs.length = n) (hl' : ys.length = n') (hn : n ≤ 9223372036854775807) (hn' : n' ≤ 9223372036854775807) (h : Row w B A (ints xs)) (h' : Row w B' A' (ints ys)) :
    Calls Tryz.prog 9 #[.slice A n c, .slice A' n' c'] w fun e w' => e = .returned (.bool (eqL xs ys)) ∧ ∃ m, w' = w.drewN m := by
  have HL := Lib.hid hl
  have HL' := Lib.hid hl'
  clear hl hl'
  by_cases hnn : n = n'
  · subst hnn
    go_enter Tryz.func9, Tryz.ntmps9
    go_wp2_with fail
    go_loopw [5] (fun i wr => ∃ k m : Nat, k ≤ n ∧ i = .int .i64 k ∧ wr = w.drewN m ∧ Hid (xs.take k = ys.take k)) (fun i _ => n - (intOf i).toNat)
    case atStart => exact ⟨0, 0, Nat.zero_le _, rfl, rfl, rfl⟩
    case round =>
      obtain ⟨k, m, hk, rfl, rfl, HT⟩ := hrel
      by_cases hlt : k < n
      · obtain ⟨x, hx⟩ := at_lt (show k < xs.length by rw [HL.out]; exact hlt)
        obtain ⟨y, hy⟩ := at_lt (show k < ys.length by rw [HL'.out]; exact hlt)
        obtain ⟨b, o, rfl, _, hc⟩ := h k _ (ints_at hx)
        obtain ⟨b', o', rfl, _, hc'⟩ := h' k _ (ints_at hy)
        by_cases hxy : x = y
        · subst hxy
          have G := Lib.hid (take_same HT.out hx hy)
          clear hx hy HT
          go_wp2_with fail
          go_quiet (fail)
          go_wp2
          go_roundw
          case rel => exact ⟨k + 1, _, by omega, by go_num, rfl, G⟩
          case measure => simp [intOf]; omega
        · have G := Lib.hid (eqL_at hx hy hxy)
          have t := bne_t hxy
          clear hx hy HT hxy
          go_wp2_with fail
          go_quiet (fail)
          go_wp2
          go_ret
          exact ⟨ret_bool G.out.symm, _, World.drewN_drewN ..⟩
      · obtain rfl : k = n := by omega
        have G := Lib.hid (eqL_end HT.out HL.out HL'.out)
        clear HT
        go_wp2
        go_ret
        exact ⟨ret_bool G.out.symm, _, rfl⟩
  · have G := Lib.hid (eqL_len (xs := xs) (ys := ys) (by rw [HL.out, HL'.out]; exact hnn))
    have t := bne_t (show (n : Int) ≠ (n' : Int) by omega)
    clear hnn
    go_enter Tryz.func9, Tryz.ntmps9
    go_wp2
    go_ret
    exact ⟨ret_bool G.out.symm, 0, rfl⟩

/-- a list in memory -/
def Lst (w : World) (A : Option Addr) (L : List Int) : Prop := Row w w.heap.size A (ints L)
theorem Lst.next {w w' : World} {A : Option Addr} {L : List Int} (h : Lst w A L) (b : Below w.heap.size w w') : Lst w' A L := (Row.below h b (Nat.le_refl _)).more b.size
theorem Lst.drew {w : World} {A : Option Addr} {L : List Int} (h : Lst w A L) (n : Nat) : Lst (w.drewN n) A L := h
theorem Lst.redrew {w : World} {A : Option Addr} {L : List Int} {a : Nat} (h : Lst (w.drewN a) A L) (n : Nat) : Lst (w.drewN (a + n)) A L := h
theorem below_redrewN {B : Nat} {a w : World} {m : Nat} (h : Below B a (w.drewN m)) (n : Nat) : Below B a (w.drewN (m + n)) := below_drewN (w := w) ⟨h.os, h.tape, h.output, h.size, h.block⟩ _
theorem Src.drew {w : World} {T : TypeId} {G B : Nat} {xs : List Int} (s : Src w T G B xs) (n : Nat) : Src (w.drewN n) T G B xs := s
theorem Src.redrew {w : World} {T : TypeId} {G B a : Nat} {xs : List Int} (s : Src (w.drewN a) T G B xs) (n : Nat) : Src (w.drewN (a + n)) T G B xs := s
theorem Lst.alloc {w : World} {A : Option Addr} {L : List Int} (h : Lst w A L) (o : Obj) : Lst (w.alloc o) A L := h.next ((Below.refl _ _).alloc (Nat.le_refl _) _)
theorem Lst.only {w w' : World} {A : Option Addr} {L : List Int} {G B : Nat} (h : Row w B A (ints L)) (hB : B ≤ w.heap.size) (k : w.grownBy w' (some G)) (hG : B ≤ G) : Lst w' A L := (Row.only h k hG).more (Nat.le_trans hB k.size)
theorem below_step {B : Nat} {a w w' : World} (h : Below B a w) (hB : B ≤ w.heap.size) (k : Below w.heap.size w w') : Below B a w' := h.trans (k.mono hB)
/-- a list in memory below B -/
def Low (w : World) (B : Nat) (A : Option Addr) (L : List Int) : Prop := Row w B A (ints L) ∧ B ≤ w.heap.size
theorem Low.of {w : World} {A : Option Addr} {L : List Int} (h : Lst w A L) : Low w w.heap.size A L := ⟨h, Nat.le_refl _⟩
theorem Low.next {w w' : World} {B : Nat} {A : Option Addr} {L : List Int} (h : Low w B A L) (b : Below w.heap.size w w') : Low w' B A L := ⟨Row.below h.1 b h.2, Nat.le_trans h.2 b.size⟩
theorem Low.drew {w : World} {B : Nat} {A : Option Addr} {L : List Int} (h : Low w B A L) (n : Nat) : Low (w.drewN n) B A L := h
theorem Low.redrew {w : World} {B a : Nat} {A : Option Addr} {L : List Int} (h : Low (w.drewN a) B A L) (n : Nat) : Low (w.drewN (a + n)) B A L := h
theorem Low.only {w w' : World} {B G : Nat} {A : Option Addr} {L : List Int} (h : Low w B A L) (k : w.grownBy w' (some G)) (hG : B ≤ G) : Low w' B A L := ⟨Row.only h.1 k hG, Nat.le_trans h.2 k.size⟩
theorem Low.lst {w : World} {B : Nat} {A : Option Addr} {L : List Int} (h : Low w B A L) : Lst w A L := Row.more h.1 h.2
theorem likeInts_yes (A A' : Option Addr) (n n' c c' : Nat) (xs ys : List Int) (w : World) (e : xs = ys) (hl : xs.length = n) (hl' : ys.length = n') (hn : n ≤ 1048576) (h : Lst w A xs) (h' : Lst w A' ys) :
    Calls Tryz.prog 9 #[.slice A n c, .slice A' n' c'] w fun e w' => e = .returned (.bool true) ∧ ∃ m, w' = w.drewN m := by
  subst e
  refine (likeInts_any A A' n n' c c' _ _ xs xs w hl hl' (by omega) (by omega) h h').mono ?_
  rintro e w' ⟨rfl, m, rfl⟩
  exact ⟨by rw [eqL_self], m, rfl⟩
end Go.Proofs.YtpngohklicgbjaaGreat
