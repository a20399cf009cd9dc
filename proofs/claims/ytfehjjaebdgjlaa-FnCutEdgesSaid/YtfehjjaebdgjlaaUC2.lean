/-
  Texts of this seat, joined: what several laws lean on.
-/
import Derived.Test.YtfehjjaebdgjlaaUC1
import Derived.Maps.OwnSet
import Derived.Sort.KeysCollected
import Derived.Test.YtfehjjaebdgjlaaBase
import Derived.BigRegion
import Derived.Deep.RegionHeld3
import Derived.Test.YtfehjjaebdgjlaaIter
import Derived.CallsIn
import Derived.Maps.RangeWalk
import Derived.Test.YtfehjjaebdgjlaaTreeD
import Derived.Test.YtfehjjaebdgjlaaSCan
import Derived.Test.YtfehjjaebdgjlaaOwn1
import Derived.Test.YtfehjjaebdgjlaaNestc
import Derived.Test.YtfehjjaebdgjlaaMark1
import Derived.Deep.AppendLies
import Derived.Test.YtfehjjaebdgjlaaGrfP
import Derived.Test.YtfehjjaebdgjlaaGrfL
import Derived.Test.YtfehjjaebdgjlaaSlices
import Derived.Laws.AppendOwnNone
import Derived.Test.YtfehjjaebdgjlaaGrfS
import Derived.Test.YtfehjjaebdgjlaaTurnP
import Derived.BigQuiet
/-
  Sums of trees in a map of the program: what the map holds is told as a function of texts; a tree is added to it.
-/
namespace Go.Proofs.Ytfehjjaebdgjlaa
open Go.RowKit Fld Go.Maps Go.Sort
set_option linter.unusedVariables false
set_option linter.unusedSimpArgs false
set_option maxRecDepth 100000

theorem keyed : Keyed Try.prog 59 := Maps.string_keyed Try.underlying59
theorem zeroCount (w : World) : (zeroValue 2).run Try.prog w = .ok (.int .i64 0) w := by kernel_rfl
theorem keyTx {x : List UInt8} (h : x.length ≤ 1048576) : keyOf Try.prog 59 (.string ⟨x.toArray⟩) = some (.string x) := by
  have h1 := Go.WideMaps.keyOf_string_mk (P := Try.prog) (k := 59) Try.underlying59 (s := ⟨x.toArray⟩) (by simp [ByteArray.size, maxLen]; omega)
  simpa using h1
theorem keyLit {x : List UInt8} : WideAt.IsKeyLit (.string x) := by simp [WideAt.IsKeyLit]
/-- the datum of a map that holds the numbers f, and no 0 -/
def HoldsF (D : DataW Unit) (f : List UInt8 → Int) : Prop :=
  (∀ x, D.atKey (.string x) (.lit (.int .i64 0)) = .lit (.int .i64 (f x))) ∧ ∀ x, Maps.has D (.string x) = decide (f x ≠ 0)
/-- block b is a map that holds the numbers f -/
def MapF (w : World) (b n : Nat) (f : List UInt8 → Int) : Prop :=
  ∃ D : DataW Unit, w.ownsMap Try.prog 59 (plainElem Try.prog 2) b n D ∧ HoldsF D f
def bump (f : List UInt8 → Int) (x : List UInt8) (c : Int) : List UInt8 → Int := fun y => if y = x then f x + c else f y
theorem MapF.made (w : World) : MapF (w.alloc (.map #[] 0)) w.heap.size 0 (fun _ => 0) :=
  ⟨.map [], World.ownsMap_made _ _ _ _, fun x => by simp [DataW.atKey], fun x => by simp [Maps.has]⟩
theorem MapF.lt {w : World} {b n : Nat} {f : List UInt8 → Int} (h : MapF w b n f) : b < w.heap.size := by
  obtain ⟨D, h1, _⟩ := h
  exact h1.lt
theorem MapF.below {w w' : World} {b n B : Nat} {f : List UInt8 → Int} (h : MapF w b n f) (hb : Below B w w') (hB : b < B) : MapF w' b n f := by
  obtain ⟨D, ⟨es, clock, h1, r⟩, h2⟩ := h
  exact ⟨D, ⟨es, clock, (hb.block b hB).trans h1, r⟩, h2⟩
theorem MapF.next {w w' : World} {b n : Nat} {f : List UInt8 → Int} (h : MapF w b n f) (hb : Below w.heap.size w w') : MapF w' b n f := h.below hb h.lt
theorem MapF.kept {w w' : World} {b n : Nat} {row : Option Nat} {f : List UInt8 → Int} (h : MapF w b n f) (hg : w.grownBy w' row) (hne : some b ≠ row) : MapF w' b n f := by
  obtain ⟨D, h1, h2⟩ := h
  exact ⟨D, h1.kept hg hne, h2⟩
theorem HoldsF.put {D : DataW Unit} {f : List UInt8 → Int} {x : List UInt8} {c : Int} (h : HoldsF D f) (hm : IsMap D) (hz : f x + c ≠ 0) : HoldsF (D.put (.string x) (.lit (.int .i64 (f x + c)))) (bump f x c) := by
  refine ⟨fun y => ?_, fun y => ?_⟩
  · unfold bump
    by_cases e : y = x
    · subst e
      rw [if_pos rfl, Maps.atKey_put_same hm keyLit]
    · rw [if_neg e, Maps.atKey_put_other (fun q => e (by injection q))]; exact h.1 y
  · unfold bump
    by_cases e : y = x
    · subst e
      rw [if_pos rfl, Maps.has_put_same hm keyLit, decide_eq_true hz]
    · rw [if_neg e, Maps.has_put_other (fun q => e (by injection q))]; exact h.2 y
theorem HoldsF.del {D : DataW Unit} {f : List UInt8 → Int} {x : List UInt8} {c : Int} {d : DataW Unit} (h : HoldsF D f) (hz : f x + c = 0) : HoldsF ((D.put (.string x) d).del (.string x)) (bump f x c) := by
  refine ⟨fun y => ?_, fun y => ?_⟩
  · unfold bump
    by_cases e : y = x
    · subst e
      rw [if_pos rfl, Maps.atKey_del_same, hz]
    · rw [if_neg e, Maps.atKey_del_other (fun q => e (by injection q)), Maps.atKey_put_other (fun q => e (by injection q))]; exact h.1 y
  · unfold bump
    by_cases e : y = x
    · subst e
      rw [if_pos rfl, Maps.has_del_same, hz]; rfl
    · rw [if_neg e, Maps.has_del_other (fun q => e (by injection q)), Maps.has_put_other (fun q => e (by injection q))]; exact h.2 y
set_option maxHeartbeats 1000000 in
theorem add_any (b n : Nat) (x : List UInt8) (c : Int) (f : List UInt8 → Int) (w : World) (h : MapF w b n f) (hx : x.length ≤ 1048576) (hn : n ≤ 1000000) (hf : -1000000000000 ≤ f x ∧ f x ≤ 1000000000000) (hc : -1000000000000 ≤ c ∧ c ≤ 1000000000000) :
    Calls Try.prog 68 #[.map (some b), .string ⟨x.toArray⟩, .int .i64 c] w fun e w' => e = .returned (.tuple #[]) ∧ MapF w' b (n + 1) (bump f x c) ∧ w.grownBy w' (some b) := by
  obtain ⟨D, hown, hD⟩ := h
  have hkey := keyTx hx
  have HD := Lib.hid hD
  have hw : IntKind.i64.wrap (f x + c) = f x + c := IntWalk.i64_in _ (by omega)
  obtain ⟨a, ha⟩ : ∃ a, a = f x := ⟨_, rfl⟩
  have HA := Lib.hid ha
  have hat0 : D.atKey (.string x) (.lit (.int .i64 0)) = .lit (.int .i64 a) := by rw [ha]; exact hD.1 x
  have HAT := Lib.hid hat0
  have hm : IsMap D := hown.isMap
  have HP1 : Hid (a + c ≠ 0 → HoldsF (D.put (.string x) (.lit (.int .i64 (a + c)))) (bump f x c)) := fun hz => by rw [ha] at hz ⊢; exact hD.put hm hz
  have HP2 : Hid (∀ d, a + c = 0 → HoldsF ((D.put (.string x) d).del (.string x)) (bump f x c)) := fun d hz => by rw [ha] at hz; exact hD.del hz
  have HPA : Hid ((D.put (.string x) (.lit (.int .i64 (a + c)))).atKey (.string x) (.lit (.int .i64 0)) = .lit (.int .i64 (a + c))) := Maps.atKey_put_same hm keyLit _ _
  rw [← ha] at hw hf
  have hwf : (Lit.int .i64 (a + c)).wf = true := by simp [Lit.wf, IntKind.min, IntKind.max, IntKind.signed, IntKind.bits]; omega
  obtain ⟨X, hX⟩ : ∃ X : ByteArray, X = ⟨x.toArray⟩ := ⟨_, rfl⟩
  rw [← hX] at hkey ⊢
  clear hD ha hat0 hm hX hx
  by_cases hz : a + c = 0
  · have hzb : (a + c == 0) = true := beq_t hz
    have HZ := Lib.hid (HP2.out (.lit (.int .i64 (a + c))) hz)
    clear hz HP1 HP2
    go_enter Try.func68, Try.ntmps68
    go_wp2_with (first
      | (at_lookup; refine wpList_lookup_own_int _ rfl _ _ 69 rfl 59 2 .i64 keyed Try.underlying69 Try.underlying2 (zeroCount _) b n D rfl hown _ _ rfl hkey ?_; intro c0 hat hwc; (have h9 := hat.symm.trans HAT.out); (obtain rfl : c0 = a := by simpa using h9); clear hat h9)
      | (at_mapUpdate; refine wpList_mapUpdate_own _ rfl _ _ _ 69 rfl 59 2 keyed Try.underlying69 _ b n _ rfl hown (by unfold maxLen; omega) _ _ _ rfl rfl hkey _ [] (plainElem_int Try.underlying2 hwf) ?_; intro w1 hown1 hgrow1)
      | (at_lookup; refine wpList_lookup_own_int _ rfl _ _ 69 rfl 59 2 .i64 keyed Try.underlying69 Try.underlying2 (zeroCount _) b (n + 1) _ rfl hown1 _ _ rfl hkey ?_; intro c1 hat hwc1; (have h9 := hat.symm.trans HPA.out); (obtain rfl : c1 = c0 + c := by simpa using h9); clear hat h9)
      | (at_delete; refine wpList_delete_own _ rfl _ _ 69 59 rfl 2 keyed Try.underlying69 _ b (n + 1) _ rfl hown1 _ _ rfl hkey ?_; intro w2 hown2 hturn2)
      | fail)
    go_end0
    exact ⟨rfl, ⟨_, hown2, HZ.out⟩, hgrow1.trans hturn2.grown⟩
  · have hzb : (a + c == 0) = false := beq_f hz
    have HZ := Lib.hid (HP1.out hz)
    clear hz HP1 HP2
    go_enter Try.func68, Try.ntmps68
    go_wp2_with (first
      | (at_lookup; refine wpList_lookup_own_int _ rfl _ _ 69 rfl 59 2 .i64 keyed Try.underlying69 Try.underlying2 (zeroCount _) b n D rfl hown _ _ rfl hkey ?_; intro c0 hat hwc; (have h9 := hat.symm.trans HAT.out); (obtain rfl : c0 = a := by simpa using h9); clear hat h9)
      | (at_mapUpdate; refine wpList_mapUpdate_own _ rfl _ _ _ 69 rfl 59 2 keyed Try.underlying69 _ b n _ rfl hown (by unfold maxLen; omega) _ _ _ rfl rfl hkey _ [] (plainElem_int Try.underlying2 hwf) ?_; intro w1 hown1 hgrow1)
      | (at_lookup; refine wpList_lookup_own_int _ rfl _ _ 69 rfl 59 2 .i64 keyed Try.underlying69 Try.underlying2 (zeroCount _) b (n + 1) _ rfl hown1 _ _ rfl hkey ?_; intro c1 hat hwc1; (have h9 := hat.symm.trans HPA.out); (obtain rfl : c1 = c0 + c := by simpa using h9); clear hat h9)
      | (at_delete; refine wpList_delete_own _ rfl _ _ 69 59 rfl 2 keyed Try.underlying69 _ b (n + 1) _ rfl hown1 _ _ rfl hkey ?_; intro w2 hown2 hturn2)
      | fail)
    go_end0
    exact ⟨rfl, ⟨_, hown1, HZ.out⟩, hgrow1⟩
end Go.Proofs.Ytfehjjaebdgjlaa
/-
  A region that draws its order: operations that their guards pass over, taken at once.
-/
namespace Go.Proofs.Ytfehjjaebdgjlaa
open Go.RowKit
set_option linter.unusedVariables false
set_option maxRecDepth 100000

def skip1 (md : Region.Mode) (ops : Array Oper) (i d : Nat) (listed : Array Bool) (a : Act) : Bool :=
  (match ops[i]? with
    | some o => (match o.dst with | some d' => d' == d | none => false) && !Region.wanted o (yielded ops a.tmps)
    | none => false) && Region.noSelect ops && Region.free md ops listed i && (Region.ready md ops listed).contains i
theorem wpAnyH_skip1 {P : Program} {md : Region.Mode} {ops : Array Oper} {Q : Exit → Act → World → Prop} {S : World → Prop} {i d fuel : Nat} {listed : Array Bool} {a : Act} {w : World}
    (hc : skip1 md ops i d listed a = true) (hS : S w)
    (h : wpAnyH P md ops (NoPanic Q) S fuel (listed.setIfInBounds i true) (a.put (some d) undef) w) : wpAnyH P md ops (NoPanic Q) S (fuel + 1) listed a w := by
  unfold skip1 at hc
  simp only [Bool.and_eq_true] at hc
  obtain ⟨⟨⟨h1, h2⟩, h3⟩, h4⟩ := hc
  cases ho : ops[i]? with
  | none => rw [ho] at h1; simp at h1
  | some o =>
    rw [ho] at h1
    simp only [Bool.and_eq_true, Bool.not_eq_true'] at h1
    obtain ⟨hd, hw⟩ := h1
    cases hdd : o.dst with
    | none => rw [hdd] at hd; simp at hd
    | some d' =>
      rw [hdd] at hd
      have e : d' = d := by simpa using hd
      subst e
      exact wpAnyH_take (i := i) (oi := o) (v := undef) ho h2 h3 h4 (fun _ _ _ h => h) (.inr ⟨hw, rfl⟩) hS (by rw [hdd]; exact h)
def skipN (md : Region.Mode) (ops : Array Oper) : List (Nat × Nat) → Array Bool → Act → Bool
  | [], _, _ => true
  | (i, d) :: l, listed, a => skip1 md ops i d listed a && skipN md ops l (listed.setIfInBounds i true) (a.put (some d) undef)
theorem wpAnyH_skipN {P : Program} {md : Region.Mode} {ops : Array Oper} {Q : Exit → Act → World → Prop} {S : World → Prop} {w : World} (hS : S w) : ∀ (l : List (Nat × Nat)) (fuel : Nat) (listed : Array Bool) (a : Act),
    skipN md ops l listed a = true → wpAnyH P md ops (NoPanic Q) S fuel (l.foldl (fun x p => x.setIfInBounds p.1 true) listed) (l.foldl (fun a p => a.put (some p.2) undef) a) w → wpAnyH P md ops (NoPanic Q) S (fuel + l.length) listed a w
  | [], _, _, _, _, h => h
  | (i, d) :: l, fuel, listed, a, hc, h => by
    rw [skipN, Bool.and_eq_true] at hc
    exact wpAnyH_skip1 hc.1 hS (wpAnyH_skipN hS l fuel _ _ hc.2 h)
end Go.Proofs.Ytfehjjaebdgjlaa
/-
  slices.SortFunc of a few texts by tree.compare; forestOf.
-/
namespace Go.Proofs.Ytfehjjaebdgjlaa
open Go.RowKit Fld
set_option linter.unusedVariables false
set_option linter.unusedSimpArgs false
set_option maxRecDepth 100000

theorem cmp_lt (x y : List UInt8) : decide (Tr.cmpT x y < 0) = !Tr.leT y x := by
  unfold Tr.leT Tr.cmpT
  by_cases h1 : x.length / 2 < y.length / 2
  · have h2 : ¬ y.length / 2 < x.length / 2 := by omega
    simp [h1, h2]
  · by_cases h2 : y.length / 2 < x.length / 2
    · simp [h1, h2]
    · rw [if_neg h1, if_neg h2, if_neg h2, if_neg h1]
      unfold Tr.ltS
      cases h3 : Tr.leS x y <;> cases h4 : Tr.leS y x <;> simp
      have := Tr.leS_to h3
      rw [h4] at this; cases this
theorem insT_le (p s : List UInt8) : (Tr.cmpT p s ≤ 0) = (Tr.leT p s = true) := by unfold Tr.leT; simp
theorem insT_perm (p : List UInt8) : ∀ l, (Tr.insT p l).Perm (p :: l)
  | [] => List.Perm.refl _
  | s :: r => by
    rw [Tr.insT]
    split
    · exact List.Perm.refl _
    · exact ((insT_perm p r).cons s).trans (List.Perm.swap p s r)
theorem sortT_perm : ∀ l, (Tr.sortT l).Perm l
  | [] => List.Perm.refl _
  | p :: r => (insT_perm p (Tr.sortT r)).trans ((sortT_perm r).cons p)
theorem insT_sorted (p : List UInt8) : ∀ l, l.Pairwise (fun a b => Tr.leT a b = true) → (Tr.insT p l).Pairwise (fun a b => Tr.leT a b = true)
  | [], _ => by simp [Tr.insT]
  | s :: r, h => by
    rw [Tr.insT]
    rw [List.pairwise_cons] at h
    cases e : Tr.leT p s
    · rw [if_neg (by rw [insT_le, e]; simp)]
      rw [List.pairwise_cons]
      refine ⟨fun x hx => ?_, insT_sorted p r h.2⟩
      rw [(insT_perm p r).mem_iff, List.mem_cons] at hx
      rcases hx with rfl | hx
      · exact Tr.leT_to e
      · exact h.1 x hx
    · rw [if_pos (by rw [insT_le]; exact e), List.pairwise_cons, List.pairwise_cons]
      refine ⟨fun x hx => ?_, h⟩
      rw [List.mem_cons] at hx
      rcases hx with rfl | hx
      · exact e
      · exact Tr.leT_tr e (h.1 x hx)
theorem sortT_sorted : ∀ l, (Tr.sortT l).Pairwise (fun a b => Tr.leT a b = true)
  | [] => List.Pairwise.nil
  | p :: r => insT_sorted p _ (sortT_sorted r)
/-- a row of texts that a sort turns, beside memory that it makes -/
def Frow (base g n cap : Nat) (w : World) (ls : List (List UInt8)) (wr : World) : Prop := wr.ownsRow base 59 1 (.slice (some ⟨g, 0, none⟩) n cap) n (strs ls) ∧ Below base w wr ∧ base ≤ wr.heap.size
theorem Frow.swap {base g n cap j : Nat} {w wr : World} {ls : List (List UInt8)} {x y : List UInt8} (h : Frow base g n cap w ls wr) :
    Frow base g n cap w ((ls.set (j + 1) y).set j x) ((wr.setCell ⟨g, j + 1, none⟩ (.string ⟨y.toArray⟩)).setCell ⟨g, j, none⟩ (.string ⟨x.toArray⟩)) := by
  obtain ⟨h1, h2⟩ := h.1.stored (j + 1) (.string ⟨y.toArray⟩)
  obtain ⟨h3, h4⟩ := h1.stored j (.string ⟨x.toArray⟩)
  rw [← strs_set, ← strs_set] at h3
  have hg : base ≤ g := (h.1.lt g rfl).1
  refine ⟨h3, below_set (below_set h.2.1 hg _) hg _, ?_⟩
  have e1 : ∀ (W : World) (p : Addr) (v : Value), (W.setCell p v).heap.size = W.heap.size := fun W p v => by simp [World.setCell]
  rw [e1, e1]; exact h.2.2
theorem Frow.below {base g n cap : Nat} {w wr w2 : World} {ls : List (List UInt8)} (h : Frow base g n cap w ls wr) (hb : Below wr.heap.size wr w2) : Frow base g n cap w ls w2 :=
  ⟨((OwnR.of h.1).below hb (Nat.le_refl _)).1, h.2.1.trans (hb.mono h.2.2), Nat.le_trans h.2.2 hb.size⟩
theorem Frow.drewN {base g n cap : Nat} {w wr : World} {ls : List (List UInt8)} (h : Frow base g n cap w ls wr) (m : Nat) : Frow base g n cap w ls (wr.drewN m) := h.below (below_drewN (Below.refl _ _) m)
set_option maxHeartbeats 4000000 in
theorem fInsert_any (base g n cap : Nat) (ss : List (List UInt8)) (w : World) (hl : ss.length = n) (h1 : 1 ≤ n) (hn : n ≤ 12) (hs16 : ∀ s ∈ ss, s.length ≤ 16) (hbase : base ≤ w.heap.size) (h : w.ownsRow base 59 1 (.slice (some ⟨g, 0, none⟩) n cap) n (strs ss)) :
    Calls Try.prog 150 #[.slice (some ⟨g, 0, none⟩) n cap, .int .i64 0, .int .i64 n, (.func (.func 88) #[] #[])] w fun e w' => e = .returned (.tuple #[]) ∧ Frow base g n cap w (Tr.sortT ss) w' := by
  have HL := Lib.hid hl
  have F0 : Hid (Frow base g n cap w (ss.take 1 ++ ss.drop 1) w) := by rw [Hid, List.take_append_drop]; exact ⟨h, Below.refl _ _, hbase⟩
  have H16 := Lib.hid hs16
  have I0 := Lib.hid (Insd.one (le := Tr.leT) ss (by omega))
  clear hl h hs16
  go_enter Try.func150, Try.ntmps150
  go_wp2_with fail
  go_loopw [8] (fun i wr => ∃ (k : Nat) (S : List (List UInt8)), 1 ≤ k ∧ k ≤ n ∧ i = .int .i64 k ∧ Hid (Insd Tr.leT ss k S) ∧ Frow base g n cap w (S ++ ss.drop k) wr) (fun i _ => n - (intOf i).toNat)
  case atStart => exact ⟨1, _, Nat.le_refl _, h1, rfl, I0, F0.out⟩
  case round =>
    obtain ⟨i, S, i1, hi, rfl, HI, HF⟩ := hrel
    by_cases hlt : i < n
    · obtain ⟨x, hx⟩ := at_lt (show i < ss.length by rw [HL.out]; exact hlt)
      have HX := Lib.hid hx
      have hin : Hid (∀ j T W, j ≤ i → Frow base g n cap w (insAt S j x (ss.drop (i + 1))) W → Insd Tr.leT ss (i + 1) T → T = S.take j ++ x :: S.drop j → Frow base g n cap w (T ++ ss.drop (i + 1)) W) := by
        intro j T W hj hW hT e
        subst e
        unfold insAt at hW
        simpa using hW
      have F1 : Hid (Frow base g n cap w (insAt S i x (ss.drop (i + 1))) wr) := by
        rw [Hid]
        have e := insAt_start (S := S) (R := ss.drop (i + 1)) (x := x)
        rw [HI.out.len] at e
        rw [e]
        have e2 : ss.drop i = x :: ss.drop (i + 1) := by
          have hlt2 : i < ss.length := by rw [HL.out]; exact hlt
          rw [List.drop_eq_getElem_cons hlt2]
          rw [List.getElem?_eq_getElem hlt2] at hx
          injection hx with hx
          rw [hx]
        rw [← e2]; exact HF
      clear hx HF F0 I0
      go_wp2_with fail
      go_loopw [9] (fun jj wr => ∃ j : Nat, j ≤ i ∧ jj = .int .i64 j ∧ Hid (∀ s ∈ S.drop j, Tr.leT x s = true) ∧ Frow base g n cap w (insAt S j x (ss.drop (i + 1))) wr) (fun jj _ => (intOf jj).toNat)
      case atStart => exact ⟨i, Nat.le_refl _, rfl, (fun s hs => by rw [List.drop_of_length_le (by rw [HI.out.len]; exact Nat.le_refl _)] at hs; cases hs), F1.out⟩
      case round =>
        obtain ⟨j, hj, rfl, HD, HF⟩ := hrel
        by_cases h0 : j = 0
        · have G : Hid (∃ T, Insd Tr.leT ss (i + 1) T ∧ Frow base g n cap w (T ++ ss.drop (i + 1)) wr) :=
            have hT := HI.out.step (le := Tr.leT) Tr.leT_tr HX.out HD.out hj (fun y hy => by omega)
            ⟨_, hT, hin.out j _ _ hj HF hT rfl⟩
          obtain rfl : j = 0 := h0
          obtain ⟨T, hT, hW⟩ := G.out
          have GT := Lib.hid hT
          have GW := Lib.hid hW
          clear HF HD F1 G hT hW hin
          go_wp2_with fail
          go_quiet (fail)
          go_wp2
          go_roundw
          case rel => exact ⟨i + 1, T, by omega, by omega, by go_num, GT, GW.out.drewN _⟩
          case measure => simp [intOf]; omega
        · obtain ⟨k, rfl⟩ : ∃ k, j = k + 1 := ⟨j - 1, by omega⟩
          obtain ⟨y, hy⟩ := at_lt (show k < S.length by rw [HI.out.len]; omega)
          have hjl : k + 1 ≤ S.length := by rw [HI.out.len]; exact hj
          have hx16 := H16.out x (List.mem_of_getElem? HX.out)
          have hy16 : y.length ≤ 16 := H16.out y (List.mem_of_mem_take ((HI.out.perm.mem_iff).1 (List.mem_of_getElem? hy)))
          have c1 := HF.1.cellAt (k + 1) (by omega)
          have c2 := HF.1.cellAt k (by omega)
          have f1 := HF.1.frozenAt (k + 1)
          have f2 := HF.1.frozenAt k
          rw [strs_at (insAt_x hjl)] at c1
          rw [strs_at (insAt_y hjl hy)] at c2
          have hd : decide ((0 : Int) < (k : Int) + 1) = true := decide_eq_true (by omega)
          have HFF := Lib.hid HF
          have HIX : Hid ((strs (insAt S (k + 1) x (ss.drop (i + 1))))[k + 1]? = some (.string ⟨x.toArray⟩)) := strs_at (insAt_x hjl)
          have HIY : Hid ((strs (insAt S (k + 1) x (ss.drop (i + 1))))[k]? = some (.string ⟨y.toArray⟩)) := strs_at (insAt_y hjl hy)
          cases hyx : Tr.leT y x
          · have HD2 : Hid (∀ s ∈ S.drop k, Tr.leT x s = true) := ins_low HD.out hy (Tr.leT_to hyx)
            have HS : Hid (insAt S k x (ss.drop (i + 1)) = ((insAt S (k + 1) x (ss.drop (i + 1))).set (k + 1) y).set k x) := (insAt_swap hjl hy).symm
            have hcl := cmp_lt x y
            rw [hyx] at hcl
            have C0 := fun w => compare_any x y w (by omega) (by omega)
            obtain ⟨v, hv⟩ : ∃ v, v = Tr.cmpT x y := ⟨_, rfl⟩
            simp only [← hv] at C0
            rw [← hv] at hcl
            have hvd : v < 0 := by simpa using hcl
            obtain ⟨X, hX⟩ : ∃ X : ByteArray, X = ⟨x.toArray⟩ := ⟨_, rfl⟩
            obtain ⟨Y, hY⟩ : ∃ Y : ByteArray, Y = ⟨y.toArray⟩ := ⟨_, rfl⟩
            rw [← hX] at c1 C0
            rw [← hY] at c2 C0
            have KK : Hid (∀ W, Below wr.heap.size wr W → W.cell? ⟨g, k + 1, none⟩ = some (.string X) ∧ W.cell? ⟨g, k, none⟩ = some (.string Y)) := fun W hb => by
              have hF := HFF.out.below hb
              have d1 := hF.1.cellAt (k + 1) (by omega)
              have d2 := hF.1.cellAt k (by omega)
              rw [HIX.out, ← hX] at d1
              rw [HIY.out, ← hY] at d2
              exact ⟨d1, d2⟩
            have ek : (((k + 1 : Nat)) : Int) = (k : Int) + 1 := by omega
            have hwk : IntKind.i64.wrap (k : Int) = (k : Int) := IntWalk.i64_in _ (by omega)
            have hk0 : (0 : Int) ≤ (k : Int) := Int.natCast_nonneg _
            have hk1 : (k : Int) + 1 < (n : Int) := by omega
            have hk2 : (k : Int) < (n : Int) := by omega
            have hk3 : (0 : Int) ≤ (k : Int) + 1 := by omega
            have GG : Hid (∀ W, Below wr.heap.size wr W → Frow base g n cap w (insAt S k x (ss.drop (i + 1))) ((W.setCell ⟨g, k + 1, none⟩ (.string Y)).setCell ⟨g, k, none⟩ (.string X))) := fun W hb => by rw [HS.out, hX, hY]; exact (HFF.out.below hb).swap
            have FZ : Hid (∀ W, Below wr.heap.size wr W → W.frozen? ⟨g, k + 1, none⟩ = false ∧ W.frozen? ⟨g, k, none⟩ = false) := fun W hb => ⟨(HFF.out.below hb).1.frozenAt (k + 1), (HFF.out.below hb).1.frozenAt k⟩
            rw [ek]
            clear HF HD F1 hjl hy hin h0 HS hcl hv hX hY HFF HIX HIY hyx hx16 hy16 f1 f2 ek hd
            go_wp2_with fail
            refine wp_region_noPanic ?_
            refine wp_region_held_drew (S := (fun w' => w'.cell? ⟨g, k + 1, none⟩ = some (.string X) ∧ w'.cell? ⟨g, k, none⟩ = some (.string Y))) (by kernel_rfl) ?_ (fun hHeld => ?_)
            · first | exact ⟨c1, c2⟩ | exact KK.out _ ⟨bel2.os, bel2.tape, bel2.output, bel2.size, bel2.block⟩
            refine wpAnyH_take (i := 0) (oi := _) (v := ?_) rfl (by kernel_rfl) (by kernel_rfl) (by kernel_rfl) (fun _ _ _ h => h) (Or.inl ⟨by kernel_rfl, ?_⟩) (by assumption) ?_
            rotate_left
            · (intro w hSw; (try dsimp only at hSw); go_simp; try (with_reducible rfl))
            try simp only [Act.put, List.setIfInBounds_toArray, List.set_cons_zero, List.set_cons_succ, List.getElem_toArray, List.getElem_cons_zero, List.getElem_cons_succ]
            refine wpAnyH_take (i := 1) (oi := _) (v := ?_) rfl (by kernel_rfl) (by kernel_rfl) (by kernel_rfl) (fun _ _ _ h => h) (Or.inl ⟨by kernel_rfl, ?_⟩) (by assumption) ?_
            rotate_left
            · (intro w hSw; (try dsimp only at hSw); go_simp; try (with_reducible rfl))
            try simp only [Act.put, List.setIfInBounds_toArray, List.set_cons_zero, List.set_cons_succ, List.getElem_toArray, List.getElem_cons_zero, List.getElem_cons_succ]
            refine wpAnyH_take (i := 2) (oi := _) (v := ?_) rfl (by kernel_rfl) (by kernel_rfl) (by kernel_rfl) (fun _ _ _ h => h) (Or.inl ⟨by kernel_rfl, ?_⟩) (by assumption) ?_
            rotate_left
            · (intro w hSw; (try dsimp only at hSw); go_simp; try (with_reducible rfl))
            try simp only [Act.put, List.setIfInBounds_toArray, List.set_cons_zero, List.set_cons_succ, List.getElem_toArray, List.getElem_cons_zero, List.getElem_cons_succ]
            refine wpAnyH_take (i := 3) (oi := _) (v := ?_) rfl (by kernel_rfl) (by kernel_rfl) (by kernel_rfl) (fun _ _ _ h => h) (Or.inl ⟨by kernel_rfl, ?_⟩) (by assumption) ?_
            rotate_left
            · (intro w hSw; (try dsimp only at hSw); go_simp; try (with_reducible rfl))
            try simp only [Act.put, List.setIfInBounds_toArray, List.set_cons_zero, List.set_cons_succ, List.getElem_toArray, List.getElem_cons_zero, List.getElem_cons_succ]
            refine wpAnyH_take (i := 4) (oi := _) (v := ?_) rfl (by kernel_rfl) (by kernel_rfl) (by kernel_rfl) (fun _ _ _ h => h) (Or.inl ⟨by kernel_rfl, ?_⟩) (by assumption) ?_
            rotate_left
            · (intro w hSw; (try dsimp only at hSw); go_simp; try (with_reducible rfl))
            try simp only [Act.put, List.setIfInBounds_toArray, List.set_cons_zero, List.set_cons_succ, List.getElem_toArray, List.getElem_cons_zero, List.getElem_cons_succ]
            refine wpAnyH_take (i := 5) (oi := _) (v := ?_) rfl (by kernel_rfl) (by kernel_rfl) (by kernel_rfl) (fun _ _ _ h => h) (Or.inl ⟨by kernel_rfl, ?_⟩) (by assumption) ?_
            rotate_left
            · (intro w hSw; (try dsimp only at hSw); go_simp; try (with_reducible rfl))
            try simp only [Act.put, List.setIfInBounds_toArray, List.set_cons_zero, List.set_cons_succ, List.getElem_toArray, List.getElem_cons_zero, List.getElem_cons_succ]
            refine wpAnyH_take (i := 6) (oi := _) (v := ?_) rfl (by kernel_rfl) (by kernel_rfl) (by kernel_rfl) (fun _ _ _ h => h) (Or.inl ⟨by kernel_rfl, ?_⟩) (by assumption) ?_
            rotate_left
            · (intro w hSw; (try dsimp only at hSw); go_simp; try (with_reducible rfl))
            try simp only [Act.put, List.setIfInBounds_toArray, List.set_cons_zero, List.set_cons_succ, List.getElem_toArray, List.getElem_cons_zero, List.getElem_cons_succ]
            refine wpAnyH_take (i := 7) (oi := _) (v := ?_) rfl (by kernel_rfl) (by kernel_rfl) (by kernel_rfl) (fun _ _ _ h => h) (Or.inl ⟨by kernel_rfl, ?_⟩) (by assumption) ?_
            rotate_left
            · (intro w hSw; (try dsimp only at hSw); go_simp; try (with_reducible rfl))
            try simp only [Act.put, List.setIfInBounds_toArray, List.set_cons_zero, List.set_cons_succ, List.getElem_toArray, List.getElem_cons_zero, List.getElem_cons_succ]
            refine wpAnyH_take (i := 8) (oi := _) (v := ?_) rfl (by kernel_rfl) (by kernel_rfl) (by kernel_rfl) (fun _ _ _ h => h) (Or.inl ⟨by kernel_rfl, ?_⟩) (by assumption) ?_
            rotate_left
            · (intro w hSw; (try dsimp only at hSw); go_simp; try (with_reducible rfl))
            try simp only [Act.put, List.setIfInBounds_toArray, List.set_cons_zero, List.set_cons_succ, List.getElem_toArray, List.getElem_cons_zero, List.getElem_cons_succ]
            refine wpAnyH_take (i := 9) (oi := _) (v := ?_) rfl (by kernel_rfl) (by kernel_rfl) (by kernel_rfl) (fun _ _ _ h => h) (Or.inl ⟨by kernel_rfl, ?_⟩) (by assumption) ?_
            rotate_left
            · (intro w hSw; (try dsimp only at hSw); go_simp; try (with_reducible rfl))
            try simp only [Act.put, List.setIfInBounds_toArray, List.set_cons_zero, List.set_cons_succ, List.getElem_toArray, List.getElem_cons_zero, List.getElem_cons_succ]
            refine wpAnyH_take (i := 10) (oi := _) (v := ?_) rfl (by kernel_rfl) (by kernel_rfl) (by kernel_rfl) (fun _ _ _ h => h) (Or.inl ⟨by kernel_rfl, ?_⟩) (by assumption) ?_
            rotate_left
            · (intro w hSw; (try dsimp only at hSw); go_simp; try (with_reducible rfl))
            try simp only [Act.put, List.setIfInBounds_toArray, List.set_cons_zero, List.set_cons_succ, List.getElem_toArray, List.getElem_cons_zero, List.getElem_cons_succ]
            refine wpAnyH_take (i := 11) (oi := _) (v := ?_) rfl (by kernel_rfl) (by kernel_rfl) (by kernel_rfl) (fun _ _ _ h => h) (Or.inl ⟨by kernel_rfl, ?_⟩) (by assumption) ?_
            rotate_left
            · (intro w hSw; (try dsimp only at hSw); go_simp; try (with_reducible rfl))
            try simp only [Act.put, List.setIfInBounds_toArray, List.set_cons_zero, List.set_cons_succ, List.getElem_toArray, List.getElem_cons_zero, List.getElem_cons_succ]
            refine wpAnyH_take (i := 12) (oi := _) (v := ?_) rfl (by kernel_rfl) (by kernel_rfl) (by kernel_rfl) (fun _ _ _ h => h) (Or.inl ⟨by kernel_rfl, ?_⟩) (by assumption) ?_
            rotate_left
            · (intro w hSw; (try dsimp only at hSw); go_simp; try (with_reducible rfl))
            try simp only [Act.put, List.setIfInBounds_toArray, List.set_cons_zero, List.set_cons_succ, List.getElem_toArray, List.getElem_cons_zero, List.getElem_cons_succ]
            refine wpAnyH_take (i := 13) (oi := _) (v := ?_) rfl (by kernel_rfl) (by kernel_rfl) (by kernel_rfl) (fun _ _ _ h => h) (Or.inl ⟨by kernel_rfl, ?_⟩) (by assumption) ?_
            rotate_left
            · (intro w hSw; (try dsimp only at hSw); go_simp; try (with_reducible rfl))
            try simp only [Act.put, List.setIfInBounds_toArray, List.set_cons_zero, List.set_cons_succ, List.getElem_toArray, List.getElem_cons_zero, List.getElem_cons_succ]
            refine wpAnyH_ready (rs := [14]) (by kernel_rfl) (by simp) (AllReadyH.cons (o := _) rfl (fun K hK => ?_) AllReadyH.nil)
            go_simp
            (go_at_call 88; refine (C0 _).mono ?_; rintro e w2 ⟨rfl, bel2⟩)
            go_wp2_with fail
            refine hK.out _ _ ?_ (fun hHeld => ?_)
            · first | exact ⟨c1, c2⟩ | exact KK.out _ ⟨bel2.os, bel2.tape, bel2.output, bel2.size, bel2.block⟩
            clear hK K
            try simp only [Act.put, List.setIfInBounds_toArray, List.set_cons_zero, List.set_cons_succ, List.getElem_toArray, List.getElem_cons_zero, List.getElem_cons_succ]
            refine wpAnyH_take (i := 15) (oi := _) (v := ?_) rfl (by kernel_rfl) (by kernel_rfl) (by kernel_rfl) (fun _ _ _ h => h) (Or.inl ⟨by kernel_rfl, ?_⟩) (by assumption) ?_
            rotate_left
            · (intro w hSw; (try dsimp only at hSw); go_simp; try (with_reducible rfl))
            try simp only [Act.put, List.setIfInBounds_toArray, List.set_cons_zero, List.set_cons_succ, List.getElem_toArray, List.getElem_cons_zero, List.getElem_cons_succ]
            refine wpAnyH_take (i := 16) (oi := _) (v := ?_) rfl (by kernel_rfl) (by kernel_rfl) (by kernel_rfl) (fun _ _ _ h => h) (Or.inl ⟨by kernel_rfl, ?_⟩) (by assumption) ?_
            rotate_left
            · (intro w hSw; (try dsimp only at hSw); go_simp; try (with_reducible rfl))
            try simp only [Act.put, List.setIfInBounds_toArray, List.set_cons_zero, List.set_cons_succ, List.getElem_toArray, List.getElem_cons_zero, List.getElem_cons_succ]
            refine wpAnyH_done (by kernel_rfl) ?_ _
            refine NoPanic.normal ?_
            have B2 : Below wr.heap.size wr w2 := ⟨bel2.os, bel2.tape, bel2.output, bel2.size, bel2.block⟩
            obtain ⟨d1, d2⟩ := KK.out _ B2
            obtain ⟨z1, z2⟩ := FZ.out _ B2
            have G2 := Lib.hid (fun m : Nat => GG.out (w2.drewN m) (below_drewN B2 m))
            clear bel2 B2 c1 c2 KK FZ GG C0
            go_wp2_with fail
            go_region
            go_wp2
            go_roundw
            case rel => exact ⟨k, by omega, by go_num, HD2, G2.out _⟩
            case measure => simp [intOf]
          · have hT := HI.out.step (le := Tr.leT) Tr.leT_tr HX.out HD.out hj (fun z _ hz => by rw [Nat.add_sub_cancel, hy] at hz; injection hz with hz; rw [← hz]; exact hyx)
            have GT : Hid (∃ T, Insd Tr.leT ss (i + 1) T ∧ ∀ W, Below wr.heap.size wr W → Frow base g n cap w (T ++ ss.drop (i + 1)) W) := ⟨_, hT, fun W hb => hin.out (k + 1) _ _ hj (HFF.out.below hb) hT rfl⟩
            have hcl := cmp_lt x y
            rw [hyx] at hcl
            have C0 := fun w => compare_any x y w (by omega) (by omega)
            obtain ⟨v, hv⟩ : ∃ v, v = Tr.cmpT x y := ⟨_, rfl⟩
            simp only [← hv] at C0
            rw [← hv] at hcl
            have hvd : ¬ v < 0 := by simpa using hcl
            obtain ⟨X, hX⟩ : ∃ X : ByteArray, X = ⟨x.toArray⟩ := ⟨_, rfl⟩
            obtain ⟨Y, hY⟩ : ∃ Y : ByteArray, Y = ⟨y.toArray⟩ := ⟨_, rfl⟩
            rw [← hX] at c1 C0
            rw [← hY] at c2 C0
            have KK : Hid (∀ W, Below wr.heap.size wr W → W.cell? ⟨g, k + 1, none⟩ = some (.string X) ∧ W.cell? ⟨g, k, none⟩ = some (.string Y)) := fun W hb => by
              have hF := HFF.out.below hb
              have d1 := hF.1.cellAt (k + 1) (by omega)
              have d2 := hF.1.cellAt k (by omega)
              rw [HIX.out, ← hX] at d1
              rw [HIY.out, ← hY] at d2
              exact ⟨d1, d2⟩
            have ek : (((k + 1 : Nat)) : Int) = (k : Int) + 1 := by omega
            have hwk : IntKind.i64.wrap (k : Int) = (k : Int) := IntWalk.i64_in _ (by omega)
            have hk0 : (0 : Int) ≤ (k : Int) := Int.natCast_nonneg _
            have hk1 : (k : Int) + 1 < (n : Int) := by omega
            have hk2 : (k : Int) < (n : Int) := by omega
            have hk3 : (0 : Int) ≤ (k : Int) + 1 := by omega
            obtain ⟨T, hT1, hT2⟩ := GT.out
            have GT1 := Lib.hid hT1
            have GT2 := Lib.hid hT2
            rw [ek]
            clear HF HD F1 hjl hy hin h0 hcl hv hX hY HFF HIX HIY hyx hx16 hy16 f1 f2 ek hd hT GT hT1 hT2
            go_wp2_with fail
            refine wp_region_noPanic ?_
            refine wp_region_held_drew (S := (fun w' => w'.cell? ⟨g, k + 1, none⟩ = some (.string X) ∧ w'.cell? ⟨g, k, none⟩ = some (.string Y))) (by kernel_rfl) ?_ (fun hHeld => ?_)
            · first | exact ⟨c1, c2⟩ | exact KK.out _ ⟨bel2.os, bel2.tape, bel2.output, bel2.size, bel2.block⟩
            refine wpAnyH_take (i := 0) (oi := _) (v := ?_) rfl (by kernel_rfl) (by kernel_rfl) (by kernel_rfl) (fun _ _ _ h => h) (Or.inl ⟨by kernel_rfl, ?_⟩) (by assumption) ?_
            rotate_left
            · (intro w hSw; (try dsimp only at hSw); go_simp; try (with_reducible rfl))
            try simp only [Act.put, List.setIfInBounds_toArray, List.set_cons_zero, List.set_cons_succ, List.getElem_toArray, List.getElem_cons_zero, List.getElem_cons_succ]
            refine wpAnyH_take (i := 1) (oi := _) (v := ?_) rfl (by kernel_rfl) (by kernel_rfl) (by kernel_rfl) (fun _ _ _ h => h) (Or.inl ⟨by kernel_rfl, ?_⟩) (by assumption) ?_
            rotate_left
            · (intro w hSw; (try dsimp only at hSw); go_simp; try (with_reducible rfl))
            try simp only [Act.put, List.setIfInBounds_toArray, List.set_cons_zero, List.set_cons_succ, List.getElem_toArray, List.getElem_cons_zero, List.getElem_cons_succ]
            refine wpAnyH_take (i := 2) (oi := _) (v := ?_) rfl (by kernel_rfl) (by kernel_rfl) (by kernel_rfl) (fun _ _ _ h => h) (Or.inl ⟨by kernel_rfl, ?_⟩) (by assumption) ?_
            rotate_left
            · (intro w hSw; (try dsimp only at hSw); go_simp; try (with_reducible rfl))
            try simp only [Act.put, List.setIfInBounds_toArray, List.set_cons_zero, List.set_cons_succ, List.getElem_toArray, List.getElem_cons_zero, List.getElem_cons_succ]
            refine wpAnyH_take (i := 3) (oi := _) (v := ?_) rfl (by kernel_rfl) (by kernel_rfl) (by kernel_rfl) (fun _ _ _ h => h) (Or.inl ⟨by kernel_rfl, ?_⟩) (by assumption) ?_
            rotate_left
            · (intro w hSw; (try dsimp only at hSw); go_simp; try (with_reducible rfl))
            try simp only [Act.put, List.setIfInBounds_toArray, List.set_cons_zero, List.set_cons_succ, List.getElem_toArray, List.getElem_cons_zero, List.getElem_cons_succ]
            refine wpAnyH_take (i := 4) (oi := _) (v := ?_) rfl (by kernel_rfl) (by kernel_rfl) (by kernel_rfl) (fun _ _ _ h => h) (Or.inl ⟨by kernel_rfl, ?_⟩) (by assumption) ?_
            rotate_left
            · (intro w hSw; (try dsimp only at hSw); go_simp; try (with_reducible rfl))
            try simp only [Act.put, List.setIfInBounds_toArray, List.set_cons_zero, List.set_cons_succ, List.getElem_toArray, List.getElem_cons_zero, List.getElem_cons_succ]
            refine wpAnyH_take (i := 5) (oi := _) (v := ?_) rfl (by kernel_rfl) (by kernel_rfl) (by kernel_rfl) (fun _ _ _ h => h) (Or.inl ⟨by kernel_rfl, ?_⟩) (by assumption) ?_
            rotate_left
            · (intro w hSw; (try dsimp only at hSw); go_simp; try (with_reducible rfl))
            try simp only [Act.put, List.setIfInBounds_toArray, List.set_cons_zero, List.set_cons_succ, List.getElem_toArray, List.getElem_cons_zero, List.getElem_cons_succ]
            refine wpAnyH_take (i := 6) (oi := _) (v := ?_) rfl (by kernel_rfl) (by kernel_rfl) (by kernel_rfl) (fun _ _ _ h => h) (Or.inl ⟨by kernel_rfl, ?_⟩) (by assumption) ?_
            rotate_left
            · (intro w hSw; (try dsimp only at hSw); go_simp; try (with_reducible rfl))
            try simp only [Act.put, List.setIfInBounds_toArray, List.set_cons_zero, List.set_cons_succ, List.getElem_toArray, List.getElem_cons_zero, List.getElem_cons_succ]
            refine wpAnyH_take (i := 7) (oi := _) (v := ?_) rfl (by kernel_rfl) (by kernel_rfl) (by kernel_rfl) (fun _ _ _ h => h) (Or.inl ⟨by kernel_rfl, ?_⟩) (by assumption) ?_
            rotate_left
            · (intro w hSw; (try dsimp only at hSw); go_simp; try (with_reducible rfl))
            try simp only [Act.put, List.setIfInBounds_toArray, List.set_cons_zero, List.set_cons_succ, List.getElem_toArray, List.getElem_cons_zero, List.getElem_cons_succ]
            refine wpAnyH_take (i := 8) (oi := _) (v := ?_) rfl (by kernel_rfl) (by kernel_rfl) (by kernel_rfl) (fun _ _ _ h => h) (Or.inl ⟨by kernel_rfl, ?_⟩) (by assumption) ?_
            rotate_left
            · (intro w hSw; (try dsimp only at hSw); go_simp; try (with_reducible rfl))
            try simp only [Act.put, List.setIfInBounds_toArray, List.set_cons_zero, List.set_cons_succ, List.getElem_toArray, List.getElem_cons_zero, List.getElem_cons_succ]
            refine wpAnyH_take (i := 9) (oi := _) (v := ?_) rfl (by kernel_rfl) (by kernel_rfl) (by kernel_rfl) (fun _ _ _ h => h) (Or.inl ⟨by kernel_rfl, ?_⟩) (by assumption) ?_
            rotate_left
            · (intro w hSw; (try dsimp only at hSw); go_simp; try (with_reducible rfl))
            try simp only [Act.put, List.setIfInBounds_toArray, List.set_cons_zero, List.set_cons_succ, List.getElem_toArray, List.getElem_cons_zero, List.getElem_cons_succ]
            refine wpAnyH_take (i := 10) (oi := _) (v := ?_) rfl (by kernel_rfl) (by kernel_rfl) (by kernel_rfl) (fun _ _ _ h => h) (Or.inl ⟨by kernel_rfl, ?_⟩) (by assumption) ?_
            rotate_left
            · (intro w hSw; (try dsimp only at hSw); go_simp; try (with_reducible rfl))
            try simp only [Act.put, List.setIfInBounds_toArray, List.set_cons_zero, List.set_cons_succ, List.getElem_toArray, List.getElem_cons_zero, List.getElem_cons_succ]
            refine wpAnyH_take (i := 11) (oi := _) (v := ?_) rfl (by kernel_rfl) (by kernel_rfl) (by kernel_rfl) (fun _ _ _ h => h) (Or.inl ⟨by kernel_rfl, ?_⟩) (by assumption) ?_
            rotate_left
            · (intro w hSw; (try dsimp only at hSw); go_simp; try (with_reducible rfl))
            try simp only [Act.put, List.setIfInBounds_toArray, List.set_cons_zero, List.set_cons_succ, List.getElem_toArray, List.getElem_cons_zero, List.getElem_cons_succ]
            refine wpAnyH_take (i := 12) (oi := _) (v := ?_) rfl (by kernel_rfl) (by kernel_rfl) (by kernel_rfl) (fun _ _ _ h => h) (Or.inl ⟨by kernel_rfl, ?_⟩) (by assumption) ?_
            rotate_left
            · (intro w hSw; (try dsimp only at hSw); go_simp; try (with_reducible rfl))
            try simp only [Act.put, List.setIfInBounds_toArray, List.set_cons_zero, List.set_cons_succ, List.getElem_toArray, List.getElem_cons_zero, List.getElem_cons_succ]
            refine wpAnyH_take (i := 13) (oi := _) (v := ?_) rfl (by kernel_rfl) (by kernel_rfl) (by kernel_rfl) (fun _ _ _ h => h) (Or.inl ⟨by kernel_rfl, ?_⟩) (by assumption) ?_
            rotate_left
            · (intro w hSw; (try dsimp only at hSw); go_simp; try (with_reducible rfl))
            try simp only [Act.put, List.setIfInBounds_toArray, List.set_cons_zero, List.set_cons_succ, List.getElem_toArray, List.getElem_cons_zero, List.getElem_cons_succ]
            refine wpAnyH_ready (rs := [14]) (by kernel_rfl) (by simp) (AllReadyH.cons (o := _) rfl (fun K hK => ?_) AllReadyH.nil)
            go_simp
            (go_at_call 88; refine (C0 _).mono ?_; rintro e w2 ⟨rfl, bel2⟩)
            go_wp2_with fail
            refine hK.out _ _ ?_ (fun hHeld => ?_)
            · first | exact ⟨c1, c2⟩ | exact KK.out _ ⟨bel2.os, bel2.tape, bel2.output, bel2.size, bel2.block⟩
            clear hK K
            try simp only [Act.put, List.setIfInBounds_toArray, List.set_cons_zero, List.set_cons_succ, List.getElem_toArray, List.getElem_cons_zero, List.getElem_cons_succ]
            refine wpAnyH_take (i := 15) (oi := _) (v := ?_) rfl (by kernel_rfl) (by kernel_rfl) (by kernel_rfl) (fun _ _ _ h => h) (Or.inl ⟨by kernel_rfl, ?_⟩) (by assumption) ?_
            rotate_left
            · (intro w hSw; (try dsimp only at hSw); go_simp; try (with_reducible rfl))
            try simp only [Act.put, List.setIfInBounds_toArray, List.set_cons_zero, List.set_cons_succ, List.getElem_toArray, List.getElem_cons_zero, List.getElem_cons_succ]
            refine wpAnyH_take (i := 16) (oi := _) (v := ?_) rfl (by kernel_rfl) (by kernel_rfl) (by kernel_rfl) (fun _ _ _ h => h) (Or.inl ⟨by kernel_rfl, ?_⟩) (by assumption) ?_
            rotate_left
            · (intro w hSw; (try dsimp only at hSw); go_simp; try (with_reducible rfl))
            try simp only [Act.put, List.setIfInBounds_toArray, List.set_cons_zero, List.set_cons_succ, List.getElem_toArray, List.getElem_cons_zero, List.getElem_cons_succ]
            refine wpAnyH_done (by kernel_rfl) ?_ _
            refine NoPanic.normal ?_
            have G2 := Lib.hid (GT2.out w2 ⟨bel2.os, bel2.tape, bel2.output, bel2.size, bel2.block⟩)
            clear bel2 c1 c2 KK C0
            go_wp2
            go_roundw
            case rel => exact ⟨i + 1, T, by omega, by omega, by go_num, GT1, G2.out⟩
            case measure => simp [intOf]; omega
    · obtain rfl : i = n := by omega
      have G : Hid (Frow base g i cap w (Tr.sortT ss) wr) := by
        have e := HI.out.eq (fun h k => Tr.leT_as h k) HL.out (sortT_perm ss) (sortT_sorted ss)
        rw [e, List.drop_of_length_le (by rw [HL.out]; exact Nat.le_refl _), List.append_nil] at HF
        exact HF
      clear HF F0 HI I0
      go_wp2
      go_end0
      exact ⟨rfl, G.out⟩
theorem fInsert_all (A : Option Addr) (base n c : Nat) (ss : List (List UInt8)) (w : World) (hn : n ≤ 12) (hs16 : ∀ s ∈ ss, s.length ≤ 16) (hbase : base ≤ w.heap.size) (h : w.ownsRow base 59 1 (.slice A n c) n (strs ss)) :
    Calls Try.prog 150 #[.slice A n c, .int .i64 0, .int .i64 n, (.func (.func 88) #[] #[])] w (fun e w' => e = .returned (.tuple #[]) ∧ w'.ownsRow base 59 1 (.slice A n c) n (strs (Tr.sortT ss)) ∧ Below base w w' ∧ base ≤ w'.heap.size) := by
  have hl : ss.length = n := by rw [← strs_length]; exact own_len h
  rcases Nat.eq_zero_or_pos n with h0 | h0
  · subst h0
    have e : ss = [] := List.eq_nil_of_length_eq_zero hl
    subst e
    clear hl
    go_enter Try.func150, Try.ntmps150
    go_wp2_with fail
    go_loopw [8] (fun i wr => i = .int .i64 1 ∧ wr = w) (fun i _ => 0)
    case atStart => exact ⟨rfl, rfl⟩
    case round =>
      obtain ⟨rfl, rfl⟩ := hrel
      go_wp2
      go_end0
      exact ⟨rfl, h, Below.refl _ _, hbase⟩
  · obtain ⟨g, cap, hv⟩ := own_form h h0
    injection hv with hA _ hcap
    subst hA hcap
    refine (fInsert_any base g n c ss w hl h0 hn hs16 hbase h).mono ?_
    rintro e w' ⟨rfl, h1, h2, h3⟩
    exact ⟨rfl, h1, h2, h3⟩
theorem fPdq_any (A : Option Addr) (base n c : Nat) (ss : List (List UInt8)) (l : Int) (w : World) (hn : n ≤ 12) (hs16 : ∀ s ∈ ss, s.length ≤ 16) (hbase : base ≤ w.heap.size) (h : w.ownsRow base 59 1 (.slice A n c) n (strs ss)) :
    Calls Try.prog 130 #[.slice A n c, .int .i64 0, .int .i64 n, .int .i64 l, (.func (.func 88) #[] #[])] w (fun e w' => e = .returned (.tuple #[]) ∧ w'.ownsRow base 59 1 (.slice A n c) n (strs (Tr.sortT ss)) ∧ Below base w w' ∧ base ≤ w'.heap.size) := by
  go_enter Try.func130, Try.ntmps130
  go_wp2_with fail
  go_loopw [1, 2] (fun a b wr => a = .int .i64 0 ∧ b = .int .i64 n ∧ wr = w) (fun _ _ _ => 0)
  case atStart => exact ⟨rfl, rfl, rfl⟩
  case round =>
    obtain ⟨rfl, rfl, rfl⟩ := hrel
    go_wp2_with fail
    refine (fInsert_all A base n c ss _ hn hs16 hbase h).mono ?_
    rintro e w' ⟨rfl, h1, h2, h3⟩
    go_wp2
    (try simp only [Exit.inBlock, Exit.then])
    refine bodyPost_ret (results_none rfl _ _ _) rfl ?_
    exact ⟨rfl, h1, h2, h3⟩
theorem sortFunc_any (A : Option Addr) (base n c : Nat) (ss : List (List UInt8)) (w : World) (hn : n ≤ 12) (hs16 : ∀ s ∈ ss, s.length ≤ 16) (hbase : base ≤ w.heap.size) (h : w.ownsRow base 59 1 (.slice A n c) n (strs ss)) :
    Calls Try.prog 110 #[.slice A n c, (.func (.func 88) #[] #[])] w (fun e w' => e = .returned (.tuple #[]) ∧ w'.ownsRow base 59 1 (.slice A n c) n (strs (Tr.sortT ss)) ∧ Below base w w' ∧ base ≤ w'.heap.size) := by
  go_enter Try.func110, Try.ntmps110
  go_wp2_with fail
  refine (bitsLen n hn _).mono ?_
  rintro e w' ⟨⟨l, rfl⟩, rfl⟩
  go_wp2_with fail
  refine (fPdq_any A base n c ss l _ hn hs16 hbase h).mono ?_
  rintro e w' ⟨rfl, h1, h2, h3⟩
  go_wp2
  go_end0
  exact ⟨rfl, h1, h2, h3⟩
end Go.Proofs.Ytfehjjaebdgjlaa
/-
  The keys of a map of the program, collected and sorted.
-/
namespace Go.Proofs.Ytfehjjaebdgjlaa
open Go.RowKit Fld Go.Maps Go.Sort Go.Shelf
set_option linter.unusedVariables false
set_option linter.unusedSimpArgs false
set_option maxRecDepth 100000

/-- the texts that a map holds, each once, in some order -/
def KeysF (f : List UInt8 → Int) (n : Nat) (ss : List (List UInt8)) : Prop := ss.Nodup ∧ (∀ x, x ∈ ss ↔ f x ≠ 0) ∧ ss.length ≤ n
theorem own_slice {w : World} {base k n : Nat} {T : TypeId} {v : Value} {vs : List Value} (h : w.ownsRow base T k v n vs) : ∃ A c, v = .slice A n c := by
  rcases h.2 with ⟨h1, h2⟩ | ⟨g, cap, cur, hv, _⟩
  · exact ⟨none, 0, by rw [h1, h2]⟩
  · exact ⟨_, cap, hv⟩
theorem keysF_of {w : World} {b n : Nat} {D : DataW Unit} {f : List UInt8 → Int} {ss : List (List UInt8)} (h : w.ownsMap Try.prog 59 (plainElem Try.prog 2) b n D) (hD : HoldsF D f) (hp : ss.Perm (strKeys D)) : KeysF f n ss := by
  obtain ⟨es, e1, hpw, _⟩ := h.entries keyed
  obtain ⟨es', e2, hko⟩ := h.keysOf
  have hsz := h.size_le
  obtain rfl : es = es' := by rw [e1] at e2; simpa using e2
  subst e1
  have hk : ∀ p ∈ es, ∃ x, p.1 = .string x := fun p hp => by
    obtain ⟨v, hv⟩ := hko p hp
    obtain ⟨x, _, hx, _⟩ := Maps.keyOf_str Try.underlying59 hv
    exact ⟨x, hx⟩
  have hnd : (es.map fun p => strOf p.1).Nodup := by
    refine List.pairwise_map.2 (hpw.imp_of_mem fun {p q} hp' hq' hne e => hne ?_)
    obtain ⟨a, ha⟩ := hk p hp'
    obtain ⟨b, hb⟩ := hk q hq'
    rw [ha, hb] at e ⊢
    exact congrArg _ e
  have hmem : ∀ x, x ∈ strKeys (DataW.map es) ↔ Maps.has (DataW.map es) (.string x) = true := fun x => by
    rw [has_eq, List.any_eq_true]
    show (x ∈ es.map fun p => strOf p.1) ↔ _
    rw [List.mem_map]
    constructor
    · rintro ⟨p, hp', rfl⟩
      obtain ⟨a, ha⟩ := hk p hp'
      exact ⟨p, hp', by rw [ha]; simp [Lit.sameKey, strOf]⟩
    · rintro ⟨p, hp', hs⟩
      obtain ⟨a, ha⟩ := hk p hp'
      rw [ha] at hs
      exact ⟨p, hp', by rw [ha]; simpa [Lit.sameKey, strOf] using hs⟩
  refine ⟨hp.nodup_iff.2 hnd, fun x => ?_, ?_⟩
  · rw [hp.mem_iff, hmem, hD.2, decide_eq_true_iff]
  · rw [hp.length_eq]
    show (es.map _).length ≤ n
    rw [List.length_map]; exact hsz
theorem keys_any (b : Nat) (w : World) : Calls Try.prog 87 #[.map (some b)] w fun e w' => e = .returned (.func (.func 111) #[] #[.pointer (some ⟨w.heap.size, 0, none⟩)]) ∧ w' = w.alloc (.cells #[.map (some b)] 69) :=
  callsIn_wide.1 (AnyZ.keys_in Try.keysL Fence.wide 5 trivial rfl (some b) w)
set_option maxHeartbeats 1000000 in
theorem collect_any (b n : Nat) (f : List UInt8 → Int) (w : World) (h : MapF w b n f) (hn : n ≤ 1000000) :
    Calls Try.prog 109 #[.func (.func 111) #[] #[.pointer (some ⟨w.heap.size, 0, none⟩)]] (w.alloc (.cells #[.map (some b)] 69)) fun e w' =>
      ∃ A c ss, e = .returned (.slice A ss.length c) ∧ KeysF f n ss ∧ w'.ownsRow (w.heap.size + 1) 59 1 (.slice A ss.length c) ss.length (strs ss) ∧ Below (w.heap.size + 1) (w.alloc (.cells #[.map (some b)] 69)) w' := by
  obtain ⟨D, hown, hD⟩ := h
  have hsz := hown.size_le
  have hbl := hown.lt
  have hseq : SeqGives Fence.wide 2 Try.prog 111 #[.pointer (some ⟨w.heap.size, 0, none⟩)] encStr (fun ss => ss.Perm (strKeys D)) (Maps.size D) (w.alloc (.cells #[.map (some b)] 69)) :=
    AnyZ.keys_gives (ρ := Try.keysL_ren) { Try.keysL with } Fence.wide _ trivial rfl (by omega) w.heap.size b n D _ (by simp) (by simp) (by
      obtain ⟨es, clock, hb, Ft, hs, hD⟩ := hown
      exact ⟨es, clock, (Below.heap_alloc _ _ b hbl).trans hb, Ft, hs, hD⟩)
  refine (callsIn_wide.1 (AnyZ.collect_in Try.collectL Fence.wide 4 trivial trivial rfl (by omega) 111 #[.pointer (some ⟨w.heap.size, 0, none⟩)] trivial (enters_of Try.func111 (by kernel_rfl) rfl) _ _ (by unfold maxLen; omega) (by omega) _ hseq)).mono ?_
  rintro e w' ⟨v, ss, rfl, hp, hrow, _, hb⟩
  obtain ⟨A, c, rfl⟩ := own_slice hrow
  have e1 : (w.alloc (.cells #[.map (some b)] 69)).heap.size = w.heap.size + 1 := by simp
  rw [e1] at hrow hb
  exact ⟨A, c, ss, rfl, keysF_of hown hD hp, hrow, hb⟩
theorem sortedFunc_any (b n : Nat) (f : List UInt8 → Int) (w : World) (h : MapF w b n f) (hn : n ≤ 12) (hf : ∀ x, f x ≠ 0 → x.length ≤ 16) :
    Calls Try.prog 86 #[.func (.func 111) #[] #[.pointer (some ⟨w.heap.size, 0, none⟩)], .func (.func 88) #[] #[]] (w.alloc (.cells #[.map (some b)] 69)) fun e w' =>
      ∃ A c ss, e = .returned (.slice A ss.length c) ∧ KeysF f n ss ∧ w'.ownsRow (w.heap.size + 1) 59 1 (.slice A ss.length c) ss.length (strs (Tr.sortT ss)) ∧ Below (w.heap.size + 1) (w.alloc (.cells #[.map (some b)] 69)) w' := by
  have C0 := collect_any b n f w h (by omega)
  have hs : (w.alloc (.cells #[.map (some b)] 69)).heap.size = w.heap.size + 1 := by simp
  generalize (w.alloc (.cells #[.map (some b)] 69)) = W at *
  go_enter Try.func86, Try.ntmps86
  go_wp2_with fail
  refine C0.mono ?_
  rintro e w1 ⟨A, c, ss, rfl, hK, own1, bel1⟩
  have hs1 : w.heap.size + 1 ≤ w1.heap.size := by have := bel1.size; omega
  have hl : ss.length ≤ 12 := by have := hK.2.2; omega
  have C1 := sortFunc_any A (w.heap.size + 1) ss.length c ss w1 hl (fun s hs => hf s ((hK.2.1 s).1 hs)) hs1 own1
  obtain ⟨q, hq⟩ : ∃ q, q = ss.length := ⟨_, rfl⟩
  have HQ := Lib.hid hq
  have HK := Lib.hid hK
  have HB := Lib.hid bel1
  rw [← hq] at C1 ⊢
  clear C0 own1 bel1 hK hl hq hs hs1
  go_wp2_with fail
  refine C1.mono ?_
  rintro e w2 ⟨rfl, own2, bel2, _⟩
  have HO := Lib.hid own2
  have HB2 := Lib.hid (HB.out.trans bel2)
  clear own2 bel2
  go_wp2
  go_ret
  exact ⟨A, c, ss, by rw [← HQ.out]; rfl, HK.out, by rw [← HQ.out]; exact HO.out, HB2.out⟩
end Go.Proofs.Ytfehjjaebdgjlaa
/-
  A tree grafted at all nodes of all trees of a sum.
-/
namespace Go.Proofs.Ytfehjjaebdgjlaa
open Go.RowKit Fld Go.Maps Go.Sort
set_option linter.unusedVariables false
set_option linter.unusedSimpArgs false
set_option maxRecDepth 100000

def grafts (x v : List UInt8) : List (List UInt8) := (List.range (x.length / 2)).map fun k => Tr.grfF 8 x k v
theorem grafts_len (x v : List UInt8) : (grafts x v).length = x.length / 2 := by simp [grafts]
theorem grafts_at {x v : List UInt8} {k : Nat} (h : k < x.length / 2) : (grafts x v)[k]? = some (Tr.grfF 8 x k v) := by
  unfold grafts; rw [List.getElem?_map, List.getElem?_range h]; rfl
def gsum (f : List UInt8 → Int) (v : List UInt8) (ss : List (List UInt8)) : List UInt8 → Int := fun y => (ss.map fun x => f x * ((grafts x v).count y : Int)).sum
def gpart (f : List UInt8 → Int) (v : List UInt8) (ss : List (List UInt8)) (x : List UInt8) (j : Nat) : List UInt8 → Int := fun y => gsum f v ss y + f x * (((grafts x v).take j).count y : Int)
theorem gsum_nil (f : List UInt8 → Int) (v : List UInt8) : gsum f v [] = fun _ => 0 := by funext y; simp [gsum]
theorem gpart_zero (f : List UInt8 → Int) (v : List UInt8) (ss : List (List UInt8)) (x : List UInt8) : gpart f v ss x 0 = gsum f v ss := by funext y; simp [gpart]
theorem gpart_end (f : List UInt8 → Int) (v : List UInt8) (ss : List (List UInt8)) (x : List UInt8) : gpart f v ss x (x.length / 2) = gsum f v (ss ++ [x]) := by
  funext y
  unfold gpart gsum
  rw [List.take_of_length_le (by rw [grafts_len]; exact Nat.le_refl _), List.map_append, List.sum_append]
  simp
theorem gpart_step {f : List UInt8 → Int} {v : List UInt8} {ss : List (List UInt8)} {x : List UInt8} {j : Nat} (h : j < x.length / 2) : bump (gpart f v ss x j) (Tr.grfF 8 x j v) (f x) = gpart f v ss x (j + 1) := by
  funext y
  unfold bump gpart
  rw [List.take_add_one, grafts_at h, Option.toList_some, List.count_append, List.count_singleton]
  by_cases e : y = Tr.grfF 8 x j v
  · subst e
    rw [if_pos rfl]
    simp only [beq_self_eq_true, if_true, Int.natCast_add, Int.mul_add]
    omega
  · rw [if_neg e, if_neg (by simpa using fun q => e q.symm)]; simp
theorem mul_bd {a c : Int} (h0 : -1000000 ≤ a) (h1 : a ≤ 1000000) (c0 : 0 ≤ c) (c1 : c ≤ 8) : -8000000 ≤ a * c ∧ a * c ≤ 8000000 := by
  have k1 := Int.mul_le_mul_of_nonneg_right h1 c0
  have k0 := Int.mul_le_mul_of_nonneg_right h0 c0
  omega
theorem count_bd (x v y : List UInt8) (j : Nat) (h : x.length ≤ 16) : 0 ≤ (((grafts x v).take j).count y : Int) ∧ (((grafts x v).take j).count y : Int) ≤ 8 := by
  have h1 := List.count_le_length (a := y) (l := (grafts x v).take j)
  have h2 : ((grafts x v).take j).length ≤ 8 := by rw [List.length_take, grafts_len]; omega
  omega
theorem gsum_bd {f : List UInt8 → Int} {v : List UInt8} (hf : ∀ x, -1000000 ≤ f x ∧ f x ≤ 1000000) : ∀ {ss : List (List UInt8)}, (∀ x ∈ ss, x.length ≤ 16) → ∀ y, -(8000000 * (ss.length : Int)) ≤ gsum f v ss y ∧ gsum f v ss y ≤ 8000000 * (ss.length : Int)
  | [], _, y => by simp [gsum]
  | x :: r, h, y => by
    have ih := gsum_bd hf (ss := r) (v := v) (fun x hx => h x (by simp [hx])) y
    have e : gsum f v (x :: r) y = f x * ((grafts x v).count y : Int) + gsum f v r y := by unfold gsum; rw [List.map_cons, List.sum_cons]
    have hx := h x (by simp)
    have hc := count_bd x v y (x.length / 2) hx
    rw [List.take_of_length_le (by rw [grafts_len]; exact Nat.le_refl _)] at hc
    have hm := mul_bd (hf x).1 (hf x).2 hc.1 hc.2
    rw [e, List.length_cons]
    omega
theorem gpart_bd {f : List UInt8 → Int} {v : List UInt8} (hf : ∀ x, -1000000 ≤ f x ∧ f x ≤ 1000000) {ss : List (List UInt8)} (h : ∀ x ∈ ss, x.length ≤ 16) (hl : ss.length ≤ 100) {x : List UInt8} (hx : x.length ≤ 16) (j : Nat) (y : List UInt8) : -1000000000000 ≤ gpart f v ss x j y ∧ gpart f v ss x j y ≤ 1000000000000 := by
  have h1 := gsum_bd (v := v) hf h y
  have hc := count_bd x v y j hx
  have hm := mul_bd (hf x).1 (hf x).2 hc.1 hc.2
  unfold gpart
  omega
set_option maxHeartbeats 4000000 in
theorem graft_any (b n : Nat) (f : List UInt8 → Int) (v : List UInt8) (w : World) (h : MapF w b n f) (hn : n ≤ 100) (hf : ∀ x, f x ≠ 0 → Tr.isTx x = true) (hb : ∀ x, -1000000 ≤ f x ∧ f x ≤ 1000000) (hv : v.length ≤ 16) :
    Calls Try.prog 60 #[.map (some b), .string ⟨v.toArray⟩] w fun e w' => ∃ b2 m ss, e = .returned (.map (some b2)) ∧ KeysF f n ss ∧ MapF w' b2 m (gsum f v ss) ∧ m ≤ 8 * ss.length ∧ w.heap.size ≤ b2 ∧ Below w.heap.size w w' := by
  obtain ⟨D, hown, hD⟩ := h
  have hsz := hown.size_le
  have hblt := hown.lt
  have HO := Lib.hid hown
  have HD := Lib.hid hD
  have HF := Lib.hid hf
  have HB := Lib.hid hb
  have hmm := @run_makeMap Try.prog
  have HS0 : Hid (MapF (w.alloc (.map #[] 0)) w.heap.size 0 (gsum f v [])) := by rw [gsum_nil]; exact MapF.made w
  obtain ⟨Y, hY⟩ : ∃ Y : ByteArray, Y = ⟨v.toArray⟩ := ⟨_, rfl⟩
  rw [← hY]
  have HY := Lib.hid hY
  have hownA := hown.alloc (.map #[] 0)
  clear hY hf hb hD hown
  go_enter Try.func60, Try.ntmps60
  go_wp2_with (first
    | (at_range; refine wpList_range_own _ rfl _ 69 rfl 59 2 keyed Try.underlying69 _ b n _ rfl hownA ?_; intro w0 hrg0 hg0 hs0)
    | fail)
  go_frame
  obtain ⟨r, hr⟩ : ∃ r, r = (w.alloc (.map #[] 0)).heap.size := ⟨_, rfl⟩
  rw [← hr] at hrg0 ⊢
  have hr1 : w.heap.size < r ∧ r ≤ w.heap.size + 1 := by rw [hr]; simp
  have HM0 : Hid (MapF w0 w.heap.size 0 (gsum f v [])) := HS0.out.kept hg0 (by simp)
  have HB0 : Hid (Below w.heap.size w w0) := ((Below.refl _ _).alloc (Nat.le_refl _) _).grown hg0 (by simp) (fun k e => by cases e)
  clear hr hs0 hg0 HS0 hownA
  go_loopw [6] (fun _ wr => ∃ (left : Lit → Bool) (cnt m : Nat) (ss : List (List UInt8)), wr.ranges Try.prog 59 (plainElem Try.prog 2) b r n D left cnt ∧ Collected D left ss ∧ ss.length + cnt ≤ n ∧ (∀ x ∈ ss, x.length ≤ 16) ∧ MapF wr w.heap.size m (gsum f v ss) ∧ m ≤ 8 * ss.length ∧ Below w.heap.size w wr) (fun _ wr => wr.rangeLeft b r)
  case atStart => exact ⟨_, _, 0, [], hrg0, Collected.start D, by simpa using hsz, (fun x hx => by cases hx), HM0.out, Nat.zero_le _, HB0.out⟩
  case round =>
    obtain ⟨left, cnt, m, ss, hrg, hC, hcn, h16, hM, hm, hB⟩ := hrel
    go_wp2_with (first
      | (at_next; refine wpList_next_ranges _ rfl _ rfl 59 keyed (plainElem Try.prog 2) (fun x : List UInt8 => (.string ⟨x.toArray⟩ : Value)) (fun z : Int => (.int .i64 z : Value)) (fun key kl hk => by obtain ⟨x, hx, _⟩ := Maps.keyOf_str Try.underlying59 hk; exact ⟨x, hx⟩) (fun v y hv => by obtain ⟨z, hz, _⟩ := plainElem_int_inv Try.underlying2 hv; exact ⟨z, hz⟩) b r n _ _ _ rfl hrg ?_ ?_)
      | fail)
    · intro hc0 hl0
      have HK := Lib.hid (keysF_of HO.out HD.out (hC.perm HO.out keyed Try.underlying59 hl0))
      have HM := Lib.hid hM
      have HBB := Lib.hid hB
      clear hrg hC hM hB HM0 hrg0 hl0
      go_wp2
      go_ret
      exact ⟨_, m, ss, rfl, HK.out, HM.out, hm, Nat.le_refl _, HBB.out⟩
    · intro x c kl yd yp w1 cnt1 hkey hlk hvv hat hrg1 hlt hg1 hs1 hen
      obtain ⟨x', ex, rfl, _⟩ := Maps.keyOf_str Try.underlying59 hkey
      obtain rfl : x = x' := encStr_inj ex
      obtain ⟨c', ec, hyd, _⟩ := plainElem_int_inv Try.underlying2 hvv
      obtain rfl : c = c' := by simpa using ec
      obtain ⟨rfl, rfl⟩ : yd = .lit (.int .i64 c) ∧ yp = [] := by simpa using hyd
      have hfx : f x = c := by
        have h9 := (HD.out.1 x).symm.trans (hat _)
        simpa using h9
      have hne : f x ≠ 0 := by
        have h9 := HD.out.2 x
        rw [has_true_of_atKey hat] at h9
        simpa using h9.symm
      have hxt := HF.out x hne
      have hx16 := (Tr.br_parts hxt).1.2
      have hC1 := hC.step hlk hat
      have hM1 := hM.kept hg1 (by intro e; injection e with e; omega)
      have HB1 : Hid (Below w.heap.size w w1) := hB.grown hg1 hB.size (fun k e => by injection e with e; omega)
      have CN := nodes_any x w1 (by omega)
      obtain ⟨N, hN⟩ : ∃ N, N = x.length / 2 := ⟨_, rfl⟩
      have hN8 : N ≤ 8 := by omega
      have hlc : cnt1 < cnt := hlt
      have hl100 : ss.length ≤ 100 := by omega
      have HP0 : Hid (MapF w1 w.heap.size m (gpart f v ss x 0)) := by rw [gpart_zero]; exact hM1
      have HPB : Hid (∀ j y, -1000000000000 ≤ gpart f v ss x j y ∧ gpart f v ss x j y ≤ 1000000000000) := gpart_bd HB.out h16 hl100 hx16
      have HPS : Hid (∀ j, j < N → bump (gpart f v ss x j) (Tr.grfF 8 x j v) c = gpart f v ss x (j + 1)) := fun j hj => by rw [← hfx]; exact gpart_step (by omega)
      have HPE : Hid (gpart f v ss x N = gsum f v (ss ++ [x])) := by rw [hN]; exact gpart_end f v ss x
      have HGL : Hid (∀ j, j < N → (Tr.grfF 8 x j v).length ≤ 1048576) := fun j hj => by
        have := grf_len 8 x j v hxt (by omega) (by omega); omega
      have hleft := hrg.left_eq
      have CG := fun j W (hj : j < N) => graftAt_any x j v W hxt (by omega) hv
      have hcb : -1000000 ≤ c ∧ c ≤ 1000000 := by rw [← hfx]; exact HB.out x
      rw [← hN] at CN
      obtain ⟨X, hX⟩ : ∃ X : ByteArray, X = ⟨x.toArray⟩ := ⟨_, rfl⟩
      rw [← hX] at CN hen ⊢
      simp only [← hX, ← HY.out] at CG
      have HC1 := Lib.hid hC1
      have HRG := Lib.hid hrg1
      have h16' : ∀ y ∈ ss ++ [x], y.length ≤ 16 := fun y hy => by
        rw [List.mem_append, List.mem_singleton] at hy
        rcases hy with hy | rfl
        · exact h16 y hy
        · exact hx16
      have H16 := Lib.hid h16'
      clear hkey hlk hvv hat hs1 hlt hrg hC hM hB hM1 ex ec hyd hfx hne hxt hC1 hrg1 hN hX HM0 hrg0 h16 h16'
      go_wp2_with fail
      refine CN.mono ?_
      rintro e w9 ⟨rfl, rfl⟩
      clear CN hen
      go_wp2_with fail
      go_loopw [19] (fun i wr => ∃ (j m2 : Nat), j ≤ N ∧ i = .int .i64 j ∧ m2 ≤ m + j ∧ Hid (MapF wr w.heap.size m2 (gpart f v ss x j)) ∧ Hid (wr.ranges Try.prog 59 (plainElem Try.prog 2) b r n D (fun z => left z && !z.sameKey (.string x)) cnt1) ∧ Hid (Below w.heap.size w wr)) (fun i _ => N - (intOf i).toNat)
      case atStart => exact ⟨0, m, Nat.zero_le _, rfl, Nat.le_refl _, HP0.out, HRG.out, HB1.out⟩
      case round =>
        obtain ⟨j, m2, hj, rfl, hm2, HM2, HR2, HB2⟩ := hrel
        have hsz2 := HB2.out.size
        by_cases hjl : j < N
        · have CJ := CG j wr hjl
          have HLj := HGL.out j hjl
          have HBj := HPB.out j (Tr.grfF 8 x j v)
          have HSj := HPS.out j hjl
          obtain ⟨Z, hZ⟩ : ∃ Z : ByteArray, Z = ⟨(Tr.grfF 8 x j v).toArray⟩ := ⟨_, rfl⟩
          have HZ := Lib.hid hZ
          rw [← hZ] at CJ
          clear hZ
          go_wp2_with fail
          refine CJ.mono ?_
          rintro e w4 ⟨rfl, bel4⟩
          have hg4 : wr.grownBy w4 none := ⟨bel4.os, bel4.tape, bel4.output, bel4.size, fun i hi _ => bel4.block i hi⟩
          have HM4 := HM2.out.next bel4
          have HR4 := HR2.out.kept hg4 (by simp) (by simp)
          have HB4 : Hid (Below w.heap.size w w4) := HB2.out.trans (bel4.mono hsz2)
          have hs4 : wr.heap.size ≤ w4.heap.size := bel4.size
          have CA := add_any w.heap.size m2 (Tr.grfF 8 x j v) c (gpart f v ss x j) w4 HM4 HLj (by omega) HBj (by omega)
          rw [HSj, ← HZ.out] at CA
          have HR4' := Lib.hid HR4
          clear bel4 hg4 HM4 HR4 HSj HBj HLj CJ HM2 HR2 HB2
          go_wp2_with fail
          refine CA.mono ?_
          rintro e w5 ⟨rfl, hm5, hg5⟩
          have G1 := Lib.hid hm5
          have G2 := Lib.hid (HR4'.out.kept hg5 (by intro e; injection e with e; omega) (by intro e; injection e with e; omega))
          have G3 : Hid (Below w.heap.size w w5) := HB4.out.grown hg5 HB4.out.size (fun k e => by injection e with e; omega)
          clear hm5 hg5 CA HR4' HB4
          go_wp2
          go_roundw
          case rel => exact ⟨j + 1, m2 + 1, by omega, by go_num, by omega, G1, G2, G3⟩
          case measure => simp [intOf]; omega
        · obtain rfl : j = N := by omega
          have G1 : Hid (MapF wr w.heap.size m2 (gsum f v (ss ++ [x]))) := by rw [← HPE.out]; exact HM2.out
          clear HM2
          go_wp2
          go_roundw
          case rel => exact ⟨_, cnt1, m2, ss ++ [x], HR2.out, HC1.out, by simp; omega, H16.out, G1.out, by simp; omega, HB2.out⟩
          case measure => rw [HR2.out.left_eq, hleft]; exact hlc
end Go.Proofs.Ytfehjjaebdgjlaa
/-
  Sums of trees as plain lists of trees with their numbers: a tree put in leaves them in order, each tree once.
-/
namespace Go.Proofs.Ytfehjjaebdgjlaa.Tr
set_option maxRecDepth 100000

/-- where a tree stands, or would stand, in a sum -/
def atL (t : List Int) : List (List Int × Int) → Nat
  | [] => 0
  | e :: r => if beforeL e.1 t then atL t r + 1 else 0
/-- what a round of putting a tree into a sum puts out -/
def putE (t : List Int) (c : Int) (b : Bool) (e : List Int × Int) : List (List Int × Int) := (if b && !decide (e.1 = t) then [(t, c)] else []) ++ [(e.1, if e.1 = t then e.2 + c else e.2)]
def putTo (S : List (List Int × Int)) (t : List Int) (c : Int) (a : Nat) : Nat → List (List Int × Int)
  | 0 => []
  | i+1 => putTo S t c a i ++ putE t c (decide (i = a)) (S.getD i ([], 0))
def putL (S : List (List Int × Int)) (t : List Int) (c : Int) : List (List Int × Int) := putTo S t c (atL t S) S.length ++ (if atL t S = S.length then [(t, c)] else [])
def sumTo (f : Nat → List Int) : Nat → List (List Int × Int)
  | 0 => []
  | n+1 => putL (sumTo f n) (f n) 1
theorem atL_le (t : List Int) : ∀ S, atL t S ≤ S.length
  | [] => Nat.le_refl _
  | e :: r => by rw [atL]; split <;> simp [atL_le t r]
theorem putTo_length (S : List (List Int × Int)) (t : List Int) (c : Int) (a : Nat) : ∀ i, (putTo S t c a i).length ≤ i + (if a < i then 1 else 0)
  | 0 => by simp [putTo]
  | i+1 => by
    have ih := putTo_length S t c a i
    rw [putTo, List.length_append]
    have h : (putE t c (decide (i = a)) (S.getD i ([], 0))).length ≤ if i = a then 2 else 1 := by
      unfold putE
      by_cases e : i = a
      · rw [if_pos e, List.length_append]; split <;> simp
      · simp [e]
    by_cases e : i = a
    · rw [if_pos e] at h; rw [if_neg (by omega)] at ih; rw [if_pos (by omega)]; omega
    · rw [if_neg e] at h
      by_cases g : a < i
      · rw [if_pos g] at ih; rw [if_pos (by omega)]; omega
      · rw [if_neg g] at ih; rw [if_neg (by omega)]; omega
theorem putL_length (S : List (List Int × Int)) (t : List Int) (c : Int) : (putL S t c).length ≤ S.length + 1 := by
  have h := putTo_length S t c (atL t S) S.length
  have := atL_le t S
  unfold putL
  rw [List.length_append]
  by_cases e : atL t S = S.length
  · rw [if_pos e]; rw [if_neg (by omega)] at h; simp; omega
  · rw [if_neg e]; simp; split at h <;> omega
theorem putTo_mem {S : List (List Int × Int)} {t : List Int} {c : Int} {a : Nat} : ∀ {i : Nat} {e : List Int × Int}, i ≤ S.length → e ∈ putTo S t c a i → e.1 = t ∨ ∃ f ∈ S, f.1 = e.1
  | 0, e, _, h => by simp [putTo] at h
  | i+1, e, hi, h => by
    rw [putTo, List.mem_append] at h
    rcases h with h | h
    · exact putTo_mem (by omega) h
    · unfold putE at h
      rw [List.mem_append, List.mem_singleton] at h
      rcases h with h | h
      · split at h
        · rw [List.mem_singleton] at h; left; rw [h]
        · cases h
      · right
        refine ⟨S.getD i ([], 0), ?_, by rw [h]⟩
        rw [List.getD_eq_getElem?_getD, List.getElem?_eq_getElem (show i < S.length by omega)]
        exact List.getElem_mem _
theorem putL_mem {S : List (List Int × Int)} {t : List Int} {c : Int} {e : List Int × Int} (h : e ∈ putL S t c) : e.1 = t ∨ ∃ f ∈ S, f.1 = e.1 := by
  unfold putL at h
  rw [List.mem_append] at h
  rcases h with h | h
  · exact putTo_mem (Nat.le_refl _) h
  · split at h
    · rw [List.mem_singleton] at h; left; rw [h]
    · cases h
theorem sumTo_length (f : Nat → List Int) : ∀ n, (sumTo f n).length ≤ n
  | 0 => Nat.le_refl _
  | n+1 => by
    rw [sumTo]
    have := putL_length (sumTo f n) (f n) 1
    have := sumTo_length f n
    omega
theorem sumTo_mem {f : Nat → List Int} : ∀ {n : Nat} {e : List Int × Int}, e ∈ sumTo f n → ∃ k < n, e.1 = f k
  | 0, e, h => by simp [sumTo] at h
  | n+1, e, h => by
    rw [sumTo] at h
    rcases putL_mem h with h | ⟨g, hg, h⟩
    · exact ⟨n, by omega, h⟩
    · obtain ⟨k, hk, e'⟩ := sumTo_mem hg
      exact ⟨k, by omega, by rw [← h, e']⟩

/-! the order of lists -/
theorem lessL_no : ∀ x : List Int, lessL x x = false
  | [] => rfl
  | a :: x => by rw [lessL, if_pos rfl]; exact lessL_no x
theorem lessL_tr : ∀ {x y z : List Int}, lessL x y = true → lessL y z = true → lessL x z = true
  | [], _, [], _, h => by cases ‹List Int› <;> simp [lessL] at h
  | [], _, _ :: _, _, _ => rfl
  | _ :: _, [], _, h, _ => by simp [lessL] at h
  | _ :: _, _ :: _, [], _, h => by simp [lessL] at h
  | a :: x, b :: y, c :: z, h, k => by
    rw [lessL] at h k ⊢
    by_cases e1 : a = b
    · rw [if_pos e1] at h
      by_cases e2 : b = c
      · rw [if_pos e2] at k; rw [if_pos (by omega)]; exact lessL_tr h k
      · rw [if_neg e2] at k; rw [if_neg (by omega)]; simp only [decide_eq_true_eq] at k ⊢; omega
    · rw [if_neg e1] at h
      simp only [decide_eq_true_eq] at h
      by_cases e2 : b = c
      · rw [if_neg (by omega)]; simp only [decide_eq_true_eq]; omega
      · rw [if_neg e2] at k; simp only [decide_eq_true_eq] at k; rw [if_neg (by omega)]; simp only [decide_eq_true_eq]; omega
theorem lessL_cn : ∀ {x y : List Int}, x.length = y.length → x ≠ y → lessL x y = true ∨ lessL y x = true
  | [], [], _, h => absurd rfl h
  | [], _ :: _, h, _ => by simp at h
  | _ :: _, [], h, _ => by simp at h
  | a :: x, b :: y, h, k => by
    simp only [lessL]
    by_cases e : a = b
    · subst e
      rw [if_pos rfl, if_pos rfl]
      exact lessL_cn (by simpa using h) (fun q => k (by rw [q]))
    · rw [if_neg e, if_neg (Ne.symm e)]
      simp only [decide_eq_true_eq]; omega
theorem bf_no (x : List Int) : beforeL x x = false := by unfold beforeL; rw [if_neg (by simp)]; exact lessL_no x
theorem bf_tr {x y z : List Int} (h : beforeL x y = true) (k : beforeL y z = true) : beforeL x z = true := by
  unfold beforeL at *
  by_cases e1 : x.length = y.length <;> by_cases e2 : y.length = z.length
  · rw [if_neg (by simpa using e1)] at h
    rw [if_neg (by simpa using e2)] at k
    rw [if_neg (by rw [e1, e2]; simp)]
    exact lessL_tr k h
  · rw [if_pos e2] at k
    simp only [decide_eq_true_eq] at k
    rw [if_pos (by omega)]; simp only [decide_eq_true_eq]; omega
  · rw [if_pos e1] at h
    simp only [decide_eq_true_eq] at h
    rw [if_pos (by omega)]; simp only [decide_eq_true_eq]; omega
  · rw [if_pos e1] at h
    rw [if_pos e2] at k
    simp only [decide_eq_true_eq] at h k
    rw [if_pos (by omega)]; simp only [decide_eq_true_eq]; omega
theorem bf_cn {x y : List Int} (h : x ≠ y) : beforeL x y = true ∨ beforeL y x = true := by
  unfold beforeL
  by_cases e : x.length = y.length
  · rw [if_neg (by simpa using e), if_neg (by rw [e]; simp)]
    exact (lessL_cn e h).symm
  · rw [if_pos e, if_pos (Ne.symm e)]
    simp only [decide_eq_true_eq]; omega
theorem bf_ne {x y : List Int} (h : beforeL x y = true) : x ≠ y := fun e => by rw [e, bf_no] at h; cases h
theorem bf_as {x y : List Int} (h : beforeL x y = true) : beforeL y x = false := by
  cases k : beforeL y x
  · rfl
  · have := bf_tr h k; rw [bf_no] at this; cases this
/-! a tree put in, by the list -/
def insU (t : List Int) (c : Int) : List (List Int × Int) → List (List Int × Int)
  | [] => [(t, c)]
  | e :: r => if beforeL e.1 t then e :: insU t c r else if e.1 = t then (e.1, e.2 + c) :: r else (t, c) :: e :: r
def putG (t : List Int) (c : Int) : Nat → List (List Int × Int) → List (List Int × Int)
  | _, [] => []
  | 0, e :: r => putE t c true e ++ r.flatMap (putE t c false)
  | a+1, e :: r => putE t c false e ++ putG t c a r
theorem putG_push (t : List Int) (c : Int) : ∀ (X : List (List Int × Int)) (a : Nat) (e : List Int × Int), putG t c a (X ++ [e]) = putG t c a X ++ putE t c (decide (X.length = a)) e
  | [], 0, e => by simp [putG]
  | [], a+1, e => by simp [putG]
  | f :: X, 0, e => by simp [putG, List.flatMap_append]
  | f :: X, a+1, e => by
    rw [List.cons_append, putG, putG, putG_push t c X a e, List.append_assoc]
    simp
theorem putTo_putG (S : List (List Int × Int)) (t : List Int) (c : Int) (a : Nat) : ∀ i, i ≤ S.length → putTo S t c a i = putG t c a (S.take i)
  | 0, _ => by simp [putTo, putG]
  | i+1, h => by
    have hi : i < S.length := by omega
    rw [putTo, putTo_putG S t c a i (by omega), List.take_add_one, List.getElem?_eq_getElem hi, Option.toList_some, putG_push, List.length_take, Nat.min_eq_left (by omega), List.getD_eq_getElem?_getD, List.getElem?_eq_getElem hi]
    rfl
/-- in order, each tree once -/
def InOrder (S : List (List Int × Int)) : Prop := S.Pairwise fun a b => beforeL a.1 b.1 = true
theorem flat_same {t : List Int} {c : Int} : ∀ {r : List (List Int × Int)}, (∀ e ∈ r, e.1 ≠ t) → r.flatMap (putE t c false) = r
  | [], _ => rfl
  | e :: r, h => by
    rw [List.flatMap_cons, flat_same (r := r) (fun e he => h e (by simp [he]))]
    have := h e (by simp)
    simp [putE, this]
theorem putG_ins {t : List Int} {c : Int} : ∀ {S : List (List Int × Int)}, InOrder S → putG t c (atL t S) S ++ (if atL t S = S.length then [(t, c)] else []) = insU t c S
  | [], _ => rfl
  | e :: r, h => by
    have h' := List.pairwise_cons.1 h
    rw [atL, insU]
    by_cases hb : beforeL e.1 t = true
    · rw [if_pos hb, if_pos hb, putG, List.append_assoc, ← putG_ins h'.2]
      have := bf_ne hb
      simp [putE, this]
    · rw [if_neg hb, if_neg hb, putG, if_neg (by simp)]
      have hb' : beforeL e.1 t = false := by simpa using hb
      by_cases he : e.1 = t
      · rw [if_pos he, flat_same (fun f hf q => by have := h'.1 f hf; rw [q, hb'] at this; cases this)]
        simp [putE, he]
      · rw [if_neg he]
        have hte : beforeL t e.1 = true := by
          rcases bf_cn he with k | k
          · rw [k] at hb'; cases hb'
          · exact k
        rw [flat_same (fun f hf q => bf_ne (bf_tr hte (h'.1 f hf)) q.symm)]
        simp [putE, he]
theorem putL_ins {S : List (List Int × Int)} (h : InOrder S) (t : List Int) (c : Int) : putL S t c = insU t c S := by
  unfold putL
  rw [putTo_putG S t c _ _ (Nat.le_refl _), List.take_length, putG_ins h]
theorem insU_mem {t : List Int} {c : Int} : ∀ {S : List (List Int × Int)} {e : List Int × Int}, e ∈ insU t c S → e.1 = t ∨ e ∈ S
  | [], e, h => by simp [insU] at h; left; rw [h]
  | f :: r, e, h => by
    rw [insU] at h
    split at h
    · rw [List.mem_cons] at h
      rcases h with rfl | h
      · simp
      · rcases insU_mem h with k | k
        · exact .inl k
        · exact .inr (by simp [k])
    · split at h
      · rename_i q
        rw [List.mem_cons] at h
        rcases h with rfl | h
        · exact .inl q
        · exact .inr (by simp [h])
      · rw [List.mem_cons] at h
        rcases h with rfl | h
        · exact .inl rfl
        · exact .inr h
theorem insU_order {t : List Int} {c : Int} : ∀ {S : List (List Int × Int)}, InOrder S → InOrder (insU t c S)
  | [], _ => List.pairwise_singleton _ _
  | e :: r, h => by
    have h' := List.pairwise_cons.1 h
    rw [insU]
    split
    · rename_i hb
      exact List.pairwise_cons.2 ⟨fun f hf => by
        rcases insU_mem hf with k | k
        · rw [k]; exact hb
        · exact h'.1 f k, insU_order h'.2⟩
    · rename_i hb
      split
      · exact List.pairwise_cons.2 ⟨h'.1, h'.2⟩
      · rename_i he
        have hte : beforeL t e.1 = true := by
          rcases bf_cn he with k | k
          · exact absurd k hb
          · exact k
        exact List.pairwise_cons.2 ⟨fun f hf => by
          rw [List.mem_cons] at hf
          rcases hf with rfl | hf
          · exact hte
          · exact bf_tr hte (h'.1 f hf), h⟩
/-- the number of a tree in a sum -/
def look (s : List Int) : List (List Int × Int) → Int
  | [] => 0
  | e :: r => (if e.1 = s then e.2 else 0) + look s r
theorem look_insU (t : List Int) (c : Int) (s : List Int) : ∀ S : List (List Int × Int), look s (insU t c S) = look s S + if s = t then c else 0
  | [] => by
    by_cases h : t = s
    · simp [insU, look, h]
    · simp [insU, look, h, Ne.symm h]
  | e :: r => by
    rw [insU]
    split
    · rw [look, look, look_insU t c s r]; omega
    · split
      · rename_i q
        rw [look, look, q]
        by_cases h : t = s
        · simp [h]; omega
        · simp [h, Ne.symm h]
      · rw [look]
        by_cases h : t = s
        · simp [h]; omega
        · simp [h, Ne.symm h]
theorem look_none {s : List Int} : ∀ {S : List (List Int × Int)}, (∀ e ∈ S, e.1 ≠ s) → look s S = 0
  | [], _ => rfl
  | e :: r, h => by
    rw [look, if_neg (h e (by simp)), look_none (S := r) (fun f hf => h f (by simp [hf]))]; rfl
theorem look_head {e : List Int × Int} {r : List (List Int × Int)} (h : InOrder (e :: r)) : look e.1 (e :: r) = e.2 := by
  have h' := List.pairwise_cons.1 h
  rw [look, if_pos rfl, look_none (fun f hf q => bf_ne (h'.1 f hf) q.symm)]; omega
/-- two sums in order without zeros that have the same numbers are one -/
theorem sums_eq : ∀ {S S' : List (List Int × Int)}, InOrder S → InOrder S' → (∀ e ∈ S, e.2 ≠ 0) → (∀ e ∈ S', e.2 ≠ 0) → (∀ s, look s S = look s S') → S = S'
  | [], [], _, _, _, _, _ => rfl
  | [], e :: r, _, h', _, n', h => by
    have h1 := h e.1
    rw [look_head h'] at h1
    exact absurd h1.symm (n' e (by simp))
  | e :: r, [], h0, _, n, _, h => by
    have h1 := h e.1
    rw [look_head h0] at h1
    exact absurd h1 (n e (by simp))
  | e :: r, e' :: r', h0, h0', n, n', h => by
    have k := List.pairwise_cons.1 h0
    have k' := List.pairwise_cons.1 h0'
    have hee : e.1 = e'.1 := by
      by_cases q : e.1 = e'.1
      · exact q
      · exfalso
        rcases bf_cn q with b | b
        · have h1 := h e.1
          rw [look_head h0, look_none (S := e' :: r') (fun f hf g => by
            rw [List.mem_cons] at hf
            rcases hf with rfl | hf
            · exact q g.symm
            · exact bf_ne (bf_tr b (k'.1 f hf)) g.symm)] at h1
          exact n e (by simp) h1
        · have h1 := h e'.1
          rw [look_head h0', look_none (S := e :: r) (fun f hf g => by
            rw [List.mem_cons] at hf
            rcases hf with rfl | hf
            · exact q g
            · exact bf_ne (bf_tr b (k.1 f hf)) g.symm)] at h1
          exact n' e' (by simp) h1.symm
    have h2 : e.2 = e'.2 := by
      have h1 := h e.1
      rw [look_head h0] at h1
      rw [hee, look_head h0'] at h1
      exact h1
    have e1 : e = e' := Prod.ext hee h2
    subst e1
    rw [sums_eq k.2 k'.2 (fun f hf => n f (by simp [hf])) (fun f hf => n' f (by simp [hf])) (fun s => by
      have := h s
      rw [look, look] at this; omega)]
theorem sumTo_order (f : Nat → List Int) : ∀ n, InOrder (sumTo f n)
  | 0 => List.Pairwise.nil
  | n+1 => by rw [sumTo, putL_ins (sumTo_order f n)]; exact insU_order (sumTo_order f n)
theorem sumTo_ins (f : Nat → List Int) (n : Nat) : sumTo f (n + 1) = insU (f n) 1 (sumTo f n) := by rw [sumTo, putL_ins (sumTo_order f n)]
theorem insU_pos {t : List Int} {c : Int} (hc : 0 < c) : ∀ {S : List (List Int × Int)}, (∀ e ∈ S, 0 < e.2) → ∀ e ∈ insU t c S, 0 < e.2
  | [], _, e, h => by simp [insU] at h; rw [h]; exact hc
  | f :: r, hp, e, h => by
    rw [insU] at h
    split at h
    · rw [List.mem_cons] at h
      rcases h with rfl | h
      · exact hp _ (by simp)
      · exact insU_pos hc (fun f hf => hp f (by simp [hf])) e h
    · split at h
      · rw [List.mem_cons] at h
        rcases h with rfl | h
        · have := hp f (by simp); simp only; omega
        · exact hp e (by simp [h])
      · rw [List.mem_cons] at h
        rcases h with rfl | h
        · exact hc
        · exact hp e h
theorem sumTo_pos (f : Nat → List Int) : ∀ n, ∀ e ∈ sumTo f n, 0 < e.2
  | 0, e, h => by simp [sumTo] at h
  | n+1, e, h => by rw [sumTo_ins] at h; exact insU_pos (by omega) (sumTo_pos f n) e h
/-- how often a list stands among the first ones -/
def cntTo (f : Nat → List Int) (s : List Int) : Nat → Int
  | 0 => 0
  | n+1 => cntTo f s n + if s = f n then 1 else 0
theorem look_sumTo (f : Nat → List Int) (s : List Int) : ∀ n, look s (sumTo f n) = cntTo f s n
  | 0 => rfl
  | n+1 => by rw [sumTo_ins, look_insU, look_sumTo f s n, cntTo]
theorem cntTo_le (f : Nat → List Int) (s : List Int) : ∀ n : Nat, cntTo f s n ≤ (n : Int) ∧ 0 ≤ cntTo f s n
  | 0 => by simp [cntTo]
  | n+1 => by
    have := cntTo_le f s n
    rw [cntTo]; split <;> omega
theorem look_mem {S : List (List Int × Int)} (h : InOrder S) : ∀ {e}, e ∈ S → look e.1 S = e.2 := by
  induction S with
  | nil => intro e he; cases he
  | cons a r ih =>
    intro e he
    have h' := List.pairwise_cons.1 h
    rw [List.mem_cons] at he
    rcases he with rfl | he
    · exact look_head h
    · rw [look, if_neg (bf_ne (h'.1 e he)), ih h'.2 he]; omega
theorem sumTo_le (f : Nat → List Int) (n : Nat) {e : List Int × Int} (h : e ∈ sumTo f n) : 0 < e.2 ∧ e.2 ≤ (n : Int) := by
  have h1 := look_mem (sumTo_order f n) h
  rw [look_sumTo] at h1
  have := cntTo_le f e.1 n
  exact ⟨sumTo_pos f n e h, by omega⟩
/-- each one that was put in is there, and the first one of the sum is the least -/
theorem insU_has {t : List Int} {c : Int} : ∀ {S : List (List Int × Int)}, (∃ e ∈ insU t c S, e.1 = t) ∧ ∀ f ∈ S, ∃ e ∈ insU t c S, e.1 = f.1
  | [] => ⟨⟨(t, c), List.mem_singleton.2 rfl, rfl⟩, fun f h => by cases h⟩
  | a :: r => by
    obtain ⟨⟨e, he, k⟩, h⟩ := insU_has (t := t) (c := c) (S := r)
    rw [insU]
    split
    · exact ⟨⟨e, List.mem_cons_of_mem _ he, k⟩, fun f hf => by
        rw [List.mem_cons] at hf
        rcases hf with rfl | hf
        · exact ⟨_, by simp, rfl⟩
        · obtain ⟨e, he, k⟩ := h f hf
          exact ⟨e, by simp [he], k⟩⟩
    · split
      · rename_i q
        exact ⟨⟨_, List.mem_cons_self, q⟩, fun f hf => by
          rw [List.mem_cons] at hf
          rcases hf with rfl | hf
          · exact ⟨_, List.mem_cons_self, rfl⟩
          · exact ⟨f, by simp [hf], rfl⟩⟩
      · exact ⟨⟨_, List.mem_cons_self, rfl⟩, fun f hf => ⟨f, List.mem_cons_of_mem _ hf, rfl⟩⟩
theorem sumTo_has (f : Nat → List Int) : ∀ {n k : Nat}, k < n → ∃ e ∈ sumTo f n, e.1 = f k
  | 0, k, h => by omega
  | n+1, k, h => by
    rw [sumTo_ins]
    by_cases e : k = n
    · rw [e]; exact insU_has.1
    · obtain ⟨g, hg, q⟩ := sumTo_has f (n := n) (k := k) (by omega)
      obtain ⟨g', h', q'⟩ := insU_has.2 g hg
      exact ⟨g', h', by rw [q', q]⟩
/-- the least one of what was put in stands first -/
theorem sumTo_first {f : Nat → List Int} {n k : Nat} (hk : k < n) (hm : ∀ j < n, f j ≠ f k → beforeL (f k) (f j) = true) : ∃ x, (sumTo f n)[0]? = some (f k, x) := by
  have ho := sumTo_order f n
  obtain ⟨e, he, q⟩ := sumTo_has f hk
  have hmem := fun {e} (h : e ∈ sumTo f n) => sumTo_mem h
  generalize sumTo f n = S at ho he hmem
  cases S with
  | nil => cases he
  | cons a r =>
    have h' := List.pairwise_cons.1 ho
    rw [List.mem_cons] at he
    rcases he with rfl | he
    · exact ⟨e.2, by rw [← q]; rfl⟩
    · exfalso
      obtain ⟨j, hj, qa⟩ := hmem (e := a) (by simp)
      have h1 := h'.1 e he
      rw [q, qa] at h1
      have h2 := hm j hj (bf_ne h1)
      rw [bf_as h1] at h2; cases h2
end Go.Proofs.Ytfehjjaebdgjlaa.Tr
/-
  Trees: the model's test and its canonical lists, beside the program's.
-/
namespace Go.Proofs.Ytfehjjaebdgjlaa
open Go.RowKit Fld
set_option linter.unusedVariables false
set_option linter.unusedSimpArgs false
set_option maxRecDepth 100000

end Go.Proofs.Ytfehjjaebdgjlaa
/-
  What CompareTrees answers, the program's and the model's.
-/
namespace Go.Proofs.Ytfehjjaebdgjlaa
open Go.RowKit Fld
set_option linter.unusedVariables false
set_option linter.unusedSimpArgs false
set_option maxRecDepth 100000

theorem l03Before_any (A A' : Option Addr) (n n' c c' B B' : Nat) (xs ys : List Int) (w : World) (hl : xs.length = n) (hl' : ys.length = n') (hn : n ≤ 1048576) (hn' : n' ≤ 1048576) (h : Row w B A (ints xs)) (h' : Row w B' A' (ints ys)) :
    Calls Try.prog 115 #[.slice A n c, .slice A' n' c'] w fun e w' => e = .returned (.bool (Tr.beforeL xs ys)) ∧ ∃ m, w' = w.drewN m := by
  by_cases e : n = n'
  · have H : Hid (Tr.beforeL xs ys = Tr.lessL ys xs) := by unfold Tr.beforeL; rw [Hid, if_neg (by rw [hl, hl']; simpa using e)]
    have C1 := l01Less_any A' A n' n c' c B' B ys xs w hl' hl (by omega) (by omega) h' h
    have t : ((n : Int) != (n' : Int)) = false := bne_f (by omega)
    obtain ⟨b, hb⟩ : ∃ b, b = Tr.lessL ys xs := ⟨_, rfl⟩
    rw [← hb] at C1 H
    clear hl hl' e hb
    go_enter Try.func115, Try.ntmps115
    go_wp2_with fail
    refine C1.mono ?_
    rintro e w' ⟨rfl, m, rfl⟩
    go_wp2
    go_ret
    exact ⟨ret_bool H.out.symm, m, rfl⟩
  · have H : Hid (Tr.beforeL xs ys = decide (n < n')) := by unfold Tr.beforeL; rw [Hid, if_pos (by rw [hl, hl']; exact e), hl, hl']
    have t : ((n : Int) != (n' : Int)) = true := bne_t (by omega)
    clear hl hl'
    go_enter Try.func115, Try.ntmps115
    go_wp2
    go_ret
    exact ⟨by rw [H.out]; rfl, 0, rfl⟩
def cmpA (s t : List Int) : Int × Int := if Tr.isLv s = true ∧ Tr.isLv t = true then (Tr.cmpL (Tr.can s) (Tr.can t), 0) else (0, 1)
theorem cmpA_yes {s t : List Int} (h : Tr.isLv s = true) (h' : Tr.isLv t = true) : cmpA s t = (Tr.cmpL (Tr.can s) (Tr.can t), 0) := if_pos ⟨h, h'⟩
theorem cmpA_no1 {s t : List Int} (h : Tr.isLv s = false) : cmpA s t = (0, 1) := if_neg (by rw [h]; simp)
theorem cmpA_no2 {s t : List Int} (h : Tr.isLv t = false) : cmpA s t = (0, 1) := if_neg (by rw [h]; simp)
end Go.Proofs.Ytfehjjaebdgjlaa
/-
  Lists of trees with their numbers in memory.
-/
namespace Go.Proofs.Ytfehjjaebdgjlaa
open Go.RowKit Fld
set_option linter.unusedVariables false
set_option linter.unusedSimpArgs false
set_option maxRecDepth 100000

theorem info_cnt : (Try.prog.info? 74).map (fun i => (i.zero, i.size, i.bytes)) = some (some (.agg #[.slice none 0 0, .int .i64 0]), 2, 32) := by kernel_rfl
/-- a row in a block of numbers -/
def TRow (w : World) (B : Nat) (A : Option Addr) (vs : List Value) : Prop :=
  ∀ k v, vs[k]? = some v → ∃ b o cur fr, A = some ⟨b, o, none⟩ ∧ b < B ∧ w.cell? ⟨b, o + k, none⟩ = some v ∧ w.heap[b]? = some (.cells cur 2 fr)
theorem TRow.row {w : World} {B : Nat} {A : Option Addr} {vs : List Value} (h : TRow w B A vs) : Row w B A vs := fun k v hv => by
  obtain ⟨b, o, _, _, e, hb, hc, _⟩ := h k v hv
  exact ⟨b, o, e, hb, hc⟩
theorem TRow.keep {w w' : World} {B : Nat} {A : Option Addr} {vs : List Value} (h : TRow w B A vs) (hk : ∀ b, b < B → (∃ cur fr, w.heap[b]? = some (.cells cur 2 fr)) → w'.heap[b]? = w.heap[b]?) : TRow w' B A vs := fun k v hv => by
  obtain ⟨b, o, cur, fr, e, hb, hc, ht⟩ := h k v hv
  have := hk b hb ⟨cur, fr, ht⟩
  exact ⟨b, o, cur, fr, e, hb, (World.cell?_of_block this).trans hc, this.trans ht⟩
theorem TRow.below {w w' : World} {B B' : Nat} {A : Option Addr} {vs : List Value} (h : TRow w B A vs) (hb : Below B' w w') (hB : B ≤ B') : TRow w' B A vs := h.keep fun b hlt _ => hb.block b (by omega)
theorem TRow.more {w : World} {B B' : Nat} {A : Option Addr} {vs : List Value} (h : TRow w B A vs) (hB : B ≤ B') : TRow w B' A vs := fun k v hv => by
  obtain ⟨b, o, cur, fr, e, hb, hc, ht⟩ := h k v hv
  exact ⟨b, o, cur, fr, e, by omega, hc, ht⟩
theorem TRow.own {w : World} {base : Nat} {A : Option Addr} {n c : Nat} {vs : List Value} (h : w.ownsRow base 2 1 (.slice A n c) n vs) : TRow w w.heap.size A vs := fun k v hv => by
  obtain ⟨b, o, e, hb, hc⟩ := row_of_own h k v hv
  rcases h.2 with ⟨h1, _⟩ | ⟨g, cap, cur, h1, _, hg, _⟩
  · injection h1 with e1; rw [e1] at e; cases e
  · injection h1 with e1; rw [e1] at e; cases e
    exact ⟨_, _, cur, (0, 0), e1, hb, hc, hg⟩
abbrev Sum := List (List Int × Int)
/-- values that are trees with their numbers, two cells each -/
def Cnts (w : World) (B : Nat) (m : Sum) (vs : List Value) : Prop :=
  vs.length = 2 * m.length ∧ ∀ (k : Nat) (e : List Int × Int), m[k]? = some e → ∃ (A : Option Addr) (c : Nat), vs[2 * k]? = some (Value.slice A e.1.length c) ∧ vs[2 * k + 1]? = some (.int .i64 e.2) ∧ e.1.length ≤ c ∧ c ≤ maxLen ∧ TRow w B A (ints e.1)
theorem Cnts.nil (w : World) (B : Nat) : Cnts w B [] [] := ⟨rfl, fun k r h => by simp at h⟩
theorem Cnts.below {w w' : World} {B B' : Nat} {m : Sum} {vs : List Value} (h : Cnts w B m vs) (hb : Below B' w w') (hB : B ≤ B') : Cnts w' B m vs :=
  ⟨h.1, fun k r hr => by obtain ⟨A, c, e1, e2, e3, e4, e5⟩ := h.2 k r hr; exact ⟨A, c, e1, e2, e3, e4, e5.below hb hB⟩⟩
theorem Cnts.more {w : World} {B B' : Nat} {m : Sum} {vs : List Value} (h : Cnts w B m vs) (hB : B ≤ B') : Cnts w B' m vs :=
  ⟨h.1, fun k r hr => by obtain ⟨A, c, e1, e2, e3, e4, e5⟩ := h.2 k r hr; exact ⟨A, c, e1, e2, e3, e4, e5.more hB⟩⟩
theorem Cnts.next {w w' : World} {m : Sum} {vs : List Value} (h : Cnts w w.heap.size m vs) (hb : Below w.heap.size w w') : Cnts w' w'.heap.size m vs := (h.below hb (Nat.le_refl _)).more hb.size
theorem Cnts.push {w : World} {B : Nat} {m : Sum} {vs : List Value} {A : Option Addr} {c : Nat} {t : List Int} {x : Int} (h : Cnts w B m vs) (hc : t.length ≤ c) (hm : c ≤ maxLen) (hr : TRow w B A (ints t)) : Cnts w B (m ++ [(t, x)]) (vs ++ [.slice A t.length c, .int .i64 x]) := by
  have hl := h.1
  refine ⟨by simp [hl]; omega, fun k e he => ?_⟩
  rcases Nat.lt_or_ge k m.length with g | g
  · rw [List.getElem?_append_left g] at he
    obtain ⟨A', c', q1, q2, q3⟩ := h.2 k e he
    exact ⟨A', c', by rw [List.getElem?_append_left (by omega)]; exact q1, by rw [List.getElem?_append_left (by omega)]; exact q2, q3⟩
  · rw [List.getElem?_append_right g] at he
    have hk : k - m.length = 0 := by
      rcases Nat.eq_zero_or_pos (k - m.length) with y | y
      · exact y
      · rw [List.getElem?_eq_none (by simp; omega)] at he; cases he
    rw [hk] at he
    simp only [List.getElem?_cons_zero, Option.some.injEq] at he
    subst he
    exact ⟨A, c, by rw [List.getElem?_append_right (by omega), show 2 * k - vs.length = 0 by omega]; rfl, by rw [List.getElem?_append_right (by omega), show 2 * k + 1 - vs.length = 1 by omega]; rfl, hc, hm, hr⟩
theorem Cnts.one {m : Sum} {vs : List Value} {w : World} {B : Nat} (h : Cnts w B m vs) : ∀ u ∈ vs, u.oneCell' = true := by
  intro u hu
  obtain ⟨j, hj⟩ := List.mem_iff_getElem?.1 hu
  have hl := h.1
  have hjl : j < vs.length := by
    rcases Nat.lt_or_ge j vs.length with y | y
    · exact y
    · rw [List.getElem?_eq_none y] at hj; cases hj
  obtain ⟨A, c, e1, e2, _⟩ := h.2 (j / 2) _ (List.getElem?_eq_getElem (by omega))
  rcases Nat.mod_two_eq_zero_or_one j with e | e
  · rw [show 2 * (j / 2) = j by omega, hj] at e1; injection e1 with e1; subst e1; rfl
  · rw [show 2 * (j / 2) + 1 = j by omega, hj] at e2; injection e2 with e2; subst e2; rfl
theorem Cnts.grown {w w' : World} {B lo n : Nat} {m : Sum} {vs us : List Value} {v : Value} (h : Cnts w B m vs) (ho : w.ownsRow lo 74 2 v n us) (hB : B ≤ w.heap.size) (hg : w.grownBy w' v.ownBlock) : Cnts w' B m vs :=
  ⟨h.1, fun k r hr => by
    obtain ⟨A, c, e1, e2, e3, e4, e5⟩ := h.2 k r hr
    refine ⟨A, c, e1, e2, e3, e4, e5.keep fun b hb hx => hg.block b (by omega) fun e => ?_⟩
    obtain ⟨cur, fr, hx⟩ := hx
    rcases ho.2 with ⟨h1, _⟩ | ⟨g, cap, cur', h1, _, hgg, _⟩
    · rw [h1] at e; cases e
    · rw [h1] at e
      have e' : b = g := by simpa [Value.ownBlock] using e
      rw [e', hgg] at hx
      injection hx with hx
      injection hx with _ ht
      exact absurd ht (by decide)⟩
/-- a sum that a call makes -/
def OutS (W : World) (S : Sum) (g q cap : Nat) (vs : List Value) (wr : World) : Prop := wr.ownsRow W.heap.size 74 2 (.slice (some ⟨g, 0, none⟩) q cap) q vs ∧ Cnts wr wr.heap.size S vs ∧ Below W.heap.size W wr
theorem OutS.below {W wr w2 : World} {S : Sum} {g q cap : Nat} {vs : List Value} (h : OutS W S g q cap vs wr) (hb : Below wr.heap.size wr w2) : OutS W S g q cap vs w2 := by
  obtain ⟨h1, h2, h3⟩ := h
  have hs := h3.size
  refine ⟨⟨h1.1, ?_⟩, h2.next hb, h3.trans (hb.mono hs)⟩
  rcases h1.2 with h | ⟨g', cap', cur, e, hb', hg, r⟩
  · exact .inl h
  · exact .inr ⟨g', cap', cur, e, hb', (hb.block g' (Array.getElem?_eq_some_iff.1 hg).1).trans hg, r⟩
theorem OutS.len {W wr : World} {S : Sum} {g q cap : Nat} {vs : List Value} (h : OutS W S g q cap vs wr) : S.length = q := by
  have h1 := h.1.1
  have h2 := h.2.1.1
  omega
theorem OutS.start (W : World) : OutS W [] W.heap.size 0 0 [] (W.alloc (.cells #[] 74)) :=
  ⟨World.ownsRow_lit (base := W.heap.size) (size := 2) (e := 74) W #[] 0 (Nat.le_refl _) (Nat.zero_le _) rfl, Cnts.nil _ _, (Below.refl _ _).alloc (Nat.le_refl _) _⟩
theorem OutS.push {W wr w4 : World} {S : Sum} {g q cap g4 cap4 c : Nat} {vs : List Value} {A : Option Addr} {t : List Int} {x : Int} {o : Obj} (h : OutS W S g q cap vs wr) (hr : TRow wr wr.heap.size A (ints t)) (hc : t.length ≤ c) (hm : c ≤ maxLen)
    (h4 : w4.ownsRow W.heap.size 74 2 (.slice (some ⟨g4, 0, none⟩) (q + 1) cap4) (q + 1) (vs ++ [.slice A t.length c, .int .i64 x])) (hg : (wr.alloc o).grownBy w4 (Value.ownBlock (.slice (some ⟨g, 0, none⟩) q cap))) : OutS W (S ++ [(t, x)]) g4 (q + 1) cap4 (vs ++ [.slice A t.length c, .int .i64 x]) w4 := by
  obtain ⟨h1, h2, h3⟩ := h
  have hs := h3.size
  have hal : Below wr.heap.size wr (wr.alloc o) := (Below.refl _ _).alloc (Nat.le_refl _) _
  have hsz : wr.heap.size ≤ w4.heap.size := by have := hg.size; simp at this; omega
  refine ⟨h4, ?_, ?_⟩
  · have := (Cnts.push (x := x) h2 hc hm hr).below hal (Nat.le_refl _)
    exact (this.grown (h1.alloc o) (by simp) hg).more hsz
  · exact (h3.alloc hs o).grown hg (by simp; omega) (fun k hk => by
      have := h1.lt k hk; exact this.1)
/-- a sum in memory -/
def Sms (w : World) (A : Option Addr) (m : Sum) : Prop := ∃ vs, Row w w.heap.size A vs ∧ Cnts w w.heap.size m vs
theorem Sms.next {w w' : World} {A : Option Addr} {m : Sum} (h : Sms w A m) (hb : Below w.heap.size w w') : Sms w' A m := by
  obtain ⟨vs, h1, h2⟩ := h
  exact ⟨vs, (h1.below hb (Nat.le_refl _)).more hb.size, h2.next hb⟩
theorem Sms.drewN {w : World} {A : Option Addr} {m : Sum} (h : Sms w A m) (k : Nat) : Sms (w.drewN k) A m := h.next (below_drewN (Below.refl _ _) k)
theorem Sms.nil (w : World) (A : Option Addr) : Sms w A [] := ⟨[], Row.nil _ _ _, Cnts.nil _ _⟩
theorem Sms.at {w : World} {A : Option Addr} {m : Sum} (h : Sms w A m) {k : Nat} {e : List Int × Int} (he : m[k]? = some e) : ∃ b o Ak ck, A = some ⟨b, o, none⟩ ∧ b < w.heap.size ∧ w.cell? ⟨b, o + k * 2, none⟩ = some (.slice Ak e.1.length ck) ∧ w.cell? ⟨b, o + k * 2 + 1, none⟩ = some (.int .i64 e.2) ∧ e.1.length ≤ ck ∧ ck ≤ maxLen ∧ TRow w w.heap.size Ak (ints e.1) := by
  obtain ⟨vs, h1, h2⟩ := h
  obtain ⟨A', c', q1, q2, q3, q4, q5⟩ := h2.2 k e he
  obtain ⟨b, o, rfl, hb, hc⟩ := h1 _ _ q1
  obtain ⟨b', o', e', _, hc'⟩ := h1 _ _ q2
  cases e'
  exact ⟨b, o, A', c', rfl, hb, by rw [Nat.mul_comm k 2]; exact hc, by rw [Nat.mul_comm k 2, Nat.add_assoc]; exact hc', q3, q4, q5⟩
theorem row_of_own2 {w : World} {base : Nat} {e : TypeId} {A : Option Addr} {n c : Nat} {vs : List Value} (h : w.ownsRow base e 2 (.slice A n c) n vs) : Row w w.heap.size A vs := by
  intro k v hv
  rcases h.2 with ⟨_, h0⟩ | ⟨g, cap, cur, hs, _, hg, _⟩
  · have : vs = [] := List.eq_nil_of_length_eq_zero (by rw [h.1, h0])
    subst this; simp at hv
  · injection hs with e1 e2 e3
    subst e1 e3
    have hk : k < n * 2 := by
      rw [← h.1]
      rcases Nat.lt_or_ge k vs.length with g | g
      · exact g
      · rw [List.getElem?_eq_none g] at hv; cases hv
    refine ⟨g, 0, rfl, (Array.getElem?_eq_some_iff.1 hg).1, ?_⟩
    rw [Nat.zero_add, h.cellAt k hk]; exact hv
/-- what a call hands back that makes a sum: n: its length -/
def NewSum (n : Nat) (m : Sum) (w : World) (e : Ending) (w' : World) : Prop := ∃ A c, e = .returned (.slice A n c) ∧ n ≤ c ∧ c ≤ maxLen ∧ Sms w' A m ∧ Below w.heap.size w w'
theorem OutS.done {w W wr : World} {S : Sum} {g q cap : Nat} {vs : List Value} (h : OutS W S g q cap vs wr) (hb : Below w.heap.size w W) : NewSum S.length S w (.returned (.slice (some ⟨g, 0, none⟩) q cap)) wr := by
  have e := h.len
  obtain ⟨h1, h2, h3⟩ := h
  have hc : q ≤ cap ∧ cap ≤ maxLen := by
    rcases h1.2 with ⟨h, _⟩ | ⟨g', cap', cur, h, _, _, h3, h4, _⟩
    · injection h with a b d; cases a
    · injection h with a b d; subst d; exact ⟨h3, h4⟩
  exact ⟨_, _, by rw [e], by rw [e]; exact hc.1, hc.2, ⟨vs, row_of_own2 h1, h2⟩, hb.trans (h3.mono hb.size)⟩
theorem atL_at {t : List Int} : ∀ {S : Sum} {a : Nat}, (∀ j e, j < a → S[j]? = some e → Tr.beforeL e.1 t = true) → (a = S.length ∨ ∃ e, S[a]? = some e ∧ Tr.beforeL e.1 t = false) → Tr.atL t S = a
  | [], a, _, h => by
    rcases h with h | ⟨e, h, _⟩
    · rw [h]; rfl
    · simp at h
  | s :: S, 0, _, h => by
    rcases h with h | ⟨e, h, g⟩
    · simp at h
    · simp only [List.getElem?_cons_zero, Option.some.injEq] at h
      rw [Tr.atL, h, if_neg (by rw [g]; simp)]
  | s :: S, a+1, h1, h => by
    have h2 := h1 0 s (by omega) rfl
    rw [Tr.atL, if_pos h2, atL_at (S := S) (a := a) (fun j e hj he => h1 (j + 1) e (by omega) (by simpa using he)) (by
      rcases h with h | ⟨e, h, g⟩
      · left; simpa using h
      · right; exact ⟨e, by simpa using h, g⟩)]
end Go.Proofs.Ytfehjjaebdgjlaa
/-
  Marks that the laws write into lists of the call's own, and their reading.
-/
namespace Go.Proofs.Ytfehjjaebdgjlaa
open Go.RowKit Fld
set_option linter.unusedVariables false
set_option linter.unusedSimpArgs false
set_option maxRecDepth 100000

def MarkedM (lo hi n : Nat) (v : Value) (k : Int) (m : List (List Int)) (vs : List Value) (w : World) (e : Ending) (w' : World) : Prop :=
  e = .returned (.int .i64 (k + (total m : Nat))) ∧ OwnMat w' lo hi v n (marksM k m) vs ∧ Within lo hi w w'
def MarkingM (lo hi n : Nat) (v : Value) (k : Int) (m : List (List Int)) (vs : List Value) (r : Nat) (w wr : World) : Prop :=
  OwnMat wr lo hi v n ((marksM k m).take r ++ m.drop r) vs ∧ Within lo hi w wr
theorem MarkingM.step {lo hi n r c : Nat} {v : Value} {A : Option Addr} {k : Int} {m : List (List Int)} {vs : List Value} {row : List Int} {w wr w2 : World} {e : Ending} (h : MarkingM lo hi n v k m vs r w wr) (hr : m[r]? = some row) (hv : vs[r]? = some (.slice A row.length c))
    (hm : Marked lo row.length c A (k + (total (m.take r) : Nat)) wr e w2) : MarkingM lo hi n v k m vs (r + 1) w w2 := by
  obtain ⟨h1, h2⟩ := h
  obtain ⟨_, h3, h4⟩ := hm
  have hrl : r < m.length := by
    rcases Nat.lt_or_ge r m.length with g | g
    · exact g
    · rw [List.getElem?_eq_none g] at hr; cases hr
  have h5 := h1.set_row hv (marks_length _ _) h3 h4
  rw [markM_step hrl (marksM_length _ _) (marksM_at m k r row hr)] at h5
  refine ⟨h5, h2.trans (Within.grown h4 fun g hg => ?_)⟩
  have hat : ((marksM k m).take r ++ m.drop r)[r]? = some row := by
    have e1 : ((marksM k m).take r).length = r := by simp [marksM_length]; omega
    rw [List.getElem?_append_right (by omega), e1, Nat.sub_self, List.getElem?_drop, Nat.add_zero]; exact hr
  obtain ⟨A2, c2, e2, o2⟩ := h1.inner r row hat
  rw [hv] at e2
  injection e2 with e2
  rw [e2] at hg
  exact ⟨(o2.1.lt g hg).1, o2.2 g hg⟩
theorem MarkingM.done {lo hi n : Nat} {v : Value} {k : Int} {m : List (List Int)} {vs : List Value} {w wr : World} (h : MarkingM lo hi n v k m vs n w wr) (hl : m.length = n) : MarkedM lo hi n v k m vs w (.returned (.int .i64 (k + (total m : Nat)))) wr := by
  obtain ⟨h1, h2⟩ := h
  rw [List.take_of_length_le (by rw [marksM_length]; omega), List.drop_eq_nil_of_le (by omega), List.append_nil] at h1
  exact ⟨rfl, h1, h2⟩
theorem MarkingM.at_ {lo hi n r : Nat} {v : Value} {k : Int} {m : List (List Int)} {vs : List Value} {row : List Int} {w wr : World} (h : MarkingM lo hi n v k m vs r w wr) (hr : m[r]? = some row) :
    ∃ A c, vs[r]? = some (.slice A row.length c) ∧ OwnR wr lo hi 2 (.slice A row.length c) row.length (ints row) := by
  have hrl : r < m.length := by
    rcases Nat.lt_or_ge r m.length with g | g
    · exact g
    · rw [List.getElem?_eq_none g] at hr; cases hr
  have hat : ((marksM k m).take r ++ m.drop r)[r]? = some row := by
    have e1 : ((marksM k m).take r).length = r := by simp [marksM_length]; omega
    rw [List.getElem?_append_right (by omega), e1, Nat.sub_self, List.getElem?_drop, Nat.add_zero]; exact hr
  exact h.1.inner r row hat
set_option maxHeartbeats 400000 in
theorem markInt64SS_any (A : Option Addr) (n c lo hi : Nat) (m : List (List Int)) (vs : List Value) (k : Int) (w : World) (hn : n ≤ 1099511627776) (ht : total m ≤ 1048576) (k0 : 0 ≤ k) (k1 : k ≤ 1073741824) (h : OwnMat w lo hi (.slice A n c) n m vs) :
    Calls Try.prog 39 #[.slice A n c, .int .i64 k] w (MarkedM lo hi n (.slice A n c) k m vs w) := by
  have HL := Lib.hid h.size
  have F0 : Hid (MarkingM lo hi n (.slice A n c) k m vs 0 w w) := ⟨by simpa using h, Within.refl _ _ _⟩
  clear h
  go_enter Try.func39, Try.ntmps39
  go_wp2_with fail
  go_loopw [1, 5] (fun kk i wr => ∃ r : Nat, r ≤ n ∧ kk = .int .i64 (k + (total (m.take r) : Nat)) ∧ i = .int .i64 r ∧ MarkingM lo hi n (.slice A n c) k m vs r w wr) (fun _ i _ => n - (intOf i).toNat)
  case atStart => exact ⟨0, Nat.zero_le _, by simp [total], rfl, F0.out⟩
  case round =>
    obtain ⟨r, hr, rfl, rfl, HF⟩ := hrel
    have hle := total_le m r
    by_cases hlt : r < n
    · obtain ⟨row, hrow⟩ := at_lt (show r < m.length by rw [HL.out]; exact hlt)
      obtain ⟨Ar, cr, hvr, hor⟩ := HF.at_ hrow
      obtain ⟨b, o, rfl, _, hc⟩ := HF.1.outer.row r _ hvr
      have hrl : row.length ≤ 1048576 := by
        have h1 := total_take hrow
        have h2 := total_le m (r + 1)
        omega
      have HT := Lib.hid (total_take hrow)
      have HV := Lib.hid hvr
      have HF' := Lib.hid HF
      have HR := Lib.hid hrow
      clear HF F0 hvr hrow
      go_wp2_with fail
      refine (markInt64S_any Ar row.length cr lo row _ _ rfl (by omega) (by omega) (by omega) hor.1).mono ?_
      rintro e w2 hm
      have G := Lib.hid (HF'.out.step HR.out HV.out hm)
      obtain ⟨rfl, _, _⟩ := hm
      have he : k + (total (m.take r) : Nat) + (row.length : Int) = k + (total (m.take (r + 1)) : Nat) := by rw [HT.out]; omega
      have HE := Lib.hid he
      clear he
      rw [HE.out]
      have hle2 := total_le m (r + 1)
      go_wp2
      go_roundw
      case rel => exact ⟨r + 1, by omega, rfl, by go_num, G.out⟩
      case measure => simp [intOf]; omega
    · obtain rfl : r = n := by omega
      have e : total (m.take r) = total m := by rw [List.take_of_length_le (by rw [HL.out]; omega)]
      have HE := Lib.hid e
      have G := Lib.hid (HF.done HL.out)
      clear HF F0 e
      go_wp2
      go_ret
      rw [HE.out]
      exact G.out
set_option maxHeartbeats 400000 in
theorem heldInt64SS_any (A : Option Addr) (n c B : Nat) (m : List (List Int)) (k : Int) (w : World) (hl : m.length = n) (hn : n ≤ 1099511627776) (ht : total m ≤ 1048576) (k0 : 0 ≤ k) (k1 : k ≤ 1073741824) (h : Mat w B A (marksM k m)) :
    Calls Try.prog 40 #[.slice A n c, .int .i64 k] w fun e w' => e = .returned (.int .i64 (k + (total m : Nat))) ∧ w = w' := by
  have HL := Lib.hid hl
  clear hl
  go_enter Try.func40, Try.ntmps40
  go_wp2_with fail
  go_loop [1, 5] (fun kk i => ∃ r : Nat, r ≤ n ∧ kk = .int .i64 (k + (total (m.take r) : Nat)) ∧ i = .int .i64 r) (fun _ i => n - (intOf i).toNat)
  case atStart => exact ⟨0, Nat.zero_le _, by simp [total], rfl⟩
  case round =>
    obtain ⟨r, hr, rfl, rfl⟩ := hrel
    have hle := total_le m r
    by_cases hlt : r < n
    · obtain ⟨row, hrow⟩ := at_lt (show r < m.length by rw [HL.out]; exact hlt)
      obtain ⟨b, o, Ak, ck, rfl, _, hc, _, _, hrr⟩ := h r _ (marksM_at m k r row hrow)
      rw [marks_length] at hc
      have hrl : row.length ≤ 1048576 := by
        have h1 := total_take hrow
        have h2 := total_le m (r + 1)
        omega
      have HT := Lib.hid (total_take hrow)
      clear hrow
      have he : k + (total (m.take r) : Nat) + (row.length : Int) = k + (total (m.take (r + 1)) : Nat) := by rw [HT.out]; omega
      have HE := Lib.hid he
      clear he
      have hle2 := total_le m (r + 1)
      go_wp2_with fail
      refine (heldInt64S_any Ak row.length ck B _ _ (by omega) (by omega) (by omega) hrr).mono ?_
      rintro e w' ⟨rfl, rfl⟩
      rw [HE.out]
      go_wp2
      go_round
      case rel => exact ⟨r + 1, by omega, rfl, by go_num⟩
      case measure => simp [intOf]; omega
    · obtain rfl : r = n := by omega
      have e : total (m.take r) = total m := by rw [List.take_of_length_le (by rw [HL.out]; omega)]
      have HE := Lib.hid e
      clear e
      go_wp2
      go_ret
      exact ⟨ret_i64 (by rw [HE.out]), rfl⟩
end Go.Proofs.Ytfehjjaebdgjlaa
/-
  The model's way to put a tree into a sum.
-/
namespace Go.Proofs.Ytfehjjaebdgjlaa
open Go.RowKit Fld
set_option linter.unusedVariables false
set_option linter.unusedSimpArgs false
set_option maxRecDepth 100000

set_option maxHeartbeats 8000000 in
theorem l04Put_any (A At : Option Addr) (n c nt ct : Nat) (S : Sum) (t : List Int) (x : Int) (w : World) (hl : S.length = n) (hn : n ≤ 1000) (hS : ∀ e ∈ S, e.1.length ≤ 8 ∧ -1000000 ≤ e.2 ∧ e.2 ≤ 1000000) (hx : -1000000 ≤ x ∧ x ≤ 1000000) (ht : t.length = nt) (h1 : 1 ≤ nt) (h8 : nt ≤ 8) (h : Sms w A S) (hr : Row w w.heap.size At (ints t)) :
    Calls Try.prog 90 #[.slice A n c, .slice At nt ct, .int .i64 x] w (NewSum (Tr.putL S t x).length (Tr.putL S t x) w) := by
  obtain ⟨i0, hi, hz0, hz1, hz2⟩ := info_parts info_cnt
  obtain ⟨bt, ot, rfl, hbt⟩ : ∃ bt ot, At = some ⟨bt, ot, none⟩ ∧ bt < w.heap.size := by
    obtain ⟨y, hy⟩ := at_lt (show 0 < t.length by omega)
    obtain ⟨b, o, e, hb, _⟩ := hr 0 _ (ints_at hy)
    exact ⟨b, o, e, hb⟩
  have HL := Lib.hid hl
  have HT := Lib.hid ht
  have HSB := Lib.hid hS
  have HS := Lib.hid h
  have HR := Lib.hid hr
  obtain ⟨hx0, hx1⟩ := hx
  clear hl ht hS h hr
  go_enter Try.func90, Try.ntmps90
  go_wp2_with fail
  go_loopw [7] (fun a wr => ∃ (q m : Nat), q ≤ n ∧ a = .int .i64 q ∧ wr = w.drewN m ∧ Hid (∀ j e, j < q → S[j]? = some e → Tr.beforeL e.1 t = true)) (fun a _ => n - (intOf a).toNat)
  case atStart => exact ⟨0, 0, Nat.zero_le _, rfl, rfl, fun j e hj => by omega⟩
  case round =>
    obtain ⟨q, m, hq, rfl, rfl, HQ⟩ := hrel
    by_cases hqn : q < n
    · obtain ⟨e, he⟩ := at_lt (show q < S.length by rw [HL.out]; exact hqn)
      obtain ⟨b, o, Ak, ck, rfl, hb, hc0, hc1, hlk, hck, hrow⟩ := (HS.out.drewN m).at he
      have he8 := (HSB.out e (List.mem_of_getElem? he)).1
      have C1 := l03Before_any Ak (some ⟨bt, ot, none⟩) e.1.length nt ck ct _ _ e.1 t (w.drewN m) rfl HT.out (by omega) (by omega) hrow.row (HR.out.drewN m)
      cases hbf : Tr.beforeL e.1 t
      · rw [hbf] at C1
        have HAT : Hid (Tr.atL t S = q) := atL_at HQ.out (.inr ⟨e, he, hbf⟩)
        clear hbf HQ he
        go_wp2_with fail
        refine C1.mono ?_
        rintro e' w3 ⟨rfl, m3, rfl⟩
        clear hc0 hc1 hrow C1 he8 hlk hck hb
        obtain ⟨W, hW⟩ : ∃ W, W = (w.drewN m).drewN m3 := ⟨_, rfl⟩
        have BW : Hid (Below w.heap.size w W) := by rw [hW]; exact below_drewN (below_drewN (Below.refl _ _) _) _
        rw [← hW]
        clear hW
        have hW1 : w.heap.size ≤ W.heap.size := BW.out.size
        have HSW : Hid (Sms W (some ⟨b, o, none⟩) S) := HS.out.next BW.out
        have HRW : Hid (Row W W.heap.size (some ⟨bt, ot, none⟩) (ints t)) := (HR.out.below BW.out (Nat.le_refl _)).more hW1
        have hbtW : bt < W.heap.size := by omega
        go_wp2_with fail
        go_loopw [8, 9] (fun v i wr => ∃ (k g q' cap : Nat), k ≤ n ∧ v = .slice (some ⟨g, 0, none⟩) q' cap ∧ i = .int .i64 k ∧ Hid (∃ vs, OutS W (Tr.putTo S t x q k) g q' cap vs wr)) (fun _ i _ => n - (intOf i).toNat)
        case atStart => exact ⟨0, W.heap.size, 0, 0, Nat.zero_le _, rfl, rfl, [], OutS.start W⟩
        case round =>
          obtain ⟨k, g, q', cap, hk, rfl, rfl, HV⟩ := hrel
          obtain ⟨vs, hv⟩ := HV.out
          have HO := Lib.hid hv
          have HB : Hid (Below W.heap.size W wr) := hv.2.2
          have hsz := HB.out.size
          have hq2 : q' ≤ 2000 := by
            have h1 := Tr.putTo_length S t x q k
            rw [hv.len] at h1
            split at h1 <;> omega
          clear hv HV
          by_cases hlt : k < n
          · obtain ⟨e, he⟩ := at_lt (show k < S.length by rw [HL.out]; exact hlt)
            obtain ⟨b, o, Ak, ck, e1, hb, hc0, hc1, hlk, hck, hrow⟩ := HSW.out.at he
            cases e1
            obtain ⟨he8, hy0, hy1⟩ := HSB.out e (List.mem_of_getElem? he)
            have HGD : Hid (S.getD k ([], 0) = e) := by rw [Hid, List.getD_eq_getElem?_getD, he]; rfl
            have HROWk := Lib.hid hrow
            have HST : Hid (Tr.putTo S t x q (k + 1) = Tr.putTo S t x q k ++ Tr.putE t x (decide (k = q)) e) := by rw [Hid, Tr.putTo, HGD.out]
            have HRWr : Hid (Row wr wr.heap.size (some ⟨bt, ot, none⟩) (ints t)) := (HRW.out.below HB.out (Nat.le_refl _)).more hsz
            have hbtr : bt < wr.heap.size := by omega
            have C0 := l01Same_any Ak (some ⟨bt, ot, none⟩) e.1.length nt ck ct _ _ e.1 t wr rfl HT.out (by omega) (by omega) (hrow.row.below HB.out (Nat.le_refl _)) HRWr.out
            have HC0 := Lib.hid hc0
            have HC1 := Lib.hid hc1
            have hc0' := (HB.out.cell (p := ⟨b, o + k * 2, none⟩) hb).trans hc0
            clear he hrow hc0 hc1
            by_cases hkq : k = q
            · obtain rfl : q = k := by omega
              by_cases hes : e.1 = t
              · rw [show eqL e.1 t = true by rw [hes]; exact eqL_self t] at C0
                have HPU : Hid (Tr.putTo S t x q (q + 1) = Tr.putTo S t x q q ++ [(e.1, if e.1 = t then e.2 + x else e.2)]) := by rw [Hid, HST.out]; unfold Tr.putE; rw [if_neg (by simp [hes])]; rfl
                clear hes
                go_wp2_with fail
                refine C0.mono ?_
                rintro e' w3 ⟨rfl, m3, rfl⟩
                obtain ⟨W2, hW2⟩ : ∃ W2, W2 = wr.drewN m3 := ⟨_, rfl⟩
                have HO2 : Hid (OutS W (Tr.putTo S t x q q) g q' cap vs W2) := by rw [hW2]; exact HO.out.below (below_drewN (Below.refl _ _) m3)
                rw [← hW2]
                have HBW : Hid (Below W.heap.size W W2) := HO2.out.2.2
                have hs2 : W.heap.size ≤ W2.heap.size := HBW.out.size
                have hd0 := (HBW.out.cell (p := ⟨b, o + q * 2, none⟩) hb).trans HC0.out
                have hd1 := (HBW.out.cell (p := ⟨b, o + q * 2 + 1, none⟩) hb).trans HC1.out
                have hbW : b < W2.heap.size := by omega
                have BA : Below W2.heap.size W2 (W2.alloc (Obj.cells #[.slice none 0 0, .int .i64 0] 74)) := (Below.refl _ _).alloc (Nat.le_refl _) _
                have hd2 := (BA.cell (p := ⟨b, o + q * 2, none⟩) hbW).trans hd0
                have hd3 := (BA.cell (p := ⟨b, o + q * 2 + 1, none⟩) hbW).trans hd1
                clear hW2 BA hc0'
                go_wp2_with fail
                go_region
                obtain ⟨W4, hW4⟩ : ∃ W4, W4 = (W2.alloc (Obj.cells #[.slice Ak e.1.length ck, .int .i64 e.2] 74)).drew := ⟨_, rfl⟩
                have HB4 : Hid (Below W2.heap.size W2 W4) := by rw [hW4]; exact ((Below.refl _ _).alloc (Nat.le_refl _) _).drew
                have hs4 : W4.heap.size = W2.heap.size + 1 := by rw [hW4]; show (W2.alloc _).heap.size = _; simp
                have hh4 : W4.heap[W2.heap.size]? = some (Obj.cells #[.slice Ak e.1.length ck, .int .i64 e.2] 74) := by rw [hW4]; exact heap_alloc_new _ _
                have hk0 : W4.cell? ⟨W2.heap.size, 0, none⟩ = some (.slice Ak e.1.length ck) := by rw [cell_of_row W4 _ 0 _ _ _ hh4]; rfl
                have hk1 : W4.cell? ⟨W2.heap.size, 1, none⟩ = some (.int .i64 e.2) := by rw [cell_of_row W4 _ 1 _ _ _ hh4]; rfl
                have hf1 : W4.frozen? ⟨W2.heap.size, 1, none⟩ = false := by unfold World.frozen?; simp [hh4]
                have hd4 := (HB4.out.cell (p := ⟨b, o + q * 2, none⟩) hbW).trans hd0
                rw [← hW4]
                clear hW4 hh4 hd0 hd1 hd2 hd3
                have HBW4 : Hid (Below W.heap.size W W4) := HBW.out.trans (HB4.out.mono hs2)
                have C5 := l01Same_any Ak (some ⟨bt, ot, none⟩) e.1.length nt ck ct _ _ e.1 t W4 rfl HT.out (by omega) (by omega) (HROWk.out.row.below HBW4.out (Nat.le_refl _)) (HRW.out.below HBW4.out (Nat.le_refl _))
                obtain ⟨Z, hZ⟩ : ∃ Z, Z = W2.heap.size := ⟨_, rfl⟩
                rw [← hZ] at hk0 hk1 hf1 hs4 HB4 ⊢
                have hWZ : W.heap.size ≤ Z := by omega
                by_cases hes : e.1 = t
                · rw [show eqL e.1 t = true by rw [hes]; exact eqL_self t] at C5
                  have HPV : Hid (Tr.putTo S t x q (q + 1) = Tr.putTo S t x q q ++ [(e.1, e.2 + x)]) := by rw [Hid, HPU.out, if_pos hes]
                  clear hes
                  go_wp2_with fail
                  refine C5.mono ?_
                  rintro e' w5 ⟨rfl, m5, rfl⟩
                  have HS5 : Hid (((W4.drewN m5).setCell ⟨Z, 1, none⟩ (.int .i64 (e.2 + x))).heap.size = Z + 1) := by
                    rw [Hid, ← hs4]; exact World.size_setCell _ _ _
                  have HO5 : Hid (OutS W (Tr.putTo S t x q q) g q' cap vs ((W4.drewN m5).setCell ⟨Z, 1, none⟩ (.int .i64 (e.2 + x)))) := HO2.out.below (by rw [← hZ]; exact (below_drewN HB4.out m5).setCell (p := ⟨Z, 1, none⟩) (Nat.le_refl _) _)
                  have hown5 := HO5.out.1
                  have HT5 : Hid (TRow ((W4.drewN m5).setCell ⟨Z, 1, none⟩ (.int .i64 (e.2 + x))) ((W4.drewN m5).setCell ⟨Z, 1, none⟩ (.int .i64 (e.2 + x))).heap.size Ak (ints e.1)) := (HROWk.out.below HO5.out.2.2 (Nat.le_refl _)).more HO5.out.2.2.size
                  clear hZ
                  go_wp2_with (at_builtin; refine wpList_append_lies _ rfl (.tmp 76) (.tmp 78) 30 rfl W.heap.size 74 i0 _ 2 32 Try.underlying30 hi hz0 hz1 hz2 rfl (by omega) (.slice (some ⟨g, 0, none⟩) q' cap) q' vs rfl (hown5.alloc _) ⟨Z + 1, 0, none⟩ 1 1 [.slice Ak e.1.length ck, .int .i64 (e.2 + x)] rfl rfl (by rw [← HS5.out]; exact World.news_of_block (cs := #[.slice Ak e.1.length ck, .int .i64 (e.2 + x)]) (heap_alloc_new _ _)) (by simp [Value.oneCell']) (by omega) (by simp only [maxLen]; omega) (by omega) (by simp; omega) _ rfl ?_; intro g7 cap7 w7 hown7 hgrow7 hat7 hlt7)
                  have HO7 : Hid (∃ vs, OutS W (Tr.putTo S t x q (q + 1)) g7 (q' + 1) cap7 vs w7) := by
                    rw [Hid, HPV.out]
                    exact ⟨_, HO5.out.push HT5.out hlk hck hown7 hgrow7⟩
                  clear hown7 hgrow7 hat7 hlt7 hown5
                  go_wp2
                  go_roundw
                  case rel => exact ⟨q + 1, g7, _, cap7, by omega, rfl, by go_num, HO7.out⟩
                  case measure => simp [intOf]; omega
                · rw [show eqL e.1 t = false by unfold eqL; exact decide_eq_false hes] at C5
                  have HPV : Hid (Tr.putTo S t x q (q + 1) = Tr.putTo S t x q q ++ [(e.1, e.2)]) := by rw [Hid, HPU.out, if_neg hes]
                  clear hes
                  go_wp2_with fail
                  refine C5.mono ?_
                  rintro e' w5 ⟨rfl, m5, rfl⟩
                  have HS5 : Hid ((W4.drewN m5).heap.size = Z + 1) := by
                    rw [Hid, ← hs4]; rfl
                  have HO5 : Hid (OutS W (Tr.putTo S t x q q) g q' cap vs (W4.drewN m5)) := HO2.out.below (by rw [← hZ]; exact below_drewN HB4.out m5)
                  have hown5 := HO5.out.1
                  have HT5 : Hid (TRow (W4.drewN m5) (W4.drewN m5).heap.size Ak (ints e.1)) := (HROWk.out.below HO5.out.2.2 (Nat.le_refl _)).more HO5.out.2.2.size
                  clear hZ
                  go_wp2_with (at_builtin; refine wpList_append_lies _ rfl (.tmp 76) (.tmp 78) 30 rfl W.heap.size 74 i0 _ 2 32 Try.underlying30 hi hz0 hz1 hz2 rfl (by omega) (.slice (some ⟨g, 0, none⟩) q' cap) q' vs rfl (hown5.alloc _) ⟨Z + 1, 0, none⟩ 1 1 [.slice Ak e.1.length ck, .int .i64 e.2] rfl rfl (by rw [← HS5.out]; exact World.news_of_block (cs := #[.slice Ak e.1.length ck, .int .i64 e.2]) (heap_alloc_new _ _)) (by simp [Value.oneCell']) (by omega) (by simp only [maxLen]; omega) (by omega) (by simp; omega) _ rfl ?_; intro g7 cap7 w7 hown7 hgrow7 hat7 hlt7)
                  have HO7 : Hid (∃ vs, OutS W (Tr.putTo S t x q (q + 1)) g7 (q' + 1) cap7 vs w7) := by
                    rw [Hid, HPV.out]
                    exact ⟨_, HO5.out.push HT5.out hlk hck hown7 hgrow7⟩
                  clear hown7 hgrow7 hat7 hlt7 hown5
                  go_wp2
                  go_roundw
                  case rel => exact ⟨q + 1, g7, _, cap7, by omega, rfl, by go_num, HO7.out⟩
                  case measure => simp [intOf]; omega
              · rw [show eqL e.1 t = false by unfold eqL; exact decide_eq_false hes] at C0
                have HPU : Hid (Tr.putTo S t x q (q + 1) = (Tr.putTo S t x q q ++ [(t, x)]) ++ [(e.1, if e.1 = t then e.2 + x else e.2)]) := by rw [Hid, HST.out]; unfold Tr.putE; rw [decide_eq_true rfl, decide_eq_false hes]; simp
                clear hes
                go_wp2_with fail
                refine C0.mono ?_
                rintro e' w3 ⟨rfl, m3, rfl⟩
                have HR3 : Hid (Row (wr.drewN m3) wr.heap.size (some ⟨bt, ot, none⟩) (ints t)) := HRWr.out.drewN m3
                go_wp2_with fail
                refine (l01Own_any ⟨bt, ot, none⟩ nt ct wr.heap.size t _ HT.out (by omega) (by show wr.heap.size ≤ wr.heap.size; omega) HR3.out).mono ?_
                rintro e' w3 ⟨A3, c3, rfl, own3, bel3⟩
                have HB3 : Hid (Below wr.heap.size wr w3) := (below_drewN (Below.refl _ _) m3).trans bel3
                have hs3 : wr.heap.size ≤ w3.heap.size := HB3.out.size
                have HO3 := HO.out.below HB3.out
                obtain ⟨hc3, hcm3⟩ := own_cap own3
                have HT3 := Lib.hid (TRow.own own3)
                have HO3' := Lib.hid HO3
                have hown := HO3.1
                clear bel3 own3 HO3
                go_wp2_with (at_builtin; refine wpList_append_lies _ rfl (.tmp 46) (.tmp 51) 30 rfl W.heap.size 74 i0 _ 2 32 Try.underlying30 hi hz0 hz1 hz2 rfl (by omega) (.slice (some ⟨g, 0, none⟩) q' cap) q' vs rfl (hown.alloc _) ⟨w3.heap.size, 0, none⟩ 1 1 [.slice A3 nt c3, .int .i64 x] rfl rfl (World.news_of_block (cs := #[.slice A3 nt c3, .int .i64 x]) (heap_alloc_new _ _)) (by simp [Value.oneCell']) (by omega) (by simp only [maxLen]; omega) (by omega) (by simp; omega) (w3.heap.size + 1) (by simp) ?_; intro g2 cap2 w4 hown4 hgrow4 hat4 hlt4)
                obtain ⟨vs2, hv2⟩ : ∃ vs, OutS W (Tr.putTo S t x q q ++ [(t, x)]) g2 (q' + 1) cap2 vs w4 := by
                  have e : nt = t.length := HT.out.symm
                  subst e
                  exact ⟨_, HO3'.out.push HT3.out (by omega) hcm3 hown4 hgrow4⟩
                obtain ⟨W2, hW2⟩ : ∃ W2, W2 = w4 := ⟨_, rfl⟩
                have HO2 : Hid (OutS W (Tr.putTo S t x q q ++ [(t, x)]) g2 (q' + 1) cap2 vs2 W2) := by rw [hW2]; exact hv2
                obtain ⟨q2, hq2e⟩ : ∃ q2, q2 = q' + 1 := ⟨_, rfl⟩
                have hq3 : q2 ≤ 2001 := by omega
                rw [← hW2, ← hq2e]
                rw [← hq2e] at HO2
                clear hown hown4 hgrow4 hat4 hlt4 hv2 hq2e
                have HBW : Hid (Below W.heap.size W W2) := HO2.out.2.2
                have hs2 : W.heap.size ≤ W2.heap.size := HBW.out.size
                have hd0 := (HBW.out.cell (p := ⟨b, o + q * 2, none⟩) hb).trans HC0.out
                have hd1 := (HBW.out.cell (p := ⟨b, o + q * 2 + 1, none⟩) hb).trans HC1.out
                have hbW : b < W2.heap.size := by omega
                have BA : Below W2.heap.size W2 (W2.alloc (Obj.cells #[.slice none 0 0, .int .i64 0] 74)) := (Below.refl _ _).alloc (Nat.le_refl _) _
                have hd2 := (BA.cell (p := ⟨b, o + q * 2, none⟩) hbW).trans hd0
                have hd3 := (BA.cell (p := ⟨b, o + q * 2 + 1, none⟩) hbW).trans hd1
                clear hW2 BA hc0'
                go_wp2_with fail
                go_region
                obtain ⟨W4, hW4⟩ : ∃ W4, W4 = (W2.alloc (Obj.cells #[.slice Ak e.1.length ck, .int .i64 e.2] 74)).drew := ⟨_, rfl⟩
                have HB4 : Hid (Below W2.heap.size W2 W4) := by rw [hW4]; exact ((Below.refl _ _).alloc (Nat.le_refl _) _).drew
                have hs4 : W4.heap.size = W2.heap.size + 1 := by rw [hW4]; show (W2.alloc _).heap.size = _; simp
                have hh4 : W4.heap[W2.heap.size]? = some (Obj.cells #[.slice Ak e.1.length ck, .int .i64 e.2] 74) := by rw [hW4]; exact heap_alloc_new _ _
                have hk0 : W4.cell? ⟨W2.heap.size, 0, none⟩ = some (.slice Ak e.1.length ck) := by rw [cell_of_row W4 _ 0 _ _ _ hh4]; rfl
                have hk1 : W4.cell? ⟨W2.heap.size, 1, none⟩ = some (.int .i64 e.2) := by rw [cell_of_row W4 _ 1 _ _ _ hh4]; rfl
                have hf1 : W4.frozen? ⟨W2.heap.size, 1, none⟩ = false := by unfold World.frozen?; simp [hh4]
                have hd4 := (HB4.out.cell (p := ⟨b, o + q * 2, none⟩) hbW).trans hd0
                rw [← hW4]
                clear hW4 hh4 hd0 hd1 hd2 hd3
                have HBW4 : Hid (Below W.heap.size W W4) := HBW.out.trans (HB4.out.mono hs2)
                have C5 := l01Same_any Ak (some ⟨bt, ot, none⟩) e.1.length nt ck ct _ _ e.1 t W4 rfl HT.out (by omega) (by omega) (HROWk.out.row.below HBW4.out (Nat.le_refl _)) (HRW.out.below HBW4.out (Nat.le_refl _))
                obtain ⟨Z, hZ⟩ : ∃ Z, Z = W2.heap.size := ⟨_, rfl⟩
                rw [← hZ] at hk0 hk1 hf1 hs4 HB4 ⊢
                have hWZ : W.heap.size ≤ Z := by omega
                by_cases hes : e.1 = t
                · rw [show eqL e.1 t = true by rw [hes]; exact eqL_self t] at C5
                  have HPV : Hid (Tr.putTo S t x q (q + 1) = (Tr.putTo S t x q q ++ [(t, x)]) ++ [(e.1, e.2 + x)]) := by rw [Hid, HPU.out, if_pos hes]
                  clear hes
                  go_wp2_with fail
                  refine C5.mono ?_
                  rintro e' w5 ⟨rfl, m5, rfl⟩
                  have HS5 : Hid (((W4.drewN m5).setCell ⟨Z, 1, none⟩ (.int .i64 (e.2 + x))).heap.size = Z + 1) := by
                    rw [Hid, ← hs4]; exact World.size_setCell _ _ _
                  have HO5 : Hid (OutS W ((Tr.putTo S t x q q ++ [(t, x)])) g2 q2 cap2 vs2 ((W4.drewN m5).setCell ⟨Z, 1, none⟩ (.int .i64 (e.2 + x)))) := HO2.out.below (by rw [← hZ]; exact (below_drewN HB4.out m5).setCell (p := ⟨Z, 1, none⟩) (Nat.le_refl _) _)
                  have hown5 := HO5.out.1
                  have HT5 : Hid (TRow ((W4.drewN m5).setCell ⟨Z, 1, none⟩ (.int .i64 (e.2 + x))) ((W4.drewN m5).setCell ⟨Z, 1, none⟩ (.int .i64 (e.2 + x))).heap.size Ak (ints e.1)) := (HROWk.out.below HO5.out.2.2 (Nat.le_refl _)).more HO5.out.2.2.size
                  clear hZ
                  go_wp2_with (at_builtin; refine wpList_append_lies _ rfl (.tmp 76) (.tmp 78) 30 rfl W.heap.size 74 i0 _ 2 32 Try.underlying30 hi hz0 hz1 hz2 rfl (by omega) (.slice (some ⟨g2, 0, none⟩) q2 cap2) q2 vs2 rfl (hown5.alloc _) ⟨Z + 1, 0, none⟩ 1 1 [.slice Ak e.1.length ck, .int .i64 (e.2 + x)] rfl rfl (by rw [← HS5.out]; exact World.news_of_block (cs := #[.slice Ak e.1.length ck, .int .i64 (e.2 + x)]) (heap_alloc_new _ _)) (by simp [Value.oneCell']) (by omega) (by simp only [maxLen]; omega) (by omega) (by simp; omega) _ rfl ?_; intro g7 cap7 w7 hown7 hgrow7 hat7 hlt7)
                  have HO7 : Hid (∃ vs, OutS W (Tr.putTo S t x q (q + 1)) g7 (q2 + 1) cap7 vs w7) := by
                    rw [Hid, HPV.out]
                    exact ⟨_, HO5.out.push HT5.out hlk hck hown7 hgrow7⟩
                  clear hown7 hgrow7 hat7 hlt7 hown5
                  go_wp2
                  go_roundw
                  case rel => exact ⟨q + 1, g7, _, cap7, by omega, rfl, by go_num, HO7.out⟩
                  case measure => simp [intOf]; omega
                · rw [show eqL e.1 t = false by unfold eqL; exact decide_eq_false hes] at C5
                  have HPV : Hid (Tr.putTo S t x q (q + 1) = (Tr.putTo S t x q q ++ [(t, x)]) ++ [(e.1, e.2)]) := by rw [Hid, HPU.out, if_neg hes]
                  clear hes
                  go_wp2_with fail
                  refine C5.mono ?_
                  rintro e' w5 ⟨rfl, m5, rfl⟩
                  have HS5 : Hid ((W4.drewN m5).heap.size = Z + 1) := by
                    rw [Hid, ← hs4]; rfl
                  have HO5 : Hid (OutS W ((Tr.putTo S t x q q ++ [(t, x)])) g2 q2 cap2 vs2 (W4.drewN m5)) := HO2.out.below (by rw [← hZ]; exact below_drewN HB4.out m5)
                  have hown5 := HO5.out.1
                  have HT5 : Hid (TRow (W4.drewN m5) (W4.drewN m5).heap.size Ak (ints e.1)) := (HROWk.out.below HO5.out.2.2 (Nat.le_refl _)).more HO5.out.2.2.size
                  clear hZ
                  go_wp2_with (at_builtin; refine wpList_append_lies _ rfl (.tmp 76) (.tmp 78) 30 rfl W.heap.size 74 i0 _ 2 32 Try.underlying30 hi hz0 hz1 hz2 rfl (by omega) (.slice (some ⟨g2, 0, none⟩) q2 cap2) q2 vs2 rfl (hown5.alloc _) ⟨Z + 1, 0, none⟩ 1 1 [.slice Ak e.1.length ck, .int .i64 e.2] rfl rfl (by rw [← HS5.out]; exact World.news_of_block (cs := #[.slice Ak e.1.length ck, .int .i64 e.2]) (heap_alloc_new _ _)) (by simp [Value.oneCell']) (by omega) (by simp only [maxLen]; omega) (by omega) (by simp; omega) _ rfl ?_; intro g7 cap7 w7 hown7 hgrow7 hat7 hlt7)
                  have HO7 : Hid (∃ vs, OutS W (Tr.putTo S t x q (q + 1)) g7 (q2 + 1) cap7 vs w7) := by
                    rw [Hid, HPV.out]
                    exact ⟨_, HO5.out.push HT5.out hlk hck hown7 hgrow7⟩
                  clear hown7 hgrow7 hat7 hlt7 hown5
                  go_wp2
                  go_roundw
                  case rel => exact ⟨q + 1, g7, _, cap7, by omega, rfl, by go_num, HO7.out⟩
                  case measure => simp [intOf]; omega
            · have HKQ := Lib.hid hkq
              have tkq := beq_f (show ¬ (k : Int) = (q : Int) by omega)
              have HPU : Hid (Tr.putTo S t x q (k + 1) = Tr.putTo S t x q k ++ [(e.1, if e.1 = t then e.2 + x else e.2)]) := by rw [Hid, HST.out]; unfold Tr.putE; rw [decide_eq_false hkq]; rfl
              obtain ⟨W2, hW2⟩ : ∃ W2, W2 = wr := ⟨_, rfl⟩
              have HO2 : Hid (OutS W (Tr.putTo S t x q k) g q' cap vs W2) := by rw [hW2]; exact HO.out
              clear hkq C0
              rw [← hW2]
              have HBW : Hid (Below W.heap.size W W2) := HO2.out.2.2
              have hs2 : W.heap.size ≤ W2.heap.size := HBW.out.size
              have hd0 := (HBW.out.cell (p := ⟨b, o + k * 2, none⟩) hb).trans HC0.out
              have hd1 := (HBW.out.cell (p := ⟨b, o + k * 2 + 1, none⟩) hb).trans HC1.out
              have hbW : b < W2.heap.size := by omega
              have BA : Below W2.heap.size W2 (W2.alloc (Obj.cells #[.slice none 0 0, .int .i64 0] 74)) := (Below.refl _ _).alloc (Nat.le_refl _) _
              have hd2 := (BA.cell (p := ⟨b, o + k * 2, none⟩) hbW).trans hd0
              have hd3 := (BA.cell (p := ⟨b, o + k * 2 + 1, none⟩) hbW).trans hd1
              clear hW2 BA hc0'
              go_wp2_with fail
              go_region
              obtain ⟨W4, hW4⟩ : ∃ W4, W4 = (W2.alloc (Obj.cells #[.slice Ak e.1.length ck, .int .i64 e.2] 74)).drew := ⟨_, rfl⟩
              have HB4 : Hid (Below W2.heap.size W2 W4) := by rw [hW4]; exact ((Below.refl _ _).alloc (Nat.le_refl _) _).drew
              have hs4 : W4.heap.size = W2.heap.size + 1 := by rw [hW4]; show (W2.alloc _).heap.size = _; simp
              have hh4 : W4.heap[W2.heap.size]? = some (Obj.cells #[.slice Ak e.1.length ck, .int .i64 e.2] 74) := by rw [hW4]; exact heap_alloc_new _ _
              have hk0 : W4.cell? ⟨W2.heap.size, 0, none⟩ = some (.slice Ak e.1.length ck) := by rw [cell_of_row W4 _ 0 _ _ _ hh4]; rfl
              have hk1 : W4.cell? ⟨W2.heap.size, 1, none⟩ = some (.int .i64 e.2) := by rw [cell_of_row W4 _ 1 _ _ _ hh4]; rfl
              have hf1 : W4.frozen? ⟨W2.heap.size, 1, none⟩ = false := by unfold World.frozen?; simp [hh4]
              have hd4 := (HB4.out.cell (p := ⟨b, o + k * 2, none⟩) hbW).trans hd0
              rw [← hW4]
              clear hW4 hh4 hd0 hd1 hd2 hd3
              have HBW4 : Hid (Below W.heap.size W W4) := HBW.out.trans (HB4.out.mono hs2)
              have C5 := l01Same_any Ak (some ⟨bt, ot, none⟩) e.1.length nt ck ct _ _ e.1 t W4 rfl HT.out (by omega) (by omega) (HROWk.out.row.below HBW4.out (Nat.le_refl _)) (HRW.out.below HBW4.out (Nat.le_refl _))
              obtain ⟨Z, hZ⟩ : ∃ Z, Z = W2.heap.size := ⟨_, rfl⟩
              rw [← hZ] at hk0 hk1 hf1 hs4 HB4 ⊢
              have hWZ : W.heap.size ≤ Z := by omega
              by_cases hes : e.1 = t
              · rw [show eqL e.1 t = true by rw [hes]; exact eqL_self t] at C5
                have HPV : Hid (Tr.putTo S t x q (k + 1) = Tr.putTo S t x q k ++ [(e.1, e.2 + x)]) := by rw [Hid, HPU.out, if_pos hes]
                clear hes
                go_wp2_with fail
                refine C5.mono ?_
                rintro e' w5 ⟨rfl, m5, rfl⟩
                have HS5 : Hid (((W4.drewN m5).setCell ⟨Z, 1, none⟩ (.int .i64 (e.2 + x))).heap.size = Z + 1) := by
                  rw [Hid, ← hs4]; exact World.size_setCell _ _ _
                have HO5 : Hid (OutS W (Tr.putTo S t x q k) g q' cap vs ((W4.drewN m5).setCell ⟨Z, 1, none⟩ (.int .i64 (e.2 + x)))) := HO2.out.below (by rw [← hZ]; exact (below_drewN HB4.out m5).setCell (p := ⟨Z, 1, none⟩) (Nat.le_refl _) _)
                have hown5 := HO5.out.1
                have HT5 : Hid (TRow ((W4.drewN m5).setCell ⟨Z, 1, none⟩ (.int .i64 (e.2 + x))) ((W4.drewN m5).setCell ⟨Z, 1, none⟩ (.int .i64 (e.2 + x))).heap.size Ak (ints e.1)) := (HROWk.out.below HO5.out.2.2 (Nat.le_refl _)).more HO5.out.2.2.size
                clear hZ
                go_wp2_with (at_builtin; refine wpList_append_lies _ rfl (.tmp 76) (.tmp 78) 30 rfl W.heap.size 74 i0 _ 2 32 Try.underlying30 hi hz0 hz1 hz2 rfl (by omega) (.slice (some ⟨g, 0, none⟩) q' cap) q' vs rfl (hown5.alloc _) ⟨Z + 1, 0, none⟩ 1 1 [.slice Ak e.1.length ck, .int .i64 (e.2 + x)] rfl rfl (by rw [← HS5.out]; exact World.news_of_block (cs := #[.slice Ak e.1.length ck, .int .i64 (e.2 + x)]) (heap_alloc_new _ _)) (by simp [Value.oneCell']) (by omega) (by simp only [maxLen]; omega) (by omega) (by simp; omega) _ rfl ?_; intro g7 cap7 w7 hown7 hgrow7 hat7 hlt7)
                have HO7 : Hid (∃ vs, OutS W (Tr.putTo S t x q (k + 1)) g7 (q' + 1) cap7 vs w7) := by
                  rw [Hid, HPV.out]
                  exact ⟨_, HO5.out.push HT5.out hlk hck hown7 hgrow7⟩
                clear hown7 hgrow7 hat7 hlt7 hown5
                go_wp2
                go_roundw
                case rel => exact ⟨k + 1, g7, _, cap7, by omega, rfl, by go_num, HO7.out⟩
                case measure => simp [intOf]; omega
              · rw [show eqL e.1 t = false by unfold eqL; exact decide_eq_false hes] at C5
                have HPV : Hid (Tr.putTo S t x q (k + 1) = Tr.putTo S t x q k ++ [(e.1, e.2)]) := by rw [Hid, HPU.out, if_neg hes]
                clear hes
                go_wp2_with fail
                refine C5.mono ?_
                rintro e' w5 ⟨rfl, m5, rfl⟩
                have HS5 : Hid ((W4.drewN m5).heap.size = Z + 1) := by
                  rw [Hid, ← hs4]; rfl
                have HO5 : Hid (OutS W (Tr.putTo S t x q k) g q' cap vs (W4.drewN m5)) := HO2.out.below (by rw [← hZ]; exact below_drewN HB4.out m5)
                have hown5 := HO5.out.1
                have HT5 : Hid (TRow (W4.drewN m5) (W4.drewN m5).heap.size Ak (ints e.1)) := (HROWk.out.below HO5.out.2.2 (Nat.le_refl _)).more HO5.out.2.2.size
                clear hZ
                go_wp2_with (at_builtin; refine wpList_append_lies _ rfl (.tmp 76) (.tmp 78) 30 rfl W.heap.size 74 i0 _ 2 32 Try.underlying30 hi hz0 hz1 hz2 rfl (by omega) (.slice (some ⟨g, 0, none⟩) q' cap) q' vs rfl (hown5.alloc _) ⟨Z + 1, 0, none⟩ 1 1 [.slice Ak e.1.length ck, .int .i64 e.2] rfl rfl (by rw [← HS5.out]; exact World.news_of_block (cs := #[.slice Ak e.1.length ck, .int .i64 e.2]) (heap_alloc_new _ _)) (by simp [Value.oneCell']) (by omega) (by simp only [maxLen]; omega) (by omega) (by simp; omega) _ rfl ?_; intro g7 cap7 w7 hown7 hgrow7 hat7 hlt7)
                have HO7 : Hid (∃ vs, OutS W (Tr.putTo S t x q (k + 1)) g7 (q' + 1) cap7 vs w7) := by
                  rw [Hid, HPV.out]
                  exact ⟨_, HO5.out.push HT5.out hlk hck hown7 hgrow7⟩
                clear hown7 hgrow7 hat7 hlt7 hown5
                go_wp2
                go_roundw
                case rel => exact ⟨k + 1, g7, _, cap7, by omega, rfl, by go_num, HO7.out⟩
                case measure => simp [intOf]; omega
          · have hkn : k = n := by omega
            have G : Hid (NewSum (Tr.putL S t x).length (Tr.putL S t x) w (.returned (.slice (some ⟨g, 0, none⟩) q' cap)) wr) := by
              have e : Tr.putL S t x = Tr.putTo S t x q k := by unfold Tr.putL; rw [HAT.out, HL.out, if_neg (by omega), List.append_nil, hkn]
              rw [Hid, e]
              exact HO.out.done BW.out
            have tqn := beq_f (show ¬ (q : Int) = (n : Int) by omega)
            clear hkn HO
            go_wp2
            go_ret
            exact G.out
      · rw [hbf] at C1
        have HQ2 : Hid (∀ j e, j < q + 1 → S[j]? = some e → Tr.beforeL e.1 t = true) := fun j e' hj he' => by
          by_cases hjq : j = q
          · subst hjq; rw [he] at he'; injection he' with he'; rw [← he']; exact hbf
          · exact HQ.out j e' (by omega) he'
        clear hbf HQ he
        go_wp2_with fail
        refine C1.mono ?_
        rintro e' w3 ⟨rfl, m3, rfl⟩
        go_wp2
        go_roundw
        case rel => exact ⟨q + 1, _, by omega, by go_num, rfl, HQ2⟩
        case measure => simp [intOf]; omega
    · have hqe : q = n := by omega
      have HQE := Lib.hid hqe
      have HAT : Hid (Tr.atL t S = q) := atL_at HQ.out (.inl (by rw [hqe]; exact HL.out.symm))
      obtain ⟨W, hW⟩ : ∃ W, W = w.drewN m := ⟨_, rfl⟩
      have BW : Hid (Below w.heap.size w W) := by rw [hW]; exact below_drewN (Below.refl _ _) _
      clear HQ hqe
      rw [← hW]
      clear hW
      have hW1 : w.heap.size ≤ W.heap.size := BW.out.size
      have HSW : Hid (Sms W A S) := HS.out.next BW.out
      have HRW : Hid (Row W W.heap.size (some ⟨bt, ot, none⟩) (ints t)) := (HR.out.below BW.out (Nat.le_refl _)).more hW1
      have hbtW : bt < W.heap.size := by omega
      go_wp2_with fail
      go_loopw [8, 9] (fun v i wr => ∃ (k g q' cap : Nat), k ≤ n ∧ v = .slice (some ⟨g, 0, none⟩) q' cap ∧ i = .int .i64 k ∧ Hid (∃ vs, OutS W (Tr.putTo S t x q k) g q' cap vs wr)) (fun _ i _ => n - (intOf i).toNat)
      case atStart => exact ⟨0, W.heap.size, 0, 0, Nat.zero_le _, rfl, rfl, [], OutS.start W⟩
      case round =>
        obtain ⟨k, g, q', cap, hk, rfl, rfl, HV⟩ := hrel
        obtain ⟨vs, hv⟩ := HV.out
        have HO := Lib.hid hv
        have HB : Hid (Below W.heap.size W wr) := hv.2.2
        have hsz := HB.out.size
        have hq2 : q' ≤ 2000 := by
          have h1 := Tr.putTo_length S t x q k
          rw [hv.len] at h1
          split at h1 <;> omega
        clear hv HV
        by_cases hlt : k < n
        · obtain ⟨e, he⟩ := at_lt (show k < S.length by rw [HL.out]; exact hlt)
          obtain ⟨b, o, Ak, ck, e1, hb, hc0, hc1, hlk, hck, hrow⟩ := HSW.out.at he
          subst e1
          obtain ⟨he8, hy0, hy1⟩ := HSB.out e (List.mem_of_getElem? he)
          have HGD : Hid (S.getD k ([], 0) = e) := by rw [Hid, List.getD_eq_getElem?_getD, he]; rfl
          have HROWk := Lib.hid hrow
          have HST : Hid (Tr.putTo S t x q (k + 1) = Tr.putTo S t x q k ++ Tr.putE t x (decide (k = q)) e) := by rw [Hid, Tr.putTo, HGD.out]
          have HRWr : Hid (Row wr wr.heap.size (some ⟨bt, ot, none⟩) (ints t)) := (HRW.out.below HB.out (Nat.le_refl _)).more hsz
          have hbtr : bt < wr.heap.size := by omega
          have C0 := l01Same_any Ak (some ⟨bt, ot, none⟩) e.1.length nt ck ct _ _ e.1 t wr rfl HT.out (by omega) (by omega) (hrow.row.below HB.out (Nat.le_refl _)) HRWr.out
          have HC0 := Lib.hid hc0
          have HC1 := Lib.hid hc1
          have hc0' := (HB.out.cell (p := ⟨b, o + k * 2, none⟩) hb).trans hc0
          clear he hrow hc0 hc1
          by_cases hkq : k = q
          · exfalso; have := HQE.out; omega
          · have HKQ := Lib.hid hkq
            have tkq := beq_f (show ¬ (k : Int) = (q : Int) by omega)
            have HPU : Hid (Tr.putTo S t x q (k + 1) = Tr.putTo S t x q k ++ [(e.1, if e.1 = t then e.2 + x else e.2)]) := by rw [Hid, HST.out]; unfold Tr.putE; rw [decide_eq_false hkq]; rfl
            obtain ⟨W2, hW2⟩ : ∃ W2, W2 = wr := ⟨_, rfl⟩
            have HO2 : Hid (OutS W (Tr.putTo S t x q k) g q' cap vs W2) := by rw [hW2]; exact HO.out
            clear hkq C0
            rw [← hW2]
            have HBW : Hid (Below W.heap.size W W2) := HO2.out.2.2
            have hs2 : W.heap.size ≤ W2.heap.size := HBW.out.size
            have hd0 := (HBW.out.cell (p := ⟨b, o + k * 2, none⟩) hb).trans HC0.out
            have hd1 := (HBW.out.cell (p := ⟨b, o + k * 2 + 1, none⟩) hb).trans HC1.out
            have hbW : b < W2.heap.size := by omega
            have BA : Below W2.heap.size W2 (W2.alloc (Obj.cells #[.slice none 0 0, .int .i64 0] 74)) := (Below.refl _ _).alloc (Nat.le_refl _) _
            have hd2 := (BA.cell (p := ⟨b, o + k * 2, none⟩) hbW).trans hd0
            have hd3 := (BA.cell (p := ⟨b, o + k * 2 + 1, none⟩) hbW).trans hd1
            clear hW2 BA hc0'
            go_wp2_with fail
            go_region
            obtain ⟨W4, hW4⟩ : ∃ W4, W4 = (W2.alloc (Obj.cells #[.slice Ak e.1.length ck, .int .i64 e.2] 74)).drew := ⟨_, rfl⟩
            have HB4 : Hid (Below W2.heap.size W2 W4) := by rw [hW4]; exact ((Below.refl _ _).alloc (Nat.le_refl _) _).drew
            have hs4 : W4.heap.size = W2.heap.size + 1 := by rw [hW4]; show (W2.alloc _).heap.size = _; simp
            have hh4 : W4.heap[W2.heap.size]? = some (Obj.cells #[.slice Ak e.1.length ck, .int .i64 e.2] 74) := by rw [hW4]; exact heap_alloc_new _ _
            have hk0 : W4.cell? ⟨W2.heap.size, 0, none⟩ = some (.slice Ak e.1.length ck) := by rw [cell_of_row W4 _ 0 _ _ _ hh4]; rfl
            have hk1 : W4.cell? ⟨W2.heap.size, 1, none⟩ = some (.int .i64 e.2) := by rw [cell_of_row W4 _ 1 _ _ _ hh4]; rfl
            have hf1 : W4.frozen? ⟨W2.heap.size, 1, none⟩ = false := by unfold World.frozen?; simp [hh4]
            have hd4 := (HB4.out.cell (p := ⟨b, o + k * 2, none⟩) hbW).trans hd0
            rw [← hW4]
            clear hW4 hh4 hd0 hd1 hd2 hd3
            have HBW4 : Hid (Below W.heap.size W W4) := HBW.out.trans (HB4.out.mono hs2)
            have C5 := l01Same_any Ak (some ⟨bt, ot, none⟩) e.1.length nt ck ct _ _ e.1 t W4 rfl HT.out (by omega) (by omega) (HROWk.out.row.below HBW4.out (Nat.le_refl _)) (HRW.out.below HBW4.out (Nat.le_refl _))
            obtain ⟨Z, hZ⟩ : ∃ Z, Z = W2.heap.size := ⟨_, rfl⟩
            rw [← hZ] at hk0 hk1 hf1 hs4 HB4 ⊢
            have hWZ : W.heap.size ≤ Z := by omega
            by_cases hes : e.1 = t
            · rw [show eqL e.1 t = true by rw [hes]; exact eqL_self t] at C5
              have HPV : Hid (Tr.putTo S t x q (k + 1) = Tr.putTo S t x q k ++ [(e.1, e.2 + x)]) := by rw [Hid, HPU.out, if_pos hes]
              clear hes
              go_wp2_with fail
              refine C5.mono ?_
              rintro e' w5 ⟨rfl, m5, rfl⟩
              have HS5 : Hid (((W4.drewN m5).setCell ⟨Z, 1, none⟩ (.int .i64 (e.2 + x))).heap.size = Z + 1) := by
                rw [Hid, ← hs4]; exact World.size_setCell _ _ _
              have HO5 : Hid (OutS W (Tr.putTo S t x q k) g q' cap vs ((W4.drewN m5).setCell ⟨Z, 1, none⟩ (.int .i64 (e.2 + x)))) := HO2.out.below (by rw [← hZ]; exact (below_drewN HB4.out m5).setCell (p := ⟨Z, 1, none⟩) (Nat.le_refl _) _)
              have hown5 := HO5.out.1
              have HT5 : Hid (TRow ((W4.drewN m5).setCell ⟨Z, 1, none⟩ (.int .i64 (e.2 + x))) ((W4.drewN m5).setCell ⟨Z, 1, none⟩ (.int .i64 (e.2 + x))).heap.size Ak (ints e.1)) := (HROWk.out.below HO5.out.2.2 (Nat.le_refl _)).more HO5.out.2.2.size
              clear hZ
              go_wp2_with (at_builtin; refine wpList_append_lies _ rfl (.tmp 76) (.tmp 78) 30 rfl W.heap.size 74 i0 _ 2 32 Try.underlying30 hi hz0 hz1 hz2 rfl (by omega) (.slice (some ⟨g, 0, none⟩) q' cap) q' vs rfl (hown5.alloc _) ⟨Z + 1, 0, none⟩ 1 1 [.slice Ak e.1.length ck, .int .i64 (e.2 + x)] rfl rfl (by rw [← HS5.out]; exact World.news_of_block (cs := #[.slice Ak e.1.length ck, .int .i64 (e.2 + x)]) (heap_alloc_new _ _)) (by simp [Value.oneCell']) (by omega) (by simp only [maxLen]; omega) (by omega) (by simp; omega) _ rfl ?_; intro g7 cap7 w7 hown7 hgrow7 hat7 hlt7)
              have HO7 : Hid (∃ vs, OutS W (Tr.putTo S t x q (k + 1)) g7 (q' + 1) cap7 vs w7) := by
                rw [Hid, HPV.out]
                exact ⟨_, HO5.out.push HT5.out hlk hck hown7 hgrow7⟩
              clear hown7 hgrow7 hat7 hlt7 hown5
              go_wp2
              go_roundw
              case rel => exact ⟨k + 1, g7, _, cap7, by omega, rfl, by go_num, HO7.out⟩
              case measure => simp [intOf]; omega
            · rw [show eqL e.1 t = false by unfold eqL; exact decide_eq_false hes] at C5
              have HPV : Hid (Tr.putTo S t x q (k + 1) = Tr.putTo S t x q k ++ [(e.1, e.2)]) := by rw [Hid, HPU.out, if_neg hes]
              clear hes
              go_wp2_with fail
              refine C5.mono ?_
              rintro e' w5 ⟨rfl, m5, rfl⟩
              have HS5 : Hid ((W4.drewN m5).heap.size = Z + 1) := by
                rw [Hid, ← hs4]; rfl
              have HO5 : Hid (OutS W (Tr.putTo S t x q k) g q' cap vs (W4.drewN m5)) := HO2.out.below (by rw [← hZ]; exact below_drewN HB4.out m5)
              have hown5 := HO5.out.1
              have HT5 : Hid (TRow (W4.drewN m5) (W4.drewN m5).heap.size Ak (ints e.1)) := (HROWk.out.below HO5.out.2.2 (Nat.le_refl _)).more HO5.out.2.2.size
              clear hZ
              go_wp2_with (at_builtin; refine wpList_append_lies _ rfl (.tmp 76) (.tmp 78) 30 rfl W.heap.size 74 i0 _ 2 32 Try.underlying30 hi hz0 hz1 hz2 rfl (by omega) (.slice (some ⟨g, 0, none⟩) q' cap) q' vs rfl (hown5.alloc _) ⟨Z + 1, 0, none⟩ 1 1 [.slice Ak e.1.length ck, .int .i64 e.2] rfl rfl (by rw [← HS5.out]; exact World.news_of_block (cs := #[.slice Ak e.1.length ck, .int .i64 e.2]) (heap_alloc_new _ _)) (by simp [Value.oneCell']) (by omega) (by simp only [maxLen]; omega) (by omega) (by simp; omega) _ rfl ?_; intro g7 cap7 w7 hown7 hgrow7 hat7 hlt7)
              have HO7 : Hid (∃ vs, OutS W (Tr.putTo S t x q (k + 1)) g7 (q' + 1) cap7 vs w7) := by
                rw [Hid, HPV.out]
                exact ⟨_, HO5.out.push HT5.out hlk hck hown7 hgrow7⟩
              clear hown7 hgrow7 hat7 hlt7 hown5
              go_wp2
              go_roundw
              case rel => exact ⟨k + 1, g7, _, cap7, by omega, rfl, by go_num, HO7.out⟩
              case measure => simp [intOf]; omega
        · have hkn : k = n := by omega
          have e : Tr.putL S t x = Tr.putTo S t x q k ++ [(t, x)] := by unfold Tr.putL; rw [HAT.out, HL.out, if_pos HQE.out, hkn]
          have HE := Lib.hid e
          have tqn := beq_t (show (q : Int) = (n : Int) by have := HQE.out; omega)
          have HRWr : Hid (Row wr wr.heap.size (some ⟨bt, ot, none⟩) (ints t)) := (HRW.out.below HB.out (Nat.le_refl _)).more hsz
          have hbtr : bt < wr.heap.size := by omega
          clear hkn e
          go_wp2_with fail
          refine (l01Own_any ⟨bt, ot, none⟩ nt ct wr.heap.size t _ HT.out (by omega) (Nat.le_refl _) HRWr.out).mono ?_
          rintro e' w3 ⟨A3, c3, rfl, own3, bel3⟩
          have hs3 : wr.heap.size ≤ w3.heap.size := bel3.size
          have HO3 := HO.out.below bel3
          obtain ⟨hc3, hcm3⟩ := own_cap own3
          have HT3 := Lib.hid (TRow.own own3)
          have HO3' := Lib.hid HO3
          have hown := HO3.1
          clear bel3 own3 HO3
          go_wp2_with (at_builtin; refine wpList_append_lies _ rfl (.tmp 84) (.tmp 89) 30 rfl W.heap.size 74 i0 _ 2 32 Try.underlying30 hi hz0 hz1 hz2 rfl (by omega) (.slice (some ⟨g, 0, none⟩) q' cap) q' vs rfl (hown.alloc _) ⟨w3.heap.size, 0, none⟩ 1 1 [.slice A3 nt c3, .int .i64 x] rfl rfl (World.news_of_block (cs := #[.slice A3 nt c3, .int .i64 x]) (heap_alloc_new _ _)) (by simp [Value.oneCell']) (by omega) (by simp only [maxLen]; omega) (by omega) (by simp; omega) (w3.heap.size + 1) (by simp) ?_; intro g2 cap2 w4 hown4 hgrow4 hat4 hlt4)
          have G : Hid (NewSum (Tr.putL S t x).length (Tr.putL S t x) w (.returned (.slice (some ⟨g2, 0, none⟩) (q' + 1) cap2)) w4) := by
            rw [Hid, HE.out]
            have e : nt = t.length := HT.out.symm
            subst e
            exact (HO3'.out.push HT3.out (by omega) hcm3 hown4 hgrow4).done BW.out
          clear hown hown4 hgrow4 hat4 hlt4
          go_wp2
          go_ret
          exact G.out
end Go.Proofs.Ytfehjjaebdgjlaa
/-
  Grafting at all nodes of a level list and of its canonical one gives the same trees, each as often: gone through.
-/
namespace Go.Proofs.Ytfehjjaebdgjlaa.Tr
set_option maxRecDepth 100000

def chkGv (u : List Int) : Bool := upTo (8 - u.length) fun v => ((List.range u.length).map fun k => txt (gl u k v)).isPerm ((List.range u.length).map fun k => grfF 8 (txt u) k (txt v)) && (List.range u.length).all fun k => isLv (gl u k v)
theorem chkGv_0 : ((allLv.drop 0).take 9).all chkGv = true := by decide +kernel
theorem chkGv_1 : ((allLv.drop 9).take 14).all chkGv = true := by decide +kernel
theorem chkGv_2 : ((allLv.drop 23).take 21).all chkGv = true := by decide +kernel
theorem chkGv_3 : ((allLv.drop 44).take 21).all chkGv = true := by decide +kernel
theorem chkGv_4 : ((allLv.drop 65).take 66).all chkGv = true := by decide +kernel
theorem chkGv_5 : ((allLv.drop 131).take 66).all chkGv = true := by decide +kernel
theorem all_dropGv {p : List Int → Bool} {l : List (List Int)} {a k b : Nat} (h1 : ((l.drop a).take k).all p = true) (h2 : (l.drop b).all p = true) (e : b = a + k) : (l.drop a).all p = true := by
  subst e
  rw [← List.take_append_drop k (l.drop a), List.all_append, h1, List.drop_drop, h2]; rfl
theorem chkGv_6 : (allLv.drop 197).all chkGv = true := by decide +kernel
theorem chkGv_all : allLv.all chkGv = true := (all_dropGv (a := 0) (k := 9) (b := 9) chkGv_0 (all_dropGv (a := 9) (k := 14) (b := 23) chkGv_1 (all_dropGv (a := 23) (k := 21) (b := 44) chkGv_2 (all_dropGv (a := 44) (k := 21) (b := 65) chkGv_3 (all_dropGv (a := 65) (k := 66) (b := 131) chkGv_4 (all_dropGv (a := 131) (k := 66) (b := 197) chkGv_5 chkGv_6 rfl) rfl) rfl) rfl) rfl) rfl)
theorem graft_perm {u v : List Int} (hu : isLv u = true) (hv : isLv v = true) (h8 : u.length + v.length ≤ 8) :
    ((List.range u.length).map fun k => txt (gl u k v)).Perm ((List.range u.length).map fun k => grfF 8 (txt u) k (txt v)) ∧ ∀ k, k < u.length → isLv (gl u k v) = true := by
  have h1 := all_of chkGv_all (isLv_iff.1 hu)
  unfold chkGv at h1
  have h2 := upTo_of h1 hv (by omega)
  simp only [Bool.and_eq_true, List.all_eq_true, List.mem_range] at h2
  exact ⟨List.isPerm_iff.1 h2.1, fun k hk => h2.2 k hk⟩
end Go.Proofs.Ytfehjjaebdgjlaa.Tr
/-
  The model's graft sum.
-/
namespace Go.Proofs.Ytfehjjaebdgjlaa
open Go.RowKit Fld
set_option linter.unusedVariables false
set_option linter.unusedSimpArgs false
set_option maxRecDepth 100000

def gAt (u v : List Int) (k : Nat) : List Int := Tr.can (Tr.gl u k v)
def gsumL (u v : List Int) : Sum := Tr.sumTo (gAt u v) u.length
theorem gAt_lv {u v : List Int} (hu : Tr.isLv u = true) (hv : Tr.isLv v = true) (h8 : u.length + v.length ≤ 8) {k : Nat} (hk : k < u.length) : Tr.isLv (gAt u v k) = true ∧ Tr.can (gAt u v k) = gAt u v k ∧ (gAt u v k).length = u.length + v.length ∧ Tr.txt (gAt u v k) = Tr.txt (Tr.gl u k v) := by
  have h1 := (Tr.graft_perm hu hv h8).2 k hk
  obtain ⟨c1, c2⟩ := lv_can h1
  obtain ⟨c3, c4⟩ := Tr.can_can h1
  exact ⟨c1, c3, by unfold gAt; rw [c2, Tr.gl_length (Tr.endL_le hk).2], c4⟩
theorem gsumTo_bd {u v : List Int} (hu : Tr.isLv u = true) (hv : Tr.isLv v = true) (h8 : u.length + v.length ≤ 8) {k : Nat} (hk : k ≤ u.length) : ∀ e ∈ Tr.sumTo (gAt u v) k, e.1.length ≤ 8 ∧ -1000000 ≤ e.2 ∧ e.2 ≤ 1000000 := fun e he => by
  obtain ⟨j, hj, q⟩ := Tr.sumTo_mem he
  have h1 := Tr.sumTo_le _ _ he
  have h2 := (gAt_lv hu hv h8 (k := j) (by omega)).2.2.1
  rw [← q] at h2
  have := (lv_bd hu).2
  omega
set_option maxHeartbeats 2000000 in
theorem l04Sum_any (A A' : Option Addr) (n n' c c' B B' : Nat) (u v : List Int) (w : World) (hl : u.length = n) (hl' : v.length = n') (hu : Tr.isLv u = true) (hv : Tr.isLv v = true) (h8 : n + n' ≤ 8) (hc : n ≤ c) (hB : B ≤ w.heap.size) (hB' : B' ≤ w.heap.size) (h : Row w B A (ints u)) (h' : Row w B' A' (ints v)) :
    Calls Try.prog 64 #[.slice A n c, .slice A' n' c'] w (NewSum (gsumL u v).length (gsumL u v) w) := by
  have h8' : u.length + v.length ≤ 8 := by omega
  have HBD : Hid (∀ k, k ≤ n → ∀ e ∈ Tr.sumTo (gAt u v) k, e.1.length ≤ 8 ∧ -1000000 ≤ e.2 ∧ e.2 ≤ 1000000) := fun k hk => gsumTo_bd hu hv h8' (by omega)
  have HTL : Hid (∀ k, k < n → (gAt u v k).length = n + n' ∧ Tr.isLv (Tr.gl u k v) = true) := fun k hk => ⟨by rw [(gAt_lv hu hv h8' (k := k) (by omega)).2.2.1, hl, hl'], (Tr.graft_perm hu hv h8').2 k (by omega)⟩
  have HRT : Hid (gsumL u v = Tr.sumTo (gAt u v) n) := by unfold gsumL; rw [hl]; rfl
  have HL := Lib.hid hl
  have HL' := Lib.hid hl'
  have HU := Lib.hid hu
  have HV := Lib.hid hv
  have hn1 : 1 ≤ n + n' := by have := (lv_bd hu).1; omega
  clear hl hl' hu hv h8'
  go_enter Try.func64, Try.ntmps64
  go_wp2_with fail
  go_loopw [5, 6] (fun v' i wr => ∃ (k q cap : Nat) (A2 : Option Addr), k ≤ n ∧ v' = .slice A2 q cap ∧ i = .int .i64 k ∧ Hid ((Tr.sumTo (gAt u v) k).length = q) ∧ Hid (Sms wr A2 (Tr.sumTo (gAt u v) k)) ∧ Hid (Below w.heap.size w wr) ∧ q ≤ cap ∧ cap ≤ maxLen) (fun _ i _ => n - (intOf i).toNat)
  case atStart => exact ⟨0, 0, 0, some ⟨w.heap.size, 0, none⟩, Nat.zero_le _, rfl, rfl, rfl, Sms.nil _ _, (Below.refl _ _).alloc (Nat.le_refl _) _, Nat.le_refl _, Nat.zero_le _⟩
  case round =>
    obtain ⟨k, q, cap, A2, hk, rfl, rfl, HQ, HS, HB, hqc, hcm⟩ := hrel
    have hsz := HB.out.size
    have hq8 : q ≤ 8 := by have := Tr.sumTo_length (gAt u v) k; rw [HQ.out] at this; omega
    by_cases hlt : k < n
    · have CT := l04Graft_any A A' n n' c c' B B' k u v wr HL.out HL'.out (by omega) (by omega) hlt hc HU.out HV.out (HTL.out k hlt).2 (by omega) (by omega) (h.below HB.out hB) (h'.below HB.out hB')
      obtain ⟨T, hT⟩ : ∃ T, T = gAt u v k := ⟨_, rfl⟩
      have HST : Hid (Tr.sumTo (gAt u v) (k + 1) = Tr.putL (Tr.sumTo (gAt u v) k) T 1) := by rw [hT]; rfl
      have HTn : Hid (T.length = n + n') := by rw [hT]; exact (HTL.out k hlt).1
      have hT' : Tr.can (Tr.gl u k v) = T := by rw [hT]; rfl
      rw [hT'] at CT
      clear hT hT'
      go_wp2_with fail
      refine CT.mono ?_
      rintro e w1 ⟨A1, c1, rfl, own1, bel1⟩
      have hs1 : wr.heap.size ≤ w1.heap.size := bel1.size
      have HS1 := HS.out.next bel1
      have HB1 := Lib.hid (HB.out.trans (bel1.mono hsz))
      have C1 := l04Put_any A2 A1 q cap (n + n') c1 _ T 1 w1 HQ.out (by omega) (HBD.out k hk) (by omega) HTn.out (by omega) h8 HS1 (row_of_own own1)
      rw [← HST.out] at C1
      clear bel1 own1 HS1 CT
      go_wp2_with fail
      refine C1.mono ?_
      rintro e w2 ⟨A3, c3, rfl, hc3, hcm3, HS2, bel2⟩
      have HB2 := Lib.hid (HB1.out.trans (bel2.mono HB1.out.size))
      have HS2' := Lib.hid HS2
      obtain ⟨q2, hq2⟩ : ∃ q2, q2 = (Tr.sumTo (gAt u v) (k + 1)).length := ⟨_, rfl⟩
      rw [← hq2] at hc3 ⊢
      have HQ2 := Lib.hid hq2.symm
      clear bel2 HS2 C1 hq2
      go_wp2
      go_roundw
      case rel => exact ⟨k + 1, q2, c3, A3, by omega, rfl, by go_num, HQ2, HS2', HB2, hc3, hcm3⟩
      case measure => simp [intOf]; omega
    · have hkn : k = n := by omega
      have G : Hid (NewSum (gsumL u v).length (gsumL u v) w (.returned (.slice A2 q cap)) wr) := by
        rw [Hid, HRT.out, ← hkn, HQ.out]
        exact ⟨A2, cap, rfl, hqc, hcm, HS.out, HB.out⟩
      clear hkn
      go_wp2
      go_ret
      exact G.out
end Go.Proofs.Ytfehjjaebdgjlaa
/-
  The order of trees by lists and by texts.
-/
namespace Go.Proofs.Ytfehjjaebdgjlaa
open Go.RowKit Fld
set_option linter.unusedVariables false
set_option linter.unusedSimpArgs false
set_option maxRecDepth 100000

theorem lessL_asym : ∀ x y : List Int, Tr.lessL x y = true → Tr.lessL y x = false
  | [], [], _ => rfl
  | [], _ :: _, _ => rfl
  | _ :: _, [], h => by simp [Tr.lessL] at h
  | a :: x, b :: y, h => by
    rw [Tr.lessL] at h ⊢
    by_cases e : a = b
    · subst e
      rw [if_pos rfl] at h ⊢
      exact lessL_asym x y h
    · rw [if_neg e] at h
      rw [if_neg (fun e' => e e'.symm)]
      simp at h ⊢; omega
theorem beforeL_asym {x y : List Int} (h : Tr.beforeL x y = true) : Tr.beforeL y x = false := by
  unfold Tr.beforeL at h ⊢
  by_cases e : x.length = y.length
  · rw [if_neg (by simpa using e)] at h
    rw [if_neg (by simpa using e.symm)]
    exact lessL_asym _ _ h
  · rw [if_pos e] at h
    rw [if_pos (fun e' => e e'.symm)]
    simp at h ⊢; omega
theorem tr_lv {t : List Int} (h : isTr t = true) : Tr.isLv t = true ∧ Tr.can t = t := by
  unfold isTr at h
  rw [Bool.and_eq_true] at h
  have h2 := h.2
  unfold eqL at h2
  exact ⟨h.1, by simpa using h2⟩
theorem cmp_tr {s t : List Int} (hs : isTr s = true) (ht : isTr t = true) : decide (0 < Tr.cmpT (Tr.txt s) (Tr.txt t)) = Tr.beforeL t s := by
  obtain ⟨s1, s2⟩ := tr_lv hs
  obtain ⟨t1, t2⟩ := tr_lv ht
  rw [Tr.cmp_eq s1 t1, s2, t2]
  unfold Tr.cmpL
  cases h1 : Tr.beforeL s t
  · cases h2 : Tr.beforeL t s <;> simp
  · rw [beforeL_asym h1]; simp
theorem cmpT_swap {a b : List UInt8} (h : ¬ Tr.cmpT a b < 0) : Tr.cmpT b a ≤ 0 := by
  unfold Tr.cmpT at *
  by_cases h1 : a.length / 2 < b.length / 2
  · rw [if_pos h1] at h; omega
  · rw [if_neg h1] at h
    by_cases h2 : b.length / 2 < a.length / 2
    · rw [if_pos h2]; omega
    · rw [if_neg h2] at h
      rw [if_neg h2, if_neg h1]
      by_cases h3 : Tr.ltS a b = true
      · rw [if_pos h3] at h; omega
      · rw [if_neg h3] at h
        by_cases h4 : Tr.ltS b a = true
        · rw [if_pos h4]; omega
        · rw [if_neg h4, if_neg h3]; omega
theorem leT_self (a : List UInt8) : Tr.leT a a = true := by
  unfold Tr.leT
  have : Tr.cmpT a a ≤ 0 := by
    by_cases h : Tr.cmpT a a < 0
    · omega
    · exact cmpT_swap h
  exact decide_eq_true this
theorem leT_txt {s t : List Int} (hs : isTr s = true) (ht : isTr t = true) : Tr.leT (Tr.txt s) (Tr.txt t) = !Tr.beforeL t s := by
  rw [← cmp_tr hs ht]
  unfold Tr.leT
  by_cases h : Tr.cmpT (Tr.txt s) (Tr.txt t) ≤ 0
  · rw [decide_eq_true h, decide_eq_false (by omega)]; rfl
  · rw [decide_eq_false h, decide_eq_true (by omega)]; rfl
theorem isTr_of {t : List Int} (h : Tr.isLv t = true) (hc : Tr.can t = t) : isTr t = true := by
  unfold isTr
  rw [h, hc, eqL_self]; rfl
end Go.Proofs.Ytfehjjaebdgjlaa
/-
  The list of a sum that the program keeps is the model's sum.
-/
namespace Go.Proofs.Ytfehjjaebdgjlaa
open Go.RowKit Fld
set_option linter.unusedVariables false
set_option linter.unusedSimpArgs false
set_option maxRecDepth 100000

/-- the list of a sum: its texts in order with their numbers -/
def listF (f : List UInt8 → Int) (ss : List (List UInt8)) : List (List Int × Int) := ss.map fun s => (Tr.lvl s, f s)
theorem tr_txt {t : List Int} (h : isTr t = true) : Tr.lvl (Tr.txt t) = t := by
  obtain ⟨h1, h2⟩ := tr_lv h
  rw [(lv_txt h1).1, h2]
theorem cntTo_count (L : List (List Int)) (s : List Int) : ∀ k, k ≤ L.length → Tr.cntTo (fun k => L.getD k []) s k = ((L.take k).count s : Int)
  | 0, _ => by simp [Tr.cntTo]
  | k+1, h => by
    have hk : k < L.length := by omega
    rw [Tr.cntTo, cntTo_count L s k (by omega), List.take_add_one, List.getElem?_eq_getElem hk, Option.toList_some, List.count_append, List.count_singleton, List.getD_eq_getElem?_getD, List.getElem?_eq_getElem hk]
    simp only [Option.getD_some]
    by_cases e : s = L[k]
    · rw [if_pos e, if_pos (by rw [e]; simp)]; simp
    · rw [if_neg e, if_neg (by simpa using fun q => e q.symm)]; simp
theorem count_txt {L : List (List Int)} {s : List Int} (hL : ∀ t ∈ L, isTr t = true) (hs : isTr s = true) : (L.map Tr.txt).count (Tr.txt s) = L.count s := by
  induction L with
  | nil => rfl
  | cons t r ih =>
    rw [List.map_cons, List.count_cons, List.count_cons, ih (fun t ht => hL t (by simp [ht]))]
    congr 1
    by_cases e : t = s
    · rw [e]; simp
    · have : Tr.txt t ≠ Tr.txt s := fun q => e (by rw [← tr_txt (hL t (by simp)), ← tr_txt hs, q])
      simp [e, this]
theorem look_listF_no {f : List UInt8 → Int} {s : List Int} : ∀ {l : List (List UInt8)}, (∀ y ∈ l, Tr.lvl y ≠ s) → Tr.look s (listF f l) = 0
  | [], _ => rfl
  | y :: r, h => by
    show (if Tr.lvl y = s then f y else 0) + Tr.look s (listF f r) = 0
    rw [if_neg (h y (by simp)), look_listF_no (l := r) (fun z hz => h z (by simp [hz]))]; rfl
theorem look_listF {f : List UInt8 → Int} {x : List UInt8} : ∀ {l : List (List UInt8)}, l.Nodup → (∀ y ∈ l, Tr.lvl y = Tr.lvl x → y = x) → x ∈ l → Tr.look (Tr.lvl x) (listF f l) = f x
  | [], _, _, h => by cases h
  | y :: r, hn, hi, h => by
    rw [List.nodup_cons] at hn
    show (if Tr.lvl y = Tr.lvl x then f y else 0) + Tr.look (Tr.lvl x) (listF f r) = f x
    by_cases e : y = x
    · subst e
      rw [if_pos rfl, look_listF_no (l := r) (fun z hz q => hn.1 (by rw [← hi z (by simp [hz]) q]; exact hz))]; omega
    · rw [if_neg (fun q => e (hi y (by simp) q))]
      rw [List.mem_cons] at h
      rcases h with h | h
      · exact absurd h.symm e
      · rw [look_listF hn.2 (fun z hz => hi z (by simp [hz])) h]; omega
theorem sum_list {L : List (List Int)} {R ss : List (List UInt8)} {f : List UInt8 → Int} {n : Nat} (hL : ∀ t ∈ L, isTr t = true) (hp : R.Perm (L.map Tr.txt)) (hf : ∀ y, f y = (R.count y : Int)) (hK : KeysF f n ss) :
    listF f (Tr.sortT ss) = Tr.sumTo (fun k => L.getD k []) L.length := by
  have hmem : ∀ y ∈ Tr.sortT ss, ∃ t ∈ L, y = Tr.txt t := fun y hy => by
    have h1 := (hK.2.1 y).1 ((sortT_perm ss).mem_iff.1 hy)
    rw [hf y] at h1
    have h2 : 0 < R.count y := by omega
    have h3 := hp.mem_iff.1 (List.count_pos_iff.1 h2)
    rw [List.mem_map] at h3
    obtain ⟨t, q1, q2⟩ := h3
    exact ⟨t, q1, q2.symm⟩
  have hnd : (Tr.sortT ss).Nodup := (sortT_perm ss).nodup_iff.2 hK.1
  refine Tr.sums_eq ?_ (Tr.sumTo_order _ _) (fun e he => ?_) (fun e he => by have := Tr.sumTo_pos _ _ e he; omega) (fun s => ?_)
  · have h1 := (sortT_sorted ss).and hnd
    refine List.pairwise_map.2 (h1.imp_of_mem fun {a b} ha hb hab => ?_)
    obtain ⟨ta, q1, q2⟩ := hmem a ha
    obtain ⟨tb, r1, r2⟩ := hmem b hb
    show Tr.beforeL (Tr.lvl a) (Tr.lvl b) = true
    obtain ⟨h2, h3⟩ := hab
    rw [q2, r2] at h2 h3
    rw [q2, r2, tr_txt (hL ta q1), tr_txt (hL tb r1)]
    rw [leT_txt (hL ta q1) (hL tb r1)] at h2
    rcases Tr.bf_cn (x := ta) (y := tb) (fun q => h3 (by rw [q])) with b | b
    · exact b
    · rw [b] at h2; cases h2
  · unfold listF at he
    rw [List.mem_map] at he
    obtain ⟨y, hy, q⟩ := he
    rw [← q]
    exact (hK.2.1 y).1 ((sortT_perm ss).mem_iff.1 hy)
  · rw [Tr.look_sumTo, cntTo_count L s _ (Nat.le_refl _), List.take_length]
    by_cases hs : s ∈ L
    · have hst := hL s hs
      have hc := count_txt hL hst
      have hin : Tr.txt s ∈ Tr.sortT ss := by
        rw [(sortT_perm ss).mem_iff, hK.2.1, hf, hp.count_eq, hc]
        have := List.count_pos_iff.2 hs
        omega
      have h9 := look_listF (f := f) (x := Tr.txt s) hnd (fun y hy q => by
        obtain ⟨t, q1, q2⟩ := hmem y hy
        rw [q2] at q ⊢
        rw [tr_txt (hL t q1), tr_txt hst] at q
        rw [q]) hin
      rw [tr_txt hst] at h9
      rw [h9, hf, hp.count_eq, hc]
    · rw [List.count_eq_zero_of_not_mem hs, look_listF_no (fun y hy q => by
        obtain ⟨t, q1, q2⟩ := hmem y hy
        rw [q2, tr_txt (hL t q1)] at q
        exact hs (by rw [← q]; exact q1))]
      rfl
end Go.Proofs.Ytfehjjaebdgjlaa
/-
  Lists of trees with their numbers: the comparison of two that hold the same, and lists that grow.
-/
namespace Go.Proofs.Ytfehjjaebdgjlaa
open Go.RowKit Fld
set_option linter.unusedVariables false
set_option linter.unusedSimpArgs false
set_option maxRecDepth 100000

set_option maxHeartbeats 1000000 in
theorem eqCounted_same (A A' : Option Addr) (n c c' hi hi' : Nat) (t : List Int) (x : Int) (w : World) (hl : t.length = n) (hn : n ≤ 1048576) (hh : hi ≤ w.heap.size) (hh' : hi' ≤ w.heap.size) (h : Row w hi A (ints t)) (h' : Row w hi' A' (ints t)) :
    Calls Try.prog 65 #[.agg #[.slice A n c, .int .i64 x], .agg #[.slice A' n c', .int .i64 x]] w fun e w' => e = .returned (.bool true) ∧ Below w.heap.size w w' := by
  have HL := Lib.hid hl
  have HR : Hid (∀ W, Below w.heap.size w W → Row W hi A (ints t)) := fun W hb => h.below hb hh
  have HR' : Hid (∀ W, Below w.heap.size w W → Row W hi' A' (ints t)) := fun W hb => h'.below hb hh'
  clear hl h h' hh hh'
  go_enter Try.func65, Try.ntmps65
  go_wp2_with fail
  have HB : Hid (Below w.heap.size w ((w.alloc (.cells #[.slice A n c, .int .i64 x] 74)).alloc (.cells #[.slice A' n c', .int .i64 x] 74))) := ((Below.refl _ _).alloc (Nat.le_refl _) _).alloc (by simp) _
  refine (eqInt64S_any A A' n n c c' hi hi' t t _ HL.out HL.out (by omega) (by omega) (HR.out _ HB.out) (HR'.out _ HB.out)).mono ?_
  rintro e w2 ⟨rfl, m, rfl⟩
  rw [eqL_self]
  have GB : Hid (Below w.heap.size w (((w.alloc (.cells #[.slice A n c, .int .i64 x] 74)).alloc (.cells #[.slice A' n c', .int .i64 x] 74)).drewN m)) := below_drewN HB.out m
  go_wp2
  go_ret
  exact ⟨rfl, GB.out⟩
set_option maxHeartbeats 2000000 in
theorem eqCountedS_same (A A' : Option Addr) (n c c' hi hi' : Nat) (S : List (List Int × Int)) (w : World) (hl : S.length = n) (hn : n ≤ 1048576) (ht : cntC S ≤ 1048576) (hh : hi ≤ w.heap.size) (hh' : hi' ≤ w.heap.size) (h : Has ShC [.slice A n c] S hi w) (h' : Has ShC [.slice A' n c'] S hi' w) :
    Calls Try.prog 24 #[.slice A n c, .slice A' n c'] w fun e w' => e = .returned (.bool true) ∧ Below w.heap.size w w' := by
  have HL := Lib.hid hl
  clear hl
  go_enter Try.func24, Try.ntmps24
  go_wp2_with fail
  go_loopw [5] (fun i wr => ∃ k : Nat, k ≤ n ∧ i = .int .i64 k ∧ Below w.heap.size w wr) (fun i _ => n - (intOf i).toNat)
  case atStart => exact ⟨0, Nat.zero_le _, rfl, Below.refl _ _⟩
  case round =>
    obtain ⟨k, hk, rfl, HB⟩ := hrel
    have hsz := HB.size
    by_cases hlt : k < n
    · obtain ⟨⟨t, x⟩, hx⟩ := at_lt (show k < S.length by rw [HL.out]; exact hlt)
      have hle1 := cntTake_step hx
      have hle2 := cntTake_le S (k + 1)
      obtain ⟨b, o, Ak, ck, rfl, hb, hc0, hc1, _, _, hrow⟩ := cnt_read (h.below HB hh) hx
      obtain ⟨b', o', Ak', ck', rfl, hb', hc0', hc1', _, _, hrow'⟩ := cnt_read (h'.below HB hh') hx
      have C0 := fun W (hb : Below wr.heap.size wr W) => eqCounted_same Ak Ak' t.length ck ck' hi hi' t x W rfl (by omega) (by have := hb.size; omega) (by have := hb.size; omega) (hrow.below hb (by omega)) (hrow'.below hb (by omega))
      have KK : Hid (∀ W, Below wr.heap.size wr W → (W.cell? ⟨b, o + k * 2, none⟩ = some (.slice Ak t.length ck) ∧ W.cell? ⟨b, o + k * 2 + 1, none⟩ = some (.int .i64 x) ∧ W.cell? ⟨b', o' + k * 2, none⟩ = some (.slice Ak' t.length ck') ∧ W.cell? ⟨b', o' + k * 2 + 1, none⟩ = some (.int .i64 x))) := fun W hW =>
        ⟨(hW.cell (p := ⟨b, o + k * 2, none⟩) (show b < _ by omega)).trans hc0, (hW.cell (p := ⟨b, o + k * 2 + 1, none⟩) (show b < _ by omega)).trans hc1, (hW.cell (p := ⟨b', o' + k * 2, none⟩) (show b' < _ by omega)).trans hc0', (hW.cell (p := ⟨b', o' + k * 2 + 1, none⟩) (show b' < _ by omega)).trans hc1'⟩
      have HBW := Lib.hid HB
      clear hx HB hrow hrow' hle1 hle2
      go_wp2_with fail
      go_region_held3 (fun w' => w'.cell? ⟨b, o + k * 2, none⟩ = some (.slice Ak t.length ck) ∧ w'.cell? ⟨b, o + k * 2 + 1, none⟩ = some (.int .i64 x) ∧ w'.cell? ⟨b', o' + k * 2, none⟩ = some (.slice Ak' t.length ck') ∧ w'.cell? ⟨b', o' + k * 2 + 1, none⟩ = some (.int .i64 x)) (first | go_keep | exact KK.out _ ⟨bel2.os, bel2.tape, bel2.output, bel2.size, bel2.block⟩)
        (first
          | (go_at_call 65; refine (C0 _ (by first | exact Below.refl _ _ | exact below_drewN (Below.refl _ _) _)).mono ?_; rintro e w2 ⟨rfl, bel2⟩))
      have GB := Lib.hid (HBW.out.trans ((show Below wr.heap.size wr w2 from ⟨bel2.os, bel2.tape, bel2.output, bel2.size, bel2.block⟩).mono hsz))
      clear bel2 KK C0 hc0 hc1 hc0' hc1'
      go_wp2
      go_roundw
      case rel => exact ⟨k + 1, by omega, by go_num, GB.out⟩
      case measure => simp [intOf]; omega
    · obtain rfl : k = n := by omega
      have HBW := Lib.hid HB
      clear HB
      go_wp2
      go_ret
      exact ⟨rfl, HBW.out⟩
/-- a list of trees with their numbers that grows -/
def BldC (W : World) (S : List (List Int × Int)) (v : Value) (wr : World) : Prop := ∃ B, Own ShC [v] S B wr ∧ B.Nodup ∧ (∀ b ∈ B, W.heap.size ≤ b ∧ b < wr.heap.size) ∧ Below W.heap.size W wr
theorem BldC.start {W w1 : World} {v : Value} (h : w1.ownsRow W.heap.size 74 2 v 0 []) (hg : W.grownBy w1 none) : BldC W [] v w1 := by
  refine ⟨blk v, ⟨v, [], [], rfl, ?_, (by simp), rfl, rfl, (fun c hc => by cases hc), (fun i x hx => by cases hx)⟩, by unfold blk; split <;> simp, fun b hb => h.lt b (blk_mem.1 hb), (Below.refl _ _).grown hg (Nat.le_refl _) (fun k hk => by cases hk)⟩
  refine ⟨by simp, ?_⟩
  rcases h.2 with h1 | ⟨g, cap, cur, hv, hb, hgg, r1, r2, r3, r4⟩
  · exact .inl h1
  · exact .inr ⟨g, cap, cur, hv, Nat.zero_le _, hgg, r1, r2, r3, by simp⟩
theorem BldC.row {W wr : World} {S : List (List Int × Int)} {v : Value} (h : BldC W S v wr) : ∃ vs, wr.ownsRow 0 74 2 v S.length vs := by
  obtain ⟨B, h1, _⟩ := h
  obtain ⟨vs, h2, _⟩ := h1.outer
  exact ⟨vs, h2⟩
theorem BldC.below {W wr w2 : World} {S : List (List Int × Int)} {v : Value} (h : BldC W S v wr) (hb : Below wr.heap.size wr w2) : BldC W S v w2 := by
  obtain ⟨B, h1, h2, h3, h4⟩ := h
  exact ⟨B, h1.keep (fun g hg => hb.block g (h3 g hg).2), h2, fun b hb' => by have := h3 b hb'; have := hb.size; omega, h4.trans (hb.mono h4.size)⟩
theorem BldC.push {W wr w2 w3 w4 : World} {S : List (List Int × Int)} {v : Value} {g4 cap4 c H : Nat} {A : Option Addr} {t : List Int} {x : Int} {vs : List Value} (h : BldC W S v wr) (hb : Below wr.heap.size wr w2) (ho : w2.ownsRow wr.heap.size 2 1 (.slice A t.length c) t.length (ints t)) (hb3 : Below w2.heap.size w2 w3)
    (hvs : wr.ownsRow 0 74 2 v S.length vs) (h4 : w4.ownsRow 0 74 2 (.slice (some ⟨g4, 0, none⟩) (S.length + 1) cap4) (S.length + 1) (vs ++ [.slice A t.length c, .int .i64 x])) (hg : w3.grownBy w4 v.ownBlock) (hat : v.ownBlock = some g4 ∨ g4 = H) (hH : w3.heap.size = H) (hlt : g4 < w4.heap.size) :
    BldC W (S ++ [(t, x)]) (.slice (some ⟨g4, 0, none⟩) (S.length + 1) cap4) w4 := by
  have hs2 := hb.size
  have hs3 := hb3.size
  have hs4 := hg.size
  have h2 := h.below hb
  obtain ⟨B, k1, k2, k3, k4⟩ := h
  have k1' : Own ShC [v] S B w3 := (k1.keep (fun g hg => hb.block g (k3 g hg).2)).keep (fun g hg => hb3.block g (by have := k3 g hg; omega))
  have hnew : Own ShP [.slice A t.length c, .int .i64 x] (t, x) (blk (.slice A t.length c)) w3 := ⟨[.slice A t.length c], [.int .i64 x], blk (.slice A t.length c), [], rfl, by simp, (Own.of_row ho).keep (fun g hg => hb3.block g (ho.lt g (blk_mem.1 hg)).2), Own.int_mk _ _⟩
  have hnb : ∀ q ∈ blk (.slice A t.length c), wr.heap.size ≤ q ∧ q < w2.heap.size := fun q hq => ho.lt q (blk_mem.1 hq)
  have hvB : ∀ q ∈ blk v, q ∈ B := by obtain ⟨_, _, r⟩ := k1.outer; exact r
  have hnd : (B ++ blk (.slice A t.length c)).Nodup := by
    rw [List.nodup_append]
    refine ⟨k2, by unfold blk; split <;> simp, fun a ha b hb' e => ?_⟩
    have := k3 a ha; have := hnb b hb'; omega
  have hlt3 : ∀ q ∈ B ++ blk (.slice A t.length c), q < w3.heap.size := fun q hq => by
    rw [List.mem_append] at hq
    rcases hq with hq | hq
    · have := k3 q hq; omega
    · have := hnb q hq; omega
  obtain ⟨B2, r1, r2, r3⟩ := Own.push (css0 := []) (v2 := .slice (some ⟨g4, 0, none⟩) (S.length + 1) cap4) (w2 := w4) k1' hnew rfl hnd (fun vs' hvs' => by
      have e : vs' = vs := ownsRow_uniq hvs' (ownsRow_keep (ownsRow_keep hvs (fun g hg => hb.block g (k3 g (hvB g hg)).2)) (fun g hg => hb3.block g (by have := k3 g (hvB g hg); omega)))
      rw [e]; exact h4) (fun q hq hqv => hg.block q (hlt3 q hq) (fun e => hqv (blk_mem.2 e.symm)))
  have hg4 : ∀ q ∈ blk (.slice (some ⟨g4, 0, none⟩) (S.length + 1) cap4), q = g4 := fun q hq => by
    have := blk_mem.1 hq
    have : g4 = q := by simpa [Value.ownBlock] using this
    exact this.symm
  have hW := k4.size
  refine ⟨B2, r1, r3 (fun q hq => ?_), fun b hb' => ?_, ((k4.trans (hb.mono hW)).trans (hb3.mono (by omega))).grown hg (by omega) (fun q e => (k3 q (hvB q (blk_mem.2 e))).1)⟩
  · rw [hg4 q hq]
    rcases hat with e | e
    · exact .inl (blk_mem.2 e)
    · refine .inr (fun hq' => ?_)
      have := hlt3 _ hq'; omega
  · rcases r2 b hb' with q | q
    · rw [hg4 b q]
      rcases hat with e | e
      · exact ⟨(k3 g4 (hvB g4 (blk_mem.2 e))).1, hlt⟩
      · omega
    · have h9 := hlt3 b q
      rw [List.mem_append] at q
      rcases q with q | q
      · have := k3 b q; omega
      · have := hnb b q; omega
theorem BldC.own {W wr : World} {S : List (List Int × Int)} {v : Value} (h : BldC W S v wr) : OwnD ShC W.heap.size wr.heap.size [v] S wr ∧ Below W.heap.size W wr := by
  obtain ⟨B, h1, h2, h3, h4⟩ := h
  exact ⟨⟨B, h1, h2, h3⟩, h4⟩
end Go.Proofs.Ytfehjjaebdgjlaa
/-
  A sum of trees in a map of the program, as a list in order.
-/
namespace Go.Proofs.Ytfehjjaebdgjlaa
open Go.RowKit Fld Go.Maps Go.Sort
set_option linter.unusedVariables false
set_option linter.unusedSimpArgs false
set_option maxRecDepth 100000

theorem ownsMap_below {H : Type} {P : Program} {k : TypeId} {R : Value → Option (DataW H × List MemPlace)} {w w' : World} {b n B : Nat} {D : DataW H} (h : w.ownsMap P k R b n D) (hb : Below B w w') (hB : b < B) : w'.ownsMap P k R b n D := by
  obtain ⟨es, clock, h1, r⟩ := h
  exact ⟨es, clock, (hb.block b hB).trans h1, r⟩
theorem below0 {w w' : World} {base k n : Nat} {T : TypeId} {v : Value} {vs : List Value} (h : w.ownsRow base T k v n vs) (hb : Below w.heap.size w w') : w'.ownsRow base T k v n vs := ownsRow_keep h fun g hg => hb.block g (h.lt g (blk_mem.1 hg)).2
theorem lvlF_length : ∀ (d : Int) (s : List UInt8), (Tr.lvlF d s).length ≤ s.length
  | _, [] => by simp [Tr.lvlF]
  | d, c :: s => by
    rw [Tr.lvlF]
    split
    · have := lvlF_length (d + 1) s; simp; omega
    · have := lvlF_length (d - 1) s; simp; omega
theorem BldC.low {W wr : World} {S : List (List Int × Int)} {v : Value} {g : Nat} (h : BldC W S v wr) (hv : v.ownBlock = some g) : W.heap.size ≤ g := by
  obtain ⟨B, h1, h2, h3, h4⟩ := h
  obtain ⟨vs, _, hb⟩ := h1.outer
  exact (h3 g (hb g (blk_mem.2 hv))).1
set_option maxHeartbeats 4000000 in
theorem counted_any (b n : Nat) (f : List UInt8 → Int) (w : World) (h : MapF w b n f) (hn : n ≤ 12) (hf : ∀ x, f x ≠ 0 → x.length ≤ 16 ∧ Brk x) :
    Calls Try.prog 61 #[.map (some b)] w fun e w' => ∃ A c ss, e = .returned (.slice A ss.length c) ∧ KeysF f n ss ∧ OwnD ShC w.heap.size w'.heap.size [.slice A ss.length c] (listF f (Tr.sortT ss)) w' ∧ Below w.heap.size w w' := by
  obtain ⟨i0, hi, hz0, hz1, hz2⟩ := info_parts info_cnt
  have HF := Lib.hid hf
  have HM := Lib.hid h
  obtain ⟨D, hown, hD⟩ := h
  have hsz := hown.size_le
  have hblt0 := hown.lt
  have HD := Lib.hid hD
  have HO := Lib.hid hown
  go_enter Try.func61, Try.ntmps61
  go_wp2_with (first
    | (at_len; refine wpList_len_own _ rfl _ 69 rfl 59 2 Try.underlying69 _ b n D rfl hown ?_)
    | (at_make; refine wpList_make_own _ rfl _ _ 30 rfl w.heap.size 74 i0 _ 2 Try.underlying30 hi hz0 hz1 .i64 .i64 _ (Maps.size D) rfl rfl rfl (by rw [hz2]; omega) (by simp only [maxLen]; omega) (Nat.le_refl _) ?_; intro w1 hown1 hgrow1)
    | fail)
  have hs1 : w.heap.size < w1.heap.size := (hown1.lt w.heap.size rfl).2
  have HB1 : Hid (BldC w [] (.slice (some ⟨w.heap.size, 0, none⟩) 0 (Maps.size D)) w1) := BldC.start hown1 hgrow1
  have HBW : Hid (Below w.heap.size w w1) := HB1.out.own.2
  have HM1 := HM.out.below HBW.out hblt0
  have hb1 : b < w1.heap.size := by omega
  obtain ⟨W1, hW1⟩ : ∃ W1, W1 = w1 := ⟨_, rfl⟩
  have CK := keys_any b w1
  have CS := sortedFunc_any b n f w1 HM1 hn (fun x hx => (HF.out x hx).1)
  clear hown1 hgrow1 hown
  go_wp2_with fail
  refine CK.mono ?_
  rintro e w2 ⟨rfl, rfl⟩
  go_wp2_with fail
  refine CS.mono ?_
  rintro e w3 ⟨A, c, ss, rfl, hK, own3, bel3⟩
  have hs3 : w1.heap.size < w3.heap.size := by have := bel3.size; simp at this; omega
  have hb13 : Below w1.heap.size w1 w3 := ((Below.refl _ _).alloc (Nat.le_refl _) _).trans (bel3.mono (by omega))
  have HB3 := Lib.hid (HB1.out.below hb13)
  obtain ⟨q, hq⟩ : ∃ q, q = ss.length := ⟨_, rfl⟩
  have hq12 : q ≤ 12 := by rw [hq]; have := hK.2.2; omega
  rw [← hq] at own3 ⊢
  have HQ := Lib.hid hq
  have HOR := Lib.hid (OwnR.of own3)
  have HSL : Hid ((Tr.sortT ss).length = q) := by rw [Hid, (sortT_perm ss).length_eq]; exact hq.symm
  have HSM : Hid (∀ s ∈ Tr.sortT ss, f s ≠ 0 ∧ s.length ≤ 16 ∧ Brk s) := fun s hs => by
    have h1 := (hK.2.1 s).1 ((sortT_perm ss).mem_iff.1 hs)
    exact ⟨h1, HF.out s h1⟩
  have HK := Lib.hid hK
  clear own3 bel3 hb13 HB1 CK CS hK hq HM1 hf hD HF HM
  go_wp2_with fail
  go_loopw [3, 13] (fun v i wr => ∃ (k g cap : Nat), k ≤ q ∧ v = .slice (some ⟨g, 0, none⟩) k cap ∧ i = .int .i64 k ∧ (g < w1.heap.size ∨ w3.heap.size ≤ g) ∧ w3.heap.size ≤ wr.heap.size ∧ Hid (BldC w (listF f ((Tr.sortT ss).take k)) (.slice (some ⟨g, 0, none⟩) k cap) wr) ∧ Hid (∀ z, w1.heap.size ≤ z → z < w3.heap.size → wr.heap[z]? = w3.heap[z]?)) (fun _ i _ => q - (intOf i).toNat)
  case atStart => exact ⟨0, w.heap.size, _, Nat.zero_le _, rfl, rfl, .inl hs1, Nat.le_refl _, HB3.out, fun _ _ _ => rfl⟩
  case round =>
    obtain ⟨k, g, cap, hk, rfl, rfl, hg0, hw3, HBK, HKP⟩ := hrel
    by_cases hlt : k < q
    · obtain ⟨s, hs⟩ := at_lt (show k < (Tr.sortT ss).length by rw [HSL.out]; exact hlt)
      obtain ⟨hfs, hs16, hbrk⟩ := HSM.out s (List.mem_of_getElem? hs)
      obtain ⟨b', o', rfl, _, hc⟩ := (HOR.out.keep (fun z h1 h2 => HKP.out z (by omega) h2)).row k _ (strs_at hs)
      have hbw := HBK.out.own.2
      have HOW := Lib.hid (ownsMap_below HO.out hbw hblt0)
      have hblt : b < wr.heap.size := by have := hbw.size; omega
      have hgw : w.heap.size ≤ g := HBK.out.low rfl
      have hbg : b ≠ g := by omega
      have HLK : Hid ((listF f ((Tr.sortT ss).take k)).length = k) := by unfold listF; rw [Hid, List.length_map, List.length_take, HSL.out]; omega
      obtain ⟨vs, hvs⟩ := HBK.out.row
      rw [HLK.out] at hvs
      have HVS := Lib.hid hvs
      have HLS : Hid (listF f ((Tr.sortT ss).take (k + 1)) = listF f ((Tr.sortT ss).take k) ++ [(Tr.lvl s, f s)]) := by unfold listF; rw [Hid, List.take_add_one, hs]; simp
      have hlen : (Tr.lvl s).length ≤ 16 := Nat.le_trans (lvlF_length 0 s) hs16
      have CL := fun W => levels_any s W (by omega) hbrk
      have hkey := keyTx (x := s) (by omega)
      obtain ⟨Y, hY⟩ : ∃ Y : ByteArray, Y = ⟨s.toArray⟩ := ⟨_, rfl⟩
      rw [← hY] at hc hkey
      simp only [← hY] at CL
      have HKY := Lib.hid hkey
      obtain ⟨a, ha⟩ : ∃ a, a = f s := ⟨_, rfl⟩
      have HAT : Hid (D.atKey (.string s) (.lit (.int .i64 0)) = .lit (.int .i64 a)) := by rw [Hid, ha]; exact HD.out.1 s
      rw [← ha] at HLS
      clear hs hfs hs16 hbrk hbw hvs hkey hY ha HB3 HQ
      go_wp2_with fail
      refine wp_region_noPanic ?_
      refine wp_region_held_drew (S := (fun w' => w'.ownsMap Try.prog 59 (plainElem Try.prog 2) b n D)) (by kernel_rfl) ?_ (fun hHeld => ?_)
      · exact HOW.out
      refine wpAnyH_take (i := 0) (oi := _) (v := ?_) rfl (by kernel_rfl) (by kernel_rfl) (by kernel_rfl) (fun _ _ _ h => h) (Or.inl ⟨by kernel_rfl, ?_⟩) (by assumption) ?_
      rotate_left
      · (intro w hSw; (try dsimp only at hSw); go_simp; try (with_reducible rfl))
      try simp only [Act.put, List.setIfInBounds_toArray, List.set_cons_zero, List.set_cons_succ, List.getElem_toArray, List.getElem_cons_zero, List.getElem_cons_succ]
      refine wpAnyH_take (i := 1) (oi := _) (v := ?_) rfl (by kernel_rfl) (by kernel_rfl) (by kernel_rfl) (fun _ _ _ h => h) (Or.inl ⟨by kernel_rfl, ?_⟩) (by assumption) ?_
      rotate_left
      · (intro w hSw; (try dsimp only at hSw); go_simp; try (with_reducible rfl))
      try simp only [Act.put, List.setIfInBounds_toArray, List.set_cons_zero, List.set_cons_succ, List.getElem_toArray, List.getElem_cons_zero, List.getElem_cons_succ]
      refine wpAnyH_take (i := 3) (oi := _) (v := ?_) rfl (by kernel_rfl) (by kernel_rfl) (by kernel_rfl) (fun _ _ _ h => h) (Or.inl ⟨by kernel_rfl, ?_⟩) (by assumption) ?_
      rotate_left
      · (intro w hSw; (try dsimp only at hSw); go_simp; try (with_reducible rfl))
      try simp only [Act.put, List.setIfInBounds_toArray, List.set_cons_zero, List.set_cons_succ, List.getElem_toArray, List.getElem_cons_zero, List.getElem_cons_succ]
      refine wpAnyH_take (i := 4) (oi := _) (v := ?_) rfl (by kernel_rfl) (by kernel_rfl) (by kernel_rfl) (fun _ _ _ h => h) (Or.inl ⟨by kernel_rfl, ?_⟩) (by assumption) ?_
      rotate_left
      · (intro w hSw; (try dsimp only at hSw); go_simp; try (with_reducible rfl))
      try simp only [Act.put, List.setIfInBounds_toArray, List.set_cons_zero, List.set_cons_succ, List.getElem_toArray, List.getElem_cons_zero, List.getElem_cons_succ]
      refine wpAnyH_take (i := 5) (oi := _) (v := .int .i64 a) rfl (by kernel_rfl) (by kernel_rfl) (by kernel_rfl) (fun _ _ _ h => h) (Or.inl ⟨by kernel_rfl, ?_⟩) (by assumption) ?_
      · (intro wz hSw; (try dsimp only at hSw); obtain ⟨c0, hrun, hat, _⟩ := hSw.lookup_int (t := 69) (e := 2) (q := .i64) keyed Try.underlying69 Try.underlying2 (zeroCount _) HKY.out; (obtain rfl : c0 = a := by (have h9 := hat.symm.trans HAT.out; simpa using h9)); go_simp; try (with_reducible rfl))
      try simp only [Act.put, List.setIfInBounds_toArray, List.set_cons_zero, List.set_cons_succ, List.getElem_toArray, List.getElem_cons_zero, List.getElem_cons_succ]
      refine wpAnyH_ready (rs := [2]) (by kernel_rfl) (by simp) (AllReadyH.cons (o := _) rfl (fun K hK => ?_) AllReadyH.nil)
      go_simp
      (go_at_call 54; refine (CL _).mono ?_; rintro e w4 ⟨A2, c2, rfl, own2, bel2'⟩)
      have bel2 : Below wr.heap.size wr w4 := ⟨bel2'.os, bel2'.tape, bel2'.output, bel2'.size, bel2'.block⟩
      have own2' : w4.ownsRow wr.heap.size 2 1 (.slice A2 (Tr.lvl s).length c2) (Tr.lvl s).length (ints (Tr.lvl s)) := own2
      have hz4 : wr.heap.size ≤ w4.heap.size := bel2.size
      clear own2 bel2' CL
      go_wp2_with fail
      refine hK.out _ _ ?_ (fun hHeld => ?_)
      · exact (ownsMap_below HOW.out bel2 hblt)
      clear hK K
      try simp only [Act.put, List.setIfInBounds_toArray, List.set_cons_zero, List.set_cons_succ, List.getElem_toArray, List.getElem_cons_zero, List.getElem_cons_succ]
      refine wpAnyH_take (i := 6) (oi := _) (v := ?_) rfl (by kernel_rfl) (by kernel_rfl) (by kernel_rfl) (fun _ _ _ h => h) (Or.inl ⟨by kernel_rfl, ?_⟩) (by assumption) ?_
      rotate_left
      · (intro w hSw; (try dsimp only at hSw); go_simp; try (with_reducible rfl))
      try simp only [Act.put, List.setIfInBounds_toArray, List.set_cons_zero, List.set_cons_succ, List.getElem_toArray, List.getElem_cons_zero, List.getElem_cons_succ]
      refine wpAnyH_ready (rs := [7]) (by kernel_rfl) (by simp) (AllReadyH.cons (o := _) rfl (fun K hK => ?_) AllReadyH.nil)
      go_simp
      refine hK.out _ _ ?_ (fun hHeld => ?_)
      · exact (ownsMap_below HOW.out bel2 hblt).alloc _
      clear hK K
      try simp only [Act.put, List.setIfInBounds_toArray, List.set_cons_zero, List.set_cons_succ, List.getElem_toArray, List.getElem_cons_zero, List.getElem_cons_succ]
      refine wpAnyH_ready (rs := [8]) (by kernel_rfl) (by simp) (AllReadyH.cons (o := _) rfl (fun K hK => ?_) AllReadyH.nil)
      refine step_append_lies _ (by rfl) _ _ _ (by rfl) 0 74 i0 _ 2 32 Try.underlying30 hi hz0 hz1 hz2 rfl (by omega) (.slice (some ⟨g, 0, none⟩) k cap) k vs (by rfl) ((below0 HVS.out bel2).alloc _) ⟨w4.heap.size, 0, none⟩ 1 1 [.slice A2 (Tr.lvl s).length c2, .int .i64 a] (by rfl) (by rfl) (World.news_of_block (cs := #[.slice A2 (Tr.lvl s).length c2, .int .i64 a]) (heap_alloc_new _ _)) (by simp [Value.oneCell']) (by omega) (by simp only [maxLen]; omega) (by omega) (Nat.zero_le _) (w4.heap.size + 1) (by simp) ?_
      intro g4 cap4 w5 hown5 hgrow5 hat5 hlt5
      refine hK.out _ _ ?_ (fun hHeld => ?_)
      · exact ((ownsMap_below HOW.out bel2 hblt).alloc _).kept hgrow5 (by simpa [Value.ownBlock] using hbg)
      clear hK K
      try simp only [Act.put, List.setIfInBounds_toArray, List.set_cons_zero, List.set_cons_succ, List.getElem_toArray, List.getElem_cons_zero, List.getElem_cons_succ]
      refine wpAnyH_take (i := 9) (oi := _) (v := ?_) rfl (by kernel_rfl) (by kernel_rfl) (by kernel_rfl) (fun _ _ _ h => h) (Or.inl ⟨by kernel_rfl, ?_⟩) (by assumption) ?_
      rotate_left
      · (intro w hSw; (try dsimp only at hSw); go_simp; try (with_reducible rfl))
      try simp only [Act.put, List.setIfInBounds_toArray, List.set_cons_zero, List.set_cons_succ, List.getElem_toArray, List.getElem_cons_zero, List.getElem_cons_succ]
      refine wpAnyH_done (by kernel_rfl) ?_ _
      refine NoPanic.normal ?_
      have ha4 : Below w4.heap.size w4 (w4.alloc (.cells #[.slice A2 (Tr.lvl s).length c2, .int .i64 a] 74)) := (Below.refl _ _).alloc (Nat.le_refl _) _
      have G : Hid (BldC w (listF f ((Tr.sortT ss).take (k + 1))) (.slice (some ⟨g4, 0, none⟩) (k + 1) cap4) w5) := by
        have h9 := BldC.push (H := w4.heap.size + 1) (x := a) HBK.out bel2 own2' ha4 (by rw [HLK.out]; exact HVS.out) (by rw [HLK.out]; exact hown5) hgrow5 hat5 (by simp) hlt5
        rw [HLK.out, ← HLS.out] at h9
        exact h9
      have GK : Hid (∀ z, w1.heap.size ≤ z → z < w3.heap.size → w5.heap[z]? = w3.heap[z]?) := fun z h1 h2 => by
        have h5 := hgrow5.block z (by simp; omega) (by simp only [Value.ownBlock]; intro e; injection e with e; omega)
        rw [h5, ha4.block z (by omega), bel2.block z (by omega)]
        exact HKP.out z h1 h2
      have hg5 : g4 < w1.heap.size ∨ w3.heap.size ≤ g4 := by
        rcases hat5 with e | e
        · have : g = g4 := by simpa [Value.ownBlock] using e
          omega
        · omega
      have hz5 : w3.heap.size ≤ w5.heap.size := by have := hgrow5.size; simp at this; omega
      clear hown5 hgrow5 hat5 hlt5 bel2 own2' ha4 HBK HKP HVS HOW hHeld
      go_wp2
      go_roundw
      case rel => exact ⟨k + 1, g4, cap4, by omega, rfl, by go_num, hg5, hz5, G, GK⟩
      case measure => simp [intOf]; omega
    · obtain rfl : k = q := by omega
      have G : Hid (BldC w (listF f (Tr.sortT ss)) (.slice (some ⟨g, 0, none⟩) k cap) wr) := by
        have h9 := HBK.out
        rw [List.take_of_length_le (by rw [HSL.out]; exact Nat.le_refl _)] at h9
        exact h9
      clear HBK HKP
      go_wp2
      go_ret
      refine ⟨some ⟨g, 0, none⟩, cap, ss, ?_, HK.out, ?_, G.out.own.2⟩
      · rw [← HQ.out]; rfl
      · rw [← HQ.out]; exact G.out.own.1
end Go.Proofs.Ytfehjjaebdgjlaa
/-
  A list of trees with their numbers beside a code, as calls hand it back.
-/
namespace Go.Proofs.Ytfehjjaebdgjlaa
open Go.RowKit Fld
set_option linter.unusedVariables false
set_option linter.unusedSimpArgs false
set_option maxRecDepth 100000

/-- a list that the call owns, beside a code -/
def ResC (r : List (List Int × Int) × Int) (w : World) (e : Ending) (w' : World) : Prop :=
  (r.1.length ≤ 1048576 ∧ cntC r.1 ≤ 1048576) ∧ ∃ A c, e = .returned (.tuple #[.slice A r.1.length c, .int .i64 r.2]) ∧ OwnD ShC w.heap.size w'.heap.size [.slice A r.1.length c] r.1 w' ∧ Below w.heap.size w w'
/-- one that is known by its cells -/
def ResCl (r : List (List Int × Int) × Int) (w : World) (e : Ending) (w' : World) : Prop :=
  (r.1.length ≤ 1048576 ∧ cntC r.1 ≤ 1048576) ∧ ∃ A c, e = .returned (.tuple #[.slice A r.1.length c, .int .i64 r.2]) ∧ Has ShC [.slice A r.1.length c] r.1 w'.heap.size w' ∧ Below w.heap.size w w'
theorem OwnD.nilC (w : World) (lo hi : Nat) : OwnD ShC lo hi [.slice none 0 0] [] w :=
  ⟨[], ⟨.slice none 0 0, [], [], rfl, World.ownsRow_nil _ _ _ _, rfl, rfl, rfl, (fun c hc => by cases hc), (fun i x hx => by cases hx)⟩, List.nodup_nil, fun g hg => by cases hg⟩
theorem ResC.nil {r : List (List Int × Int) × Int} {w w' : World} {k : Int} (h : r = ([], k)) (hb : Below w.heap.size w w') : ResC r w (.returned (.tuple #[.slice none 0 0, .int .i64 k])) w' := by
  subst h
  exact ⟨⟨Nat.zero_le _, Nat.zero_le _⟩, none, 0, rfl, OwnD.nilC _ _ _, hb⟩
theorem ResC.of {r : List (List Int × Int) × Int} {w w' : World} {A : Option Addr} {n c : Nat} {S : List (List Int × Int)} {k : Int} (h : r = (S, k)) (hl : S.length = n) (hn : S.length ≤ 1048576 ∧ cntC S ≤ 1048576)
    (ho : OwnD ShC w.heap.size w'.heap.size [.slice A n c] S w') (hb : Below w.heap.size w w') : ResC r w (.returned (.tuple #[.slice A n c, .int .i64 k])) w' := by
  subst h hl
  exact ⟨hn, A, c, rfl, ho, hb⟩
theorem ResCl.nil {r : List (List Int × Int) × Int} {w w' : World} {k : Int} (h : r = ([], k)) (hb : Below w.heap.size w w') : ResCl r w (.returned (.tuple #[.slice none 0 0, .int .i64 k])) w' := by
  subst h
  exact ⟨⟨Nat.zero_le _, Nat.zero_le _⟩, none, 0, rfl, (OwnD.nilC w' 0 w'.heap.size).has, hb⟩
theorem ResCl.of {r : List (List Int × Int) × Int} {w w' : World} {A : Option Addr} {n c : Nat} {S : List (List Int × Int)} {k : Int} (h : r = (S, k)) (hl : S.length = n) (hn : S.length ≤ 1048576 ∧ cntC S ≤ 1048576)
    (ho : Has ShC [.slice A n c] S w'.heap.size w') (hb : Below w.heap.size w w') : ResCl r w (.returned (.tuple #[.slice A n c, .int .i64 k])) w' := by
  subst h hl
  exact ⟨hn, A, c, rfl, ho, hb⟩
theorem markC_D (A : Option Addr) (n c lo hi : Nat) (S : List (List Int × Int)) (k : Int) (w : World) (hl : S.length = n) (hn : n ≤ 1048576) (ht : cntC S ≤ 1048576) (k0 : 0 ≤ k) (k1 : k ≤ 1073741824) (h : OwnD ShC lo hi [.slice A n c] S w) :
    Calls Try.prog 27 #[.slice A n c, .int .i64 k] w fun e w' => e = .returned (.int .i64 (k + (cntC S : Nat))) ∧ OwnD ShC lo hi [.slice A n c] (markedC S k) w' ∧ Within lo hi w w' := by
  obtain ⟨B, h1, h2, h3⟩ := h
  refine (markCountedS_any A n c S B k w hl hn ht k0 k1 h2 h1).mono ?_
  rintro e w' ⟨he, ho, ht⟩
  exact ⟨he, ⟨B, ho, h2, h3⟩, ht.within h3⟩
/-- the model's sums -/
theorem Sms.has {w : World} {A : Option Addr} {S : List (List Int × Int)} {c : Nat} (h : Sms w A S) (hc : S.length ≤ c) (hm : c ≤ maxLen) : Has ShC [.slice A S.length c] S w.heap.size w := by
  obtain ⟨vs, h1, h2⟩ := h
  have hl := h2.1
  refine ⟨A, c, (List.range S.length).map fun k => [vs.getD (2 * k) undef, vs.getD (2 * k + 1) undef], rfl, hc, hm, ?_, by simp, fun c' hc' => ?_, fun i x hx => ?_⟩
  · have e : ((List.range S.length).map fun k => [vs.getD (2 * k) undef, vs.getD (2 * k + 1) undef]).flatten = vs := by
      refine List.ext_getElem? fun j => ?_
      have hk : ∀ c' ∈ ((List.range S.length).map fun k => [vs.getD (2 * k) undef, vs.getD (2 * k + 1) undef]), c'.length = 2 := fun c' hc' => by
        rw [List.mem_map] at hc'
        obtain ⟨q, _, e⟩ := hc'
        rw [← e]; rfl
      rcases Nat.lt_or_ge j vs.length with q | q
      · have hj : j / 2 < S.length := by omega
        have h9 := flat_at (i := j / 2) (j := j % 2) hk (by rw [List.getElem?_map, List.getElem?_range hj]; rfl) (by omega)
        rw [show j / 2 * 2 + j % 2 = j from by omega] at h9
        rw [h9]
        rcases Nat.mod_two_eq_zero_or_one j with e | e
        · rw [e]
          show some (vs.getD (2 * (j / 2)) undef) = _
          rw [show 2 * (j / 2) = j by omega, List.getD_eq_getElem?_getD, List.getElem?_eq_getElem q]; rfl
        · rw [e]
          show some (vs.getD (2 * (j / 2) + 1) undef) = _
          rw [show 2 * (j / 2) + 1 = j by omega, List.getD_eq_getElem?_getD, List.getElem?_eq_getElem q]; rfl
      · rw [List.getElem?_eq_none q, List.getElem?_eq_none]
        rw [flat_len hk, List.length_map, List.length_range]; omega
    rw [e]; exact h1
  · rw [List.mem_map] at hc'
    obtain ⟨q, _, e⟩ := hc'
    rw [← e]; rfl
  · obtain ⟨t, y⟩ := x
    have hil : i < S.length := by
      rcases Nat.lt_or_ge i S.length with q | q
      · exact q
      · rw [List.getElem?_eq_none q] at hx; cases hx
    obtain ⟨A', c', e1, e2, e3, e4, e5⟩ := h2.2 i _ hx
    refine ⟨_, by rw [List.getElem?_map, List.getElem?_range hil]; rfl, [.slice A' t.length c'], [.int .i64 y], ?_, ?_, by unfold Has; rfl⟩
    · show [vs.getD (2 * i) undef, vs.getD (2 * i + 1) undef] = _
      rw [List.getD_eq_getElem?_getD, List.getD_eq_getElem?_getD, e1, e2]; rfl
    · exact Has.of_row rfl e3 e4 e5.row
end Go.Proofs.Ytfehjjaebdgjlaa
/-
  The program's rerooting of texts.
-/
namespace Go.Proofs.Ytfehjjaebdgjlaa
open Go.RowKit Fld
set_option linter.unusedVariables false
set_option linter.unusedSimpArgs false
set_option maxRecDepth 100000

theorem strs_app' (a b : List (List UInt8)) : strs a ++ strs b = strs (a ++ b) := by simp [strs]
theorem strs_one' (l : List (List UInt8)) : ∀ u ∈ strs l, u.oneCell' = true := fun u hu => by
  unfold strs at hu
  rw [List.mem_map] at hu
  obtain ⟨x, _, rfl⟩ := hu
  rfl
theorem row_news' {w : World} {B : Nat} {ad : Addr} {vs : List Value} (h : Row w B (some ad) vs) : ∀ j u, vs[j]? = some u → w.cell? (ad.add j) = some u := by
  intro j u hu
  obtain ⟨b, o, e, _, hc⟩ := h j u hu
  cases e
  have : (⟨b, o, none⟩ : Addr).add j = ⟨b, o + j, none⟩ := by unfold Addr.add; split <;> simp_all
  rw [this]; exact hc
theorem own_shape3 {w : World} {base : Nat} {T : TypeId} {v : Value} {n : Nat} {vs : List Value} (h : w.ownsRow base T 1 v n vs) : ∃ A c, v = .slice A n c := by
  rcases h.2 with ⟨rfl, rfl⟩ | ⟨g, cap, cur, rfl, _⟩
  · exact ⟨none, 0, rfl⟩
  · exact ⟨_, _, rfl⟩
def RerAt (d : Nat) : Prop := ∀ (x : List UInt8) (k nb cb B : Nat) (Ab : Option Addr) (bs : List (List UInt8)) (w : World), Tr.isTx x = true → k < x.length / 2 → x.length / 2 ≤ d → bs.length = nb → nb ≤ 1 → (bs.flatten.length + 200 * d ≤ 5000) → B ≤ w.heap.size → Row w B Ab (strs bs) → (Ab = none → nb = 0 ∧ cb = 0) →
    Calls Try.prog 93 #[.string ⟨x.toArray⟩, .int .i64 k, .slice Ab nb cb] w fun e w' => e = .returned (.string ⟨(Tr.rerF d x k bs).toArray⟩) ∧ Below w.heap.size w w'
theorem rerAt_zero : RerAt 0 := fun x k nb cb B Ab bs w _ hk hd _ _ _ _ _ _ => by omega
set_option maxHeartbeats 2000000 in
theorem rerAt_succ (d : Nat) (hd8 : d ≤ 8) (IH : RerAt d) : RerAt (d + 1) := by
  intro x k nb cb B Ab bs w hx hk hd hbl hnb hfl hB hrow hA
  obtain ⟨i0, hi, hz0, hz1, hz2⟩ := info_parts info_tree
  have HBL : Hid ((strs bs).length = nb * 1) := by rw [Hid, strs_length, hbl, Nat.mul_one]
  have HONE := Lib.hid (strs_one' bs)
  cases k with
  | zero =>
    have h7 := (Tr.br_parts hx).2.2
    have HF : Hid ((Tr.brT x ++ bs).flatten.length ≤ 1048574) := by rw [Hid, List.flatten_append, List.length_append]; have := brT_small hx; omega
    have C0 := branches_any x w hx
    have HS := Lib.hid (strs_app' (Tr.brT x) bs)
    have HZ : Hid (Tr.rerF (d + 1) x 0 bs = Tr.rootT (Tr.brT x ++ bs)) := rfl
    rw [HZ.out]
    cases hAb : Ab with
    | none =>
      obtain ⟨e1, e2⟩ := hA hAb
      subst hAb e1 e2
      have hb0 : bs = [] := List.eq_nil_of_length_eq_zero hbl
      subst hb0
      rw [List.append_nil] at HF ⊢
      obtain ⟨X, hX⟩ : ∃ X : ByteArray, X = ⟨x.toArray⟩ := ⟨_, rfl⟩
      rw [← hX] at C0 ⊢
      clear hX hx hk hd hA hrow hfl hbl
      go_enter Try.func93, Try.ntmps93
      go_wp2_with fail
      refine C0.mono ?_
      rintro e w1 ⟨A, q, c, rfl, hq, own1, bel1⟩
      have hs1 := bel1.size
      have HB1 := Lib.hid bel1
      have HO1 := Lib.hid own1
      have hq7 : q ≤ 7 := by omega
      clear bel1 hq C0
      go_wp2_with (at_builtin; refine wpList_append_own_none rfl (.tmp 13) (.tmp 14) 79 rfl w.heap.size 59 i0 1 Try.underlying79 hi (.slice A q c) q (strs (Tr.brT x)) rfl own1 rfl ?_)
      clear own1
      go_wp2_with fail
      refine (rootOn_any A w.heap.size q c _ _ (by omega) HF.out hs1 HO1.out).mono ?_
      rintro e w4 ⟨rfl, bel4⟩
      have GB := Lib.hid (HB1.out.trans bel4)
      obtain ⟨Z, hZ⟩ : ∃ Z : ByteArray, Z = ⟨(Tr.wrap (Tr.sortS (Tr.brT x))).toArray⟩ := ⟨_, rfl⟩
      have HZZ : Hid (Z = ⟨(Tr.rootT (Tr.brT x)).toArray⟩) := hZ
      rw [← hZ]
      clear bel4 hZ
      go_wp2
      go_ret
      exact ⟨by rw [← HZZ.out]; rfl, GB.out⟩
    | some ad =>
      subst hAb
      obtain ⟨X, hX⟩ : ∃ X : ByteArray, X = ⟨x.toArray⟩ := ⟨_, rfl⟩
      rw [← hX] at C0 ⊢
      clear hX hx hk hd hA hfl hbl
      go_enter Try.func93, Try.ntmps93
      go_wp2_with fail
      refine C0.mono ?_
      rintro e w1 ⟨A, q, c, rfl, hq, own1, bel1⟩
      have hs1 := bel1.size
      have HB1 := Lib.hid bel1
      have HO1 := Lib.hid own1
      have hq7 : q ≤ 7 := by omega
      have HNW := Lib.hid (row_news' (Row.below hrow bel1 hB))
      clear bel1 hq C0
      go_wp2_with (at_builtin; refine wpList_append_own _ rfl (.tmp 13) (.tmp 14) 79 rfl w.heap.size 59 i0 _ 1 16 Try.underlying79 hi hz0 hz1 hz2 rfl (by omega) (.slice A q c) q (strs (Tr.brT x)) rfl own1 ad nb cb (strs bs) rfl HBL.out HNW.out HONE.out (by simp only [maxLen]; omega) (by omega) (by omega) ?_; intro v3 w3 own3 hgrow3 _; obtain ⟨A3, c3, rfl⟩ := own_shape3 own3)
      rw [HS.out] at own3
      have HB3 : Hid (Below w.heap.size w w3) := HB1.out.grown hgrow3 (by omega) (fun z hz => (HO1.out.lt z hz).1)
      have HO3 := Lib.hid own3
      clear own3 hgrow3 own1
      go_wp2_with fail
      refine (rootOn_any A3 w.heap.size (q + nb) c3 _ _ (by omega) HF.out HB3.out.size HO3.out).mono ?_
      rintro e w4 ⟨rfl, bel4⟩
      have GB := Lib.hid (HB3.out.trans bel4)
      obtain ⟨Z, hZ⟩ : ∃ Z : ByteArray, Z = ⟨(Tr.wrap (Tr.sortS (Tr.brT x ++ bs))).toArray⟩ := ⟨_, rfl⟩
      have HZZ : Hid (Z = ⟨(Tr.rootT (Tr.brT x ++ bs)).toArray⟩) := hZ
      rw [← hZ]
      clear bel4 hZ
      go_wp2
      go_ret
      exact ⟨by rw [← HZZ.out]; rfl, GB.out⟩
  | succ n =>
    obtain ⟨_, h2, h3, _, _, h7⟩ := Tr.pick_parts hx hk
    have C0 := branchWith_any x n w hx hk
    have hoa := oAt_small hx hk
    have hroot : (Tr.rootT (Tr.oAt x n ++ bs)).length = (Tr.oAt x n).flatten.length + bs.flatten.length + 2 := by rw [rootT_len, List.flatten_append, List.length_append]
    have HF : Hid ((Tr.oAt x n ++ bs).flatten.length ≤ 1048574) := by rw [Hid, List.flatten_append, List.length_append]; omega
    have HS := Lib.hid (strs_app' (Tr.oAt x n) bs)
    have HZ : Hid (Tr.rerF (d + 1) x (n + 1) bs = Tr.rerF d (Tr.bAt x n) (Tr.pAt x n) [Tr.rootT (Tr.oAt x n ++ bs)]) := rfl
    rw [HZ.out]
    clear HZ
    have C1 : ∀ (W : World) (Z : ByteArray), Z = ⟨(Tr.wrap (Tr.sortS (Tr.oAt x n ++ bs))).toArray⟩ → Calls Try.prog 93 #[.string ⟨(Tr.bAt x n).toArray⟩, .int .i64 ((Tr.pAt x n : Nat) : Int), .slice (some ⟨W.heap.size, 0, none⟩) 1 1] (W.alloc (.cells #[.string Z] 59)) fun e w' => e = .returned (.string ⟨(Tr.rerF d (Tr.bAt x n) (Tr.pAt x n) [Tr.rootT (Tr.oAt x n ++ bs)]).toArray⟩) ∧ Below W.heap.size W w' := fun W Z hZ => by
      have ho := World.ownsRow_lit (base := W.heap.size) (size := 1) (e := 59) W #[.string Z] 1 (Nat.le_refl _) (by simp [maxLen]) rfl
      refine (IH (Tr.bAt x n) (Tr.pAt x n) 1 1 _ (some ⟨W.heap.size, 0, none⟩) [Tr.rootT (Tr.oAt x n ++ bs)] (W.alloc (.cells #[.string Z] 59)) h2 h3 (bAt_less hx hk hd) rfl (Nat.le_refl _) ?_ (Nat.le_refl _) ?_ (fun e => by cases e)).mono ?_
      · simp only [List.flatten_cons, List.flatten_nil, List.append_nil]; omega
      · have := row_of_own ho
        rw [hZ] at this ⊢
        exact this
      · rintro e w' ⟨rfl, bel⟩
        exact ⟨rfl, ((Below.refl W.heap.size W).alloc (Nat.le_refl _) _).trans (bel.mono (by simp))⟩
    obtain ⟨R, hR⟩ : ∃ R : ByteArray, R = ⟨(Tr.rerF d (Tr.bAt x n) (Tr.pAt x n) [Tr.rootT (Tr.oAt x n ++ bs)]).toArray⟩ := ⟨_, rfl⟩
    obtain ⟨X, hX⟩ : ∃ X : ByteArray, X = ⟨x.toArray⟩ := ⟨_, rfl⟩
    obtain ⟨Bb, hBb⟩ : ∃ Bb : ByteArray, Bb = ⟨(Tr.bAt x n).toArray⟩ := ⟨_, rfl⟩
    obtain ⟨p, hp⟩ : ∃ p, p = Tr.pAt x n := ⟨_, rfl⟩
    rw [← hX, ← hBb, ← hp] at C0
    simp only [← hBb, ← hR] at C1
    simp only [← hp] at C1
    rw [← hX, ← hR]
    have tk := beq_f (show ¬ ((n + 1 : Nat) : Int) = 0 by omega)
    obtain ⟨kk, hkk⟩ : ∃ kk, kk = ((n + 1 : Nat) : Int) := ⟨_, rfl⟩
    rw [← hkk] at C0 tk ⊢
    cases hAb : Ab with
    | none =>
      obtain ⟨e1, e2⟩ := hA hAb
      subst hAb e1 e2
      have hb0 : bs = [] := List.eq_nil_of_length_eq_zero hbl
      subst hb0
      rw [List.append_nil] at HF
      simp only [List.append_nil] at C1
      clear hX hBb hR hp hkk hx hk hd hA hrow hfl hbl h2 h3 hoa hroot IH
      go_enter Try.func93, Try.ntmps93
      go_wp2_with fail
      refine C0.mono ?_
      rintro e w1 ⟨g, c, q, rfl, hq, own1, bel1⟩
      have hs1 := bel1.size
      have HB1 := Lib.hid bel1
      have HO1 := Lib.hid own1
      have hq7 : q ≤ 7 := by omega
      clear bel1 hq C0
      go_wp2_with (at_builtin; refine wpList_append_own_none rfl (.tmp 26) (.tmp 27) 79 rfl w.heap.size 59 i0 1 Try.underlying79 hi (.slice (some ⟨g, 0, none⟩) q c) q (strs (Tr.oAt x n)) rfl own1 rfl ?_)
      clear own1
      go_wp2_with fail
      refine (rootOn_any (some ⟨g, 0, none⟩) w.heap.size q c _ _ (by omega) HF.out hs1 HO1.out).mono ?_
      rintro e w4 ⟨rfl, bel4⟩
      have GB4 := Lib.hid (HB1.out.trans bel4)
      have hs4 := GB4.out.size
      obtain ⟨Z, hZ⟩ : ∃ Z : ByteArray, Z = ⟨(Tr.wrap (Tr.sortS (Tr.oAt x n))).toArray⟩ := ⟨_, rfl⟩
      have C2 := C1 w4 Z hZ
      rw [← hZ]
      clear bel4 hZ C1
      go_wp2_with fail
      refine C2.mono ?_
      rintro e w5 ⟨rfl, bel5⟩
      have GB := Lib.hid (GB4.out.trans (bel5.mono hs4))
      clear bel5 C2
      go_wp2
      go_ret
      exact ⟨rfl, GB.out⟩
    | some ad =>
      subst hAb
      clear hX hBb hR hp hkk hx hk hd hA hfl hbl h2 h3 hoa hroot IH
      go_enter Try.func93, Try.ntmps93
      go_wp2_with fail
      refine C0.mono ?_
      rintro e w1 ⟨g, c, q, rfl, hq, own1, bel1⟩
      have hs1 := bel1.size
      have HB1 := Lib.hid bel1
      have HO1 := Lib.hid own1
      have hq7 : q ≤ 7 := by omega
      have HNW := Lib.hid (row_news' (Row.below hrow bel1 hB))
      clear bel1 hq C0
      go_wp2_with (at_builtin; refine wpList_append_own _ rfl (.tmp 26) (.tmp 27) 79 rfl w.heap.size 59 i0 _ 1 16 Try.underlying79 hi hz0 hz1 hz2 rfl (by omega) (.slice (some ⟨g, 0, none⟩) q c) q (strs (Tr.oAt x n)) rfl own1 ad nb cb (strs bs) rfl HBL.out HNW.out HONE.out (by simp only [maxLen]; omega) (by omega) (by omega) ?_; intro v3 w3 own3 hgrow3 _; obtain ⟨A3, c3, rfl⟩ := own_shape3 own3)
      rw [HS.out] at own3
      have HB3 : Hid (Below w.heap.size w w3) := HB1.out.grown hgrow3 (by omega) (fun z hz => (HO1.out.lt z hz).1)
      have HO3 := Lib.hid own3
      clear own3 hgrow3 own1
      go_wp2_with fail
      refine (rootOn_any A3 w.heap.size (q + nb) c3 _ _ (by omega) HF.out HB3.out.size HO3.out).mono ?_
      rintro e w4 ⟨rfl, bel4⟩
      have GB4 := Lib.hid (HB3.out.trans bel4)
      have hs4 := GB4.out.size
      obtain ⟨Z, hZ⟩ : ∃ Z : ByteArray, Z = ⟨(Tr.wrap (Tr.sortS (Tr.oAt x n ++ bs))).toArray⟩ := ⟨_, rfl⟩
      have C2 := C1 w4 Z hZ
      rw [← hZ]
      clear bel4 hZ C1
      go_wp2_with fail
      refine C2.mono ?_
      rintro e w5 ⟨rfl, bel5⟩
      have GB := Lib.hid (GB4.out.trans (bel5.mono hs4))
      clear bel5 C2
      go_wp2
      go_ret
      exact ⟨rfl, GB.out⟩
theorem rerAt_all : ∀ d, d ≤ 8 → RerAt d
  | 0, _ => rerAt_zero
  | d+1, h => rerAt_succ d (by omega) (rerAt_all d (by omega))
theorem rerootAt_any (x : List UInt8) (k : Nat) (w : World) (hx : Tr.isTx x = true) (hk : k < x.length / 2) :
    Calls Try.prog 93 #[.string ⟨x.toArray⟩, .int .i64 k, .slice none 0 0] w fun e w' => e = .returned (.string ⟨(Tr.rerF 8 x k []).toArray⟩) ∧ Below w.heap.size w w' :=
  rerAt_all 8 (Nat.le_refl _) x k 0 0 w.heap.size none [] w hx hk (by have := (Tr.br_parts hx).1.2; omega) rfl (by omega) (by simp) (Nat.le_refl _) (Row.nil _ _ _) (fun _ => ⟨rfl, rfl⟩)
end Go.Proofs.Ytfehjjaebdgjlaa
/-
  Texts filled in one after another.
-/
namespace Go.Proofs.Ytfehjjaebdgjlaa
open Go.RowKit Fld
set_option linter.unusedVariables false
set_option linter.unusedSimpArgs false
set_option maxRecDepth 100000

/-- texts filled in one after another -/
def FillT (w : World) (n : Nat) (ss : List (List UInt8)) (k : Nat) (wr : World) : Prop :=
  wr.ownsRow w.heap.size 59 1 (.slice (some ⟨w.heap.size, 0, none⟩) n n) n ((strs ss).take k ++ List.replicate (n - k) (.string ⟨#[]⟩)) ∧ Below w.heap.size w wr
theorem FillT.below {w wr w2 : World} {n k : Nat} {ss : List (List UInt8)} (h : FillT w n ss k wr) (hb : Below wr.heap.size wr w2) : FillT w n ss k w2 :=
  ⟨((OwnR.of h.1).below hb (Nat.le_refl _)).1, h.2.trans (hb.mono h.2.size)⟩
theorem FillT.step {w wr : World} {n k : Nat} {ss : List (List UInt8)} {s : List UInt8} (h : FillT w n ss k wr) (hl : ss.length = n) (hs : ss[k]? = some s) : FillT w n ss (k + 1) (wr.setCell ⟨w.heap.size, k, none⟩ (.string ⟨s.toArray⟩)) := by
  obtain ⟨h1, h2⟩ := h
  refine ⟨?_, below_set h2 (Nat.le_refl _) _⟩
  have := (h1.stored k (.string ⟨s.toArray⟩)).1
  rw [fill_step (by rw [strs_length]; exact hl) (strs_at hs)] at this
  exact this
theorem FillT.start {w w1 : World} {n : Nat} {ss : List (List UInt8)} (h : w1.ownsRow w.heap.size 59 1 (.slice (some ⟨w.heap.size, 0, none⟩) n n) n (madeCells (Value.string ⟨#[]⟩).cells (n * 1)).toList) (hg : w.grownBy w1 none) : FillT w n ss 0 w1 := by
  refine ⟨?_, (Below.refl _ _).grown hg (Nat.le_refl _) (fun k hk => by cases hk)⟩
  have e : (madeCells (Value.string ⟨#[]⟩).cells (n * 1)).toList = (strs ss).take 0 ++ List.replicate (n - 0) (.string ⟨#[]⟩) := by
    rw [← fill_start, Nat.mul_one]; exact toList_madeCells_one _ _
  rw [e] at h
  exact h
end Go.Proofs.Ytfehjjaebdgjlaa
/-
  All rerooted trees of a text, and the least of them.
-/
namespace Go.Proofs.Ytfehjjaebdgjlaa
open Go.RowKit Fld
set_option linter.unusedVariables false
set_option linter.unusedSimpArgs false
set_option maxRecDepth 100000

def rootsT (x : List UInt8) : List (List UInt8) := (List.range (x.length / 2)).map fun k => Tr.rerF 8 x k []
theorem rootsT_len (x : List UInt8) : (rootsT x).length = x.length / 2 := by simp [rootsT]
theorem rootsT_at {x : List UInt8} {k : Nat} (hk : k < x.length / 2) : (rootsT x)[k]? = some (Tr.rerF 8 x k []) := by
  unfold rootsT; rw [List.getElem?_map, List.getElem?_range hk]; rfl
set_option maxHeartbeats 1000000 in
theorem roots_any (x : List UInt8) (w : World) (hx : Tr.isTx x = true) :
    Calls Try.prog 67 #[.string ⟨x.toArray⟩] w fun e w' => e = .returned (.slice (some ⟨w.heap.size, 0, none⟩) (x.length / 2) (x.length / 2)) ∧ w'.ownsRow w.heap.size 59 1 (.slice (some ⟨w.heap.size, 0, none⟩) (x.length / 2) (x.length / 2)) (x.length / 2) (strs (rootsT x)) ∧ Below w.heap.size w w' := by
  obtain ⟨i0, hi, hz0, hz1, hz2⟩ := info_parts info_tree
  have hx16 := (Tr.br_parts hx).1.2
  have C0 := nodes_any x w (by omega)
  have C1 := fun k w (hk : k < x.length / 2) => rerootAt_any x k w hx hk
  have HLEN := Lib.hid (rootsT_len x)
  have HAT : Hid (∀ k, k < x.length / 2 → (rootsT x)[k]? = some (Tr.rerF 8 x k [])) := fun k hk => rootsT_at hk
  obtain ⟨n, hn⟩ : ∃ n, n = x.length / 2 := ⟨_, rfl⟩
  have hn8 : n ≤ 8 := by omega
  rw [← hn] at C0 HLEN HAT ⊢
  simp only [← hn] at C1
  obtain ⟨X, hX⟩ : ∃ X : ByteArray, X = ⟨x.toArray⟩ := ⟨_, rfl⟩
  rw [← hX] at C0 ⊢
  simp only [← hX] at C1
  clear hn hX hx hx16
  go_enter Try.func67, Try.ntmps67
  go_wp2_with fail
  refine C0.mono ?_
  rintro e w9 ⟨rfl, rfl⟩
  clear C0
  go_wp2_with (at_make; refine wpList_make_full _ rfl (.tmp 6) (.tmp 6) 79 rfl w.heap.size 59 i0 _ 1 Try.underlying79 hi hz0 hz1 .i64 .i64 _ _ n rfl rfl rfl rfl (by rw [hz2]; omega) (by simp only [maxLen]; omega) (Nat.le_refl _) ?_; intro w1 hown hg)
  have F0 := FillT.start (ss := rootsT x) hown hg
  clear hown hg hz0 hz1 hz2 hi
  go_wp2_with fail
  go_loopw [10] (fun i wr => ∃ k : Nat, k ≤ n ∧ i = .int .i64 k ∧ FillT w n (rootsT x) k wr) (fun i _ => n - (intOf i).toNat)
  case atStart => exact ⟨0, Nat.zero_le _, rfl, F0⟩
  case round =>
    obtain ⟨k, hk, rfl, HF⟩ := hrel
    by_cases hlt : k < n
    · have hsz := HF.2.size
      have HST := Lib.hid (HAT.out k hlt)
      have C2 := C1 k wr hlt
      have HFF := Lib.hid HF
      obtain ⟨R, hR⟩ : ∃ R : ByteArray, R = ⟨(Tr.rerF 8 x k []).toArray⟩ := ⟨_, rfl⟩
      have HR := Lib.hid hR
      rw [← hR] at C2
      clear F0 HF hR
      go_wp2_with fail
      refine C2.mono ?_
      rintro e w2 ⟨rfl, bel2⟩
      have HF2 := HFF.out.below bel2
      have hf := HF2.1.frozenAt k
      have ho := HF2.1.cellAt k (by omega)
      rw [fill_at (by rw [strs_length]; exact HLEN.out) hlt] at ho
      have G := Lib.hid (HF2.step HLEN.out HST.out)
      rw [← HR.out] at G
      clear bel2 HF2 C2
      go_wp2
      go_roundw
      case rel => exact ⟨k + 1, by omega, by go_num, G.out⟩
      case measure => simp [intOf]; omega
    · obtain rfl : k = n := by omega
      have G : Hid (wr.ownsRow w.heap.size 59 1 (.slice (some ⟨w.heap.size, 0, none⟩) k k) k (strs (rootsT x)) ∧ Below w.heap.size w wr) := by
        obtain ⟨h1, h2⟩ := HF
        rw [fill_end _ (by rw [strs_length]; exact HLEN.out)] at h1
        exact ⟨h1, h2⟩
      clear HF F0
      go_wp2
      go_ret
      exact ⟨rfl, G.out⟩
/-- the least of the first texts -/
def minTo (ss : List (List UInt8)) (k : Nat) : List UInt8 := ((ss.take k).drop 1).foldl (fun m s => if Tr.cmpT s m < 0 then s else m) (ss.getD 0 [])
def minT (ss : List (List UInt8)) : List UInt8 := minTo ss ss.length
theorem minTo_one (ss : List (List UInt8)) : minTo ss 1 = ss.getD 0 [] := by
  unfold minTo
  cases ss with
  | nil => rfl
  | cons a r => simp
theorem minTo_step {ss : List (List UInt8)} {k : Nat} {s : List UInt8} (h1 : 1 ≤ k) (h : ss[k]? = some s) : minTo ss (k + 1) = if Tr.cmpT s (minTo ss k) < 0 then s else minTo ss k := by
  unfold minTo
  have hk : 1 ≤ (ss.take k).length := by
    rw [List.length_take]
    rcases Nat.lt_or_ge k ss.length with g | g
    · omega
    · rw [List.getElem?_eq_none g] at h; cases h
  rw [List.take_add_one, h, Option.toList_some, List.drop_append_of_le_length hk, List.foldl_append]; rfl
theorem minTo_small {ss : List (List UInt8)} (h : ∀ s ∈ ss, s.length ≤ 1048576) (h0 : 0 < ss.length) : ∀ k, 1 ≤ k → k ≤ ss.length → (minTo ss k).length ≤ 1048576
  | 0, h1, _ => by omega
  | 1, _, _ => by
    rw [minTo_one, List.getD_eq_getElem?_getD, List.getElem?_eq_getElem h0]
    exact h _ (List.getElem_mem _)
  | k+2, _, hk => by
    rw [minTo_step (by omega) (List.getElem?_eq_getElem (show k + 1 < ss.length by omega))]
    split
    · exact h _ (List.getElem_mem _)
    · exact minTo_small h h0 (k + 1) (by omega) (by omega)
set_option maxHeartbeats 1000000 in
theorem minFunc_any (A : Option Addr) (n c B : Nat) (ss : List (List UInt8)) (w : World) (hl : ss.length = n) (h1 : 1 ≤ n) (hn : n ≤ 1048576) (hs : ∀ s ∈ ss, s.length ≤ 1048576) (hB : B ≤ w.heap.size) (h : Row w B A (strs ss)) :
    Calls Try.prog 94 #[.slice A n c, (.func (.func 88) #[] #[])] w fun e w' => e = .returned (.string ⟨(minT ss).toArray⟩) ∧ Below w.heap.size w w' := by
  have HL := Lib.hid hl
  have HS := Lib.hid hs
  have HSM : Hid (∀ k, 1 ≤ k → k ≤ n → (minTo ss k).length ≤ 1048576) := fun k q1 q2 => minTo_small hs (by omega) k q1 (by omega)
  obtain ⟨s0, hs0⟩ := at_lt (show 0 < ss.length by omega)
  obtain ⟨b, o, rfl, hbB, hc0⟩ := h 0 _ (strs_at hs0)
  rw [Nat.add_zero] at hc0
  have HM1 : Hid (minTo ss 1 = s0) := by rw [Hid, minTo_one, List.getD_eq_getElem?_getD, hs0]; rfl
  have hn1 : ¬ (n : Int) < 1 := by omega
  obtain ⟨S0, hS0⟩ : ∃ S0 : ByteArray, S0 = ⟨s0.toArray⟩ := ⟨_, rfl⟩
  have HS0 := Lib.hid hS0
  rw [← hS0] at hc0
  clear hl hs hs0 hS0
  go_enter Try.func94, Try.ntmps94
  go_wp2_with fail
  go_loopw [5, 6] (fun mv i wr => ∃ (k : Nat) (M : ByteArray), 1 ≤ k ∧ k ≤ n ∧ mv = .string M ∧ Hid (M = ⟨(minTo ss k).toArray⟩) ∧ i = .int .i64 k ∧ Below w.heap.size w wr) (fun _ i _ => n - (intOf i).toNat)
  case atStart => exact ⟨1, S0, Nat.le_refl _, h1, rfl, by rw [Hid, HM1.out]; exact HS0.out, rfl, Below.refl _ _⟩
  case round =>
    obtain ⟨k, M, hk1, hk, rfl, HM, rfl, HB⟩ := hrel
    have hsz := HB.size
    by_cases hlt : k < n
    · obtain ⟨s, hs⟩ := at_lt (show k < ss.length by rw [HL.out]; exact hlt)
      obtain ⟨_, _, e1, _, hck⟩ := (Row.below h HB hB) k _ (strs_at hs)
      cases e1
      have hsl := HS.out s (List.mem_of_getElem? hs)
      have C0 := compare_any s (minTo ss k) wr hsl (HSM.out k hk1 hk)
      rw [← HM.out] at C0
      have HST := Lib.hid (minTo_step hk1 hs)
      have HBW := Lib.hid HB
      obtain ⟨X, hX⟩ : ∃ X : ByteArray, X = ⟨s.toArray⟩ := ⟨_, rfl⟩
      have HX := Lib.hid hX
      rw [← hX] at hck C0
      obtain ⟨z, hz⟩ : ∃ z, z = Tr.cmpT s (minTo ss k) := ⟨_, rfl⟩
      rw [← hz] at C0 HST
      clear hs HB hX hz
      by_cases hzn : z < 0
      · have G : Hid (X = ⟨(minTo ss (k + 1)).toArray⟩) := by rw [Hid, HST.out, if_pos hzn]; exact HX.out
        go_wp2_with fail
        refine C0.mono ?_
        rintro e w2 ⟨rfl, bel2⟩
        have hck2 := (bel2.cell (p := ⟨b, o + k, none⟩) (by show b < wr.heap.size; omega)).trans hck
        have GB := Lib.hid (HBW.out.trans (bel2.mono hsz))
        clear bel2 C0 hck
        go_wp2
        go_roundw
        case rel => exact ⟨k + 1, X, by omega, by omega, rfl, G, by go_num, GB.out⟩
        case measure => simp [intOf]; omega
      · have G : Hid (M = ⟨(minTo ss (k + 1)).toArray⟩) := by rw [Hid, HST.out, if_neg hzn]; exact HM.out
        go_wp2_with fail
        refine C0.mono ?_
        rintro e w2 ⟨rfl, bel2⟩
        have GB := Lib.hid (HBW.out.trans (bel2.mono hsz))
        clear bel2 C0 hck
        go_wp2
        go_roundw
        case rel => exact ⟨k + 1, M, by omega, by omega, rfl, G, by go_num, GB.out⟩
        case measure => simp [intOf]; omega
    · obtain rfl : k = n := by omega
      have G : Hid (M = ⟨(minT ss).toArray⟩) := by rw [Hid, HM.out]; unfold minT; rw [HL.out]
      have GB := Lib.hid HB
      clear HM HB
      go_wp2
      go_ret
      exact ⟨by rw [← G.out]; rfl, GB.out⟩
end Go.Proofs.Ytfehjjaebdgjlaa
/-
  The free form of a tree, the program's.
-/
namespace Go.Proofs.Ytfehjjaebdgjlaa
open Go.RowKit Fld
set_option linter.unusedVariables false
set_option linter.unusedSimpArgs false
set_option maxRecDepth 100000

theorem roots_tx {x : List UInt8} (hx : Tr.isTx x = true) : ∀ s ∈ rootsT x, Tr.isTx s = true := fun s hs => by
  unfold Tr.isTx at hx
  simp only [Bool.and_eq_true, beq_iff_eq] at hx
  obtain ⟨c1, c2⟩ := lv_can hx.1
  obtain ⟨c3, c4⟩ := Tr.can_can hx.1
  have hl := (lv_txt hx.1).2.2.2
  rw [hx.2] at hl
  unfold rootsT at hs
  rw [List.mem_map] at hs
  obtain ⟨k, hk, rfl⟩ := hs
  rw [List.mem_range] at hk
  obtain ⟨q1, q2, _⟩ := Tr.turn_at c1 c3 (k := k) (by omega)
  rw [c4, hx.2] at q1
  rw [← q1]
  exact Tr.tx_txt q2
theorem freeForm_any (x : List UInt8) (w : World) (hx : Tr.isTx x = true) : Calls Try.prog 69 #[.string ⟨x.toArray⟩] w fun e w' => e = .returned (.string ⟨(minT (rootsT x)).toArray⟩) ∧ Below w.heap.size w w' := by
  have h2 := (Tr.br_parts hx).1
  have C0 := roots_any x w hx
  have HS : Hid (∀ s ∈ rootsT x, s.length ≤ 1048576) := fun s hs => by have := (Tr.br_parts (roots_tx hx s hs)).1.2; omega
  have HL := Lib.hid (rootsT_len x)
  obtain ⟨n, hn⟩ : ∃ n, n = x.length / 2 := ⟨_, rfl⟩
  rw [← hn] at C0 HL
  have h1 : 1 ≤ n := by omega
  have h8 : n ≤ 1048576 := by omega
  obtain ⟨X, hX⟩ : ∃ X : ByteArray, X = ⟨x.toArray⟩ := ⟨_, rfl⟩
  rw [← hX] at C0 ⊢
  clear hn hX hx h2
  go_enter Try.func69, Try.ntmps69
  go_wp2_with fail
  refine C0.mono ?_
  rintro e w1 ⟨rfl, own1, bel1⟩
  have hs1 := bel1.size
  have HB1 := Lib.hid bel1
  have HR := Lib.hid (row_of_own own1)
  clear own1 bel1 C0
  go_wp2_with fail
  refine (minFunc_any _ n n w1.heap.size (rootsT x) w1 HL.out h1 h8 HS.out (Nat.le_refl _) HR.out).mono ?_
  rintro e w2 ⟨rfl, bel2⟩
  have GB := Lib.hid (HB1.out.trans (bel2.mono hs1))
  obtain ⟨Z, hZ⟩ : ∃ Z : ByteArray, Z = ⟨(minT (rootsT x)).toArray⟩ := ⟨_, rfl⟩
  have HZ := Lib.hid hZ
  rw [← hZ]
  clear bel2 hZ
  go_wp2
  go_ret
  exact ⟨by rw [← HZ.out]; rfl, GB.out⟩
end Go.Proofs.Ytfehjjaebdgjlaa
/-
  The model's rerooting of lists.
-/
namespace Go.Proofs.Ytfehjjaebdgjlaa
open Go.RowKit Fld
set_option linter.unusedVariables false
set_option linter.unusedSimpArgs false
set_option maxRecDepth 100000

theorem parL_step {t : List Int} {x z : Int} {p : Nat} (h : t[p]? = some z) : Tr.parL t x (p + 1) = if z = x then p else Tr.parL t x p := by
  rw [Tr.parL, List.getD_eq_getElem?_getD, h]; rfl
def TurnAt (d : Nat) : Prop := ∀ (A : Option Addr) (n c B k : Nat) (t : List Int) (w : World), t.length = n → Tr.isLv t = true → k < n → k < d → n ≤ c → B ≤ w.heap.size → Row w B A (ints t) →
    Calls Try.prog 92 #[.slice A n c, .int .i64 k] w (NewRow 2 n (ints (Tr.turnF d t k)) w)
theorem turnAt_zero : TurnAt 0 := fun A n c B k t w _ _ _ hd _ _ _ => by omega
set_option maxHeartbeats 4000000 in
theorem turnAt_succ (d : Nat) (IH : TurnAt d) : TurnAt (d + 1) := by
  intro A n c B k t w hl ht hk hd hc hB h
  obtain ⟨i0, hi, hz0, hz1, hz2⟩ := info_parts info_i64
  have h8 := (lv_bd ht).2
  rw [hl] at h8
  cases k with
  | zero =>
    have C0 := l03Canon_any A n c B t w hl ht hB h
    have HZ : Hid (Tr.turnF (d + 1) t 0 = Tr.can t) := rfl
    rw [HZ.out]
    clear HZ hl ht
    go_enter Try.func92, Try.ntmps92
    go_wp2_with fail
    refine C0.mono ?_
    rintro e w1 ⟨A1, c1, rfl, own1, bel1⟩
    have G : Hid (NewRow 2 n (ints (Tr.can t)) w (.returned (.slice A1 n c1)) w1) := ⟨_, _, rfl, own1, bel1⟩
    clear own1 bel1 C0
    go_wp2
    go_ret
    exact G.out
  | succ k =>
    obtain ⟨p1, p2, p3, p4, p5⟩ := Tr.par_parts ht (k := k) (by omega)
    obtain ⟨i1, i2⟩ := turn_lv d _ _ p4 p3 (by omega)
    have l1 := trunk_length (t := t) (k := k + 1) (by omega)
    have l2 := branch_length (t := t) (k := k + 1) (by omega)
    have hE := Tr.endL_le (t := t) (k := k + 1) (by omega)
    rw [hl] at hE
    have C0 := fun W (hb : Below w.heap.size w W) => l04End_any A n c B (k + 1) t W hl (by omega) hk (Row.below h hb hB)
    obtain ⟨g1, g2⟩ := Tr.graft_root p5 i1 (by rw [i2, l1, l2, hl]; omega)
    have HTF : Hid (Tr.turnF (d + 1) t (k + 1) = Tr.can (Tr.gl (Tr.branchL t (k + 1)) 0 (Tr.turnF d (Tr.trunkL t (k + 1)) (Tr.parL t (t.getD (k + 1) 0 - 1) (k + 1))))) := rfl
    rw [HTF.out]
    obtain ⟨y, hy⟩ := at_lt (show k + 1 < t.length by omega)
    have hyb := lv_el ht hy
    have hyd : t.getD (k + 1) 0 = y := by rw [List.getD_eq_getElem?_getD, hy]; rfl
    have HRD : Hid (Tr.branchL t (k + 1) = ((t.drop (k + 1)).take (Tr.endL t (k + 1) - (k + 1))).map (· - y)) := by rw [Hid, ← hyd]; rfl
    have HTD : Hid (Tr.trunkL t (k + 1) = t.take (k + 1) ++ t.drop (Tr.endL t (k + 1))) := rfl
    rw [hyd] at p1 p2 p3 g2 i1 i2 ⊢
    obtain ⟨b, o, rfl, hbB, hcy⟩ := h (k + 1) _ (ints_at hy)
    obtain ⟨en, hen⟩ : ∃ en, en = Tr.endL t (k + 1) := ⟨_, rfl⟩
    obtain ⟨pr, hpr⟩ : ∃ pr, pr = Tr.parL t (y - 1) (k + 1) := ⟨_, rfl⟩
    simp only [← hen] at C0
    rw [← hen] at hE l1 l2 HRD HTD
    rw [hl] at l1
    rw [← hpr] at p1 p2 p3 g2 i1 i2 ⊢
    have HPR := Lib.hid hpr
    have HP1 := Lib.hid p1
    have HTT := Lib.hid p4
    have HRR := Lib.hid p5
    have HI1 := Lib.hid i1
    have HI2 : Hid ((Tr.turnF d (Tr.trunkL t (k + 1)) pr).length = n - (en - (k + 1))) := by rw [Hid, i2, l1]
    have HTL := Lib.hid l1
    have HRL := Lib.hid l2
    have HG2 := Lib.hid g2
    have HT := Lib.hid ht
    have HL := Lib.hid hl
    have hp3 : pr < n - (en - (k + 1)) := by rw [← l1]; exact p3
    have hen8 : en ≤ 8 := by omega
    have tk := beq_f (show ¬ ((k + 1 : Nat) : Int) = 0 by omega)
    obtain ⟨kk, hkk⟩ : ∃ kk, kk = k + 1 := ⟨_, rfl⟩
    have hkm : ((k + 1 : Nat) : Int) - 1 = (k : Int) := by omega
    simp only [← hkk] at C0
    rw [← hkk] at tk hkm hcy hE hk hpr HPR HRD HTD HTL HRL HTT HRR HI1 HI2 HG2 hp3 ⊢
    have hk1 : 1 ≤ kk := by omega
    have hk2 : k < kk := by omega
    have hk3 : kk ≤ k + 1 := by omega
    have HKK := Lib.hid hkk
    clear hkk
    clear hl ht hy hen hpr p1 p3 p4 p5 g1 g2 i1 i2 l1 l2 hyd HTF
    go_enter Try.func92, Try.ntmps92
    go_wp2_with fail
    go_loopw [5] (fun pv wr => ∃ (p m : Nat), p ≤ k ∧ pv = .int .i64 p ∧ wr = w.drewN m ∧ Hid (Tr.parL t (y - 1) (p + 1) = pr)) (fun pv _ => (intOf pv).toNat)
    case atStart => exact ⟨k, 0, Nat.le_refl _, by go_num, rfl, by rw [Hid, HPR.out, HKK.out]⟩
    case round =>
      obtain ⟨p, m, hp, rfl, rfl, HPP⟩ := hrel
      obtain ⟨x, hx⟩ := at_lt (show p < t.length by rw [HL.out]; omega)
      obtain ⟨x0, x8⟩ := lv_el HT.out hx
      obtain ⟨_, _, e1, _, hcx⟩ := h p _ (ints_at hx)
      cases e1
      have HST := Lib.hid (parL_step (x := y - 1) hx)
      have s0 : (0 : Int) ≤ (p : Int) := Int.natCast_nonneg _
      have s1 : (p : Int) < (n : Int) := by omega
      have s2 : (0 : Int) ≤ (kk : Int) := Int.natCast_nonneg _
      have s3 : (kk : Int) < (n : Int) := by omega
      have hy0 := hyb.1
      have hy8 := hyb.2
      have hw1 : IntKind.i64.wrap (y - 1) = y - 1 := IntWalk.i64_in _ (by omega)
      by_cases hxe : x = y - 1
      · have HPE : Hid (pr = p) := by rw [Hid, ← HPP.out, HST.out, if_pos hxe]
        have tx := beq_t hxe
        clear hx HST HPP
        go_wp2_with fail
        go_quiet (fail)
        go_wp2_with fail
        refine (C0 _ (below_drewN (Below.refl _ _) _)).mono ?_
        rintro e w1 ⟨rfl, m1, rfl⟩
        have hWz : Hid (Below w.heap.size w (w.drewN (m + nq + m1))) := below_drewN (Below.refl _ _) _
        go_wp2_with fail
        go_loopw [7, 8] (fun s i W => ∃ (j g cap : Nat), j ≤ en - kk ∧ s = .slice (some ⟨g, 0, none⟩) j cap ∧ i = .int .i64 ((kk + j : Nat) : Int) ∧ Growing w 2 g j cap (ints (((t.drop kk).take j).map (· - y))) W) (fun _ i _ => en - (intOf i).toNat)
        case atStart => exact ⟨0, _, 0, Nat.zero_le _, rfl, by go_num, ⟨(Growing.start (w.drewN (m + nq + m1)) 2).1, hWz.out.alloc (Nat.le_refl _) _⟩⟩
        case round =>
          obtain ⟨j, g, cap, hj, rfl, rfl, HGr⟩ := hrel
          have hsz := HGr.2.size
          by_cases hlt : kk + j < en
          · obtain ⟨x, hx⟩ := at_lt (show kk + j < t.length by rw [HL.out]; omega)
            obtain ⟨x0, x8⟩ := lv_el HT.out hx
            obtain ⟨_, _, e1, _, hcx⟩ := (Row.below h HGr.2 hB) (kk + j) _ (ints_at hx)
            cases e1
            have hcy2 : wr.cell? ⟨b, o + kk, none⟩ = some (.int .i64 y) := (HGr.2.cell (p := ⟨b, o + kk, none⟩) (by show b < w.heap.size; omega)).trans hcy
            have HXS := Lib.hid (branch_take (y := y) hx)
            have HG' := Lib.hid HGr
            have hown : wr.drew.ownsRow w.heap.size 2 1 (.slice (some ⟨g, 0, none⟩) j cap) j (ints (((t.drop kk).take j).map (· - y))) := ((OwnR.of HGr.1).keep (w' := wr.drew) fun _ _ _ => rfl).1
            have hcx' : wr.drew.cell? ⟨b, o + (kk + j), none⟩ = some (.int .i64 x) := hcx
            have hcy' : wr.drew.cell? ⟨b, o + kk, none⟩ = some (.int .i64 y) := hcy2
            have hwd : w.heap.size ≤ wr.drew.heap.size := hsz
            have hw2 : IntKind.i64.wrap (x - y) = x - y := IntWalk.i64_in _ (by omega)
            obtain ⟨q, hq⟩ : ∃ q, q = kk + j := ⟨_, rfl⟩
            have HQ := Lib.hid hq
            rw [← hq] at hcx' hlt ⊢
            have s5 : (0 : Int) ≤ (q : Int) := Int.natCast_nonneg _
            have s6 : (q : Int) < (n : Int) := by omega
            have s4 : (q : Int) < (en : Int) := by omega
            have HG : Hid (∀ (ob : Obj) (W2 : World) (g5 cap5 : Nat), W2.ownsRow w.heap.size 2 1 (.slice (some ⟨g5, 0, none⟩) (j + 1) cap5) (j + 1) (ints (((t.drop kk).take j).map (· - y)) ++ [.int .i64 (x - y)]) → (wr.drew.alloc ob).grownBy W2 (Value.ownBlock (.slice (some ⟨g, 0, none⟩) j cap)) → Growing w 2 g5 (j + 1) cap5 (ints (((t.drop kk).take (j + 1)).map (· - y))) W2) := fun ob W2 g5 cap5 hown5 hgrow5 => by
              rw [ints_snoc', ← HXS.out] at hown5
              exact HG'.out.step (show Below wr.heap.size wr (wr.drew.alloc ob) from (below_drew' (Below.refl _ _)).alloc (Nat.le_refl _) _) hown5 hgrow5
            clear hx HGr hq hcx hcy2
            go_wp2_with fail
            go_region_law (first | (go_loud (refine step_append_lies _ (by rfl) _ _ 24 (by rfl) w.heap.size 2 i0 _ 1 8 Try.underlying24 hi hz0 hz1 hz2 rfl (by omega) (.slice (some ⟨g, 0, none⟩) j cap) j (ints (((t.drop kk).take j).map (· - y))) rfl (hown.alloc _) ⟨wr.drew.heap.size, 0, none⟩ 1 1 [.int .i64 (x - y)] rfl rfl (World.news_of_block (cs := #[.int .i64 (x - y)]) (heap_alloc_new _ _)) (by simp [Value.oneCell']) (by omega) (by simp only [maxLen]; omega) (by omega) (by simp; omega) (wr.drew.heap.size + 1) (by simp) ?_); intro g4 cap4 w4 hown4 hgrow4 hat4 hlt4))
            all_goals
              have G := Lib.hid (HG.out _ _ _ _ hown4 hgrow4)
              clear hown4 hgrow4 hat4 hown
              go_wp2
              go_roundw
              case rel => exact ⟨j + 1, g4, cap4, by have := HQ.out; omega, rfl, by have := HQ.out; go_num, G.out⟩
              case measure => simp [intOf]; omega
          · have hje : j = en - kk := by omega
            have hke : kk + j = en := by omega
            rw [hje, ← HRD.out, ← hje] at HGr
            have HB1 := Lib.hid HGr.2
            have HO1 := Lib.hid HGr.1
            have hs1 := HGr.2.size
            have HROW := Lib.hid (Row.below h HGr.2 hB)
            have hkc : (kk : Int) ≤ (c : Int) := by omega
            have henc : (en : Int) ≤ (c : Int) := by omega
            have HTK : Hid ((t.take kk).length = kk) := by rw [Hid, List.length_take, HL.out]; omega
            have HDL : Hid ((ints (t.drop en)).length = (n - en) * 1) := by rw [Hid, ints_length, List.length_drop, HL.out]; omega
            have HON := Lib.hid (ints_cells (t.drop en))
            have HSUM : Hid (kk + (n - en) = n - (en - kk)) := by rw [Hid]; omega
            clear HGr C0
            rw [hke]
            clear hje hke
            have HLR : Hid ((Tr.branchL t kk).length = j) := by rw [Hid, ← ints_length, own_len HO1.out]
            have CO : ∀ W, Below wr.heap.size wr W → Calls Try.prog 83 #[.slice (some ⟨b, o, none⟩) kk c] W (fun e W' => ∃ A' c', e = .returned (.slice A' kk c') ∧ W'.ownsRow W.heap.size 2 1 (.slice A' kk c') kk (ints (t.take kk)) ∧ Below W.heap.size W W') := fun W hb =>
              l01Own_any ⟨b, o, none⟩ kk c B (t.take kk) W HTK.out (by omega) (by have := hb.size; omega) (by
                have := Row.takeA (Row.below HROW.out hb (by omega)) kk
                unfold ints intsK at *
                rwa [← List.map_take] at this)
            have BW : Below wr.heap.size wr wr.drew := below_drew' (Below.refl _ _)
            have HNW : Hid (∀ (AE : Addr), (if c = en then (some ⟨b, o, none⟩ : Option Addr) else some ⟨b, o + en, none⟩) = some AE → ∀ W, Below wr.heap.size wr W → ∀ q z, (ints (t.drop en))[q]? = some z → W.cell? (AE.add q) = some z) := fun AE hAE W hb q z hz => by
              by_cases hc2 : c = en
              · have h0 : (ints (t.drop en)).length = 0 := by rw [HDL.out]; omega
                rw [List.length_eq_zero_iff.1 h0] at hz; simp at hz
              · rw [if_neg hc2] at hAE
                injection hAE with hAE
                subst hAE
                have h9 := row_news (Row.dropA (k := en) (Row.below HROW.out hb (by omega)))
                unfold ints intsK at *
                rw [← List.map_drop] at h9
                exact h9 q z hz
            obtain ⟨AE, hAE⟩ : ∃ AE, (if c = en then (some ⟨b, o, none⟩ : Option Addr) else some ⟨b, o + en, none⟩) = some AE := by
              by_cases hc2 : c = en
              · exact ⟨_, if_pos hc2⟩
              · exact ⟨_, if_neg hc2⟩
            have HNX := Lib.hid (HNW.out AE hAE)
            clear HNW
            have hn' : n - en ≤ 8 := by omega
            have hpe := HPE.out
            subst hpe
            go_wp2_with fail
            refine wp_region_noPanic ?_
            refine wp_region_held_drew (S := (fun w' => True)) (by kernel_rfl) ?_ (fun hHeld => ?_)
            · trivial
            refine wpAnyH_take (i := 0) (oi := _) (v := ?_) rfl (by kernel_rfl) (by kernel_rfl) (by kernel_rfl) (fun _ _ _ h => h) (Or.inl ⟨by kernel_rfl, ?_⟩) (by assumption) ?_
            rotate_left
            · (intro w hSw; (try dsimp only at hSw); go_simp; try (with_reducible rfl))
            try simp only [Act.put, List.setIfInBounds_toArray, List.set_cons_zero, List.set_cons_succ, List.getElem_toArray, List.getElem_cons_zero, List.getElem_cons_succ]
            refine wpAnyH_take (i := 1) (oi := _) (v := ?_) rfl (by kernel_rfl) (by kernel_rfl) (by kernel_rfl) (fun _ _ _ h => h) (Or.inl ⟨by kernel_rfl, ?_⟩) (by assumption) ?_
            rotate_left
            · (intro w hSw; (try dsimp only at hSw); go_simp; try (with_reducible rfl))
            try simp only [Act.put, List.setIfInBounds_toArray, List.set_cons_zero, List.set_cons_succ, List.getElem_toArray, List.getElem_cons_zero, List.getElem_cons_succ]
            refine wpAnyH_take (i := 2) (oi := _) (v := ?_) rfl (by kernel_rfl) (by kernel_rfl) (by kernel_rfl) (fun _ _ _ h => h) (Or.inl ⟨by kernel_rfl, ?_⟩) (by assumption) ?_
            rotate_left
            · (intro w hSw; (try dsimp only at hSw); go_simp; try (with_reducible rfl))
            try simp only [Act.put, List.setIfInBounds_toArray, List.set_cons_zero, List.set_cons_succ, List.getElem_toArray, List.getElem_cons_zero, List.getElem_cons_succ]
            refine wpAnyH_take (i := 4) (oi := _) (v := ?_) rfl (by kernel_rfl) (by kernel_rfl) (by kernel_rfl) (fun _ _ _ h => h) (Or.inl ⟨by kernel_rfl, ?_⟩) (by assumption) ?_
            rotate_left
            · (intro w hSw; (try dsimp only at hSw); go_simp; try (with_reducible rfl))
            try simp only [Act.put, List.setIfInBounds_toArray, List.set_cons_zero, List.set_cons_succ, List.getElem_toArray, List.getElem_cons_zero, List.getElem_cons_succ]
            refine wpAnyH_take (i := 5) (oi := _) (v := ?_) rfl (by kernel_rfl) (by kernel_rfl) (by kernel_rfl) (fun _ _ _ h => h) (Or.inl ⟨by kernel_rfl, ?_⟩) (by assumption) ?_
            rotate_left
            · (intro w hSw; (try dsimp only at hSw); go_simp; try (with_reducible rfl))
            try simp only [Act.put, List.setIfInBounds_toArray, List.set_cons_zero, List.set_cons_succ, List.getElem_toArray, List.getElem_cons_zero, List.getElem_cons_succ]
            refine wpAnyH_take (i := 6) (oi := _) (v := ?_) rfl (by kernel_rfl) (by kernel_rfl) (by kernel_rfl) (fun _ _ _ h => h) (Or.inl ⟨by kernel_rfl, ?_⟩) (by assumption) ?_
            rotate_left
            · (intro w hSw; (try dsimp only at hSw); go_simp; try (with_reducible rfl))
            try simp only [Act.put, List.setIfInBounds_toArray, List.set_cons_zero, List.set_cons_succ, List.getElem_toArray, List.getElem_cons_zero, List.getElem_cons_succ]
            refine wpAnyH_ready (rs := [3]) (by kernel_rfl) (by simp) (AllReadyH.cons (o := _) rfl (fun K hK => ?_) AllReadyH.nil)
            go_simp
            (go_at_call 83; refine (CO _ BW).mono ?_; rintro e w2 ⟨A2, c2, rfl, own2', bel⟩)
            have own2 := OwnR.of own2'
            have lz2 := BW.size
            have zz2 := bel.size
            replace BW := BW.trans (bel.mono BW.size)
            clear own2' bel
            go_wp2_with fail
            refine hK.out _ _ ?_ (fun hHeld => ?_)
            · trivial
            clear hK K
            try simp only [Act.put, List.setIfInBounds_toArray, List.set_cons_zero, List.set_cons_succ, List.getElem_toArray, List.getElem_cons_zero, List.getElem_cons_succ]
            refine wpAnyH_ready (rs := [7]) (by kernel_rfl) (by simp) (AllReadyH.cons (o := _) rfl (fun K hK => ?_) AllReadyH.nil)
            refine step_append_own' (by rfl) _ _ 24 (by rfl) _ 2 i0 _ 1 8 Try.underlying24 hi hz0 hz1 hz2 rfl (by omega) (.slice A2 kk c2) kk (ints (t.take kk)) (by rfl) own2.1 AE (n - en) (c - en) (ints (t.drop en)) (by rfl) HDL.out (HNX.out _ BW) HON.out (by simp only [maxLen]; omega) (by omega) (by omega) ?_
            intro v3 w3 own3' hgrow3 _
            rw [HSUM.out] at own3'
            obtain ⟨A3, c3, rfl⟩ := own_shape' own3'
            rw [← ints_app, ← HTD.out] at own3'
            have own3 := Lib.hid (OwnR.of own3')
            have zz3 := hgrow3.size
            replace BW := BW.grown hgrow3 BW.size (fun z hz => by have := (own2.1.lt z hz).1; omega)
            clear own3' hgrow3 own2
            refine hK.out _ _ ?_ (fun hHeld => ?_)
            · trivial
            clear hK K
            try simp only [Act.put, List.setIfInBounds_toArray, List.set_cons_zero, List.set_cons_succ, List.getElem_toArray, List.getElem_cons_zero, List.getElem_cons_succ]
            refine wpAnyH_take (i := 8) (oi := _) (v := ?_) rfl (by kernel_rfl) (by kernel_rfl) (by kernel_rfl) (fun _ _ _ h => h) (Or.inl ⟨by kernel_rfl, ?_⟩) (by assumption) ?_
            rotate_left
            · (intro w hSw; (try dsimp only at hSw); go_simp; try (with_reducible rfl))
            try simp only [Act.put, List.setIfInBounds_toArray, List.set_cons_zero, List.set_cons_succ, List.getElem_toArray, List.getElem_cons_zero, List.getElem_cons_succ]
            refine wpAnyH_done (by kernel_rfl) ?_ _
            refine NoPanic.normal ?_
            have HB3 := Lib.hid (HB1.out.trans (BW.mono hs1))
            have HBW := Lib.hid BW
            have hs3 := HB3.out.size
            have hc3 := (own_cap own3.out.1).1
            clear BW CO
            have hj8 : j ≤ 8 := by omega
            go_wp2_with fail
            refine (IH A3 (n - (en - kk)) c3 w3.heap.size pr (Tr.trunkL t kk) w3 HTL.out HTT.out hp3 (by omega) hc3 (Nat.le_refl _) (row_of_own own3.out.1)).mono ?_
            rintro e w5 ⟨A5, c5, rfl, own5, bel5⟩
            have HB5 := Lib.hid (HB3.out.trans (bel5.mono hs3))
            have R5 := Lib.hid (row_of_own own5)
            have HRB : Hid (Row w5 w5.heap.size (some ⟨g, 0, none⟩) (ints (Tr.branchL t kk))) := (Row.below (Row.below (row_of_own HO1.out) HBW.out (Nat.le_refl _)) bel5 (by have := HBW.out.size; omega)).more (by have := HBW.out.size; have := bel5.size; omega)
            have hc1 := (own_cap HO1.out).1
            clear own5 bel5
            go_wp2_with fail
            refine (l04Graft_any (some ⟨g, 0, none⟩) A5 j (n - (en - kk)) cap c5 w5.heap.size w5.heap.size 0 (Tr.branchL t kk) (Tr.turnF d (Tr.trunkL t kk) pr) w5 HLR.out HI2.out hj8 (by omega) (by omega) hc1 HRR.out HI1.out HG2.out (Nat.le_refl _) (Nat.le_refl _) HRB.out R5.out).mono ?_
            rintro e w6 ⟨A6, c6, rfl, own6, bel6⟩
            have HS6 : Hid (j + (n - (en - kk)) = n) := by rw [Hid]; omega
            have hs5 := HB5.out.size
            rw [HS6.out] at own6 ⊢
            have G : Hid (NewRow 2 n (ints (Tr.can (Tr.gl (Tr.branchL t kk) 0 (Tr.turnF d (Tr.trunkL t kk) pr)))) w (.returned (.slice A6 n c6)) w6) := ⟨_, _, rfl, ((OwnR.of own6).more hs5 (Nat.le_refl _)).1, HB5.out.trans (bel6.mono hs5)⟩
            clear own6 bel6
            go_wp2
            go_ret
            exact G.out
      · have HPE : Hid (Tr.parL t (y - 1) p = pr) := by rw [Hid, ← HPP.out, HST.out, if_neg hxe]
        have hp1 : 1 ≤ p := by
          rcases Nat.eq_zero_or_pos p with z | z
          · exfalso
            subst z
            have e := HPE.out
            rw [Tr.parL] at e
            have := HP1.out
            rw [← e, List.getD_eq_getElem?_getD, hx] at this
            exact hxe this
          · exact z
        have tx := beq_f hxe
        clear hx HST HPP
        go_wp2_with fail
        go_quiet (fail)
        go_wp2
        go_roundw
        case rel => exact ⟨p - 1, _, by omega, by go_num, rfl, by rw [Hid, show p - 1 + 1 = p from by omega]; exact HPE.out⟩
        case measure => simp [intOf]; omega
theorem turnAt_all : ∀ d, TurnAt d
  | 0 => turnAt_zero
  | d+1 => turnAt_succ d (turnAt_all d)
end Go.Proofs.Ytfehjjaebdgjlaa
/-
  The model's list of all trees of a free tree.
-/
namespace Go.Proofs.Ytfehjjaebdgjlaa
open Go.RowKit Fld
set_option linter.unusedVariables false
set_option linter.unusedSimpArgs false
set_option maxRecDepth 100000

def rootsL (t : List Int) : Sum := Tr.sumTo (Tr.turnF 9 t) t.length
theorem rootsTo_bd {t : List Int} (h : Tr.isLv t = true) {k : Nat} (hk : k ≤ t.length) : ∀ e ∈ Tr.sumTo (Tr.turnF 9 t) k, e.1.length ≤ 8 ∧ -1000000 ≤ e.2 ∧ e.2 ≤ 1000000 := fun e he => by
  obtain ⟨j, hj, q⟩ := Tr.sumTo_mem he
  have h1 := Tr.sumTo_le _ _ he
  have h8 := (lv_bd h).2
  have h2 := (turn_lv 9 t j h (by omega) (by omega)).2
  rw [← q] at h2
  omega
set_option maxHeartbeats 2000000 in
theorem l04Roots_any (A : Option Addr) (n c B : Nat) (t : List Int) (w : World) (hl : t.length = n) (ht : Tr.isLv t = true) (hc : n ≤ c) (hB : B ≤ w.heap.size) (h : Row w B A (ints t)) :
    Calls Try.prog 66 #[.slice A n c] w (NewSum (rootsL t).length (rootsL t) w) := by
  have h8 := (lv_bd ht).2
  rw [hl] at h8
  have HBD : Hid (∀ k, k ≤ n → ∀ e ∈ Tr.sumTo (Tr.turnF 9 t) k, e.1.length ≤ 8 ∧ -1000000 ≤ e.2 ∧ e.2 ≤ 1000000) := fun k hk => rootsTo_bd ht (by omega)
  have HTL : Hid (∀ k, k < n → (Tr.turnF 9 t k).length = n) := fun k hk => by rw [(turn_lv 9 t k ht (by omega) (by omega)).2, hl]
  have HRT : Hid (rootsL t = Tr.sumTo (Tr.turnF 9 t) n) := by unfold rootsL; rw [hl]; rfl
  have HL := Lib.hid hl
  have HLV := Lib.hid ht
  clear hl ht
  go_enter Try.func66, Try.ntmps66
  go_wp2_with fail
  go_loopw [3, 4] (fun v i wr => ∃ (k q cap : Nat) (A' : Option Addr), k ≤ n ∧ v = .slice A' q cap ∧ i = .int .i64 k ∧ Hid ((Tr.sumTo (Tr.turnF 9 t) k).length = q) ∧ Hid (Sms wr A' (Tr.sumTo (Tr.turnF 9 t) k)) ∧ Hid (Below w.heap.size w wr) ∧ q ≤ cap ∧ cap ≤ maxLen) (fun _ i _ => n - (intOf i).toNat)
  case atStart => exact ⟨0, 0, 0, some ⟨w.heap.size, 0, none⟩, Nat.zero_le _, rfl, rfl, rfl, Sms.nil _ _, (Below.refl _ _).alloc (Nat.le_refl _) _, Nat.le_refl _, Nat.zero_le _⟩
  case round =>
    obtain ⟨k, q, cap, A', hk, rfl, rfl, HQ, HS, HB, hqc, hcm⟩ := hrel
    have hsz := HB.out.size
    have hq8 : q ≤ 8 := by have := Tr.sumTo_length (Tr.turnF 9 t) k; rw [HQ.out] at this; omega
    by_cases hlt : k < n
    · have CT := turnAt_all 9 A n c B k t wr HL.out HLV.out hlt (by omega) hc (by omega) (h.below HB.out hB)
      obtain ⟨T, hT⟩ : ∃ T, T = Tr.turnF 9 t k := ⟨_, rfl⟩
      have HST : Hid (Tr.sumTo (Tr.turnF 9 t) (k + 1) = Tr.putL (Tr.sumTo (Tr.turnF 9 t) k) T 1) := by rw [hT]; rfl
      have HTn : Hid (T.length = n) := by rw [hT]; exact HTL.out k hlt
      rw [← hT] at CT
      clear hT
      go_wp2_with fail
      refine CT.mono ?_
      rintro e w1 ⟨A1, c1, rfl, own1, bel1⟩
      have hs1 : wr.heap.size ≤ w1.heap.size := bel1.size
      have HS1 := HS.out.next bel1
      have HB1 := Lib.hid (HB.out.trans (bel1.mono hsz))
      have C1 := l04Put_any A' A1 q cap n c1 _ T 1 w1 HQ.out (by omega) (HBD.out k hk) (by omega) HTn.out (by omega) h8 HS1 (row_of_own own1)
      rw [← HST.out] at C1
      clear bel1 own1 HS1 CT
      go_wp2_with fail
      refine C1.mono ?_
      rintro e w2 ⟨A2, c2, rfl, hc2, hcm2, HS2, bel2⟩
      have HB2 := Lib.hid (HB1.out.trans (bel2.mono HB1.out.size))
      have HS2' := Lib.hid HS2
      obtain ⟨q2, hq2⟩ : ∃ q2, q2 = (Tr.sumTo (Tr.turnF 9 t) (k + 1)).length := ⟨_, rfl⟩
      rw [← hq2] at hc2 ⊢
      have HQ2 := Lib.hid hq2.symm
      clear bel2 HS2 C1 hq2
      go_wp2
      go_roundw
      case rel => exact ⟨k + 1, q2, c2, A2, by omega, rfl, by go_num, HQ2, HS2', HB2, hc2, hcm2⟩
      case measure => simp [intOf]; omega
    · have hkn : k = n := by omega
      have G : Hid (NewSum (rootsL t).length (rootsL t) w (.returned (.slice A' q cap)) wr) := by
        rw [Hid, HRT.out, ← hkn, HQ.out]
        exact ⟨A', cap, rfl, hqc, hcm, HS.out, HB.out⟩
      clear hkn
      go_wp2
      go_ret
      exact G.out
end Go.Proofs.Ytfehjjaebdgjlaa
