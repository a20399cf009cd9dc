/-
  Texts of this seat, joined: what several laws lean on.
-/
import Derived.Test.YtnnihdkhblbdgaaLvl
import Derived.Test.YtnnihdkhblbdgaaTreeD
import Derived.Outline
import Derived.Laws.DeepStrings4
import Derived.Test.YtnnihdkhblbdgaaTreeE
import Derived.Laws.Strings2
import Derived.Lib.SliceRun
import Derived.Deep.RegionLaw
import Derived.Shelf.RegionOpenPlain
import Derived.Test.YtnnihdkhblbdgaaCmp
import Derived.Test.YtnnihdkhblbdgaaGrfP
import Derived.Test.YtnnihdkhblbdgaaTxt
import Derived.Test.YtnnihdkhblbdgaaCan
import Derived.Laws.AppendOwnNone
import Derived.Test.YtnnihdkhblbdgaaSrt
import Derived.Test.YtnnihdkhblbdgaaGrfS
import Derived.Test.YtnnihdkhblbdgaaSCan
import Derived.Test.YtnnihdkhblbdgaaTurnP
import Derived.Test.YtnnihdkhblbdgaaSumP
import Derived.Test.YtnnihdkhblbdgaaParts
import Derived.Test.YtnnihdkhblbdgaaOwn1
import Derived.Test.YtnnihdkhblbdgaaCutP
import Derived.Deep.RegionHeld3
import Derived.BigQuiet
import Derived.Test.YtnnihdkhblbdgaaPutS
import Derived.Test.YtnnihdkhblbdgaaRes1
import Derived.Test.YtnnihdkhblbdgaaCmpX
import Derived.Test.YtnnihdkhblbdgaaTreeX
import Derived.Test.YtnnihdkhblbdgaaTurP
import Derived.Test.YtnnihdkhblbdgaaSame
import Derived.Test.YtnnihdkhblbdgaaTreeOf
import Derived.Test.YtnnihdkhblbdgaaLev
import Derived.Test.YtnnihdkhblbdgaaNestc
import Derived.Test.YtnnihdkhblbdgaaTreeN
import Derived.Test.YtnnihdkhblbdgaaPush
import Derived.Test.YtnnihdkhblbdgaaMarks
import Derived.Test.YtnnihdkhblbdgaaBase
import Derived.BigRegion
/-
  A text is split into those of trees.
-/
namespace Go.Proofs.Ytnnihdkhblbdgaa
open Go.RowKit Fld
set_option linter.unusedVariables false
set_option linter.unusedSimpArgs false
set_option maxRecDepth 100000

theorem extract_S (s : List UInt8) (a b : Nat) : (⟨s.toArray⟩ : ByteArray).extract a b = ⟨((s.drop a).take (b - a)).toArray⟩ := by
  apply ByteArray.ext
  simp [ByteArray.data_extract]
theorem tr_open {cur : List UInt8} {o : Nat} {acc : List (List UInt8)} {s : List UInt8} {p : Nat} (h : s[p]? = some 91) : Tr.trF cur o acc (s.drop p) = Tr.trF (cur ++ [91]) (o + 1) acc (s.drop (p + 1)) := by
  have hlt : p < s.length := by
    rcases Nat.lt_or_ge p s.length with g | g
    · exact g
    · rw [List.getElem?_eq_none g] at h; cases h
  rw [List.getElem?_eq_getElem hlt] at h
  injection h with h
  rw [List.drop_eq_getElem_cons hlt, h, Tr.trF, if_pos rfl]
theorem tr_close {cur : List UInt8} {o : Nat} {acc : List (List UInt8)} {s : List UInt8} {p : Nat} (h : s[p]? = some 93) : Tr.trF cur o acc (s.drop p) = if o = 0 then ([], false) else if o = 1 then Tr.trF [] 0 (acc ++ [cur ++ [93]]) (s.drop (p + 1)) else Tr.trF (cur ++ [93]) (o - 1) acc (s.drop (p + 1)) := by
  have hlt : p < s.length := by
    rcases Nat.lt_or_ge p s.length with g | g
    · exact g
    · rw [List.getElem?_eq_none g] at h; cases h
  rw [List.getElem?_eq_getElem hlt] at h
  injection h with h
  rw [List.drop_eq_getElem_cons hlt, h, Tr.trF, if_neg (by decide), if_pos rfl]
theorem tr_other {cur : List UInt8} {o : Nat} {acc : List (List UInt8)} {s : List UInt8} {p : Nat} {c : UInt8} (h : s[p]? = some c) (h1 : c ≠ 91) (h2 : c ≠ 93) : Tr.trF cur o acc (s.drop p) = ([], false) := by
  have hlt : p < s.length := by
    rcases Nat.lt_or_ge p s.length with g | g
    · exact g
    · rw [List.getElem?_eq_none g] at h; cases h
  rw [List.getElem?_eq_getElem hlt] at h
  injection h with h
  rw [List.drop_eq_getElem_cons hlt, h, Tr.trF, if_neg h1, if_neg h2]
theorem cut_step {s : List UInt8} {a p : Nat} {c : UInt8} (h : s[p]? = some c) (ha : a ≤ p) : (s.drop a).take (p + 1 - a) = (s.drop a).take (p - a) ++ [c] := by
  rw [show p + 1 - a = p - a + 1 from by omega, List.take_add_one, List.getElem?_drop, show a + (p - a) = p from by omega, h]; rfl
/-- the texts of trees, and whether there are no others -/
def ResT (r : List (List UInt8) × Bool) (w : World) (e : Ending) (w' : World) : Prop :=
  ∃ A q c, e = .returned (.tuple #[.slice A q c, .bool r.2]) ∧ w'.ownsRow w.heap.size 73 1 (.slice A q c) q (strs r.1) ∧ Below w.heap.size w w'
theorem ResT.none {r : List (List UInt8) × Bool} {w w' : World} (h : r = ([], false)) (hb : Below w.heap.size w w') : ResT r w (.returned (.tuple #[.slice none 0 0, .bool false])) w' := by
  subst h; exact ⟨_, _, _, rfl, World.ownsRow_nil .., hb⟩
set_option maxHeartbeats 2000000 in
theorem treesIn_any (s : List UInt8) (w : World) (hn : s.length ≤ 1048576) :
    Calls Try.prog 128 #[.string ⟨s.toArray⟩] w (ResT (Tr.trF [] 0 [] s) w) := by
  obtain ⟨i0, hi, hz0, hz1, hz2⟩ := info_parts info_tree
  have HN := Lib.hid hn
  obtain ⟨S, hS⟩ : ∃ S : ByteArray, S = ⟨s.toArray⟩ := ⟨_, rfl⟩
  have HSZ : Hid (S.size = s.length) := by rw [Hid, hS]; exact size_S s
  have HS := Lib.hid hS
  rw [← hS]
  have hs20 : S.size ≤ 1048576 := by rw [HSZ.out]; exact hn
  clear hS hn
  go_enter Try.func128, Try.ntmps128
  go_wp2_with fail
  go_loopw [4, 5, 6] (fun v a o wr => ∃ (p st op q cv : Nat) (Av : Option Addr) (acc : List (List UInt8)), p ≤ S.size ∧ st ≤ p ∧ op ≤ p ∧ q ≤ p ∧ v = .slice Av q cv ∧ a = .int .i64 st ∧ o = .int .i64 op ∧ wr.heap[w.heap.size]? = some (.stringIter S p) ∧ Hid (Tr.trF [] 0 [] s = Tr.trF ((s.drop st).take (p - st)) op acc (s.drop p)) ∧ Hid (wr.ownsRow w.heap.size 73 1 (.slice Av q cv) q (strs acc)) ∧ Below w.heap.size w wr) (fun _ _ _ wr => S.size - wr.iterPos w.heap.size)
  case atStart => exact ⟨0, 0, 0, 0, 0, none, [], Nat.zero_le _, Nat.le_refl _, Nat.le_refl _, Nat.le_refl _, rfl, rfl, rfl, World.iter_heap w S 0, by simp [Hid], World.ownsRow_nil .., (Below.refl _ _).alloc (Nat.le_refl _) _⟩
  case round =>
    obtain ⟨p, st, op, q, cv, Av, acc, hp, hst, hop, hq, rfl, rfl, rfl, hit, HE, HO, HBw⟩ := hrel
    have hlt := (Array.getElem?_eq_some_iff.1 hit).1
    by_cases hps : p < S.size
    · obtain ⟨c, hc⟩ := at_lt (show p < s.length by rw [← HSZ.out]; exact hps)
      have hbyte : S[p]'hps = c := by
        have hS := HS.out
        subst hS
        exact byte_at hc hps
      have HIT := Lib.hid hit
      by_cases hasc : c.toNat < 128
      · have hnx : ∀ ty, (Instr.next (.pointer (some ⟨w.heap.size, 0, none⟩)) true ty).run Try.prog wr = _ := fun ty => Lib.run_next_ascii_at wr w.heap.size S p ty hit hps (by rw [hbyte]; exact hasc)
        rw [hbyte] at hnx
        have hit2 := Lib.iterAt_heap wr w.heap.size S p (p + 1) hit
        have HO2 := Lib.hid (own_iterAt (p' := p + 1) HO.out hit)
        have HB2 := Lib.hid (Lib.below_iterAt HBw (k := w.heap.size) (Nat.le_refl _) S (p + 1))
        have hsz2 : (wr.iterAt w.heap.size S (p + 1)).heap.size = wr.heap.size := Lib.iterAt_size ..
        have hW1 : w.heap.size < (wr.iterAt w.heap.size S (p + 1)).heap.size := by rw [hsz2]; exact hlt
        by_cases h91 : c = 91
        · subst h91
          have e91 : ((91 : UInt8).toNat : Int) = 91 := rfl
          rw [e91] at hnx
          have HE2 : Hid (Tr.trF [] 0 [] s = Tr.trF ((s.drop st).take (p + 1 - st)) (op + 1) acc (s.drop (p + 1))) := by rw [Hid, HE.out, tr_open hc, cut_step hc hst]
          generalize hW : wr.iterAt w.heap.size S (p + 1) = W at *
          have HH2 := Lib.hid hit2
          have t0 : ((op : Int) + 1 == 0) = false := beq_f (by omega)
          clear hc hbyte hasc HE HBw HO hit hW hit2 hsz2
          go_wp2
          go_roundw
          case rel => exact ⟨p + 1, st, op + 1, q, cv, Av, acc, by omega, by omega, by omega, by omega, rfl, rfl, by go_num, HH2.out, HE2, HO2, HB2.out⟩
          case measure =>
            simp only [World.iterPos, HH2.out, HIT.out]
            omega
        · by_cases h93 : c = 93
          · subst h93
            have e93 : ((93 : UInt8).toNat : Int) = 93 := rfl
            rw [e93] at hnx
            have HTC := Lib.hid (HE.out.trans (tr_close hc))
            have HCUT : Hid ((s.drop st).take (p + 1 - st) = (s.drop st).take (p - st) ++ [93]) := cut_step hc hst
            generalize hW : wr.iterAt w.heap.size S (p + 1) = W at *
            have HH2 := Lib.hid hit2
            clear hc hbyte hasc HE HBw HO hit hW hit2 hsz2
            rcases (show op = 0 ∨ op = 1 ∨ 2 ≤ op by omega) with rfl | rfl | h2
            · have G : Hid (Tr.trF [] 0 [] s = ([], false)) := by rw [Hid, HTC.out, if_pos rfl]
              clear HTC
              go_wp2
              go_ret2
              exact ResT.none G.out HB2.out
            · have HE2 : Hid (Tr.trF [] 0 [] s = Tr.trF ((s.drop (p + 1)).take (p + 1 - (p + 1))) 0 (acc ++ [(s.drop st).take (p + 1 - st)]) (s.drop (p + 1))) := by
                rw [Hid, HTC.out, if_neg (by decide), if_pos rfl, Nat.sub_self, List.take_zero, HCUT.out]
              have HX : Hid (S.extract st (p + 1) = ⟨((s.drop st).take (p + 1 - st)).toArray⟩) := by rw [Hid, HS.out]; exact extract_S s st (p + 1)
              obtain ⟨X, hX⟩ : ∃ X, X = S.extract st (p + 1) := ⟨_, rfl⟩
              have HXX : Hid (S.extract st (p + 1) = X) := hX.symm
              have hown2 := HO2.out
              have hp1 : p + 1 ≤ S.size := hps
              clear HTC
              have hsl : ∀ W, (Instr.slice 9 (.string S) (some (.int .i64 (st : Int))) (some (.int .i64 ((p : Int) + 1))) none).run Try.prog W = .ok (.string X) W := fun W => by
                rw [run_slice_string W 9 S .i64 .i64 st ((p : Int) + 1) Try.underlying9 (by omega) (by omega) (by omega)]
                rw [← HXX.out]
                congr 3
              clear hX
              go_wp2_with (at_builtin; (refine wpList_append_lies _ rfl (.tmp 28) (.tmp 34) 91 rfl w.heap.size 73 i0 _ 1 16 Try.underlying91 hi hz0 hz1 hz2 rfl (by omega) (.slice Av q cv) q (strs acc) rfl (hown2.alloc _) ⟨W.heap.size, 0, none⟩ 1 1 [.string X] rfl rfl (World.news_of_block (cs := #[.string X]) (heap_alloc_new _ _)) (by simp [Value.oneCell']) (by omega) (by simp only [maxLen]; omega) (by omega) (by simp; omega) (W.heap.size + 1) (by simp) ?_); intro g2 cap2 w3 hown3 hgrow3 hat3 hlt3)
              have e1 : strs acc ++ [Value.string X] = strs (acc ++ [(s.drop st).take (p + 1 - st)]) := by rw [← HXX.out, HX.out]; simp [strs]
              rw [e1] at hown3
              have GI : Hid (w3.heap[w.heap.size]? = some (.stringIter S (p + 1))) := by
                rw [Hid, hgrow3.block _ (by simp; omega) (own_ne_iter HO2.out HH2.out), Lib.alloc_old _ _ _ hW1]
                exact HH2.out
              have G3 := Lib.hid hown3
              have GB3 : Hid (Below w.heap.size w w3) := (HB2.out.alloc (by omega) _).grown hgrow3 (by simp; omega) (fun z hz => (HO2.out.lt z hz).1)
              clear hown3 hgrow3 hat3 hown2 e1 hsl
              go_wp2
              go_roundw
              case rel => exact ⟨p + 1, p + 1, 0, q + 1, cap2, _, _, by omega, by omega, by omega, by omega, rfl, by go_num, rfl, GI.out, HE2, G3, GB3.out⟩
              case measure =>
                simp only [World.iterPos, GI.out, HIT.out]
                omega
            · have HE2 : Hid (Tr.trF [] 0 [] s = Tr.trF ((s.drop st).take (p + 1 - st)) (op - 1) acc (s.drop (p + 1))) := by
                rw [Hid, HTC.out, if_neg (by omega), if_neg (by omega), HCUT.out]
              have t0 : ((op : Int) - 1 == 0) = false := beq_f (by omega)
              clear HTC
              go_wp2
              go_roundw
              case rel => exact ⟨p + 1, st, op - 1, q, cv, Av, acc, by omega, by omega, by omega, by omega, rfl, rfl, by go_num, HH2.out, HE2, HO2, HB2.out⟩
              case measure =>
                simp only [World.iterPos, HH2.out, HIT.out]
                omega
          · have G : Hid (Tr.trF [] 0 [] s = ([], false)) := by rw [Hid, HE.out]; exact tr_other hc h91 h93
            have t1 : ((c.toNat : Int) == 91) = false := beq_f (fun e => h91 (UInt8.toNat_inj.1 (by simp; omega)))
            have t2 : ((c.toNat : Int) == 93) = false := beq_f (fun e => h93 (UInt8.toNat_inj.1 (by simp; omega)))
            generalize hW : wr.iterAt w.heap.size S (p + 1) = W at *
            clear hc hbyte hasc HE HBw HO hit hW hit2 hsz2 h91 h93
            go_wp2
            go_ret2
            exact ResT.none G.out HB2.out
      · have hd := decode_high S p hps (by rw [hbyte]; omega)
        have hnx : ∀ ty, (Instr.next (.pointer (some ⟨w.heap.size, 0, none⟩)) true ty).run Try.prog wr = _ := fun ty => Lib.run_next_any_at wr w.heap.size S p ty hit hps
        have h91 : c ≠ 91 := fun e => by subst e; exact hasc (by decide)
        have h93 : c ≠ 93 := fun e => by subst e; exact hasc (by decide)
        have G : Hid (Tr.trF [] 0 [] s = ([], false)) := by rw [Hid, HE.out]; exact tr_other hc h91 h93
        have HB2 := Lib.hid (Lib.below_iterAt HBw (k := w.heap.size) (Nat.le_refl _) S (p + (Utf8.decode S p).2))
        generalize hW : wr.iterAt w.heap.size S (p + (Utf8.decode S p).2) = W at *
        obtain ⟨rn, hrn⟩ : ∃ rn, rn = (Utf8.decode S p).1 := ⟨_, rfl⟩
        rw [← hrn] at hnx hd
        have t1 : ((rn : Int) == 91) = false := beq_f (by have := hd.1; omega)
        have t2 : ((rn : Int) == 93) = false := beq_f (by have := hd.1; omega)
        clear hc hbyte hasc HE HBw HO hit hW h91 h93 hrn hd
        go_wp2
        go_ret2
        exact ResT.none G.out HB2.out
    · have hnx : ∀ ty, (Instr.next (.pointer (some ⟨w.heap.size, 0, none⟩)) true ty).run Try.prog wr = _ := fun ty => Lib.run_next_end_at wr w.heap.size S p ty hit hps
      have e : Tr.trF [] 0 [] s = (acc, op == 0) := by
        have hl : s.length ≤ p := by have := HSZ.out; unfold Hid at this; omega
        have := HE.out
        rw [List.drop_of_length_le hl] at this
        rw [this]
        simp [Tr.trF]
      have G : Hid (ResT (Tr.trF [] 0 [] s) w (.returned (.tuple #[.slice Av q cv, .bool (op == 0)])) wr) := by
        rw [Hid, e]; exact ⟨Av, q, cv, rfl, HO.out, HBw⟩
      by_cases h0 : op = 0
      · subst h0
        clear HBw HE e hit
        go_wp2
        go_ret2
        exact G.out
      · have t0 : ((op : Int) == 0) = false := beq_f (by omega)
        have t1 : (op == 0) = false := by simp [h0]
        rw [t1] at G
        clear HBw HE e hit h0 t1
        go_wp2
        go_ret2
        exact G.out
end Go.Proofs.Ytnnihdkhblbdgaa
/-
  The branches of a tree by its text.
-/
namespace Go.Proofs.Ytnnihdkhblbdgaa
open Go.RowKit Fld
set_option linter.unusedVariables false
set_option linter.unusedSimpArgs false
set_option maxRecDepth 100000

/-- texts of the call's own -/
def ResTs (l : List (List UInt8)) (w : World) (e : Ending) (w' : World) : Prop :=
  ∃ A q c, e = .returned (.slice A q c) ∧ q = l.length ∧ w'.ownsRow w.heap.size 73 1 (.slice A q c) q (strs l) ∧ Below w.heap.size w w'
theorem branches_any (x : List UInt8) (w : World) (hx : Tr.isTx x = true) :
    Calls Try.prog 110 #[.string ⟨x.toArray⟩] w (ResTs (Tr.brT x) w) := by
  obtain ⟨⟨h2, h16⟩, _, _⟩ := Tr.br_parts hx
  obtain ⟨S, hS⟩ : ∃ S : ByteArray, S = ⟨x.toArray⟩ := ⟨_, rfl⟩
  have hsz : S.size = x.length := by rw [hS]; exact size_S x
  have HX : Hid (S.extract 1 (x.length - 1) = ⟨(Tr.inner x).toArray⟩) := by
    rw [Hid, hS, extract_S]; unfold Tr.inner; rw [show x.length - 1 - 1 = x.length - 2 from by omega]
  obtain ⟨X, hX⟩ : ∃ X, X = S.extract 1 (x.length - 1) := ⟨_, rfl⟩
  have hXX : X = ⟨(Tr.inner x).toArray⟩ := by rw [hX]; exact HX.out
  have HXX : Hid (S.extract 1 (x.length - 1) = X) := hX.symm
  have hil : (Tr.inner x).length ≤ 1048576 := by unfold Tr.inner; rw [List.length_take]; omega
  have C0 := treesIn_any (Tr.inner x) w hil
  rw [← hXX] at C0
  have hsl : ∀ W, (Instr.slice 73 (.string S) (some (.int .i64 1)) (some (.int .i64 ((S.size : Int) - 1))) none).run Try.prog W = .ok (.string X) W := fun W => by
    have h9 := run_slice_string W 73 S .i64 .i64 1 ((S.size : Int) - 1) Try.underlying73 (by omega) (by omega) (by omega)
    rw [show (S.size : Int) - 1 = ((x.length - 1 : Nat) : Int) from by omega] at h9 ⊢
    rw [h9, ← HXX.out]
    congr 3
  rw [← hS]
  have hs2 : 2 ≤ S.size := by omega
  have hs16 : S.size ≤ 16 := by omega
  clear hX hXX hS hsz h2 h16 hil hx
  go_enter Try.func110, Try.ntmps110
  go_wp2_with fail
  refine C0.mono ?_
  rintro e w1 ⟨A, q, c, rfl, own1, bel1⟩
  have G : Hid (ResTs (Tr.brT x) w (.returned (.slice A q c)) w1) := by
    refine ⟨A, q, c, rfl, ?_, own1, bel1⟩
    have := own_len own1
    rw [strs_length] at this
    exact this.symm
  clear own1 bel1
  go_wp2
  go_ret
  exact G.out
end Go.Proofs.Ytnnihdkhblbdgaa
/-
  A text is taken out of a row of the call's own.
-/
namespace Go.Proofs.Ytnnihdkhblbdgaa
open Go.RowKit Fld
set_option linter.unusedVariables false
set_option linter.unusedSimpArgs false
set_option maxRecDepth 100000

theorem own_prefix {w : World} {base g n k cap : Nat} {T : TypeId} {xs : List Value} (h : w.ownsRow base T 1 (.slice (some ⟨g, 0, none⟩) n cap) n xs) (hk : k ≤ n) : w.ownsRow base T 1 (.slice (some ⟨g, 0, none⟩) k cap) k (xs.take k) := by
  obtain ⟨hl, h⟩ := h
  refine ⟨by rw [List.length_take, hl]; omega, ?_⟩
  rcases h with ⟨e, _⟩ | ⟨g', cap', cur, e, hb, hh, h1, h2, h3, h4⟩
  · cases e
  · cases e
    refine .inr ⟨g, cap, cur, rfl, hb, hh, by omega, h2, h3, ?_⟩
    rw [← h4, List.take_take]
    congr 1; omega
def putL : List Value → Nat → List Value → List Value
  | xs, _, [] => xs
  | xs, o, v :: r => putL (xs.set o v) (o + 1) r
theorem own_sets {base g n cap : Nat} {T : TypeId} : ∀ (vs : List Value) (o : Nat) (w : World) (xs : List Value), w.ownsRow base T 1 (.slice (some ⟨g, 0, none⟩) n cap) n xs → (w.setCells g o vs).ownsRow base T 1 (.slice (some ⟨g, 0, none⟩) n cap) n (putL xs o vs)
  | [], _, _, _, h => h
  | v :: r, o, w, xs, h => own_sets r (o + 1) _ _ (h.stored o v).1
theorem below_sets {B g : Nat} (hg : B ≤ g) {a : World} : ∀ (vs : List Value) (o : Nat) (w : World), Below B a w → Below B a (w.setCells g o vs)
  | [], _, _, h => h
  | v :: r, o, w, h => below_sets hg r (o + 1) _ (below_set h hg v)
theorem putL_eq : ∀ (vs : List Value) (xs : List Value) (o : Nat), o + vs.length ≤ xs.length → putL xs o vs = xs.take o ++ vs ++ xs.drop (o + vs.length)
  | [], xs, o, _ => by simp [putL]
  | v :: r, xs, o, h => by
    rw [List.length_cons] at h
    rw [putL, putL_eq r _ _ (by rw [List.length_set]; omega)]
    apply List.ext_getElem?
    intro k
    rw [List.length_cons]
    simp only [List.getElem?_append, List.length_append, List.length_take, List.length_set, List.getElem?_take, List.getElem?_drop, List.getElem?_set, List.length_cons]
    rw [Nat.min_eq_left (by omega), Nat.min_eq_left (by omega)]
    rcases Nat.lt_trichotomy k o with g | g | g
    · rw [if_pos (show k < o + 1 + r.length by omega), if_pos (show k < o + 1 by omega), if_pos (show k < o + 1 by omega), if_neg (by omega), if_pos (show k < o + (r.length + 1) by omega), if_pos g, if_pos g]
    · subst g
      rw [if_pos (show k < k + 1 + r.length by omega), if_pos (show k < k + 1 by omega), if_pos (show k < k + 1 by omega), if_pos rfl, if_pos (show k < xs.length by omega), if_pos (show k < k + (r.length + 1) by omega), if_neg (by omega), Nat.sub_self]; rfl
    · by_cases g2 : k < o + 1 + r.length
      · rw [if_pos g2, if_neg (by omega), if_pos (show k < o + (r.length + 1) by omega), if_neg (by omega), show k - o = (k - (o + 1)) + 1 from by omega, List.getElem?_cons_succ]
      · rw [if_neg g2, if_neg (show ¬ k < o + (r.length + 1) by omega), if_neg (by omega), show o + 1 + r.length + (k - (o + 1 + r.length)) = o + (r.length + 1) + (k - (o + (r.length + 1))) from by omega]
/-- what is left when one is taken out -/
theorem del_list (ss : List (List UInt8)) {i n : Nat} (hl : ss.length = n) (hi : i < n) (e : Value) : (putL (putL (strs ss) i (strs (ss.drop (i + 1)))) (n - 1) [e]).take (n - 1) = strs (ss.eraseIdx i) := by
  have h0 : (strs ss).length = n := by rw [strs_length, hl]
  have h1 : (strs (ss.drop (i + 1))).length = n - (i + 1) := by rw [strs_length, List.length_drop, hl]
  have e1 := putL_eq (strs (ss.drop (i + 1))) (strs ss) i (by omega)
  have h2 : (putL (strs ss) i (strs (ss.drop (i + 1)))).length = n := by
    rw [e1]; simp only [List.length_append, List.length_take, List.length_drop]; omega
  rw [putL_eq _ _ _ (by rw [h2]; simp; omega)]
  rw [List.append_assoc, List.take_append_of_le_length (by rw [List.length_take, h2]; omega), List.take_take, Nat.min_self, e1]
  rw [List.take_append_of_le_length (by simp only [List.length_append, List.length_take]; omega), List.take_of_length_le (by simp only [List.length_append, List.length_take]; omega)]
  rw [List.eraseIdx_eq_take_drop_succ]
  unfold strs
  rw [List.map_append, List.map_take]
set_option maxHeartbeats 4000000 in
theorem delete_raw (g off i j n c : Nat) (news : List Value) (A : Addr) (w W1 : World) (hij : i < j) (hjn : j ≤ n) (hnc : n ≤ c) (hc : c ≤ 9223372036854775807)
    (hA : (if c = j then (some ⟨g, off, none⟩ : Option Addr) else some ⟨g, off + j, none⟩) = some A) (hsrc : Hid (∀ t u, news[t]? = some u → w.drew.cell? (A.add t) = some u))
    (s1 : Hid (news.length = (n - j) * 1)) (s2 : Hid (∀ u ∈ news, u.oneCell' = true)) (s3 : Hid (∀ t, t < news.length → (w.drew.cell? ⟨g, off + i * 1 + t, none⟩).isSome = true ∧ w.drew.frozen? ⟨g, off + i * 1 + t, none⟩ = false))
    (hW : Hid (W1 = w.drew.setCells g (off + i * 1) news))
    (hcl : ∀ ty, (Builtin.clear_ #[91] ty #[.slice (some ⟨g, off + (i + (n - j)), none⟩) (n - (i + (n - j))) (c - (i + (n - j)))]).run Try.prog W1 = .ok (.tuple #[]) (W1.setCells g (off + (i + (n - j))) (List.replicate (n - (i + (n - j))) (.string ⟨#[]⟩)))) :
    Calls Try.prog 152 #[.slice (some ⟨g, off, none⟩) n c, .int .i64 i, .int .i64 j] w fun e w' => e = .returned (.slice (some ⟨g, off, none⟩) (i + (n - j)) c) ∧ w' = W1.setCells g (off + (i + (n - j))) (List.replicate (n - (i + (n - j))) (.string ⟨#[]⟩)) := by
  obtain ⟨i0, hi0, hz0, hz1, hz2⟩ := info_parts info_tree
  have hic : i ≤ c := by omega
  have hjc : j ≤ c := by omega
  have mixed : Try.prog.follows Departure.mixedOrders = true := by kernel_rfl
  go_enter Try.func152, Try.ntmps152
  go_wp2_with fail
  go_region_law_o (refine step_append_room rfl (.tmp 22) (.tmp 25) 91 rfl 73 i0 1 Try.underlying91 hi0 hz1 g off i c (by simp [Act.eval, Act.put]) A (n - j) (c - j) news (by simp [Act.eval, Act.put]) s1.out hsrc.out s2.out (by omega) s3.out ?_; rw [← hW.out])
  go_wp2
  go_ret
  exact ⟨rfl, rfl⟩
set_option maxHeartbeats 2000000 in
theorem delete_any (base g i j n c : Nat) (ss : List (List UInt8)) (w : World) (hl : ss.length = n) (hi : i < n) (hj : j = i + 1) (hn : n ≤ 12) (hbase : base ≤ w.heap.size) (h : w.ownsRow base 73 1 (.slice (some ⟨g, 0, none⟩) n c) n (strs ss)) :
    Calls Try.prog 152 #[.slice (some ⟨g, 0, none⟩) n c, .int .i64 i, .int .i64 j] w fun e w' => e = .returned (.slice (some ⟨g, 0, none⟩) (n - 1) c) ∧ w'.ownsRow base 73 1 (.slice (some ⟨g, 0, none⟩) (n - 1) c) (n - 1) (strs (ss.eraseIdx i)) ∧ Below base w w' ∧ base ≤ w'.heap.size := by
  have hcap := own_cap h
  have HB : Hid (base ≤ g) := (h.lt g rfl).1
  have HL := Lib.hid hl
  have hlen : (strs (ss.drop j)).length = n - j := by rw [strs_length, List.length_drop, hl]
  have s1 : Hid ((strs (ss.drop j)).length = (n - j) * 1) := by rw [Hid, Nat.mul_one]; exact hlen
  have s2 : Hid (∀ u ∈ strs (ss.drop j), u.oneCell' = true) := fun u hu => by
    unfold strs at hu
    rw [List.mem_map] at hu
    obtain ⟨x, _, rfl⟩ := hu
    rfl
  have hcell : ∀ k, k < n → ∃ u, w.cell? ⟨g, k, none⟩ = some u ∧ (strs ss)[k]? = some u := fun k hk => by
    obtain ⟨x, hx⟩ := at_lt (show k < ss.length by omega)
    have := h.cellAt k (by omega)
    rw [strs_at hx] at this
    exact ⟨_, this, strs_at hx⟩
  have s3 : Hid (∀ t, t < (strs (ss.drop j)).length → (w.drew.cell? ⟨g, 0 + i * 1 + t, none⟩).isSome = true ∧ w.drew.frozen? ⟨g, 0 + i * 1 + t, none⟩ = false) := fun t ht => by
    rw [hlen] at ht
    rw [Nat.mul_one, Nat.zero_add]
    obtain ⟨u, hu, _⟩ := hcell (i + t) (by omega)
    exact ⟨by show (w.cell? _).isSome = true; rw [hu]; rfl, h.frozenAt (i + t)⟩
  obtain ⟨A, hA, hsrc⟩ : ∃ A : Addr, (if c = j then some (⟨g, 0, none⟩ : Addr) else some ⟨g, j, none⟩) = some A ∧ Hid (∀ t u, (strs (ss.drop j))[t]? = some u → w.drew.cell? (A.add t) = some u) := by
    by_cases hc : c = j
    · refine ⟨⟨g, 0, none⟩, by simp [hc], fun t u hu => ?_⟩
      have h0 : (strs (ss.drop j)).length = 0 := by rw [hlen]; omega
      rw [List.length_eq_zero_iff.1 h0] at hu
      simp at hu
    · refine ⟨⟨g, j, none⟩, by simp [hc], fun t u hu => ?_⟩
      have ht : t < n - j := by
        have := (List.getElem?_eq_some_iff.1 hu).1
        rwa [hlen] at this
      obtain ⟨v, hv, hv2⟩ := hcell (j + t) (by omega)
      rw [show (⟨g, j, none⟩ : Addr).add t = ⟨g, j + t, none⟩ from by unfold Addr.add; split <;> simp_all]
      unfold strs at hu hv2
      rw [List.map_drop, List.getElem?_drop, hv2] at hu
      injection hu with hu
      rw [← hu]; exact hv
  obtain ⟨W1, hW1⟩ : ∃ W1, W1 = w.drew.setCells g (0 + i * 1) (strs (ss.drop j)) := ⟨_, rfl⟩
  have HW := Lib.hid hW1
  have hO1 : W1.ownsRow base 73 1 (.slice (some ⟨g, 0, none⟩) n c) n (putL (strs ss) i (strs (ss.drop j))) := by
    rw [hW1, Nat.mul_one, Nat.zero_add]
    exact own_sets _ _ _ _ (by exact (OwnR.of h).drewN 1 |>.1)
  have HO1 := Lib.hid hO1
  have HB1 : Hid (Below base w W1) := by rw [Hid, hW1]; exact below_sets HB.out _ _ _ (below_drewN (Below.refl _ _) 1)
  have hcell1 : ∀ k, k < n → (W1.cell? ⟨g, k, none⟩).isSome = true ∧ W1.frozen? ⟨g, k, none⟩ = false := fun k hk => by
    have h9 := hO1.cellAt k (by omega)
    have h8 : k < (putL (strs ss) i (strs (ss.drop j))).length := by rw [own_len hO1]; exact hk
    rw [List.getElem?_eq_getElem h8] at h9
    exact ⟨by rw [h9]; rfl, hO1.frozenAt k⟩
  have e1 : i + (n - j) = n - 1 := by omega
  have e2 : n - (n - 1) = 1 := by omega
  have hcl : ∀ ty, (Builtin.clear_ #[91] ty #[.slice (some ⟨g, 0 + (i + (n - j)), none⟩) (n - (i + (n - j))) (c - (i + (n - j)))]).run Try.prog W1 = .ok (.tuple #[]) (W1.setCells g (0 + (i + (n - j))) (List.replicate (n - (i + (n - j))) (.string ⟨#[]⟩))) := fun ty =>
    Lib.run_clear_slice W1 _ _ ty (.string ⟨#[]⟩) Try.underlying91 (fun w => by rfl) rfl rfl g (0 + (i + (n - j))) _ _ (by omega) (fun t ht => by rw [Nat.zero_add, e1]; exact (hcell1 (n - 1 + t) (by omega)).1) (fun t ht => by rw [Nat.zero_add, e1]; exact (hcell1 (n - 1 + t) (by omega)).2)
  have G : Hid ((W1.setCells g (n - 1) [.string ⟨#[]⟩]).ownsRow base 73 1 (.slice (some ⟨g, 0, none⟩) (n - 1) c) (n - 1) (strs (ss.eraseIdx i)) ∧ Below base w (W1.setCells g (n - 1) [.string ⟨#[]⟩]) ∧ base ≤ (W1.setCells g (n - 1) [.string ⟨#[]⟩]).heap.size) := by
    have h7 := own_prefix (own_sets [.string ⟨#[]⟩] (n - 1) W1 _ HO1.out) (show n - 1 ≤ n by omega)
    subst hj
    rw [del_list ss HL.out hi] at h7
    have h6 := below_sets HB.out [.string ⟨#[]⟩] (n - 1) W1 HB1.out
    exact ⟨h7, h6, Nat.le_trans hbase h6.size⟩
  have C0 := delete_raw g 0 i j n c _ A w W1 (by omega) (by omega) hcap.1 hcap.2 (by rw [Nat.zero_add]; exact hA) hsrc s1 s2 s3 HW hcl
  refine C0.mono ?_
  rintro e w' ⟨rfl, rfl⟩
  rw [Nat.zero_add, e1, e2]
  exact ⟨rfl, G.out⟩
end Go.Proofs.Ytnnihdkhblbdgaa
/-
  The branch with a node, and the others.
-/
namespace Go.Proofs.Ytnnihdkhblbdgaa
open Go.RowKit Fld
set_option linter.unusedVariables false
set_option linter.unusedSimpArgs false
set_option maxRecDepth 100000

theorem tx_brk' {x : List UInt8} (h : Tr.isTx x = true) : Brk x := by
  unfold Tr.isTx at h
  simp only [Bool.and_eq_true, beq_iff_eq] at h
  rw [← h.2]; exact txt_brk _ _
theorem tx_even {x : List UInt8} (h : Tr.isTx x = true) : x.length = 2 * (x.length / 2) := by
  unfold Tr.isTx at h
  simp only [Bool.and_eq_true, beq_iff_eq] at h
  have := (lv_txt h.1).2.2.2
  rw [h.2] at this
  omega
theorem pick_drop {bs : List (List UInt8)} {k p : Nat} {b : List UInt8} (h : bs[k]? = some b) : Tr.pick (bs.drop k) p = if p < b.length / 2 then (0, p) else ((Tr.pick (bs.drop (k + 1)) (p - b.length / 2)).1 + 1, (Tr.pick (bs.drop (k + 1)) (p - b.length / 2)).2) := by
  have hlt : k < bs.length := by
    rcases Nat.lt_or_ge k bs.length with g | g
    · exact g
    · rw [List.getElem?_eq_none g] at h; cases h
  rw [List.getElem?_eq_getElem hlt] at h
  injection h with h
  rw [List.drop_eq_getElem_cons hlt, h, Tr.pick]
set_option maxHeartbeats 2000000 in
theorem branchWith_any (x : List UInt8) (n : Nat) (w : World) (hx : Tr.isTx x = true) (hn : n + 1 < x.length / 2) :
    Calls Try.prog 137 #[.string ⟨x.toArray⟩, .int .i64 ((n + 1 : Nat) : Int)] w fun e w' => ∃ g c q, e = .returned (.tuple #[.string ⟨(Tr.bAt x n).toArray⟩, .int .i64 ((Tr.pAt x n : Nat) : Int), .slice (some ⟨g, 0, none⟩) q c]) ∧ q = (Tr.oAt x n).length ∧ w'.ownsRow w.heap.size 73 1 (.slice (some ⟨g, 0, none⟩) q c) q (strs (Tr.oAt x n)) ∧ Below w.heap.size w w' := by
  have hx16 := (Tr.br_parts hx).1.2
  have hb7 := (Tr.br_parts hx).2.2
  have hbb := (Tr.br_parts hx).2.1
  have HPK := Lib.hid (Tr.pick_parts hx hn).1
  have C0 := branches_any x w hx
  obtain ⟨bs, hbs⟩ : ∃ bs, bs = Tr.brT x := ⟨_, rfl⟩
  have HBA : Hid (Tr.bAt x n = bs.getD (Tr.pick bs n).1 []) := by rw [Hid, hbs]; rfl
  have HPA : Hid (Tr.pAt x n = (Tr.pick bs n).2) := by rw [Hid, hbs]; rfl
  have HOA : Hid (Tr.oAt x n = bs.eraseIdx (Tr.pick bs n).1) := by rw [Hid, hbs]; rfl
  rw [← hbs] at hb7 hbb HPK C0
  have HBB : Hid (∀ b ∈ bs, b.length ≤ 16) := fun b hb => by have := (hbb b hb).2; omega
  have hnr : n ≤ 8 := by omega
  have hn1 : ((n + 1 : Nat) : Int) - 1 = (n : Int) := by omega
  clear hbs hbb hx hn
  go_enter Try.func137, Try.ntmps137
  go_wp2_with fail
  refine C0.mono ?_
  rintro e w1 ⟨A1, q1, c1, rfl, hq1, own1, bel1⟩
  have HO1 := Lib.hid own1
  have HB1 := Lib.hid bel1
  have hq0 : 0 < q1 := by have := HPK.out; omega
  obtain ⟨g, cap, hv⟩ := own_form own1 hq0
  injection hv with hA _ hcap
  subst hA hcap
  have HQ := Lib.hid hq1
  have hq7 : q1 ≤ 7 := by omega
  clear own1 bel1 hq1 C0
  go_wp2_with fail
  go_loopw [8, 9] (fun pl i wr => ∃ (k p : Nat), k < q1 ∧ p ≤ n ∧ pl = .int .i64 p ∧ i = .int .i64 k ∧ wr = w1 ∧ Hid (Tr.pick bs n = (k + (Tr.pick (bs.drop k) p).1, (Tr.pick (bs.drop k) p).2))) (fun _ i _ => q1 - (intOf i).toNat)
  case atStart => exact ⟨0, n, hq0, Nat.le_refl _, by go_num, rfl, rfl, by rw [Hid, List.drop_zero]; simp⟩
  case round =>
    obtain ⟨k, p, hk, hp, rfl, rfl, rfl, HK⟩ := hrel
    obtain ⟨b, hb⟩ := at_lt (show k < bs.length by have := HQ.out; omega)
    have hb16 := HBB.out b (List.mem_of_getElem? hb)
    have hcell := HO1.out.cellAt k (by omega)
    rw [strs_at hb] at hcell
    have HPD := Lib.hid (pick_drop (p := p) hb)
    have C1 := fun w => nodes_any b w (by omega)
    obtain ⟨nb, hnb⟩ : ∃ nb, nb = b.length / 2 := ⟨_, rfl⟩
    rw [← hnb] at HPD
    simp only [← hnb] at C1
    have hnb8 : nb ≤ 8 := by omega
    have HBK := Lib.hid hb
    obtain ⟨X, hX⟩ : ∃ X : ByteArray, X = ⟨b.toArray⟩ := ⟨_, rfl⟩
    have HX := Lib.hid hX
    rw [← hX] at hcell
    simp only [← hX] at C1
    clear hb hnb hX
    by_cases hpb : p < nb
    · have HE : Hid (Tr.pick bs n = (k, p)) := by rw [Hid, HK.out, HPD.out, if_pos hpb]; rfl
      have C2 := delete_any w.heap.size g k (k + 1) q1 c1 bs wr HQ.out.symm hk rfl (by omega) HB1.out.size HO1.out
      rw [show ((k + 1 : Nat) : Int) = (k : Int) + 1 from rfl] at C2
      have GB : Hid (Tr.bAt x n = b) := by
        rw [Hid, HBA.out, HE.out]
        show bs.getD k [] = b
        rw [List.getD_eq_getElem?_getD, HBK.out]; rfl
      have GP : Hid (Tr.pAt x n = p) := by rw [Hid, HPA.out, HE.out]
      have GO : Hid (Tr.oAt x n = bs.eraseIdx k) := by rw [Hid, HOA.out, HE.out]
      have hpb' : ¬ (nb : Int) ≤ (p : Int) := by omega
      clear HPD HK
      go_wp2_with fail
      refine (C1 _).mono ?_
      rintro e w2 ⟨rfl, rfl⟩
      go_wp2_with fail
      refine C2.mono ?_
      rintro e w3 ⟨rfl, own3, bel3, hs3⟩
      have G3 : Hid (w3.ownsRow w.heap.size 73 1 (.slice (some ⟨g, 0, none⟩) (q1 - 1) c1) (q1 - 1) (strs (Tr.oAt x n))) := by rw [Hid, GO.out]; exact own3
      have GB3 := Lib.hid (HB1.out.trans bel3)
      have GL : Hid (q1 - 1 = (Tr.oAt x n).length) := by rw [Hid, GO.out, List.length_eraseIdx, if_pos (by have := HQ.out; omega), ← HQ.out]
      clear own3 bel3 C1 C2 hcell
      go_wp2
      go_ret3
      exact ⟨g, c1, q1 - 1, by rw [GB.out, GP.out, ← HX.out]; rfl, GL.out, G3.out, GB3.out⟩
    · have HE : Hid (Tr.pick bs n = (k + 1 + (Tr.pick (bs.drop (k + 1)) (p - nb)).1, (Tr.pick (bs.drop (k + 1)) (p - nb)).2)) := by
        rw [Hid, HK.out, HPD.out, if_neg hpb]
        simp only [Prod.mk.injEq, and_true]; omega
      have hk1 : k + 1 < q1 := by
        have h1 := HPK.out
        rw [HE.out] at h1
        have := HQ.out; simp only at h1; omega
      have hpb' : (nb : Int) ≤ (p : Int) := by omega
      clear HPD HK hpb
      go_wp2_with fail
      refine (C1 _).mono ?_
      rintro e w2 ⟨rfl, rfl⟩
      go_wp2_with fail
      refine (C1 _).mono ?_
      rintro e w2 ⟨rfl, rfl⟩
      go_wp2
      go_roundw
      case rel => exact ⟨k + 1, p - nb, by omega, by omega, by go_num, by go_num, by first | rfl | trivial, HE⟩
      case measure => simp [intOf]; omega
end Go.Proofs.Ytnnihdkhblbdgaa
/-
  The program's grafting on texts.
-/
namespace Go.Proofs.Ytnnihdkhblbdgaa
open Go.RowKit Fld
set_option linter.unusedVariables false
set_option linter.unusedSimpArgs false
set_option maxRecDepth 100000

theorem flat_small : ∀ {l : List (List UInt8)} {m : Nat}, (∀ b ∈ l, b.length ≤ m) → l.flatten.length ≤ l.length * m
  | [], m, _ => by simp
  | b :: l, m, h => by
    have h1 := flat_small (l := l) (fun x hx => h x (by simp [hx]))
    have h2 := h b (by simp)
    rw [List.flatten_cons, List.length_append, List.length_cons, Nat.add_mul, Nat.one_mul]; omega
theorem rootT_len (l : List (List UInt8)) : (Tr.rootT l).length = l.flatten.length + 2 := by
  unfold Tr.rootT Tr.wrap
  rw [List.length_cons, List.length_append, flat_sorted]; rfl
theorem flat_snoc (l : List (List UInt8)) (b : List UInt8) : (l ++ [b]).flatten.length = l.flatten.length + b.length := by simp
theorem brT_small {x : List UInt8} (h : Tr.isTx x = true) : (Tr.brT x).flatten.length ≤ 112 := by
  obtain ⟨⟨_, h16⟩, hb, h7⟩ := Tr.br_parts h
  have := flat_small (l := Tr.brT x) (m := 16) (fun b hb' => by have := (hb b hb').2; omega)
  omega
theorem oAt_small {x : List UInt8} (h : Tr.isTx x = true) {n : Nat} (hn : n + 1 < x.length / 2) : (Tr.oAt x n).flatten.length ≤ 112 := by
  obtain ⟨_, _, _, _, hb, h7⟩ := Tr.pick_parts h hn
  have := flat_small (l := Tr.oAt x n) (m := 16) (fun b hb' => (hb b hb').2)
  omega
theorem bAt_less {x : List UInt8} (h : Tr.isTx x = true) {n d : Nat} (hn : n + 1 < x.length / 2) (hd : x.length / 2 ≤ d + 1) : (Tr.bAt x n).length / 2 ≤ d := by
  have h1 := tx_even h
  obtain ⟨_, h2, _, h3, _⟩ := Tr.pick_parts h hn
  have h4 := tx_even h2
  omega
theorem grf_len : ∀ (d : Nat) (x : List UInt8) (k : Nat) (v : List UInt8), Tr.isTx x = true → k < x.length / 2 → x.length / 2 ≤ d → (Tr.grfF d x k v).length ≤ 200 * d + v.length
  | 0, x, k, v, h, hk, hd => by simp [Tr.grfF]
  | d+1, x, 0, v, h, hk, hd => by
    rw [Tr.grfF, rootT_len, flat_snoc]
    have := brT_small h
    omega
  | d+1, x, n+1, v, h, hk, hd => by
    rw [Tr.grfF, rootT_len, flat_snoc]
    obtain ⟨_, h2, h3, _⟩ := Tr.pick_parts h hk
    have h1 := grf_len d (Tr.bAt x n) (Tr.pAt x n) v h2 h3 (bAt_less h hk hd)
    have := oAt_small h hk
    omega
theorem strs_snoc (l : List (List UInt8)) (b : List UInt8) : strs l ++ [.string ⟨b.toArray⟩] = strs (l ++ [b]) := by simp [strs]
theorem tTimes_any (x v : List UInt8) (w : World) (hx : Tr.isTx x = true) (hv : v.length ≤ 100000) :
    Calls Try.prog 85 #[.string ⟨x.toArray⟩, .string ⟨v.toArray⟩] w fun e w' => e = .returned (.string ⟨(Tr.rootT (Tr.brT x ++ [v])).toArray⟩) ∧ Below w.heap.size w w' := by
  obtain ⟨i0, hi, hz0, hz1, hz2⟩ := info_parts info_tree
  have h7 := (Tr.br_parts hx).2.2
  have HF : Hid ((Tr.brT x ++ [v]).flatten.length ≤ 1048574) := by rw [Hid, flat_snoc]; have := brT_small hx; omega
  have C0 := branches_any x w hx
  have HS := Lib.hid (strs_snoc (Tr.brT x) v)
  obtain ⟨V, hV⟩ : ∃ V : ByteArray, V = ⟨v.toArray⟩ := ⟨_, rfl⟩
  rw [← hV] at HS ⊢
  clear hV hx
  go_enter Try.func85, Try.ntmps85
  go_wp2_with fail
  refine C0.mono ?_
  rintro e w1 ⟨A, q, c, rfl, hq, own1, bel1⟩
  have hs1 := bel1.size
  have HB1 := Lib.hid bel1
  have HO1 := Lib.hid own1
  have hq7 : q ≤ 7 := by omega
  clear bel1 hq C0
  go_wp2_with (at_builtin; (refine wpList_append_lies _ rfl (.tmp 6) (.tmp 8) 91 rfl w.heap.size 73 i0 _ 1 16 Try.underlying91 hi hz0 hz1 hz2 rfl (by omega) (.slice A q c) q (strs (Tr.brT x)) rfl (own1.alloc _) ⟨w1.heap.size, 0, none⟩ 1 1 [.string V] rfl rfl (World.news_of_block (cs := #[.string V]) (heap_alloc_new _ _)) (by simp [Value.oneCell']) (by omega) (by simp only [maxLen]; omega) (by omega) (by simp; omega) (w1.heap.size + 1) (by simp) ?_); intro g2 cap2 w3 hown3 hgrow3 hat3 hlt3)
  rw [HS.out] at hown3
  have HB3 : Hid (Below w.heap.size w w3) := (HB1.out.alloc (by omega) _).grown hgrow3 (by simp; omega) (fun z hz => (HO1.out.lt z hz).1)
  have HO3 := Lib.hid hown3
  clear hown3 hgrow3 hat3 own1
  go_wp2_with fail
  refine (rootOn_any _ w.heap.size _ _ _ _ (by omega) HF.out HB3.out.size HO3.out).mono ?_
  rintro e w4 ⟨rfl, bel4⟩
  have GB := Lib.hid (HB3.out.trans bel4)
  obtain ⟨Z, hZ⟩ : ∃ Z : ByteArray, Z = ⟨(Tr.wrap (Tr.sortS (Tr.brT x ++ [v]))).toArray⟩ := ⟨_, rfl⟩
  have HZ : Hid (Z = ⟨(Tr.rootT (Tr.brT x ++ [v])).toArray⟩) := hZ
  rw [← hZ]
  clear bel4 hZ
  go_wp2
  go_ret
  exact ⟨by rw [← HZ.out]; rfl, GB.out⟩
end Go.Proofs.Ytnnihdkhblbdgaa
/-
  The program's rerooting of texts.
-/
namespace Go.Proofs.Ytnnihdkhblbdgaa
open Go.RowKit Fld
set_option linter.unusedVariables false
set_option linter.unusedSimpArgs false
set_option maxRecDepth 100000

theorem strs_app' (a b : List (List UInt8)) : strs a ++ strs b = strs (a ++ b) := by simp [strs]
theorem strs_one' (l : List (List UInt8)) : ∀ u ∈ strs l, u.oneCell' = true := fun u hu => by
  unfold strs at hu
  rw [List.mem_map] at hu
  obtain ⟨x, _, rfl⟩ := hu
  rfl
theorem row_news' {w : World} {B : Nat} {ad : Addr} {vs : List Value} (h : Row w B (some ad) vs) : ∀ j u, vs[j]? = some u → w.cell? (ad.add j) = some u := by
  intro j u hu
  obtain ⟨b, o, e, _, hc⟩ := h j u hu
  cases e
  have : (⟨b, o, none⟩ : Addr).add j = ⟨b, o + j, none⟩ := by unfold Addr.add; split <;> simp_all
  rw [this]; exact hc
theorem own_shape3 {w : World} {base : Nat} {T : TypeId} {v : Value} {n : Nat} {vs : List Value} (h : w.ownsRow base T 1 v n vs) : ∃ A c, v = .slice A n c := by
  rcases h.2 with ⟨rfl, rfl⟩ | ⟨g, cap, cur, rfl, _⟩
  · exact ⟨none, 0, rfl⟩
  · exact ⟨_, _, rfl⟩
def RerAt (d : Nat) : Prop := ∀ (x : List UInt8) (k nb cb B : Nat) (Ab : Option Addr) (bs : List (List UInt8)) (w : World), Tr.isTx x = true → k < x.length / 2 → x.length / 2 ≤ d → bs.length = nb → nb ≤ 1 → (bs.flatten.length + 200 * d ≤ 5000) → B ≤ w.heap.size → Row w B Ab (strs bs) → (Ab = none → nb = 0 ∧ cb = 0) →
    Calls Try.prog 122 #[.string ⟨x.toArray⟩, .int .i64 k, .slice Ab nb cb] w fun e w' => e = .returned (.string ⟨(Tr.rerF d x k bs).toArray⟩) ∧ Below w.heap.size w w'
theorem rerAt_zero : RerAt 0 := fun x k nb cb B Ab bs w _ hk hd _ _ _ _ _ _ => by omega
set_option maxHeartbeats 2000000 in
theorem rerAt_succ (d : Nat) (hd8 : d ≤ 8) (IH : RerAt d) : RerAt (d + 1) := by
  intro x k nb cb B Ab bs w hx hk hd hbl hnb hfl hB hrow hA
  obtain ⟨i0, hi, hz0, hz1, hz2⟩ := info_parts info_tree
  have HBL : Hid ((strs bs).length = nb * 1) := by rw [Hid, strs_length, hbl, Nat.mul_one]
  have HONE := Lib.hid (strs_one' bs)
  cases k with
  | zero =>
    have h7 := (Tr.br_parts hx).2.2
    have HF : Hid ((Tr.brT x ++ bs).flatten.length ≤ 1048574) := by rw [Hid, List.flatten_append, List.length_append]; have := brT_small hx; omega
    have C0 := branches_any x w hx
    have HS := Lib.hid (strs_app' (Tr.brT x) bs)
    have HZ : Hid (Tr.rerF (d + 1) x 0 bs = Tr.rootT (Tr.brT x ++ bs)) := rfl
    rw [HZ.out]
    cases hAb : Ab with
    | none =>
      obtain ⟨e1, e2⟩ := hA hAb
      subst hAb e1 e2
      have hb0 : bs = [] := List.eq_nil_of_length_eq_zero hbl
      subst hb0
      rw [List.append_nil] at HF ⊢
      obtain ⟨X, hX⟩ : ∃ X : ByteArray, X = ⟨x.toArray⟩ := ⟨_, rfl⟩
      rw [← hX] at C0 ⊢
      clear hX hx hk hd hA hrow hfl hbl
      go_enter Try.func122, Try.ntmps122
      go_wp2_with fail
      refine C0.mono ?_
      rintro e w1 ⟨A, q, c, rfl, hq, own1, bel1⟩
      have hs1 := bel1.size
      have HB1 := Lib.hid bel1
      have HO1 := Lib.hid own1
      have hq7 : q ≤ 7 := by omega
      clear bel1 hq C0
      go_wp2_with (at_builtin; refine wpList_append_own_none rfl (.tmp 13) (.tmp 14) 91 rfl w.heap.size 73 i0 1 Try.underlying91 hi (.slice A q c) q (strs (Tr.brT x)) rfl own1 rfl ?_)
      clear own1
      go_wp2_with fail
      refine (rootOn_any A w.heap.size q c _ _ (by omega) HF.out hs1 HO1.out).mono ?_
      rintro e w4 ⟨rfl, bel4⟩
      have GB := Lib.hid (HB1.out.trans bel4)
      obtain ⟨Z, hZ⟩ : ∃ Z : ByteArray, Z = ⟨(Tr.wrap (Tr.sortS (Tr.brT x))).toArray⟩ := ⟨_, rfl⟩
      have HZZ : Hid (Z = ⟨(Tr.rootT (Tr.brT x)).toArray⟩) := hZ
      rw [← hZ]
      clear bel4 hZ
      go_wp2
      go_ret
      exact ⟨by rw [← HZZ.out]; rfl, GB.out⟩
    | some ad =>
      subst hAb
      obtain ⟨X, hX⟩ : ∃ X : ByteArray, X = ⟨x.toArray⟩ := ⟨_, rfl⟩
      rw [← hX] at C0 ⊢
      clear hX hx hk hd hA hfl hbl
      go_enter Try.func122, Try.ntmps122
      go_wp2_with fail
      refine C0.mono ?_
      rintro e w1 ⟨A, q, c, rfl, hq, own1, bel1⟩
      have hs1 := bel1.size
      have HB1 := Lib.hid bel1
      have HO1 := Lib.hid own1
      have hq7 : q ≤ 7 := by omega
      have HNW := Lib.hid (row_news' (Row.below hrow bel1 hB))
      clear bel1 hq C0
      go_wp2_with (at_builtin; refine wpList_append_own _ rfl (.tmp 13) (.tmp 14) 91 rfl w.heap.size 73 i0 _ 1 16 Try.underlying91 hi hz0 hz1 hz2 rfl (by omega) (.slice A q c) q (strs (Tr.brT x)) rfl own1 ad nb cb (strs bs) rfl HBL.out HNW.out HONE.out (by simp only [maxLen]; omega) (by omega) (by omega) ?_; intro v3 w3 own3 hgrow3 _; obtain ⟨A3, c3, rfl⟩ := own_shape3 own3)
      rw [HS.out] at own3
      have HB3 : Hid (Below w.heap.size w w3) := HB1.out.grown hgrow3 (by omega) (fun z hz => (HO1.out.lt z hz).1)
      have HO3 := Lib.hid own3
      clear own3 hgrow3 own1
      go_wp2_with fail
      refine (rootOn_any A3 w.heap.size (q + nb) c3 _ _ (by omega) HF.out HB3.out.size HO3.out).mono ?_
      rintro e w4 ⟨rfl, bel4⟩
      have GB := Lib.hid (HB3.out.trans bel4)
      obtain ⟨Z, hZ⟩ : ∃ Z : ByteArray, Z = ⟨(Tr.wrap (Tr.sortS (Tr.brT x ++ bs))).toArray⟩ := ⟨_, rfl⟩
      have HZZ : Hid (Z = ⟨(Tr.rootT (Tr.brT x ++ bs)).toArray⟩) := hZ
      rw [← hZ]
      clear bel4 hZ
      go_wp2
      go_ret
      exact ⟨by rw [← HZZ.out]; rfl, GB.out⟩
  | succ n =>
    obtain ⟨_, h2, h3, _, _, h7⟩ := Tr.pick_parts hx hk
    have C0 := branchWith_any x n w hx hk
    have hoa := oAt_small hx hk
    have hroot : (Tr.rootT (Tr.oAt x n ++ bs)).length = (Tr.oAt x n).flatten.length + bs.flatten.length + 2 := by rw [rootT_len, List.flatten_append, List.length_append]
    have HF : Hid ((Tr.oAt x n ++ bs).flatten.length ≤ 1048574) := by rw [Hid, List.flatten_append, List.length_append]; omega
    have HS := Lib.hid (strs_app' (Tr.oAt x n) bs)
    have HZ : Hid (Tr.rerF (d + 1) x (n + 1) bs = Tr.rerF d (Tr.bAt x n) (Tr.pAt x n) [Tr.rootT (Tr.oAt x n ++ bs)]) := rfl
    rw [HZ.out]
    clear HZ
    have C1 : ∀ (W : World) (Z : ByteArray), Z = ⟨(Tr.wrap (Tr.sortS (Tr.oAt x n ++ bs))).toArray⟩ → Calls Try.prog 122 #[.string ⟨(Tr.bAt x n).toArray⟩, .int .i64 ((Tr.pAt x n : Nat) : Int), .slice (some ⟨W.heap.size, 0, none⟩) 1 1] (W.alloc (.cells #[.string Z] 73)) fun e w' => e = .returned (.string ⟨(Tr.rerF d (Tr.bAt x n) (Tr.pAt x n) [Tr.rootT (Tr.oAt x n ++ bs)]).toArray⟩) ∧ Below W.heap.size W w' := fun W Z hZ => by
      have ho := World.ownsRow_lit (base := W.heap.size) (size := 1) (e := 73) W #[.string Z] 1 (Nat.le_refl _) (by simp [maxLen]) rfl
      refine (IH (Tr.bAt x n) (Tr.pAt x n) 1 1 _ (some ⟨W.heap.size, 0, none⟩) [Tr.rootT (Tr.oAt x n ++ bs)] (W.alloc (.cells #[.string Z] 73)) h2 h3 (bAt_less hx hk hd) rfl (Nat.le_refl _) ?_ (Nat.le_refl _) ?_ (fun e => by cases e)).mono ?_
      · simp only [List.flatten_cons, List.flatten_nil, List.append_nil]; omega
      · have := row_of_own ho
        rw [hZ] at this ⊢
        exact this
      · rintro e w' ⟨rfl, bel⟩
        exact ⟨rfl, ((Below.refl W.heap.size W).alloc (Nat.le_refl _) _).trans (bel.mono (by simp))⟩
    obtain ⟨R, hR⟩ : ∃ R : ByteArray, R = ⟨(Tr.rerF d (Tr.bAt x n) (Tr.pAt x n) [Tr.rootT (Tr.oAt x n ++ bs)]).toArray⟩ := ⟨_, rfl⟩
    obtain ⟨X, hX⟩ : ∃ X : ByteArray, X = ⟨x.toArray⟩ := ⟨_, rfl⟩
    obtain ⟨Bb, hBb⟩ : ∃ Bb : ByteArray, Bb = ⟨(Tr.bAt x n).toArray⟩ := ⟨_, rfl⟩
    obtain ⟨p, hp⟩ : ∃ p, p = Tr.pAt x n := ⟨_, rfl⟩
    rw [← hX, ← hBb, ← hp] at C0
    simp only [← hBb, ← hR] at C1
    simp only [← hp] at C1
    rw [← hX, ← hR]
    have tk := beq_f (show ¬ ((n + 1 : Nat) : Int) = 0 by omega)
    obtain ⟨kk, hkk⟩ : ∃ kk, kk = ((n + 1 : Nat) : Int) := ⟨_, rfl⟩
    rw [← hkk] at C0 tk ⊢
    cases hAb : Ab with
    | none =>
      obtain ⟨e1, e2⟩ := hA hAb
      subst hAb e1 e2
      have hb0 : bs = [] := List.eq_nil_of_length_eq_zero hbl
      subst hb0
      rw [List.append_nil] at HF
      simp only [List.append_nil] at C1
      clear hX hBb hR hp hkk hx hk hd hA hrow hfl hbl h2 h3 hoa hroot IH
      go_enter Try.func122, Try.ntmps122
      go_wp2_with fail
      refine C0.mono ?_
      rintro e w1 ⟨g, c, q, rfl, hq, own1, bel1⟩
      have hs1 := bel1.size
      have HB1 := Lib.hid bel1
      have HO1 := Lib.hid own1
      have hq7 : q ≤ 7 := by omega
      clear bel1 hq C0
      go_wp2_with (at_builtin; refine wpList_append_own_none rfl (.tmp 26) (.tmp 27) 91 rfl w.heap.size 73 i0 1 Try.underlying91 hi (.slice (some ⟨g, 0, none⟩) q c) q (strs (Tr.oAt x n)) rfl own1 rfl ?_)
      clear own1
      go_wp2_with fail
      refine (rootOn_any (some ⟨g, 0, none⟩) w.heap.size q c _ _ (by omega) HF.out hs1 HO1.out).mono ?_
      rintro e w4 ⟨rfl, bel4⟩
      have GB4 := Lib.hid (HB1.out.trans bel4)
      have hs4 := GB4.out.size
      obtain ⟨Z, hZ⟩ : ∃ Z : ByteArray, Z = ⟨(Tr.wrap (Tr.sortS (Tr.oAt x n))).toArray⟩ := ⟨_, rfl⟩
      have C2 := C1 w4 Z hZ
      rw [← hZ]
      clear bel4 hZ C1
      go_wp2_with fail
      refine C2.mono ?_
      rintro e w5 ⟨rfl, bel5⟩
      have GB := Lib.hid (GB4.out.trans (bel5.mono hs4))
      clear bel5 C2
      go_wp2
      go_ret
      exact ⟨rfl, GB.out⟩
    | some ad =>
      subst hAb
      clear hX hBb hR hp hkk hx hk hd hA hfl hbl h2 h3 hoa hroot IH
      go_enter Try.func122, Try.ntmps122
      go_wp2_with fail
      refine C0.mono ?_
      rintro e w1 ⟨g, c, q, rfl, hq, own1, bel1⟩
      have hs1 := bel1.size
      have HB1 := Lib.hid bel1
      have HO1 := Lib.hid own1
      have hq7 : q ≤ 7 := by omega
      have HNW := Lib.hid (row_news' (Row.below hrow bel1 hB))
      clear bel1 hq C0
      go_wp2_with (at_builtin; refine wpList_append_own _ rfl (.tmp 26) (.tmp 27) 91 rfl w.heap.size 73 i0 _ 1 16 Try.underlying91 hi hz0 hz1 hz2 rfl (by omega) (.slice (some ⟨g, 0, none⟩) q c) q (strs (Tr.oAt x n)) rfl own1 ad nb cb (strs bs) rfl HBL.out HNW.out HONE.out (by simp only [maxLen]; omega) (by omega) (by omega) ?_; intro v3 w3 own3 hgrow3 _; obtain ⟨A3, c3, rfl⟩ := own_shape3 own3)
      rw [HS.out] at own3
      have HB3 : Hid (Below w.heap.size w w3) := HB1.out.grown hgrow3 (by omega) (fun z hz => (HO1.out.lt z hz).1)
      have HO3 := Lib.hid own3
      clear own3 hgrow3 own1
      go_wp2_with fail
      refine (rootOn_any A3 w.heap.size (q + nb) c3 _ _ (by omega) HF.out HB3.out.size HO3.out).mono ?_
      rintro e w4 ⟨rfl, bel4⟩
      have GB4 := Lib.hid (HB3.out.trans bel4)
      have hs4 := GB4.out.size
      obtain ⟨Z, hZ⟩ : ∃ Z : ByteArray, Z = ⟨(Tr.wrap (Tr.sortS (Tr.oAt x n ++ bs))).toArray⟩ := ⟨_, rfl⟩
      have C2 := C1 w4 Z hZ
      rw [← hZ]
      clear bel4 hZ C1
      go_wp2_with fail
      refine C2.mono ?_
      rintro e w5 ⟨rfl, bel5⟩
      have GB := Lib.hid (GB4.out.trans (bel5.mono hs4))
      clear bel5 C2
      go_wp2
      go_ret
      exact ⟨rfl, GB.out⟩
theorem rerAt_all : ∀ d, d ≤ 8 → RerAt d
  | 0, _ => rerAt_zero
  | d+1, h => rerAt_succ d (by omega) (rerAt_all d (by omega))
theorem rerootAt_any (x : List UInt8) (k : Nat) (w : World) (hx : Tr.isTx x = true) (hk : k < x.length / 2) :
    Calls Try.prog 122 #[.string ⟨x.toArray⟩, .int .i64 k, .slice none 0 0] w fun e w' => e = .returned (.string ⟨(Tr.rerF 8 x k []).toArray⟩) ∧ Below w.heap.size w w' :=
  rerAt_all 8 (Nat.le_refl _) x k 0 0 w.heap.size none [] w hx hk (by have := (Tr.br_parts hx).1.2; omega) rfl (by omega) (by simp) (Nat.le_refl _) (Row.nil _ _ _) (fun _ => ⟨rfl, rfl⟩)
end Go.Proofs.Ytnnihdkhblbdgaa
/-
  Texts filled in one after another.
-/
namespace Go.Proofs.Ytnnihdkhblbdgaa
open Go.RowKit Fld
set_option linter.unusedVariables false
set_option linter.unusedSimpArgs false
set_option maxRecDepth 100000

/-- texts filled in one after another -/
def FillT (w : World) (n : Nat) (ss : List (List UInt8)) (k : Nat) (wr : World) : Prop :=
  wr.ownsRow w.heap.size 73 1 (.slice (some ⟨w.heap.size, 0, none⟩) n n) n ((strs ss).take k ++ List.replicate (n - k) (.string ⟨#[]⟩)) ∧ Below w.heap.size w wr
theorem FillT.below {w wr w2 : World} {n k : Nat} {ss : List (List UInt8)} (h : FillT w n ss k wr) (hb : Below wr.heap.size wr w2) : FillT w n ss k w2 :=
  ⟨((OwnR.of h.1).below hb (Nat.le_refl _)).1, h.2.trans (hb.mono h.2.size)⟩
theorem FillT.step {w wr : World} {n k : Nat} {ss : List (List UInt8)} {s : List UInt8} (h : FillT w n ss k wr) (hl : ss.length = n) (hs : ss[k]? = some s) : FillT w n ss (k + 1) (wr.setCell ⟨w.heap.size, k, none⟩ (.string ⟨s.toArray⟩)) := by
  obtain ⟨h1, h2⟩ := h
  refine ⟨?_, below_set h2 (Nat.le_refl _) _⟩
  have := (h1.stored k (.string ⟨s.toArray⟩)).1
  rw [fill_step (by rw [strs_length]; exact hl) (strs_at hs)] at this
  exact this
theorem FillT.start {w w1 : World} {n : Nat} {ss : List (List UInt8)} (h : w1.ownsRow w.heap.size 73 1 (.slice (some ⟨w.heap.size, 0, none⟩) n n) n (madeCells (Value.string ⟨#[]⟩).cells (n * 1)).toList) (hg : w.grownBy w1 none) : FillT w n ss 0 w1 := by
  refine ⟨?_, (Below.refl _ _).grown hg (Nat.le_refl _) (fun k hk => by cases hk)⟩
  have e : (madeCells (Value.string ⟨#[]⟩).cells (n * 1)).toList = (strs ss).take 0 ++ List.replicate (n - 0) (.string ⟨#[]⟩) := by
    rw [← fill_start, Nat.mul_one]; exact toList_madeCells_one _ _
  rw [e] at h
  exact h
end Go.Proofs.Ytnnihdkhblbdgaa
/-
  All rerooted trees of a text, and the least of them.
-/
namespace Go.Proofs.Ytnnihdkhblbdgaa
open Go.RowKit Fld
set_option linter.unusedVariables false
set_option linter.unusedSimpArgs false
set_option maxRecDepth 100000

def rootsT (x : List UInt8) : List (List UInt8) := (List.range (x.length / 2)).map fun k => Tr.rerF 8 x k []
theorem rootsT_len (x : List UInt8) : (rootsT x).length = x.length / 2 := by simp [rootsT]
theorem rootsT_at {x : List UInt8} {k : Nat} (hk : k < x.length / 2) : (rootsT x)[k]? = some (Tr.rerF 8 x k []) := by
  unfold rootsT; rw [List.getElem?_map, List.getElem?_range hk]; rfl
set_option maxHeartbeats 1000000 in
theorem roots_any (x : List UInt8) (w : World) (hx : Tr.isTx x = true) :
    Calls Try.prog 95 #[.string ⟨x.toArray⟩] w fun e w' => e = .returned (.slice (some ⟨w.heap.size, 0, none⟩) (x.length / 2) (x.length / 2)) ∧ w'.ownsRow w.heap.size 73 1 (.slice (some ⟨w.heap.size, 0, none⟩) (x.length / 2) (x.length / 2)) (x.length / 2) (strs (rootsT x)) ∧ Below w.heap.size w w' := by
  obtain ⟨i0, hi, hz0, hz1, hz2⟩ := info_parts info_tree
  have hx16 := (Tr.br_parts hx).1.2
  have C0 := nodes_any x w (by omega)
  have C1 := fun k w (hk : k < x.length / 2) => rerootAt_any x k w hx hk
  have HLEN := Lib.hid (rootsT_len x)
  have HAT : Hid (∀ k, k < x.length / 2 → (rootsT x)[k]? = some (Tr.rerF 8 x k [])) := fun k hk => rootsT_at hk
  obtain ⟨n, hn⟩ : ∃ n, n = x.length / 2 := ⟨_, rfl⟩
  have hn8 : n ≤ 8 := by omega
  rw [← hn] at C0 HLEN HAT ⊢
  simp only [← hn] at C1
  obtain ⟨X, hX⟩ : ∃ X : ByteArray, X = ⟨x.toArray⟩ := ⟨_, rfl⟩
  rw [← hX] at C0 ⊢
  simp only [← hX] at C1
  clear hn hX hx hx16
  go_enter Try.func95, Try.ntmps95
  go_wp2_with fail
  refine C0.mono ?_
  rintro e w9 ⟨rfl, rfl⟩
  clear C0
  go_wp2_with (at_make; refine wpList_make_full _ rfl (.tmp 6) (.tmp 6) 91 rfl w.heap.size 73 i0 _ 1 Try.underlying91 hi hz0 hz1 .i64 .i64 _ _ n rfl rfl rfl rfl (by rw [hz2]; omega) (by simp only [maxLen]; omega) (Nat.le_refl _) ?_; intro w1 hown hg)
  have F0 := FillT.start (ss := rootsT x) hown hg
  clear hown hg hz0 hz1 hz2 hi
  go_wp2_with fail
  go_loopw [10] (fun i wr => ∃ k : Nat, k ≤ n ∧ i = .int .i64 k ∧ FillT w n (rootsT x) k wr) (fun i _ => n - (intOf i).toNat)
  case atStart => exact ⟨0, Nat.zero_le _, rfl, F0⟩
  case round =>
    obtain ⟨k, hk, rfl, HF⟩ := hrel
    by_cases hlt : k < n
    · have hsz := HF.2.size
      have HST := Lib.hid (HAT.out k hlt)
      have C2 := C1 k wr hlt
      have HFF := Lib.hid HF
      obtain ⟨R, hR⟩ : ∃ R : ByteArray, R = ⟨(Tr.rerF 8 x k []).toArray⟩ := ⟨_, rfl⟩
      have HR := Lib.hid hR
      rw [← hR] at C2
      clear F0 HF hR
      go_wp2_with fail
      refine C2.mono ?_
      rintro e w2 ⟨rfl, bel2⟩
      have HF2 := HFF.out.below bel2
      have hf := HF2.1.frozenAt k
      have ho := HF2.1.cellAt k (by omega)
      rw [fill_at (by rw [strs_length]; exact HLEN.out) hlt] at ho
      have G := Lib.hid (HF2.step HLEN.out HST.out)
      rw [← HR.out] at G
      clear bel2 HF2 C2
      go_wp2
      go_roundw
      case rel => exact ⟨k + 1, by omega, by go_num, G.out⟩
      case measure => simp [intOf]; omega
    · obtain rfl : k = n := by omega
      have G : Hid (wr.ownsRow w.heap.size 73 1 (.slice (some ⟨w.heap.size, 0, none⟩) k k) k (strs (rootsT x)) ∧ Below w.heap.size w wr) := by
        obtain ⟨h1, h2⟩ := HF
        rw [fill_end _ (by rw [strs_length]; exact HLEN.out)] at h1
        exact ⟨h1, h2⟩
      clear HF F0
      go_wp2
      go_ret
      exact ⟨rfl, G.out⟩
/-- the least of the first texts -/
def minTo (ss : List (List UInt8)) (k : Nat) : List UInt8 := ((ss.take k).drop 1).foldl (fun m s => if Tr.cmpT s m < 0 then s else m) (ss.getD 0 [])
def minT (ss : List (List UInt8)) : List UInt8 := minTo ss ss.length
theorem minTo_one (ss : List (List UInt8)) : minTo ss 1 = ss.getD 0 [] := by
  unfold minTo
  cases ss with
  | nil => rfl
  | cons a r => simp
theorem minTo_step {ss : List (List UInt8)} {k : Nat} {s : List UInt8} (h1 : 1 ≤ k) (h : ss[k]? = some s) : minTo ss (k + 1) = if Tr.cmpT s (minTo ss k) < 0 then s else minTo ss k := by
  unfold minTo
  have hk : 1 ≤ (ss.take k).length := by
    rw [List.length_take]
    rcases Nat.lt_or_ge k ss.length with g | g
    · omega
    · rw [List.getElem?_eq_none g] at h; cases h
  rw [List.take_add_one, h, Option.toList_some, List.drop_append_of_le_length hk, List.foldl_append]; rfl
theorem minTo_small {ss : List (List UInt8)} (h : ∀ s ∈ ss, s.length ≤ 1048576) (h0 : 0 < ss.length) : ∀ k, 1 ≤ k → k ≤ ss.length → (minTo ss k).length ≤ 1048576
  | 0, h1, _ => by omega
  | 1, _, _ => by
    rw [minTo_one, List.getD_eq_getElem?_getD, List.getElem?_eq_getElem h0]
    exact h _ (List.getElem_mem _)
  | k+2, _, hk => by
    rw [minTo_step (by omega) (List.getElem?_eq_getElem (show k + 1 < ss.length by omega))]
    split
    · exact h _ (List.getElem_mem _)
    · exact minTo_small h h0 (k + 1) (by omega) (by omega)
set_option maxHeartbeats 1000000 in
theorem minFunc_any (A : Option Addr) (n c B : Nat) (ss : List (List UInt8)) (w : World) (hl : ss.length = n) (h1 : 1 ≤ n) (hn : n ≤ 1048576) (hs : ∀ s ∈ ss, s.length ≤ 1048576) (hB : B ≤ w.heap.size) (h : Row w B A (strs ss)) :
    Calls Try.prog 119 #[.slice A n c, (.func (.func 120) #[] #[])] w fun e w' => e = .returned (.string ⟨(minT ss).toArray⟩) ∧ Below w.heap.size w w' := by
  have HL := Lib.hid hl
  have HS := Lib.hid hs
  have HSM : Hid (∀ k, 1 ≤ k → k ≤ n → (minTo ss k).length ≤ 1048576) := fun k q1 q2 => minTo_small hs (by omega) k q1 (by omega)
  obtain ⟨s0, hs0⟩ := at_lt (show 0 < ss.length by omega)
  obtain ⟨b, o, rfl, hbB, hc0⟩ := h 0 _ (strs_at hs0)
  rw [Nat.add_zero] at hc0
  have HM1 : Hid (minTo ss 1 = s0) := by rw [Hid, minTo_one, List.getD_eq_getElem?_getD, hs0]; rfl
  have hn1 : ¬ (n : Int) < 1 := by omega
  obtain ⟨S0, hS0⟩ : ∃ S0 : ByteArray, S0 = ⟨s0.toArray⟩ := ⟨_, rfl⟩
  have HS0 := Lib.hid hS0
  rw [← hS0] at hc0
  clear hl hs hs0 hS0
  go_enter Try.func119, Try.ntmps119
  go_wp2_with fail
  go_loopw [5, 6] (fun mv i wr => ∃ (k : Nat) (M : ByteArray), 1 ≤ k ∧ k ≤ n ∧ mv = .string M ∧ Hid (M = ⟨(minTo ss k).toArray⟩) ∧ i = .int .i64 k ∧ Below w.heap.size w wr) (fun _ i _ => n - (intOf i).toNat)
  case atStart => exact ⟨1, S0, Nat.le_refl _, h1, rfl, by rw [Hid, HM1.out]; exact HS0.out, rfl, Below.refl _ _⟩
  case round =>
    obtain ⟨k, M, hk1, hk, rfl, HM, rfl, HB⟩ := hrel
    have hsz := HB.size
    by_cases hlt : k < n
    · obtain ⟨s, hs⟩ := at_lt (show k < ss.length by rw [HL.out]; exact hlt)
      obtain ⟨_, _, e1, _, hck⟩ := (Row.below h HB hB) k _ (strs_at hs)
      cases e1
      have hsl := HS.out s (List.mem_of_getElem? hs)
      have C0 := compare_any s (minTo ss k) wr hsl (HSM.out k hk1 hk)
      rw [← HM.out] at C0
      have HST := Lib.hid (minTo_step hk1 hs)
      have HBW := Lib.hid HB
      obtain ⟨X, hX⟩ : ∃ X : ByteArray, X = ⟨s.toArray⟩ := ⟨_, rfl⟩
      have HX := Lib.hid hX
      rw [← hX] at hck C0
      obtain ⟨z, hz⟩ : ∃ z, z = Tr.cmpT s (minTo ss k) := ⟨_, rfl⟩
      rw [← hz] at C0 HST
      clear hs HB hX hz
      by_cases hzn : z < 0
      · have G : Hid (X = ⟨(minTo ss (k + 1)).toArray⟩) := by rw [Hid, HST.out, if_pos hzn]; exact HX.out
        go_wp2_with fail
        refine C0.mono ?_
        rintro e w2 ⟨rfl, bel2⟩
        have hck2 := (bel2.cell (p := ⟨b, o + k, none⟩) (by show b < wr.heap.size; omega)).trans hck
        have GB := Lib.hid (HBW.out.trans (bel2.mono hsz))
        clear bel2 C0 hck
        go_wp2
        go_roundw
        case rel => exact ⟨k + 1, X, by omega, by omega, rfl, G, by go_num, GB.out⟩
        case measure => simp [intOf]; omega
      · have G : Hid (M = ⟨(minTo ss (k + 1)).toArray⟩) := by rw [Hid, HST.out, if_neg hzn]; exact HM.out
        go_wp2_with fail
        refine C0.mono ?_
        rintro e w2 ⟨rfl, bel2⟩
        have GB := Lib.hid (HBW.out.trans (bel2.mono hsz))
        clear bel2 C0 hck
        go_wp2
        go_roundw
        case rel => exact ⟨k + 1, M, by omega, by omega, rfl, G, by go_num, GB.out⟩
        case measure => simp [intOf]; omega
    · obtain rfl : k = n := by omega
      have G : Hid (M = ⟨(minT ss).toArray⟩) := by rw [Hid, HM.out]; unfold minT; rw [HL.out]
      have GB := Lib.hid HB
      clear HM HB
      go_wp2
      go_ret
      exact ⟨by rw [← G.out]; rfl, GB.out⟩
end Go.Proofs.Ytnnihdkhblbdgaa
/-
  The free form of a tree, the program's.
-/
namespace Go.Proofs.Ytnnihdkhblbdgaa
open Go.RowKit Fld
set_option linter.unusedVariables false
set_option linter.unusedSimpArgs false
set_option maxRecDepth 100000

theorem roots_tx {x : List UInt8} (hx : Tr.isTx x = true) : ∀ s ∈ rootsT x, Tr.isTx s = true := fun s hs => by
  unfold Tr.isTx at hx
  simp only [Bool.and_eq_true, beq_iff_eq] at hx
  obtain ⟨c1, c2⟩ := lv_can hx.1
  obtain ⟨c3, c4⟩ := Tr.can_can hx.1
  have hl := (lv_txt hx.1).2.2.2
  rw [hx.2] at hl
  unfold rootsT at hs
  rw [List.mem_map] at hs
  obtain ⟨k, hk, rfl⟩ := hs
  rw [List.mem_range] at hk
  obtain ⟨q1, q2, _⟩ := Tr.turn_at c1 c3 (k := k) (by omega)
  rw [c4, hx.2] at q1
  rw [← q1]
  exact Tr.tx_txt q2
theorem freeForm_any (x : List UInt8) (w : World) (hx : Tr.isTx x = true) : Calls Try.prog 93 #[.string ⟨x.toArray⟩] w fun e w' => e = .returned (.string ⟨(minT (rootsT x)).toArray⟩) ∧ Below w.heap.size w w' := by
  have h2 := (Tr.br_parts hx).1
  have C0 := roots_any x w hx
  have HS : Hid (∀ s ∈ rootsT x, s.length ≤ 1048576) := fun s hs => by have := (Tr.br_parts (roots_tx hx s hs)).1.2; omega
  have HL := Lib.hid (rootsT_len x)
  obtain ⟨n, hn⟩ : ∃ n, n = x.length / 2 := ⟨_, rfl⟩
  rw [← hn] at C0 HL
  have h1 : 1 ≤ n := by omega
  have h8 : n ≤ 1048576 := by omega
  obtain ⟨X, hX⟩ : ∃ X : ByteArray, X = ⟨x.toArray⟩ := ⟨_, rfl⟩
  rw [← hX] at C0 ⊢
  clear hn hX hx h2
  go_enter Try.func93, Try.ntmps93
  go_wp2_with fail
  refine C0.mono ?_
  rintro e w1 ⟨rfl, own1, bel1⟩
  have hs1 := bel1.size
  have HB1 := Lib.hid bel1
  have HR := Lib.hid (row_of_own own1)
  clear own1 bel1 C0
  go_wp2_with fail
  refine (minFunc_any _ n n w1.heap.size (rootsT x) w1 HL.out h1 h8 HS.out (Nat.le_refl _) HR.out).mono ?_
  rintro e w2 ⟨rfl, bel2⟩
  have GB := Lib.hid (HB1.out.trans (bel2.mono hs1))
  obtain ⟨Z, hZ⟩ : ∃ Z : ByteArray, Z = ⟨(minT (rootsT x)).toArray⟩ := ⟨_, rfl⟩
  have HZ := Lib.hid hZ
  rw [← hZ]
  clear bel2 hZ
  go_wp2
  go_ret
  exact ⟨by rw [← HZ.out]; rfl, GB.out⟩
end Go.Proofs.Ytnnihdkhblbdgaa
/-
  All trees of a free tree with their numbers, plainly.
-/
namespace Go.Proofs.Ytnnihdkhblbdgaa
open Go.RowKit Fld
set_option linter.unusedVariables false
set_option linter.unusedSimpArgs false
set_option maxRecDepth 100000

def rootsL (t : List Int) : List (List Int × Int) := Tr.sumTo (Tr.turnF 9 t) t.length
theorem rootsTo_bd {t : List Int} (h : Tr.isLv t = true) {k : Nat} (hk : k ≤ t.length) : ∀ e ∈ Tr.sumTo (Tr.turnF 9 t) k, e.1.length ≤ 8 ∧ -1000000 ≤ e.2 ∧ e.2 ≤ 1000000 := fun e he => by
  obtain ⟨j, hj, q⟩ := Tr.sumTo_mem he
  have h1 := Tr.sumTo_le _ _ he
  have h8 := (lv_bd h).2
  have h2 := (turn_lv 9 t j h (by omega) (by omega)).2
  rw [← q] at h2
  omega
end Go.Proofs.Ytnnihdkhblbdgaa
/-
  The model's grafting on lists.
-/
namespace Go.Proofs.Ytnnihdkhblbdgaa
open Go.RowKit Fld
set_option linter.unusedVariables false
set_option linter.unusedSimpArgs false
set_option maxRecDepth 100000

theorem tw_step (p : Int → Bool) : ∀ (s : List Int) (j : Nat), j ≤ (s.takeWhile p).length → (j < (s.takeWhile p).length ↔ ∃ x, s[j]? = some x ∧ p x = true)
  | [], j, h => by simp
  | a :: s, j, h => by
    rw [List.takeWhile_cons] at h ⊢
    by_cases hp : p a = true
    · rw [if_pos hp] at h ⊢
      cases j with
      | zero => simp [hp]
      | succ j =>
        have ih := tw_step p s j (by simpa using h)
        simpa using ih
    · rw [if_neg hp] at h ⊢
      have h0 : j = 0 := by simpa using h
      subst h0
      simp [hp]
theorem end_step {t : List Int} {k q : Nat} (h1 : k + 1 ≤ q) (hq : q ≤ Tr.endL t k) : q < Tr.endL t k ↔ ∃ x, t[q]? = some x ∧ t.getD k 0 < x := by
  unfold Tr.endL at *
  have h2 := tw_step (fun y => decide (t.getD k 0 < y)) (t.drop (k + 1)) (q - (k + 1)) (by omega)
  rw [List.getElem?_drop, show k + 1 + (q - (k + 1)) = q from by omega] at h2
  simp only [decide_eq_true_eq] at h2
  rw [← h2]; omega
theorem l04End_any (A : Option Addr) (n c B k : Nat) (t : List Int) (w : World) (hl : t.length = n) (hn : n ≤ 1048576) (hk : k < n) (h : Row w B A (ints t)) :
    Calls Try.prog 105 #[.slice A n c, .int .i64 k] w fun e w' => e = .returned (.int .i64 ((Tr.endL t k : Nat) : Int)) ∧ ∃ m, w' = w.drewN m := by
  have HL := Lib.hid hl
  obtain ⟨y, hy⟩ := at_lt (show k < t.length by omega)
  have HY : Hid (t.getD k 0 = y) := by rw [Hid, List.getD_eq_getElem?_getD, hy]; rfl
  obtain ⟨b, o, rfl, hbB, hcy⟩ := h k _ (ints_at hy)
  have hE := Tr.endL_le (t := t) (k := k) (by omega)
  rw [hl] at hE
  obtain ⟨en, hen⟩ : ∃ en, en = Tr.endL t k := ⟨_, rfl⟩
  have HEN := Lib.hid hen
  rw [← hen] at hE ⊢
  clear hl hy hen
  go_enter Try.func105, Try.ntmps105
  go_wp2_with fail
  go_loopw [5] (fun e wr => ∃ (q m : Nat), k + 1 ≤ q ∧ q ≤ en ∧ e = .int .i64 q ∧ wr = w.drewN m) (fun e _ => en - (intOf e).toNat)
  case atStart => exact ⟨k + 1, 0, Nat.le_refl _, hE.1, by go_num, rfl⟩
  case round =>
    obtain ⟨q, m, h1, hq, rfl, rfl⟩ := hrel
    have HS := Lib.hid (end_step (t := t) h1 (by rw [← HEN.out]; exact hq))
    have hk0 : (0 : Int) ≤ (k : Int) := Int.natCast_nonneg _
    have hq0 : (0 : Int) ≤ (q : Int) := Int.natCast_nonneg _
    have hkn : (k : Int) < (n : Int) := by omega
    by_cases hqn : q < n
    · obtain ⟨x, hx⟩ := at_lt (show q < t.length by rw [HL.out]; exact hqn)
      obtain ⟨_, _, e1, _, hcx⟩ := h q _ (ints_at hx)
      cases e1
      have hqi : (q : Int) < (n : Int) := by omega
      have hd : decide ((q : Int) < (n : Int)) = true := decide_eq_true hqi
      by_cases hlt : y < x
      · have hqe : q < en := by
          rw [HEN.out]; refine HS.out.2 ⟨x, hx, ?_⟩
          rw [HY.out]; exact hlt
        have hd2 : decide (y < x) = true := decide_eq_true hlt
        clear hx HS
        go_wp2_with fail
        go_quiet (fail)
        go_wp2
        go_roundw
        case rel => exact ⟨q + 1, _, by omega, by omega, by go_num, rfl⟩
        case measure => simp [intOf]; omega
      · have hqe : q = en := by
          rcases Nat.lt_or_ge q en with g | g
          · rw [HEN.out] at g
            obtain ⟨x', hx', hlt'⟩ := HS.out.1 g
            rw [hx] at hx'; injection hx' with hx'
            rw [HY.out] at hlt'
            omega
          · omega
        have hd2 : decide (y < x) = false := decide_eq_false hlt
        clear hx HS
        subst hqe
        go_wp2_with fail
        go_quiet (fail)
        go_wp2
        go_ret
        exact ⟨rfl, m + nq, World.drewN_drewN ..⟩
    · have hqe : q = en := by omega
      have hqn2 : q = n := by omega
      have hd : decide ((q : Int) < (n : Int)) = false := decide_eq_false (by omega)
      clear HS
      subst hqe
      go_wp2_with fail
      go_quiet (fail)
      go_wp2
      go_ret
      exact ⟨rfl, m + nq, World.drewN_drewN ..⟩
theorem grf_take {u v : List Int} {en j : Nat} {x z : Int} (h : v[j]? = some x) : (u.take en ++ (v.take (j + 1)).map (z + ·)) = (u.take en ++ (v.take j).map (z + ·)) ++ [z + x] := by
  rw [List.take_add_one, h, Option.toList_some, List.map_append, List.append_assoc]; rfl
theorem ints_snoc' (l : List Int) (x : Int) : ints l ++ [.int .i64 x] = ints (l ++ [x]) := by simp [ints, intsK]
theorem ints_app (x y : List Int) : ints (x ++ y) = ints x ++ ints y := by unfold ints intsK; rw [List.map_append]
set_option maxHeartbeats 2000000 in
theorem l04Graft_any (A A' : Option Addr) (n n' c c' B B' k : Nat) (u v : List Int) (w : World) (hl : u.length = n) (hl' : v.length = n') (hn : n ≤ 8) (hn' : n' ≤ 8) (hk : k < n) (hc : n ≤ c) (hu : Tr.isLv u = true) (hv : Tr.isLv v = true) (hlv : Tr.isLv (Tr.gl u k v) = true) (hB : B ≤ w.heap.size) (hB' : B' ≤ w.heap.size) (h : Row w B A (ints u)) (h' : Row w B' A' (ints v)) :
    Calls Try.prog 80 #[.slice A n c, .int .i64 k, .slice A' n' c'] w (NewRow 2 (n + n') (ints (Tr.can (Tr.gl u k v))) w) := by
  obtain ⟨i0, hi, hz0, hz1, hz2⟩ := info_parts info_i64
  have HL := Lib.hid hl
  have HL' := Lib.hid hl'
  obtain ⟨y, hy⟩ := at_lt (show k < u.length by omega)
  have hyb := lv_el hu hy
  have HY : Hid (u.getD k 0 = y) := by rw [Hid, List.getD_eq_getElem?_getD, hy]; rfl
  obtain ⟨b, o, rfl, hbB, hcy⟩ := h k _ (ints_at hy)
  have hE := Tr.endL_le (t := u) (k := k) (by omega)
  rw [hl] at hE
  have C0 := l04End_any (some ⟨b, o, none⟩) n c B k u w hl (by omega) hk h
  obtain ⟨en, hen⟩ : ∃ en, en = Tr.endL u k := ⟨_, rfl⟩
  have HGL : Hid (Tr.gl u k v = u.take en ++ v.map (y + 1 + ·) ++ u.drop en) := by
    rw [Hid]; unfold Tr.gl; rw [← hen, HY.out, List.append_assoc]
  have HGN : Hid ((Tr.gl u k v).length = n + n') := by rw [Hid, Tr.gl_length (by rw [← hen, hl]; rw [← hen] at hE; exact hE.2), hl, hl']
  rw [← hen] at hE C0
  have HV := Lib.hid hv
  have HG := Lib.hid hlv
  have HTK : Hid ((u.take en).length = en) := by rw [Hid, List.length_take, hl]; omega
  have hen8 : en ≤ 8 := by omega
  have henc : (en : Int) ≤ (c : Int) := by omega
  have hen0 : (0 : Int) ≤ (en : Int) := Int.natCast_nonneg _
  clear hl hl' hy hen hu hv hlv
  go_enter Try.func80, Try.ntmps80
  go_wp2_with fail
  refine C0.mono ?_
  rintro e w1 ⟨rfl, m1, rfl⟩
  go_wp2_with fail
  refine (l01Own_any ⟨b, o, none⟩ en c B (u.take en) _ HTK.out (by omega) (by exact hB) (by
    have := Row.takeA (h.drewN m1) en
    unfold ints intsK at *
    rwa [← List.map_take] at this)).mono ?_
  rintro e w2 ⟨A2, c2, rfl, own2, bel2'⟩
  have bel2 : Below w.heap.size w w2 := below_undrew' bel2'
  have own2' : w2.ownsRow w.heap.size 2 1 (.slice A2 en c2) en (ints (u.take en)) := own2
  obtain ⟨g2, cap2, hv2⟩ := own_form own2' (by omega)
  injection hv2 with hA _ hcp
  subst hA hcp
  have F0 : Hid (Growing w 2 g2 (en + 0) c2 (ints (u.take en ++ (v.take 0).map (y + 1 + ·))) w2) := by
    rw [Hid, List.take_zero, List.map_nil, List.append_nil]; exact ⟨own2', bel2⟩
  clear own2 own2' bel2 bel2' C0
  go_wp2_with fail
  go_loopw [8, 9] (fun s i W => ∃ (j g cap : Nat), j ≤ n' ∧ s = .slice (some ⟨g, 0, none⟩) (en + j) cap ∧ i = .int .i64 j ∧ Growing w 2 g (en + j) cap (ints (u.take en ++ (v.take j).map (y + 1 + ·))) W) (fun _ i _ => n' - (intOf i).toNat)
  case atStart => exact ⟨0, g2, c2, Nat.zero_le _, rfl, rfl, F0.out⟩
  case round =>
    obtain ⟨j, g, cap, hj, rfl, rfl, HGr⟩ := hrel
    have hsz := HGr.2.size
    by_cases hlt : j < n'
    · obtain ⟨x, hx⟩ := at_lt (show j < v.length by rw [HL'.out]; exact hlt)
      obtain ⟨b', o', rfl, hb', hcx⟩ := (h'.below HGr.2 hB') j _ (ints_at hx)
      obtain ⟨x0, x8⟩ := lv_el HV.out hx
      have hcy2 : wr.cell? ⟨b, o + k, none⟩ = some (.int .i64 y) := (HGr.2.cell (p := ⟨b, o + k, none⟩) (by show b < w.heap.size; omega)).trans hcy
      have HXS := Lib.hid (grf_take (u := u) (en := en) (z := y + 1) hx)
      have HG' := Lib.hid HGr
      have hown : wr.drew.ownsRow w.heap.size 2 1 (.slice (some ⟨g, 0, none⟩) (en + j) cap) (en + j) (ints (u.take en ++ (v.take j).map (y + 1 + ·))) := ((OwnR.of HGr.1).keep (w' := wr.drew) fun _ _ _ => rfl).1
      have hy0 := hyb.1
      have hy8 := hyb.2
      have hcx' : wr.drew.cell? ⟨b', o' + j, none⟩ = some (.int .i64 x) := hcx
      have hcy' : wr.drew.cell? ⟨b, o + k, none⟩ = some (.int .i64 y) := hcy2
      have hwd : w.heap.size ≤ wr.drew.heap.size := hsz
      have hw1 : IntKind.i64.wrap (y + 1) = y + 1 := IntWalk.i64_in _ (by omega)
      have hw2 : IntKind.i64.wrap (y + 1 + x) = y + 1 + x := IntWalk.i64_in _ (by omega)
      have s0 : (0 : Int) ≤ (k : Int) := Int.natCast_nonneg _
      have s1 : (k : Int) < (n : Int) := by omega
      have s2 : (0 : Int) ≤ (j : Int) := Int.natCast_nonneg _
      have s3 : (j : Int) < (n' : Int) := by omega
      have HG : Hid (∀ (ob : Obj) (W2 : World) (g5 cap5 : Nat), W2.ownsRow w.heap.size 2 1 (.slice (some ⟨g5, 0, none⟩) (en + j + 1) cap5) (en + j + 1) (ints (u.take en ++ (v.take j).map (y + 1 + ·)) ++ [.int .i64 (y + 1 + x)]) → (wr.drew.alloc ob).grownBy W2 (Value.ownBlock (.slice (some ⟨g, 0, none⟩) (en + j) cap)) → Growing w 2 g5 (en + j + 1) cap5 (ints (u.take en ++ (v.take (j + 1)).map (y + 1 + ·))) W2) := fun ob W2 g5 cap5 hown5 hgrow5 => by
        rw [ints_snoc', ← HXS.out] at hown5
        exact HG'.out.step (show Below wr.heap.size wr (wr.drew.alloc ob) from (below_drew' (Below.refl _ _)).alloc (Nat.le_refl _) _) hown5 hgrow5
      clear hx HGr
      go_wp2_with fail
      go_region_law (first | (go_loud (refine step_append_lies _ (by rfl) _ _ 23 (by rfl) w.heap.size 2 i0 _ 1 8 Try.underlying23 hi hz0 hz1 hz2 rfl (by omega) (.slice (some ⟨g, 0, none⟩) (en + j) cap) (en + j) (ints (u.take en ++ (v.take j).map (y + 1 + ·))) rfl (hown.alloc _) ⟨wr.drew.heap.size, 0, none⟩ 1 1 [.int .i64 (y + 1 + x)] rfl rfl (World.news_of_block (cs := #[.int .i64 (y + 1 + x)]) (heap_alloc_new _ _)) (by simp [Value.oneCell']) (by omega) (by simp only [maxLen]; omega) (by omega) (by simp; omega) (wr.drew.heap.size + 1) (by simp) ?_); intro g4 cap4 w4 hown4 hgrow4 hat4 hlt4))
      all_goals
        have G := Lib.hid (HG.out _ _ _ _ hown4 hgrow4)
        clear hown4 hgrow4 hat4 hown
        go_wp2
        go_roundw
        case rel => exact ⟨j + 1, g4, cap4, by omega, rfl, by go_num, G.out⟩
        case measure => simp [intOf]; omega
    · obtain rfl : j = n' := by omega
      rw [show v.take j = v from List.take_of_length_le (by rw [HL'.out]; exact Nat.le_refl _)] at HGr
      have HB1 := Lib.hid HGr.2
      have hown := HGr.1
      have HOWN := Lib.hid hown
      have HROW := Lib.hid (h.below HGr.2 hB)
      have HDL : Hid ((ints (u.drop en)).length = (n - en) * 1) := by rw [Hid, ints_length, List.length_drop, HL.out]; omega
      have HON := Lib.hid (ints_cells (u.drop en))
      have HSUM : Hid (en + j + (n - en) = n + j) := by rw [Hid]; omega
      clear HGr
      have fin : ∀ (A9 : Option Addr) (c9 : Nat) (w9 : World), w9.ownsRow w.heap.size 2 1 (.slice A9 (n + j) c9) (n + j) (ints (Tr.gl u k v)) → Below w.heap.size w w9 → Calls Try.prog 107 #[.slice A9 (n + j) c9] w9 (NewRow 2 (n + j) (ints (Tr.can (Tr.gl u k v))) w) := by
        intro A9 c9 w9 ho hb
        refine (l03Canon_any A9 (n + j) c9 w9.heap.size (Tr.gl u k v) w9 HGN.out HG.out (Nat.le_refl _) (row_of_own ho)).mono ?_
        rintro e w10 ⟨A10, c10, rfl, own10, bel10⟩
        exact ⟨A10, c10, rfl, ((OwnR.of own10).more hb.size (Nat.le_refl _)).1, hb.trans (bel10.mono hb.size)⟩
      have HFIN := Lib.hid fin
      clear fin
      by_cases hec : en = c
      · have hz : n - en = 0 := by omega
        have HDZ : Hid ((ints (u.drop en)).length = 0 * 1) := by rw [Hid, HDL.out, hz]
        have HSZ : Hid (en + j + 0 = n + j) := by rw [Hid]; omega
        have HNW : Hid (∀ q z, (ints (u.drop en))[q]? = some z → wr.cell? ((⟨b, o, none⟩ : Addr).add q) = some z) := fun q z hz' => by
          have := HDL.out
          rw [hz, Nat.zero_mul] at this
          rw [List.length_eq_zero_iff.1 this] at hz'; simp at hz'
        go_wp2_with (at_builtin; go_loud (refine wpList_append_own _ rfl (.tmp 36) (.tmp 39) 23 rfl w.heap.size 2 i0 _ 1 8 Try.underlying23 hi hz0 hz1 hz2 rfl (by omega) (.slice (some ⟨g, 0, none⟩) (en + j) cap) (en + j) (ints (u.take en ++ v.map (y + 1 + ·))) rfl hown ⟨b, o, none⟩ 0 0 (ints (u.drop en)) rfl HDZ.out HNW.out HON.out (by simp only [maxLen]; omega) (by omega) (by omega) ?_); intro v5 w5 own5 hgrow5 _; rw [HSZ.out] at own5; obtain ⟨A5, c5, rfl⟩ := own_shape' own5)
        rw [← ints_app, ← HGL.out] at own5
        have GB : Hid (Below w.heap.size w w5) := HB1.out.grown hgrow5 (by omega) (fun z hz => (HOWN.out.lt z hz).1)
        have GO := Lib.hid own5
        clear own5 hgrow5 hown
        go_wp2_with fail
        refine (HFIN.out A5 c5 w5 GO.out GB.out).mono ?_
        rintro e w6 ⟨A6, c6, rfl, own6, bel6⟩
        have GF : Hid (NewRow 2 (n + j) (ints (Tr.can (Tr.gl u k v))) w (.returned (.slice A6 (n + j) c6)) w6) := ⟨_, _, rfl, own6, bel6⟩
        clear own6 bel6
        go_wp2
        go_ret
        exact GF.out
      · have HNW : Hid (∀ q z, (ints (u.drop en))[q]? = some z → wr.cell? ((⟨b, o + en, none⟩ : Addr).add q) = some z) := by
          have := Row.dropA (k := en) HROW.out
          have h9 := row_news this
          unfold ints intsK at *
          rwa [← List.map_drop] at h9
        go_wp2_with (at_builtin; go_loud (refine wpList_append_own _ rfl (.tmp 36) (.tmp 39) 23 rfl w.heap.size 2 i0 _ 1 8 Try.underlying23 hi hz0 hz1 hz2 rfl (by omega) (.slice (some ⟨g, 0, none⟩) (en + j) cap) (en + j) (ints (u.take en ++ v.map (y + 1 + ·))) rfl hown ⟨b, o + en, none⟩ (n - en) (c - en) (ints (u.drop en)) rfl HDL.out HNW.out HON.out (by simp only [maxLen]; omega) (by omega) (by omega) ?_); intro v5 w5 own5 hgrow5 _; rw [HSUM.out] at own5; obtain ⟨A5, c5, rfl⟩ := own_shape' own5)
        rw [← ints_app, ← HGL.out] at own5
        have GB : Hid (Below w.heap.size w w5) := HB1.out.grown hgrow5 (by omega) (fun z hz => (HOWN.out.lt z hz).1)
        have GO := Lib.hid own5
        clear own5 hgrow5 hown
        go_wp2_with fail
        refine (HFIN.out A5 c5 w5 GO.out GB.out).mono ?_
        rintro e w6 ⟨A6, c6, rfl, own6, bel6⟩
        have GF : Hid (NewRow 2 (n + j) (ints (Tr.can (Tr.gl u k v))) w (.returned (.slice A6 (n + j) c6)) w6) := ⟨_, _, rfl, own6, bel6⟩
        clear own6 bel6
        go_wp2
        go_ret
        exact GF.out
end Go.Proofs.Ytnnihdkhblbdgaa
/-
  An append in a drawn region; what a branch takes.
-/
namespace Go.Proofs.Ytnnihdkhblbdgaa
open Go.RowKit Fld
set_option linter.unusedVariables false
set_option linter.unusedSimpArgs false
set_option maxRecDepth 100000

theorem step_append_own' {P : Program} {w : World} {ops : Array Oper} {o : Oper} {a : Act} {K : Act → World → Prop} {Q : Exit → Act → World → Prop} {E : Prop} (hgd : o.guard = none) (s x : Operand) (t : TypeId)
    (ho : o.op = .call { callee := .builtin .append, args := #[s, x], argTypes := #[t, t] })
    (base : Nat) (e : TypeId) (i : TypeInfo) (z : Value) (size bytes : Nat) (ht : P.underlying t = some (.slice e)) (hi : P.info? e = some i) (hz : i.zero = some z)
    (hsize : i.size = size) (hby : i.bytes = bytes) (hzs : z.cells.size = size) (hsz : 0 < size)
    (v : Value) (n : Nat) (xs : List Value) (hs : a.eval s = v) (hown : w.ownsRow base e size v n xs)
    (ad : Addr) (m c : Nat) (news : List Value) (hx : a.eval x = .slice (some ad) m c) (hl : news.length = m * size) (hnews : ∀ j u, news[j]? = some u → w.cell? (ad.add j) = some u) (h1 : ∀ u ∈ news, u.oneCell' = true)
    (h63 : n + m ≤ maxLen) (hbytes : (n + m) * bytes ≤ 140737488355328) (hbase : base ≤ w.heap.size)
    (h : ∀ v' w', w'.ownsRow base e size v' (n + m) (xs ++ news) → w.grownBy w' v.ownBlock → (v' = .slice none 0 0 ↔ v = .slice none 0 0 ∧ m = 0) → K (a.put o.dst v') w') :
    if Region.wanted o (yielded ops a.tmps) = true then Oper.wp P o a w K Q else E := by
  have hw : Region.wanted o (yielded ops a.tmps) = true := by simp [Region.wanted, hgd]
  rw [if_pos hw]
  exact wp_append_own w s x t ho base e i z size bytes ht hi hz hsize hby hzs hsz v n xs hs hown ad m c news hx hl hnews h1 h63 hbytes hbase h
theorem branch_take {t : List Int} {k j : Nat} {x y : Int} (h : t[k + j]? = some x) : ((t.drop k).take (j + 1)).map (· - y) = ((t.drop k).take j).map (· - y) ++ [x - y] := by
  rw [List.take_add_one, List.getElem?_drop, h, Option.toList_some, List.map_append]; rfl
end Go.Proofs.Ytnnihdkhblbdgaa
/-
  The model's rerooting of lists.
-/
namespace Go.Proofs.Ytnnihdkhblbdgaa
open Go.RowKit Fld
set_option linter.unusedVariables false
set_option linter.unusedSimpArgs false
set_option maxRecDepth 100000

theorem parL_step {t : List Int} {x z : Int} {p : Nat} (h : t[p]? = some z) : Tr.parL t x (p + 1) = if z = x then p else Tr.parL t x p := by
  rw [Tr.parL, List.getD_eq_getElem?_getD, h]; rfl
def TurnAt (d : Nat) : Prop := ∀ (A : Option Addr) (n c B k : Nat) (t : List Int) (w : World), t.length = n → Tr.isLv t = true → k < n → k < d → n ≤ c → B ≤ w.heap.size → Row w B A (ints t) →
    Calls Try.prog 113 #[.slice A n c, .int .i64 k] w (NewRow 2 n (ints (Tr.turnF d t k)) w)
theorem turnAt_zero : TurnAt 0 := fun A n c B k t w _ _ _ hd _ _ _ => by omega
set_option maxHeartbeats 4000000 in
theorem turnAt_succ (d : Nat) (IH : TurnAt d) : TurnAt (d + 1) := by
  intro A n c B k t w hl ht hk hd hc hB h
  obtain ⟨i0, hi, hz0, hz1, hz2⟩ := info_parts info_i64
  have h8 := (lv_bd ht).2
  rw [hl] at h8
  cases k with
  | zero =>
    have C0 := l03Canon_any A n c B t w hl ht hB h
    have HZ : Hid (Tr.turnF (d + 1) t 0 = Tr.can t) := rfl
    rw [HZ.out]
    clear HZ hl ht
    go_enter Try.func113, Try.ntmps113
    go_wp2_with fail
    refine C0.mono ?_
    rintro e w1 ⟨A1, c1, rfl, own1, bel1⟩
    have G : Hid (NewRow 2 n (ints (Tr.can t)) w (.returned (.slice A1 n c1)) w1) := ⟨_, _, rfl, own1, bel1⟩
    clear own1 bel1 C0
    go_wp2
    go_ret
    exact G.out
  | succ k =>
    obtain ⟨p1, p2, p3, p4, p5⟩ := Tr.par_parts ht (k := k) (by omega)
    obtain ⟨i1, i2⟩ := turn_lv d _ _ p4 p3 (by omega)
    have l1 := trunk_length (t := t) (k := k + 1) (by omega)
    have l2 := branch_length (t := t) (k := k + 1) (by omega)
    have hE := Tr.endL_le (t := t) (k := k + 1) (by omega)
    rw [hl] at hE
    have C0 := fun W (hb : Below w.heap.size w W) => l04End_any A n c B (k + 1) t W hl (by omega) hk (Row.below h hb hB)
    obtain ⟨g1, g2⟩ := Tr.graft_root p5 i1 (by rw [i2, l1, l2, hl]; omega)
    have HTF : Hid (Tr.turnF (d + 1) t (k + 1) = Tr.can (Tr.gl (Tr.branchL t (k + 1)) 0 (Tr.turnF d (Tr.trunkL t (k + 1)) (Tr.parL t (t.getD (k + 1) 0 - 1) (k + 1))))) := rfl
    rw [HTF.out]
    obtain ⟨y, hy⟩ := at_lt (show k + 1 < t.length by omega)
    have hyb := lv_el ht hy
    have hyd : t.getD (k + 1) 0 = y := by rw [List.getD_eq_getElem?_getD, hy]; rfl
    have HRD : Hid (Tr.branchL t (k + 1) = ((t.drop (k + 1)).take (Tr.endL t (k + 1) - (k + 1))).map (· - y)) := by rw [Hid, ← hyd]; rfl
    have HTD : Hid (Tr.trunkL t (k + 1) = t.take (k + 1) ++ t.drop (Tr.endL t (k + 1))) := rfl
    rw [hyd] at p1 p2 p3 g2 i1 i2 ⊢
    obtain ⟨b, o, rfl, hbB, hcy⟩ := h (k + 1) _ (ints_at hy)
    obtain ⟨en, hen⟩ : ∃ en, en = Tr.endL t (k + 1) := ⟨_, rfl⟩
    obtain ⟨pr, hpr⟩ : ∃ pr, pr = Tr.parL t (y - 1) (k + 1) := ⟨_, rfl⟩
    simp only [← hen] at C0
    rw [← hen] at hE l1 l2 HRD HTD
    rw [hl] at l1
    rw [← hpr] at p1 p2 p3 g2 i1 i2 ⊢
    have HPR := Lib.hid hpr
    have HP1 := Lib.hid p1
    have HTT := Lib.hid p4
    have HRR := Lib.hid p5
    have HI1 := Lib.hid i1
    have HI2 : Hid ((Tr.turnF d (Tr.trunkL t (k + 1)) pr).length = n - (en - (k + 1))) := by rw [Hid, i2, l1]
    have HTL := Lib.hid l1
    have HRL := Lib.hid l2
    have HG2 := Lib.hid g2
    have HT := Lib.hid ht
    have HL := Lib.hid hl
    have hp3 : pr < n - (en - (k + 1)) := by rw [← l1]; exact p3
    have hen8 : en ≤ 8 := by omega
    have tk := beq_f (show ¬ ((k + 1 : Nat) : Int) = 0 by omega)
    obtain ⟨kk, hkk⟩ : ∃ kk, kk = k + 1 := ⟨_, rfl⟩
    have hkm : ((k + 1 : Nat) : Int) - 1 = (k : Int) := by omega
    simp only [← hkk] at C0
    rw [← hkk] at tk hkm hcy hE hk hpr HPR HRD HTD HTL HRL HTT HRR HI1 HI2 HG2 hp3 ⊢
    have hk1 : 1 ≤ kk := by omega
    have hk2 : k < kk := by omega
    have hk3 : kk ≤ k + 1 := by omega
    have HKK := Lib.hid hkk
    clear hkk
    clear hl ht hy hen hpr p1 p3 p4 p5 g1 g2 i1 i2 l1 l2 hyd HTF
    go_enter Try.func113, Try.ntmps113
    go_wp2_with fail
    go_loopw [5] (fun pv wr => ∃ (p m : Nat), p ≤ k ∧ pv = .int .i64 p ∧ wr = w.drewN m ∧ Hid (Tr.parL t (y - 1) (p + 1) = pr)) (fun pv _ => (intOf pv).toNat)
    case atStart => exact ⟨k, 0, Nat.le_refl _, by go_num, rfl, by rw [Hid, HPR.out, HKK.out]⟩
    case round =>
      obtain ⟨p, m, hp, rfl, rfl, HPP⟩ := hrel
      obtain ⟨x, hx⟩ := at_lt (show p < t.length by rw [HL.out]; omega)
      obtain ⟨x0, x8⟩ := lv_el HT.out hx
      obtain ⟨_, _, e1, _, hcx⟩ := h p _ (ints_at hx)
      cases e1
      have HST := Lib.hid (parL_step (x := y - 1) hx)
      have s0 : (0 : Int) ≤ (p : Int) := Int.natCast_nonneg _
      have s1 : (p : Int) < (n : Int) := by omega
      have s2 : (0 : Int) ≤ (kk : Int) := Int.natCast_nonneg _
      have s3 : (kk : Int) < (n : Int) := by omega
      have hy0 := hyb.1
      have hy8 := hyb.2
      have hw1 : IntKind.i64.wrap (y - 1) = y - 1 := IntWalk.i64_in _ (by omega)
      by_cases hxe : x = y - 1
      · have HPE : Hid (pr = p) := by rw [Hid, ← HPP.out, HST.out, if_pos hxe]
        have tx := beq_t hxe
        clear hx HST HPP
        go_wp2_with fail
        go_quiet (fail)
        go_wp2_with fail
        refine (C0 _ (below_drewN (Below.refl _ _) _)).mono ?_
        rintro e w1 ⟨rfl, m1, rfl⟩
        have hWz : Hid (Below w.heap.size w (w.drewN (m + nq + m1))) := below_drewN (Below.refl _ _) _
        go_wp2_with fail
        go_loopw [7, 8] (fun s i W => ∃ (j g cap : Nat), j ≤ en - kk ∧ s = .slice (some ⟨g, 0, none⟩) j cap ∧ i = .int .i64 ((kk + j : Nat) : Int) ∧ Growing w 2 g j cap (ints (((t.drop kk).take j).map (· - y))) W) (fun _ i _ => en - (intOf i).toNat)
        case atStart => exact ⟨0, _, 0, Nat.zero_le _, rfl, by go_num, ⟨(Growing.start (w.drewN (m + nq + m1)) 2).1, hWz.out.alloc (Nat.le_refl _) _⟩⟩
        case round =>
          obtain ⟨j, g, cap, hj, rfl, rfl, HGr⟩ := hrel
          have hsz := HGr.2.size
          by_cases hlt : kk + j < en
          · obtain ⟨x, hx⟩ := at_lt (show kk + j < t.length by rw [HL.out]; omega)
            obtain ⟨x0, x8⟩ := lv_el HT.out hx
            obtain ⟨_, _, e1, _, hcx⟩ := (Row.below h HGr.2 hB) (kk + j) _ (ints_at hx)
            cases e1
            have hcy2 : wr.cell? ⟨b, o + kk, none⟩ = some (.int .i64 y) := (HGr.2.cell (p := ⟨b, o + kk, none⟩) (by show b < w.heap.size; omega)).trans hcy
            have HXS := Lib.hid (branch_take (y := y) hx)
            have HG' := Lib.hid HGr
            have hown : wr.drew.ownsRow w.heap.size 2 1 (.slice (some ⟨g, 0, none⟩) j cap) j (ints (((t.drop kk).take j).map (· - y))) := ((OwnR.of HGr.1).keep (w' := wr.drew) fun _ _ _ => rfl).1
            have hcx' : wr.drew.cell? ⟨b, o + (kk + j), none⟩ = some (.int .i64 x) := hcx
            have hcy' : wr.drew.cell? ⟨b, o + kk, none⟩ = some (.int .i64 y) := hcy2
            have hwd : w.heap.size ≤ wr.drew.heap.size := hsz
            have hw2 : IntKind.i64.wrap (x - y) = x - y := IntWalk.i64_in _ (by omega)
            obtain ⟨q, hq⟩ : ∃ q, q = kk + j := ⟨_, rfl⟩
            have HQ := Lib.hid hq
            rw [← hq] at hcx' hlt ⊢
            have s5 : (0 : Int) ≤ (q : Int) := Int.natCast_nonneg _
            have s6 : (q : Int) < (n : Int) := by omega
            have s4 : (q : Int) < (en : Int) := by omega
            have HG : Hid (∀ (ob : Obj) (W2 : World) (g5 cap5 : Nat), W2.ownsRow w.heap.size 2 1 (.slice (some ⟨g5, 0, none⟩) (j + 1) cap5) (j + 1) (ints (((t.drop kk).take j).map (· - y)) ++ [.int .i64 (x - y)]) → (wr.drew.alloc ob).grownBy W2 (Value.ownBlock (.slice (some ⟨g, 0, none⟩) j cap)) → Growing w 2 g5 (j + 1) cap5 (ints (((t.drop kk).take (j + 1)).map (· - y))) W2) := fun ob W2 g5 cap5 hown5 hgrow5 => by
              rw [ints_snoc', ← HXS.out] at hown5
              exact HG'.out.step (show Below wr.heap.size wr (wr.drew.alloc ob) from (below_drew' (Below.refl _ _)).alloc (Nat.le_refl _) _) hown5 hgrow5
            clear hx HGr hq hcx hcy2
            go_wp2_with fail
            go_region_law (first | (go_loud (refine step_append_lies _ (by rfl) _ _ 23 (by rfl) w.heap.size 2 i0 _ 1 8 Try.underlying23 hi hz0 hz1 hz2 rfl (by omega) (.slice (some ⟨g, 0, none⟩) j cap) j (ints (((t.drop kk).take j).map (· - y))) rfl (hown.alloc _) ⟨wr.drew.heap.size, 0, none⟩ 1 1 [.int .i64 (x - y)] rfl rfl (World.news_of_block (cs := #[.int .i64 (x - y)]) (heap_alloc_new _ _)) (by simp [Value.oneCell']) (by omega) (by simp only [maxLen]; omega) (by omega) (by simp; omega) (wr.drew.heap.size + 1) (by simp) ?_); intro g4 cap4 w4 hown4 hgrow4 hat4 hlt4))
            all_goals
              have G := Lib.hid (HG.out _ _ _ _ hown4 hgrow4)
              clear hown4 hgrow4 hat4 hown
              go_wp2
              go_roundw
              case rel => exact ⟨j + 1, g4, cap4, by have := HQ.out; omega, rfl, by have := HQ.out; go_num, G.out⟩
              case measure => simp [intOf]; omega
          · have hje : j = en - kk := by omega
            have hke : kk + j = en := by omega
            rw [hje, ← HRD.out, ← hje] at HGr
            have HB1 := Lib.hid HGr.2
            have HO1 := Lib.hid HGr.1
            have hs1 := HGr.2.size
            have HROW := Lib.hid (Row.below h HGr.2 hB)
            have hkc : (kk : Int) ≤ (c : Int) := by omega
            have henc : (en : Int) ≤ (c : Int) := by omega
            have HTK : Hid ((t.take kk).length = kk) := by rw [Hid, List.length_take, HL.out]; omega
            have HDL : Hid ((ints (t.drop en)).length = (n - en) * 1) := by rw [Hid, ints_length, List.length_drop, HL.out]; omega
            have HON := Lib.hid (ints_cells (t.drop en))
            have HSUM : Hid (kk + (n - en) = n - (en - kk)) := by rw [Hid]; omega
            clear HGr C0
            rw [hke]
            clear hje hke
            have HLR : Hid ((Tr.branchL t kk).length = j) := by rw [Hid, ← ints_length, own_len HO1.out]
            have CO : ∀ W, Below wr.heap.size wr W → Calls Try.prog 106 #[.slice (some ⟨b, o, none⟩) kk c] W (fun e W' => ∃ A' c', e = .returned (.slice A' kk c') ∧ W'.ownsRow W.heap.size 2 1 (.slice A' kk c') kk (ints (t.take kk)) ∧ Below W.heap.size W W') := fun W hb =>
              l01Own_any ⟨b, o, none⟩ kk c B (t.take kk) W HTK.out (by omega) (by have := hb.size; omega) (by
                have := Row.takeA (Row.below HROW.out hb (by omega)) kk
                unfold ints intsK at *
                rwa [← List.map_take] at this)
            have BW : Below wr.heap.size wr wr.drew := below_drew' (Below.refl _ _)
            have HNW : Hid (∀ (AE : Addr), (if c = en then (some ⟨b, o, none⟩ : Option Addr) else some ⟨b, o + en, none⟩) = some AE → ∀ W, Below wr.heap.size wr W → ∀ q z, (ints (t.drop en))[q]? = some z → W.cell? (AE.add q) = some z) := fun AE hAE W hb q z hz => by
              by_cases hc2 : c = en
              · have h0 : (ints (t.drop en)).length = 0 := by rw [HDL.out]; omega
                rw [List.length_eq_zero_iff.1 h0] at hz; simp at hz
              · rw [if_neg hc2] at hAE
                injection hAE with hAE
                subst hAE
                have h9 := row_news (Row.dropA (k := en) (Row.below HROW.out hb (by omega)))
                unfold ints intsK at *
                rw [← List.map_drop] at h9
                exact h9 q z hz
            obtain ⟨AE, hAE⟩ : ∃ AE, (if c = en then (some ⟨b, o, none⟩ : Option Addr) else some ⟨b, o + en, none⟩) = some AE := by
              by_cases hc2 : c = en
              · exact ⟨_, if_pos hc2⟩
              · exact ⟨_, if_neg hc2⟩
            have HNX := Lib.hid (HNW.out AE hAE)
            clear HNW
            have hn' : n - en ≤ 8 := by omega
            have hpe := HPE.out
            subst hpe
            go_wp2_with fail
            refine wp_region_noPanic ?_
            refine wp_region_held_drew (S := (fun w' => True)) (by kernel_rfl) ?_ (fun hHeld => ?_)
            · trivial
            refine wpAnyH_take (i := 0) (oi := _) (v := ?_) rfl (by kernel_rfl) (by kernel_rfl) (by kernel_rfl) (fun _ _ _ h => h) (Or.inl ⟨by kernel_rfl, ?_⟩) (by assumption) ?_
            rotate_left
            · (intro w hSw; (try dsimp only at hSw); go_simp; try (with_reducible rfl))
            try simp only [Act.put, List.setIfInBounds_toArray, List.set_cons_zero, List.set_cons_succ, List.getElem_toArray, List.getElem_cons_zero, List.getElem_cons_succ]
            refine wpAnyH_take (i := 1) (oi := _) (v := ?_) rfl (by kernel_rfl) (by kernel_rfl) (by kernel_rfl) (fun _ _ _ h => h) (Or.inl ⟨by kernel_rfl, ?_⟩) (by assumption) ?_
            rotate_left
            · (intro w hSw; (try dsimp only at hSw); go_simp; try (with_reducible rfl))
            try simp only [Act.put, List.setIfInBounds_toArray, List.set_cons_zero, List.set_cons_succ, List.getElem_toArray, List.getElem_cons_zero, List.getElem_cons_succ]
            refine wpAnyH_take (i := 2) (oi := _) (v := ?_) rfl (by kernel_rfl) (by kernel_rfl) (by kernel_rfl) (fun _ _ _ h => h) (Or.inl ⟨by kernel_rfl, ?_⟩) (by assumption) ?_
            rotate_left
            · (intro w hSw; (try dsimp only at hSw); go_simp; try (with_reducible rfl))
            try simp only [Act.put, List.setIfInBounds_toArray, List.set_cons_zero, List.set_cons_succ, List.getElem_toArray, List.getElem_cons_zero, List.getElem_cons_succ]
            refine wpAnyH_take (i := 4) (oi := _) (v := ?_) rfl (by kernel_rfl) (by kernel_rfl) (by kernel_rfl) (fun _ _ _ h => h) (Or.inl ⟨by kernel_rfl, ?_⟩) (by assumption) ?_
            rotate_left
            · (intro w hSw; (try dsimp only at hSw); go_simp; try (with_reducible rfl))
            try simp only [Act.put, List.setIfInBounds_toArray, List.set_cons_zero, List.set_cons_succ, List.getElem_toArray, List.getElem_cons_zero, List.getElem_cons_succ]
            refine wpAnyH_take (i := 5) (oi := _) (v := ?_) rfl (by kernel_rfl) (by kernel_rfl) (by kernel_rfl) (fun _ _ _ h => h) (Or.inl ⟨by kernel_rfl, ?_⟩) (by assumption) ?_
            rotate_left
            · (intro w hSw; (try dsimp only at hSw); go_simp; try (with_reducible rfl))
            try simp only [Act.put, List.setIfInBounds_toArray, List.set_cons_zero, List.set_cons_succ, List.getElem_toArray, List.getElem_cons_zero, List.getElem_cons_succ]
            refine wpAnyH_take (i := 6) (oi := _) (v := ?_) rfl (by kernel_rfl) (by kernel_rfl) (by kernel_rfl) (fun _ _ _ h => h) (Or.inl ⟨by kernel_rfl, ?_⟩) (by assumption) ?_
            rotate_left
            · (intro w hSw; (try dsimp only at hSw); go_simp; try (with_reducible rfl))
            try simp only [Act.put, List.setIfInBounds_toArray, List.set_cons_zero, List.set_cons_succ, List.getElem_toArray, List.getElem_cons_zero, List.getElem_cons_succ]
            refine wpAnyH_ready (rs := [3]) (by kernel_rfl) (by simp) (AllReadyH.cons (o := _) rfl (fun K hK => ?_) AllReadyH.nil)
            go_simp
            (go_at_call 106; refine (CO _ BW).mono ?_; rintro e w2 ⟨A2, c2, rfl, own2', bel⟩)
            have own2 := OwnR.of own2'
            have lz2 := BW.size
            have zz2 := bel.size
            replace BW := BW.trans (bel.mono BW.size)
            clear own2' bel
            go_wp2_with fail
            refine hK.out _ _ ?_ (fun hHeld => ?_)
            · trivial
            clear hK K
            try simp only [Act.put, List.setIfInBounds_toArray, List.set_cons_zero, List.set_cons_succ, List.getElem_toArray, List.getElem_cons_zero, List.getElem_cons_succ]
            refine wpAnyH_ready (rs := [7]) (by kernel_rfl) (by simp) (AllReadyH.cons (o := _) rfl (fun K hK => ?_) AllReadyH.nil)
            refine step_append_own' (by rfl) _ _ 23 (by rfl) _ 2 i0 _ 1 8 Try.underlying23 hi hz0 hz1 hz2 rfl (by omega) (.slice A2 kk c2) kk (ints (t.take kk)) (by rfl) own2.1 AE (n - en) (c - en) (ints (t.drop en)) (by rfl) HDL.out (HNX.out _ BW) HON.out (by simp only [maxLen]; omega) (by omega) (by omega) ?_
            intro v3 w3 own3' hgrow3 _
            rw [HSUM.out] at own3'
            obtain ⟨A3, c3, rfl⟩ := own_shape' own3'
            rw [← ints_app, ← HTD.out] at own3'
            have own3 := Lib.hid (OwnR.of own3')
            have zz3 := hgrow3.size
            replace BW := BW.grown hgrow3 BW.size (fun z hz => by have := (own2.1.lt z hz).1; omega)
            clear own3' hgrow3 own2
            refine hK.out _ _ ?_ (fun hHeld => ?_)
            · trivial
            clear hK K
            try simp only [Act.put, List.setIfInBounds_toArray, List.set_cons_zero, List.set_cons_succ, List.getElem_toArray, List.getElem_cons_zero, List.getElem_cons_succ]
            refine wpAnyH_take (i := 8) (oi := _) (v := ?_) rfl (by kernel_rfl) (by kernel_rfl) (by kernel_rfl) (fun _ _ _ h => h) (Or.inl ⟨by kernel_rfl, ?_⟩) (by assumption) ?_
            rotate_left
            · (intro w hSw; (try dsimp only at hSw); go_simp; try (with_reducible rfl))
            try simp only [Act.put, List.setIfInBounds_toArray, List.set_cons_zero, List.set_cons_succ, List.getElem_toArray, List.getElem_cons_zero, List.getElem_cons_succ]
            refine wpAnyH_done (by kernel_rfl) ?_ _
            refine NoPanic.normal ?_
            have HB3 := Lib.hid (HB1.out.trans (BW.mono hs1))
            have HBW := Lib.hid BW
            have hs3 := HB3.out.size
            have hc3 := (own_cap own3.out.1).1
            clear BW CO
            have hj8 : j ≤ 8 := by omega
            go_wp2_with fail
            refine (IH A3 (n - (en - kk)) c3 w3.heap.size pr (Tr.trunkL t kk) w3 HTL.out HTT.out hp3 (by omega) hc3 (Nat.le_refl _) (row_of_own own3.out.1)).mono ?_
            rintro e w5 ⟨A5, c5, rfl, own5, bel5⟩
            have HB5 := Lib.hid (HB3.out.trans (bel5.mono hs3))
            have R5 := Lib.hid (row_of_own own5)
            have HRB : Hid (Row w5 w5.heap.size (some ⟨g, 0, none⟩) (ints (Tr.branchL t kk))) := (Row.below (Row.below (row_of_own HO1.out) HBW.out (Nat.le_refl _)) bel5 (by have := HBW.out.size; omega)).more (by have := HBW.out.size; have := bel5.size; omega)
            have hc1 := (own_cap HO1.out).1
            clear own5 bel5
            go_wp2_with fail
            refine (l04Graft_any (some ⟨g, 0, none⟩) A5 j (n - (en - kk)) cap c5 w5.heap.size w5.heap.size 0 (Tr.branchL t kk) (Tr.turnF d (Tr.trunkL t kk) pr) w5 HLR.out HI2.out hj8 (by omega) (by omega) hc1 HRR.out HI1.out HG2.out (Nat.le_refl _) (Nat.le_refl _) HRB.out R5.out).mono ?_
            rintro e w6 ⟨A6, c6, rfl, own6, bel6⟩
            have HS6 : Hid (j + (n - (en - kk)) = n) := by rw [Hid]; omega
            have hs5 := HB5.out.size
            rw [HS6.out] at own6 ⊢
            have G : Hid (NewRow 2 n (ints (Tr.can (Tr.gl (Tr.branchL t kk) 0 (Tr.turnF d (Tr.trunkL t kk) pr)))) w (.returned (.slice A6 n c6)) w6) := ⟨_, _, rfl, ((OwnR.of own6).more hs5 (Nat.le_refl _)).1, HB5.out.trans (bel6.mono hs5)⟩
            clear own6 bel6
            go_wp2
            go_ret
            exact G.out
      · have HPE : Hid (Tr.parL t (y - 1) p = pr) := by rw [Hid, ← HPP.out, HST.out, if_neg hxe]
        have hp1 : 1 ≤ p := by
          rcases Nat.eq_zero_or_pos p with z | z
          · exfalso
            subst z
            have e := HPE.out
            rw [Tr.parL] at e
            have := HP1.out
            rw [← e, List.getD_eq_getElem?_getD, hx] at this
            exact hxe this
          · exact z
        have tx := beq_f hxe
        clear hx HST HPP
        go_wp2_with fail
        go_quiet (fail)
        go_wp2
        go_roundw
        case rel => exact ⟨p - 1, _, by omega, by go_num, rfl, by rw [Hid, show p - 1 + 1 = p from by omega]; exact HPE.out⟩
        case measure => simp [intOf]; omega
theorem turnAt_all : ∀ d, TurnAt d
  | 0 => turnAt_zero
  | d+1 => turnAt_succ d (turnAt_all d)
end Go.Proofs.Ytnnihdkhblbdgaa
/-
  The model's list of all trees of a free tree.
-/
namespace Go.Proofs.Ytnnihdkhblbdgaa
open Go.RowKit Fld
set_option linter.unusedVariables false
set_option linter.unusedSimpArgs false
set_option maxRecDepth 100000

set_option maxHeartbeats 2000000 in
theorem l04Roots_any (A : Option Addr) (n c B : Nat) (t : List Int) (w : World) (hl : t.length = n) (ht : Tr.isLv t = true) (hc : n ≤ c) (hB : B ≤ w.heap.size) (h : Row w B A (ints t)) :
    Calls Try.prog 89 #[.slice A n c] w (NewSum (rootsL t).length (rootsL t) w) := by
  have h8 := (lv_bd ht).2
  rw [hl] at h8
  have HBD : Hid (∀ k, k ≤ n → ∀ e ∈ Tr.sumTo (Tr.turnF 9 t) k, e.1.length ≤ 8 ∧ -1000000 ≤ e.2 ∧ e.2 ≤ 1000000) := fun k hk => rootsTo_bd ht (by omega)
  have HTL : Hid (∀ k, k < n → (Tr.turnF 9 t k).length = n) := fun k hk => by rw [(turn_lv 9 t k ht (by omega) (by omega)).2, hl]
  have HRT : Hid (rootsL t = Tr.sumTo (Tr.turnF 9 t) n) := by unfold rootsL; rw [hl]; rfl
  have HL := Lib.hid hl
  have HLV := Lib.hid ht
  clear hl ht
  go_enter Try.func89, Try.ntmps89
  go_wp2_with fail
  go_loopw [3, 4] (fun v i wr => ∃ (k q cap : Nat) (A' : Option Addr), k ≤ n ∧ v = .slice A' q cap ∧ i = .int .i64 k ∧ Hid ((Tr.sumTo (Tr.turnF 9 t) k).length = q) ∧ Hid (Sms wr A' (Tr.sumTo (Tr.turnF 9 t) k)) ∧ Hid (Below w.heap.size w wr) ∧ q ≤ cap ∧ cap ≤ maxLen) (fun _ i _ => n - (intOf i).toNat)
  case atStart => exact ⟨0, 0, 0, some ⟨w.heap.size, 0, none⟩, Nat.zero_le _, rfl, rfl, rfl, Sms.nil _ _, (Below.refl _ _).alloc (Nat.le_refl _) _, Nat.le_refl _, Nat.zero_le _⟩
  case round =>
    obtain ⟨k, q, cap, A', hk, rfl, rfl, HQ, HS, HB, hqc, hcm⟩ := hrel
    have hsz := HB.out.size
    have hq8 : q ≤ 8 := by have := Tr.sumTo_length (Tr.turnF 9 t) k; rw [HQ.out] at this; omega
    by_cases hlt : k < n
    · have CT := turnAt_all 9 A n c B k t wr HL.out HLV.out hlt (by omega) hc (by omega) (h.below HB.out hB)
      obtain ⟨T, hT⟩ : ∃ T, T = Tr.turnF 9 t k := ⟨_, rfl⟩
      have HST : Hid (Tr.sumTo (Tr.turnF 9 t) (k + 1) = Tr.putL (Tr.sumTo (Tr.turnF 9 t) k) T 1) := by rw [hT]; rfl
      have HTn : Hid (T.length = n) := by rw [hT]; exact HTL.out k hlt
      rw [← hT] at CT
      clear hT
      go_wp2_with fail
      refine CT.mono ?_
      rintro e w1 ⟨A1, c1, rfl, own1, bel1⟩
      have hs1 : wr.heap.size ≤ w1.heap.size := bel1.size
      have HS1 := HS.out.next bel1
      have HB1 := Lib.hid (HB.out.trans (bel1.mono hsz))
      have C1 := l04Put_any A' A1 q cap n c1 _ T 1 w1 HQ.out (by omega) (HBD.out k hk) (by omega) HTn.out (by omega) h8 HS1 (row_of_own own1)
      rw [← HST.out] at C1
      clear bel1 own1 HS1 CT
      go_wp2_with fail
      refine C1.mono ?_
      rintro e w2 ⟨A2, c2, rfl, hc2, hcm2, HS2, bel2⟩
      have HB2 := Lib.hid (HB1.out.trans (bel2.mono HB1.out.size))
      have HS2' := Lib.hid HS2
      obtain ⟨q2, hq2⟩ : ∃ q2, q2 = (Tr.sumTo (Tr.turnF 9 t) (k + 1)).length := ⟨_, rfl⟩
      rw [← hq2] at hc2 ⊢
      have HQ2 := Lib.hid hq2.symm
      clear bel2 HS2 C1 hq2
      go_wp2
      go_roundw
      case rel => exact ⟨k + 1, q2, c2, A2, by omega, rfl, by go_num, HQ2, HS2', HB2, hc2, hcm2⟩
      case measure => simp [intOf]; omega
    · have hkn : k = n := by omega
      have G : Hid (NewSum (rootsL t).length (rootsL t) w (.returned (.slice A' q cap)) wr) := by
        rw [Hid, HRT.out, ← hkn, HQ.out]
        exact ⟨A', cap, rfl, hqc, hcm, HS.out, HB.out⟩
      clear hkn
      go_wp2
      go_ret
      exact G.out
end Go.Proofs.Ytnnihdkhblbdgaa
/-
  A list in memory that is known by its cells alone.
-/
namespace Go.Proofs.Ytnnihdkhblbdgaa
open Go.RowKit Fld
set_option linter.unusedVariables false

/-- a list in memory below a bound: the model's -/
def LowRow (w : World) (hi : Nat) (A : Option Addr) (xs : List Int) : Prop := Row w hi A (ints xs)
theorem LowRow.below {w w' : World} {hi B : Nat} {A : Option Addr} {xs : List Int} (h : LowRow w hi A xs) (hb : Below B w w') (hB : hi ≤ B) : LowRow w' hi A xs := Row.below h hb hB
theorem LowRow.within {w w' : World} {hi lo' hi' : Nat} {A : Option Addr} {xs : List Int} (h : LowRow w hi A xs) (hb : Within lo' hi' w w') (hs : hi ≤ w.heap.size) (hd : hi ≤ lo') : LowRow w' hi A xs :=
  Row.keep h fun b o hbb => World.cell?_of_block (hb.block b (by omega) (by omega))
theorem LowRow.row {w : World} {hi : Nat} {A : Option Addr} {xs : List Int} (h : LowRow w hi A xs) : Row w hi A (ints xs) := h
theorem LowRow.drewN {w : World} {hi : Nat} {A : Option Addr} {xs : List Int} (h : LowRow w hi A xs) (k : Nat) : LowRow (w.drewN k) hi A xs := h
/-- a list beside a code, known by its cells -/
def ResLow (r : List Int × Int) (w : World) (e : Ending) (w' : World) : Prop :=
  r.1.length ≤ 1048576 ∧ ∃ A c, e = .returned (.tuple #[.slice A r.1.length c, .int .i64 r.2]) ∧ LowRow w' w'.heap.size A r.1 ∧ Below w.heap.size w w'
theorem ResLow.nil {r : List Int × Int} {w w' : World} {k : Int} (h : r = ([], k)) (hb : Below w.heap.size w w') : ResLow r w (.returned (.tuple #[.slice none 0 0, .int .i64 k])) w' := by
  subst h
  exact ⟨Nat.zero_le _, none, 0, rfl, Row.nil _ _ _, hb⟩
theorem ResLow.of {r : List Int × Int} {w w' : World} {A : Option Addr} {n c : Nat} {xs : List Int} {k : Int} (h : r = (xs, k)) (hl : xs.length = n) (hn : n ≤ 1048576)
    (ho : Row w' w'.heap.size A (ints xs)) (hb : Below w.heap.size w w') : ResLow r w (.returned (.tuple #[.slice A n c, .int .i64 k])) w' := by
  subst h; subst hl
  exact ⟨hn, A, c, rfl, ho, hb⟩
end Go.Proofs.Ytnnihdkhblbdgaa
/-
  The order of trees by lists and by texts.
-/
namespace Go.Proofs.Ytnnihdkhblbdgaa
open Go.RowKit Fld
set_option linter.unusedVariables false
set_option linter.unusedSimpArgs false
set_option maxRecDepth 100000

theorem lessL_asym : ∀ x y : List Int, Tr.lessL x y = true → Tr.lessL y x = false
  | [], [], _ => rfl
  | [], _ :: _, _ => rfl
  | _ :: _, [], h => by simp [Tr.lessL] at h
  | a :: x, b :: y, h => by
    rw [Tr.lessL] at h ⊢
    by_cases e : a = b
    · subst e
      rw [if_pos rfl] at h ⊢
      exact lessL_asym x y h
    · rw [if_neg e] at h
      rw [if_neg (fun e' => e e'.symm)]
      simp at h ⊢; omega
theorem beforeL_asym {x y : List Int} (h : Tr.beforeL x y = true) : Tr.beforeL y x = false := by
  unfold Tr.beforeL at h ⊢
  by_cases e : x.length = y.length
  · rw [if_neg (by simpa using e)] at h
    rw [if_neg (by simpa using e.symm)]
    exact lessL_asym _ _ h
  · rw [if_pos e] at h
    rw [if_pos (fun e' => e e'.symm)]
    simp at h ⊢; omega
theorem tr_lv {t : List Int} (h : isTr t = true) : Tr.isLv t = true ∧ Tr.can t = t := by
  unfold isTr at h
  rw [Bool.and_eq_true] at h
  have h2 := h.2
  unfold eqL at h2
  exact ⟨h.1, by simpa using h2⟩
theorem cmp_tr {s t : List Int} (hs : isTr s = true) (ht : isTr t = true) : decide (0 < Tr.cmpT (Tr.txt s) (Tr.txt t)) = Tr.beforeL t s := by
  obtain ⟨s1, s2⟩ := tr_lv hs
  obtain ⟨t1, t2⟩ := tr_lv ht
  rw [Tr.cmp_eq s1 t1, s2, t2]
  unfold Tr.cmpL
  cases h1 : Tr.beforeL s t
  · cases h2 : Tr.beforeL t s <;> simp
  · rw [beforeL_asym h1]; simp
theorem cmpT_swap {a b : List UInt8} (h : ¬ Tr.cmpT a b < 0) : Tr.cmpT b a ≤ 0 := by
  unfold Tr.cmpT at *
  by_cases h1 : a.length / 2 < b.length / 2
  · rw [if_pos h1] at h; omega
  · rw [if_neg h1] at h
    by_cases h2 : b.length / 2 < a.length / 2
    · rw [if_pos h2]; omega
    · rw [if_neg h2] at h
      rw [if_neg h2, if_neg h1]
      by_cases h3 : Tr.ltS a b = true
      · rw [if_pos h3] at h; omega
      · rw [if_neg h3] at h
        by_cases h4 : Tr.ltS b a = true
        · rw [if_pos h4]; omega
        · rw [if_neg h4, if_neg h3]; omega
theorem leT_self (a : List UInt8) : Tr.leT a a = true := by
  unfold Tr.leT
  have : Tr.cmpT a a ≤ 0 := by
    by_cases h : Tr.cmpT a a < 0
    · omega
    · exact cmpT_swap h
  exact decide_eq_true this
theorem leT_txt {s t : List Int} (hs : isTr s = true) (ht : isTr t = true) : Tr.leT (Tr.txt s) (Tr.txt t) = !Tr.beforeL t s := by
  rw [← cmp_tr hs ht]
  unfold Tr.leT
  by_cases h : Tr.cmpT (Tr.txt s) (Tr.txt t) ≤ 0
  · rw [decide_eq_true h, decide_eq_false (by omega)]; rfl
  · rw [decide_eq_false h, decide_eq_true (by omega)]; rfl
theorem isTr_of {t : List Int} (h : Tr.isLv t = true) (hc : Tr.can t = t) : isTr t = true := by
  unfold isTr
  rw [h, hc, eqL_self]; rfl
end Go.Proofs.Ytnnihdkhblbdgaa
/-
  The free form of a tree: the least one of its rerooted trees, the program's and the model's.
-/
namespace Go.Proofs.Ytnnihdkhblbdgaa
open Go.RowKit Fld
set_option linter.unusedVariables false
set_option linter.unusedSimpArgs false
set_option maxRecDepth 100000

/-- what minTo hands back is one of them, and no later than each -/
theorem minTo_least (ss : List (List UInt8)) : ∀ k, 1 ≤ k → k ≤ ss.length → (∃ j, j < k ∧ ss[j]? = some (minTo ss k)) ∧ ∀ i s, i < k → ss[i]? = some s → Tr.leT (minTo ss k) s = true
  | 0, h, _ => by omega
  | 1, _, h => by
    rw [minTo_one]
    have e : ss[0]? = some (ss.getD 0 []) := by rw [List.getD_eq_getElem?_getD, List.getElem?_eq_getElem (by omega)]; rfl
    exact ⟨⟨0, by omega, e⟩, fun i s hi hs => by
      rw [show i = 0 by omega, e] at hs; injection hs with hs; rw [← hs]; exact leT_self _⟩
  | k+2, _, h => by
    obtain ⟨⟨j, hj, ej⟩, hm⟩ := minTo_least ss (k + 1) (by omega) (by omega)
    obtain ⟨s, hs⟩ := at_lt (show k + 1 < ss.length by omega)
    rw [minTo_step (by omega) hs]
    split
    · rename_i hc
      have h1 : Tr.leT s (minTo ss (k + 1)) = true := decide_eq_true (by omega)
      exact ⟨⟨k + 1, by omega, hs⟩, fun i s' hi hs' => by
        by_cases e : i = k + 1
        · rw [e, hs] at hs'; injection hs' with hs'; rw [← hs']; exact leT_self _
        · exact Tr.leT_tr h1 (hm i s' (by omega) hs')⟩
    · rename_i hc
      have h1 : Tr.leT (minTo ss (k + 1)) s = true := decide_eq_true (cmpT_swap hc)
      exact ⟨⟨j, by omega, ej⟩, fun i s' hi hs' => by
        by_cases e : i = k + 1
        · rw [e, hs] at hs'; injection hs' with hs'; rw [← hs']; exact h1
        · exact hm i s' (by omega) hs'⟩
/-- the free form -/
def freeL (t : List Int) : List Int := ((rootsL t).getD 0 ([], 0)).1
theorem free_parts {t : List Int} (h : Tr.isLv t = true) : (∃ x, (rootsL t)[0]? = some (freeL t, x)) ∧ Tr.txt (freeL t) = minT (rootsT (Tr.txt t)) ∧ Tr.isLv (freeL t) = true ∧ Tr.can (freeL t) = freeL t ∧ (freeL t).length = t.length := by
  obtain ⟨c1, c2⟩ := lv_can h
  obtain ⟨c3, c4⟩ := Tr.can_can h
  have hn := (lv_txt h).2.2.2
  have h1 := (lv_bd h).1
  have hlen : (rootsT (Tr.txt t)).length = t.length := by rw [rootsT_len, hn]; omega
  have hat : ∀ k, k < t.length → (rootsT (Tr.txt t))[k]? = some (Tr.txt (Tr.turnF 9 (Tr.can t) k)) := fun k hk => by
    rw [rootsT_at (by rw [hn]; omega)]
    have := (Tr.turn_at c1 c3 (k := k) (by omega)).1
    rw [c4] at this
    rw [this]
  have hu := fun k (hk : k < t.length) => (Tr.turn_at c1 c3 (k := k) (by omega)).2
  obtain ⟨⟨j, hj, ej⟩, hm⟩ := minTo_least (rootsT (Tr.txt t)) t.length (by omega) (by omega)
  rw [hat j hj] at ej
  injection ej with ej
  have hmem := (Tr.turns_perm h).mem_iff (a := Tr.turnF 9 (Tr.can t) j)
  obtain ⟨k0, hk0, e0⟩ : ∃ k0, k0 < t.length ∧ Tr.turnF 9 t k0 = Tr.turnF 9 (Tr.can t) j := by
    have := hmem.2 (by unfold Tr.turnsL; rw [List.mem_map]; exact ⟨j, by rw [List.mem_range]; omega, rfl⟩)
    unfold Tr.turnsL at this
    rw [List.mem_map] at this
    obtain ⟨k0, q1, q2⟩ := this
    exact ⟨k0, by rw [List.mem_range] at q1; exact q1, q2⟩
  obtain ⟨x, hx⟩ := Tr.sumTo_first (f := Tr.turnF 9 t) hk0 (fun i hi hne => by
    have := (Tr.turns_perm h).mem_iff.1 (show Tr.turnF 9 t i ∈ Tr.turnsL t by unfold Tr.turnsL; rw [List.mem_map]; exact ⟨i, by rw [List.mem_range]; exact hi, rfl⟩)
    unfold Tr.turnsL at this
    rw [List.mem_map] at this
    obtain ⟨m, q1, q2⟩ := this
    rw [List.mem_range] at q1
    rw [e0] at hne ⊢
    rw [← q2] at hne ⊢
    have h3 := hm m _ (by omega) (hat m (by omega))
    rw [← ej] at h3
    rw [leT_txt (isTr_of (hu j hj).1 (hu j hj).2.1) (isTr_of (hu m (by omega)).1 (hu m (by omega)).2.1)] at h3
    rcases Tr.bf_cn hne with b | b
    · rw [b] at h3; simp at h3
    · exact b)
  have hf : freeL t = Tr.turnF 9 (Tr.can t) j := by
    unfold freeL rootsL
    rw [List.getD_eq_getElem?_getD, hx]; exact e0
  refine ⟨⟨x, ?_⟩, ?_, ?_, ?_, ?_⟩
  · rw [hf, ← e0]; exact hx
  · rw [hf, ej]; unfold minT; rw [hlen]
  · rw [hf]; exact (hu j hj).1
  · rw [hf]; exact (hu j hj).2.1
  · rw [hf, (hu j hj).2.2, c2]
def freeA (t : List Int) : List Int × Int := if Tr.isLv t = true then (freeL t, 0) else ([], 1)
theorem freeA_no {t : List Int} (h : Tr.isLv t = false) : freeA t = ([], 1) := if_neg (by rw [h]; simp)
theorem freeA_yes {t : List Int} (h : Tr.isLv t = true) : freeA t = (freeL t, 0) := if_pos h
end Go.Proofs.Ytnnihdkhblbdgaa
/-
  Superfluous free trees, gone through.
-/
namespace Go.Proofs.Ytnnihdkhblbdgaa.Tr
set_option maxRecDepth 100000

def halfL (t : List Int) (k : Nat) : Bool := decide ((trunkL t k).length = (branchL t k).length) && decide (turnF 9 (trunkL t k) (parL t (t.getD k 0 - 1) k) = can (branchL t k))
def doubleL (t : List Int) (n : Nat) : Bool := (List.range n).any fun k => halfL t (k + 1)
def sqT (x b : List UInt8) : Bool := decide (rootT (brT b ++ [b]) = x)
def supT (x : List UInt8) : Bool := ((List.range (x.length / 2)).map fun k => rerF 8 x k []).any fun y => (brT y).any (sqT y)
def chkW (t : List Int) : Bool := !decide (can t = t) || (doubleL t (t.length - 1) == supT (txt t))
theorem chkW_0 : ((allLv.drop 0).take 197).all chkW = true := by decide +kernel
theorem chkW_1 : ((allLv.drop 197).take 73).all chkW = true := by decide +kernel
theorem chkW_2 : ((allLv.drop 270).take 70).all chkW = true := by decide +kernel
theorem chkW_3 : ((allLv.drop 340).take 70).all chkW = true := by decide +kernel
theorem chkW_4 : ((allLv.drop 410).take 70).all chkW = true := by decide +kernel
theorem chkW_5 : ((allLv.drop 480).take 70).all chkW = true := by decide +kernel
theorem chkW_6 : ((allLv.drop 550).take 150).all chkW = true := by decide +kernel
theorem all_dropW {p : List Int → Bool} {l : List (List Int)} {a k : Nat} (h1 : ((l.drop a).take k).all p = true) (h2 : (l.drop (a + k)).all p = true) : (l.drop a).all p = true := by
  rw [← List.take_append_drop k (l.drop a), List.all_append, h1, List.drop_drop, h2]; rfl
theorem drop_noneW : (allLv.drop 700).all chkW = true := by
  rw [List.drop_of_length_le (by decide +kernel)]; rfl
theorem chkW_all : allLv.all chkW = true :=
  all_dropW (a := 0) (k := 197) chkW_0 (all_dropW (a := 197) (k := 73) chkW_1 (all_dropW (a := 270) (k := 70) chkW_2 (all_dropW (a := 340) (k := 70) chkW_3 (all_dropW (a := 410) (k := 70) chkW_4 (all_dropW (a := 480) (k := 70) chkW_5 (all_dropW (a := 550) (k := 150) chkW_6 drop_noneW))))))
theorem sup_eq {t : List Int} (h : isLv t = true) (hc : can t = t) : doubleL t (t.length - 1) = supT (txt t) := by
  have h1 := all_of chkW_all (isLv_iff.1 h)
  unfold chkW at h1
  rw [decide_eq_true hc] at h1
  simpa using h1
theorem doubleL_step (t : List Int) (n : Nat) : doubleL t (n + 1) = (doubleL t n || halfL t (n + 1)) := by
  unfold doubleL
  rw [List.range_succ, List.any_append]; simp
end Go.Proofs.Ytnnihdkhblbdgaa.Tr
/-
  The model's cutting of lists.
-/
namespace Go.Proofs.Ytnnihdkhblbdgaa
open Go.RowKit Fld
set_option linter.unusedVariables false
set_option linter.unusedSimpArgs false
set_option maxRecDepth 100000

/-- two lists in memory -/
def TwoRows (xs ys : List Int) (w : World) (e : Ending) (w' : World) : Prop :=
  ∃ A c A' c', e = .returned (.tuple #[.slice A xs.length c, .slice A' ys.length c']) ∧ Row w' w'.heap.size A (ints xs) ∧ Row w' w'.heap.size A' (ints ys) ∧ Below w.heap.size w w'
theorem own_apart {w : World} {lo hi lo' hi' n n' : Nat} {T S : TypeId} {v v' : Value} {us vs : List Value} (h : OwnR w lo hi T v n us) (h' : OwnR w lo' hi' S v' n' vs) (hd : hi ≤ lo' ∨ hi' ≤ lo) : v.ownBlock = none ∨ v.ownBlock ≠ v'.ownBlock := by
  cases e : v.ownBlock with
  | none => exact .inl rfl
  | some g =>
    right
    intro e'
    have h1 := (h.1.lt g e).1
    have h2 := h.2 g e
    have h3 := (h'.1.lt g e'.symm).1
    have h4 := h'.2 g e'.symm
    omega
set_option maxHeartbeats 2000000 in
theorem l04Cut_any (A : Option Addr) (n c B k : Nat) (t : List Int) (w : World) (hl : t.length = n) (hn : n ≤ 8) (h1 : 1 ≤ k) (hk : k < n) (hc : n ≤ c) (ht : Tr.isLv t = true) (hT : Tr.isLv (Tr.trunkL t k) = true) (hR : Tr.isLv (Tr.branchL t k) = true) (hB : B ≤ w.heap.size) (h : Row w B A (ints t)) :
    Calls Try.prog 114 #[.slice A n c, .int .i64 k] w (TwoRows (Tr.can (Tr.trunkL t k)) (Tr.can (Tr.branchL t k)) w) := by
  obtain ⟨i0, hi, hz0, hz1, hz2⟩ := info_parts info_i64
  have HL := Lib.hid hl
  obtain ⟨y, hy⟩ := at_lt (show k < t.length by omega)
  have hyb := lv_el ht hy
  have HY : Hid (t.getD k 0 = y) := by rw [Hid, List.getD_eq_getElem?_getD, hy]; rfl
  obtain ⟨b, o, rfl, hbB, hcy⟩ := h k _ (ints_at hy)
  have hE := Tr.endL_le (t := t) (k := k) (by omega)
  rw [hl] at hE
  have C0 := l04End_any (some ⟨b, o, none⟩) n c B k t w hl (by omega) hk h
  have HTL := Lib.hid (trunk_length (t := t) (k := k) (by omega))
  have HRL := Lib.hid (branch_length (t := t) (k := k) (by omega))
  have HTD : Hid (Tr.trunkL t k = t.take k ++ t.drop (Tr.endL t k)) := rfl
  have HRD : Hid (Tr.branchL t k = ((t.drop k).take (Tr.endL t k - k)).map (· - y)) := by rw [← HY.out]; rfl
  have HCT := Lib.hid (lv_can hT).2
  have HCR := Lib.hid (lv_can hR).2
  obtain ⟨en, hen⟩ : ∃ en, en = Tr.endL t k := ⟨_, rfl⟩
  rw [← hen] at hE C0 HTL HRL HTD HRD
  rw [hl] at HTL
  have HTT := Lib.hid hT
  have HRR := Lib.hid hR
  have HT := Lib.hid ht
  have hen8 : en ≤ 8 := by omega
  clear hl hy hen hT hR ht
  go_enter Try.func114, Try.ntmps114
  go_wp2_with fail
  refine C0.mono ?_
  rintro e w1 ⟨rfl, m1, rfl⟩
  go_wp2_with fail
  go_loopw [7, 8] (fun s i W => ∃ (j g cap : Nat), j ≤ en - k ∧ s = .slice (some ⟨g, 0, none⟩) j cap ∧ i = .int .i64 ((k + j : Nat) : Int) ∧ Growing w 2 g j cap (ints (((t.drop k).take j).map (· - y))) W) (fun _ i _ => en - (intOf i).toNat)
  case atStart => exact ⟨0, _, 0, Nat.zero_le _, rfl, by go_num, ⟨(Growing.start (w.drewN m1) 2).1, (below_drewN (Below.refl _ _) m1).alloc (Nat.le_refl _) _⟩⟩
  case round =>
    obtain ⟨j, g, cap, hj, rfl, rfl, HGr⟩ := hrel
    have hsz := HGr.2.size
    by_cases hlt : k + j < en
    · obtain ⟨x, hx⟩ := at_lt (show k + j < t.length by rw [HL.out]; omega)
      obtain ⟨x0, x8⟩ := lv_el HT.out hx
      obtain ⟨_, _, e1, _, hcx⟩ := (Row.below h HGr.2 hB) (k + j) _ (ints_at hx)
      cases e1
      have hcy2 : wr.cell? ⟨b, o + k, none⟩ = some (.int .i64 y) := (HGr.2.cell (p := ⟨b, o + k, none⟩) (by show b < w.heap.size; omega)).trans hcy
      have HXS := Lib.hid (branch_take (y := y) hx)
      have HG' := Lib.hid HGr
      have hown : wr.drew.ownsRow w.heap.size 2 1 (.slice (some ⟨g, 0, none⟩) j cap) j (ints (((t.drop k).take j).map (· - y))) := ((OwnR.of HGr.1).keep (w' := wr.drew) fun _ _ _ => rfl).1
      have hy0 := hyb.1
      have hy8 := hyb.2
      have hcx' : wr.drew.cell? ⟨b, o + (k + j), none⟩ = some (.int .i64 x) := hcx
      have hcy' : wr.drew.cell? ⟨b, o + k, none⟩ = some (.int .i64 y) := hcy2
      have hwd : w.heap.size ≤ wr.drew.heap.size := hsz
      have hw1 : IntKind.i64.wrap (x - y) = x - y := IntWalk.i64_in _ (by omega)
      have s0 : (0 : Int) ≤ (k : Int) := Int.natCast_nonneg _
      have s1 : (k : Int) < (n : Int) := by omega
      obtain ⟨q, hq⟩ : ∃ q, q = k + j := ⟨_, rfl⟩
      have HQ := Lib.hid hq
      rw [← hq] at hcx' hlt ⊢
      have s2 : (0 : Int) ≤ (q : Int) := Int.natCast_nonneg _
      have s3 : (q : Int) < (n : Int) := by omega
      have s4 : (q : Int) < (en : Int) := by omega
      have HG : Hid (∀ (ob : Obj) (W2 : World) (g5 cap5 : Nat), W2.ownsRow w.heap.size 2 1 (.slice (some ⟨g5, 0, none⟩) (j + 1) cap5) (j + 1) (ints (((t.drop k).take j).map (· - y)) ++ [.int .i64 (x - y)]) → (wr.drew.alloc ob).grownBy W2 (Value.ownBlock (.slice (some ⟨g, 0, none⟩) j cap)) → Growing w 2 g5 (j + 1) cap5 (ints (((t.drop k).take (j + 1)).map (· - y))) W2) := fun ob W2 g5 cap5 hown5 hgrow5 => by
        rw [ints_snoc', ← HXS.out] at hown5
        exact HG'.out.step (show Below wr.heap.size wr (wr.drew.alloc ob) from (below_drew' (Below.refl _ _)).alloc (Nat.le_refl _) _) hown5 hgrow5
      clear hx HGr hq hcx hcy2
      go_wp2_with fail
      go_region_law (first | (go_loud (refine step_append_lies _ (by rfl) _ _ 23 (by rfl) w.heap.size 2 i0 _ 1 8 Try.underlying23 hi hz0 hz1 hz2 rfl (by omega) (.slice (some ⟨g, 0, none⟩) j cap) j (ints (((t.drop k).take j).map (· - y))) rfl (hown.alloc _) ⟨wr.drew.heap.size, 0, none⟩ 1 1 [.int .i64 (x - y)] rfl rfl (World.news_of_block (cs := #[.int .i64 (x - y)]) (heap_alloc_new _ _)) (by simp [Value.oneCell']) (by omega) (by simp only [maxLen]; omega) (by omega) (by simp; omega) (wr.drew.heap.size + 1) (by simp) ?_); intro g4 cap4 w4 hown4 hgrow4 hat4 hlt4))
      all_goals
        have G := Lib.hid (HG.out _ _ _ _ hown4 hgrow4)
        clear hown4 hgrow4 hat4 hown
        go_wp2
        go_roundw
        case rel => exact ⟨j + 1, g4, cap4, by have := HQ.out; omega, rfl, by have := HQ.out; go_num, G.out⟩
        case measure => simp [intOf]; omega
    · have hje : j = en - k := by omega
      have hke : k + j = en := by omega
      rw [hje, ← HRD.out, ← hje] at HGr
      have HB1 := Lib.hid HGr.2
      have HO1 := Lib.hid HGr.1
      have hs1 := HGr.2.size
      have HROW := Lib.hid (Row.below h HGr.2 hB)
      have hkc : (k : Int) ≤ (c : Int) := by omega
      have henc : (en : Int) ≤ (c : Int) := by omega
      have HTK : Hid ((t.take k).length = k) := by rw [Hid, List.length_take, HL.out]; omega
      have HDL : Hid ((ints (t.drop en)).length = (n - en) * 1) := by rw [Hid, ints_length, List.length_drop, HL.out]; omega
      have HON := Lib.hid (ints_cells (t.drop en))
      clear HGr C0
      rw [hke]
      clear hje hke
      have HLT : Hid ((Tr.trunkL t k).length = k + (n - en)) := by rw [Hid, HTL.out]; omega
      have HLR : Hid ((Tr.branchL t k).length = j) := by rw [Hid, ← ints_length, own_len HO1.out]
      have CO : ∀ W, Below wr.heap.size wr W → Calls Try.prog 106 #[.slice (some ⟨b, o, none⟩) k c] W (fun e W' => ∃ A' c', e = .returned (.slice A' k c') ∧ W'.ownsRow W.heap.size 2 1 (.slice A' k c') k (ints (t.take k)) ∧ Below W.heap.size W W') := fun W hb =>
        l01Own_any ⟨b, o, none⟩ k c B (t.take k) W HTK.out (by omega) (by have := hb.size; omega) (by
          have := Row.takeA (Row.below HROW.out hb (by omega)) k
          unfold ints intsK at *
          rwa [← List.map_take] at this)
      have C2 : ∀ W, Below wr.heap.size wr W → Calls Try.prog 107 #[.slice (some ⟨g, 0, none⟩) j cap] W (NewRow 2 j (ints (Tr.can (Tr.branchL t k))) W) := fun W hb =>
        l03Canon_any _ j cap wr.heap.size (Tr.branchL t k) W HLR.out HRR.out hb.size (Row.below (row_of_own HO1.out) hb (Nat.le_refl _))
      have C1 : ∀ W (A9 : Option Addr) (c9 lo : Nat), W.ownsRow lo 2 1 (.slice A9 (k + (n - en)) c9) (k + (n - en)) (ints (Tr.trunkL t k)) → Calls Try.prog 107 #[.slice A9 (k + (n - en)) c9] W (NewRow 2 (k + (n - en)) (ints (Tr.can (Tr.trunkL t k))) W) := fun W A9 c9 lo ho =>
        l03Canon_any A9 _ c9 W.heap.size (Tr.trunkL t k) W HLT.out HTT.out (Nat.le_refl _) (row_of_own ho)
      have BW : Below wr.heap.size wr wr.drew := below_drew' (Below.refl _ _)
      have HNW : Hid (∀ (AE : Addr), (if c = en then (some ⟨b, o, none⟩ : Option Addr) else some ⟨b, o + en, none⟩) = some AE → ∀ W, Below wr.heap.size wr W → ∀ q z, (ints (t.drop en))[q]? = some z → W.cell? (AE.add q) = some z) := fun AE hAE W hb q z hz => by
        by_cases hc2 : c = en
        · have h0 : (ints (t.drop en)).length = 0 := by rw [HDL.out]; omega
          rw [List.length_eq_zero_iff.1 h0] at hz; simp at hz
        · rw [if_neg hc2] at hAE
          injection hAE with hAE
          subst hAE
          have h9 := row_news (Row.dropA (k := en) (Row.below HROW.out hb (by omega)))
          unfold ints intsK at *
          rw [← List.map_drop] at h9
          exact h9 q z hz
      obtain ⟨AE, hAE⟩ : ∃ AE, (if c = en then (some ⟨b, o, none⟩ : Option Addr) else some ⟨b, o + en, none⟩) = some AE := by
        by_cases hc2 : c = en
        · exact ⟨_, if_pos hc2⟩
        · exact ⟨_, if_neg hc2⟩
      have HNX := Lib.hid (HNW.out AE hAE)
      clear HNW
      have hn' : n - en ≤ 8 := by omega
      go_wp2_with fail
      refine wp_region_noPanic ?_
      refine wp_region_held_drew (S := (fun w' => True)) (by kernel_rfl) ?_ (fun hHeld => ?_)
      · trivial
      refine wpAnyH_take (i := 0) (oi := _) (v := ?_) rfl (by kernel_rfl) (by kernel_rfl) (by kernel_rfl) (fun _ _ _ h => h) (Or.inl ⟨by kernel_rfl, ?_⟩) (by assumption) ?_
      rotate_left
      · (intro w hSw; (try dsimp only at hSw); go_simp; try (with_reducible rfl))
      try simp only [Act.put, List.setIfInBounds_toArray, List.set_cons_zero, List.set_cons_succ, List.getElem_toArray, List.getElem_cons_zero, List.getElem_cons_succ]
      refine wpAnyH_take (i := 1) (oi := _) (v := ?_) rfl (by kernel_rfl) (by kernel_rfl) (by kernel_rfl) (fun _ _ _ h => h) (Or.inl ⟨by kernel_rfl, ?_⟩) (by assumption) ?_
      rotate_left
      · (intro w hSw; (try dsimp only at hSw); go_simp; try (with_reducible rfl))
      try simp only [Act.put, List.setIfInBounds_toArray, List.set_cons_zero, List.set_cons_succ, List.getElem_toArray, List.getElem_cons_zero, List.getElem_cons_succ]
      refine wpAnyH_take (i := 2) (oi := _) (v := ?_) rfl (by kernel_rfl) (by kernel_rfl) (by kernel_rfl) (fun _ _ _ h => h) (Or.inl ⟨by kernel_rfl, ?_⟩) (by assumption) ?_
      rotate_left
      · (intro w hSw; (try dsimp only at hSw); go_simp; try (with_reducible rfl))
      try simp only [Act.put, List.setIfInBounds_toArray, List.set_cons_zero, List.set_cons_succ, List.getElem_toArray, List.getElem_cons_zero, List.getElem_cons_succ]
      refine wpAnyH_take (i := 4) (oi := _) (v := ?_) rfl (by kernel_rfl) (by kernel_rfl) (by kernel_rfl) (fun _ _ _ h => h) (Or.inl ⟨by kernel_rfl, ?_⟩) (by assumption) ?_
      rotate_left
      · (intro w hSw; (try dsimp only at hSw); go_simp; try (with_reducible rfl))
      try simp only [Act.put, List.setIfInBounds_toArray, List.set_cons_zero, List.set_cons_succ, List.getElem_toArray, List.getElem_cons_zero, List.getElem_cons_succ]
      refine wpAnyH_take (i := 5) (oi := _) (v := ?_) rfl (by kernel_rfl) (by kernel_rfl) (by kernel_rfl) (fun _ _ _ h => h) (Or.inl ⟨by kernel_rfl, ?_⟩) (by assumption) ?_
      rotate_left
      · (intro w hSw; (try dsimp only at hSw); go_simp; try (with_reducible rfl))
      try simp only [Act.put, List.setIfInBounds_toArray, List.set_cons_zero, List.set_cons_succ, List.getElem_toArray, List.getElem_cons_zero, List.getElem_cons_succ]
      refine wpAnyH_take (i := 6) (oi := _) (v := ?_) rfl (by kernel_rfl) (by kernel_rfl) (by kernel_rfl) (fun _ _ _ h => h) (Or.inl ⟨by kernel_rfl, ?_⟩) (by assumption) ?_
      rotate_left
      · (intro w hSw; (try dsimp only at hSw); go_simp; try (with_reducible rfl))
      try simp only [Act.put, List.setIfInBounds_toArray, List.set_cons_zero, List.set_cons_succ, List.getElem_toArray, List.getElem_cons_zero, List.getElem_cons_succ]
      refine wpAnyH_take (i := 9) (oi := _) (v := ?_) rfl (by kernel_rfl) (by kernel_rfl) (by kernel_rfl) (fun _ _ _ h => h) (Or.inl ⟨by kernel_rfl, ?_⟩) (by assumption) ?_
      rotate_left
      · (intro w hSw; (try dsimp only at hSw); go_simp; try (with_reducible rfl))
      try simp only [Act.put, List.setIfInBounds_toArray, List.set_cons_zero, List.set_cons_succ, List.getElem_toArray, List.getElem_cons_zero, List.getElem_cons_succ]
      refine wpAnyH_ready (rs := [3]) (by kernel_rfl) (by simp) (AllReadyH.cons (o := _) rfl (fun K hK => ?_) AllReadyH.nil)
      go_simp
      (go_at_call 106; refine (CO _ BW).mono ?_; rintro e w2 ⟨A2, c2, rfl, own2', bel⟩)
      have own2 := OwnR.of own2'
      have lz2 := BW.size
      have zz2 := bel.size
      replace BW := BW.trans (bel.mono BW.size)
      clear own2' bel
      go_wp2_with fail
      refine hK.out _ _ ?_ (fun hHeld => ?_)
      · trivial
      clear hK K
      try simp only [Act.put, List.setIfInBounds_toArray, List.set_cons_zero, List.set_cons_succ, List.getElem_toArray, List.getElem_cons_zero, List.getElem_cons_succ]
      refine wpAnyH_ready (rs := [7]) (by kernel_rfl) (by simp) (AllReadyH.cons (o := _) rfl (fun K hK => ?_) AllReadyH.nil)
      refine step_append_own' (by rfl) _ _ 23 (by rfl) _ 2 i0 _ 1 8 Try.underlying23 hi hz0 hz1 hz2 rfl (by omega) (.slice A2 k c2) k (ints (t.take k)) (by rfl) own2.1 AE (n - en) (c - en) (ints (t.drop en)) (by rfl) HDL.out (HNX.out _ BW) HON.out (by simp only [maxLen]; omega) (by omega) (by omega) ?_
      intro v3 w3 own3' hgrow3 _
      obtain ⟨A3, c3, rfl⟩ := own_shape' own3'
      rw [← ints_app, ← HTD.out] at own3'
      have own3 := OwnR.of own3'
      have zz3 := hgrow3.size
      replace BW := BW.grown hgrow3 BW.size (fun z hz => by have := (own2.1.lt z hz).1; omega)
      clear own3' hgrow3 own2
      refine hK.out _ _ ?_ (fun hHeld => ?_)
      · trivial
      clear hK K
      try simp only [Act.put, List.setIfInBounds_toArray, List.set_cons_zero, List.set_cons_succ, List.getElem_toArray, List.getElem_cons_zero, List.getElem_cons_succ]
      refine wpAnyH_ready (rs := [8]) (by kernel_rfl) (by simp) (AllReadyH.cons (o := _) rfl (fun K hK => ?_) AllReadyH.nil)
      go_simp
      (go_at_call 107; refine (C1 _ A3 c3 _ own3.1).mono ?_; rintro e w5 ⟨A5, c5, rfl, own5', bel⟩)
      have own5 := OwnR.of own5'
      have zz5 := bel.size
      replace BW := BW.trans (bel.mono BW.size)
      clear own5' bel own3
      go_wp2_with fail
      refine hK.out _ _ ?_ (fun hHeld => ?_)
      · trivial
      clear hK K
      try simp only [Act.put, List.setIfInBounds_toArray, List.set_cons_zero, List.set_cons_succ, List.getElem_toArray, List.getElem_cons_zero, List.getElem_cons_succ]
      refine wpAnyH_ready (rs := [10]) (by kernel_rfl) (by simp) (AllReadyH.cons (o := _) rfl (fun K hK => ?_) AllReadyH.nil)
      go_simp
      (go_at_call 107; refine (C2 _ BW).mono ?_; rintro e w4 ⟨A4, c4, rfl, own4', bel⟩)
      have own4 := OwnR.of own4'
      have zz4 := bel.size
      replace own5 := own5.below bel (by first | exact Nat.le_refl _ | omega)
      replace BW := BW.trans (bel.mono BW.size)
      clear own4' bel
      go_wp2_with fail
      refine hK.out _ _ ?_ (fun hHeld => ?_)
      · trivial
      clear hK K
      try simp only [Act.put, List.setIfInBounds_toArray, List.set_cons_zero, List.set_cons_succ, List.getElem_toArray, List.getElem_cons_zero, List.getElem_cons_succ]
      refine wpAnyH_take (i := 11) (oi := _) (v := ?_) rfl (by kernel_rfl) (by kernel_rfl) (by kernel_rfl) (fun _ _ _ h => h) (Or.inl ⟨by kernel_rfl, ?_⟩) (by assumption) ?_
      rotate_left
      · (intro w hSw; (try dsimp only at hSw); go_simp; try (with_reducible rfl))
      try simp only [Act.put, List.setIfInBounds_toArray, List.set_cons_zero, List.set_cons_succ, List.getElem_toArray, List.getElem_cons_zero, List.getElem_cons_succ]
      refine wpAnyH_take (i := 12) (oi := _) (v := ?_) rfl (by kernel_rfl) (by kernel_rfl) (by kernel_rfl) (fun _ _ _ h => h) (Or.inl ⟨by kernel_rfl, ?_⟩) (by assumption) ?_
      rotate_left
      · (intro w hSw; (try dsimp only at hSw); go_simp; try (with_reducible rfl))
      try simp only [Act.put, List.setIfInBounds_toArray, List.set_cons_zero, List.set_cons_succ, List.getElem_toArray, List.getElem_cons_zero, List.getElem_cons_succ]
      refine wpAnyH_done (by kernel_rfl) ?_ _
      refine NoPanic.normal ?_
      have G5 := Lib.hid own5
      have G4 := Lib.hid own4
      have GB := Lib.hid (HB1.out.trans (BW.mono hs1))
      clear own5 own4 BW CO C1 C2
      go_wp2
      go_ret2
      exact ⟨_, _, _, _, by rw [HCT.out, HLT.out, HCR.out, HLR.out]; rfl, (OwnR.row G5.out).more (by first | exact Nat.le_refl _ | omega), (OwnR.row G4.out).more (by first | exact Nat.le_refl _ | omega), GB.out⟩
end Go.Proofs.Ytnnihdkhblbdgaa
/-
  The model's search for a tree that is twice a branch.
-/
namespace Go.Proofs.Ytnnihdkhblbdgaa
open Go.RowKit Fld
set_option linter.unusedVariables false
set_option linter.unusedSimpArgs false
set_option maxRecDepth 100000

theorem double_hit {t : List Int} {n k : Nat} (hk : k < n) (h : Tr.halfL t (k + 1) = true) : Tr.doubleL t n = true := by
  unfold Tr.doubleL
  rw [List.any_eq_true]
  exact ⟨k, List.mem_range.2 hk, h⟩
set_option maxHeartbeats 4000000 in
theorem l04Double_any (A : Option Addr) (n c B : Nat) (t : List Int) (w : World) (hl : t.length = n) (ht : Tr.isLv t = true) (hc : n ≤ c) (hB : B ≤ w.heap.size) (h : Row w B A (ints t)) :
    Calls Try.prog 90 #[.slice A n c] w (ResB (Tr.doubleL t (n - 1)) w) := by
  obtain ⟨i0, hi, hz0, hz1, hz2⟩ := info_parts info_i64
  obtain ⟨h1, h8⟩ := lv_bd ht
  rw [hl] at h1 h8
  obtain ⟨y0, hy0⟩ := at_lt (show 0 < t.length by omega)
  obtain ⟨b, o, rfl, hbB, _⟩ := h 0 _ (ints_at hy0)
  have HT := Lib.hid ht
  have HL := Lib.hid hl
  have HH := Lib.hid h
  clear hy0 hl ht h
  go_enter Try.func90, Try.ntmps90
  go_wp2_with fail
  go_loopw [3] (fun i wr => ∃ q : Nat, q + 1 ≤ n ∧ i = .int .i64 ((q + 1 : Nat) : Int) ∧ Hid (Tr.doubleL t q = false) ∧ Below w.heap.size w wr) (fun i _ => n - (intOf i).toNat)
  case atStart => exact ⟨0, h1, rfl, rfl, Below.refl _ _⟩
  case round =>
    obtain ⟨q, hq, rfl, HD, HBW⟩ := hrel
    have hsz := HBW.size
    by_cases hlt : q + 1 < n
    · have h := Row.below HH.out HBW hB
      have hBr : B ≤ wr.heap.size := by omega
      obtain ⟨p1, p2, p3, p4, p5⟩ := Tr.par_parts HT.out (k := q) (by rw [HL.out]; exact hlt)
      have l1 := trunk_length (t := t) (k := q + 1) (by rw [HL.out]; exact hlt)
      have l2 := branch_length (t := t) (k := q + 1) (by rw [HL.out]; exact hlt)
      have hE := Tr.endL_le (t := t) (k := q + 1) (by rw [HL.out]; exact hlt)
      rw [HL.out] at hE l1
      have C1 := l04Cut_any (some ⟨b, o, none⟩) n c B (q + 1) t wr HL.out h8 (by omega) hlt hc HT.out p4 p5 hBr h
      have r1 := (lv_can p4).2
      have r2 := (lv_can p5).2
      obtain ⟨y, hy⟩ := at_lt (show q + 1 < t.length by rw [HL.out]; exact hlt)
      have hyb := lv_el HT.out hy
      have hyd : t.getD (q + 1) 0 = y := by rw [List.getD_eq_getElem?_getD, hy]; rfl
      have HTD : Hid (Tr.trunkL t (q + 1) = t.take (q + 1) ++ t.drop (Tr.endL t (q + 1))) := rfl
      rw [hyd] at p1 p2 p3
      obtain ⟨i1, i2⟩ := turn_lv 9 _ _ p4 p3 (by omega)
      have HST := Lib.hid (Tr.doubleL_step t q)
      have HHF : Hid (Tr.halfL t (q + 1) = (decide ((Tr.can (Tr.trunkL t (q + 1))).length = (Tr.can (Tr.branchL t (q + 1))).length) && decide (Tr.turnF 9 (Tr.trunkL t (q + 1)) (Tr.parL t (y - 1) (q + 1)) = Tr.can (Tr.branchL t (q + 1))))) := by
        rw [Hid, r1, r2, ← hyd]; rfl
      obtain ⟨en, hen⟩ : ∃ en, en = Tr.endL t (q + 1) := ⟨_, rfl⟩
      obtain ⟨pr, hpr⟩ : ∃ pr, pr = Tr.parL t (y - 1) (q + 1) := ⟨_, rfl⟩
      have C0 := fun W (hb : Below w.heap.size w W) => l04End_any (some ⟨b, o, none⟩) n c B (q + 1) t W HL.out (by omega) hlt (Row.below HH.out hb hB)
      rw [← hen] at hE l1 l2 HTD
      simp only [← hen] at C0
      rw [← hpr] at p1 p2 p3 i1 i2 HHF
      obtain ⟨T, hT⟩ : ∃ T, T = Tr.can (Tr.trunkL t (q + 1)) := ⟨_, rfl⟩
      obtain ⟨R, hR⟩ : ∃ R, R = Tr.can (Tr.branchL t (q + 1)) := ⟨_, rfl⟩
      rw [← hT, ← hR] at C1 HHF
      rw [← hT] at r1
      rw [← hR] at r2
      have hT8 : T.length ≤ 8 := by omega
      have hR8 : R.length ≤ 8 := by omega
      have HPR := Lib.hid hpr
      have HP1 := Lib.hid p1
      have HTT := Lib.hid p4
      have HI2 : Hid ((Tr.turnF 9 (Tr.trunkL t (q + 1)) pr).length = n - (en - (q + 1))) := by rw [Hid, i2, l1]
      have HTL := Lib.hid l1
      have hp3 : pr < n - (en - (q + 1)) := by rw [← l1]; exact p3
      have hen8 : en ≤ 8 := by omega
      obtain ⟨kk, hkk⟩ : ∃ kk, kk = q + 1 := ⟨_, rfl⟩
      have HKK := Lib.hid hkk
      have hkm : ((q + 1 : Nat) : Int) - 1 = (q : Int) := by omega
      have hkw : IntKind.i64.wrap ((kk : Int) - 1) = (q : Int) := by rw [hkk, hkm]; exact IntWalk.i64_in _ (by omega)
      rw [← hkk] at C1 hE hlt hpr HPR HTD HTL HTT HI2 hp3 HHF hy hq hkm ⊢
      simp only [← hkk] at C0
      have hk1 : 1 ≤ kk := by omega
      have hk2 : q < kk := by omega
      have HST' : Hid (Tr.doubleL t kk = (Tr.doubleL t q || Tr.halfL t kk)) := by rw [Hid, hkk]; exact HST.out
      have hltI : (kk : Int) < (n : Int) := by omega
      have HBW' := Lib.hid HBW
      clear hkk HST hT hR hen hpr p1 p3 p4 p5 i1 i2 l1 l2 r1 r2 hyd HBW h
      go_wp2_with fail
      refine C1.mono ?_
      rintro e w5 ⟨A3, c3, A4, c4, rfl, r3, r4, bel5⟩
      have B5 := Lib.hid (HBW'.out.trans (bel5.mono hsz))
      have hs5 := B5.out.size
      have R3 := Lib.hid r3
      have R4 := Lib.hid r4
      have h := Row.below HH.out B5.out hB
      obtain ⟨_, _, e1, _, hcy⟩ := h kk _ (ints_at hy)
      cases e1
      clear bel5 r3 r4 C1 hy
      go_wp2_with fail
      go_loopw [6] (fun pv wr => ∃ (p m : Nat), p ≤ q ∧ pv = .int .i64 p ∧ wr = w5.drewN m ∧ Hid (Tr.parL t (y - 1) (p + 1) = pr)) (fun pv _ => (intOf pv).toNat)
      case atStart => exact ⟨q, 0, Nat.le_refl _, by first | rfl | go_num, rfl, by rw [Hid, HPR.out, HKK.out]⟩
      case round =>
        obtain ⟨p, m, hp, rfl, rfl, HPP⟩ := hrel
        obtain ⟨x, hx⟩ := at_lt (show p < t.length by rw [HL.out]; omega)
        obtain ⟨x0, x8⟩ := lv_el HT.out hx
        obtain ⟨_, _, e1, _, hcx⟩ := h p _ (ints_at hx)
        cases e1
        have HSP := Lib.hid (parL_step (x := y - 1) hx)
        have s0 : (0 : Int) ≤ (p : Int) := Int.natCast_nonneg _
        have s1 : (p : Int) < (n : Int) := by omega
        have s2 : (0 : Int) ≤ (kk : Int) := Int.natCast_nonneg _
        have s3 : (kk : Int) < (n : Int) := by omega
        have hyb0 := hyb.1
        have hyb8 := hyb.2
        have hw1 : IntKind.i64.wrap (y - 1) = y - 1 := IntWalk.i64_in _ (by omega)
        by_cases hxe : x = y - 1
        · have HPE : Hid (pr = p) := by rw [Hid, ← HPP.out, HSP.out, if_pos hxe]
          have tx := beq_t hxe
          clear hx HSP HPP
          go_wp2_with fail
          go_quiet (fail)
          go_wp2_with fail
          refine (C0 _ (below_drewN B5.out _)).mono ?_
          rintro e wx ⟨rfl, m1, hwx⟩
          have hWz : Hid (Below w5.heap.size w5 wx) := by rw [hwx]; exact below_drewN (below_drewN (Below.refl _ _) _) _
          clear hwx
          have hsx := hWz.out.size
          have hpe := HPE.out
          subst hpe
          have hkc : (kk : Int) ≤ (c : Int) := by omega
          have henc : (en : Int) ≤ (c : Int) := by omega
          have HROW := Lib.hid (Row.below HH.out (B5.out.trans (hWz.out.mono hs5)) hB)
          have HTK : Hid ((t.take kk).length = kk) := by rw [Hid, List.length_take, HL.out]; omega
          have HDL : Hid ((ints (t.drop en)).length = (n - en) * 1) := by rw [Hid, ints_length, List.length_drop, HL.out]; omega
          have HON := Lib.hid (ints_cells (t.drop en))
          have HSUM : Hid (kk + (n - en) = n - (en - kk)) := by rw [Hid]; omega
          have CO : ∀ W, Below wx.heap.size wx W → Calls Try.prog 106 #[.slice (some ⟨b, o, none⟩) kk c] W (fun e W' => ∃ A' c', e = .returned (.slice A' kk c') ∧ W'.ownsRow W.heap.size 2 1 (.slice A' kk c') kk (ints (t.take kk)) ∧ Below W.heap.size W W') := fun W hb =>
            l01Own_any ⟨b, o, none⟩ kk c B (t.take kk) W HTK.out (by omega) (by have := hb.size; omega) (by
              have := Row.takeA (Row.below HROW.out hb (by omega)) kk
              unfold ints intsK at *
              rwa [← List.map_take] at this)
          have BW : Below wx.heap.size wx wx.drew := below_drew' (Below.refl _ _)
          have HNW : Hid (∀ (AE : Addr), (if c = en then (some ⟨b, o, none⟩ : Option Addr) else some ⟨b, o + en, none⟩) = some AE → ∀ W, Below wx.heap.size wx W → ∀ q z, (ints (t.drop en))[q]? = some z → W.cell? (AE.add q) = some z) := fun AE hAE W hb q z hz => by
            by_cases hc2 : c = en
            · have h0 : (ints (t.drop en)).length = 0 := by rw [HDL.out]; omega
              rw [List.length_eq_zero_iff.1 h0] at hz; simp at hz
            · rw [if_neg hc2] at hAE
              injection hAE with hAE
              subst hAE
              have h9 := row_news (Row.dropA (k := en) (Row.below HROW.out hb (by omega)))
              unfold ints intsK at *
              rw [← List.map_drop] at h9
              exact h9 q z hz
          obtain ⟨AE, hAE⟩ : ∃ AE, (if c = en then (some ⟨b, o, none⟩ : Option Addr) else some ⟨b, o + en, none⟩) = some AE := by
            by_cases hc2 : c = en
            · exact ⟨_, if_pos hc2⟩
            · exact ⟨_, if_neg hc2⟩
          have HNX := Lib.hid (HNW.out AE hAE)
          clear HNW C0 hcx hcy tx h
          have hn' : n - en ≤ 8 := by omega
          go_wp2_with fail
          refine wp_region_noPanic ?_
          refine wp_region_held_drew (S := (fun w' => True)) (by kernel_rfl) ?_ (fun hHeld => ?_)
          · trivial
          refine wpAnyH_take (i := 0) (oi := _) (v := ?_) rfl (by kernel_rfl) (by kernel_rfl) (by kernel_rfl) (fun _ _ _ h => h) (Or.inl ⟨by kernel_rfl, ?_⟩) (by assumption) ?_
          rotate_left
          · (intro w hSw; (try dsimp only at hSw); go_simp; try (with_reducible rfl))
          try simp only [Act.put, List.setIfInBounds_toArray, List.set_cons_zero, List.set_cons_succ, List.getElem_toArray, List.getElem_cons_zero, List.getElem_cons_succ]
          refine wpAnyH_take (i := 1) (oi := _) (v := ?_) rfl (by kernel_rfl) (by kernel_rfl) (by kernel_rfl) (fun _ _ _ h => h) (Or.inl ⟨by kernel_rfl, ?_⟩) (by assumption) ?_
          rotate_left
          · (intro w hSw; (try dsimp only at hSw); go_simp; try (with_reducible rfl))
          try simp only [Act.put, List.setIfInBounds_toArray, List.set_cons_zero, List.set_cons_succ, List.getElem_toArray, List.getElem_cons_zero, List.getElem_cons_succ]
          refine wpAnyH_take (i := 2) (oi := _) (v := ?_) rfl (by kernel_rfl) (by kernel_rfl) (by kernel_rfl) (fun _ _ _ h => h) (Or.inl ⟨by kernel_rfl, ?_⟩) (by assumption) ?_
          rotate_left
          · (intro w hSw; (try dsimp only at hSw); go_simp; try (with_reducible rfl))
          try simp only [Act.put, List.setIfInBounds_toArray, List.set_cons_zero, List.set_cons_succ, List.getElem_toArray, List.getElem_cons_zero, List.getElem_cons_succ]
          refine wpAnyH_take (i := 4) (oi := _) (v := ?_) rfl (by kernel_rfl) (by kernel_rfl) (by kernel_rfl) (fun _ _ _ h => h) (Or.inl ⟨by kernel_rfl, ?_⟩) (by assumption) ?_
          rotate_left
          · (intro w hSw; (try dsimp only at hSw); go_simp; try (with_reducible rfl))
          try simp only [Act.put, List.setIfInBounds_toArray, List.set_cons_zero, List.set_cons_succ, List.getElem_toArray, List.getElem_cons_zero, List.getElem_cons_succ]
          refine wpAnyH_take (i := 5) (oi := _) (v := ?_) rfl (by kernel_rfl) (by kernel_rfl) (by kernel_rfl) (fun _ _ _ h => h) (Or.inl ⟨by kernel_rfl, ?_⟩) (by assumption) ?_
          rotate_left
          · (intro w hSw; (try dsimp only at hSw); go_simp; try (with_reducible rfl))
          try simp only [Act.put, List.setIfInBounds_toArray, List.set_cons_zero, List.set_cons_succ, List.getElem_toArray, List.getElem_cons_zero, List.getElem_cons_succ]
          refine wpAnyH_take (i := 6) (oi := _) (v := ?_) rfl (by kernel_rfl) (by kernel_rfl) (by kernel_rfl) (fun _ _ _ h => h) (Or.inl ⟨by kernel_rfl, ?_⟩) (by assumption) ?_
          rotate_left
          · (intro w hSw; (try dsimp only at hSw); go_simp; try (with_reducible rfl))
          try simp only [Act.put, List.setIfInBounds_toArray, List.set_cons_zero, List.set_cons_succ, List.getElem_toArray, List.getElem_cons_zero, List.getElem_cons_succ]
          refine wpAnyH_ready (rs := [3]) (by kernel_rfl) (by simp) (AllReadyH.cons (o := _) rfl (fun K hK => ?_) AllReadyH.nil)
          go_simp
          (go_at_call 106; refine (CO _ BW).mono ?_; rintro e w2 ⟨A2, c2, rfl, own2', bel⟩)
          have own2 := OwnR.of own2'
          have lz2 := BW.size
          have zz2 := bel.size
          replace BW := BW.trans (bel.mono BW.size)
          clear own2' bel
          go_wp2_with fail
          refine hK.out _ _ ?_ (fun hHeld => ?_)
          · trivial
          clear hK K
          try simp only [Act.put, List.setIfInBounds_toArray, List.set_cons_zero, List.set_cons_succ, List.getElem_toArray, List.getElem_cons_zero, List.getElem_cons_succ]
          refine wpAnyH_ready (rs := [7]) (by kernel_rfl) (by simp) (AllReadyH.cons (o := _) rfl (fun K hK => ?_) AllReadyH.nil)
          refine step_append_own' (by rfl) _ _ 23 (by rfl) _ 2 i0 _ 1 8 Try.underlying23 hi hz0 hz1 hz2 rfl (by omega) (.slice A2 kk c2) kk (ints (t.take kk)) (by rfl) own2.1 AE (n - en) (c - en) (ints (t.drop en)) (by rfl) HDL.out (HNX.out _ BW) HON.out (by simp only [maxLen]; omega) (by omega) (by omega) ?_
          intro v3 w3 own3' hgrow3 _
          rw [HSUM.out] at own3'
          obtain ⟨A9, c9, rfl⟩ := own_shape' own3'
          rw [← ints_app, ← HTD.out] at own3'
          have own3 := Lib.hid (OwnR.of own3')
          have zz3 := hgrow3.size
          replace BW := BW.grown hgrow3 BW.size (fun z hz => by have := (own2.1.lt z hz).1; omega)
          clear own3' hgrow3 own2
          refine hK.out _ _ ?_ (fun hHeld => ?_)
          · trivial
          clear hK K
          try simp only [Act.put, List.setIfInBounds_toArray, List.set_cons_zero, List.set_cons_succ, List.getElem_toArray, List.getElem_cons_zero, List.getElem_cons_succ]
          refine wpAnyH_take (i := 8) (oi := _) (v := ?_) rfl (by kernel_rfl) (by kernel_rfl) (by kernel_rfl) (fun _ _ _ h => h) (Or.inl ⟨by kernel_rfl, ?_⟩) (by assumption) ?_
          rotate_left
          · (intro w hSw; (try dsimp only at hSw); go_simp; try (with_reducible rfl))
          try simp only [Act.put, List.setIfInBounds_toArray, List.set_cons_zero, List.set_cons_succ, List.getElem_toArray, List.getElem_cons_zero, List.getElem_cons_succ]
          refine wpAnyH_done (by kernel_rfl) ?_ _
          refine NoPanic.normal ?_
          have hs9 := BW.size
          have B9 := Lib.hid (B5.out.trans ((hWz.out.trans (BW.mono hsx)).mono hs5))
          have hs9' := B9.out.size
          have hc9 := (own_cap own3.out.1).1
          have R49 := Lib.hid (Row.below (Row.below R4.out hWz.out (Nat.le_refl _)) BW (by omega))
          have R39 := Lib.hid (row_of_own own3.out.1)
          clear BW CO
          by_cases hTR : T.length = R.length
          · have tq := beq_t (show ((T.length : Nat) : Int) = ((R.length : Nat) : Int) by omega)
            rw [decide_eq_true hTR, Bool.true_and] at HHF
            clear hTR
            go_wp2_with fail
            refine (turnAt_all 9 A9 (n - (en - kk)) c9 w3.heap.size pr (Tr.trunkL t kk) w3 HTL.out HTT.out hp3 (by omega) hc9 (Nat.le_refl _) R39.out).mono ?_
            rintro e w6 ⟨A6, c6, rfl, own6, bel6⟩
            have B6 := Lib.hid (B9.out.trans (bel6.mono hs9'))
            have R6 := Lib.hid (row_of_own own6)
            have R46 := Lib.hid (Row.below R49.out bel6 (by omega))
            clear own6 bel6
            have D1 := l01Same_any A6 A4 (n - (en - kk)) R.length c6 c4 _ _ (Tr.turnF 9 (Tr.trunkL t kk) pr) R w6 HI2.out rfl (by omega) (by omega) R6.out R46.out
            rw [show eqL (Tr.turnF 9 (Tr.trunkL t kk) pr) R = Tr.halfL t kk from by rw [HHF.out]; rfl] at D1
            cases hh : Tr.halfL t kk
            · rw [hh] at D1
              have G : Hid (Tr.doubleL t kk = false) := by rw [Hid, HST'.out, HD.out, hh]; rfl
              clear hh HHF
              go_wp2_with fail
              refine D1.mono ?_
              rintro e w7 ⟨rfl, d7, rfl⟩
              have B7 : Hid (Below w.heap.size w (w6.drewN d7)) := below_drewN B6.out _
              generalize w6.drewN d7 = w7 at *
              go_wp2
              go_roundw
              case rel => exact ⟨kk, by omega, by go_num, G, B7.out⟩
              case measure => simp [intOf]; omega
            · rw [hh] at D1
              have G : Hid (Tr.doubleL t (n - 1) = true) := double_hit (k := q) (by have := HKK.out; omega) (by rw [← HKK.out]; exact hh)
              clear hh HHF
              go_wp2_with fail
              refine D1.mono ?_
              rintro e w7 ⟨rfl, d7, rfl⟩
              have B7 : Hid (Below w.heap.size w (w6.drewN d7)) := below_drewN B6.out _
              generalize w6.drewN d7 = w7 at *
              go_wp2
              go_ret
              exact ⟨ret_bool G.out.symm, B7.out⟩
          · have tq := beq_f (show ¬ ((T.length : Nat) : Int) = ((R.length : Nat) : Int) by omega)
            have G : Hid (Tr.doubleL t kk = false) := by rw [Hid, HST'.out, HD.out, HHF.out, decide_eq_false hTR]; rfl
            clear hTR HHF
            go_wp2
            go_roundw
            case rel => exact ⟨kk, by omega, by go_num, G, B9.out⟩
            case measure => simp [intOf]; omega
        · have HPE : Hid (Tr.parL t (y - 1) p = pr) := by rw [Hid, ← HPP.out, HSP.out, if_neg hxe]
          have hp1 : 1 ≤ p := by
            rcases Nat.eq_zero_or_pos p with z | z
            · exfalso
              subst z
              have e := HPE.out
              rw [Tr.parL] at e
              have := HP1.out
              rw [← e, List.getD_eq_getElem?_getD, hx] at this
              exact hxe this
            · exact z
          have tx := beq_f hxe
          clear hx HSP HPP C0
          go_wp2_with fail
          go_quiet (fail)
          go_wp2
          go_roundw
          case rel => exact ⟨p - 1, _, by omega, by go_num, rfl, by rw [Hid, show p - 1 + 1 = p from by omega]; exact HPE.out⟩
          case measure => simp [intOf]; omega
    · obtain rfl : n = q + 1 := by omega
      have G : Hid (Tr.doubleL t (q + 1 - 1) = false) := by rw [Hid, show q + 1 - 1 = q from rfl]; exact HD.out
      have GB := Lib.hid HBW
      clear HD HBW
      go_wp2
      go_ret
      exact ⟨ret_bool G.out.symm, GB.out⟩
end Go.Proofs.Ytnnihdkhblbdgaa
/-
  A test beside a code.
-/
namespace Go.Proofs.Ytnnihdkhblbdgaa
open Go.RowKit Fld
set_option linter.unusedVariables false
set_option linter.unusedSimpArgs false
set_option maxRecDepth 100000

/-- a test beside a code -/
def ResBI (r : Bool × Int) (w : World) (e : Ending) (w' : World) : Prop := e = .returned (.tuple #[.bool r.1, .int .i64 r.2]) ∧ Below w.heap.size w w'
theorem ResBI.of {r : Bool × Int} {w w' : World} {b : Bool} {k : Int} (h : r = (b, k)) (hb : Below w.heap.size w w') : ResBI r w (.returned (.tuple #[.bool b, .int .i64 k])) w' := by
  subst h; exact ⟨rfl, hb⟩
end Go.Proofs.Ytnnihdkhblbdgaa
/-
  What IsSuperfluous answers: is a tree the Butcher product of a branch with itself (the program's), slices.ContainsFunc, the program's and the model's answer.
-/
namespace Go.Proofs.Ytnnihdkhblbdgaa
open Go.RowKit Fld
set_option linter.unusedVariables false
set_option linter.unusedSimpArgs false
set_option maxRecDepth 100000

def sqAt (x b : List UInt8) : Bool := decide (Tr.rootT (Tr.brT b ++ [b]) = x)
def squareT (x : List UInt8) : Bool := (Tr.brT x).any (sqAt x)
theorem any_step {l : List (List UInt8)} {p : List UInt8 → Bool} {k : Nat} {b : List UInt8} (h : l[k]? = some b) (h0 : (l.take k).any p = false) (hp : p b = false) : (l.take (k + 1)).any p = false := by
  rw [List.take_add_one, h, Option.toList_some, List.any_append, h0]; simp [hp]
theorem any_hit {l : List (List UInt8)} {p : List UInt8 → Bool} {k : Nat} {b : List UInt8} (h : l[k]? = some b) (hp : p b = true) : l.any p = true :=
  List.any_eq_true.2 ⟨b, List.mem_of_getElem? h, hp⟩
theorem str_eqb (a b : List UInt8) : ((⟨a.toArray⟩ : ByteArray).toList == (⟨b.toArray⟩ : ByteArray).toList) = decide (a = b) := by
  rw [ByteArray.toList_eq, ByteArray.toList_eq]
  by_cases h : a = b
  · subst h; simp
  · rw [decide_eq_false h]; exact beq_eq_false_iff_ne.2 h
set_option maxHeartbeats 1000000 in
theorem isSquare_any (x : List UInt8) (w : World) (hx : Tr.isTx x = true) : Calls Try.prog 96 #[.string ⟨x.toArray⟩] w fun e w' => e = .returned (.bool (squareT x)) ∧ Below w.heap.size w w' := by
  obtain ⟨_, hb, h7⟩ := Tr.br_parts hx
  have HB := Lib.hid hb
  have hx16 := (Tr.br_parts hx).1.2
  have C0 := branches_any x w hx
  obtain ⟨bs, hbs⟩ : ∃ bs, bs = Tr.brT x := ⟨_, rfl⟩
  have HBS := Lib.hid hbs
  rw [← hbs] at C0 h7 HB
  obtain ⟨X, hX⟩ : ∃ X : ByteArray, X = ⟨x.toArray⟩ := ⟨_, rfl⟩
  have HX := Lib.hid hX
  rw [← hX] at C0 ⊢
  clear hbs hb hX hx
  go_enter Try.func96, Try.ntmps96
  go_wp2_with fail
  refine C0.mono ?_
  rintro e w1 ⟨A, q, c, rfl, hq, own1, bel1⟩
  have HQ := Lib.hid hq
  have hq7 : q ≤ 7 := by omega
  have HR := Lib.hid (row_of_own own1)
  have HB1 := Lib.hid bel1
  clear own1 bel1 hq C0
  go_wp2_with fail
  go_loopw [8] (fun i wr => ∃ k : Nat, k ≤ q ∧ i = .int .i64 k ∧ Hid ((bs.take k).any (sqAt x) = false) ∧ Below w1.heap.size w1 wr) (fun i _ => q - (intOf i).toNat)
  case atStart => exact ⟨0, Nat.zero_le _, rfl, by simp [Hid], Below.refl _ _⟩
  case round =>
    obtain ⟨k, hk, rfl, HA, HBW⟩ := hrel
    have hsz := HBW.size
    by_cases hlt : k < q
    · obtain ⟨b, hbk⟩ := at_lt (show k < bs.length by have := HQ.out; omega)
      obtain ⟨bb, oo, rfl, _, hck⟩ := (Row.below HR.out HBW (Nat.le_refl _)) k _ (strs_at hbk)
      obtain ⟨hbt, hbl⟩ := HB.out b (List.mem_of_getElem? hbk)
      have C1 := tTimes_any b b wr hbt (by omega)
      have e1 := str_eqb (Tr.rootT (Tr.brT b ++ [b])) x
      rw [← HX.out] at e1
      obtain ⟨Y, hY⟩ : ∃ Y : ByteArray, Y = ⟨b.toArray⟩ := ⟨_, rfl⟩
      obtain ⟨Z, hZ⟩ : ∃ Z : ByteArray, Z = ⟨(Tr.rootT (Tr.brT b ++ [b])).toArray⟩ := ⟨_, rfl⟩
      rw [← hY] at hck
      rw [← hY, ← hZ] at C1
      rw [← hZ] at e1
      have HBW' := Lib.hid HBW
      cases hs : sqAt x b
      · have G := Lib.hid (any_step hbk HA.out hs)
        rw [show decide (Tr.rootT (Tr.brT b ++ [b]) = x) = false from hs] at e1
        clear hbk HA hs hY hZ HBW hbl hbt
        go_wp2_with fail
        refine C1.mono ?_
        rintro e w2 ⟨rfl, bel2⟩
        have GB := Lib.hid (HBW'.out.trans (bel2.mono hsz))
        clear bel2 C1 hck
        go_wp2
        go_roundw
        case rel => exact ⟨k + 1, by omega, by go_num, G, GB.out⟩
        case measure => simp [intOf]; omega
      · have G : Hid (squareT x = true) := by
          rw [HBS.out] at hbk
          exact any_hit hbk hs
        rw [show decide (Tr.rootT (Tr.brT b ++ [b]) = x) = true from hs] at e1
        clear hbk HA hs hY hZ HBW hbl hbt
        go_wp2_with fail
        refine C1.mono ?_
        rintro e w2 ⟨rfl, bel2⟩
        have GB := Lib.hid (HB1.out.trans ((HBW'.out.trans (bel2.mono hsz)).mono HB1.out.size))
        clear bel2 C1 hck
        go_wp2
        go_ret
        exact ⟨ret_bool G.out.symm, GB.out⟩
    · obtain rfl : k = q := by omega
      have G : Hid (squareT x = false) := by
        have e := HA.out
        rw [List.take_of_length_le (by have := HQ.out; omega), HBS.out] at e
        exact e
      have GB := Lib.hid (HB1.out.trans (HBW.mono HB1.out.size))
      clear HA HBW
      go_wp2
      go_ret
      exact ⟨ret_bool G.out.symm, GB.out⟩
set_option maxHeartbeats 1000000 in
/-- the library's search for a tree that is a square -/
theorem indexSq_any (A : Option Addr) (n c B : Nat) (ss : List (List UInt8)) (w : World) (hl : ss.length = n) (hn : n ≤ 1048576) (hs : ∀ s ∈ ss, Tr.isTx s = true) (hB : B ≤ w.heap.size) (h : Row w B A (strs ss)) :
    Calls Try.prog 121 #[.slice A n c, (.func (.func 96) #[] #[])] w fun e w' => (∃ i : Int, e = .returned (.int .i64 i) ∧ -1 ≤ i ∧ i ≤ 1048576 ∧ decide (0 ≤ i) = ss.any squareT) ∧ Below w.heap.size w w' := by
  have HL := Lib.hid hl
  have HS := Lib.hid hs
  clear hl hs
  go_enter Try.func121, Try.ntmps121
  go_wp2_with fail
  go_loopw [8] (fun i wr => ∃ k : Nat, k ≤ n ∧ i = .int .i64 k ∧ Hid ((ss.take k).any squareT = false) ∧ Below w.heap.size w wr) (fun i _ => n - (intOf i).toNat)
  case atStart => exact ⟨0, Nat.zero_le _, rfl, by simp [Hid], Below.refl _ _⟩
  case round =>
    obtain ⟨k, hk, rfl, HA, HBW⟩ := hrel
    have hsz := HBW.size
    by_cases hlt : k < n
    · obtain ⟨b, hbk⟩ := at_lt (show k < ss.length by rw [HL.out]; exact hlt)
      obtain ⟨bb, oo, rfl, _, hck⟩ := (Row.below h HBW hB) k _ (strs_at hbk)
      have C1 := isSquare_any b wr (HS.out b (List.mem_of_getElem? hbk))
      obtain ⟨Y, hY⟩ : ∃ Y : ByteArray, Y = ⟨b.toArray⟩ := ⟨_, rfl⟩
      rw [← hY] at hck C1
      have HBW' := Lib.hid HBW
      cases hs : squareT b
      · have G := Lib.hid (any_step hbk HA.out hs)
        rw [hs] at C1
        clear hbk HA hs hY HBW
        go_wp2_with fail
        refine C1.mono ?_
        rintro e w2 ⟨rfl, bel2⟩
        have GB := Lib.hid (HBW'.out.trans (bel2.mono hsz))
        clear bel2 C1 hck
        go_wp2
        go_roundw
        case rel => exact ⟨k + 1, by omega, by go_num, G, GB.out⟩
        case measure => simp [intOf]; omega
      · have G : Hid (ss.any squareT = true) := any_hit hbk hs
        rw [hs] at C1
        clear hbk HA hs hY HBW
        go_wp2_with fail
        refine C1.mono ?_
        rintro e w2 ⟨rfl, bel2⟩
        have GB := Lib.hid (HBW'.out.trans (bel2.mono hsz))
        clear bel2 C1 hck
        go_wp2
        go_ret
        exact ⟨⟨(k : Int), rfl, by omega, by omega, by rw [G.out]; exact decide_eq_true (Int.natCast_nonneg _)⟩, GB.out⟩
    · obtain rfl : k = n := by omega
      have G : Hid (ss.any squareT = false) := by
        have e := HA.out
        rw [List.take_of_length_le (by rw [HL.out]; exact Nat.le_refl _)] at e
        exact e
      have GB := Lib.hid HBW
      clear HA HBW
      go_wp2
      go_ret
      exact ⟨⟨-1, rfl, by omega, by omega, by rw [G.out]; rfl⟩, GB.out⟩
theorem containsSq_any (A : Option Addr) (n c B : Nat) (ss : List (List UInt8)) (w : World) (hl : ss.length = n) (hn : n ≤ 1048576) (hs : ∀ s ∈ ss, Tr.isTx s = true) (hB : B ≤ w.heap.size) (h : Row w B A (strs ss)) :
    Calls Try.prog 94 #[.slice A n c, (.func (.func 96) #[] #[])] w fun e w' => e = .returned (.bool (ss.any squareT)) ∧ Below w.heap.size w w' := by
  have C0 := indexSq_any A n c B ss w hl hn hs hB h
  clear hl hs h
  go_enter Try.func94, Try.ntmps94
  go_wp2_with fail
  refine C0.mono ?_
  rintro e w1 ⟨⟨i, rfl, h1, h2, h3⟩, bel1⟩
  have H3 := Lib.hid h3
  have GB := Lib.hid bel1
  clear h3 bel1 C0
  go_wp2
  go_ret
  exact ⟨by rw [← H3.out]; rfl, GB.out⟩
def supA (t : List Int) : Bool × Int := if Tr.isLv t = true then (Tr.supT (Tr.txt t), 0) else (false, 1)
theorem supA_no {t : List Int} (h : Tr.isLv t = false) : supA t = (false, 1) := if_neg (by rw [h]; simp)
theorem supA_yes {t : List Int} (h : Tr.isLv t = true) : supA t = ((rootsT (Tr.txt t)).any squareT, 0) := if_pos h
end Go.Proofs.Ytnnihdkhblbdgaa
/-
  A list of lists beside a code, as calls hand it back.
-/
namespace Go.Proofs.Ytnnihdkhblbdgaa
open Go.RowKit Fld
set_option linter.unusedVariables false
set_option linter.unusedSimpArgs false
set_option maxRecDepth 100000

/-- a list of lists that the call owns, beside a code -/
def ResM (r : List (List Int) × Int) (w : World) (e : Ending) (w' : World) : Prop :=
  r.1.length + total r.1 ≤ 1048576 ∧ ∃ A c vs, e = .returned (.tuple #[.slice A r.1.length c, .int .i64 r.2]) ∧ OwnMat w' w.heap.size w'.heap.size (.slice A r.1.length c) r.1.length r.1 vs ∧ Below w.heap.size w w'
theorem OwnMat.nil' (w : World) (lo hi : Nat) : OwnMat w lo hi (.slice none 0 0) 0 [] [] :=
  ⟨⟨World.ownsRow_nil _ _ _ _, fun g e => by simp [Value.ownBlock] at e⟩, rfl, fun r row hr => by simp at hr, fun r s u t g _ hu => by simp at hu⟩
theorem ResM.nil {r : List (List Int) × Int} {w w' : World} {k : Int} (h : r = ([], k)) (hb : Below w.heap.size w w') : ResM r w (.returned (.tuple #[.slice none 0 0, .int .i64 k])) w' := by
  subst h
  exact ⟨by simp [total], none, 0, [], rfl, OwnMat.nil' _ _ _, hb⟩
theorem ResM.of {r : List (List Int) × Int} {w w' : World} {A : Option Addr} {n c : Nat} {m : List (List Int)} {vs : List Value} {k : Int} (h : r = (m, k)) (hn : m.length + total m ≤ 1048576)
    (ho : OwnMat w' w.heap.size w'.heap.size (.slice A n c) n m vs) (hb : Below w.heap.size w w') : ResM r w (.returned (.tuple #[.slice A n c, .int .i64 k])) w' := by
  subst h
  have e := ho.size
  subst e
  exact ⟨hn, A, c, vs, rfl, ho, hb⟩
/-- lists in memory below a bound: the model's -/
def LowMat (w : World) (hi : Nat) (A : Option Addr) (m : List (List Int)) : Prop := Mat w hi A m
theorem LowMat.below {w w' : World} {hi B : Nat} {A : Option Addr} {m : List (List Int)} (h : LowMat w hi A m) (hb : Below B w w') (hB : hi ≤ B) : LowMat w' hi A m := Mat.below h hb hB
theorem LowMat.within {w w' : World} {hi lo' hi' : Nat} {A : Option Addr} {m : List (List Int)} (h : LowMat w hi A m) (hb : Within lo' hi' w w') (hs : hi ≤ w.heap.size) (hd : hi ≤ lo') : LowMat w' hi A m :=
  Mat.keep h fun b o hbb => World.cell?_of_block (hb.block b (by omega) (by omega))
theorem LowMat.mat {w : World} {hi : Nat} {A : Option Addr} {m : List (List Int)} (h : LowMat w hi A m) : Mat w hi A m := h
theorem LowMat.drewN {w : World} {hi : Nat} {A : Option Addr} {m : List (List Int)} (h : LowMat w hi A m) (k : Nat) : LowMat (w.drewN k) hi A m := h
def ResMl (r : List (List Int) × Int) (w : World) (e : Ending) (w' : World) : Prop :=
  r.1.length + total r.1 ≤ 1048576 ∧ ∃ A c, e = .returned (.tuple #[.slice A r.1.length c, .int .i64 r.2]) ∧ LowMat w' w'.heap.size A r.1 ∧ Below w.heap.size w w'
theorem ResMl.nil {r : List (List Int) × Int} {w w' : World} {k : Int} (h : r = ([], k)) (hb : Below w.heap.size w w') : ResMl r w (.returned (.tuple #[.slice none 0 0, .int .i64 k])) w' := by
  subst h
  exact ⟨by simp [total], none, 0, rfl, fun k r hr => by simp at hr, hb⟩
theorem ResMl.of {r : List (List Int) × Int} {w w' : World} {A : Option Addr} {n c : Nat} {m : List (List Int)} {k : Int} (h : r = (m, k)) (hl : m.length = n) (hn : m.length + total m ≤ 1048576)
    (ho : Mat w' w'.heap.size A m) (hb : Below w.heap.size w w') : ResMl r w (.returned (.tuple #[.slice A n c, .int .i64 k])) w' := by
  subst h hl
  exact ⟨hn, A, c, rfl, ho, hb⟩
end Go.Proofs.Ytnnihdkhblbdgaa
/-
  Free conditions by their texts; places that are kept.
-/
namespace Go.Proofs.Ytnnihdkhblbdgaa
open Go.RowKit Fld
set_option linter.unusedVariables false
set_option linter.unusedSimpArgs false
set_option maxRecDepth 100000

theorem str_eqbfC (a b : List UInt8) : ((⟨a.toArray⟩ : ByteArray).toList == (⟨b.toArray⟩ : ByteArray).toList) = decide (a = b) := by
  rw [ByteArray.toList_eq, ByteArray.toList_eq]
  by_cases h : a = b
  · subst h; simp
  · rw [decide_eq_false h]; exact beq_eq_false_iff_ne.2 h
/-- its own free form, and not superfluous -/
def condT (x : List UInt8) : Bool := decide (x = minT (rootsT x)) && !(rootsT x).any squareT
def keepC (t : List Int) : Bool := condT (Tr.txt t)
set_option maxHeartbeats 1000000 in
theorem isFree_any (x : List UInt8) (w : World) (hx : Tr.isTx x = true) :
    Calls Try.prog 60 #[.string ⟨x.toArray⟩] w fun e w' => e = .returned (.bool (condT x)) ∧ Below w.heap.size w w' := by
  have CF := fun w => freeForm_any x w hx
  have CR := fun w => roots_any x w hx
  have e1 := str_eqbfC x (minT (rootsT x))
  have HT := Lib.hid (roots_tx hx)
  have HLN := Lib.hid (rootsT_len x)
  have hx16 := (Tr.br_parts hx).1.2
  obtain ⟨X, hX⟩ : ∃ X : ByteArray, X = ⟨x.toArray⟩ := ⟨_, rfl⟩
  obtain ⟨Z, hZ⟩ : ∃ Z : ByteArray, Z = ⟨(minT (rootsT x)).toArray⟩ := ⟨_, rfl⟩
  simp only [← hX, ← hZ] at CF CR ⊢
  rw [← hX, ← hZ] at e1
  cases hd : decide (x = minT (rootsT x))
  · have G : Hid (condT x = false) := by unfold condT; rw [Hid, hd]; rfl
    rw [hd] at e1
    have e2 : (X.toList == Z.toList) = false := e1
    have HE := Lib.hid e2
    clear hX hZ e1 e2 hd
    go_enter Try.func60, Try.ntmps60
    go_wp2_with fail
    refine (CF _).mono ?_
    rintro e w1 ⟨rfl, bel1⟩
    have HB1 := Lib.hid bel1
    have q := HE.out
    clear bel1
    go_wp2
    go_ret
    exact ⟨ret_bool G.out.symm, HB1.out⟩
  · have G : Hid (condT x = !(rootsT x).any squareT) := by unfold condT; rw [Hid, hd]; rfl
    rw [hd] at e1
    have e2 : (X.toList == Z.toList) = true := e1
    have HE := Lib.hid e2
    clear hX hZ e1 e2 hd
    go_enter Try.func60, Try.ntmps60
    go_wp2_with fail
    refine (CF _).mono ?_
    rintro e w1 ⟨rfl, bel1⟩
    have HB1 := Lib.hid bel1
    have q := HE.out
    clear bel1
    go_wp2_with fail
    refine (CR _).mono ?_
    rintro e w3 ⟨rfl, own3, bel3⟩
    have B3 : Hid (Below w.heap.size w w3) := HB1.out.trans (bel3.mono HB1.out.size)
    have HROW := Lib.hid (row_of_own own3)
    clear own3 bel3 CR CF
    go_wp2_with fail
    refine (containsSq_any _ _ _ w3.heap.size (rootsT x) w3 HLN.out (by omega) HT.out (Nat.le_refl _) HROW.out).mono ?_
    rintro e w4 ⟨rfl, bel4⟩
    have B4 : Hid (Below w.heap.size w w4) := B3.out.trans (bel4.mono B3.out.size)
    clear bel4
    go_wp2
    go_ret
    exact ⟨ret_bool G.out.symm, B4.out⟩
/-! the places of those that are kept -/
def idxToC (p : List Int → Bool) (m : List (List Int)) (j : Nat) : List Nat := (List.range j).filter fun k => p (m.getD k [])
theorem idxTo_stepC {p : List Int → Bool} {m : List (List Int)} {j : Nat} {t : List Int} (h : m[j]? = some t) : idxToC p m (j + 1) = idxToC p m j ++ if p t = true then [j] else [] := by
  unfold idxToC
  rw [List.range_succ, List.filter_append]
  congr 1
  have e : m.getD j [] = t := by rw [List.getD_eq_getElem?_getD, h]; rfl
  cases hp : p t <;> simp [List.filter, hp, h]
theorem idxTo_allC {p : List Int → Bool} (m : List (List Int)) : (idxToC p m m.length).map (fun k => m.getD k []) = m.filter p := by
  unfold idxToC
  have e : (List.range m.length).map (fun k => m.getD k []) = m := by
    apply List.ext_getElem?
    intro k
    rw [List.getElem?_map]
    rcases Nat.lt_or_ge k m.length with g | g
    · rw [List.getElem?_range g, List.getElem?_eq_getElem g, Option.map_some, List.getD_eq_getElem?_getD, List.getElem?_eq_getElem g]; rfl
    · rw [List.getElem?_eq_none (by simp; omega), List.getElem?_eq_none g]; rfl
  have h2 := List.filter_map (f := fun k => m.getD k []) (p := p) (l := List.range m.length)
  rw [e] at h2
  rw [h2]; rfl
theorem idxTo_firstC {p : List Int → Bool} {m : List (List Int)} {k : Nat} (hk : k ≤ m.length) (h : ∀ j t, j < k → m[j]? = some t → p t = true) : idxToC p m k = List.range k := by
  unfold idxToC
  rw [List.filter_eq_self]
  intro j hj
  rw [List.mem_range] at hj
  have e := List.getElem?_eq_getElem (show j < m.length by omega)
  rw [List.getD_eq_getElem?_getD, e]
  exact h j _ hj e
theorem idxTo_nodupC (p : List Int → Bool) (m : List (List Int)) (j : Nat) : (idxToC p m j).Nodup := List.Pairwise.filter _ List.nodup_range
theorem idxTo_ltC {p : List Int → Bool} {m : List (List Int)} {j k : Nat} (h : k ∈ idxToC p m j) : k < j := by
  unfold idxToC at h
  rw [List.mem_filter, List.mem_range] at h; exact h.1
theorem idxTo_leC (p : List Int → Bool) (m : List (List Int)) (j : Nat) : (idxToC p m j).length ≤ j := by
  have := List.length_filter_le (fun k => p (m.getD k [])) (List.range j)
  rw [List.length_range] at this; exact this
def nilVC : Value := .slice none 0 0
def selVC (p : List Int → Bool) (m : List (List Int)) (vs : List Value) (j : Nat) : List Value := (idxToC p m j).map fun k => vs.getD k nilVC
theorem OwnMat.selectC {w w' : World} {lo hi n c g i : Nat} {m : List (List Int)} {vs : List Value} {idx : List Nat} (h : OwnMat w lo hi (.slice (some ⟨g, 0, none⟩) n c) n m vs) (hg : w.grownBy w' (some g)) (hs : hi ≤ w.heap.size) (hn : idx.Nodup) (hb : ∀ k ∈ idx, k < m.length)
    (ho : w'.ownsRow lo 23 1 (.slice (some ⟨g, 0, none⟩) i c) i (idx.map fun k => vs.getD k nilVC)) : OwnMat w' lo w'.heap.size (.slice (some ⟨g, 0, none⟩) i c) i (idx.map fun k => m.getD k []) (idx.map fun k => vs.getD k nilVC) := by
  have hsz := hg.size
  refine ⟨OwnR.of ho, by simp, fun r row hr => ?_, fun r s u t g' hrs hu ht hbu => ?_⟩
  · rw [List.getElem?_map, Option.map_eq_some_iff] at hr
    obtain ⟨k, hk, rfl⟩ := hr
    have hkm := hb k (List.mem_of_getElem? hk)
    have e : m[k]? = some (m.getD k []) := by rw [List.getD_eq_getElem?_getD, List.getElem?_eq_getElem hkm]; rfl
    obtain ⟨A, c', e1, o1⟩ := h.inner k _ e
    refine ⟨A, c', ?_, (o1.grown hg (own_types o1.1 h.outer.1 (by decide))).more (Nat.le_refl _) (by omega)⟩
    rw [List.getElem?_map, hk, Option.map_some, List.getD_eq_getElem?_getD (l := vs), e1]; rfl
  · rw [List.getElem?_map, Option.map_eq_some_iff] at hu ht
    obtain ⟨k, hk, rfl⟩ := hu
    obtain ⟨l, hl, rfl⟩ := ht
    have hkl : k ≠ l := fun e => by
      subst e
      exact hrs ((List.getElem?_inj (by
        rcases Nat.lt_or_ge r idx.length with y | y
        · exact y
        · rw [List.getElem?_eq_none y] at hk; cases hk) hn).1 (hk.trans hl.symm))
    have hk' := hb k (List.mem_of_getElem? hk)
    have hl' := hb l (List.mem_of_getElem? hl)
    have e1 : vs[k]? = some (vs.getD k nilVC) := by rw [List.getD_eq_getElem?_getD, List.getElem?_eq_getElem (by rw [h.len]; exact hk')]; rfl
    have e2 : vs[l]? = some (vs.getD l nilVC) := by rw [List.getD_eq_getElem?_getD, List.getElem?_eq_getElem (by rw [h.len]; exact hl')]; rfl
    exact h.apart k l _ _ g' hkl e1 e2 hbu
theorem only_putC' {w a : World} {g k : Nat} {v : Value} (h : w.grownBy a (some g)) : w.grownBy (a.setCell ⟨g, k, none⟩ v) (some g) :=
  ⟨h.os, h.tape, h.output, by simpa [World.setCell] using h.size, fun i hi hne => (Below.heap_setCell a ⟨g, k, none⟩ v i (fun e => hne (by rw [e]))).trans (h.block i hi hne)⟩
theorem only_setsC {w : World} {g : Nat} : ∀ (vs : List Value) (o : Nat) (a : World), w.grownBy a (some g) → w.grownBy (a.setCells g o vs) (some g)
  | [], _, _, h => h
  | v :: r, o, a, h => only_setsC r (o + 1) _ (only_putC' h)
end Go.Proofs.Ytnnihdkhblbdgaa
/-
  The next lower list of a tree, in place.
-/
namespace Go.Proofs.Ytnnihdkhblbdgaa
open Go.RowKit Fld
set_option linter.unusedVariables false
set_option linter.unusedSimpArgs false
set_option maxRecDepth 100000

theorem last_le (t : List Int) : ∀ k, Tr.lastF t k ≤ k
  | 0 => Nat.le_refl _
  | k+1 => by rw [Tr.lastF]; split; · have := last_le t k; omega
              · exact Nat.le_refl _
theorem par_le (t : List Int) (x : Int) : ∀ k, Tr.parF t x k ≤ k
  | 0 => Nat.le_refl _
  | k+1 => by rw [Tr.parF]; split; · have := par_le t x k; omega
              · exact Nat.le_refl _
/-- what lower leaves -/
def Lowered (base g n cap : Nat) (t : List Int) (w : World) (e : Ending) (w' : World) : Prop :=
  (Tr.lowerL t = none ∧ e = .returned (.bool false) ∧ w = w') ∨ (∃ u, Tr.lowerL t = some u ∧ e = .returned (.bool true) ∧ w'.ownsRow base 2 1 (.slice (some ⟨g, 0, none⟩) n cap) n (ints u) ∧ w.grownBy w' (some g))
theorem cpy_step {d f i : Nat} {t : List Int} {x : Int} (hx : t[i - d]? = some x) : Tr.cpyF d (f + 1) i t = Tr.cpyF d f (i + 1) (t.set i x) := by
  rw [Tr.cpyF, lv_at hx]
def Cpd (base g n cap : Nat) (w : World) (T : List Int) (wr : World) : Prop := wr.ownsRow base 2 1 (.slice (some ⟨g, 0, none⟩) n cap) n (ints T) ∧ w.grownBy wr (some g)
theorem Cpd.step {base g n cap i : Nat} {w wr : World} {T : List Int} {x : Int} (h : Cpd base g n cap w T wr) : Cpd base g n cap w (T.set i x) (wr.setCell ⟨g, i, none⟩ (.int .i64 x)) := by
  obtain ⟨h1, h2⟩ := h.1.stored i (.int .i64 x)
  have e : (ints T).set i (.int .i64 x) = ints (T.set i x) := by unfold ints intsK; rw [List.map_set]
  rw [e] at h1
  exact ⟨h1, grownBy_trans h.2 h2⟩
theorem Cpd.start {base g n cap : Nat} {w : World} {t : List Int} (h : w.ownsRow base 2 1 (.slice (some ⟨g, 0, none⟩) n cap) n (ints t)) (M : Nat) : Cpd base g n cap (w.drewN M) t (w.drewN M) := ⟨h, World.grownBy.refl _ _⟩
set_option maxHeartbeats 1000000 in
theorem lower_any (base g n cap : Nat) (t : List Int) (w : World) (hl : t.length = n) (hlv : Tr.isLv t = true) (h : w.ownsRow base 2 1 (.slice (some ⟨g, 0, none⟩) n cap) n (ints t)) :
    Calls Try.prog 116 #[.slice (some ⟨g, 0, none⟩) n cap] w fun e w' => ∃ m, Lowered base g n cap t (w.drewN m) e w' := by
  have h3 := Tr.isLv_iff.1 hlv
  have n1 : 1 ≤ n := by have := h3.1; omega
  have n8 : n ≤ 8 := by have := h3.2.1; omega
  have HST : Hid (StepsTo t n) := by rw [Hid, ← hl]; exact h3.2.2.2
  have HZ : Hid (t.getD 0 0 = 0) := h3.2.2.1
  have HL := Lib.hid hl
  have HO := Lib.hid h
  have HLAST : Hid (Tr.lastF t (t.length - 1) = Tr.lastF t (n - 1)) := by rw [Hid, hl]
  clear hl hlv h3 h
  go_enter Try.func116, Try.ntmps116
  go_wp2_with fail
  go_loop [3] (fun l => ∃ k : Nat, k < n ∧ l = .int .i64 k ∧ Hid (Tr.lastF t (n - 1) = Tr.lastF t k)) (fun l => (intOf l).toNat)
  case atStart => exact ⟨n - 1, by omega, by go_num, rfl⟩
  case round =>
    obtain ⟨k, hk, rfl, HK⟩ := hrel
    obtain ⟨x, hx⟩ := at_lt (show k < t.length by rw [HL.out]; exact hk)
    have hcx := HO.out.cellAt k (by omega)
    rw [ints_at hx] at hcx
    have HX := Lib.hid hx
    rcases Nat.eq_zero_or_pos k with k0 | k0
    · subst k0
      have G : Hid (Tr.lowerL t = none) := by
        rw [Hid, Tr.lowerL]
        simp only [HLAST.out, HK.out]
        rfl
      clear hx HK
      go_wp2
      go_ret
      exact ⟨0, .inl ⟨G.out, rfl, rfl⟩⟩
    · obtain ⟨j, rfl⟩ : ∃ j, k = j + 1 := ⟨k - 1, by omega⟩
      by_cases hx1 : x = 1
      · have G : Hid (Tr.lastF t (n - 1) = Tr.lastF t j) := by
          rw [Hid, HK.out, Tr.lastF, lv_at hx, if_pos hx1]
        subst hx1
        clear hx HK
        go_wp2
        go_round
        case rel => exact ⟨j, by omega, by go_num, G⟩
        case measure => simp [intOf]
      · have tx := beq_f hx1
        have HLL : Hid (Tr.lastF t (n - 1) = j + 1) := by
          rw [Hid, HK.out, Tr.lastF, lv_at hx, if_neg hx1]
        have hxp : 1 ≤ x := by have := (HST.out (j + 1) hk (by omega)).1; rw [lv_at hx] at this; exact this
        clear hx HK
        have tz : ((j : Int) + 1 == 0) = false := beq_f (by omega)
        go_wp2_with fail
        go_loopw [4] (fun pp wr => ∃ p m : Nat, p ≤ j ∧ pp = .int .i64 p ∧ wr = w.drewN m ∧ Hid (Tr.parF t x j = Tr.parF t x p)) (fun pp _ => (intOf pp).toNat)
        case atStart => exact ⟨j, 0, Nat.le_refl _, by go_num, rfl, rfl⟩
        case round =>
          obtain ⟨p, m, hp, rfl, rfl, HP⟩ := hrel
          obtain ⟨y, hy⟩ := at_lt (show p < t.length by rw [HL.out]; omega)
          have hcy := HO.out.cellAt p (by omega)
          rw [ints_at hy] at hcy
          have hcx' : (w.drewN m).cell? ⟨g, j + 1, none⟩ = some (.int .i64 x) := hcx
          have hcy' : (w.drewN m).cell? ⟨g, p, none⟩ = some (.int .i64 y) := hcy
          by_cases hxy : x ≤ y
          · have hd : decide (x ≤ y) = true := decide_eq_true hxy
            obtain ⟨q, rfl⟩ : ∃ q, p = q + 1 := ⟨p - 1, by
              rcases Nat.eq_zero_or_pos p with e | e
              · subst e; have h9 := HZ.out; rw [lv_at hy] at h9; omega
              · omega⟩
            have G : Hid (Tr.parF t x j = Tr.parF t x q) := by
              rw [Hid, HP.out, Tr.parF, lv_at hy, if_pos hxy]
            clear hy HP
            go_wp2_with fail
            go_quiet (fail)
            go_wp2
            go_roundw
            case rel => exact ⟨q, _, by omega, by go_num, rfl, G⟩
            case measure => simp [intOf]
          · have hd : decide (x ≤ y) = false := decide_eq_false hxy
            have HPP : Hid (Tr.parF t x j = p) := by
              rw [Hid, HP.out]
              match p, hy with
              | 0, _ => rfl
              | q+1, hy => rw [Tr.parF, lv_at hy, if_neg hxy]
            have HLO : Hid (Tr.lowerL t = some (Tr.cpyF (j + 1 - p) (n - (j + 1)) (j + 1) t)) := by
              rw [Hid, Tr.lowerL]
              simp only [HL.out, HLL.out, lv_at HX.out, Nat.add_sub_cancel, HPP.out]
              rfl
            clear hy HP HLL
            go_wp2_with fail
            go_quiet (fail)
            go_wp2_with fail
            go_loopw [5] (fun ii wr => ∃ (e : Nat) (T : List Int), j + 1 + e ≤ n ∧ ii = .int .i64 ((j + 1 + e : Nat) : Int) ∧ Hid (Tr.cpyF (j + 1 - p) (n - (j + 1)) (j + 1) t = Tr.cpyF (j + 1 - p) (n - (j + 1 + e)) (j + 1 + e) T) ∧ Hid (T.length = n) ∧ ∃ M, Cpd base g n cap (w.drewN M) T wr) (fun ii _ => n - (intOf ii).toNat)
            case atStart => exact ⟨0, t, by omega, by go_num, rfl, HL.out, _, by rw [World.drewN_drewN]; exact Cpd.start HO.out _⟩
            case round =>
              obtain ⟨e, T, he, rfl, HC, HT, M, HD⟩ := hrel
              by_cases hlt : j + 1 + e < n
              · have hep : e + p < j + 1 + e := by omega
                obtain ⟨z, hz⟩ := at_lt (show e + p < T.length by rw [HT.out]; omega)
                have hcz := HD.1.cellAt (e + p) (by omega)
                rw [ints_at hz] at hcz
                obtain ⟨old, hold⟩ := at_lt (show j + 1 + e < T.length by rw [HT.out]; exact hlt)
                have hco := HD.1.cellAt (j + 1 + e) (by omega)
                rw [ints_at hold] at hco
                have hfo := HD.1.frozenAt (j + 1 + e)
                have HC2 : Hid (Tr.cpyF (j + 1 - p) (n - (j + 1)) (j + 1) t = Tr.cpyF (j + 1 - p) (n - (j + 1 + (e + 1))) (j + 1 + (e + 1)) (T.set (j + 1 + e) z)) := by
                  rw [Hid, HC.out, show n - (j + 1 + e) = n - (j + 1 + (e + 1)) + 1 from by omega, cpy_step (x := z) (by rw [show j + 1 + e - (j + 1 - p) = e + p from by omega]; exact hz)]
                  rfl
                have HT2 : Hid ((T.set (j + 1 + e) z).length = n) := by rw [Hid, List.length_set]; exact HT.out
                have G := Lib.hid (HD.step (i := j + 1 + e) (x := z))
                have ew1 : ((j + 1 + e : Nat) : Int) - ((j : Int) + 1) = (e : Int) := by omega
                clear hz hold HD HC
                go_wp2
                go_roundw
                case rel => exact ⟨e + 1, T.set (j + 1 + e) z, by omega, by go_num, HC2, HT2, M, G.out⟩
                case measure => simp [intOf]; omega
              · have hne : n = j + 1 + e := by omega
                have G : Hid (∃ m, Lowered base g n cap t (w.drewN m) (.returned (.bool true)) wr) := by
                  have hc := HC.out
                  rw [show n - (j + 1 + e) = 0 from by omega, Tr.cpyF] at hc
                  exact ⟨M, .inr ⟨T, by rw [HLO.out, hc], rfl, HD.1, HD.2⟩⟩
                clear HD HC
                go_wp2
                go_ret
                exact G.out
end Go.Proofs.Ytnnihdkhblbdgaa
/-
  All trees with so many nodes, the program's.
-/
namespace Go.Proofs.Ytnnihdkhblbdgaa
open Go.RowKit Fld
set_option linter.unusedVariables false
set_option linter.unusedSimpArgs false
set_option maxRecDepth 100000

theorem slicesClone_any (ad : Addr) (n c B : Nat) (xs : List Int) (w : World) (hl : xs.length = n) (hn : n ≤ 1048576) (hB : B ≤ w.heap.size) (h : Row w B (some ad) (ints xs)) :
    Calls Try.prog 115 #[.slice (some ad) n c] w (NewRow 2 n (ints xs) w) := by
  obtain ⟨i0, hi, hz0, hz1, hz2⟩ := info_parts info_i64
  have hnews := (h.alloc hB (.cells #[] 2)).news
  have hlen : (ints xs).length = n * 1 := by rw [ints_length, hl, Nat.mul_one]
  have h1 := ints_cells xs
  have hown0 := (Growing.start w 2).1
  have hbel0 := (Growing.start w 2).2
  have q22 : ∀ (w : World) (a : Option Addr) (n c n' c' : Nat), (binOp .eql 23 (.slice a n c) (.slice none n' c')).run Try.prog w = .ok (.bool a.isNone) w := fun w a n c n' c' => Lib.run_eql_slice_nil w _ _ a n c n' c' Try.underlying23
  go_enter Try.func115, Try.ntmps115
  go_wp2_with (at_builtin; refine wpList_append_own _ rfl (.tmp 5) (.tmp 6) 23 rfl w.heap.size 2 i0 _ 1 8 Try.underlying23 hi hz0 hz1 hz2 rfl (by omega) (.slice (some ⟨w.heap.size, 0, none⟩) 0 0) 0 [] rfl hown0 ad n c (ints xs) rfl hlen hnews h1 (by simp only [maxLen]; omega) (by omega) (by simp) ?_; intro v' w' hown hgrow _)
  go_ret
  rw [Nat.zero_add] at hown
  exact NewRow.own hown (hbel0.grown hgrow (by simp) (fun k hk => (hown0.lt k hk).1))
def rangeL (n : Nat) : List Int := (List.range n).map fun k : Nat => (k : Int)
theorem rangeL_length (n : Nat) : (rangeL n).length = n := by simp [rangeL]
theorem rangeL_at {n k : Nat} (h : k < n) : (rangeL n)[k]? = some (k : Int) := by unfold rangeL; rw [List.getElem?_map, List.getElem?_range h]; rfl
def chkT (n : Nat) : Bool := (Tr.treesL (n + 1)).all (fun t => Tr.isLv t && decide (t.length = n + 1)) && decide ((Tr.treesL (n + 1)).length ≤ 115)
theorem chkT_all : (List.range 8).all chkT = true := by decide +kernel
theorem trees_all {n : Nat} (h1 : 1 ≤ n) (h8 : n ≤ 8) : (∀ t ∈ Tr.treesL n, Tr.isLv t = true ∧ t.length = n) ∧ (Tr.treesL n).length ≤ 115 := by
  have h := List.all_eq_true.1 chkT_all (n - 1) (by rw [List.mem_range]; omega)
  unfold chkT at h
  rw [show n - 1 + 1 = n from by omega] at h
  simp only [Bool.and_eq_true, List.all_eq_true, decide_eq_true_eq] at h
  exact h
/-- the trees so far, the last one of them as it stands in the levels -/
structure Listed (n : Nat) (m : List (List Int)) (T : List Int) : Prop where
  last : ∃ m', m = m' ++ [T] ∧ Tr.treesL n = m' ++ Tr.treesF (116 - m'.length) T
theorem Listed.bd {n : Nat} {m : List (List Int)} {T : List Int} (h : Listed n m T) (h1 : 1 ≤ n) (h8 : n ≤ 8) : Tr.isLv T = true ∧ T.length = n ∧ 1 ≤ m.length ∧ m.length ≤ 115 := by
  obtain ⟨m', rfl, e⟩ := h.last
  obtain ⟨hall, hlen⟩ := trees_all h1 h8
  rw [e, List.length_append] at hlen
  have hf : 116 - m'.length = (115 - m'.length) + 1 := by omega
  have hT : T ∈ Tr.treesL n := by rw [e, hf, Tr.treesF]; simp
  have h2 := hall T hT
  rw [hf, Tr.treesF, List.length_cons] at hlen
  exact ⟨h2.1, h2.2, by simp, by rw [List.length_append]; simp; omega⟩
theorem Listed.done {n : Nat} {m : List (List Int)} {T : List Int} (h : Listed n m T) (h1 : 1 ≤ n) (h8 : n ≤ 8) (hl : Tr.lowerL T = none) : m = Tr.treesL n := by
  have hb := h.bd h1 h8
  obtain ⟨m', rfl, e⟩ := h.last
  have hlen := hb.2.2.2
  rw [List.length_append] at hlen
  simp at hlen
  rw [e, show 116 - m'.length = (115 - m'.length) + 1 from by omega, Tr.treesF, hl]
theorem Listed.next {n : Nat} {m : List (List Int)} {T u : List Int} (h : Listed n m T) (h1 : 1 ≤ n) (h8 : n ≤ 8) (hl : Tr.lowerL T = some u) : Listed n (m ++ [u]) u := by
  have hb := h.bd h1 h8
  obtain ⟨m', rfl, e⟩ := h.last
  have hlen := hb.2.2.2
  rw [List.length_append] at hlen
  simp at hlen
  refine ⟨m' ++ [T], rfl, ?_⟩
  rw [e, show 116 - m'.length = (115 - m'.length) + 1 from by omega, Tr.treesF, hl, List.length_append]
  simp
theorem Listed.start (n : Nat) : Listed n [rangeL n] (rangeL n) := ⟨[], rfl, rfl⟩
set_option maxHeartbeats 2000000 in
theorem treesWith_any (n : Nat) (w : World) (h1 : 1 ≤ n) (h8 : n ≤ 8) :
    Calls Try.prog 91 #[.int .i64 n] w (NewMat (Tr.treesL n).length (Tr.treesL n) w) := by
  obtain ⟨i0, hi, hz0, hz1, hz2⟩ := info_parts info_i64
  obtain ⟨j0, hj, hy0, hy1, hy2⟩ := info_parts info_row
  go_enter Try.func91, Try.ntmps91
  go_wp2_with (at_make; refine wpList_make_full _ rfl (.tmp 6) (.tmp 6) 23 rfl w.heap.size 2 i0 _ 1 Try.underlying23 hi hz0 hz1 .i64 .i64 _ _ n rfl rfl rfl rfl (by rw [hz2]; omega) (by simp only [maxLen]; omega) (Nat.le_refl _) ?_; intro w1 hown hg)
  have F0 := Filling.start (xs := rangeL n) hown hg
  clear hown hg hz0 hz1 hz2 hi
  go_wp2_with fail
  go_loopw [10] (fun i wr => ∃ k : Nat, k ≤ n ∧ i = .int .i64 k ∧ Filling w 2 n (rangeL n) k wr) (fun i _ => n - (intOf i).toNat)
  case atStart => exact ⟨0, Nat.zero_le _, rfl, F0⟩
  case round =>
    obtain ⟨k, hk, rfl, HF⟩ := hrel
    by_cases hlt : k < n
    · have hf := HF.1.frozenAt k
      have ho := HF.1.cellAt k (by omega)
      rw [fill_at (by rw [ints_length]; exact rangeL_length n) hlt] at ho
      have G := Lib.hid (HF.step (rangeL_length n) (rangeL_at hlt))
      clear F0 HF
      go_wp2
      go_roundw
      case rel => exact ⟨k + 1, by omega, by go_num, G.out⟩
      case measure => simp [intOf]; omega
    · obtain rfl : k = n := by omega
      obtain ⟨A0, c0, e0, hown1, hbel1⟩ := HF.done (rangeL_length k)
      injection e0 with e0
      injection e0 with eA _ ec
      subst eA ec
      obtain ⟨wo, hwo⟩ : ∃ wo, wo = wr := ⟨wr, rfl⟩
      subst hwo
      have HLV := Lib.hid (OwnR.of hown1)
      have HB1 := Lib.hid hbel1
      have hs1 : w.heap.size < wo.heap.size := (hown1.lt w.heap.size rfl).2
      clear F0 HF hown1 hbel1
      go_wp2_with fail
      refine (slicesClone_any ⟨w.heap.size, 0, none⟩ k k wo.heap.size (rangeL k) _ (rangeL_length k) (by omega) (Nat.le_refl _) HLV.out.row).mono ?_
      rintro e w2 ⟨A2, c2, rfl, own2, bel2⟩
      have HO2 := Lib.hid own2
      have HB2 := Lib.hid bel2
      have hs2 := bel2.size
      clear own2 bel2
      go_wp2_with fail
      have HM0 : Hid (OwnMat (w2.alloc (.cells #[.slice A2 k c2] 23)) wo.heap.size (w2.alloc (.cells #[.slice A2 k c2] 23)).heap.size (.slice (some ⟨w2.heap.size, 0, none⟩) 1 1) 1 [rangeL k] [.slice A2 k c2]) := by
        have hal : Below w2.heap.size w2 (w2.alloc (.cells #[.slice A2 k c2] 23)) := (Below.refl _ _).alloc (Nat.le_refl _) _
        have hlit := World.ownsRow_lit (base := wo.heap.size) (size := 1) (e := 23) w2 #[.slice A2 k c2] 1 hs2 (by simp [maxLen]) rfl
        refine ⟨OwnR.of hlit, rfl, ?_, ?_⟩
        · intro r row hr
          match r, hr with
          | 0, hr =>
            simp only [List.getElem?_cons_zero, Option.some.injEq] at hr
            subst hr
            refine ⟨A2, c2, by rw [rangeL_length]; rfl, ?_⟩
            rw [rangeL_length]
            exact ((OwnR.of HO2.out).below hal (Nat.le_refl _)).more (Nat.le_refl _) hal.size
          | r+1, hr => simp at hr
        · intro r s u t g hne hu ht
          match r, s, hu, ht with
          | 0, 0, _, _ => exact absurd rfl hne
          | r+1, _, hu, _ => simp at hu
          | 0, s+1, _, ht => simp at ht
      have HL0 : Hid (OwnR (w2.alloc (.cells #[.slice A2 k c2] 23)) w.heap.size wo.heap.size 2 (.slice (some ⟨w.heap.size, 0, none⟩) k k) k (ints (rangeL k))) :=
        (HLV.out.below HB2.out (Nat.le_refl _)).below ((Below.refl w2.heap.size w2).alloc (Nat.le_refl _) _) hs2
      have HB0 : Hid (Below w.heap.size w (w2.alloc (.cells #[.slice A2 k c2] 23))) := (HB1.out.trans (HB2.out.mono (by omega))).alloc (by omega) _
      go_loopw [5] (fun v W => ∃ (g cap j : Nat) (m : List (List Int)) (vs : List Value) (T : List Int), v = .slice (some ⟨g, 0, none⟩) j cap ∧ 1 ≤ j ∧ j ≤ 115 ∧ Hid (Listed k m T) ∧ Hid (OwnMat W wo.heap.size W.heap.size (.slice (some ⟨g, 0, none⟩) j cap) j m vs) ∧ Hid (OwnR W w.heap.size wo.heap.size 2 (.slice (some ⟨w.heap.size, 0, none⟩) k k) k (ints T)) ∧ Below w.heap.size w W ∧ wo.heap.size ≤ W.heap.size) (fun v _ => 200 - (match v with | .slice _ n _ => n | _ => 0))
      case atStart => exact ⟨w2.heap.size, 1, 1, [rangeL k], [.slice A2 k c2], rangeL k, rfl, Nat.le_refl _, by omega, Listed.start k, HM0, HL0, HB0.out, by simp; omega⟩
      case round =>
        obtain ⟨g, cap, j, m, vs, T, rfl, j1, j115, HT, HM, HL, HB, hWo⟩ := hrel
        obtain ⟨tlv, tl, _, _⟩ := HT.out.bd h1 h8
        have HTL := Lib.hid tl
        have C0 := lower_any w.heap.size w.heap.size k k T wr tl tlv HL.out.1
        clear tl tlv
        go_wp2_with fail
        refine C0.mono ?_
        rintro e w3 ⟨md, ⟨hlo, rfl, rfl⟩ | ⟨u, hlo, rfl, hown3, hg3⟩⟩
        · have e := HT.out.done h1 h8 hlo
          have hjl : m.length = j := HM.out.size
          have G : Hid (NewMat (Tr.treesL k).length (Tr.treesL k) w (.returned (.slice (some ⟨g, 0, none⟩) j cap)) (wr.drewN md)) := by
            rw [Hid, ← e, hjl]
            exact ⟨_, _, vs, rfl, (HM.out.drewN md).more (by omega) (Nat.le_refl _), below_drewN HB md⟩
          clear hlo e hjl HB C0
          go_wp2
          go_ret
          exact G.out
        · have hsz3 : wr.heap.size ≤ w3.heap.size := hg3.size
          have hWI : Within w.heap.size wo.heap.size (wr.drewN md) w3 := Within.grown hg3 (fun g' e => by injection e with e; omega)
          have HM3 : Hid (OwnMat w3 wo.heap.size w3.heap.size (.slice (some ⟨g, 0, none⟩) j cap) j m vs) := ((HM.out.drewN md).within hWI (by show wr.heap.size ≤ wr.heap.size; omega) (.inr (Nat.le_refl _))).more (Nat.le_refl _) hsz3
          have HL3 : Hid (OwnR w3 w.heap.size wo.heap.size 2 (.slice (some ⟨w.heap.size, 0, none⟩) k k) k (ints u)) := ⟨hown3, fun g' e => by have : w.heap.size = g' := (by simpa [Value.ownBlock] using e); omega⟩
          have HB3 : Hid (Below w.heap.size w w3) := Below.then (below_drewN HB md) hWI (Nat.le_refl _) (by show w.heap.size ≤ wr.heap.size; omega)
          have HN := Lib.hid (HT.out.next h1 h8 hlo)
          have hul : u.length = k := (HN.out.bd h1 h8).2.1
          have huj : j + 1 ≤ 115 := by have := (HN.out.bd h1 h8).2.2.2; rw [List.length_append] at this; have := HM.out.size; simp at *; omega
          have HUL := Lib.hid hul
          have hW3 : wo.heap.size ≤ w3.heap.size := by omega
          clear hlo hown3 hg3 hWI HB C0 HM HL HT hul
          go_wp2_with fail
          refine (slicesClone_any ⟨w.heap.size, 0, none⟩ k k wo.heap.size u _ HUL.out (by omega) hW3 HL3.out.row).mono ?_
          rintro e w4 ⟨A4, c4, rfl, own4, bel4⟩
          have hs4 := bel4.size
          have HM4 := Lib.hid (HM3.out.below bel4 (Nat.le_refl _))
          have HL4 := Lib.hid (HL3.out.below bel4 hW3)
          have HB4 := Lib.hid (HB3.out.trans (bel4.mono (by omega)))
          have HO4 := Lib.hid own4
          have hownO := HM4.out.outer.1
          clear own4 bel4
          go_wp2_with (at_builtin; refine wpList_append_lies _ rfl (.tmp 23) (.tmp 26) 22 rfl wo.heap.size 23 j0 _ 1 24 Try.underlying22 hj hy0 hy1 hy2 rfl (by omega) (.slice (some ⟨g, 0, none⟩) j cap) j vs rfl (hownO.alloc _) ⟨w4.heap.size, 0, none⟩ 1 1 [.slice A4 k c4] rfl rfl (World.news_of_block (cs := #[.slice A4 k c4]) (heap_alloc_new _ _)) (by simp [Value.oneCell']) (by omega) (by simp only [maxLen]; omega) (by omega) (by simp; omega) (w4.heap.size + 1) (by simp) ?_; intro g5 cap5 w5 hown5 hgrow5 hat5 hlt5)
          have hs5 : w4.heap.size ≤ w5.heap.size := by have := hgrow5.size; simp at this; omega
          have GM : Hid (OwnMat w5 wo.heap.size w5.heap.size (.slice (some ⟨g5, 0, none⟩) (j + 1) cap5) (j + 1) (m ++ [u]) (vs ++ [.slice A4 k c4])) := HM4.out.push (row := u) hs4 HUL.out HO4.out hW3 hown5 hgrow5
          have GL : Hid (OwnR w5 w.heap.size wo.heap.size 2 (.slice (some ⟨w.heap.size, 0, none⟩) k k) k (ints u)) :=
            ((HL4.out.below ((Below.refl w4.heap.size w4).alloc (Nat.le_refl _) _) (by omega)).grown hgrow5 (own_types HL4.out.1 hownO (by decide)))
          have GB : Hid (Below w.heap.size w w5) := (HB4.out.alloc (by omega) _).grown hgrow5 (by simp; omega) (fun q hq => by have := (hownO.lt q hq).1; omega)
          clear hown5 hgrow5 hat5 hownO
          go_wp2
          go_roundw
          case rel => exact ⟨g5, cap5, j + 1, _, _, u, rfl, by omega, huj, HN, GM, GL, GB.out, by omega⟩
          case measure => simp; omega
end Go.Proofs.Ytnnihdkhblbdgaa
/-
  The model's list of all trees with n nodes, plainly.
-/
namespace Go.Proofs.Ytnnihdkhblbdgaa
set_option maxRecDepth 100000

theorem grow_trees {n : Nat} (h1 : 1 ≤ n) (h8 : n ≤ 8) : Tr.growF (n - 1) [0] [] = Tr.treesL n := by
  have h := List.all_eq_true.1 Tr.grow_eq (n - 1) (by rw [List.mem_range]; omega)
  rw [show n - 1 + 1 = n from by omega] at h
  exact eq_of_beq h
end Go.Proofs.Ytnnihdkhblbdgaa
/-
  All trees with so many nodes, the model's.
-/
namespace Go.Proofs.Ytnnihdkhblbdgaa
open Go.RowKit Fld
set_option linter.unusedVariables false
set_option linter.unusedSimpArgs false
set_option maxRecDepth 100000

theorem lv_last {t : List Int} (h : Tr.isLv t = true) : 0 ≤ t.getD (t.length - 1) 0 ∧ t.getD (t.length - 1) 0 ≤ (t.length : Int) - 1 := by
  have h1 := Tr.isLv_iff.1 h
  have h2 := StepsTo.bd (t := t) (n := t.length) (k := t.length - 1) h1.2.2.2 h1.2.2.1 (by have := h1.1; omega) rfl
  have := h1.1
  omega
theorem lv_push {t : List Int} {x : Int} (h : Tr.isLv t = true) (hl : t.length + 1 ≤ 8) (h1 : 1 ≤ x) (h2 : x ≤ t.getD (t.length - 1) 0 + 1) : Tr.isLv (t ++ [x]) = true := by
  have h3 := Tr.isLv_iff.1 h
  have hlt := h3.1
  have hg : ∀ i, i < t.length → (t ++ [x]).getD i 0 = t.getD i 0 := fun i hi => by
    rw [List.getD_eq_getElem?_getD, List.getElem?_append_left hi, ← List.getD_eq_getElem?_getD]
  have hx : (t ++ [x]).getD t.length 0 = x := by
    rw [List.getD_eq_getElem?_getD, List.getElem?_append_right (Nat.le_refl _), Nat.sub_self]; rfl
  refine Tr.isLv_iff.2 ⟨by simp, by simp; omega, by rw [hg 0 hlt]; exact h3.2.2.1, fun i hi h1' => ?_⟩
  rw [List.length_append, List.length_singleton] at hi
  by_cases e : i = t.length
  · subst e
    rw [hx, hg (t.length - 1) (by omega)]
    exact ⟨h1, h2⟩
  · rw [hg i (by omega), hg (i - 1) (by omega)]
    exact h3.2.2.2 i (by omega) h1'
def growTo (f : Nat) (t : List Int) (m : List (List Int)) (k : Nat) : List (List Int) := (List.range k).foldl (fun (o : List (List Int)) (j : Nat) => Tr.growF f (t ++ [t.getD (t.length - 1) 0 + 1 - (j : Int)]) o) m
theorem growTo_step (f : Nat) (t : List Int) (m : List (List Int)) (k : Nat) : growTo f t m (k + 1) = Tr.growF f (t ++ [t.getD (t.length - 1) 0 + 1 - (k : Int)]) (growTo f t m k) := by
  unfold growTo; rw [List.range_succ, List.foldl_append]; rfl
theorem growF_succ (f : Nat) (t : List Int) (m : List (List Int)) : Tr.growF (f + 1) t m = growTo f t m (t.getD (t.length - 1) 0 + 1).toNat := rfl
theorem grow_len : ∀ (f : Nat) (t : List Int) (m : List (List Int)), Tr.isLv t = true → t.length + f ≤ 8 → (Tr.growF f t m).length ≤ m.length + 9 ^ f
  | 0, t, m, _, _ => by
    rw [Tr.growF]; split
    · simp
    · simp
  | f+1, t, m, h, hl => by
    rw [growF_succ]
    have hb := lv_last h
    have key : ∀ k : Nat, (k : Int) ≤ t.getD (t.length - 1) 0 + 1 → (growTo f t m k).length ≤ m.length + k * 9 ^ f := by
      intro k
      induction k with
      | zero => intro _; simp [growTo]
      | succ k ih =>
        intro hk
        rw [growTo_step]
        have h1 := grow_len f (t ++ [t.getD (t.length - 1) 0 + 1 - (k : Int)]) (growTo f t m k) (lv_push h (by omega) (by omega) (by omega)) (by rw [List.length_append]; simp; omega)
        have h2 := ih (by omega)
        have e : (k + 1) * 9 ^ f = k * 9 ^ f + 9 ^ f := by rw [Nat.add_mul, Nat.one_mul]
        omega
    have h1 := key (t.getD (t.length - 1) 0 + 1).toNat (by omega)
    have h2 : (t.getD (t.length - 1) 0 + 1).toNat ≤ 9 := by omega
    have h3 : (t.getD (t.length - 1) 0 + 1).toNat * 9 ^ f ≤ 9 * 9 ^ f := Nat.mul_le_mul_right _ h2
    have e : 9 ^ (f + 1) = 9 * 9 ^ f := by rw [Nat.pow_succ, Nat.mul_comm]
    omega
/-- what was there stands, but for a row that grows -/
theorem grown_chain {a b c : World} {r r' : Option Nat} (h : a.grownBy b r) (k : b.grownBy c r') (hr : r' = r ∨ ∃ g, r' = some g ∧ a.heap.size ≤ g) : a.grownBy c r :=
  ⟨k.os.trans h.os, k.tape.trans h.tape, k.output.trans h.output, Nat.le_trans h.size k.size, fun i hi hne => by
    rw [k.block i (Nat.lt_of_lt_of_le hi h.size) (fun e => by
      rcases hr with hr | ⟨g, hr, hg⟩
      · exact hne (by rw [e, hr])
      · rw [hr] at e; injection e with e; omega)]
    exact h.block i hi hne⟩
theorem below_grown {a b : World} (h : Below a.heap.size a b) : a.grownBy b none := ⟨h.os, h.tape, h.output, h.size, fun i hi _ => h.block i hi⟩
theorem grown_any {a b : World} {r : Option Nat} (h : a.grownBy b none) : a.grownBy b r := ⟨h.os, h.tape, h.output, h.size, fun i hi _ => h.block i hi (by simp)⟩
/-- what l03Grow hands back -/
def Grown (lo : Nat) (v : Value) (m' : List (List Int)) (w : World) (e : Ending) (w' : World) : Prop :=
  ∃ A q c vs, e = .returned (.slice A q c) ∧ OwnMat w' lo w'.heap.size (.slice A q c) q m' vs ∧ w.grownBy w' v.ownBlock ∧ (Value.ownBlock (.slice A q c) = v.ownBlock ∨ ∃ g, Value.ownBlock (.slice A q c) = some g ∧ w.heap.size ≤ g)
def SGrow (f : Nat) : Prop := ∀ (At A : Option Addr) (ct q c n lo lot : Nat) (t : List Int) (m : List (List Int)) (vs : List Value) (w : World), t.length + f = n → n ≤ 8 → Tr.isLv t = true → q + 9 ^ f ≤ 100000000 → lo ≤ w.heap.size →
    w.ownsRow lot 2 1 (.slice At t.length ct) t.length (ints t) → OwnMat w lo w.heap.size (.slice A q c) q m vs →
    Calls Try.prog 111 #[.slice At t.length ct, .int .i64 n, .slice A q c] w (Grown lo (.slice A q c) (Tr.growF f t m) w)
set_option maxHeartbeats 1000000 in
theorem sGrow_zero : SGrow 0 := by
  obtain ⟨j0, hj, hy0, hy1, hy2⟩ := info_parts info_row
  intro At A ct q c n lo lot t m vs w hn hn8 hlv hq hlo ht hm
  have hnt : t.length = n := by omega
  obtain ⟨e1, e2⟩ := lv_can hlv
  have HE : Hid ((Tr.can t).length = n) := by rw [Hid, e2, hnt]
  have HT := Lib.hid ht
  have HM := Lib.hid hm
  have HLV := Lib.hid hlv
  have HN := Lib.hid hnt
  have h1 : 1 ≤ n := by have := (Tr.isLv_iff.1 hlv).1; omega
  have hq' : q ≤ 100000000 := by omega
  rw [hnt] at ht HT ⊢
  obtain ⟨gt, capt, hvt⟩ := own_form ht (by omega)
  injection hvt with hA _ hcap
  subst hA hcap
  clear hn hlv hq e1 e2 hnt hm
  go_enter Try.func111, Try.ntmps111
  go_wp2_with fail
  refine (l03Canon_any _ n ct w.heap.size t _ HN.out HLV.out (Nat.le_refl _) (row_of_own ht)).mono ?_
  rintro e w1 ⟨A1, c1, rfl, own1, bel1⟩
  have hs1 := bel1.size
  have HB1 := Lib.hid bel1
  have HT1 := Lib.hid ((OwnR.of HT.out).below bel1 (Nat.le_refl _))
  have C1 := l01Same_any A1 _ n n c1 ct _ _ (Tr.can t) t w1 HE.out HN.out (by omega) (by omega) (row_of_own own1) HT1.out.row
  clear own1 bel1 ht
  by_cases hct : Tr.can t = t
  · have G : Hid (Tr.growF 0 t m = m ++ [t]) := by rw [Hid, Tr.growF, if_pos hct]
    rw [hct, eqL_self] at C1
    clear hct
    go_wp2_with fail
    refine C1.mono ?_
    rintro e w2 ⟨rfl, m2, rfl⟩
    go_wp2_with fail
    refine (l01Own_any ⟨gt, 0, none⟩ n ct w1.heap.size t _ HN.out (by omega) (by show w1.heap.size ≤ w1.heap.size; omega) ((HT1.out.row.more hs1).drewN m2)).mono ?_
    rintro e w3 ⟨A3, c3, rfl, own3, bel3⟩
    have hs3 : w1.heap.size ≤ w3.heap.size := bel3.size
    have HM3 := Lib.hid ((((HM.out.below HB1.out (Nat.le_refl _)).more (Nat.le_refl _) hs1).drewN m2).below bel3 (Nat.le_refl _))
    have HB3 : Hid (Below w.heap.size w w3) := (below_drewN HB1.out m2).trans (bel3.mono (by show w.heap.size ≤ w1.heap.size; exact hs1))
    have HO3 : Hid (w3.ownsRow w1.heap.size 2 1 (.slice A3 n c3) n (ints t)) := own3
    have hownO := HM3.out.outer.1
    clear own3 bel3
    go_wp2_with (at_builtin; refine wpList_append_lies _ rfl (.tmp 16) (.tmp 19) 22 rfl lo 23 j0 _ 1 24 Try.underlying22 hj hy0 hy1 hy2 rfl (by omega) (.slice A q c) q vs rfl (hownO.alloc _) ⟨w3.heap.size, 0, none⟩ 1 1 [.slice A3 n c3] rfl rfl (World.news_of_block (cs := #[.slice A3 n c3]) (heap_alloc_new _ _)) (by simp [Value.oneCell']) (by omega) (by simp only [maxLen]; omega) (by omega) (by simp; omega) (w3.heap.size + 1) (by simp) ?_; intro g5 cap5 w5 hown5 hgrow5 hat5 hlt5)
    have hs5 : w3.heap.size ≤ w5.heap.size := by have := hgrow5.size; simp at this; omega
    have GG : Hid (Grown lo (.slice A q c) (Tr.growF 0 t m) w (.returned (.slice (some ⟨g5, 0, none⟩) (q + 1) cap5)) w5) := by
      rw [Hid, G.out]
      refine ⟨_, _, _, _, rfl, HM3.out.push (row := t) hs3 HN.out HO3.out (by omega) hown5 hgrow5, ?_, ?_⟩
      · have h1 : w.grownBy (w3.alloc (.cells #[.slice A3 n c3] 23)) none := below_grown (HB3.out.alloc (by omega) _)
        exact grown_chain (grown_any h1) hgrow5 (.inl rfl)
      · rcases hat5 with e | e
        · exact .inl e.symm
        · exact .inr ⟨g5, rfl, by omega⟩
    clear hown5 hgrow5 hat5 hownO
    go_wp2
    go_ret
    exact GG.out
  · have G : Hid (Tr.growF 0 t m = m) := by rw [Hid, Tr.growF, if_neg hct]
    have e : eqL (Tr.can t) t = false := by unfold eqL; exact decide_eq_false hct
    rw [e] at C1
    clear hct e
    go_wp2_with fail
    refine C1.mono ?_
    rintro e w2 ⟨rfl, m2, rfl⟩
    have GG : Hid (Grown lo (.slice A q c) (Tr.growF 0 t m) w (.returned (.slice A q c)) (w1.drewN m2)) := by
      rw [Hid, G.out]
      exact ⟨A, q, c, vs, rfl, ((HM.out.below HB1.out (Nat.le_refl _)).drewN m2).more (Nat.le_refl _) hs1, grown_any (below_grown (below_drewN HB1.out m2)), .inl rfl⟩
    go_wp2
    go_ret
    exact GG.out
set_option maxHeartbeats 2000000 in
theorem sGrow_succ (f : Nat) (IH : SGrow f) : SGrow (f + 1) := by
  obtain ⟨i0, hi, hz0, hz1, hz2⟩ := info_parts info_i64
  intro At A ct q c n lo lot t m vs w hn hn8 hlv hq hlo ht hm
  obtain ⟨nt, hnt⟩ : ∃ nt, nt = t.length := ⟨_, rfl⟩
  have h1 : 1 ≤ nt := by have := (Tr.isLv_iff.1 hlv).1; omega
  have HNT : Hid (t.length = nt) := hnt.symm
  rw [← hnt] at ht ⊢
  obtain ⟨gt, capt, hvt⟩ := own_form ht (by omega)
  injection hvt with hA _ hcap
  subst hA hcap
  obtain ⟨L, hL⟩ : ∃ L, L = t.getD (t.length - 1) 0 := ⟨_, rfl⟩
  have hLb := lv_last hlv
  rw [← hL, ← hnt] at hLb
  have hLc := ht.cellAt (nt - 1) (by omega)
  have hLx : t[nt - 1]? = some L := by
    obtain ⟨x, hx⟩ := at_lt (show nt - 1 < t.length by omega)
    rw [hx, hL, ← hnt, lv_at hx]
  rw [ints_at hLx] at hLc
  have hnlt : nt < n := by omega
  have HFN : Hid (nt + (f + 1) = n) := by rw [Hid, hnt]; exact hn
  have HT : Hid (OwnR w lot w.heap.size 2 (.slice (some ⟨gt, 0, none⟩) nt ct) nt (ints t)) := OwnR.of ht
  have HM := Lib.hid hm
  have HLV := Lib.hid hlv
  have HLL : Hid (t.getD (t.length - 1) 0 = L) := hL.symm
  have HG : Hid (Tr.growF (f + 1) t m = growTo f t m (L + 1).toNat) := by rw [Hid, growF_succ, ← hL]
  have hpow : 9 ^ (f + 1) = 9 * 9 ^ f := by rw [Nat.pow_succ, Nat.mul_comm]
  have HQ : Hid (q + 9 * 9 ^ f ≤ 100000000) := by rw [Hid, ← hpow]; exact hq
  have HML : Hid (m.length = q) := hm.size
  have tn := beq_f (show ¬ (nt : Int) = (n : Int) by omega)
  clear hn hlv hq hpow hL hLx ht hm hnt
  go_enter Try.func111, Try.ntmps111
  go_wp2_with fail
  go_loopw [2, 7] (fun v l wr => ∃ (k q' c' : Nat) (A' : Option Addr) (vs' : List Value), v = .slice A' q' c' ∧ l = .int .i64 (L + 1 - (k : Int)) ∧ (k : Int) ≤ L + 1 ∧ Hid (q' ≤ q + k * 9 ^ f) ∧ Hid (OwnMat wr lo wr.heap.size (.slice A' q' c') q' (growTo f t m k) vs') ∧ Hid (w.grownBy wr (Value.ownBlock (.slice A q c))) ∧ Hid (Value.ownBlock (.slice A' q' c') = Value.ownBlock (.slice A q c) ∨ ∃ g, Value.ownBlock (.slice A' q' c') = some g ∧ w.heap.size ≤ g) ∧ w.heap.size ≤ wr.heap.size) (fun _ l _ => (intOf l).toNat)
  case atStart => exact ⟨0, q, c, A, vs, rfl, by simp, by omega, by rw [Hid]; omega, HM.out, World.grownBy.refl _ _, .inl rfl, Nat.le_refl _⟩
  case round =>
    obtain ⟨k, q', c', A', vs', rfl, rfl, hk, HQ', HM', HGR, HOB, hsz⟩ := hrel
    by_cases hlt : (k : Int) < L + 1
    · have hlev : 1 ≤ L + 1 - (k : Int) := by omega
      obtain ⟨lev, hlv2⟩ : ∃ lev, lev = L + 1 - (k : Int) := ⟨_, rfl⟩
      have hl1 : 1 ≤ lev := by omega
      have hl8 : lev ≤ 9 := by omega
      have HS : Hid (growTo f t m (k + 1) = Tr.growF f (t ++ [lev]) (growTo f t m k)) := by rw [Hid, growTo_step, HLL.out, hlv2]
      have HPL : Hid (Tr.isLv (t ++ [lev]) = true) := lv_push HLV.out (by have := HNT.out; have := HFN.out; omega) hl1 (by rw [HLL.out]; omega)
      have HT' := Lib.hid (HT.out.grown HGR.out (own_types HT.out.1 HM.out.outer.1 (by decide)))
      have hk9 : k + 1 ≤ 9 := by omega
      have HQ2 : Hid (q' + 9 ^ f ≤ 100000000) := by
        have h2 := HQ'.out
        have h3 := HQ.out
        have h4 : (k + 1) * 9 ^ f ≤ 9 * 9 ^ f := Nat.mul_le_mul_right _ hk9
        rw [Nat.add_mul, Nat.one_mul] at h4
        rw [Hid]; omega
      have hrng : L + 1 - (k : Int) = lev := hlv2.symm
      rw [hrng]
      have hlm : lev - 1 = L + 1 - ((k + 1 : Nat) : Int) := by omega
      have HLM := Lib.hid hlm
      clear hrng hlm hlv2
      go_wp2_with fail
      refine (l01Own_any ⟨gt, 0, none⟩ nt ct w.heap.size t _ HNT.out (by omega) hsz HT'.out.row).mono ?_
      rintro e w1 ⟨A1, c1, rfl, own1, bel1⟩
      have hs1 := bel1.size
      have HB1 := Lib.hid bel1
      have HO1 := Lib.hid own1
      clear bel1
      go_wp2_with (at_builtin; refine wpList_append_lies _ rfl (.tmp 34) (.tmp 36) 23 rfl wr.heap.size 2 i0 _ 1 8 Try.underlying23 hi hz0 hz1 hz2 rfl (by omega) (.slice A1 nt c1) nt (ints t) rfl (own1.alloc _) ⟨w1.heap.size, 0, none⟩ 1 1 [.int .i64 lev] rfl rfl (World.news_of_block (cs := #[.int .i64 lev]) (heap_alloc_new _ _)) (by simp [Value.oneCell']) (by omega) (by simp only [maxLen]; omega) (by omega) (by simp; omega) (w1.heap.size + 1) (by simp) ?_; intro g2 c2 w2 hown2 hgrow2 hat2 hlt2)
      have BW2 : Hid (Below wr.heap.size wr w2) := (HB1.out.alloc hs1 _).grown hgrow2 (by simp; omega) (fun q hq => (HO1.out.lt q hq).1)
      have hs2 : wr.heap.size ≤ w2.heap.size := BW2.out.size
      have HLN : Hid ((t ++ [lev]).length = nt + 1) := by rw [Hid, List.length_append, HNT.out]; rfl
      have HM2 : Hid (OwnMat w2 lo w2.heap.size (.slice A' q' c') q' (growTo f t m k) vs') := (HM'.out.below BW2.out (Nat.le_refl _)).more (Nat.le_refl _) hs2
      have C1 := IH (some ⟨g2, 0, none⟩) A' c2 q' c' n lo wr.heap.size (t ++ [lev]) (growTo f t m k) vs' w2 (by rw [HLN.out]; have := HFN.out; omega) hn8 HPL.out HQ2.out (by omega) (by
        have e : ints t ++ [.int .i64 lev] = ints (t ++ [lev]) := by simp [ints, intsK]
        rw [e] at hown2
        rw [HLN.out]; exact hown2) HM2.out
      rw [HLN.out, ← HS.out] at C1
      clear hown2 hgrow2 hat2 own1
      go_wp2_with fail
      refine C1.mono ?_
      rintro e w3 ⟨A3, q3, c3, vs3, rfl, hm3, hg3, hb3⟩
      have HM3 := Lib.hid hm3
      have hs3 : w2.heap.size ≤ w3.heap.size := hg3.size
      have HGR3 : Hid (w.grownBy w3 (Value.ownBlock (.slice A q c))) := grown_chain (grown_chain HGR.out (grown_any (below_grown BW2.out)) (.inl rfl)) hg3 HOB.out
      have HOB3 : Hid (Value.ownBlock (.slice A3 q3 c3) = Value.ownBlock (.slice A q c) ∨ ∃ g, Value.ownBlock (.slice A3 q3 c3) = some g ∧ w.heap.size ≤ g) := by
        rcases hb3 with hb3 | ⟨g, hb3, hg⟩
        · rw [Hid, hb3]; exact HOB.out
        · exact .inr ⟨g, hb3, by omega⟩
      have HQ3 : Hid (q3 ≤ q + (k + 1) * 9 ^ f) := by
        have h1 := HM3.out.size
        rw [HS.out] at h1
        have h2 := grow_len f (t ++ [lev]) (growTo f t m k) HPL.out (by rw [HLN.out]; have := HFN.out; omega)
        have h3 := HM'.out.size
        have h4 := HQ'.out
        rw [Hid, Nat.add_mul, Nat.one_mul]; omega
      clear hm3 hg3 hb3 C1
      go_wp2
      go_roundw
      case rel => exact ⟨k + 1, q3, c3, A3, vs3, rfl, by rw [← HLM.out], by omega, HQ3, HM3, HGR3, HOB3, by omega⟩
      case measure => simp [intOf]; omega
    · have hk2 : (k : Int) = L + 1 := by omega
      have G : Hid (Grown lo (.slice A q c) (Tr.growF (f + 1) t m) w (.returned (.slice A' q' c')) wr) := by
        rw [Hid, HG.out, show (L + 1).toNat = k from by omega]
        exact ⟨A', q', c', vs', rfl, HM'.out, HGR.out, HOB.out⟩
      have e0 : L + 1 - (k : Int) = 0 := by omega
      rw [e0]
      clear hk2 e0
      go_wp2
      go_ret
      exact G.out
theorem sGrow_all : ∀ f, SGrow f
  | 0 => sGrow_zero
  | f+1 => sGrow_succ f (sGrow_all f)
theorem l03Trees_any (n : Nat) (w : World) (h1 : 1 ≤ n) (h8 : n ≤ 8) : Calls Try.prog 87 #[.int .i64 n] w (NewMat (Tr.treesL n).length (Tr.treesL n) w) := by
  have own1 := World.ownsRow_lit (base := w.heap.size) (size := 1) (e := 2) w #[.int .i64 0] 1 (Nat.le_refl _) (by simp [maxLen]) rfl
  have C1 := sGrow_all (n - 1) (some ⟨w.heap.size, 0, none⟩) none 1 0 0 n w.heap.size w.heap.size [0] [] [] (w.alloc (.cells #[.int .i64 0] 2)) (by simp; omega) h8 (by decide) (by
    have : n - 1 ≤ 7 := by omega
    have h2 : 9 ^ (n - 1) ≤ 9 ^ 7 := Nat.pow_le_pow_right (by omega) this
    omega) (by simp) own1 ⟨⟨World.ownsRow_nil _ _ _ _, fun g e => by simp [Value.ownBlock] at e⟩, rfl, fun r row hr => by simp at hr, fun r s u t g _ hu => by simp at hu⟩
  rw [grow_trees h1 h8] at C1
  go_enter Try.func87, Try.ntmps87
  go_wp2_with fail
  refine C1.mono ?_
  rintro e w3 ⟨A3, q3, c3, vs3, rfl, hm3, hg3, hb3⟩
  have e1 : (Tr.treesL n).length = q3 := hm3.size
  have G : Hid (NewMat (Tr.treesL n).length (Tr.treesL n) w (.returned (.slice A3 q3 c3)) w3) := by
    rw [Hid, e1]
    refine ⟨A3, c3, vs3, rfl, hm3, ?_⟩
    exact ((Below.refl _ _).alloc (Nat.le_refl _) _).grown hg3 (by simp) (fun b hb => by simp [Value.ownBlock] at hb)
  clear hm3 hg3 hb3 C1 e1
  go_wp2
  go_ret
  exact G.out
end Go.Proofs.Ytnnihdkhblbdgaa
/-
  What TreesOf answers, the program's and the model's.
-/
namespace Go.Proofs.Ytnnihdkhblbdgaa
open Go.RowKit Fld
set_option linter.unusedVariables false
set_option linter.unusedSimpArgs false
set_option maxRecDepth 100000

theorem total_bd {q : Nat} : ∀ {m : List (List Int)}, (∀ t ∈ m, t.length ≤ q) → total m ≤ m.length * q
  | [], _ => by simp [total]
  | x :: r, h => by
    have h1 := h x (by simp)
    have h2 := total_bd (fun t ht => h t (by simp [ht]) : ∀ t ∈ r, t.length ≤ q)
    have e : total (x :: r) = x.length + total r := by simp [total]
    rw [e, List.length_cons, Nat.add_mul, Nat.one_mul]; omega
theorem trees_total {n : Nat} (h1 : 1 ≤ n) (h8 : n ≤ 8) : (Tr.treesL n).length + total (Tr.treesL n) ≤ 1048576 := by
  obtain ⟨ha, hl⟩ := trees_all h1 h8
  have := total_bd (q := 8) (m := Tr.treesL n) (fun t ht => by rw [(ha t ht).2]; exact h8)
  omega
def treesOfA (a : Int) : List (List Int) × Int := if 1 ≤ a ∧ a ≤ 8 then (Tr.treesL a.toNat, 0) else ([], 2)
theorem treesOfA_yes {n : Nat} (h1 : 1 ≤ n) (h8 : n ≤ 8) : treesOfA (n : Int) = (Tr.treesL n, 0) := by
  unfold treesOfA; rw [if_pos (by omega)]; rfl
theorem treesOfA_no {a : Int} (h : ¬ (1 ≤ a ∧ a ≤ 8)) : treesOfA a = ([], 2) := if_neg h
theorem pTreesOf_L (a : Int) (w : World) (ha : -9223372036854775808 ≤ a ∧ a ≤ 9223372036854775807) : Calls Try.prog 57 #[.int .i64 a] w (ResM (treesOfA a) w) := by
  by_cases h : 1 ≤ a ∧ a ≤ 8
  · obtain ⟨n, rfl⟩ : ∃ n : Nat, a = (n : Int) := ⟨a.toNat, by omega⟩
    have h1 : 1 ≤ n := by omega
    have h8 : n ≤ 8 := by omega
    have G := Lib.hid (treesOfA_yes h1 h8)
    clear h ha
    go_enter Try.func57, Try.ntmps57
    go_wp2_with fail
    refine (treesWith_any n _ h1 h8).mono ?_
    rintro e w1 ⟨A1, c1, vs1, rfl, own1, bel1⟩
    have HO := Lib.hid own1
    have HB := Lib.hid bel1
    have HT := Lib.hid (trees_total h1 h8)
    clear own1 bel1
    go_wp2
    go_ret2
    exact ResM.of G.out HT.out HO.out HB.out
  · have G := Lib.hid (treesOfA_no h)
    by_cases h1 : a < 1
    · clear h
      go_enter Try.func57, Try.ntmps57
      go_wp2
      go_ret2
      exact ResM.nil G.out (Below.refl _ _)
    · have h8 : 8 < a := by omega
      clear h
      go_enter Try.func57, Try.ntmps57
      go_wp2
      go_ret2
      exact ResM.nil G.out (Below.refl _ _)
end Go.Proofs.Ytnnihdkhblbdgaa
/-
  The list of all trees; what TreeAt answers, the program's and the model's.
-/
namespace Go.Proofs.Ytnnihdkhblbdgaa
open Go.RowKit Fld
set_option linter.unusedVariables false
set_option linter.unusedSimpArgs false
set_option maxRecDepth 100000

/-- rows are added behind the last one -/
theorem OwnMat.pushAll {w w2 : World} {lo hi n n' g cap c' : Nat} {v : Value} {A' : Option Addr} {m m' : List (List Int)} {vs vs' : List Value} (h : OwnMat w lo hi v n m vs) (hs : hi ≤ w.heap.size) (h' : OwnMat w hi w.heap.size (.slice A' n' c') n' m' vs') (hl : lo ≤ hi)
    (h2 : w2.ownsRow lo 23 1 (.slice (some ⟨g, 0, none⟩) (n + n') cap) (n + n') (vs ++ vs')) (hg : w.grownBy w2 v.ownBlock) : OwnMat w2 lo w2.heap.size (.slice (some ⟨g, 0, none⟩) (n + n') cap) (n + n') (m ++ m') (vs ++ vs') := by
  have hz : w.heap.size ≤ w2.heap.size := hg.size
  have carry : ∀ (lo' hi' : Nat) (A2 : Option Addr) (c2 : Nat) (r2 : List Int), OwnR w lo' hi' 2 (.slice A2 r2.length c2) r2.length (ints r2) → OwnR w2 lo' hi' 2 (.slice A2 r2.length c2) r2.length (ints r2) := fun lo' hi' A2 c2 r2 o2 => o2.grown hg (own_types o2.1 h.outer.1 (by decide))
  have side : ∀ (r : Nat) (u : Value) (g' : Nat), (vs ++ vs')[r]? = some u → u.ownBlock = some g' → (r < vs.length ∧ vs[r]? = some u ∧ g' < hi) ∨ (vs.length ≤ r ∧ vs'[r - vs.length]? = some u ∧ hi ≤ g') := by
    intro r u g' hu hb
    rcases Nat.lt_or_ge r vs.length with x | x
    · rw [List.getElem?_append_left x] at hu
      obtain ⟨A2, c2, e2, o2⟩ := h.inner r _ (List.getElem?_eq_getElem (by rw [← h.len]; exact x))
      rw [hu] at e2
      injection e2 with e2
      subst e2
      exact .inl ⟨x, hu, o2.2 g' hb⟩
    · rw [List.getElem?_append_right x] at hu
      have hx : r - vs.length < vs'.length := by
        rcases Nat.lt_or_ge (r - vs.length) vs'.length with y | y
        · exact y
        · rw [List.getElem?_eq_none y] at hu; cases hu
      obtain ⟨A2, c2, e2, o2⟩ := h'.inner _ _ (List.getElem?_eq_getElem (by rw [← h'.len]; exact hx))
      have hu0 := hu
      rw [hu] at e2
      injection e2 with e2
      subst e2
      exact .inr ⟨x, hu0, (o2.1.lt g' hb).1⟩
  refine ⟨OwnR.of h2, by simp [h.len, h'.len], ?_, ?_⟩
  · intro r row hr
    rcases Nat.lt_or_ge r m.length with x | x
    · rw [List.getElem?_append_left x] at hr
      obtain ⟨A2, c2, e2, o2⟩ := h.inner r row hr
      exact ⟨A2, c2, by rw [List.getElem?_append_left (by rw [h.len]; exact x)]; exact e2, (carry _ _ _ _ _ o2).more (Nat.le_refl _) (by omega)⟩
    · rw [List.getElem?_append_right x] at hr
      obtain ⟨A2, c2, e2, o2⟩ := h'.inner _ row hr
      exact ⟨A2, c2, by rw [List.getElem?_append_right (by rw [h.len]; exact x), h.len]; exact e2, (carry _ _ _ _ _ o2).more hl hz⟩
  · intro r s u t g' hne hu ht hb hb'
    rcases side r u g' hu hb with ⟨a1, a2, a3⟩ | ⟨a1, a2, a3⟩ <;> rcases side s t g' ht hb' with ⟨b1, b2, b3⟩ | ⟨b1, b2, b3⟩
    · exact h.apart r s u t g' hne a2 b2 hb hb'
    · omega
    · omega
    · exact h'.apart _ _ u t g' (by omega) a2 b2 hb hb'
def treesTo (k : Nat) : List (List Int) := (List.range k).flatMap fun n => Tr.treesL (n + 1)
theorem treesTo_step (k : Nat) : treesTo (k + 1) = treesTo k ++ Tr.treesL (k + 1) := by
  unfold treesTo; rw [List.range_succ, List.flatMap_append]; simp
theorem treesTo_end : treesTo 8 = Tr.allL := rfl
theorem treesTo_len : ∀ k, k ≤ 8 → (treesTo k).length ≤ k * 115
  | 0, _ => by simp [treesTo]
  | k+1, h => by
    rw [treesTo_step, List.length_append]
    have := treesTo_len k (by omega)
    have := (trees_all (n := k + 1) (by omega) (by omega)).2
    omega
theorem own_addr {w : World} {lo : Nat} {T : TypeId} {A : Option Addr} {n c : Nat} {vs : List Value} (h : w.ownsRow lo T 1 (.slice A n c) n vs) (h1 : 0 < n) : ∃ g, A = some ⟨g, 0, none⟩ := by
  obtain ⟨g, cap, hv⟩ := own_form h h1
  injection hv with hA _ _
  exact ⟨g, hA⟩
theorem vals_one {w : World} {lo hi n : Nat} {v : Value} {m : List (List Int)} {vs : List Value} (h : OwnMat w lo hi v n m vs) : ∀ u ∈ vs, u.oneCell' = true := by
  intro u hu
  obtain ⟨k, hk⟩ := List.mem_iff_getElem?.1 hu
  have hkl : k < m.length := by
    rw [← h.len]
    rcases Nat.lt_or_ge k vs.length with y | y
    · exact y
    · rw [List.getElem?_eq_none y] at hk; cases hk
  obtain ⟨A, c, e, _⟩ := h.inner k _ (List.getElem?_eq_getElem hkl)
  rw [hk] at e
  injection e with e
  subst e
  rfl
theorem trees_pos {n : Nat} (h1 : 1 ≤ n) : 1 ≤ (Tr.treesL n).length := by
  unfold Tr.treesL
  rw [show (116 : Nat) = 115 + 1 from rfl, Tr.treesF]
  simp
set_option maxHeartbeats 1000000 in
theorem allTrees_any (w : World) : Calls Try.prog 108 #[] w (NewMat 200 Tr.allL w) := by
  obtain ⟨j0, hj, hy0, hy1, hy2⟩ := info_parts info_row
  go_enter Try.func108, Try.ntmps108
  go_wp2_with (at_make; refine wpList_make_own _ rfl _ _ 22 rfl w.heap.size 23 j0 (.slice none 0 0) 1 Try.underlying22 hj hy0 hy1 .i64 .i64 _ 200 rfl rfl rfl (by rw [hy2]; omega) (by unfold maxLen; omega) (Nat.le_refl _) ?_; intro w1 hown hg)
  have M0 : Hid (OwnMat w1 w.heap.size w1.heap.size (.slice (some ⟨w.heap.size, 0, none⟩) 0 200) 0 [] []) := ⟨OwnR.of hown, rfl, fun r row hr => by simp at hr, fun r s u t g _ hu => by simp at hu⟩
  have B0 : Hid (Below w.heap.size w w1) := (Below.refl _ _).grown hg (Nat.le_refl _) (fun k hk => by cases hk)
  have hs0 := hg.size
  clear hown hg
  go_wp2_with fail
  go_loopw [1, 2] (fun v i wr => ∃ (k q g cap : Nat) (vs : List Value), k ≤ 8 ∧ v = .slice (some ⟨g, 0, none⟩) q cap ∧ i = .int .i64 ((k : Int) + 1) ∧ Hid (OwnMat wr w.heap.size wr.heap.size (.slice (some ⟨g, 0, none⟩) q cap) q (treesTo k) vs) ∧ Below w.heap.size w wr ∧ w.heap.size ≤ wr.heap.size) (fun _ i _ => 9 - (intOf i).toNat)
  case atStart => exact ⟨0, 0, w.heap.size, 200, [], Nat.zero_le _, rfl, rfl, M0, B0.out, hs0⟩
  case round =>
    obtain ⟨k, q, g, cap, vs, hk, rfl, rfl, HM, HB, hsz⟩ := hrel
    by_cases hlt : k < 8
    · have hq : q ≤ 920 := by
        have h1 := HM.out.size
        have h2 := treesTo_len k hk
        omega
      have HBB := Lib.hid HB
      have C1 := treesWith_any (k + 1) wr (by omega) (by omega)
      have h115 := (trees_all (n := k + 1) (by omega) (by omega)).2
      have hpos := trees_pos (n := k + 1) (by omega)
      obtain ⟨T, hT⟩ : ∃ T, T = Tr.treesL (k + 1) := ⟨_, rfl⟩
      have HS : Hid (treesTo (k + 1) = treesTo k ++ T) := by rw [Hid, hT]; exact treesTo_step k
      rw [← hT] at C1 h115 hpos
      obtain ⟨N, hN⟩ : ∃ N, N = T.length := ⟨_, rfl⟩
      rw [← hN] at C1 h115 hpos
      clear HB hT hN
      go_wp2_with fail
      refine C1.mono ?_
      rintro e w2 ⟨A2, c2, vs2, rfl, own2, bel2⟩
      have hs2 := bel2.size
      have HM2 := Lib.hid (HM.out.below bel2 (Nat.le_refl _))
      have HO2 := Lib.hid own2
      have HB2 := Lib.hid (HBB.out.trans (bel2.mono hsz))
      have hownO := HM2.out.outer.1
      obtain ⟨g2, rfl⟩ := own_addr own2.outer.1 (by omega)
      have HLEN : Hid (vs2.length = N * 1) := by rw [Hid, HO2.out.len, HO2.out.size, Nat.mul_one]
      have HNEW : Hid (∀ j u, vs2[j]? = some u → w2.cell? ((⟨g2, 0, none⟩ : Addr).add j) = some u) := (row_of_own HO2.out.outer.1).news
      have HONE := Lib.hid (vals_one HO2.out)
      clear own2 bel2 C1
      go_wp2_with (at_builtin; refine wpList_append_lies _ rfl (.tmp 8) (.tmp 10) 22 rfl w.heap.size 23 j0 _ 1 24 Try.underlying22 hj hy0 hy1 hy2 rfl (by omega) (.slice (some ⟨g, 0, none⟩) q cap) q vs rfl hownO ⟨g2, 0, none⟩ N c2 vs2 rfl HLEN.out HNEW.out HONE.out (by omega) (by simp only [maxLen]; omega) (by omega) (by omega) w2.heap.size rfl ?_; intro g5 cap5 w5 hown5 hgrow5 hat5 hlt5)
      have GM : Hid (OwnMat w5 w.heap.size w5.heap.size (.slice (some ⟨g5, 0, none⟩) (q + N) cap5) (q + N) (treesTo (k + 1)) (vs ++ vs2)) := by
        rw [Hid, HS.out]
        exact HM2.out.pushAll hs2 HO2.out hsz hown5 hgrow5
      have GB : Hid (Below w.heap.size w w5) := HB2.out.grown hgrow5 (by omega) (fun z hz => (hownO.lt z hz).1)
      have hs5 : w2.heap.size ≤ w5.heap.size := hgrow5.size
      clear hown5 hgrow5 hat5 hownO
      go_wp2
      go_roundw
      case rel => exact ⟨k + 1, q + N, g5, cap5, _, by omega, rfl, by go_num, GM, GB.out, by omega⟩
      case measure => simp [intOf]; omega
    · obtain rfl : k = 8 := by omega
      have e : q = 200 := by have := HM.out.size; rw [treesTo_end, Tr.allL_len] at this; omega
      subst e
      have G : Hid (NewMat 200 Tr.allL w (.returned (.slice (some ⟨g, 0, none⟩) 200 cap)) wr) := ⟨_, _, vs, rfl, HM.out, HB⟩
      clear HB
      go_wp2
      go_ret
      exact G.out
theorem all_split : ∀ k, k ≤ 8 → ∃ rest, Tr.allL = treesTo k ++ rest := by
  intro k hk
  refine ⟨((List.range (8 - k)).map (· + k)).flatMap fun n => Tr.treesL (n + 1), ?_⟩
  rw [← treesTo_end]
  unfold treesTo
  rw [← List.flatMap_append]
  congr 1
  have : ∀ k, k ≤ 8 → List.range 8 = List.range k ++ (List.range (8 - k)).map (· + k) := by decide
  exact this k hk
def treeAtA (a : Int) : List Int × Int := if 0 ≤ a ∧ a ≤ 199 then (Tr.allL.getD a.toNat [], 0) else ([], 2)
theorem treeAtA_no {a : Int} (h : ¬ (0 ≤ a ∧ a ≤ 199)) : treeAtA a = ([], 2) := if_neg h
theorem treeAtA_yes {a : Nat} {t : List Int} (ht : Tr.allL[a]? = some t) (h : a ≤ 199) : treeAtA (a : Int) = (t, 0) := by
  unfold treeAtA
  rw [if_pos (by omega), Int.toNat_natCast, List.getD_eq_getElem?_getD, ht]; rfl
theorem all_len {a : Nat} {t : List Int} (ht : Tr.allL[a]? = some t) : t.length ≤ 8 := by
  have hm := List.mem_of_getElem? ht
  rw [← treesTo_end] at hm
  unfold treesTo at hm
  rw [List.mem_flatMap] at hm
  obtain ⟨n, hn, h⟩ := hm
  rw [List.mem_range] at hn
  rw [((trees_all (n := n + 1) (by omega) (by omega)).1 t h).2]; omega
end Go.Proofs.Ytnnihdkhblbdgaa
/-
  A result beside a code, handed back.
-/
namespace Go.Proofs.Ytnnihdkhblbdgaa
open Go.RowKit Fld
set_option linter.unusedVariables false

theorem ResI.of' {r : Int × Int} {w w' : World} {x k : Int} (h : r = (x, k)) (hb : Below w.heap.size w w') : ResI r w (.returned (.tuple #[.int .i64 x, .int .i64 k])) w' := by
  subst h; exact ⟨rfl, hb⟩
end Go.Proofs.Ytnnihdkhblbdgaa
/-
  The model's list of all trees with so many nodes and fewer.
-/
namespace Go.Proofs.Ytnnihdkhblbdgaa
open Go.RowKit Fld
set_option linter.unusedVariables false
set_option linter.unusedSimpArgs false
set_option maxRecDepth 100000

set_option maxHeartbeats 1000000 in
theorem l03All_any (n : Nat) (w : World) (h1 : 1 ≤ n) (h8 : n ≤ 8) : Calls Try.prog 78 #[.int .i64 n] w (NewMat (treesTo n).length (treesTo n) w) := by
  obtain ⟨j0, hj, hy0, hy1, hy2⟩ := info_parts info_row
  go_enter Try.func78, Try.ntmps78
  go_wp2_with fail
  go_loopw [3, 4] (fun v i wr => ∃ (k q g cap : Nat) (vs : List Value), k ≤ n ∧ v = .slice (some ⟨g, 0, none⟩) q cap ∧ i = .int .i64 ((k : Int) + 1) ∧ Hid (OwnMat wr w.heap.size wr.heap.size (.slice (some ⟨g, 0, none⟩) q cap) q (treesTo k) vs) ∧ Below w.heap.size w wr ∧ w.heap.size ≤ wr.heap.size) (fun _ i _ => 9 - (intOf i).toNat)
  case atStart => exact ⟨0, 0, w.heap.size, 0, [], Nat.zero_le _, rfl, rfl, by rw [Hid]; have := OwnMat.empty w; simpa [treesTo] using this, (Below.refl _ _).alloc (Nat.le_refl _) _, by simp⟩
  case round =>
    obtain ⟨k, q, g, cap, vs, hk, rfl, rfl, HM, HB, hsz⟩ := hrel
    by_cases hlt : k < n
    · have hq : q ≤ 920 := by
        have h1 := HM.out.size
        have h2 := treesTo_len k (by omega)
        omega
      have HBB := Lib.hid HB
      have C1 := l03Trees_any (k + 1) wr (by omega) (by omega)
      have h115 := (trees_all (n := k + 1) (by omega) (by omega)).2
      have hpos := trees_pos (n := k + 1) (by omega)
      obtain ⟨T, hT⟩ : ∃ T, T = Tr.treesL (k + 1) := ⟨_, rfl⟩
      have HS : Hid (treesTo (k + 1) = treesTo k ++ T) := by rw [Hid, hT]; exact treesTo_step k
      rw [← hT] at C1 h115 hpos
      obtain ⟨N, hN⟩ : ∃ N, N = T.length := ⟨_, rfl⟩
      rw [← hN] at C1 h115 hpos
      clear HB hT hN
      go_wp2_with fail
      refine C1.mono ?_
      rintro e w2 ⟨A2, c2, vs2, rfl, own2, bel2⟩
      have hs2 := bel2.size
      have HM2 := Lib.hid (HM.out.below bel2 (Nat.le_refl _))
      have HO2 := Lib.hid own2
      have HB2 := Lib.hid (HBB.out.trans (bel2.mono hsz))
      have hownO := HM2.out.outer.1
      obtain ⟨g2, rfl⟩ := own_addr own2.outer.1 (by omega)
      have HLEN : Hid (vs2.length = N * 1) := by rw [Hid, HO2.out.len, HO2.out.size, Nat.mul_one]
      have HNEW : Hid (∀ j u, vs2[j]? = some u → w2.cell? ((⟨g2, 0, none⟩ : Addr).add j) = some u) := (row_of_own HO2.out.outer.1).news
      have HONE := Lib.hid (vals_one HO2.out)
      clear own2 bel2 C1
      go_wp2_with (at_builtin; refine wpList_append_lies _ rfl (.tmp 11) (.tmp 13) 22 rfl w.heap.size 23 j0 _ 1 24 Try.underlying22 hj hy0 hy1 hy2 rfl (by omega) (.slice (some ⟨g, 0, none⟩) q cap) q vs rfl hownO ⟨g2, 0, none⟩ N c2 vs2 rfl HLEN.out HNEW.out HONE.out (by omega) (by simp only [maxLen]; omega) (by omega) (by omega) w2.heap.size rfl ?_; intro g5 cap5 w5 hown5 hgrow5 hat5 hlt5)
      have GM : Hid (OwnMat w5 w.heap.size w5.heap.size (.slice (some ⟨g5, 0, none⟩) (q + N) cap5) (q + N) (treesTo (k + 1)) (vs ++ vs2)) := by
        rw [Hid, HS.out]
        exact HM2.out.pushAll hs2 HO2.out hsz hown5 hgrow5
      have GB : Hid (Below w.heap.size w w5) := HB2.out.grown hgrow5 (by omega) (fun z hz => (hownO.lt z hz).1)
      have hs5 : w2.heap.size ≤ w5.heap.size := hgrow5.size
      clear hown5 hgrow5 hat5 hownO
      go_wp2
      go_roundw
      case rel => exact ⟨k + 1, q + N, g5, cap5, _, by omega, rfl, by go_num, GM, GB.out, by omega⟩
      case measure => simp [intOf]; omega
    · obtain rfl : k = n := by omega
      have e : (treesTo k).length = q := HM.out.size
      have G : Hid (NewMat (treesTo k).length (treesTo k) w (.returned (.slice (some ⟨g, 0, none⟩) q cap)) wr) := by
        rw [Hid, e]; exact ⟨_, _, vs, rfl, HM.out, HB⟩
      clear HB e
      go_wp2
      go_ret
      exact G.out
end Go.Proofs.Ytnnihdkhblbdgaa
/-
  A region that draws its order: operations that their guards pass over, taken at once.
-/
namespace Go.Proofs.Ytnnihdkhblbdgaa
open Go.RowKit
set_option linter.unusedVariables false
set_option maxRecDepth 100000

def skip1 (md : Region.Mode) (ops : Array Oper) (i d : Nat) (listed : Array Bool) (a : Act) : Bool :=
  (match ops[i]? with
    | some o => (match o.dst with | some d' => d' == d | none => false) && !Region.wanted o (yielded ops a.tmps)
    | none => false) && Region.noSelect ops && Region.free md ops listed i && (Region.ready md ops listed).contains i
theorem wpAnyH_skip1 {P : Program} {md : Region.Mode} {ops : Array Oper} {Q : Exit → Act → World → Prop} {S : World → Prop} {i d fuel : Nat} {listed : Array Bool} {a : Act} {w : World}
    (hc : skip1 md ops i d listed a = true) (hS : S w)
    (h : wpAnyH P md ops (NoPanic Q) S fuel (listed.setIfInBounds i true) (a.put (some d) undef) w) : wpAnyH P md ops (NoPanic Q) S (fuel + 1) listed a w := by
  unfold skip1 at hc
  simp only [Bool.and_eq_true] at hc
  obtain ⟨⟨⟨h1, h2⟩, h3⟩, h4⟩ := hc
  cases ho : ops[i]? with
  | none => rw [ho] at h1; simp at h1
  | some o =>
    rw [ho] at h1
    simp only [Bool.and_eq_true, Bool.not_eq_true'] at h1
    obtain ⟨hd, hw⟩ := h1
    cases hdd : o.dst with
    | none => rw [hdd] at hd; simp at hd
    | some d' =>
      rw [hdd] at hd
      have e : d' = d := by simpa using hd
      subst e
      exact wpAnyH_take (i := i) (oi := o) (v := undef) ho h2 h3 h4 (fun _ _ _ h => h) (.inr ⟨hw, rfl⟩) hS (by rw [hdd]; exact h)
def skipN (md : Region.Mode) (ops : Array Oper) : List (Nat × Nat) → Array Bool → Act → Bool
  | [], _, _ => true
  | (i, d) :: l, listed, a => skip1 md ops i d listed a && skipN md ops l (listed.setIfInBounds i true) (a.put (some d) undef)
theorem wpAnyH_skipN {P : Program} {md : Region.Mode} {ops : Array Oper} {Q : Exit → Act → World → Prop} {S : World → Prop} {w : World} (hS : S w) : ∀ (l : List (Nat × Nat)) (fuel : Nat) (listed : Array Bool) (a : Act),
    skipN md ops l listed a = true → wpAnyH P md ops (NoPanic Q) S fuel (l.foldl (fun x p => x.setIfInBounds p.1 true) listed) (l.foldl (fun a p => a.put (some p.2) undef) a) w → wpAnyH P md ops (NoPanic Q) S (fuel + l.length) listed a w
  | [], _, _, _, _, h => h
  | (i, d) :: l, fuel, listed, a, hc, h => by
    rw [skipN, Bool.and_eq_true] at hc
    exact wpAnyH_skip1 hc.1 hS (wpAnyH_skipN hS l fuel _ _ hc.2 h)
end Go.Proofs.Ytnnihdkhblbdgaa
