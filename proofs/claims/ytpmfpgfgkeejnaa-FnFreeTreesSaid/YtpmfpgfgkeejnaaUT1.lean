/-
  Texts of this seat, joined: what several laws lean on.
-/
import Derived.Test.YtpmfpgfgkeejnaaLvl
import Derived.Test.YtpmfpgfgkeejnaaTreeD
import Derived.Outline
import Derived.Laws.DeepStrings4
import Derived.Test.YtpmfpgfgkeejnaaTreeE
import Derived.Laws.Strings2
import Derived.Lib.SliceRun
import Derived.Deep.RegionLaw
import Derived.Shelf.RegionOpenPlain
import Derived.Test.YtpmfpgfgkeejnaaCmp
import Derived.Test.YtpmfpgfgkeejnaaGrfP
import Derived.Test.YtpmfpgfgkeejnaaTxt
import Derived.Test.YtpmfpgfgkeejnaaCan
import Derived.Laws.AppendOwnNone
import Derived.Test.YtpmfpgfgkeejnaaSrt
import Derived.Test.YtpmfpgfgkeejnaaGrfS
import Derived.Test.YtpmfpgfgkeejnaaSCan
import Derived.Test.YtpmfpgfgkeejnaaTurnP
import Derived.Test.YtpmfpgfgkeejnaaSumP
import Derived.Test.YtpmfpgfgkeejnaaParts
import Derived.Test.YtpmfpgfgkeejnaaOwn1
import Derived.Test.YtpmfpgfgkeejnaaCutP
import Derived.Deep.RegionHeld3
import Derived.BigQuiet
import Derived.Test.YtpmfpgfgkeejnaaPutS
import Derived.Test.YtpmfpgfgkeejnaaRes1
import Derived.Test.YtpmfpgfgkeejnaaCmpX
import Derived.Test.YtpmfpgfgkeejnaaTreeX
import Derived.Test.YtpmfpgfgkeejnaaTurP
import Derived.Test.YtpmfpgfgkeejnaaNestc
import Derived.Test.YtpmfpgfgkeejnaaLev
import Derived.Test.YtpmfpgfgkeejnaaTreeN
import Derived.Test.YtpmfpgfgkeejnaaPush
import Derived.Test.YtpmfpgfgkeejnaaMarks
import Derived.Test.YtpmfpgfgkeejnaaTreeOf
/-
  A text is split into those of trees.
-/
namespace Go.Proofs.Ytpmfpgfgkeejnaa
open Go.RowKit Fld
set_option linter.unusedVariables false
set_option linter.unusedSimpArgs false
set_option maxRecDepth 100000

theorem extract_S (s : List UInt8) (a b : Nat) : (⟨s.toArray⟩ : ByteArray).extract a b = ⟨((s.drop a).take (b - a)).toArray⟩ := by
  apply ByteArray.ext
  simp [ByteArray.data_extract]
theorem tr_open {cur : List UInt8} {o : Nat} {acc : List (List UInt8)} {s : List UInt8} {p : Nat} (h : s[p]? = some 91) : Tr.trF cur o acc (s.drop p) = Tr.trF (cur ++ [91]) (o + 1) acc (s.drop (p + 1)) := by
  have hlt : p < s.length := by
    rcases Nat.lt_or_ge p s.length with g | g
    · exact g
    · rw [List.getElem?_eq_none g] at h; cases h
  rw [List.getElem?_eq_getElem hlt] at h
  injection h with h
  rw [List.drop_eq_getElem_cons hlt, h, Tr.trF, if_pos rfl]
theorem tr_close {cur : List UInt8} {o : Nat} {acc : List (List UInt8)} {s : List UInt8} {p : Nat} (h : s[p]? = some 93) : Tr.trF cur o acc (s.drop p) = if o = 0 then ([], false) else if o = 1 then Tr.trF [] 0 (acc ++ [cur ++ [93]]) (s.drop (p + 1)) else Tr.trF (cur ++ [93]) (o - 1) acc (s.drop (p + 1)) := by
  have hlt : p < s.length := by
    rcases Nat.lt_or_ge p s.length with g | g
    · exact g
    · rw [List.getElem?_eq_none g] at h; cases h
  rw [List.getElem?_eq_getElem hlt] at h
  injection h with h
  rw [List.drop_eq_getElem_cons hlt, h, Tr.trF, if_neg (by decide), if_pos rfl]
theorem tr_other {cur : List UInt8} {o : Nat} {acc : List (List UInt8)} {s : List UInt8} {p : Nat} {c : UInt8} (h : s[p]? = some c) (h1 : c ≠ 91) (h2 : c ≠ 93) : Tr.trF cur o acc (s.drop p) = ([], false) := by
  have hlt : p < s.length := by
    rcases Nat.lt_or_ge p s.length with g | g
    · exact g
    · rw [List.getElem?_eq_none g] at h; cases h
  rw [List.getElem?_eq_getElem hlt] at h
  injection h with h
  rw [List.drop_eq_getElem_cons hlt, h, Tr.trF, if_neg h1, if_neg h2]
theorem cut_step {s : List UInt8} {a p : Nat} {c : UInt8} (h : s[p]? = some c) (ha : a ≤ p) : (s.drop a).take (p + 1 - a) = (s.drop a).take (p - a) ++ [c] := by
  rw [show p + 1 - a = p - a + 1 from by omega, List.take_add_one, List.getElem?_drop, show a + (p - a) = p from by omega, h]; rfl
/-- the texts of trees, and whether there are no others -/
def ResT (r : List (List UInt8) × Bool) (w : World) (e : Ending) (w' : World) : Prop :=
  ∃ A q c, e = .returned (.tuple #[.slice A q c, .bool r.2]) ∧ w'.ownsRow w.heap.size 35 1 (.slice A q c) q (strs r.1) ∧ Below w.heap.size w w'
theorem ResT.none {r : List (List UInt8) × Bool} {w w' : World} (h : r = ([], false)) (hb : Below w.heap.size w w') : ResT r w (.returned (.tuple #[.slice none 0 0, .bool false])) w' := by
  subst h; exact ⟨_, _, _, rfl, World.ownsRow_nil .., hb⟩
set_option maxHeartbeats 2000000 in
theorem treesIn_any (s : List UInt8) (w : World) (hn : s.length ≤ 1048576) :
    Calls Try.prog 58 #[.string ⟨s.toArray⟩] w (ResT (Tr.trF [] 0 [] s) w) := by
  obtain ⟨i0, hi, hz0, hz1, hz2⟩ := info_parts info_tree
  have HN := Lib.hid hn
  obtain ⟨S, hS⟩ : ∃ S : ByteArray, S = ⟨s.toArray⟩ := ⟨_, rfl⟩
  have HSZ : Hid (S.size = s.length) := by rw [Hid, hS]; exact size_S s
  have HS := Lib.hid hS
  rw [← hS]
  have hs20 : S.size ≤ 1048576 := by rw [HSZ.out]; exact hn
  clear hS hn
  go_enter Try.func58, Try.ntmps58
  go_wp2_with fail
  go_loopw [4, 5, 6] (fun v a o wr => ∃ (p st op q cv : Nat) (Av : Option Addr) (acc : List (List UInt8)), p ≤ S.size ∧ st ≤ p ∧ op ≤ p ∧ q ≤ p ∧ v = .slice Av q cv ∧ a = .int .i64 st ∧ o = .int .i64 op ∧ wr.heap[w.heap.size]? = some (.stringIter S p) ∧ Hid (Tr.trF [] 0 [] s = Tr.trF ((s.drop st).take (p - st)) op acc (s.drop p)) ∧ Hid (wr.ownsRow w.heap.size 35 1 (.slice Av q cv) q (strs acc)) ∧ Below w.heap.size w wr) (fun _ _ _ wr => S.size - wr.iterPos w.heap.size)
  case atStart => exact ⟨0, 0, 0, 0, 0, none, [], Nat.zero_le _, Nat.le_refl _, Nat.le_refl _, Nat.le_refl _, rfl, rfl, rfl, World.iter_heap w S 0, by simp [Hid], World.ownsRow_nil .., (Below.refl _ _).alloc (Nat.le_refl _) _⟩
  case round =>
    obtain ⟨p, st, op, q, cv, Av, acc, hp, hst, hop, hq, rfl, rfl, rfl, hit, HE, HO, HBw⟩ := hrel
    have hlt := (Array.getElem?_eq_some_iff.1 hit).1
    by_cases hps : p < S.size
    · obtain ⟨c, hc⟩ := at_lt (show p < s.length by rw [← HSZ.out]; exact hps)
      have hbyte : S[p]'hps = c := by
        have hS := HS.out
        subst hS
        exact byte_at hc hps
      have HIT := Lib.hid hit
      by_cases hasc : c.toNat < 128
      · have hnx : ∀ ty, (Instr.next (.pointer (some ⟨w.heap.size, 0, none⟩)) true ty).run Try.prog wr = _ := fun ty => Lib.run_next_ascii_at wr w.heap.size S p ty hit hps (by rw [hbyte]; exact hasc)
        rw [hbyte] at hnx
        have hit2 := Lib.iterAt_heap wr w.heap.size S p (p + 1) hit
        have HO2 := Lib.hid (own_iterAt (p' := p + 1) HO.out hit)
        have HB2 := Lib.hid (Lib.below_iterAt HBw (k := w.heap.size) (Nat.le_refl _) S (p + 1))
        have hsz2 : (wr.iterAt w.heap.size S (p + 1)).heap.size = wr.heap.size := Lib.iterAt_size ..
        have hW1 : w.heap.size < (wr.iterAt w.heap.size S (p + 1)).heap.size := by rw [hsz2]; exact hlt
        by_cases h91 : c = 91
        · subst h91
          have e91 : ((91 : UInt8).toNat : Int) = 91 := rfl
          rw [e91] at hnx
          have HE2 : Hid (Tr.trF [] 0 [] s = Tr.trF ((s.drop st).take (p + 1 - st)) (op + 1) acc (s.drop (p + 1))) := by rw [Hid, HE.out, tr_open hc, cut_step hc hst]
          generalize hW : wr.iterAt w.heap.size S (p + 1) = W at *
          have HH2 := Lib.hid hit2
          have t0 : ((op : Int) + 1 == 0) = false := beq_f (by omega)
          clear hc hbyte hasc HE HBw HO hit hW hit2 hsz2
          go_wp2
          go_roundw
          case rel => exact ⟨p + 1, st, op + 1, q, cv, Av, acc, by omega, by omega, by omega, by omega, rfl, rfl, by go_num, HH2.out, HE2, HO2, HB2.out⟩
          case measure =>
            simp only [World.iterPos, HH2.out, HIT.out]
            omega
        · by_cases h93 : c = 93
          · subst h93
            have e93 : ((93 : UInt8).toNat : Int) = 93 := rfl
            rw [e93] at hnx
            have HTC := Lib.hid (HE.out.trans (tr_close hc))
            have HCUT : Hid ((s.drop st).take (p + 1 - st) = (s.drop st).take (p - st) ++ [93]) := cut_step hc hst
            generalize hW : wr.iterAt w.heap.size S (p + 1) = W at *
            have HH2 := Lib.hid hit2
            clear hc hbyte hasc HE HBw HO hit hW hit2 hsz2
            rcases (show op = 0 ∨ op = 1 ∨ 2 ≤ op by omega) with rfl | rfl | h2
            · have G : Hid (Tr.trF [] 0 [] s = ([], false)) := by rw [Hid, HTC.out, if_pos rfl]
              clear HTC
              go_wp2
              go_ret2
              exact ResT.none G.out HB2.out
            · have HE2 : Hid (Tr.trF [] 0 [] s = Tr.trF ((s.drop (p + 1)).take (p + 1 - (p + 1))) 0 (acc ++ [(s.drop st).take (p + 1 - st)]) (s.drop (p + 1))) := by
                rw [Hid, HTC.out, if_neg (by decide), if_pos rfl, Nat.sub_self, List.take_zero, HCUT.out]
              have HX : Hid (S.extract st (p + 1) = ⟨((s.drop st).take (p + 1 - st)).toArray⟩) := by rw [Hid, HS.out]; exact extract_S s st (p + 1)
              obtain ⟨X, hX⟩ : ∃ X, X = S.extract st (p + 1) := ⟨_, rfl⟩
              have HXX : Hid (S.extract st (p + 1) = X) := hX.symm
              have hown2 := HO2.out
              have hp1 : p + 1 ≤ S.size := hps
              clear HTC
              have hsl : ∀ W, (Instr.slice 9 (.string S) (some (.int .i64 (st : Int))) (some (.int .i64 ((p : Int) + 1))) none).run Try.prog W = .ok (.string X) W := fun W => by
                rw [run_slice_string W 9 S .i64 .i64 st ((p : Int) + 1) Try.underlying9 (by omega) (by omega) (by omega)]
                rw [← HXX.out]
                congr 3
              clear hX
              go_wp2_with (at_builtin; (refine wpList_append_lies _ rfl (.tmp 28) (.tmp 34) 48 rfl w.heap.size 35 i0 _ 1 16 Try.underlying48 hi hz0 hz1 hz2 rfl (by omega) (.slice Av q cv) q (strs acc) rfl (hown2.alloc _) ⟨W.heap.size, 0, none⟩ 1 1 [.string X] rfl rfl (World.news_of_block (cs := #[.string X]) (heap_alloc_new _ _)) (by simp [Value.oneCell']) (by omega) (by simp only [maxLen]; omega) (by omega) (by simp; omega) (W.heap.size + 1) (by simp) ?_); intro g2 cap2 w3 hown3 hgrow3 hat3 hlt3)
              have e1 : strs acc ++ [Value.string X] = strs (acc ++ [(s.drop st).take (p + 1 - st)]) := by rw [← HXX.out, HX.out]; simp [strs]
              rw [e1] at hown3
              have GI : Hid (w3.heap[w.heap.size]? = some (.stringIter S (p + 1))) := by
                rw [Hid, hgrow3.block _ (by simp; omega) (own_ne_iter HO2.out HH2.out), Lib.alloc_old _ _ _ hW1]
                exact HH2.out
              have G3 := Lib.hid hown3
              have GB3 : Hid (Below w.heap.size w w3) := (HB2.out.alloc (by omega) _).grown hgrow3 (by simp; omega) (fun z hz => (HO2.out.lt z hz).1)
              clear hown3 hgrow3 hat3 hown2 e1 hsl
              go_wp2
              go_roundw
              case rel => exact ⟨p + 1, p + 1, 0, q + 1, cap2, _, _, by omega, by omega, by omega, by omega, rfl, by go_num, rfl, GI.out, HE2, G3, GB3.out⟩
              case measure =>
                simp only [World.iterPos, GI.out, HIT.out]
                omega
            · have HE2 : Hid (Tr.trF [] 0 [] s = Tr.trF ((s.drop st).take (p + 1 - st)) (op - 1) acc (s.drop (p + 1))) := by
                rw [Hid, HTC.out, if_neg (by omega), if_neg (by omega), HCUT.out]
              have t0 : ((op : Int) - 1 == 0) = false := beq_f (by omega)
              clear HTC
              go_wp2
              go_roundw
              case rel => exact ⟨p + 1, st, op - 1, q, cv, Av, acc, by omega, by omega, by omega, by omega, rfl, rfl, by go_num, HH2.out, HE2, HO2, HB2.out⟩
              case measure =>
                simp only [World.iterPos, HH2.out, HIT.out]
                omega
          · have G : Hid (Tr.trF [] 0 [] s = ([], false)) := by rw [Hid, HE.out]; exact tr_other hc h91 h93
            have t1 : ((c.toNat : Int) == 91) = false := beq_f (fun e => h91 (UInt8.toNat_inj.1 (by simp; omega)))
            have t2 : ((c.toNat : Int) == 93) = false := beq_f (fun e => h93 (UInt8.toNat_inj.1 (by simp; omega)))
            generalize hW : wr.iterAt w.heap.size S (p + 1) = W at *
            clear hc hbyte hasc HE HBw HO hit hW hit2 hsz2 h91 h93
            go_wp2
            go_ret2
            exact ResT.none G.out HB2.out
      · have hd := decode_high S p hps (by rw [hbyte]; omega)
        have hnx : ∀ ty, (Instr.next (.pointer (some ⟨w.heap.size, 0, none⟩)) true ty).run Try.prog wr = _ := fun ty => Lib.run_next_any_at wr w.heap.size S p ty hit hps
        have h91 : c ≠ 91 := fun e => by subst e; exact hasc (by decide)
        have h93 : c ≠ 93 := fun e => by subst e; exact hasc (by decide)
        have G : Hid (Tr.trF [] 0 [] s = ([], false)) := by rw [Hid, HE.out]; exact tr_other hc h91 h93
        have HB2 := Lib.hid (Lib.below_iterAt HBw (k := w.heap.size) (Nat.le_refl _) S (p + (Utf8.decode S p).2))
        generalize hW : wr.iterAt w.heap.size S (p + (Utf8.decode S p).2) = W at *
        obtain ⟨rn, hrn⟩ : ∃ rn, rn = (Utf8.decode S p).1 := ⟨_, rfl⟩
        rw [← hrn] at hnx hd
        have t1 : ((rn : Int) == 91) = false := beq_f (by have := hd.1; omega)
        have t2 : ((rn : Int) == 93) = false := beq_f (by have := hd.1; omega)
        clear hc hbyte hasc HE HBw HO hit hW h91 h93 hrn hd
        go_wp2
        go_ret2
        exact ResT.none G.out HB2.out
    · have hnx : ∀ ty, (Instr.next (.pointer (some ⟨w.heap.size, 0, none⟩)) true ty).run Try.prog wr = _ := fun ty => Lib.run_next_end_at wr w.heap.size S p ty hit hps
      have e : Tr.trF [] 0 [] s = (acc, op == 0) := by
        have hl : s.length ≤ p := by have := HSZ.out; unfold Hid at this; omega
        have := HE.out
        rw [List.drop_of_length_le hl] at this
        rw [this]
        simp [Tr.trF]
      have G : Hid (ResT (Tr.trF [] 0 [] s) w (.returned (.tuple #[.slice Av q cv, .bool (op == 0)])) wr) := by
        rw [Hid, e]; exact ⟨Av, q, cv, rfl, HO.out, HBw⟩
      by_cases h0 : op = 0
      · subst h0
        clear HBw HE e hit
        go_wp2
        go_ret2
        exact G.out
      · have t0 : ((op : Int) == 0) = false := beq_f (by omega)
        have t1 : (op == 0) = false := by simp [h0]
        rw [t1] at G
        clear HBw HE e hit h0 t1
        go_wp2
        go_ret2
        exact G.out
end Go.Proofs.Ytpmfpgfgkeejnaa
/-
  The branches of a tree by its text.
-/
namespace Go.Proofs.Ytpmfpgfgkeejnaa
open Go.RowKit Fld
set_option linter.unusedVariables false
set_option linter.unusedSimpArgs false
set_option maxRecDepth 100000

/-- texts of the call's own -/
def ResTs (l : List (List UInt8)) (w : World) (e : Ending) (w' : World) : Prop :=
  ∃ A q c, e = .returned (.slice A q c) ∧ q = l.length ∧ w'.ownsRow w.heap.size 35 1 (.slice A q c) q (strs l) ∧ Below w.heap.size w w'
theorem branches_any (x : List UInt8) (w : World) (hx : Tr.isTx x = true) :
    Calls Try.prog 42 #[.string ⟨x.toArray⟩] w (ResTs (Tr.brT x) w) := by
  obtain ⟨⟨h2, h16⟩, _, _⟩ := Tr.br_parts hx
  obtain ⟨S, hS⟩ : ∃ S : ByteArray, S = ⟨x.toArray⟩ := ⟨_, rfl⟩
  have hsz : S.size = x.length := by rw [hS]; exact size_S x
  have HX : Hid (S.extract 1 (x.length - 1) = ⟨(Tr.inner x).toArray⟩) := by
    rw [Hid, hS, extract_S]; unfold Tr.inner; rw [show x.length - 1 - 1 = x.length - 2 from by omega]
  obtain ⟨X, hX⟩ : ∃ X, X = S.extract 1 (x.length - 1) := ⟨_, rfl⟩
  have hXX : X = ⟨(Tr.inner x).toArray⟩ := by rw [hX]; exact HX.out
  have HXX : Hid (S.extract 1 (x.length - 1) = X) := hX.symm
  have hil : (Tr.inner x).length ≤ 1048576 := by unfold Tr.inner; rw [List.length_take]; omega
  have C0 := treesIn_any (Tr.inner x) w hil
  rw [← hXX] at C0
  have hsl : ∀ W, (Instr.slice 35 (.string S) (some (.int .i64 1)) (some (.int .i64 ((S.size : Int) - 1))) none).run Try.prog W = .ok (.string X) W := fun W => by
    have h9 := run_slice_string W 35 S .i64 .i64 1 ((S.size : Int) - 1) Try.underlying35 (by omega) (by omega) (by omega)
    rw [show (S.size : Int) - 1 = ((x.length - 1 : Nat) : Int) from by omega] at h9 ⊢
    rw [h9, ← HXX.out]
    congr 3
  rw [← hS]
  have hs2 : 2 ≤ S.size := by omega
  have hs16 : S.size ≤ 16 := by omega
  clear hX hXX hS hsz h2 h16 hil hx
  go_enter Try.func42, Try.ntmps42
  go_wp2_with fail
  refine C0.mono ?_
  rintro e w1 ⟨A, q, c, rfl, own1, bel1⟩
  have G : Hid (ResTs (Tr.brT x) w (.returned (.slice A q c)) w1) := by
    refine ⟨A, q, c, rfl, ?_, own1, bel1⟩
    have := own_len own1
    rw [strs_length] at this
    exact this.symm
  clear own1 bel1
  go_wp2
  go_ret
  exact G.out
end Go.Proofs.Ytpmfpgfgkeejnaa
/-
  A text is taken out of a row of the call's own.
-/
namespace Go.Proofs.Ytpmfpgfgkeejnaa
open Go.RowKit Fld
set_option linter.unusedVariables false
set_option linter.unusedSimpArgs false
set_option maxRecDepth 100000

theorem own_prefix {w : World} {base g n k cap : Nat} {T : TypeId} {xs : List Value} (h : w.ownsRow base T 1 (.slice (some ⟨g, 0, none⟩) n cap) n xs) (hk : k ≤ n) : w.ownsRow base T 1 (.slice (some ⟨g, 0, none⟩) k cap) k (xs.take k) := by
  obtain ⟨hl, h⟩ := h
  refine ⟨by rw [List.length_take, hl]; omega, ?_⟩
  rcases h with ⟨e, _⟩ | ⟨g', cap', cur, e, hb, hh, h1, h2, h3, h4⟩
  · cases e
  · cases e
    refine .inr ⟨g, cap, cur, rfl, hb, hh, by omega, h2, h3, ?_⟩
    rw [← h4, List.take_take]
    congr 1; omega
def putL : List Value → Nat → List Value → List Value
  | xs, _, [] => xs
  | xs, o, v :: r => putL (xs.set o v) (o + 1) r
theorem own_sets {base g n cap : Nat} {T : TypeId} : ∀ (vs : List Value) (o : Nat) (w : World) (xs : List Value), w.ownsRow base T 1 (.slice (some ⟨g, 0, none⟩) n cap) n xs → (w.setCells g o vs).ownsRow base T 1 (.slice (some ⟨g, 0, none⟩) n cap) n (putL xs o vs)
  | [], _, _, _, h => h
  | v :: r, o, w, xs, h => own_sets r (o + 1) _ _ (h.stored o v).1
theorem below_sets {B g : Nat} (hg : B ≤ g) {a : World} : ∀ (vs : List Value) (o : Nat) (w : World), Below B a w → Below B a (w.setCells g o vs)
  | [], _, _, h => h
  | v :: r, o, w, h => below_sets hg r (o + 1) _ (below_set h hg v)
theorem putL_eq : ∀ (vs : List Value) (xs : List Value) (o : Nat), o + vs.length ≤ xs.length → putL xs o vs = xs.take o ++ vs ++ xs.drop (o + vs.length)
  | [], xs, o, _ => by simp [putL]
  | v :: r, xs, o, h => by
    rw [List.length_cons] at h
    rw [putL, putL_eq r _ _ (by rw [List.length_set]; omega)]
    apply List.ext_getElem?
    intro k
    rw [List.length_cons]
    simp only [List.getElem?_append, List.length_append, List.length_take, List.length_set, List.getElem?_take, List.getElem?_drop, List.getElem?_set, List.length_cons]
    rw [Nat.min_eq_left (by omega), Nat.min_eq_left (by omega)]
    rcases Nat.lt_trichotomy k o with g | g | g
    · rw [if_pos (show k < o + 1 + r.length by omega), if_pos (show k < o + 1 by omega), if_pos (show k < o + 1 by omega), if_neg (by omega), if_pos (show k < o + (r.length + 1) by omega), if_pos g, if_pos g]
    · subst g
      rw [if_pos (show k < k + 1 + r.length by omega), if_pos (show k < k + 1 by omega), if_pos (show k < k + 1 by omega), if_pos rfl, if_pos (show k < xs.length by omega), if_pos (show k < k + (r.length + 1) by omega), if_neg (by omega), Nat.sub_self]; rfl
    · by_cases g2 : k < o + 1 + r.length
      · rw [if_pos g2, if_neg (by omega), if_pos (show k < o + (r.length + 1) by omega), if_neg (by omega), show k - o = (k - (o + 1)) + 1 from by omega, List.getElem?_cons_succ]
      · rw [if_neg g2, if_neg (show ¬ k < o + (r.length + 1) by omega), if_neg (by omega), show o + 1 + r.length + (k - (o + 1 + r.length)) = o + (r.length + 1) + (k - (o + (r.length + 1))) from by omega]
/-- what is left when one is taken out -/
theorem del_list (ss : List (List UInt8)) {i n : Nat} (hl : ss.length = n) (hi : i < n) (e : Value) : (putL (putL (strs ss) i (strs (ss.drop (i + 1)))) (n - 1) [e]).take (n - 1) = strs (ss.eraseIdx i) := by
  have h0 : (strs ss).length = n := by rw [strs_length, hl]
  have h1 : (strs (ss.drop (i + 1))).length = n - (i + 1) := by rw [strs_length, List.length_drop, hl]
  have e1 := putL_eq (strs (ss.drop (i + 1))) (strs ss) i (by omega)
  have h2 : (putL (strs ss) i (strs (ss.drop (i + 1)))).length = n := by
    rw [e1]; simp only [List.length_append, List.length_take, List.length_drop]; omega
  rw [putL_eq _ _ _ (by rw [h2]; simp; omega)]
  rw [List.append_assoc, List.take_append_of_le_length (by rw [List.length_take, h2]; omega), List.take_take, Nat.min_self, e1]
  rw [List.take_append_of_le_length (by simp only [List.length_append, List.length_take]; omega), List.take_of_length_le (by simp only [List.length_append, List.length_take]; omega)]
  rw [List.eraseIdx_eq_take_drop_succ]
  unfold strs
  rw [List.map_append, List.map_take]
set_option maxHeartbeats 4000000 in
theorem delete_raw (g off i j n c : Nat) (news : List Value) (A : Addr) (w W1 : World) (hij : i < j) (hjn : j ≤ n) (hnc : n ≤ c) (hc : c ≤ 9223372036854775807)
    (hA : (if c = j then (some ⟨g, off, none⟩ : Option Addr) else some ⟨g, off + j, none⟩) = some A) (hsrc : Hid (∀ t u, news[t]? = some u → w.drew.cell? (A.add t) = some u))
    (s1 : Hid (news.length = (n - j) * 1)) (s2 : Hid (∀ u ∈ news, u.oneCell' = true)) (s3 : Hid (∀ t, t < news.length → (w.drew.cell? ⟨g, off + i * 1 + t, none⟩).isSome = true ∧ w.drew.frozen? ⟨g, off + i * 1 + t, none⟩ = false))
    (hW : Hid (W1 = w.drew.setCells g (off + i * 1) news))
    (hcl : ∀ ty, (Builtin.clear_ #[48] ty #[.slice (some ⟨g, off + (i + (n - j)), none⟩) (n - (i + (n - j))) (c - (i + (n - j)))]).run Try.prog W1 = .ok (.tuple #[]) (W1.setCells g (off + (i + (n - j))) (List.replicate (n - (i + (n - j))) (.string ⟨#[]⟩)))) :
    Calls Try.prog 67 #[.slice (some ⟨g, off, none⟩) n c, .int .i64 i, .int .i64 j] w fun e w' => e = .returned (.slice (some ⟨g, off, none⟩) (i + (n - j)) c) ∧ w' = W1.setCells g (off + (i + (n - j))) (List.replicate (n - (i + (n - j))) (.string ⟨#[]⟩)) := by
  obtain ⟨i0, hi0, hz0, hz1, hz2⟩ := info_parts info_tree
  have hic : i ≤ c := by omega
  have hjc : j ≤ c := by omega
  have mixed : Try.prog.follows Departure.mixedOrders = true := by kernel_rfl
  go_enter Try.func67, Try.ntmps67
  go_wp2_with fail
  go_region_law_o (refine step_append_room rfl (.tmp 22) (.tmp 25) 48 rfl 35 i0 1 Try.underlying48 hi0 hz1 g off i c (by simp [Act.eval, Act.put]) A (n - j) (c - j) news (by simp [Act.eval, Act.put]) s1.out hsrc.out s2.out (by omega) s3.out ?_; rw [← hW.out])
  go_wp2
  go_ret
  exact ⟨rfl, rfl⟩
set_option maxHeartbeats 2000000 in
theorem delete_any (base g i j n c : Nat) (ss : List (List UInt8)) (w : World) (hl : ss.length = n) (hi : i < n) (hj : j = i + 1) (hn : n ≤ 12) (hbase : base ≤ w.heap.size) (h : w.ownsRow base 35 1 (.slice (some ⟨g, 0, none⟩) n c) n (strs ss)) :
    Calls Try.prog 67 #[.slice (some ⟨g, 0, none⟩) n c, .int .i64 i, .int .i64 j] w fun e w' => e = .returned (.slice (some ⟨g, 0, none⟩) (n - 1) c) ∧ w'.ownsRow base 35 1 (.slice (some ⟨g, 0, none⟩) (n - 1) c) (n - 1) (strs (ss.eraseIdx i)) ∧ Below base w w' ∧ base ≤ w'.heap.size := by
  have hcap := own_cap h
  have HB : Hid (base ≤ g) := (h.lt g rfl).1
  have HL := Lib.hid hl
  have hlen : (strs (ss.drop j)).length = n - j := by rw [strs_length, List.length_drop, hl]
  have s1 : Hid ((strs (ss.drop j)).length = (n - j) * 1) := by rw [Hid, Nat.mul_one]; exact hlen
  have s2 : Hid (∀ u ∈ strs (ss.drop j), u.oneCell' = true) := fun u hu => by
    unfold strs at hu
    rw [List.mem_map] at hu
    obtain ⟨x, _, rfl⟩ := hu
    rfl
  have hcell : ∀ k, k < n → ∃ u, w.cell? ⟨g, k, none⟩ = some u ∧ (strs ss)[k]? = some u := fun k hk => by
    obtain ⟨x, hx⟩ := at_lt (show k < ss.length by omega)
    have := h.cellAt k (by omega)
    rw [strs_at hx] at this
    exact ⟨_, this, strs_at hx⟩
  have s3 : Hid (∀ t, t < (strs (ss.drop j)).length → (w.drew.cell? ⟨g, 0 + i * 1 + t, none⟩).isSome = true ∧ w.drew.frozen? ⟨g, 0 + i * 1 + t, none⟩ = false) := fun t ht => by
    rw [hlen] at ht
    rw [Nat.mul_one, Nat.zero_add]
    obtain ⟨u, hu, _⟩ := hcell (i + t) (by omega)
    exact ⟨by show (w.cell? _).isSome = true; rw [hu]; rfl, h.frozenAt (i + t)⟩
  obtain ⟨A, hA, hsrc⟩ : ∃ A : Addr, (if c = j then some (⟨g, 0, none⟩ : Addr) else some ⟨g, j, none⟩) = some A ∧ Hid (∀ t u, (strs (ss.drop j))[t]? = some u → w.drew.cell? (A.add t) = some u) := by
    by_cases hc : c = j
    · refine ⟨⟨g, 0, none⟩, by simp [hc], fun t u hu => ?_⟩
      have h0 : (strs (ss.drop j)).length = 0 := by rw [hlen]; omega
      rw [List.length_eq_zero_iff.1 h0] at hu
      simp at hu
    · refine ⟨⟨g, j, none⟩, by simp [hc], fun t u hu => ?_⟩
      have ht : t < n - j := by
        have := (List.getElem?_eq_some_iff.1 hu).1
        rwa [hlen] at this
      obtain ⟨v, hv, hv2⟩ := hcell (j + t) (by omega)
      rw [show (⟨g, j, none⟩ : Addr).add t = ⟨g, j + t, none⟩ from by unfold Addr.add; split <;> simp_all]
      unfold strs at hu hv2
      rw [List.map_drop, List.getElem?_drop, hv2] at hu
      injection hu with hu
      rw [← hu]; exact hv
  obtain ⟨W1, hW1⟩ : ∃ W1, W1 = w.drew.setCells g (0 + i * 1) (strs (ss.drop j)) := ⟨_, rfl⟩
  have HW := Lib.hid hW1
  have hO1 : W1.ownsRow base 35 1 (.slice (some ⟨g, 0, none⟩) n c) n (putL (strs ss) i (strs (ss.drop j))) := by
    rw [hW1, Nat.mul_one, Nat.zero_add]
    exact own_sets _ _ _ _ (by exact (OwnR.of h).drewN 1 |>.1)
  have HO1 := Lib.hid hO1
  have HB1 : Hid (Below base w W1) := by rw [Hid, hW1]; exact below_sets HB.out _ _ _ (below_drewN (Below.refl _ _) 1)
  have hcell1 : ∀ k, k < n → (W1.cell? ⟨g, k, none⟩).isSome = true ∧ W1.frozen? ⟨g, k, none⟩ = false := fun k hk => by
    have h9 := hO1.cellAt k (by omega)
    have h8 : k < (putL (strs ss) i (strs (ss.drop j))).length := by rw [own_len hO1]; exact hk
    rw [List.getElem?_eq_getElem h8] at h9
    exact ⟨by rw [h9]; rfl, hO1.frozenAt k⟩
  have e1 : i + (n - j) = n - 1 := by omega
  have e2 : n - (n - 1) = 1 := by omega
  have hcl : ∀ ty, (Builtin.clear_ #[48] ty #[.slice (some ⟨g, 0 + (i + (n - j)), none⟩) (n - (i + (n - j))) (c - (i + (n - j)))]).run Try.prog W1 = .ok (.tuple #[]) (W1.setCells g (0 + (i + (n - j))) (List.replicate (n - (i + (n - j))) (.string ⟨#[]⟩))) := fun ty =>
    Lib.run_clear_slice W1 _ _ ty (.string ⟨#[]⟩) Try.underlying48 (fun w => by rfl) rfl rfl g (0 + (i + (n - j))) _ _ (by omega) (fun t ht => by rw [Nat.zero_add, e1]; exact (hcell1 (n - 1 + t) (by omega)).1) (fun t ht => by rw [Nat.zero_add, e1]; exact (hcell1 (n - 1 + t) (by omega)).2)
  have G : Hid ((W1.setCells g (n - 1) [.string ⟨#[]⟩]).ownsRow base 35 1 (.slice (some ⟨g, 0, none⟩) (n - 1) c) (n - 1) (strs (ss.eraseIdx i)) ∧ Below base w (W1.setCells g (n - 1) [.string ⟨#[]⟩]) ∧ base ≤ (W1.setCells g (n - 1) [.string ⟨#[]⟩]).heap.size) := by
    have h7 := own_prefix (own_sets [.string ⟨#[]⟩] (n - 1) W1 _ HO1.out) (show n - 1 ≤ n by omega)
    subst hj
    rw [del_list ss HL.out hi] at h7
    have h6 := below_sets HB.out [.string ⟨#[]⟩] (n - 1) W1 HB1.out
    exact ⟨h7, h6, Nat.le_trans hbase h6.size⟩
  have C0 := delete_raw g 0 i j n c _ A w W1 (by omega) (by omega) hcap.1 hcap.2 (by rw [Nat.zero_add]; exact hA) hsrc s1 s2 s3 HW hcl
  refine C0.mono ?_
  rintro e w' ⟨rfl, rfl⟩
  rw [Nat.zero_add, e1, e2]
  exact ⟨rfl, G.out⟩
end Go.Proofs.Ytpmfpgfgkeejnaa
/-
  The branch with a node, and the others.
-/
namespace Go.Proofs.Ytpmfpgfgkeejnaa
open Go.RowKit Fld
set_option linter.unusedVariables false
set_option linter.unusedSimpArgs false
set_option maxRecDepth 100000

theorem tx_brk' {x : List UInt8} (h : Tr.isTx x = true) : Brk x := by
  unfold Tr.isTx at h
  simp only [Bool.and_eq_true, beq_iff_eq] at h
  rw [← h.2]; exact txt_brk _ _
theorem tx_even {x : List UInt8} (h : Tr.isTx x = true) : x.length = 2 * (x.length / 2) := by
  unfold Tr.isTx at h
  simp only [Bool.and_eq_true, beq_iff_eq] at h
  have := (lv_txt h.1).2.2.2
  rw [h.2] at this
  omega
theorem pick_drop {bs : List (List UInt8)} {k p : Nat} {b : List UInt8} (h : bs[k]? = some b) : Tr.pick (bs.drop k) p = if p < b.length / 2 then (0, p) else ((Tr.pick (bs.drop (k + 1)) (p - b.length / 2)).1 + 1, (Tr.pick (bs.drop (k + 1)) (p - b.length / 2)).2) := by
  have hlt : k < bs.length := by
    rcases Nat.lt_or_ge k bs.length with g | g
    · exact g
    · rw [List.getElem?_eq_none g] at h; cases h
  rw [List.getElem?_eq_getElem hlt] at h
  injection h with h
  rw [List.drop_eq_getElem_cons hlt, h, Tr.pick]
set_option maxHeartbeats 2000000 in
theorem branchWith_any (x : List UInt8) (n : Nat) (w : World) (hx : Tr.isTx x = true) (hn : n + 1 < x.length / 2) :
    Calls Try.prog 57 #[.string ⟨x.toArray⟩, .int .i64 ((n + 1 : Nat) : Int)] w fun e w' => ∃ g c q, e = .returned (.tuple #[.string ⟨(Tr.bAt x n).toArray⟩, .int .i64 ((Tr.pAt x n : Nat) : Int), .slice (some ⟨g, 0, none⟩) q c]) ∧ q = (Tr.oAt x n).length ∧ w'.ownsRow w.heap.size 35 1 (.slice (some ⟨g, 0, none⟩) q c) q (strs (Tr.oAt x n)) ∧ Below w.heap.size w w' := by
  have hx16 := (Tr.br_parts hx).1.2
  have hb7 := (Tr.br_parts hx).2.2
  have hbb := (Tr.br_parts hx).2.1
  have HPK := Lib.hid (Tr.pick_parts hx hn).1
  have C0 := branches_any x w hx
  obtain ⟨bs, hbs⟩ : ∃ bs, bs = Tr.brT x := ⟨_, rfl⟩
  have HBA : Hid (Tr.bAt x n = bs.getD (Tr.pick bs n).1 []) := by rw [Hid, hbs]; rfl
  have HPA : Hid (Tr.pAt x n = (Tr.pick bs n).2) := by rw [Hid, hbs]; rfl
  have HOA : Hid (Tr.oAt x n = bs.eraseIdx (Tr.pick bs n).1) := by rw [Hid, hbs]; rfl
  rw [← hbs] at hb7 hbb HPK C0
  have HBB : Hid (∀ b ∈ bs, b.length ≤ 16) := fun b hb => by have := (hbb b hb).2; omega
  have hnr : n ≤ 8 := by omega
  have hn1 : ((n + 1 : Nat) : Int) - 1 = (n : Int) := by omega
  clear hbs hbb hx hn
  go_enter Try.func57, Try.ntmps57
  go_wp2_with fail
  refine C0.mono ?_
  rintro e w1 ⟨A1, q1, c1, rfl, hq1, own1, bel1⟩
  have HO1 := Lib.hid own1
  have HB1 := Lib.hid bel1
  have hq0 : 0 < q1 := by have := HPK.out; omega
  obtain ⟨g, cap, hv⟩ := own_form own1 hq0
  injection hv with hA _ hcap
  subst hA hcap
  have HQ := Lib.hid hq1
  have hq7 : q1 ≤ 7 := by omega
  clear own1 bel1 hq1 C0
  go_wp2_with fail
  go_loopw [8, 9] (fun pl i wr => ∃ (k p : Nat), k < q1 ∧ p ≤ n ∧ pl = .int .i64 p ∧ i = .int .i64 k ∧ wr = w1 ∧ Hid (Tr.pick bs n = (k + (Tr.pick (bs.drop k) p).1, (Tr.pick (bs.drop k) p).2))) (fun _ i _ => q1 - (intOf i).toNat)
  case atStart => exact ⟨0, n, hq0, Nat.le_refl _, by go_num, rfl, rfl, by rw [Hid, List.drop_zero]; simp⟩
  case round =>
    obtain ⟨k, p, hk, hp, rfl, rfl, rfl, HK⟩ := hrel
    obtain ⟨b, hb⟩ := at_lt (show k < bs.length by have := HQ.out; omega)
    have hb16 := HBB.out b (List.mem_of_getElem? hb)
    have hcell := HO1.out.cellAt k (by omega)
    rw [strs_at hb] at hcell
    have HPD := Lib.hid (pick_drop (p := p) hb)
    have C1 := fun w => nodes_any b w (by omega)
    obtain ⟨nb, hnb⟩ : ∃ nb, nb = b.length / 2 := ⟨_, rfl⟩
    rw [← hnb] at HPD
    simp only [← hnb] at C1
    have hnb8 : nb ≤ 8 := by omega
    have HBK := Lib.hid hb
    obtain ⟨X, hX⟩ : ∃ X : ByteArray, X = ⟨b.toArray⟩ := ⟨_, rfl⟩
    have HX := Lib.hid hX
    rw [← hX] at hcell
    simp only [← hX] at C1
    clear hb hnb hX
    by_cases hpb : p < nb
    · have HE : Hid (Tr.pick bs n = (k, p)) := by rw [Hid, HK.out, HPD.out, if_pos hpb]; rfl
      have C2 := delete_any w.heap.size g k (k + 1) q1 c1 bs wr HQ.out.symm hk rfl (by omega) HB1.out.size HO1.out
      rw [show ((k + 1 : Nat) : Int) = (k : Int) + 1 from rfl] at C2
      have GB : Hid (Tr.bAt x n = b) := by
        rw [Hid, HBA.out, HE.out]
        show bs.getD k [] = b
        rw [List.getD_eq_getElem?_getD, HBK.out]; rfl
      have GP : Hid (Tr.pAt x n = p) := by rw [Hid, HPA.out, HE.out]
      have GO : Hid (Tr.oAt x n = bs.eraseIdx k) := by rw [Hid, HOA.out, HE.out]
      have hpb' : ¬ (nb : Int) ≤ (p : Int) := by omega
      clear HPD HK
      go_wp2_with fail
      refine (C1 _).mono ?_
      rintro e w2 ⟨rfl, rfl⟩
      go_wp2_with fail
      refine C2.mono ?_
      rintro e w3 ⟨rfl, own3, bel3, hs3⟩
      have G3 : Hid (w3.ownsRow w.heap.size 35 1 (.slice (some ⟨g, 0, none⟩) (q1 - 1) c1) (q1 - 1) (strs (Tr.oAt x n))) := by rw [Hid, GO.out]; exact own3
      have GB3 := Lib.hid (HB1.out.trans bel3)
      have GL : Hid (q1 - 1 = (Tr.oAt x n).length) := by rw [Hid, GO.out, List.length_eraseIdx, if_pos (by have := HQ.out; omega), ← HQ.out]
      clear own3 bel3 C1 C2 hcell
      go_wp2
      go_ret3
      exact ⟨g, c1, q1 - 1, by rw [GB.out, GP.out, ← HX.out]; rfl, GL.out, G3.out, GB3.out⟩
    · have HE : Hid (Tr.pick bs n = (k + 1 + (Tr.pick (bs.drop (k + 1)) (p - nb)).1, (Tr.pick (bs.drop (k + 1)) (p - nb)).2)) := by
        rw [Hid, HK.out, HPD.out, if_neg hpb]
        simp only [Prod.mk.injEq, and_true]; omega
      have hk1 : k + 1 < q1 := by
        have h1 := HPK.out
        rw [HE.out] at h1
        have := HQ.out; simp only at h1; omega
      have hpb' : (nb : Int) ≤ (p : Int) := by omega
      clear HPD HK hpb
      go_wp2_with fail
      refine (C1 _).mono ?_
      rintro e w2 ⟨rfl, rfl⟩
      go_wp2_with fail
      refine (C1 _).mono ?_
      rintro e w2 ⟨rfl, rfl⟩
      go_wp2
      go_roundw
      case rel => exact ⟨k + 1, p - nb, by omega, by omega, by go_num, by go_num, by first | rfl | trivial, HE⟩
      case measure => simp [intOf]; omega
end Go.Proofs.Ytpmfpgfgkeejnaa
/-
  The program's grafting on texts.
-/
namespace Go.Proofs.Ytpmfpgfgkeejnaa
open Go.RowKit Fld
set_option linter.unusedVariables false
set_option linter.unusedSimpArgs false
set_option maxRecDepth 100000

theorem flat_small : ∀ {l : List (List UInt8)} {m : Nat}, (∀ b ∈ l, b.length ≤ m) → l.flatten.length ≤ l.length * m
  | [], m, _ => by simp
  | b :: l, m, h => by
    have h1 := flat_small (l := l) (fun x hx => h x (by simp [hx]))
    have h2 := h b (by simp)
    rw [List.flatten_cons, List.length_append, List.length_cons, Nat.add_mul, Nat.one_mul]; omega
theorem rootT_len (l : List (List UInt8)) : (Tr.rootT l).length = l.flatten.length + 2 := by
  unfold Tr.rootT Tr.wrap
  rw [List.length_cons, List.length_append, flat_sorted]; rfl
theorem flat_snoc (l : List (List UInt8)) (b : List UInt8) : (l ++ [b]).flatten.length = l.flatten.length + b.length := by simp
theorem brT_small {x : List UInt8} (h : Tr.isTx x = true) : (Tr.brT x).flatten.length ≤ 112 := by
  obtain ⟨⟨_, h16⟩, hb, h7⟩ := Tr.br_parts h
  have := flat_small (l := Tr.brT x) (m := 16) (fun b hb' => by have := (hb b hb').2; omega)
  omega
theorem oAt_small {x : List UInt8} (h : Tr.isTx x = true) {n : Nat} (hn : n + 1 < x.length / 2) : (Tr.oAt x n).flatten.length ≤ 112 := by
  obtain ⟨_, _, _, _, hb, h7⟩ := Tr.pick_parts h hn
  have := flat_small (l := Tr.oAt x n) (m := 16) (fun b hb' => (hb b hb').2)
  omega
theorem bAt_less {x : List UInt8} (h : Tr.isTx x = true) {n d : Nat} (hn : n + 1 < x.length / 2) (hd : x.length / 2 ≤ d + 1) : (Tr.bAt x n).length / 2 ≤ d := by
  have h1 := tx_even h
  obtain ⟨_, h2, _, h3, _⟩ := Tr.pick_parts h hn
  have h4 := tx_even h2
  omega
theorem grf_len : ∀ (d : Nat) (x : List UInt8) (k : Nat) (v : List UInt8), Tr.isTx x = true → k < x.length / 2 → x.length / 2 ≤ d → (Tr.grfF d x k v).length ≤ 200 * d + v.length
  | 0, x, k, v, h, hk, hd => by simp [Tr.grfF]
  | d+1, x, 0, v, h, hk, hd => by
    rw [Tr.grfF, rootT_len, flat_snoc]
    have := brT_small h
    omega
  | d+1, x, n+1, v, h, hk, hd => by
    rw [Tr.grfF, rootT_len, flat_snoc]
    obtain ⟨_, h2, h3, _⟩ := Tr.pick_parts h hk
    have h1 := grf_len d (Tr.bAt x n) (Tr.pAt x n) v h2 h3 (bAt_less h hk hd)
    have := oAt_small h hk
    omega
theorem strs_snoc (l : List (List UInt8)) (b : List UInt8) : strs l ++ [.string ⟨b.toArray⟩] = strs (l ++ [b]) := by simp [strs]
theorem tTimes_any (x v : List UInt8) (w : World) (hx : Tr.isTx x = true) (hv : v.length ≤ 100000) :
    Calls Try.prog 43 #[.string ⟨x.toArray⟩, .string ⟨v.toArray⟩] w fun e w' => e = .returned (.string ⟨(Tr.rootT (Tr.brT x ++ [v])).toArray⟩) ∧ Below w.heap.size w w' := by
  obtain ⟨i0, hi, hz0, hz1, hz2⟩ := info_parts info_tree
  have h7 := (Tr.br_parts hx).2.2
  have HF : Hid ((Tr.brT x ++ [v]).flatten.length ≤ 1048574) := by rw [Hid, flat_snoc]; have := brT_small hx; omega
  have C0 := branches_any x w hx
  have HS := Lib.hid (strs_snoc (Tr.brT x) v)
  obtain ⟨V, hV⟩ : ∃ V : ByteArray, V = ⟨v.toArray⟩ := ⟨_, rfl⟩
  rw [← hV] at HS ⊢
  clear hV hx
  go_enter Try.func43, Try.ntmps43
  go_wp2_with fail
  refine C0.mono ?_
  rintro e w1 ⟨A, q, c, rfl, hq, own1, bel1⟩
  have hs1 := bel1.size
  have HB1 := Lib.hid bel1
  have HO1 := Lib.hid own1
  have hq7 : q ≤ 7 := by omega
  clear bel1 hq C0
  go_wp2_with (at_builtin; (refine wpList_append_lies _ rfl (.tmp 6) (.tmp 8) 48 rfl w.heap.size 35 i0 _ 1 16 Try.underlying48 hi hz0 hz1 hz2 rfl (by omega) (.slice A q c) q (strs (Tr.brT x)) rfl (own1.alloc _) ⟨w1.heap.size, 0, none⟩ 1 1 [.string V] rfl rfl (World.news_of_block (cs := #[.string V]) (heap_alloc_new _ _)) (by simp [Value.oneCell']) (by omega) (by simp only [maxLen]; omega) (by omega) (by simp; omega) (w1.heap.size + 1) (by simp) ?_); intro g2 cap2 w3 hown3 hgrow3 hat3 hlt3)
  rw [HS.out] at hown3
  have HB3 : Hid (Below w.heap.size w w3) := (HB1.out.alloc (by omega) _).grown hgrow3 (by simp; omega) (fun z hz => (HO1.out.lt z hz).1)
  have HO3 := Lib.hid hown3
  clear hown3 hgrow3 hat3 own1
  go_wp2_with fail
  refine (rootOn_any _ w.heap.size _ _ _ _ (by omega) HF.out HB3.out.size HO3.out).mono ?_
  rintro e w4 ⟨rfl, bel4⟩
  have GB := Lib.hid (HB3.out.trans bel4)
  obtain ⟨Z, hZ⟩ : ∃ Z : ByteArray, Z = ⟨(Tr.wrap (Tr.sortS (Tr.brT x ++ [v]))).toArray⟩ := ⟨_, rfl⟩
  have HZ : Hid (Z = ⟨(Tr.rootT (Tr.brT x ++ [v])).toArray⟩) := hZ
  rw [← hZ]
  clear bel4 hZ
  go_wp2
  go_ret
  exact ⟨by rw [← HZ.out]; rfl, GB.out⟩
end Go.Proofs.Ytpmfpgfgkeejnaa
/-
  The program's rerooting of texts.
-/
namespace Go.Proofs.Ytpmfpgfgkeejnaa
open Go.RowKit Fld
set_option linter.unusedVariables false
set_option linter.unusedSimpArgs false
set_option maxRecDepth 100000

theorem strs_app' (a b : List (List UInt8)) : strs a ++ strs b = strs (a ++ b) := by simp [strs]
theorem strs_one' (l : List (List UInt8)) : ∀ u ∈ strs l, u.oneCell' = true := fun u hu => by
  unfold strs at hu
  rw [List.mem_map] at hu
  obtain ⟨x, _, rfl⟩ := hu
  rfl
theorem row_news' {w : World} {B : Nat} {ad : Addr} {vs : List Value} (h : Row w B (some ad) vs) : ∀ j u, vs[j]? = some u → w.cell? (ad.add j) = some u := by
  intro j u hu
  obtain ⟨b, o, e, _, hc⟩ := h j u hu
  cases e
  have : (⟨b, o, none⟩ : Addr).add j = ⟨b, o + j, none⟩ := by unfold Addr.add; split <;> simp_all
  rw [this]; exact hc
theorem own_shape3 {w : World} {base : Nat} {T : TypeId} {v : Value} {n : Nat} {vs : List Value} (h : w.ownsRow base T 1 v n vs) : ∃ A c, v = .slice A n c := by
  rcases h.2 with ⟨rfl, rfl⟩ | ⟨g, cap, cur, rfl, _⟩
  · exact ⟨none, 0, rfl⟩
  · exact ⟨_, _, rfl⟩
def RerAt (d : Nat) : Prop := ∀ (x : List UInt8) (k nb cb B : Nat) (Ab : Option Addr) (bs : List (List UInt8)) (w : World), Tr.isTx x = true → k < x.length / 2 → x.length / 2 ≤ d → bs.length = nb → nb ≤ 1 → (bs.flatten.length + 200 * d ≤ 5000) → B ≤ w.heap.size → Row w B Ab (strs bs) → (Ab = none → nb = 0 ∧ cb = 0) →
    Calls Try.prog 41 #[.string ⟨x.toArray⟩, .int .i64 k, .slice Ab nb cb] w fun e w' => e = .returned (.string ⟨(Tr.rerF d x k bs).toArray⟩) ∧ Below w.heap.size w w'
theorem rerAt_zero : RerAt 0 := fun x k nb cb B Ab bs w _ hk hd _ _ _ _ _ _ => by omega
set_option maxHeartbeats 2000000 in
theorem rerAt_succ (d : Nat) (hd8 : d ≤ 8) (IH : RerAt d) : RerAt (d + 1) := by
  intro x k nb cb B Ab bs w hx hk hd hbl hnb hfl hB hrow hA
  obtain ⟨i0, hi, hz0, hz1, hz2⟩ := info_parts info_tree
  have HBL : Hid ((strs bs).length = nb * 1) := by rw [Hid, strs_length, hbl, Nat.mul_one]
  have HONE := Lib.hid (strs_one' bs)
  cases k with
  | zero =>
    have h7 := (Tr.br_parts hx).2.2
    have HF : Hid ((Tr.brT x ++ bs).flatten.length ≤ 1048574) := by rw [Hid, List.flatten_append, List.length_append]; have := brT_small hx; omega
    have C0 := branches_any x w hx
    have HS := Lib.hid (strs_app' (Tr.brT x) bs)
    have HZ : Hid (Tr.rerF (d + 1) x 0 bs = Tr.rootT (Tr.brT x ++ bs)) := rfl
    rw [HZ.out]
    cases hAb : Ab with
    | none =>
      obtain ⟨e1, e2⟩ := hA hAb
      subst hAb e1 e2
      have hb0 : bs = [] := List.eq_nil_of_length_eq_zero hbl
      subst hb0
      rw [List.append_nil] at HF ⊢
      obtain ⟨X, hX⟩ : ∃ X : ByteArray, X = ⟨x.toArray⟩ := ⟨_, rfl⟩
      rw [← hX] at C0 ⊢
      clear hX hx hk hd hA hrow hfl hbl
      go_enter Try.func41, Try.ntmps41
      go_wp2_with fail
      refine C0.mono ?_
      rintro e w1 ⟨A, q, c, rfl, hq, own1, bel1⟩
      have hs1 := bel1.size
      have HB1 := Lib.hid bel1
      have HO1 := Lib.hid own1
      have hq7 : q ≤ 7 := by omega
      clear bel1 hq C0
      go_wp2_with (at_builtin; refine wpList_append_own_none rfl (.tmp 13) (.tmp 14) 48 rfl w.heap.size 35 i0 1 Try.underlying48 hi (.slice A q c) q (strs (Tr.brT x)) rfl own1 rfl ?_)
      clear own1
      go_wp2_with fail
      refine (rootOn_any A w.heap.size q c _ _ (by omega) HF.out hs1 HO1.out).mono ?_
      rintro e w4 ⟨rfl, bel4⟩
      have GB := Lib.hid (HB1.out.trans bel4)
      obtain ⟨Z, hZ⟩ : ∃ Z : ByteArray, Z = ⟨(Tr.wrap (Tr.sortS (Tr.brT x))).toArray⟩ := ⟨_, rfl⟩
      have HZZ : Hid (Z = ⟨(Tr.rootT (Tr.brT x)).toArray⟩) := hZ
      rw [← hZ]
      clear bel4 hZ
      go_wp2
      go_ret
      exact ⟨by rw [← HZZ.out]; rfl, GB.out⟩
    | some ad =>
      subst hAb
      obtain ⟨X, hX⟩ : ∃ X : ByteArray, X = ⟨x.toArray⟩ := ⟨_, rfl⟩
      rw [← hX] at C0 ⊢
      clear hX hx hk hd hA hfl hbl
      go_enter Try.func41, Try.ntmps41
      go_wp2_with fail
      refine C0.mono ?_
      rintro e w1 ⟨A, q, c, rfl, hq, own1, bel1⟩
      have hs1 := bel1.size
      have HB1 := Lib.hid bel1
      have HO1 := Lib.hid own1
      have hq7 : q ≤ 7 := by omega
      have HNW := Lib.hid (row_news' (Row.below hrow bel1 hB))
      clear bel1 hq C0
      go_wp2_with (at_builtin; refine wpList_append_own _ rfl (.tmp 13) (.tmp 14) 48 rfl w.heap.size 35 i0 _ 1 16 Try.underlying48 hi hz0 hz1 hz2 rfl (by omega) (.slice A q c) q (strs (Tr.brT x)) rfl own1 ad nb cb (strs bs) rfl HBL.out HNW.out HONE.out (by simp only [maxLen]; omega) (by omega) (by omega) ?_; intro v3 w3 own3 hgrow3 _; obtain ⟨A3, c3, rfl⟩ := own_shape3 own3)
      rw [HS.out] at own3
      have HB3 : Hid (Below w.heap.size w w3) := HB1.out.grown hgrow3 (by omega) (fun z hz => (HO1.out.lt z hz).1)
      have HO3 := Lib.hid own3
      clear own3 hgrow3 own1
      go_wp2_with fail
      refine (rootOn_any A3 w.heap.size (q + nb) c3 _ _ (by omega) HF.out HB3.out.size HO3.out).mono ?_
      rintro e w4 ⟨rfl, bel4⟩
      have GB := Lib.hid (HB3.out.trans bel4)
      obtain ⟨Z, hZ⟩ : ∃ Z : ByteArray, Z = ⟨(Tr.wrap (Tr.sortS (Tr.brT x ++ bs))).toArray⟩ := ⟨_, rfl⟩
      have HZZ : Hid (Z = ⟨(Tr.rootT (Tr.brT x ++ bs)).toArray⟩) := hZ
      rw [← hZ]
      clear bel4 hZ
      go_wp2
      go_ret
      exact ⟨by rw [← HZZ.out]; rfl, GB.out⟩
  | succ n =>
    obtain ⟨_, h2, h3, _, _, h7⟩ := Tr.pick_parts hx hk
    have C0 := branchWith_any x n w hx hk
    have hoa := oAt_small hx hk
    have hroot : (Tr.rootT (Tr.oAt x n ++ bs)).length = (Tr.oAt x n).flatten.length + bs.flatten.length + 2 := by rw [rootT_len, List.flatten_append, List.length_append]
    have HF : Hid ((Tr.oAt x n ++ bs).flatten.length ≤ 1048574) := by rw [Hid, List.flatten_append, List.length_append]; omega
    have HS := Lib.hid (strs_app' (Tr.oAt x n) bs)
    have HZ : Hid (Tr.rerF (d + 1) x (n + 1) bs = Tr.rerF d (Tr.bAt x n) (Tr.pAt x n) [Tr.rootT (Tr.oAt x n ++ bs)]) := rfl
    rw [HZ.out]
    clear HZ
    have C1 : ∀ (W : World) (Z : ByteArray), Z = ⟨(Tr.wrap (Tr.sortS (Tr.oAt x n ++ bs))).toArray⟩ → Calls Try.prog 41 #[.string ⟨(Tr.bAt x n).toArray⟩, .int .i64 ((Tr.pAt x n : Nat) : Int), .slice (some ⟨W.heap.size, 0, none⟩) 1 1] (W.alloc (.cells #[.string Z] 35)) fun e w' => e = .returned (.string ⟨(Tr.rerF d (Tr.bAt x n) (Tr.pAt x n) [Tr.rootT (Tr.oAt x n ++ bs)]).toArray⟩) ∧ Below W.heap.size W w' := fun W Z hZ => by
      have ho := World.ownsRow_lit (base := W.heap.size) (size := 1) (e := 35) W #[.string Z] 1 (Nat.le_refl _) (by simp [maxLen]) rfl
      refine (IH (Tr.bAt x n) (Tr.pAt x n) 1 1 _ (some ⟨W.heap.size, 0, none⟩) [Tr.rootT (Tr.oAt x n ++ bs)] (W.alloc (.cells #[.string Z] 35)) h2 h3 (bAt_less hx hk hd) rfl (Nat.le_refl _) ?_ (Nat.le_refl _) ?_ (fun e => by cases e)).mono ?_
      · simp only [List.flatten_cons, List.flatten_nil, List.append_nil]; omega
      · have := row_of_own ho
        rw [hZ] at this ⊢
        exact this
      · rintro e w' ⟨rfl, bel⟩
        exact ⟨rfl, ((Below.refl W.heap.size W).alloc (Nat.le_refl _) _).trans (bel.mono (by simp))⟩
    obtain ⟨R, hR⟩ : ∃ R : ByteArray, R = ⟨(Tr.rerF d (Tr.bAt x n) (Tr.pAt x n) [Tr.rootT (Tr.oAt x n ++ bs)]).toArray⟩ := ⟨_, rfl⟩
    obtain ⟨X, hX⟩ : ∃ X : ByteArray, X = ⟨x.toArray⟩ := ⟨_, rfl⟩
    obtain ⟨Bb, hBb⟩ : ∃ Bb : ByteArray, Bb = ⟨(Tr.bAt x n).toArray⟩ := ⟨_, rfl⟩
    obtain ⟨p, hp⟩ : ∃ p, p = Tr.pAt x n := ⟨_, rfl⟩
    rw [← hX, ← hBb, ← hp] at C0
    simp only [← hBb, ← hR] at C1
    simp only [← hp] at C1
    rw [← hX, ← hR]
    have tk := beq_f (show ¬ ((n + 1 : Nat) : Int) = 0 by omega)
    obtain ⟨kk, hkk⟩ : ∃ kk, kk = ((n + 1 : Nat) : Int) := ⟨_, rfl⟩
    rw [← hkk] at C0 tk ⊢
    cases hAb : Ab with
    | none =>
      obtain ⟨e1, e2⟩ := hA hAb
      subst hAb e1 e2
      have hb0 : bs = [] := List.eq_nil_of_length_eq_zero hbl
      subst hb0
      rw [List.append_nil] at HF
      simp only [List.append_nil] at C1
      clear hX hBb hR hp hkk hx hk hd hA hrow hfl hbl h2 h3 hoa hroot IH
      go_enter Try.func41, Try.ntmps41
      go_wp2_with fail
      refine C0.mono ?_
      rintro e w1 ⟨g, c, q, rfl, hq, own1, bel1⟩
      have hs1 := bel1.size
      have HB1 := Lib.hid bel1
      have HO1 := Lib.hid own1
      have hq7 : q ≤ 7 := by omega
      clear bel1 hq C0
      go_wp2_with (at_builtin; refine wpList_append_own_none rfl (.tmp 26) (.tmp 27) 48 rfl w.heap.size 35 i0 1 Try.underlying48 hi (.slice (some ⟨g, 0, none⟩) q c) q (strs (Tr.oAt x n)) rfl own1 rfl ?_)
      clear own1
      go_wp2_with fail
      refine (rootOn_any (some ⟨g, 0, none⟩) w.heap.size q c _ _ (by omega) HF.out hs1 HO1.out).mono ?_
      rintro e w4 ⟨rfl, bel4⟩
      have GB4 := Lib.hid (HB1.out.trans bel4)
      have hs4 := GB4.out.size
      obtain ⟨Z, hZ⟩ : ∃ Z : ByteArray, Z = ⟨(Tr.wrap (Tr.sortS (Tr.oAt x n))).toArray⟩ := ⟨_, rfl⟩
      have C2 := C1 w4 Z hZ
      rw [← hZ]
      clear bel4 hZ C1
      go_wp2_with fail
      refine C2.mono ?_
      rintro e w5 ⟨rfl, bel5⟩
      have GB := Lib.hid (GB4.out.trans (bel5.mono hs4))
      clear bel5 C2
      go_wp2
      go_ret
      exact ⟨rfl, GB.out⟩
    | some ad =>
      subst hAb
      clear hX hBb hR hp hkk hx hk hd hA hfl hbl h2 h3 hoa hroot IH
      go_enter Try.func41, Try.ntmps41
      go_wp2_with fail
      refine C0.mono ?_
      rintro e w1 ⟨g, c, q, rfl, hq, own1, bel1⟩
      have hs1 := bel1.size
      have HB1 := Lib.hid bel1
      have HO1 := Lib.hid own1
      have hq7 : q ≤ 7 := by omega
      have HNW := Lib.hid (row_news' (Row.below hrow bel1 hB))
      clear bel1 hq C0
      go_wp2_with (at_builtin; refine wpList_append_own _ rfl (.tmp 26) (.tmp 27) 48 rfl w.heap.size 35 i0 _ 1 16 Try.underlying48 hi hz0 hz1 hz2 rfl (by omega) (.slice (some ⟨g, 0, none⟩) q c) q (strs (Tr.oAt x n)) rfl own1 ad nb cb (strs bs) rfl HBL.out HNW.out HONE.out (by simp only [maxLen]; omega) (by omega) (by omega) ?_; intro v3 w3 own3 hgrow3 _; obtain ⟨A3, c3, rfl⟩ := own_shape3 own3)
      rw [HS.out] at own3
      have HB3 : Hid (Below w.heap.size w w3) := HB1.out.grown hgrow3 (by omega) (fun z hz => (HO1.out.lt z hz).1)
      have HO3 := Lib.hid own3
      clear own3 hgrow3 own1
      go_wp2_with fail
      refine (rootOn_any A3 w.heap.size (q + nb) c3 _ _ (by omega) HF.out HB3.out.size HO3.out).mono ?_
      rintro e w4 ⟨rfl, bel4⟩
      have GB4 := Lib.hid (HB3.out.trans bel4)
      have hs4 := GB4.out.size
      obtain ⟨Z, hZ⟩ : ∃ Z : ByteArray, Z = ⟨(Tr.wrap (Tr.sortS (Tr.oAt x n ++ bs))).toArray⟩ := ⟨_, rfl⟩
      have C2 := C1 w4 Z hZ
      rw [← hZ]
      clear bel4 hZ C1
      go_wp2_with fail
      refine C2.mono ?_
      rintro e w5 ⟨rfl, bel5⟩
      have GB := Lib.hid (GB4.out.trans (bel5.mono hs4))
      clear bel5 C2
      go_wp2
      go_ret
      exact ⟨rfl, GB.out⟩
theorem rerAt_all : ∀ d, d ≤ 8 → RerAt d
  | 0, _ => rerAt_zero
  | d+1, h => rerAt_succ d (by omega) (rerAt_all d (by omega))
theorem rerootAt_any (x : List UInt8) (k : Nat) (w : World) (hx : Tr.isTx x = true) (hk : k < x.length / 2) :
    Calls Try.prog 41 #[.string ⟨x.toArray⟩, .int .i64 k, .slice none 0 0] w fun e w' => e = .returned (.string ⟨(Tr.rerF 8 x k []).toArray⟩) ∧ Below w.heap.size w w' :=
  rerAt_all 8 (Nat.le_refl _) x k 0 0 w.heap.size none [] w hx hk (by have := (Tr.br_parts hx).1.2; omega) rfl (by omega) (by simp) (Nat.le_refl _) (Row.nil _ _ _) (fun _ => ⟨rfl, rfl⟩)
end Go.Proofs.Ytpmfpgfgkeejnaa
/-
  Texts filled in one after another.
-/
namespace Go.Proofs.Ytpmfpgfgkeejnaa
open Go.RowKit Fld
set_option linter.unusedVariables false
set_option linter.unusedSimpArgs false
set_option maxRecDepth 100000

/-- texts filled in one after another -/
def FillT (w : World) (n : Nat) (ss : List (List UInt8)) (k : Nat) (wr : World) : Prop :=
  wr.ownsRow w.heap.size 35 1 (.slice (some ⟨w.heap.size, 0, none⟩) n n) n ((strs ss).take k ++ List.replicate (n - k) (.string ⟨#[]⟩)) ∧ Below w.heap.size w wr
theorem FillT.below {w wr w2 : World} {n k : Nat} {ss : List (List UInt8)} (h : FillT w n ss k wr) (hb : Below wr.heap.size wr w2) : FillT w n ss k w2 :=
  ⟨((OwnR.of h.1).below hb (Nat.le_refl _)).1, h.2.trans (hb.mono h.2.size)⟩
theorem FillT.step {w wr : World} {n k : Nat} {ss : List (List UInt8)} {s : List UInt8} (h : FillT w n ss k wr) (hl : ss.length = n) (hs : ss[k]? = some s) : FillT w n ss (k + 1) (wr.setCell ⟨w.heap.size, k, none⟩ (.string ⟨s.toArray⟩)) := by
  obtain ⟨h1, h2⟩ := h
  refine ⟨?_, below_set h2 (Nat.le_refl _) _⟩
  have := (h1.stored k (.string ⟨s.toArray⟩)).1
  rw [fill_step (by rw [strs_length]; exact hl) (strs_at hs)] at this
  exact this
theorem FillT.start {w w1 : World} {n : Nat} {ss : List (List UInt8)} (h : w1.ownsRow w.heap.size 35 1 (.slice (some ⟨w.heap.size, 0, none⟩) n n) n (madeCells (Value.string ⟨#[]⟩).cells (n * 1)).toList) (hg : w.grownBy w1 none) : FillT w n ss 0 w1 := by
  refine ⟨?_, (Below.refl _ _).grown hg (Nat.le_refl _) (fun k hk => by cases hk)⟩
  have e : (madeCells (Value.string ⟨#[]⟩).cells (n * 1)).toList = (strs ss).take 0 ++ List.replicate (n - 0) (.string ⟨#[]⟩) := by
    rw [← fill_start, Nat.mul_one]; exact toList_madeCells_one _ _
  rw [e] at h
  exact h
end Go.Proofs.Ytpmfpgfgkeejnaa
/-
  All rerooted trees of a text, and the least of them.
-/
namespace Go.Proofs.Ytpmfpgfgkeejnaa
open Go.RowKit Fld
set_option linter.unusedVariables false
set_option linter.unusedSimpArgs false
set_option maxRecDepth 100000

def rootsT (x : List UInt8) : List (List UInt8) := (List.range (x.length / 2)).map fun k => Tr.rerF 8 x k []
theorem rootsT_len (x : List UInt8) : (rootsT x).length = x.length / 2 := by simp [rootsT]
theorem rootsT_at {x : List UInt8} {k : Nat} (hk : k < x.length / 2) : (rootsT x)[k]? = some (Tr.rerF 8 x k []) := by
  unfold rootsT; rw [List.getElem?_map, List.getElem?_range hk]; rfl
set_option maxHeartbeats 1000000 in
theorem roots_any (x : List UInt8) (w : World) (hx : Tr.isTx x = true) :
    Calls Try.prog 26 #[.string ⟨x.toArray⟩] w fun e w' => e = .returned (.slice (some ⟨w.heap.size, 0, none⟩) (x.length / 2) (x.length / 2)) ∧ w'.ownsRow w.heap.size 35 1 (.slice (some ⟨w.heap.size, 0, none⟩) (x.length / 2) (x.length / 2)) (x.length / 2) (strs (rootsT x)) ∧ Below w.heap.size w w' := by
  obtain ⟨i0, hi, hz0, hz1, hz2⟩ := info_parts info_tree
  have hx16 := (Tr.br_parts hx).1.2
  have C0 := nodes_any x w (by omega)
  have C1 := fun k w (hk : k < x.length / 2) => rerootAt_any x k w hx hk
  have HLEN := Lib.hid (rootsT_len x)
  have HAT : Hid (∀ k, k < x.length / 2 → (rootsT x)[k]? = some (Tr.rerF 8 x k [])) := fun k hk => rootsT_at hk
  obtain ⟨n, hn⟩ : ∃ n, n = x.length / 2 := ⟨_, rfl⟩
  have hn8 : n ≤ 8 := by omega
  rw [← hn] at C0 HLEN HAT ⊢
  simp only [← hn] at C1
  obtain ⟨X, hX⟩ : ∃ X : ByteArray, X = ⟨x.toArray⟩ := ⟨_, rfl⟩
  rw [← hX] at C0 ⊢
  simp only [← hX] at C1
  clear hn hX hx hx16
  go_enter Try.func26, Try.ntmps26
  go_wp2_with fail
  refine C0.mono ?_
  rintro e w9 ⟨rfl, rfl⟩
  clear C0
  go_wp2_with (at_make; refine wpList_make_full _ rfl (.tmp 6) (.tmp 6) 48 rfl w.heap.size 35 i0 _ 1 Try.underlying48 hi hz0 hz1 .i64 .i64 _ _ n rfl rfl rfl rfl (by rw [hz2]; omega) (by simp only [maxLen]; omega) (Nat.le_refl _) ?_; intro w1 hown hg)
  have F0 := FillT.start (ss := rootsT x) hown hg
  clear hown hg hz0 hz1 hz2 hi
  go_wp2_with fail
  go_loopw [10] (fun i wr => ∃ k : Nat, k ≤ n ∧ i = .int .i64 k ∧ FillT w n (rootsT x) k wr) (fun i _ => n - (intOf i).toNat)
  case atStart => exact ⟨0, Nat.zero_le _, rfl, F0⟩
  case round =>
    obtain ⟨k, hk, rfl, HF⟩ := hrel
    by_cases hlt : k < n
    · have hsz := HF.2.size
      have HST := Lib.hid (HAT.out k hlt)
      have C2 := C1 k wr hlt
      have HFF := Lib.hid HF
      obtain ⟨R, hR⟩ : ∃ R : ByteArray, R = ⟨(Tr.rerF 8 x k []).toArray⟩ := ⟨_, rfl⟩
      have HR := Lib.hid hR
      rw [← hR] at C2
      clear F0 HF hR
      go_wp2_with fail
      refine C2.mono ?_
      rintro e w2 ⟨rfl, bel2⟩
      have HF2 := HFF.out.below bel2
      have hf := HF2.1.frozenAt k
      have ho := HF2.1.cellAt k (by omega)
      rw [fill_at (by rw [strs_length]; exact HLEN.out) hlt] at ho
      have G := Lib.hid (HF2.step HLEN.out HST.out)
      rw [← HR.out] at G
      clear bel2 HF2 C2
      go_wp2
      go_roundw
      case rel => exact ⟨k + 1, by omega, by go_num, G.out⟩
      case measure => simp [intOf]; omega
    · obtain rfl : k = n := by omega
      have G : Hid (wr.ownsRow w.heap.size 35 1 (.slice (some ⟨w.heap.size, 0, none⟩) k k) k (strs (rootsT x)) ∧ Below w.heap.size w wr) := by
        obtain ⟨h1, h2⟩ := HF
        rw [fill_end _ (by rw [strs_length]; exact HLEN.out)] at h1
        exact ⟨h1, h2⟩
      clear HF F0
      go_wp2
      go_ret
      exact ⟨rfl, G.out⟩
/-- the least of the first texts -/
def minTo (ss : List (List UInt8)) (k : Nat) : List UInt8 := ((ss.take k).drop 1).foldl (fun m s => if Tr.cmpT s m < 0 then s else m) (ss.getD 0 [])
def minT (ss : List (List UInt8)) : List UInt8 := minTo ss ss.length
theorem minTo_one (ss : List (List UInt8)) : minTo ss 1 = ss.getD 0 [] := by
  unfold minTo
  cases ss with
  | nil => rfl
  | cons a r => simp
theorem minTo_step {ss : List (List UInt8)} {k : Nat} {s : List UInt8} (h1 : 1 ≤ k) (h : ss[k]? = some s) : minTo ss (k + 1) = if Tr.cmpT s (minTo ss k) < 0 then s else minTo ss k := by
  unfold minTo
  have hk : 1 ≤ (ss.take k).length := by
    rw [List.length_take]
    rcases Nat.lt_or_ge k ss.length with g | g
    · omega
    · rw [List.getElem?_eq_none g] at h; cases h
  rw [List.take_add_one, h, Option.toList_some, List.drop_append_of_le_length hk, List.foldl_append]; rfl
theorem minTo_small {ss : List (List UInt8)} (h : ∀ s ∈ ss, s.length ≤ 1048576) (h0 : 0 < ss.length) : ∀ k, 1 ≤ k → k ≤ ss.length → (minTo ss k).length ≤ 1048576
  | 0, h1, _ => by omega
  | 1, _, _ => by
    rw [minTo_one, List.getD_eq_getElem?_getD, List.getElem?_eq_getElem h0]
    exact h _ (List.getElem_mem _)
  | k+2, _, hk => by
    rw [minTo_step (by omega) (List.getElem?_eq_getElem (show k + 1 < ss.length by omega))]
    split
    · exact h _ (List.getElem_mem _)
    · exact minTo_small h h0 (k + 1) (by omega) (by omega)
set_option maxHeartbeats 1000000 in
theorem minFunc_any (A : Option Addr) (n c B : Nat) (ss : List (List UInt8)) (w : World) (hl : ss.length = n) (h1 : 1 ≤ n) (hn : n ≤ 1048576) (hs : ∀ s ∈ ss, s.length ≤ 1048576) (hB : B ≤ w.heap.size) (h : Row w B A (strs ss)) :
    Calls Try.prog 33 #[.slice A n c, (.func (.func 34) #[] #[])] w fun e w' => e = .returned (.string ⟨(minT ss).toArray⟩) ∧ Below w.heap.size w w' := by
  have HL := Lib.hid hl
  have HS := Lib.hid hs
  have HSM : Hid (∀ k, 1 ≤ k → k ≤ n → (minTo ss k).length ≤ 1048576) := fun k q1 q2 => minTo_small hs (by omega) k q1 (by omega)
  obtain ⟨s0, hs0⟩ := at_lt (show 0 < ss.length by omega)
  obtain ⟨b, o, rfl, hbB, hc0⟩ := h 0 _ (strs_at hs0)
  rw [Nat.add_zero] at hc0
  have HM1 : Hid (minTo ss 1 = s0) := by rw [Hid, minTo_one, List.getD_eq_getElem?_getD, hs0]; rfl
  have hn1 : ¬ (n : Int) < 1 := by omega
  obtain ⟨S0, hS0⟩ : ∃ S0 : ByteArray, S0 = ⟨s0.toArray⟩ := ⟨_, rfl⟩
  have HS0 := Lib.hid hS0
  rw [← hS0] at hc0
  clear hl hs hs0 hS0
  go_enter Try.func33, Try.ntmps33
  go_wp2_with fail
  go_loopw [5, 6] (fun mv i wr => ∃ (k : Nat) (M : ByteArray), 1 ≤ k ∧ k ≤ n ∧ mv = .string M ∧ Hid (M = ⟨(minTo ss k).toArray⟩) ∧ i = .int .i64 k ∧ Below w.heap.size w wr) (fun _ i _ => n - (intOf i).toNat)
  case atStart => exact ⟨1, S0, Nat.le_refl _, h1, rfl, by rw [Hid, HM1.out]; exact HS0.out, rfl, Below.refl _ _⟩
  case round =>
    obtain ⟨k, M, hk1, hk, rfl, HM, rfl, HB⟩ := hrel
    have hsz := HB.size
    by_cases hlt : k < n
    · obtain ⟨s, hs⟩ := at_lt (show k < ss.length by rw [HL.out]; exact hlt)
      obtain ⟨_, _, e1, _, hck⟩ := (Row.below h HB hB) k _ (strs_at hs)
      cases e1
      have hsl := HS.out s (List.mem_of_getElem? hs)
      have C0 := compare_any s (minTo ss k) wr hsl (HSM.out k hk1 hk)
      rw [← HM.out] at C0
      have HST := Lib.hid (minTo_step hk1 hs)
      have HBW := Lib.hid HB
      obtain ⟨X, hX⟩ : ∃ X : ByteArray, X = ⟨s.toArray⟩ := ⟨_, rfl⟩
      have HX := Lib.hid hX
      rw [← hX] at hck C0
      obtain ⟨z, hz⟩ : ∃ z, z = Tr.cmpT s (minTo ss k) := ⟨_, rfl⟩
      rw [← hz] at C0 HST
      clear hs HB hX hz
      by_cases hzn : z < 0
      · have G : Hid (X = ⟨(minTo ss (k + 1)).toArray⟩) := by rw [Hid, HST.out, if_pos hzn]; exact HX.out
        go_wp2_with fail
        refine C0.mono ?_
        rintro e w2 ⟨rfl, bel2⟩
        have hck2 := (bel2.cell (p := ⟨b, o + k, none⟩) (by show b < wr.heap.size; omega)).trans hck
        have GB := Lib.hid (HBW.out.trans (bel2.mono hsz))
        clear bel2 C0 hck
        go_wp2
        go_roundw
        case rel => exact ⟨k + 1, X, by omega, by omega, rfl, G, by go_num, GB.out⟩
        case measure => simp [intOf]; omega
      · have G : Hid (M = ⟨(minTo ss (k + 1)).toArray⟩) := by rw [Hid, HST.out, if_neg hzn]; exact HM.out
        go_wp2_with fail
        refine C0.mono ?_
        rintro e w2 ⟨rfl, bel2⟩
        have GB := Lib.hid (HBW.out.trans (bel2.mono hsz))
        clear bel2 C0 hck
        go_wp2
        go_roundw
        case rel => exact ⟨k + 1, M, by omega, by omega, rfl, G, by go_num, GB.out⟩
        case measure => simp [intOf]; omega
    · obtain rfl : k = n := by omega
      have G : Hid (M = ⟨(minT ss).toArray⟩) := by rw [Hid, HM.out]; unfold minT; rw [HL.out]
      have GB := Lib.hid HB
      clear HM HB
      go_wp2
      go_ret
      exact ⟨by rw [← G.out]; rfl, GB.out⟩
end Go.Proofs.Ytpmfpgfgkeejnaa
/-
  The free form of a tree, the program's.
-/
namespace Go.Proofs.Ytpmfpgfgkeejnaa
open Go.RowKit Fld
set_option linter.unusedVariables false
set_option linter.unusedSimpArgs false
set_option maxRecDepth 100000

theorem roots_tx {x : List UInt8} (hx : Tr.isTx x = true) : ∀ s ∈ rootsT x, Tr.isTx s = true := fun s hs => by
  unfold Tr.isTx at hx
  simp only [Bool.and_eq_true, beq_iff_eq] at hx
  obtain ⟨c1, c2⟩ := lv_can hx.1
  obtain ⟨c3, c4⟩ := Tr.can_can hx.1
  have hl := (lv_txt hx.1).2.2.2
  rw [hx.2] at hl
  unfold rootsT at hs
  rw [List.mem_map] at hs
  obtain ⟨k, hk, rfl⟩ := hs
  rw [List.mem_range] at hk
  obtain ⟨q1, q2, _⟩ := Tr.turn_at c1 c3 (k := k) (by omega)
  rw [c4, hx.2] at q1
  rw [← q1]
  exact Tr.tx_txt q2
theorem freeForm_any (x : List UInt8) (w : World) (hx : Tr.isTx x = true) : Calls Try.prog 16 #[.string ⟨x.toArray⟩] w fun e w' => e = .returned (.string ⟨(minT (rootsT x)).toArray⟩) ∧ Below w.heap.size w w' := by
  have h2 := (Tr.br_parts hx).1
  have C0 := roots_any x w hx
  have HS : Hid (∀ s ∈ rootsT x, s.length ≤ 1048576) := fun s hs => by have := (Tr.br_parts (roots_tx hx s hs)).1.2; omega
  have HL := Lib.hid (rootsT_len x)
  obtain ⟨n, hn⟩ : ∃ n, n = x.length / 2 := ⟨_, rfl⟩
  rw [← hn] at C0 HL
  have h1 : 1 ≤ n := by omega
  have h8 : n ≤ 1048576 := by omega
  obtain ⟨X, hX⟩ : ∃ X : ByteArray, X = ⟨x.toArray⟩ := ⟨_, rfl⟩
  rw [← hX] at C0 ⊢
  clear hn hX hx h2
  go_enter Try.func16, Try.ntmps16
  go_wp2_with fail
  refine C0.mono ?_
  rintro e w1 ⟨rfl, own1, bel1⟩
  have hs1 := bel1.size
  have HB1 := Lib.hid bel1
  have HR := Lib.hid (row_of_own own1)
  clear own1 bel1 C0
  go_wp2_with fail
  refine (minFunc_any _ n n w1.heap.size (rootsT x) w1 HL.out h1 h8 HS.out (Nat.le_refl _) HR.out).mono ?_
  rintro e w2 ⟨rfl, bel2⟩
  have GB := Lib.hid (HB1.out.trans (bel2.mono hs1))
  obtain ⟨Z, hZ⟩ : ∃ Z : ByteArray, Z = ⟨(minT (rootsT x)).toArray⟩ := ⟨_, rfl⟩
  have HZ := Lib.hid hZ
  rw [← hZ]
  clear bel2 hZ
  go_wp2
  go_ret
  exact ⟨by rw [← HZ.out]; rfl, GB.out⟩
end Go.Proofs.Ytpmfpgfgkeejnaa
/-
  All trees of a free tree with their numbers, plainly.
-/
namespace Go.Proofs.Ytpmfpgfgkeejnaa
open Go.RowKit Fld
set_option linter.unusedVariables false
set_option linter.unusedSimpArgs false
set_option maxRecDepth 100000

def rootsL (t : List Int) : List (List Int × Int) := Tr.sumTo (Tr.turnF 9 t) t.length
theorem rootsTo_bd {t : List Int} (h : Tr.isLv t = true) {k : Nat} (hk : k ≤ t.length) : ∀ e ∈ Tr.sumTo (Tr.turnF 9 t) k, e.1.length ≤ 8 ∧ -1000000 ≤ e.2 ∧ e.2 ≤ 1000000 := fun e he => by
  obtain ⟨j, hj, q⟩ := Tr.sumTo_mem he
  have h1 := Tr.sumTo_le _ _ he
  have h8 := (lv_bd h).2
  have h2 := (turn_lv 9 t j h (by omega) (by omega)).2
  rw [← q] at h2
  omega
end Go.Proofs.Ytpmfpgfgkeejnaa
/-
  The model's grafting on lists.
-/
namespace Go.Proofs.Ytpmfpgfgkeejnaa
open Go.RowKit Fld
set_option linter.unusedVariables false
set_option linter.unusedSimpArgs false
set_option maxRecDepth 100000

theorem tw_step (p : Int → Bool) : ∀ (s : List Int) (j : Nat), j ≤ (s.takeWhile p).length → (j < (s.takeWhile p).length ↔ ∃ x, s[j]? = some x ∧ p x = true)
  | [], j, h => by simp
  | a :: s, j, h => by
    rw [List.takeWhile_cons] at h ⊢
    by_cases hp : p a = true
    · rw [if_pos hp] at h ⊢
      cases j with
      | zero => simp [hp]
      | succ j =>
        have ih := tw_step p s j (by simpa using h)
        simpa using ih
    · rw [if_neg hp] at h ⊢
      have h0 : j = 0 := by simpa using h
      subst h0
      simp [hp]
theorem end_step {t : List Int} {k q : Nat} (h1 : k + 1 ≤ q) (hq : q ≤ Tr.endL t k) : q < Tr.endL t k ↔ ∃ x, t[q]? = some x ∧ t.getD k 0 < x := by
  unfold Tr.endL at *
  have h2 := tw_step (fun y => decide (t.getD k 0 < y)) (t.drop (k + 1)) (q - (k + 1)) (by omega)
  rw [List.getElem?_drop, show k + 1 + (q - (k + 1)) = q from by omega] at h2
  simp only [decide_eq_true_eq] at h2
  rw [← h2]; omega
theorem l04End_any (A : Option Addr) (n c B k : Nat) (t : List Int) (w : World) (hl : t.length = n) (hn : n ≤ 1048576) (hk : k < n) (h : Row w B A (ints t)) :
    Calls Try.prog 55 #[.slice A n c, .int .i64 k] w fun e w' => e = .returned (.int .i64 ((Tr.endL t k : Nat) : Int)) ∧ ∃ m, w' = w.drewN m := by
  have HL := Lib.hid hl
  obtain ⟨y, hy⟩ := at_lt (show k < t.length by omega)
  have HY : Hid (t.getD k 0 = y) := by rw [Hid, List.getD_eq_getElem?_getD, hy]; rfl
  obtain ⟨b, o, rfl, hbB, hcy⟩ := h k _ (ints_at hy)
  have hE := Tr.endL_le (t := t) (k := k) (by omega)
  rw [hl] at hE
  obtain ⟨en, hen⟩ : ∃ en, en = Tr.endL t k := ⟨_, rfl⟩
  have HEN := Lib.hid hen
  rw [← hen] at hE ⊢
  clear hl hy hen
  go_enter Try.func55, Try.ntmps55
  go_wp2_with fail
  go_loopw [5] (fun e wr => ∃ (q m : Nat), k + 1 ≤ q ∧ q ≤ en ∧ e = .int .i64 q ∧ wr = w.drewN m) (fun e _ => en - (intOf e).toNat)
  case atStart => exact ⟨k + 1, 0, Nat.le_refl _, hE.1, by go_num, rfl⟩
  case round =>
    obtain ⟨q, m, h1, hq, rfl, rfl⟩ := hrel
    have HS := Lib.hid (end_step (t := t) h1 (by rw [← HEN.out]; exact hq))
    have hk0 : (0 : Int) ≤ (k : Int) := Int.natCast_nonneg _
    have hq0 : (0 : Int) ≤ (q : Int) := Int.natCast_nonneg _
    have hkn : (k : Int) < (n : Int) := by omega
    by_cases hqn : q < n
    · obtain ⟨x, hx⟩ := at_lt (show q < t.length by rw [HL.out]; exact hqn)
      obtain ⟨_, _, e1, _, hcx⟩ := h q _ (ints_at hx)
      cases e1
      have hqi : (q : Int) < (n : Int) := by omega
      have hd : decide ((q : Int) < (n : Int)) = true := decide_eq_true hqi
      by_cases hlt : y < x
      · have hqe : q < en := by
          rw [HEN.out]; refine HS.out.2 ⟨x, hx, ?_⟩
          rw [HY.out]; exact hlt
        have hd2 : decide (y < x) = true := decide_eq_true hlt
        clear hx HS
        go_wp2_with fail
        go_quiet (fail)
        go_wp2
        go_roundw
        case rel => exact ⟨q + 1, _, by omega, by omega, by go_num, rfl⟩
        case measure => simp [intOf]; omega
      · have hqe : q = en := by
          rcases Nat.lt_or_ge q en with g | g
          · rw [HEN.out] at g
            obtain ⟨x', hx', hlt'⟩ := HS.out.1 g
            rw [hx] at hx'; injection hx' with hx'
            rw [HY.out] at hlt'
            omega
          · omega
        have hd2 : decide (y < x) = false := decide_eq_false hlt
        clear hx HS
        subst hqe
        go_wp2_with fail
        go_quiet (fail)
        go_wp2
        go_ret
        exact ⟨rfl, m + nq, World.drewN_drewN ..⟩
    · have hqe : q = en := by omega
      have hqn2 : q = n := by omega
      have hd : decide ((q : Int) < (n : Int)) = false := decide_eq_false (by omega)
      clear HS
      subst hqe
      go_wp2_with fail
      go_quiet (fail)
      go_wp2
      go_ret
      exact ⟨rfl, m + nq, World.drewN_drewN ..⟩
theorem grf_take {u v : List Int} {en j : Nat} {x z : Int} (h : v[j]? = some x) : (u.take en ++ (v.take (j + 1)).map (z + ·)) = (u.take en ++ (v.take j).map (z + ·)) ++ [z + x] := by
  rw [List.take_add_one, h, Option.toList_some, List.map_append, List.append_assoc]; rfl
theorem ints_snoc' (l : List Int) (x : Int) : ints l ++ [.int .i64 x] = ints (l ++ [x]) := by simp [ints, intsK]
theorem ints_app (x y : List Int) : ints (x ++ y) = ints x ++ ints y := by unfold ints intsK; rw [List.map_append]
set_option maxHeartbeats 2000000 in
theorem l04Graft_any (A A' : Option Addr) (n n' c c' B B' k : Nat) (u v : List Int) (w : World) (hl : u.length = n) (hl' : v.length = n') (hn : n ≤ 8) (hn' : n' ≤ 8) (hk : k < n) (hc : n ≤ c) (hu : Tr.isLv u = true) (hv : Tr.isLv v = true) (hlv : Tr.isLv (Tr.gl u k v) = true) (hB : B ≤ w.heap.size) (hB' : B' ≤ w.heap.size) (h : Row w B A (ints u)) (h' : Row w B' A' (ints v)) :
    Calls Try.prog 56 #[.slice A n c, .int .i64 k, .slice A' n' c'] w (NewRow 2 (n + n') (ints (Tr.can (Tr.gl u k v))) w) := by
  obtain ⟨i0, hi, hz0, hz1, hz2⟩ := info_parts info_i64
  have HL := Lib.hid hl
  have HL' := Lib.hid hl'
  obtain ⟨y, hy⟩ := at_lt (show k < u.length by omega)
  have hyb := lv_el hu hy
  have HY : Hid (u.getD k 0 = y) := by rw [Hid, List.getD_eq_getElem?_getD, hy]; rfl
  obtain ⟨b, o, rfl, hbB, hcy⟩ := h k _ (ints_at hy)
  have hE := Tr.endL_le (t := u) (k := k) (by omega)
  rw [hl] at hE
  have C0 := l04End_any (some ⟨b, o, none⟩) n c B k u w hl (by omega) hk h
  obtain ⟨en, hen⟩ : ∃ en, en = Tr.endL u k := ⟨_, rfl⟩
  have HGL : Hid (Tr.gl u k v = u.take en ++ v.map (y + 1 + ·) ++ u.drop en) := by
    rw [Hid]; unfold Tr.gl; rw [← hen, HY.out, List.append_assoc]
  have HGN : Hid ((Tr.gl u k v).length = n + n') := by rw [Hid, Tr.gl_length (by rw [← hen, hl]; rw [← hen] at hE; exact hE.2), hl, hl']
  rw [← hen] at hE C0
  have HV := Lib.hid hv
  have HG := Lib.hid hlv
  have HTK : Hid ((u.take en).length = en) := by rw [Hid, List.length_take, hl]; omega
  have hen8 : en ≤ 8 := by omega
  have henc : (en : Int) ≤ (c : Int) := by omega
  have hen0 : (0 : Int) ≤ (en : Int) := Int.natCast_nonneg _
  clear hl hl' hy hen hu hv hlv
  go_enter Try.func56, Try.ntmps56
  go_wp2_with fail
  refine C0.mono ?_
  rintro e w1 ⟨rfl, m1, rfl⟩
  go_wp2_with fail
  refine (l01Own_any ⟨b, o, none⟩ en c B (u.take en) _ HTK.out (by omega) (by exact hB) (by
    have := Row.takeA (h.drewN m1) en
    unfold ints intsK at *
    rwa [← List.map_take] at this)).mono ?_
  rintro e w2 ⟨A2, c2, rfl, own2, bel2'⟩
  have bel2 : Below w.heap.size w w2 := below_undrew' bel2'
  have own2' : w2.ownsRow w.heap.size 2 1 (.slice A2 en c2) en (ints (u.take en)) := own2
  obtain ⟨g2, cap2, hv2⟩ := own_form own2' (by omega)
  injection hv2 with hA _ hcp
  subst hA hcp
  have F0 : Hid (Growing w 2 g2 (en + 0) c2 (ints (u.take en ++ (v.take 0).map (y + 1 + ·))) w2) := by
    rw [Hid, List.take_zero, List.map_nil, List.append_nil]; exact ⟨own2', bel2⟩
  clear own2 own2' bel2 bel2' C0
  go_wp2_with fail
  go_loopw [8, 9] (fun s i W => ∃ (j g cap : Nat), j ≤ n' ∧ s = .slice (some ⟨g, 0, none⟩) (en + j) cap ∧ i = .int .i64 j ∧ Growing w 2 g (en + j) cap (ints (u.take en ++ (v.take j).map (y + 1 + ·))) W) (fun _ i _ => n' - (intOf i).toNat)
  case atStart => exact ⟨0, g2, c2, Nat.zero_le _, rfl, rfl, F0.out⟩
  case round =>
    obtain ⟨j, g, cap, hj, rfl, rfl, HGr⟩ := hrel
    have hsz := HGr.2.size
    by_cases hlt : j < n'
    · obtain ⟨x, hx⟩ := at_lt (show j < v.length by rw [HL'.out]; exact hlt)
      obtain ⟨b', o', rfl, hb', hcx⟩ := (h'.below HGr.2 hB') j _ (ints_at hx)
      obtain ⟨x0, x8⟩ := lv_el HV.out hx
      have hcy2 : wr.cell? ⟨b, o + k, none⟩ = some (.int .i64 y) := (HGr.2.cell (p := ⟨b, o + k, none⟩) (by show b < w.heap.size; omega)).trans hcy
      have HXS := Lib.hid (grf_take (u := u) (en := en) (z := y + 1) hx)
      have HG' := Lib.hid HGr
      have hown : wr.drew.ownsRow w.heap.size 2 1 (.slice (some ⟨g, 0, none⟩) (en + j) cap) (en + j) (ints (u.take en ++ (v.take j).map (y + 1 + ·))) := ((OwnR.of HGr.1).keep (w' := wr.drew) fun _ _ _ => rfl).1
      have hy0 := hyb.1
      have hy8 := hyb.2
      have hcx' : wr.drew.cell? ⟨b', o' + j, none⟩ = some (.int .i64 x) := hcx
      have hcy' : wr.drew.cell? ⟨b, o + k, none⟩ = some (.int .i64 y) := hcy2
      have hwd : w.heap.size ≤ wr.drew.heap.size := hsz
      have hw1 : IntKind.i64.wrap (y + 1) = y + 1 := IntWalk.i64_in _ (by omega)
      have hw2 : IntKind.i64.wrap (y + 1 + x) = y + 1 + x := IntWalk.i64_in _ (by omega)
      have s0 : (0 : Int) ≤ (k : Int) := Int.natCast_nonneg _
      have s1 : (k : Int) < (n : Int) := by omega
      have s2 : (0 : Int) ≤ (j : Int) := Int.natCast_nonneg _
      have s3 : (j : Int) < (n' : Int) := by omega
      have HG : Hid (∀ (ob : Obj) (W2 : World) (g5 cap5 : Nat), W2.ownsRow w.heap.size 2 1 (.slice (some ⟨g5, 0, none⟩) (en + j + 1) cap5) (en + j + 1) (ints (u.take en ++ (v.take j).map (y + 1 + ·)) ++ [.int .i64 (y + 1 + x)]) → (wr.drew.alloc ob).grownBy W2 (Value.ownBlock (.slice (some ⟨g, 0, none⟩) (en + j) cap)) → Growing w 2 g5 (en + j + 1) cap5 (ints (u.take en ++ (v.take (j + 1)).map (y + 1 + ·))) W2) := fun ob W2 g5 cap5 hown5 hgrow5 => by
        rw [ints_snoc', ← HXS.out] at hown5
        exact HG'.out.step (show Below wr.heap.size wr (wr.drew.alloc ob) from (below_drew' (Below.refl _ _)).alloc (Nat.le_refl _) _) hown5 hgrow5
      clear hx HGr
      go_wp2_with fail
      go_region_law (first | (go_loud (refine step_append_lies _ (by rfl) _ _ 31 (by rfl) w.heap.size 2 i0 _ 1 8 Try.underlying31 hi hz0 hz1 hz2 rfl (by omega) (.slice (some ⟨g, 0, none⟩) (en + j) cap) (en + j) (ints (u.take en ++ (v.take j).map (y + 1 + ·))) rfl (hown.alloc _) ⟨wr.drew.heap.size, 0, none⟩ 1 1 [.int .i64 (y + 1 + x)] rfl rfl (World.news_of_block (cs := #[.int .i64 (y + 1 + x)]) (heap_alloc_new _ _)) (by simp [Value.oneCell']) (by omega) (by simp only [maxLen]; omega) (by omega) (by simp; omega) (wr.drew.heap.size + 1) (by simp) ?_); intro g4 cap4 w4 hown4 hgrow4 hat4 hlt4))
      all_goals
        have G := Lib.hid (HG.out _ _ _ _ hown4 hgrow4)
        clear hown4 hgrow4 hat4 hown
        go_wp2
        go_roundw
        case rel => exact ⟨j + 1, g4, cap4, by omega, rfl, by go_num, G.out⟩
        case measure => simp [intOf]; omega
    · obtain rfl : j = n' := by omega
      rw [show v.take j = v from List.take_of_length_le (by rw [HL'.out]; exact Nat.le_refl _)] at HGr
      have HB1 := Lib.hid HGr.2
      have hown := HGr.1
      have HOWN := Lib.hid hown
      have HROW := Lib.hid (h.below HGr.2 hB)
      have HDL : Hid ((ints (u.drop en)).length = (n - en) * 1) := by rw [Hid, ints_length, List.length_drop, HL.out]; omega
      have HON := Lib.hid (ints_cells (u.drop en))
      have HSUM : Hid (en + j + (n - en) = n + j) := by rw [Hid]; omega
      clear HGr
      have fin : ∀ (A9 : Option Addr) (c9 : Nat) (w9 : World), w9.ownsRow w.heap.size 2 1 (.slice A9 (n + j) c9) (n + j) (ints (Tr.gl u k v)) → Below w.heap.size w w9 → Calls Try.prog 52 #[.slice A9 (n + j) c9] w9 (NewRow 2 (n + j) (ints (Tr.can (Tr.gl u k v))) w) := by
        intro A9 c9 w9 ho hb
        refine (l03Canon_any A9 (n + j) c9 w9.heap.size (Tr.gl u k v) w9 HGN.out HG.out (Nat.le_refl _) (row_of_own ho)).mono ?_
        rintro e w10 ⟨A10, c10, rfl, own10, bel10⟩
        exact ⟨A10, c10, rfl, ((OwnR.of own10).more hb.size (Nat.le_refl _)).1, hb.trans (bel10.mono hb.size)⟩
      have HFIN := Lib.hid fin
      clear fin
      by_cases hec : en = c
      · have hz : n - en = 0 := by omega
        have HDZ : Hid ((ints (u.drop en)).length = 0 * 1) := by rw [Hid, HDL.out, hz]
        have HSZ : Hid (en + j + 0 = n + j) := by rw [Hid]; omega
        have HNW : Hid (∀ q z, (ints (u.drop en))[q]? = some z → wr.cell? ((⟨b, o, none⟩ : Addr).add q) = some z) := fun q z hz' => by
          have := HDL.out
          rw [hz, Nat.zero_mul] at this
          rw [List.length_eq_zero_iff.1 this] at hz'; simp at hz'
        go_wp2_with (at_builtin; go_loud (refine wpList_append_own _ rfl (.tmp 36) (.tmp 39) 31 rfl w.heap.size 2 i0 _ 1 8 Try.underlying31 hi hz0 hz1 hz2 rfl (by omega) (.slice (some ⟨g, 0, none⟩) (en + j) cap) (en + j) (ints (u.take en ++ v.map (y + 1 + ·))) rfl hown ⟨b, o, none⟩ 0 0 (ints (u.drop en)) rfl HDZ.out HNW.out HON.out (by simp only [maxLen]; omega) (by omega) (by omega) ?_); intro v5 w5 own5 hgrow5 _; rw [HSZ.out] at own5; obtain ⟨A5, c5, rfl⟩ := own_shape' own5)
        rw [← ints_app, ← HGL.out] at own5
        have GB : Hid (Below w.heap.size w w5) := HB1.out.grown hgrow5 (by omega) (fun z hz => (HOWN.out.lt z hz).1)
        have GO := Lib.hid own5
        clear own5 hgrow5 hown
        go_wp2_with fail
        refine (HFIN.out A5 c5 w5 GO.out GB.out).mono ?_
        rintro e w6 ⟨A6, c6, rfl, own6, bel6⟩
        have GF : Hid (NewRow 2 (n + j) (ints (Tr.can (Tr.gl u k v))) w (.returned (.slice A6 (n + j) c6)) w6) := ⟨_, _, rfl, own6, bel6⟩
        clear own6 bel6
        go_wp2
        go_ret
        exact GF.out
      · have HNW : Hid (∀ q z, (ints (u.drop en))[q]? = some z → wr.cell? ((⟨b, o + en, none⟩ : Addr).add q) = some z) := by
          have := Row.dropA (k := en) HROW.out
          have h9 := row_news this
          unfold ints intsK at *
          rwa [← List.map_drop] at h9
        go_wp2_with (at_builtin; go_loud (refine wpList_append_own _ rfl (.tmp 36) (.tmp 39) 31 rfl w.heap.size 2 i0 _ 1 8 Try.underlying31 hi hz0 hz1 hz2 rfl (by omega) (.slice (some ⟨g, 0, none⟩) (en + j) cap) (en + j) (ints (u.take en ++ v.map (y + 1 + ·))) rfl hown ⟨b, o + en, none⟩ (n - en) (c - en) (ints (u.drop en)) rfl HDL.out HNW.out HON.out (by simp only [maxLen]; omega) (by omega) (by omega) ?_); intro v5 w5 own5 hgrow5 _; rw [HSUM.out] at own5; obtain ⟨A5, c5, rfl⟩ := own_shape' own5)
        rw [← ints_app, ← HGL.out] at own5
        have GB : Hid (Below w.heap.size w w5) := HB1.out.grown hgrow5 (by omega) (fun z hz => (HOWN.out.lt z hz).1)
        have GO := Lib.hid own5
        clear own5 hgrow5 hown
        go_wp2_with fail
        refine (HFIN.out A5 c5 w5 GO.out GB.out).mono ?_
        rintro e w6 ⟨A6, c6, rfl, own6, bel6⟩
        have GF : Hid (NewRow 2 (n + j) (ints (Tr.can (Tr.gl u k v))) w (.returned (.slice A6 (n + j) c6)) w6) := ⟨_, _, rfl, own6, bel6⟩
        clear own6 bel6
        go_wp2
        go_ret
        exact GF.out
end Go.Proofs.Ytpmfpgfgkeejnaa
/-
  An append in a drawn region; what a branch takes.
-/
namespace Go.Proofs.Ytpmfpgfgkeejnaa
open Go.RowKit Fld
set_option linter.unusedVariables false
set_option linter.unusedSimpArgs false
set_option maxRecDepth 100000

theorem step_append_own' {P : Program} {w : World} {ops : Array Oper} {o : Oper} {a : Act} {K : Act → World → Prop} {Q : Exit → Act → World → Prop} {E : Prop} (hgd : o.guard = none) (s x : Operand) (t : TypeId)
    (ho : o.op = .call { callee := .builtin .append, args := #[s, x], argTypes := #[t, t] })
    (base : Nat) (e : TypeId) (i : TypeInfo) (z : Value) (size bytes : Nat) (ht : P.underlying t = some (.slice e)) (hi : P.info? e = some i) (hz : i.zero = some z)
    (hsize : i.size = size) (hby : i.bytes = bytes) (hzs : z.cells.size = size) (hsz : 0 < size)
    (v : Value) (n : Nat) (xs : List Value) (hs : a.eval s = v) (hown : w.ownsRow base e size v n xs)
    (ad : Addr) (m c : Nat) (news : List Value) (hx : a.eval x = .slice (some ad) m c) (hl : news.length = m * size) (hnews : ∀ j u, news[j]? = some u → w.cell? (ad.add j) = some u) (h1 : ∀ u ∈ news, u.oneCell' = true)
    (h63 : n + m ≤ maxLen) (hbytes : (n + m) * bytes ≤ 140737488355328) (hbase : base ≤ w.heap.size)
    (h : ∀ v' w', w'.ownsRow base e size v' (n + m) (xs ++ news) → w.grownBy w' v.ownBlock → (v' = .slice none 0 0 ↔ v = .slice none 0 0 ∧ m = 0) → K (a.put o.dst v') w') :
    if Region.wanted o (yielded ops a.tmps) = true then Oper.wp P o a w K Q else E := by
  have hw : Region.wanted o (yielded ops a.tmps) = true := by simp [Region.wanted, hgd]
  rw [if_pos hw]
  exact wp_append_own w s x t ho base e i z size bytes ht hi hz hsize hby hzs hsz v n xs hs hown ad m c news hx hl hnews h1 h63 hbytes hbase h
theorem branch_take {t : List Int} {k j : Nat} {x y : Int} (h : t[k + j]? = some x) : ((t.drop k).take (j + 1)).map (· - y) = ((t.drop k).take j).map (· - y) ++ [x - y] := by
  rw [List.take_add_one, List.getElem?_drop, h, Option.toList_some, List.map_append]; rfl
end Go.Proofs.Ytpmfpgfgkeejnaa
/-
  The model's rerooting of lists.
-/
namespace Go.Proofs.Ytpmfpgfgkeejnaa
open Go.RowKit Fld
set_option linter.unusedVariables false
set_option linter.unusedSimpArgs false
set_option maxRecDepth 100000

theorem parL_step {t : List Int} {x z : Int} {p : Nat} (h : t[p]? = some z) : Tr.parL t x (p + 1) = if z = x then p else Tr.parL t x p := by
  rw [Tr.parL, List.getD_eq_getElem?_getD, h]; rfl
def TurnAt (d : Nat) : Prop := ∀ (A : Option Addr) (n c B k : Nat) (t : List Int) (w : World), t.length = n → Tr.isLv t = true → k < n → k < d → n ≤ c → B ≤ w.heap.size → Row w B A (ints t) →
    Calls Try.prog 38 #[.slice A n c, .int .i64 k] w (NewRow 2 n (ints (Tr.turnF d t k)) w)
theorem turnAt_zero : TurnAt 0 := fun A n c B k t w _ _ _ hd _ _ _ => by omega
set_option maxHeartbeats 4000000 in
theorem turnAt_succ (d : Nat) (IH : TurnAt d) : TurnAt (d + 1) := by
  intro A n c B k t w hl ht hk hd hc hB h
  obtain ⟨i0, hi, hz0, hz1, hz2⟩ := info_parts info_i64
  have h8 := (lv_bd ht).2
  rw [hl] at h8
  cases k with
  | zero =>
    have C0 := l03Canon_any A n c B t w hl ht hB h
    have HZ : Hid (Tr.turnF (d + 1) t 0 = Tr.can t) := rfl
    rw [HZ.out]
    clear HZ hl ht
    go_enter Try.func38, Try.ntmps38
    go_wp2_with fail
    refine C0.mono ?_
    rintro e w1 ⟨A1, c1, rfl, own1, bel1⟩
    have G : Hid (NewRow 2 n (ints (Tr.can t)) w (.returned (.slice A1 n c1)) w1) := ⟨_, _, rfl, own1, bel1⟩
    clear own1 bel1 C0
    go_wp2
    go_ret
    exact G.out
  | succ k =>
    obtain ⟨p1, p2, p3, p4, p5⟩ := Tr.par_parts ht (k := k) (by omega)
    obtain ⟨i1, i2⟩ := turn_lv d _ _ p4 p3 (by omega)
    have l1 := trunk_length (t := t) (k := k + 1) (by omega)
    have l2 := branch_length (t := t) (k := k + 1) (by omega)
    have hE := Tr.endL_le (t := t) (k := k + 1) (by omega)
    rw [hl] at hE
    have C0 := fun W (hb : Below w.heap.size w W) => l04End_any A n c B (k + 1) t W hl (by omega) hk (Row.below h hb hB)
    obtain ⟨g1, g2⟩ := Tr.graft_root p5 i1 (by rw [i2, l1, l2, hl]; omega)
    have HTF : Hid (Tr.turnF (d + 1) t (k + 1) = Tr.can (Tr.gl (Tr.branchL t (k + 1)) 0 (Tr.turnF d (Tr.trunkL t (k + 1)) (Tr.parL t (t.getD (k + 1) 0 - 1) (k + 1))))) := rfl
    rw [HTF.out]
    obtain ⟨y, hy⟩ := at_lt (show k + 1 < t.length by omega)
    have hyb := lv_el ht hy
    have hyd : t.getD (k + 1) 0 = y := by rw [List.getD_eq_getElem?_getD, hy]; rfl
    have HRD : Hid (Tr.branchL t (k + 1) = ((t.drop (k + 1)).take (Tr.endL t (k + 1) - (k + 1))).map (· - y)) := by rw [Hid, ← hyd]; rfl
    have HTD : Hid (Tr.trunkL t (k + 1) = t.take (k + 1) ++ t.drop (Tr.endL t (k + 1))) := rfl
    rw [hyd] at p1 p2 p3 g2 i1 i2 ⊢
    obtain ⟨b, o, rfl, hbB, hcy⟩ := h (k + 1) _ (ints_at hy)
    obtain ⟨en, hen⟩ : ∃ en, en = Tr.endL t (k + 1) := ⟨_, rfl⟩
    obtain ⟨pr, hpr⟩ : ∃ pr, pr = Tr.parL t (y - 1) (k + 1) := ⟨_, rfl⟩
    simp only [← hen] at C0
    rw [← hen] at hE l1 l2 HRD HTD
    rw [hl] at l1
    rw [← hpr] at p1 p2 p3 g2 i1 i2 ⊢
    have HPR := Lib.hid hpr
    have HP1 := Lib.hid p1
    have HTT := Lib.hid p4
    have HRR := Lib.hid p5
    have HI1 := Lib.hid i1
    have HI2 : Hid ((Tr.turnF d (Tr.trunkL t (k + 1)) pr).length = n - (en - (k + 1))) := by rw [Hid, i2, l1]
    have HTL := Lib.hid l1
    have HRL := Lib.hid l2
    have HG2 := Lib.hid g2
    have HT := Lib.hid ht
    have HL := Lib.hid hl
    have hp3 : pr < n - (en - (k + 1)) := by rw [← l1]; exact p3
    have hen8 : en ≤ 8 := by omega
    have tk := beq_f (show ¬ ((k + 1 : Nat) : Int) = 0 by omega)
    obtain ⟨kk, hkk⟩ : ∃ kk, kk = k + 1 := ⟨_, rfl⟩
    have hkm : ((k + 1 : Nat) : Int) - 1 = (k : Int) := by omega
    simp only [← hkk] at C0
    rw [← hkk] at tk hkm hcy hE hk hpr HPR HRD HTD HTL HRL HTT HRR HI1 HI2 HG2 hp3 ⊢
    have hk1 : 1 ≤ kk := by omega
    have hk2 : k < kk := by omega
    have hk3 : kk ≤ k + 1 := by omega
    have HKK := Lib.hid hkk
    clear hkk
    clear hl ht hy hen hpr p1 p3 p4 p5 g1 g2 i1 i2 l1 l2 hyd HTF
    go_enter Try.func38, Try.ntmps38
    go_wp2_with fail
    go_loopw [5] (fun pv wr => ∃ (p m : Nat), p ≤ k ∧ pv = .int .i64 p ∧ wr = w.drewN m ∧ Hid (Tr.parL t (y - 1) (p + 1) = pr)) (fun pv _ => (intOf pv).toNat)
    case atStart => exact ⟨k, 0, Nat.le_refl _, by go_num, rfl, by rw [Hid, HPR.out, HKK.out]⟩
    case round =>
      obtain ⟨p, m, hp, rfl, rfl, HPP⟩ := hrel
      obtain ⟨x, hx⟩ := at_lt (show p < t.length by rw [HL.out]; omega)
      obtain ⟨x0, x8⟩ := lv_el HT.out hx
      obtain ⟨_, _, e1, _, hcx⟩ := h p _ (ints_at hx)
      cases e1
      have HST := Lib.hid (parL_step (x := y - 1) hx)
      have s0 : (0 : Int) ≤ (p : Int) := Int.natCast_nonneg _
      have s1 : (p : Int) < (n : Int) := by omega
      have s2 : (0 : Int) ≤ (kk : Int) := Int.natCast_nonneg _
      have s3 : (kk : Int) < (n : Int) := by omega
      have hy0 := hyb.1
      have hy8 := hyb.2
      have hw1 : IntKind.i64.wrap (y - 1) = y - 1 := IntWalk.i64_in _ (by omega)
      by_cases hxe : x = y - 1
      · have HPE : Hid (pr = p) := by rw [Hid, ← HPP.out, HST.out, if_pos hxe]
        have tx := beq_t hxe
        clear hx HST HPP
        go_wp2_with fail
        go_quiet (fail)
        go_wp2_with fail
        refine (C0 _ (below_drewN (Below.refl _ _) _)).mono ?_
        rintro e w1 ⟨rfl, m1, rfl⟩
        have hWz : Hid (Below w.heap.size w (w.drewN (m + nq + m1))) := below_drewN (Below.refl _ _) _
        go_wp2_with fail
        go_loopw [7, 8] (fun s i W => ∃ (j g cap : Nat), j ≤ en - kk ∧ s = .slice (some ⟨g, 0, none⟩) j cap ∧ i = .int .i64 ((kk + j : Nat) : Int) ∧ Growing w 2 g j cap (ints (((t.drop kk).take j).map (· - y))) W) (fun _ i _ => en - (intOf i).toNat)
        case atStart => exact ⟨0, _, 0, Nat.zero_le _, rfl, by go_num, ⟨(Growing.start (w.drewN (m + nq + m1)) 2).1, hWz.out.alloc (Nat.le_refl _) _⟩⟩
        case round =>
          obtain ⟨j, g, cap, hj, rfl, rfl, HGr⟩ := hrel
          have hsz := HGr.2.size
          by_cases hlt : kk + j < en
          · obtain ⟨x, hx⟩ := at_lt (show kk + j < t.length by rw [HL.out]; omega)
            obtain ⟨x0, x8⟩ := lv_el HT.out hx
            obtain ⟨_, _, e1, _, hcx⟩ := (Row.below h HGr.2 hB) (kk + j) _ (ints_at hx)
            cases e1
            have hcy2 : wr.cell? ⟨b, o + kk, none⟩ = some (.int .i64 y) := (HGr.2.cell (p := ⟨b, o + kk, none⟩) (by show b < w.heap.size; omega)).trans hcy
            have HXS := Lib.hid (branch_take (y := y) hx)
            have HG' := Lib.hid HGr
            have hown : wr.drew.ownsRow w.heap.size 2 1 (.slice (some ⟨g, 0, none⟩) j cap) j (ints (((t.drop kk).take j).map (· - y))) := ((OwnR.of HGr.1).keep (w' := wr.drew) fun _ _ _ => rfl).1
            have hcx' : wr.drew.cell? ⟨b, o + (kk + j), none⟩ = some (.int .i64 x) := hcx
            have hcy' : wr.drew.cell? ⟨b, o + kk, none⟩ = some (.int .i64 y) := hcy2
            have hwd : w.heap.size ≤ wr.drew.heap.size := hsz
            have hw2 : IntKind.i64.wrap (x - y) = x - y := IntWalk.i64_in _ (by omega)
            obtain ⟨q, hq⟩ : ∃ q, q = kk + j := ⟨_, rfl⟩
            have HQ := Lib.hid hq
            rw [← hq] at hcx' hlt ⊢
            have s5 : (0 : Int) ≤ (q : Int) := Int.natCast_nonneg _
            have s6 : (q : Int) < (n : Int) := by omega
            have s4 : (q : Int) < (en : Int) := by omega
            have HG : Hid (∀ (ob : Obj) (W2 : World) (g5 cap5 : Nat), W2.ownsRow w.heap.size 2 1 (.slice (some ⟨g5, 0, none⟩) (j + 1) cap5) (j + 1) (ints (((t.drop kk).take j).map (· - y)) ++ [.int .i64 (x - y)]) → (wr.drew.alloc ob).grownBy W2 (Value.ownBlock (.slice (some ⟨g, 0, none⟩) j cap)) → Growing w 2 g5 (j + 1) cap5 (ints (((t.drop kk).take (j + 1)).map (· - y))) W2) := fun ob W2 g5 cap5 hown5 hgrow5 => by
              rw [ints_snoc', ← HXS.out] at hown5
              exact HG'.out.step (show Below wr.heap.size wr (wr.drew.alloc ob) from (below_drew' (Below.refl _ _)).alloc (Nat.le_refl _) _) hown5 hgrow5
            clear hx HGr hq hcx hcy2
            go_wp2_with fail
            go_region_law (first | (go_loud (refine step_append_lies _ (by rfl) _ _ 31 (by rfl) w.heap.size 2 i0 _ 1 8 Try.underlying31 hi hz0 hz1 hz2 rfl (by omega) (.slice (some ⟨g, 0, none⟩) j cap) j (ints (((t.drop kk).take j).map (· - y))) rfl (hown.alloc _) ⟨wr.drew.heap.size, 0, none⟩ 1 1 [.int .i64 (x - y)] rfl rfl (World.news_of_block (cs := #[.int .i64 (x - y)]) (heap_alloc_new _ _)) (by simp [Value.oneCell']) (by omega) (by simp only [maxLen]; omega) (by omega) (by simp; omega) (wr.drew.heap.size + 1) (by simp) ?_); intro g4 cap4 w4 hown4 hgrow4 hat4 hlt4))
            all_goals
              have G := Lib.hid (HG.out _ _ _ _ hown4 hgrow4)
              clear hown4 hgrow4 hat4 hown
              go_wp2
              go_roundw
              case rel => exact ⟨j + 1, g4, cap4, by have := HQ.out; omega, rfl, by have := HQ.out; go_num, G.out⟩
              case measure => simp [intOf]; omega
          · have hje : j = en - kk := by omega
            have hke : kk + j = en := by omega
            rw [hje, ← HRD.out, ← hje] at HGr
            have HB1 := Lib.hid HGr.2
            have HO1 := Lib.hid HGr.1
            have hs1 := HGr.2.size
            have HROW := Lib.hid (Row.below h HGr.2 hB)
            have hkc : (kk : Int) ≤ (c : Int) := by omega
            have henc : (en : Int) ≤ (c : Int) := by omega
            have HTK : Hid ((t.take kk).length = kk) := by rw [Hid, List.length_take, HL.out]; omega
            have HDL : Hid ((ints (t.drop en)).length = (n - en) * 1) := by rw [Hid, ints_length, List.length_drop, HL.out]; omega
            have HON := Lib.hid (ints_cells (t.drop en))
            have HSUM : Hid (kk + (n - en) = n - (en - kk)) := by rw [Hid]; omega
            clear HGr C0
            rw [hke]
            clear hje hke
            have HLR : Hid ((Tr.branchL t kk).length = j) := by rw [Hid, ← ints_length, own_len HO1.out]
            have CO : ∀ W, Below wr.heap.size wr W → Calls Try.prog 53 #[.slice (some ⟨b, o, none⟩) kk c] W (fun e W' => ∃ A' c', e = .returned (.slice A' kk c') ∧ W'.ownsRow W.heap.size 2 1 (.slice A' kk c') kk (ints (t.take kk)) ∧ Below W.heap.size W W') := fun W hb =>
              l01Own_any ⟨b, o, none⟩ kk c B (t.take kk) W HTK.out (by omega) (by have := hb.size; omega) (by
                have := Row.takeA (Row.below HROW.out hb (by omega)) kk
                unfold ints intsK at *
                rwa [← List.map_take] at this)
            have BW : Below wr.heap.size wr wr.drew := below_drew' (Below.refl _ _)
            have HNW : Hid (∀ (AE : Addr), (if c = en then (some ⟨b, o, none⟩ : Option Addr) else some ⟨b, o + en, none⟩) = some AE → ∀ W, Below wr.heap.size wr W → ∀ q z, (ints (t.drop en))[q]? = some z → W.cell? (AE.add q) = some z) := fun AE hAE W hb q z hz => by
              by_cases hc2 : c = en
              · have h0 : (ints (t.drop en)).length = 0 := by rw [HDL.out]; omega
                rw [List.length_eq_zero_iff.1 h0] at hz; simp at hz
              · rw [if_neg hc2] at hAE
                injection hAE with hAE
                subst hAE
                have h9 := row_news (Row.dropA (k := en) (Row.below HROW.out hb (by omega)))
                unfold ints intsK at *
                rw [← List.map_drop] at h9
                exact h9 q z hz
            obtain ⟨AE, hAE⟩ : ∃ AE, (if c = en then (some ⟨b, o, none⟩ : Option Addr) else some ⟨b, o + en, none⟩) = some AE := by
              by_cases hc2 : c = en
              · exact ⟨_, if_pos hc2⟩
              · exact ⟨_, if_neg hc2⟩
            have HNX := Lib.hid (HNW.out AE hAE)
            clear HNW
            have hn' : n - en ≤ 8 := by omega
            have hpe := HPE.out
            subst hpe
            go_wp2_with fail
            refine wp_region_noPanic ?_
            refine wp_region_held_drew (S := (fun w' => True)) (by kernel_rfl) ?_ (fun hHeld => ?_)
            · trivial
            refine wpAnyH_take (i := 0) (oi := _) (v := ?_) rfl (by kernel_rfl) (by kernel_rfl) (by kernel_rfl) (fun _ _ _ h => h) (Or.inl ⟨by kernel_rfl, ?_⟩) (by assumption) ?_
            rotate_left
            · (intro w hSw; (try dsimp only at hSw); go_simp; try (with_reducible rfl))
            try simp only [Act.put, List.setIfInBounds_toArray, List.set_cons_zero, List.set_cons_succ, List.getElem_toArray, List.getElem_cons_zero, List.getElem_cons_succ]
            refine wpAnyH_take (i := 1) (oi := _) (v := ?_) rfl (by kernel_rfl) (by kernel_rfl) (by kernel_rfl) (fun _ _ _ h => h) (Or.inl ⟨by kernel_rfl, ?_⟩) (by assumption) ?_
            rotate_left
            · (intro w hSw; (try dsimp only at hSw); go_simp; try (with_reducible rfl))
            try simp only [Act.put, List.setIfInBounds_toArray, List.set_cons_zero, List.set_cons_succ, List.getElem_toArray, List.getElem_cons_zero, List.getElem_cons_succ]
            refine wpAnyH_take (i := 2) (oi := _) (v := ?_) rfl (by kernel_rfl) (by kernel_rfl) (by kernel_rfl) (fun _ _ _ h => h) (Or.inl ⟨by kernel_rfl, ?_⟩) (by assumption) ?_
            rotate_left
            · (intro w hSw; (try dsimp only at hSw); go_simp; try (with_reducible rfl))
            try simp only [Act.put, List.setIfInBounds_toArray, List.set_cons_zero, List.set_cons_succ, List.getElem_toArray, List.getElem_cons_zero, List.getElem_cons_succ]
            refine wpAnyH_take (i := 4) (oi := _) (v := ?_) rfl (by kernel_rfl) (by kernel_rfl) (by kernel_rfl) (fun _ _ _ h => h) (Or.inl ⟨by kernel_rfl, ?_⟩) (by assumption) ?_
            rotate_left
            · (intro w hSw; (try dsimp only at hSw); go_simp; try (with_reducible rfl))
            try simp only [Act.put, List.setIfInBounds_toArray, List.set_cons_zero, List.set_cons_succ, List.getElem_toArray, List.getElem_cons_zero, List.getElem_cons_succ]
            refine wpAnyH_take (i := 5) (oi := _) (v := ?_) rfl (by kernel_rfl) (by kernel_rfl) (by kernel_rfl) (fun _ _ _ h => h) (Or.inl ⟨by kernel_rfl, ?_⟩) (by assumption) ?_
            rotate_left
            · (intro w hSw; (try dsimp only at hSw); go_simp; try (with_reducible rfl))
            try simp only [Act.put, List.setIfInBounds_toArray, List.set_cons_zero, List.set_cons_succ, List.getElem_toArray, List.getElem_cons_zero, List.getElem_cons_succ]
            refine wpAnyH_take (i := 6) (oi := _) (v := ?_) rfl (by kernel_rfl) (by kernel_rfl) (by kernel_rfl) (fun _ _ _ h => h) (Or.inl ⟨by kernel_rfl, ?_⟩) (by assumption) ?_
            rotate_left
            · (intro w hSw; (try dsimp only at hSw); go_simp; try (with_reducible rfl))
            try simp only [Act.put, List.setIfInBounds_toArray, List.set_cons_zero, List.set_cons_succ, List.getElem_toArray, List.getElem_cons_zero, List.getElem_cons_succ]
            refine wpAnyH_ready (rs := [3]) (by kernel_rfl) (by simp) (AllReadyH.cons (o := _) rfl (fun K hK => ?_) AllReadyH.nil)
            go_simp
            (go_at_call 53; refine (CO _ BW).mono ?_; rintro e w2 ⟨A2, c2, rfl, own2', bel⟩)
            have own2 := OwnR.of own2'
            have lz2 := BW.size
            have zz2 := bel.size
            replace BW := BW.trans (bel.mono BW.size)
            clear own2' bel
            go_wp2_with fail
            refine hK.out _ _ ?_ (fun hHeld => ?_)
            · trivial
            clear hK K
            try simp only [Act.put, List.setIfInBounds_toArray, List.set_cons_zero, List.set_cons_succ, List.getElem_toArray, List.getElem_cons_zero, List.getElem_cons_succ]
            refine wpAnyH_ready (rs := [7]) (by kernel_rfl) (by simp) (AllReadyH.cons (o := _) rfl (fun K hK => ?_) AllReadyH.nil)
            refine step_append_own' (by rfl) _ _ 31 (by rfl) _ 2 i0 _ 1 8 Try.underlying31 hi hz0 hz1 hz2 rfl (by omega) (.slice A2 kk c2) kk (ints (t.take kk)) (by rfl) own2.1 AE (n - en) (c - en) (ints (t.drop en)) (by rfl) HDL.out (HNX.out _ BW) HON.out (by simp only [maxLen]; omega) (by omega) (by omega) ?_
            intro v3 w3 own3' hgrow3 _
            rw [HSUM.out] at own3'
            obtain ⟨A3, c3, rfl⟩ := own_shape' own3'
            rw [← ints_app, ← HTD.out] at own3'
            have own3 := Lib.hid (OwnR.of own3')
            have zz3 := hgrow3.size
            replace BW := BW.grown hgrow3 BW.size (fun z hz => by have := (own2.1.lt z hz).1; omega)
            clear own3' hgrow3 own2
            refine hK.out _ _ ?_ (fun hHeld => ?_)
            · trivial
            clear hK K
            try simp only [Act.put, List.setIfInBounds_toArray, List.set_cons_zero, List.set_cons_succ, List.getElem_toArray, List.getElem_cons_zero, List.getElem_cons_succ]
            refine wpAnyH_take (i := 8) (oi := _) (v := ?_) rfl (by kernel_rfl) (by kernel_rfl) (by kernel_rfl) (fun _ _ _ h => h) (Or.inl ⟨by kernel_rfl, ?_⟩) (by assumption) ?_
            rotate_left
            · (intro w hSw; (try dsimp only at hSw); go_simp; try (with_reducible rfl))
            try simp only [Act.put, List.setIfInBounds_toArray, List.set_cons_zero, List.set_cons_succ, List.getElem_toArray, List.getElem_cons_zero, List.getElem_cons_succ]
            refine wpAnyH_done (by kernel_rfl) ?_ _
            refine NoPanic.normal ?_
            have HB3 := Lib.hid (HB1.out.trans (BW.mono hs1))
            have HBW := Lib.hid BW
            have hs3 := HB3.out.size
            have hc3 := (own_cap own3.out.1).1
            clear BW CO
            have hj8 : j ≤ 8 := by omega
            go_wp2_with fail
            refine (IH A3 (n - (en - kk)) c3 w3.heap.size pr (Tr.trunkL t kk) w3 HTL.out HTT.out hp3 (by omega) hc3 (Nat.le_refl _) (row_of_own own3.out.1)).mono ?_
            rintro e w5 ⟨A5, c5, rfl, own5, bel5⟩
            have HB5 := Lib.hid (HB3.out.trans (bel5.mono hs3))
            have R5 := Lib.hid (row_of_own own5)
            have HRB : Hid (Row w5 w5.heap.size (some ⟨g, 0, none⟩) (ints (Tr.branchL t kk))) := (Row.below (Row.below (row_of_own HO1.out) HBW.out (Nat.le_refl _)) bel5 (by have := HBW.out.size; omega)).more (by have := HBW.out.size; have := bel5.size; omega)
            have hc1 := (own_cap HO1.out).1
            clear own5 bel5
            go_wp2_with fail
            refine (l04Graft_any (some ⟨g, 0, none⟩) A5 j (n - (en - kk)) cap c5 w5.heap.size w5.heap.size 0 (Tr.branchL t kk) (Tr.turnF d (Tr.trunkL t kk) pr) w5 HLR.out HI2.out hj8 (by omega) (by omega) hc1 HRR.out HI1.out HG2.out (Nat.le_refl _) (Nat.le_refl _) HRB.out R5.out).mono ?_
            rintro e w6 ⟨A6, c6, rfl, own6, bel6⟩
            have HS6 : Hid (j + (n - (en - kk)) = n) := by rw [Hid]; omega
            have hs5 := HB5.out.size
            rw [HS6.out] at own6 ⊢
            have G : Hid (NewRow 2 n (ints (Tr.can (Tr.gl (Tr.branchL t kk) 0 (Tr.turnF d (Tr.trunkL t kk) pr)))) w (.returned (.slice A6 n c6)) w6) := ⟨_, _, rfl, ((OwnR.of own6).more hs5 (Nat.le_refl _)).1, HB5.out.trans (bel6.mono hs5)⟩
            clear own6 bel6
            go_wp2
            go_ret
            exact G.out
      · have HPE : Hid (Tr.parL t (y - 1) p = pr) := by rw [Hid, ← HPP.out, HST.out, if_neg hxe]
        have hp1 : 1 ≤ p := by
          rcases Nat.eq_zero_or_pos p with z | z
          · exfalso
            subst z
            have e := HPE.out
            rw [Tr.parL] at e
            have := HP1.out
            rw [← e, List.getD_eq_getElem?_getD, hx] at this
            exact hxe this
          · exact z
        have tx := beq_f hxe
        clear hx HST HPP
        go_wp2_with fail
        go_quiet (fail)
        go_wp2
        go_roundw
        case rel => exact ⟨p - 1, _, by omega, by go_num, rfl, by rw [Hid, show p - 1 + 1 = p from by omega]; exact HPE.out⟩
        case measure => simp [intOf]; omega
theorem turnAt_all : ∀ d, TurnAt d
  | 0 => turnAt_zero
  | d+1 => turnAt_succ d (turnAt_all d)
end Go.Proofs.Ytpmfpgfgkeejnaa
/-
  The model's list of all trees of a free tree.
-/
namespace Go.Proofs.Ytpmfpgfgkeejnaa
open Go.RowKit Fld
set_option linter.unusedVariables false
set_option linter.unusedSimpArgs false
set_option maxRecDepth 100000

set_option maxHeartbeats 2000000 in
theorem l04Roots_any (A : Option Addr) (n c B : Nat) (t : List Int) (w : World) (hl : t.length = n) (ht : Tr.isLv t = true) (hc : n ≤ c) (hB : B ≤ w.heap.size) (h : Row w B A (ints t)) :
    Calls Try.prog 21 #[.slice A n c] w (NewSum (rootsL t).length (rootsL t) w) := by
  have h8 := (lv_bd ht).2
  rw [hl] at h8
  have HBD : Hid (∀ k, k ≤ n → ∀ e ∈ Tr.sumTo (Tr.turnF 9 t) k, e.1.length ≤ 8 ∧ -1000000 ≤ e.2 ∧ e.2 ≤ 1000000) := fun k hk => rootsTo_bd ht (by omega)
  have HTL : Hid (∀ k, k < n → (Tr.turnF 9 t k).length = n) := fun k hk => by rw [(turn_lv 9 t k ht (by omega) (by omega)).2, hl]
  have HRT : Hid (rootsL t = Tr.sumTo (Tr.turnF 9 t) n) := by unfold rootsL; rw [hl]; rfl
  have HL := Lib.hid hl
  have HLV := Lib.hid ht
  clear hl ht
  go_enter Try.func21, Try.ntmps21
  go_wp2_with fail
  go_loopw [3, 4] (fun v i wr => ∃ (k q cap : Nat) (A' : Option Addr), k ≤ n ∧ v = .slice A' q cap ∧ i = .int .i64 k ∧ Hid ((Tr.sumTo (Tr.turnF 9 t) k).length = q) ∧ Hid (Sms wr A' (Tr.sumTo (Tr.turnF 9 t) k)) ∧ Hid (Below w.heap.size w wr) ∧ q ≤ cap ∧ cap ≤ maxLen) (fun _ i _ => n - (intOf i).toNat)
  case atStart => exact ⟨0, 0, 0, some ⟨w.heap.size, 0, none⟩, Nat.zero_le _, rfl, rfl, rfl, Sms.nil _ _, (Below.refl _ _).alloc (Nat.le_refl _) _, Nat.le_refl _, Nat.zero_le _⟩
  case round =>
    obtain ⟨k, q, cap, A', hk, rfl, rfl, HQ, HS, HB, hqc, hcm⟩ := hrel
    have hsz := HB.out.size
    have hq8 : q ≤ 8 := by have := Tr.sumTo_length (Tr.turnF 9 t) k; rw [HQ.out] at this; omega
    by_cases hlt : k < n
    · have CT := turnAt_all 9 A n c B k t wr HL.out HLV.out hlt (by omega) hc (by omega) (h.below HB.out hB)
      obtain ⟨T, hT⟩ : ∃ T, T = Tr.turnF 9 t k := ⟨_, rfl⟩
      have HST : Hid (Tr.sumTo (Tr.turnF 9 t) (k + 1) = Tr.putL (Tr.sumTo (Tr.turnF 9 t) k) T 1) := by rw [hT]; rfl
      have HTn : Hid (T.length = n) := by rw [hT]; exact HTL.out k hlt
      rw [← hT] at CT
      clear hT
      go_wp2_with fail
      refine CT.mono ?_
      rintro e w1 ⟨A1, c1, rfl, own1, bel1⟩
      have hs1 : wr.heap.size ≤ w1.heap.size := bel1.size
      have HS1 := HS.out.next bel1
      have HB1 := Lib.hid (HB.out.trans (bel1.mono hsz))
      have C1 := l04Put_any A' A1 q cap n c1 _ T 1 w1 HQ.out (by omega) (HBD.out k hk) (by omega) HTn.out (by omega) h8 HS1 (row_of_own own1)
      rw [← HST.out] at C1
      clear bel1 own1 HS1 CT
      go_wp2_with fail
      refine C1.mono ?_
      rintro e w2 ⟨A2, c2, rfl, hc2, hcm2, HS2, bel2⟩
      have HB2 := Lib.hid (HB1.out.trans (bel2.mono HB1.out.size))
      have HS2' := Lib.hid HS2
      obtain ⟨q2, hq2⟩ : ∃ q2, q2 = (Tr.sumTo (Tr.turnF 9 t) (k + 1)).length := ⟨_, rfl⟩
      rw [← hq2] at hc2 ⊢
      have HQ2 := Lib.hid hq2.symm
      clear bel2 HS2 C1 hq2
      go_wp2
      go_roundw
      case rel => exact ⟨k + 1, q2, c2, A2, by omega, rfl, by go_num, HQ2, HS2', HB2, hc2, hcm2⟩
      case measure => simp [intOf]; omega
    · have hkn : k = n := by omega
      have G : Hid (NewSum (rootsL t).length (rootsL t) w (.returned (.slice A' q cap)) wr) := by
        rw [Hid, HRT.out, ← hkn, HQ.out]
        exact ⟨A', cap, rfl, hqc, hcm, HS.out, HB.out⟩
      clear hkn
      go_wp2
      go_ret
      exact G.out
end Go.Proofs.Ytpmfpgfgkeejnaa
/-
  A list in memory that is known by its cells alone.
-/
namespace Go.Proofs.Ytpmfpgfgkeejnaa
open Go.RowKit Fld
set_option linter.unusedVariables false

/-- a list in memory below a bound: the model's -/
def LowRow (w : World) (hi : Nat) (A : Option Addr) (xs : List Int) : Prop := Row w hi A (ints xs)
theorem LowRow.below {w w' : World} {hi B : Nat} {A : Option Addr} {xs : List Int} (h : LowRow w hi A xs) (hb : Below B w w') (hB : hi ≤ B) : LowRow w' hi A xs := Row.below h hb hB
theorem LowRow.within {w w' : World} {hi lo' hi' : Nat} {A : Option Addr} {xs : List Int} (h : LowRow w hi A xs) (hb : Within lo' hi' w w') (hs : hi ≤ w.heap.size) (hd : hi ≤ lo') : LowRow w' hi A xs :=
  Row.keep h fun b o hbb => World.cell?_of_block (hb.block b (by omega) (by omega))
theorem LowRow.row {w : World} {hi : Nat} {A : Option Addr} {xs : List Int} (h : LowRow w hi A xs) : Row w hi A (ints xs) := h
theorem LowRow.drewN {w : World} {hi : Nat} {A : Option Addr} {xs : List Int} (h : LowRow w hi A xs) (k : Nat) : LowRow (w.drewN k) hi A xs := h
/-- a list beside a code, known by its cells -/
def ResLow (r : List Int × Int) (w : World) (e : Ending) (w' : World) : Prop :=
  r.1.length ≤ 1048576 ∧ ∃ A c, e = .returned (.tuple #[.slice A r.1.length c, .int .i64 r.2]) ∧ LowRow w' w'.heap.size A r.1 ∧ Below w.heap.size w w'
theorem ResLow.nil {r : List Int × Int} {w w' : World} {k : Int} (h : r = ([], k)) (hb : Below w.heap.size w w') : ResLow r w (.returned (.tuple #[.slice none 0 0, .int .i64 k])) w' := by
  subst h
  exact ⟨Nat.zero_le _, none, 0, rfl, Row.nil _ _ _, hb⟩
theorem ResLow.of {r : List Int × Int} {w w' : World} {A : Option Addr} {n c : Nat} {xs : List Int} {k : Int} (h : r = (xs, k)) (hl : xs.length = n) (hn : n ≤ 1048576)
    (ho : Row w' w'.heap.size A (ints xs)) (hb : Below w.heap.size w w') : ResLow r w (.returned (.tuple #[.slice A n c, .int .i64 k])) w' := by
  subst h; subst hl
  exact ⟨hn, A, c, rfl, ho, hb⟩
end Go.Proofs.Ytpmfpgfgkeejnaa
/-
  The order of trees by lists and by texts.
-/
namespace Go.Proofs.Ytpmfpgfgkeejnaa
open Go.RowKit Fld
set_option linter.unusedVariables false
set_option linter.unusedSimpArgs false
set_option maxRecDepth 100000

theorem lessL_asym : ∀ x y : List Int, Tr.lessL x y = true → Tr.lessL y x = false
  | [], [], _ => rfl
  | [], _ :: _, _ => rfl
  | _ :: _, [], h => by simp [Tr.lessL] at h
  | a :: x, b :: y, h => by
    rw [Tr.lessL] at h ⊢
    by_cases e : a = b
    · subst e
      rw [if_pos rfl] at h ⊢
      exact lessL_asym x y h
    · rw [if_neg e] at h
      rw [if_neg (fun e' => e e'.symm)]
      simp at h ⊢; omega
theorem beforeL_asym {x y : List Int} (h : Tr.beforeL x y = true) : Tr.beforeL y x = false := by
  unfold Tr.beforeL at h ⊢
  by_cases e : x.length = y.length
  · rw [if_neg (by simpa using e)] at h
    rw [if_neg (by simpa using e.symm)]
    exact lessL_asym _ _ h
  · rw [if_pos e] at h
    rw [if_pos (fun e' => e e'.symm)]
    simp at h ⊢; omega
theorem tr_lv {t : List Int} (h : isTr t = true) : Tr.isLv t = true ∧ Tr.can t = t := by
  unfold isTr at h
  rw [Bool.and_eq_true] at h
  have h2 := h.2
  unfold eqL at h2
  exact ⟨h.1, by simpa using h2⟩
theorem cmp_tr {s t : List Int} (hs : isTr s = true) (ht : isTr t = true) : decide (0 < Tr.cmpT (Tr.txt s) (Tr.txt t)) = Tr.beforeL t s := by
  obtain ⟨s1, s2⟩ := tr_lv hs
  obtain ⟨t1, t2⟩ := tr_lv ht
  rw [Tr.cmp_eq s1 t1, s2, t2]
  unfold Tr.cmpL
  cases h1 : Tr.beforeL s t
  · cases h2 : Tr.beforeL t s <;> simp
  · rw [beforeL_asym h1]; simp
theorem cmpT_swap {a b : List UInt8} (h : ¬ Tr.cmpT a b < 0) : Tr.cmpT b a ≤ 0 := by
  unfold Tr.cmpT at *
  by_cases h1 : a.length / 2 < b.length / 2
  · rw [if_pos h1] at h; omega
  · rw [if_neg h1] at h
    by_cases h2 : b.length / 2 < a.length / 2
    · rw [if_pos h2]; omega
    · rw [if_neg h2] at h
      rw [if_neg h2, if_neg h1]
      by_cases h3 : Tr.ltS a b = true
      · rw [if_pos h3] at h; omega
      · rw [if_neg h3] at h
        by_cases h4 : Tr.ltS b a = true
        · rw [if_pos h4]; omega
        · rw [if_neg h4, if_neg h3]; omega
theorem leT_self (a : List UInt8) : Tr.leT a a = true := by
  unfold Tr.leT
  have : Tr.cmpT a a ≤ 0 := by
    by_cases h : Tr.cmpT a a < 0
    · omega
    · exact cmpT_swap h
  exact decide_eq_true this
theorem leT_txt {s t : List Int} (hs : isTr s = true) (ht : isTr t = true) : Tr.leT (Tr.txt s) (Tr.txt t) = !Tr.beforeL t s := by
  rw [← cmp_tr hs ht]
  unfold Tr.leT
  by_cases h : Tr.cmpT (Tr.txt s) (Tr.txt t) ≤ 0
  · rw [decide_eq_true h, decide_eq_false (by omega)]; rfl
  · rw [decide_eq_false h, decide_eq_true (by omega)]; rfl
theorem isTr_of {t : List Int} (h : Tr.isLv t = true) (hc : Tr.can t = t) : isTr t = true := by
  unfold isTr
  rw [h, hc, eqL_self]; rfl
end Go.Proofs.Ytpmfpgfgkeejnaa
/-
  The free form of a tree: the least one of its rerooted trees, the program's and the model's.
-/
namespace Go.Proofs.Ytpmfpgfgkeejnaa
open Go.RowKit Fld
set_option linter.unusedVariables false
set_option linter.unusedSimpArgs false
set_option maxRecDepth 100000

/-- what minTo hands back is one of them, and no later than each -/
theorem minTo_least (ss : List (List UInt8)) : ∀ k, 1 ≤ k → k ≤ ss.length → (∃ j, j < k ∧ ss[j]? = some (minTo ss k)) ∧ ∀ i s, i < k → ss[i]? = some s → Tr.leT (minTo ss k) s = true
  | 0, h, _ => by omega
  | 1, _, h => by
    rw [minTo_one]
    have e : ss[0]? = some (ss.getD 0 []) := by rw [List.getD_eq_getElem?_getD, List.getElem?_eq_getElem (by omega)]; rfl
    exact ⟨⟨0, by omega, e⟩, fun i s hi hs => by
      rw [show i = 0 by omega, e] at hs; injection hs with hs; rw [← hs]; exact leT_self _⟩
  | k+2, _, h => by
    obtain ⟨⟨j, hj, ej⟩, hm⟩ := minTo_least ss (k + 1) (by omega) (by omega)
    obtain ⟨s, hs⟩ := at_lt (show k + 1 < ss.length by omega)
    rw [minTo_step (by omega) hs]
    split
    · rename_i hc
      have h1 : Tr.leT s (minTo ss (k + 1)) = true := decide_eq_true (by omega)
      exact ⟨⟨k + 1, by omega, hs⟩, fun i s' hi hs' => by
        by_cases e : i = k + 1
        · rw [e, hs] at hs'; injection hs' with hs'; rw [← hs']; exact leT_self _
        · exact Tr.leT_tr h1 (hm i s' (by omega) hs')⟩
    · rename_i hc
      have h1 : Tr.leT (minTo ss (k + 1)) s = true := decide_eq_true (cmpT_swap hc)
      exact ⟨⟨j, by omega, ej⟩, fun i s' hi hs' => by
        by_cases e : i = k + 1
        · rw [e, hs] at hs'; injection hs' with hs'; rw [← hs']; exact h1
        · exact hm i s' (by omega) hs'⟩
/-- the free form -/
def freeL (t : List Int) : List Int := ((rootsL t).getD 0 ([], 0)).1
theorem free_parts {t : List Int} (h : Tr.isLv t = true) : (∃ x, (rootsL t)[0]? = some (freeL t, x)) ∧ Tr.txt (freeL t) = minT (rootsT (Tr.txt t)) ∧ Tr.isLv (freeL t) = true ∧ Tr.can (freeL t) = freeL t ∧ (freeL t).length = t.length := by
  obtain ⟨c1, c2⟩ := lv_can h
  obtain ⟨c3, c4⟩ := Tr.can_can h
  have hn := (lv_txt h).2.2.2
  have h1 := (lv_bd h).1
  have hlen : (rootsT (Tr.txt t)).length = t.length := by rw [rootsT_len, hn]; omega
  have hat : ∀ k, k < t.length → (rootsT (Tr.txt t))[k]? = some (Tr.txt (Tr.turnF 9 (Tr.can t) k)) := fun k hk => by
    rw [rootsT_at (by rw [hn]; omega)]
    have := (Tr.turn_at c1 c3 (k := k) (by omega)).1
    rw [c4] at this
    rw [this]
  have hu := fun k (hk : k < t.length) => (Tr.turn_at c1 c3 (k := k) (by omega)).2
  obtain ⟨⟨j, hj, ej⟩, hm⟩ := minTo_least (rootsT (Tr.txt t)) t.length (by omega) (by omega)
  rw [hat j hj] at ej
  injection ej with ej
  have hmem := (Tr.turns_perm h).mem_iff (a := Tr.turnF 9 (Tr.can t) j)
  obtain ⟨k0, hk0, e0⟩ : ∃ k0, k0 < t.length ∧ Tr.turnF 9 t k0 = Tr.turnF 9 (Tr.can t) j := by
    have := hmem.2 (by unfold Tr.turnsL; rw [List.mem_map]; exact ⟨j, by rw [List.mem_range]; omega, rfl⟩)
    unfold Tr.turnsL at this
    rw [List.mem_map] at this
    obtain ⟨k0, q1, q2⟩ := this
    exact ⟨k0, by rw [List.mem_range] at q1; exact q1, q2⟩
  obtain ⟨x, hx⟩ := Tr.sumTo_first (f := Tr.turnF 9 t) hk0 (fun i hi hne => by
    have := (Tr.turns_perm h).mem_iff.1 (show Tr.turnF 9 t i ∈ Tr.turnsL t by unfold Tr.turnsL; rw [List.mem_map]; exact ⟨i, by rw [List.mem_range]; exact hi, rfl⟩)
    unfold Tr.turnsL at this
    rw [List.mem_map] at this
    obtain ⟨m, q1, q2⟩ := this
    rw [List.mem_range] at q1
    rw [e0] at hne ⊢
    rw [← q2] at hne ⊢
    have h3 := hm m _ (by omega) (hat m (by omega))
    rw [← ej] at h3
    rw [leT_txt (isTr_of (hu j hj).1 (hu j hj).2.1) (isTr_of (hu m (by omega)).1 (hu m (by omega)).2.1)] at h3
    rcases Tr.bf_cn hne with b | b
    · rw [b] at h3; simp at h3
    · exact b)
  have hf : freeL t = Tr.turnF 9 (Tr.can t) j := by
    unfold freeL rootsL
    rw [List.getD_eq_getElem?_getD, hx]; exact e0
  refine ⟨⟨x, ?_⟩, ?_, ?_, ?_, ?_⟩
  · rw [hf, ← e0]; exact hx
  · rw [hf, ej]; unfold minT; rw [hlen]
  · rw [hf]; exact (hu j hj).1
  · rw [hf]; exact (hu j hj).2.1
  · rw [hf, (hu j hj).2.2, c2]
def freeA (t : List Int) : List Int × Int := if Tr.isLv t = true then (freeL t, 0) else ([], 1)
theorem freeA_no {t : List Int} (h : Tr.isLv t = false) : freeA t = ([], 1) := if_neg (by rw [h]; simp)
theorem freeA_yes {t : List Int} (h : Tr.isLv t = true) : freeA t = (freeL t, 0) := if_pos h
set_option maxHeartbeats 2000000 in
theorem pFreeForm_L (A : Option Addr) (n c B : Nat) (t : List Int) (w : World) (hl : t.length = n) (hn : n ≤ 1048576) (hB : B ≤ w.heap.size) (h : Row w B A (ints t)) (hc : n ≤ c) :
    Calls Try.prog 10 #[.slice A n c] w (ResL (freeA t) w) := by
  have C0 := isLevels_any A n c B t w hl (by omega) h
  cases h1 : Tr.isLv t
  · have G := Lib.hid (freeA_no h1)
    rw [h1] at C0
    clear hl h1
    go_enter Try.func10, Try.ntmps10
    go_wp2_with fail
    refine C0.mono ?_
    rintro e w1 ⟨rfl, d, rfl⟩
    go_wp2
    go_ret2
    exact ResL.nil G.out (below_drewN (Below.refl _ _) _)
  · rw [h1] at C0
    obtain ⟨a1, a8⟩ := lv_bd h1
    rw [hl] at a1 a8
    have G := Lib.hid (freeA_yes h1)
    obtain ⟨_, p1, p2, p3, p4⟩ := free_parts h1
    have C2 := fun w => freeForm_any (Tr.txt t) w (Tr.tx_txt h1)
    rw [← p1] at C2
    rw [hl] at p4
    obtain ⟨T, hT⟩ : ∃ T, T = freeL t := ⟨_, rfl⟩
    simp only [← hT] at C2
    rw [← hT] at G p2 p3 p4
    have HTL := Lib.hid p4
    have HLV := Lib.hid p2
    have HCT := Lib.hid p3
    have HL := Lib.hid hl
    clear hl h1 p1 p2 p3 p4 hT
    go_enter Try.func10, Try.ntmps10
    go_wp2_with fail
    refine C0.mono ?_
    rintro e w1 ⟨rfl, d, rfl⟩
    have B1 : Hid (Below w.heap.size w (w.drewN d)) := below_drewN (Below.refl _ _) d
    generalize w.drewN d = W1 at *
    go_wp2_with fail
    refine (treeOf_any A n c B t _ HL.out a1 a8 hc (Nat.le_trans hB B1.out.size) (Row.below h B1.out hB)).mono ?_
    rintro e w2 ⟨rfl, bel2⟩
    have B2 : Hid (Below w.heap.size w w2) := B1.out.trans (bel2.mono B1.out.size)
    clear bel2
    go_wp2_with fail
    refine (C2 _).mono ?_
    rintro e w3 ⟨rfl, bel3⟩
    have B3 : Hid (Below w.heap.size w w3) := B2.out.trans (bel3.mono B2.out.size)
    clear bel3 C2
    go_wp2_with fail
    refine (levelsOf_any T _ HLV.out).mono ?_
    rintro e w4 ⟨A4, c4, rfl, own4, bel4⟩
    rw [HTL.out] at own4 ⊢
    rw [HCT.out] at own4
    have B4 : Hid (Below w.heap.size w w4) := B3.out.trans (bel4.mono B3.out.size)
    have GO : Hid (w4.ownsRow w.heap.size 2 1 (.slice A4 n c4) n (ints T)) := ((OwnR.of own4).more B3.out.size (Nat.le_refl _)).1
    clear own4 bel4
    go_wp2
    go_ret2
    exact ResL.of G.out HTL.out (by omega) GO.out B4.out
end Go.Proofs.Ytpmfpgfgkeejnaa
/-
  A list of lists beside a code, as calls hand it back.
-/
namespace Go.Proofs.Ytpmfpgfgkeejnaa
open Go.RowKit Fld
set_option linter.unusedVariables false
set_option linter.unusedSimpArgs false
set_option maxRecDepth 100000

/-- a list of lists that the call owns, beside a code -/
def ResM (r : List (List Int) × Int) (w : World) (e : Ending) (w' : World) : Prop :=
  r.1.length + total r.1 ≤ 1048576 ∧ ∃ A c vs, e = .returned (.tuple #[.slice A r.1.length c, .int .i64 r.2]) ∧ OwnMat w' w.heap.size w'.heap.size (.slice A r.1.length c) r.1.length r.1 vs ∧ Below w.heap.size w w'
theorem OwnMat.nil' (w : World) (lo hi : Nat) : OwnMat w lo hi (.slice none 0 0) 0 [] [] :=
  ⟨⟨World.ownsRow_nil _ _ _ _, fun g e => by simp [Value.ownBlock] at e⟩, rfl, fun r row hr => by simp at hr, fun r s u t g _ hu => by simp at hu⟩
theorem ResM.nil {r : List (List Int) × Int} {w w' : World} {k : Int} (h : r = ([], k)) (hb : Below w.heap.size w w') : ResM r w (.returned (.tuple #[.slice none 0 0, .int .i64 k])) w' := by
  subst h
  exact ⟨by simp [total], none, 0, [], rfl, OwnMat.nil' _ _ _, hb⟩
theorem ResM.of {r : List (List Int) × Int} {w w' : World} {A : Option Addr} {n c : Nat} {m : List (List Int)} {vs : List Value} {k : Int} (h : r = (m, k)) (hn : m.length + total m ≤ 1048576)
    (ho : OwnMat w' w.heap.size w'.heap.size (.slice A n c) n m vs) (hb : Below w.heap.size w w') : ResM r w (.returned (.tuple #[.slice A n c, .int .i64 k])) w' := by
  subst h
  have e := ho.size
  subst e
  exact ⟨hn, A, c, vs, rfl, ho, hb⟩
/-- lists in memory below a bound: the model's -/
def LowMat (w : World) (hi : Nat) (A : Option Addr) (m : List (List Int)) : Prop := Mat w hi A m
theorem LowMat.below {w w' : World} {hi B : Nat} {A : Option Addr} {m : List (List Int)} (h : LowMat w hi A m) (hb : Below B w w') (hB : hi ≤ B) : LowMat w' hi A m := Mat.below h hb hB
theorem LowMat.within {w w' : World} {hi lo' hi' : Nat} {A : Option Addr} {m : List (List Int)} (h : LowMat w hi A m) (hb : Within lo' hi' w w') (hs : hi ≤ w.heap.size) (hd : hi ≤ lo') : LowMat w' hi A m :=
  Mat.keep h fun b o hbb => World.cell?_of_block (hb.block b (by omega) (by omega))
theorem LowMat.mat {w : World} {hi : Nat} {A : Option Addr} {m : List (List Int)} (h : LowMat w hi A m) : Mat w hi A m := h
theorem LowMat.drewN {w : World} {hi : Nat} {A : Option Addr} {m : List (List Int)} (h : LowMat w hi A m) (k : Nat) : LowMat (w.drewN k) hi A m := h
def ResMl (r : List (List Int) × Int) (w : World) (e : Ending) (w' : World) : Prop :=
  r.1.length + total r.1 ≤ 1048576 ∧ ∃ A c, e = .returned (.tuple #[.slice A r.1.length c, .int .i64 r.2]) ∧ LowMat w' w'.heap.size A r.1 ∧ Below w.heap.size w w'
theorem ResMl.nil {r : List (List Int) × Int} {w w' : World} {k : Int} (h : r = ([], k)) (hb : Below w.heap.size w w') : ResMl r w (.returned (.tuple #[.slice none 0 0, .int .i64 k])) w' := by
  subst h
  exact ⟨by simp [total], none, 0, rfl, fun k r hr => by simp at hr, hb⟩
theorem ResMl.of {r : List (List Int) × Int} {w w' : World} {A : Option Addr} {n c : Nat} {m : List (List Int)} {k : Int} (h : r = (m, k)) (hl : m.length = n) (hn : m.length + total m ≤ 1048576)
    (ho : Mat w' w'.heap.size A m) (hb : Below w.heap.size w w') : ResMl r w (.returned (.tuple #[.slice A n c, .int .i64 k])) w' := by
  subst h hl
  exact ⟨hn, A, c, rfl, ho, hb⟩
end Go.Proofs.Ytpmfpgfgkeejnaa
/-
  Trees that are their own free forms, picked out by the library's DeleteFunc.
-/
namespace Go.Proofs.Ytpmfpgfgkeejnaa
open Go.RowKit Fld
set_option linter.unusedVariables false
set_option linter.unusedSimpArgs false
set_option maxRecDepth 100000

theorem str_eqbf (a b : List UInt8) : ((⟨a.toArray⟩ : ByteArray).toList == (⟨b.toArray⟩ : ByteArray).toList) = decide (a = b) := by
  rw [ByteArray.toList_eq, ByteArray.toList_eq]
  by_cases h : a = b
  · subst h; simp
  · rw [decide_eq_false h]; exact beq_eq_false_iff_ne.2 h
def keepT (t : List Int) : Bool := decide (minT (rootsT (Tr.txt t)) = Tr.txt t)
set_option maxHeartbeats 1000000 in
theorem isOther_any (A : Option Addr) (n c B : Nat) (t : List Int) (w : World) (hl : t.length = n) (ht : Tr.isLv t = true) (hc : n ≤ c) (hB : B ≤ w.heap.size) (h : Row w B A (ints t)) :
    Calls Try.prog 14 #[.slice A n c] w fun e w' => e = .returned (.bool (!keepT t)) ∧ Below w.heap.size w w' := by
  obtain ⟨a1, a8⟩ := lv_bd ht
  rw [hl] at a1 a8
  have CF := fun w => freeForm_any (Tr.txt t) w (Tr.tx_txt ht)
  have e1 := str_eqbf (minT (rootsT (Tr.txt t))) (Tr.txt t)
  have HT := Lib.hid ht
  have HL := Lib.hid hl
  have CT := fun w' (bel : Below w.heap.size w w') => treeOf_any A n c B t w' HL.out a1 a8 hc (Nat.le_trans hB bel.size) (Row.below h bel hB)
  obtain ⟨X, hX⟩ : ∃ X : ByteArray, X = ⟨(Tr.txt t).toArray⟩ := ⟨_, rfl⟩
  obtain ⟨Z, hZ⟩ : ∃ Z : ByteArray, Z = ⟨(minT (rootsT (Tr.txt t))).toArray⟩ := ⟨_, rfl⟩
  simp only [← hX, ← hZ] at CF
  simp only [← hX] at CT
  rw [← hX, ← hZ] at e1
  have e2 : (Z.toList == X.toList) = keepT t := e1
  have e3 : (Z.toList != X.toList) = !keepT t := by unfold bne; rw [e2]
  have HE := Lib.hid e2
  have HE3 := Lib.hid e3
  clear hl ht hX hZ e1 e2 e3
  go_enter Try.func14, Try.ntmps14
  go_wp2_with fail
  refine (CT _ (Below.refl _ _)).mono ?_
  rintro e w1 ⟨rfl, bel1⟩
  have HB1 := Lib.hid bel1
  clear bel1
  go_wp2_with fail
  refine (CF _).mono ?_
  rintro e w2 ⟨rfl, bel2⟩
  have HB2 := Lib.hid (HB1.out.trans (bel2.mono HB1.out.size))
  clear bel2
  go_wp2_with fail
  refine (CT _ HB2.out).mono ?_
  rintro e w3 ⟨rfl, bel3⟩
  have HB3 := Lib.hid (HB2.out.trans (bel3.mono HB2.out.size))
  clear bel3 CT CF
  go_wp2
  go_ret
  exact ⟨by first | rw [HE3.out] | rw [← HE3.out]; rfl | (rw [← HE.out]), HB3.out⟩
/-! the places of those that are kept -/
def idxTo (p : List Int → Bool) (m : List (List Int)) (j : Nat) : List Nat := (List.range j).filter fun k => p (m.getD k [])
theorem idxTo_step {p : List Int → Bool} {m : List (List Int)} {j : Nat} {t : List Int} (h : m[j]? = some t) : idxTo p m (j + 1) = idxTo p m j ++ if p t = true then [j] else [] := by
  unfold idxTo
  rw [List.range_succ, List.filter_append]
  congr 1
  have e : m.getD j [] = t := by rw [List.getD_eq_getElem?_getD, h]; rfl
  cases hp : p t <;> simp [List.filter, hp, h]
theorem idxTo_all {p : List Int → Bool} (m : List (List Int)) : (idxTo p m m.length).map (fun k => m.getD k []) = m.filter p := by
  unfold idxTo
  have e : (List.range m.length).map (fun k => m.getD k []) = m := by
    apply List.ext_getElem?
    intro k
    rw [List.getElem?_map]
    rcases Nat.lt_or_ge k m.length with g | g
    · rw [List.getElem?_range g, List.getElem?_eq_getElem g, Option.map_some, List.getD_eq_getElem?_getD, List.getElem?_eq_getElem g]; rfl
    · rw [List.getElem?_eq_none (by simp; omega), List.getElem?_eq_none g]; rfl
  have h2 := List.filter_map (f := fun k => m.getD k []) (p := p) (l := List.range m.length)
  rw [e] at h2
  rw [h2]; rfl
theorem idxTo_first {p : List Int → Bool} {m : List (List Int)} {k : Nat} (hk : k ≤ m.length) (h : ∀ j t, j < k → m[j]? = some t → p t = true) : idxTo p m k = List.range k := by
  unfold idxTo
  rw [List.filter_eq_self]
  intro j hj
  rw [List.mem_range] at hj
  have e := List.getElem?_eq_getElem (show j < m.length by omega)
  rw [List.getD_eq_getElem?_getD, e]
  exact h j _ hj e
theorem idxTo_nodup (p : List Int → Bool) (m : List (List Int)) (j : Nat) : (idxTo p m j).Nodup := List.Pairwise.filter _ List.nodup_range
theorem idxTo_lt {p : List Int → Bool} {m : List (List Int)} {j k : Nat} (h : k ∈ idxTo p m j) : k < j := by
  unfold idxTo at h
  rw [List.mem_filter, List.mem_range] at h; exact h.1
theorem idxTo_le (p : List Int → Bool) (m : List (List Int)) (j : Nat) : (idxTo p m j).length ≤ j := by
  have := List.length_filter_le (fun k => p (m.getD k [])) (List.range j)
  rw [List.length_range] at this; exact this
def nilV : Value := .slice none 0 0
def selV (p : List Int → Bool) (m : List (List Int)) (vs : List Value) (j : Nat) : List Value := (idxTo p m j).map fun k => vs.getD k nilV
theorem OwnMat.select {w w' : World} {lo hi n c g i : Nat} {m : List (List Int)} {vs : List Value} {idx : List Nat} (h : OwnMat w lo hi (.slice (some ⟨g, 0, none⟩) n c) n m vs) (hg : w.grownBy w' (some g)) (hs : hi ≤ w.heap.size) (hn : idx.Nodup) (hb : ∀ k ∈ idx, k < m.length)
    (ho : w'.ownsRow lo 31 1 (.slice (some ⟨g, 0, none⟩) i c) i (idx.map fun k => vs.getD k nilV)) : OwnMat w' lo w'.heap.size (.slice (some ⟨g, 0, none⟩) i c) i (idx.map fun k => m.getD k []) (idx.map fun k => vs.getD k nilV) := by
  have hsz := hg.size
  refine ⟨OwnR.of ho, by simp, fun r row hr => ?_, fun r s u t g' hrs hu ht hbu => ?_⟩
  · rw [List.getElem?_map, Option.map_eq_some_iff] at hr
    obtain ⟨k, hk, rfl⟩ := hr
    have hkm := hb k (List.mem_of_getElem? hk)
    have e : m[k]? = some (m.getD k []) := by rw [List.getD_eq_getElem?_getD, List.getElem?_eq_getElem hkm]; rfl
    obtain ⟨A, c', e1, o1⟩ := h.inner k _ e
    refine ⟨A, c', ?_, (o1.grown hg (own_types o1.1 h.outer.1 (by decide))).more (Nat.le_refl _) (by omega)⟩
    rw [List.getElem?_map, hk, Option.map_some, List.getD_eq_getElem?_getD (l := vs), e1]; rfl
  · rw [List.getElem?_map, Option.map_eq_some_iff] at hu ht
    obtain ⟨k, hk, rfl⟩ := hu
    obtain ⟨l, hl, rfl⟩ := ht
    have hkl : k ≠ l := fun e => by
      subst e
      exact hrs ((List.getElem?_inj (by
        rcases Nat.lt_or_ge r idx.length with y | y
        · exact y
        · rw [List.getElem?_eq_none y] at hk; cases hk) hn).1 (hk.trans hl.symm))
    have hk' := hb k (List.mem_of_getElem? hk)
    have hl' := hb l (List.mem_of_getElem? hl)
    have e1 : vs[k]? = some (vs.getD k nilV) := by rw [List.getD_eq_getElem?_getD, List.getElem?_eq_getElem (by rw [h.len]; exact hk')]; rfl
    have e2 : vs[l]? = some (vs.getD l nilV) := by rw [List.getD_eq_getElem?_getD, List.getElem?_eq_getElem (by rw [h.len]; exact hl')]; rfl
    exact h.apart k l _ _ g' hkl e1 e2 hbu
theorem only_put' {w a : World} {g k : Nat} {v : Value} (h : w.grownBy a (some g)) : w.grownBy (a.setCell ⟨g, k, none⟩ v) (some g) :=
  ⟨h.os, h.tape, h.output, by simpa [World.setCell] using h.size, fun i hi hne => (Below.heap_setCell a ⟨g, k, none⟩ v i (fun e => hne (by rw [e]))).trans (h.block i hi hne)⟩
theorem only_sets {w : World} {g : Nat} : ∀ (vs : List Value) (o : Nat) (a : World), w.grownBy a (some g) → w.grownBy (a.setCells g o vs) (some g)
  | [], _, _, h => h
  | v :: r, o, a, h => only_sets r (o + 1) _ (only_put' h)
set_option maxHeartbeats 1000000 in
theorem indexF_any (A : Option Addr) (n c B : Nat) (m : List (List Int)) (w : World) (hl : m.length = n) (hn : n ≤ 1048576) (hm : ∀ t ∈ m, Tr.isLv t = true) (hB : B ≤ w.heap.size) (h : Mat w B A m) :
    Calls Try.prog 35 #[.slice A n c, (.func (.func 14) #[] #[])] w fun e w' => (∃ i : Int, e = .returned (.int .i64 i) ∧ ((i = -1 ∧ ∀ j t, j < n → m[j]? = some t → keepT t = true) ∨ ∃ k : Nat, i = k ∧ k < n ∧ (∀ j t, j < k → m[j]? = some t → keepT t = true) ∧ ∀ t, m[k]? = some t → keepT t = false)) ∧ Below w.heap.size w w' := by
  have HL := Lib.hid hl
  have HM := Lib.hid hm
  clear hl hm
  go_enter Try.func35, Try.ntmps35
  go_wp2_with fail
  go_loopw [8] (fun i wr => ∃ k : Nat, k ≤ n ∧ i = .int .i64 k ∧ Hid (∀ j t, j < k → m[j]? = some t → keepT t = true) ∧ Below w.heap.size w wr) (fun i _ => n - (intOf i).toNat)
  case atStart => exact ⟨0, Nat.zero_le _, rfl, fun j t hj => by omega, Below.refl _ _⟩
  case round =>
    obtain ⟨k, hk, rfl, HA, HBW⟩ := hrel
    have hsz := HBW.size
    by_cases hlt : k < n
    · obtain ⟨t, ht⟩ := at_lt (show k < m.length by rw [HL.out]; exact hlt)
      obtain ⟨bb, oo, Ak, ck, rfl, _, hck, hlc, _, hrow⟩ := (Mat.below h HBW hB) k _ ht
      have C1 := isOther_any Ak t.length ck B t wr rfl (HM.out t (List.mem_of_getElem? ht)) hlc (by omega) hrow
      have HBW' := Lib.hid HBW
      cases hs : keepT t
      · have G : Hid (∀ t, m[k]? = some t → keepT t = false) := fun t' ht' => by rw [ht] at ht'; injection ht' with ht'; rw [← ht']; exact hs
        rw [hs] at C1
        clear ht hs HBW hrow
        go_wp2_with fail
        refine C1.mono ?_
        rintro e w2 ⟨rfl, bel2⟩
        have GB := Lib.hid (HBW'.out.trans (bel2.mono hsz))
        clear bel2 C1 hck
        go_wp2
        go_ret
        exact ⟨⟨(k : Int), rfl, .inr ⟨k, rfl, hlt, HA.out, G.out⟩⟩, GB.out⟩
      · have G : Hid (∀ j t, j < k + 1 → m[j]? = some t → keepT t = true) := fun j t' hj ht' => by
          by_cases e : j = k
          · rw [e, ht] at ht'; injection ht' with ht'; rw [← ht']; exact hs
          · exact HA.out j t' (by omega) ht'
        rw [hs] at C1
        clear ht HA hs HBW hrow
        go_wp2_with fail
        refine C1.mono ?_
        rintro e w2 ⟨rfl, bel2⟩
        have GB := Lib.hid (HBW'.out.trans (bel2.mono hsz))
        clear bel2 C1 hck
        go_wp2
        go_roundw
        case rel => exact ⟨k + 1, by omega, by go_num, G, GB.out⟩
        case measure => simp [intOf]; omega
    · have hkn : k = n := by omega
      have G : Hid (∀ j t, j < n → m[j]? = some t → keepT t = true) := by rw [← hkn]; exact HA
      have GB := Lib.hid HBW
      clear HA HBW hkn
      go_wp2
      go_ret
      exact ⟨⟨-1, rfl, .inl ⟨rfl, G.out⟩⟩, GB.out⟩
/-- what DeleteFunc hands back -/
def Deleted (lo g c : Nat) (m : List (List Int)) (w : World) (e : Ending) (w' : World) : Prop := ∃ q vs, e = .returned (.slice (some ⟨g, 0, none⟩) q c) ∧ (m.filter keepT).length = q ∧ OwnMat w' lo w'.heap.size (.slice (some ⟨g, 0, none⟩) q c) q (m.filter keepT) vs ∧ Below lo w w'
set_option maxHeartbeats 2000000 in
theorem deleteF_any (lo g n c : Nat) (m : List (List Int)) (vs : List Value) (w : World) (hm : ∀ t ∈ m, Tr.isLv t = true) (h1 : 1 ≤ n) (hn : n ≤ 1000) (hlo : lo ≤ w.heap.size) (h : OwnMat w lo w.heap.size (.slice (some ⟨g, 0, none⟩) n c) n m vs) :
    Calls Try.prog 17 #[.slice (some ⟨g, 0, none⟩) n c, (.func (.func 14) #[] #[])] w (Deleted lo g c m w) := by
  have hl := h.size
  obtain ⟨hnc, hcm⟩ := own_cap h.outer.1
  have hgl : lo ≤ g := (h.outer.1.lt g rfl).1
  have HGL := Lib.hid hgl
  have C0 := indexF_any (some ⟨g, 0, none⟩) n c w.heap.size m w hl (by omega) hm (Nat.le_refl _) h.mat
  have HL := Lib.hid hl
  have HM := Lib.hid hm
  have HO := Lib.hid h
  clear hl hm h hgl
  go_enter Try.func17, Try.ntmps17
  go_wp2_with fail
  refine C0.mono ?_
  rintro e w1 ⟨⟨i, rfl, hi⟩, bel1⟩
  have hs1 : w.heap.size ≤ w1.heap.size := bel1.size
  have HB1 := Lib.hid bel1
  have HO1 := Lib.hid ((HO.out.below bel1 (Nat.le_refl _)).more (Nat.le_refl _) hs1)
  clear C0 bel1
  rcases hi with ⟨rfl, hall⟩ | ⟨k, rfl, hkn, hfirst, hno⟩
  · have e : m.filter keepT = m := List.filter_eq_self.2 fun t ht => by
      obtain ⟨j, hj⟩ := List.mem_iff_getElem?.1 ht
      have hjl : j < m.length := by
        rcases Nat.lt_or_ge j m.length with y | y
        · exact y
        · rw [List.getElem?_eq_none y] at hj; cases hj
      exact hall j t (by rw [← HL.out]; exact hjl) hj
    have G : Hid (Deleted lo g c m w (.returned (.slice (some ⟨g, 0, none⟩) n c)) w1) := by
      refine ⟨n, vs, rfl, ?_, ?_, HB1.out.mono hlo⟩
      · rw [e]; exact HL.out
      · rw [e]; exact HO1.out
    clear hall e
    go_wp2
    go_ret
    exact G.out
  · have HI : Hid (idxTo keepT m (k + 1) = List.range k) := by
      obtain ⟨t, ht⟩ := at_lt (show k < m.length by rw [HL.out]; exact hkn)
      rw [Hid, idxTo_step ht, if_neg (by rw [hno t ht]; simp), List.append_nil]
      exact idxTo_first (by rw [HL.out]; omega) hfirst
    have HVL : Hid (vs.length = n) := by rw [Hid, HO.out.len, HL.out]
    clear hfirst hno
    have hk1 : (k : Int) ≠ -1 := by omega
    have tk1 := beq_f hk1
    go_wp2_with fail
    go_loopw [5, 6] (fun a j' wr => ∃ (i j : Nat) (C : List Value), a = .int .i64 i ∧ j' = .int .i64 j ∧ i < j ∧ j ≤ n ∧ Hid (i = (idxTo keepT m j).length) ∧ Hid (wr.ownsRow lo 31 1 (.slice (some ⟨g, 0, none⟩) n c) n C) ∧ Hid (C.take i = selV keepT m vs j) ∧ Hid (C.drop j = vs.drop j) ∧ Hid (w1.grownBy wr (some g))) (fun _ j' _ => n - (intOf j').toNat)
    case atStart =>
      refine ⟨k, k + 1, vs, rfl, by go_num, by omega, by omega, ?_, HO1.out.outer.1, ?_, rfl, World.grownBy.refl _ _⟩
      · rw [Hid, HI.out, List.length_range]
      · unfold selV
        rw [Hid, HI.out]
        apply List.ext_getElem?
        intro q
        rw [List.getElem?_take, List.getElem?_map]
        by_cases hq : q < k
        · rw [if_pos hq, List.getElem?_range hq, Option.map_some, List.getD_eq_getElem?_getD, List.getElem?_eq_getElem (by rw [HVL.out]; omega)]; rfl
        · rw [if_neg hq, List.getElem?_eq_none (by rw [List.length_range]; omega)]; rfl
    case round =>
      obtain ⟨i, j, C, rfl, rfl, hij, hj, HIL, HOW, HCT, HCD, HG⟩ := hrel
      have hsz := HG.out.size
      by_cases hlt : j < n
      · obtain ⟨t, ht⟩ := at_lt (show j < m.length by rw [HL.out]; exact hlt)
        obtain ⟨Aj, cj, ej, oj⟩ := HO1.out.inner j t ht
        have oj2 := oj.grown HG.out (own_types oj.1 HO1.out.outer.1 (by decide))
        obtain ⟨hcj, hcjm⟩ := own_cap oj.1
        have HCJ : Hid (C[j]? = some (.slice Aj t.length cj)) := by
          have e : (C.drop j)[0]? = (vs.drop j)[0]? := by rw [HCD.out]
          rw [List.getElem?_drop, List.getElem?_drop, Nat.add_zero, ej] at e
          exact e
        have hcell := HOW.out.cellAt j (by omega)
        rw [HCJ.out] at hcell
        have C1 := isOther_any Aj t.length cj w1.heap.size t wr rfl (HM.out t (List.mem_of_getElem? ht)) hcj hsz oj2.row
        have HST := Lib.hid (idxTo_step (p := keepT) ht)
        have HEJ := Lib.hid ej
        cases hs : keepT t
        · have HIX : Hid (idxTo keepT m (j + 1) = idxTo keepT m j) := by rw [Hid, HST.out, hs]; simp
          rw [hs] at C1
          clear ht hs oj oj2 ej
          go_wp2_with fail
          refine C1.mono ?_
          rintro e w2 ⟨rfl, bel2⟩
          have HG2 : Hid (w1.grownBy w2 (some g)) := ⟨bel2.os.trans HG.out.os, bel2.tape.trans HG.out.tape, bel2.output.trans HG.out.output, Nat.le_trans HG.out.size bel2.size, fun q hq hne => (bel2.block q (by omega)).trans (HG.out.block q hq hne)⟩
          have HOW2 : Hid (w2.ownsRow lo 31 1 (.slice (some ⟨g, 0, none⟩) n c) n C) := ((OwnR.of HOW.out).below bel2 (Nat.le_refl _)).1
          have HCD2 : Hid (C.drop (j + 1) = vs.drop (j + 1)) := by
            have e := congrArg (List.drop 1) HCD.out
            rw [List.drop_drop, List.drop_drop] at e; exact e
          have HIL2 : Hid (i = (idxTo keepT m (j + 1)).length) := by rw [Hid, HIX.out]; exact HIL.out
          have HCT2 : Hid (C.take i = selV keepT m vs (j + 1)) := by unfold selV; rw [Hid, HIX.out]; exact HCT.out
          clear bel2 C1 hcell
          go_wp2
          go_roundw
          case rel => exact ⟨i, j + 1, C, rfl, by go_num, by omega, by omega, HIL2, HOW2, HCT2, HCD2, HG2⟩
          case measure => simp [intOf]; omega
        · have HIX : Hid (idxTo keepT m (j + 1) = idxTo keepT m j ++ [j]) := by rw [Hid, HST.out, hs]; simp
          rw [hs] at C1
          clear ht hs oj oj2 ej
          go_wp2_with fail
          refine C1.mono ?_
          rintro e w2 ⟨rfl, bel2⟩
          have hs2 : wr.heap.size ≤ w2.heap.size := bel2.size
          have HG2 : Hid (w1.grownBy w2 (some g)) := ⟨bel2.os.trans HG.out.os, bel2.tape.trans HG.out.tape, bel2.output.trans HG.out.output, Nat.le_trans HG.out.size bel2.size, fun q hq hne => (bel2.block q (by omega)).trans (HG.out.block q hq hne)⟩
          have HOW2 : Hid (w2.ownsRow lo 31 1 (.slice (some ⟨g, 0, none⟩) n c) n C) := ((OwnR.of HOW.out).below bel2 (Nat.le_refl _)).1
          have hCL : C.length = n := own_len HOW2.out
          have ho := HOW2.out.cellAt i (by omega)
          have hf := HOW2.out.frozenAt i
          obtain ⟨u, hu⟩ := at_lt (show i < C.length by omega)
          rw [hu] at ho
          have HCD2 : Hid ((C.set i (.slice Aj t.length cj)).drop (j + 1) = vs.drop (j + 1)) := by
            have e := congrArg (List.drop 1) HCD.out
            rw [List.drop_drop, List.drop_drop] at e
            rw [Hid, List.drop_set_of_lt (by omega)]; exact e
          have HIL2 : Hid (i + 1 = (idxTo keepT m (j + 1)).length) := by rw [Hid, HIX.out, List.length_append, ← HIL.out]; rfl
          have HCT2 : Hid ((C.set i (.slice Aj t.length cj)).take (i + 1) = selV keepT m vs (j + 1)) := by
            have e : (C.set i (.slice Aj t.length cj)).take (i + 1) = C.take i ++ [.slice Aj t.length cj] := by
              rw [List.take_add_one, List.getElem?_set_self (by omega), Option.toList_some, List.take_set_of_le (Nat.le_refl _)]
            unfold selV
            rw [Hid, HIX.out, List.map_append, e, HCT.out, List.map_singleton, List.getD_eq_getElem?_getD, HEJ.out]; rfl
          have HOW3 : Hid ((w2.setCell ⟨g, i, none⟩ (.slice Aj t.length cj)).ownsRow lo 31 1 (.slice (some ⟨g, 0, none⟩) n c) n (C.set i (.slice Aj t.length cj))) := (HOW2.out.stored i _).1
          have HG3 : Hid (w1.grownBy (w2.setCell ⟨g, i, none⟩ (.slice Aj t.length cj)) (some g)) := only_put' HG2.out
          clear bel2 C1 hcell hu hCL
          go_wp2
          go_roundw
          case rel => exact ⟨i + 1, j + 1, _, by go_num, by go_num, by omega, by omega, HIL2, HOW3, HCT2, HCD2, HG3⟩
          case measure => simp [intOf]; omega
      · have hjn : j = n := by omega
        have hin : i < n := by omega
        have hCL : C.length = n := own_len HOW.out
        have hcell1 : ∀ q, q < n → (wr.cell? ⟨g, q, none⟩).isSome = true ∧ wr.frozen? ⟨g, q, none⟩ = false := fun q hq => by
          have h9 := HOW.out.cellAt q (by omega)
          rw [List.getElem?_eq_getElem (by omega)] at h9
          exact ⟨by rw [h9]; rfl, HOW.out.frozenAt q⟩
        have hcl : ∀ ty, (Builtin.clear_ #[25] ty #[.slice (some ⟨g, i, none⟩) (n - i) (c - i)]).run Try.prog wr = .ok (.tuple #[]) (wr.setCells g i (List.replicate (n - i) (.slice none 0 0))) := fun ty =>
          Lib.run_clear_slice wr _ _ ty (.slice none 0 0) Try.underlying25 (fun w => by rfl) rfl rfl g i _ _ (by omega) (fun q hq => (hcell1 (i + q) (by omega)).1) (fun q hq => (hcell1 (i + q) (by omega)).2)
        have G : Hid (Deleted lo g c m w (.returned (.slice (some ⟨g, 0, none⟩) i c)) (wr.setCells g i (List.replicate (n - i) (.slice none 0 0)))) := by
          have h7 := own_prefix (own_sets (List.replicate (n - i) (.slice none 0 0)) i wr C HOW.out) (show i ≤ n by omega)
          have e7 : (putL C i (List.replicate (n - i) (.slice none 0 0))).take i = selV keepT m vs n := by
            rw [putL_eq _ _ _ (by rw [List.length_replicate, hCL]; omega), List.append_assoc, List.take_append_of_le_length (by rw [List.length_take]; omega), List.take_take, Nat.min_self, HCT.out, hjn]
          rw [e7] at h7
          have hgr : w1.grownBy (wr.setCells g i (List.replicate (n - i) (.slice none 0 0))) (some g) := only_sets _ _ _ HG.out
          have h8 := HO1.out.select (i := i) hgr (Nat.le_refl _) (idxTo_nodup keepT m n) (fun q hq => by rw [HL.out]; exact idxTo_lt hq) h7
          have e8 : (idxTo keepT m n).map (fun k => m.getD k []) = m.filter keepT := by rw [← HL.out]; exact idxTo_all m
          rw [e8] at h8
          refine ⟨i, _, rfl, ?_, h8, ?_⟩
          · rw [← e8, List.length_map, HIL.out, hjn]
          · exact (HB1.out.mono hlo).grown hgr (by omega) (fun q hq => by injection hq with hq; rw [← hq]; exact HGL.out)
        have hne : ¬ c = i := by omega
        have s0 : (0 : Int) ≤ (i : Int) := Int.natCast_nonneg _
        have s1 : (i : Int) ≤ (n : Int) := by omega
        have s2 : (i : Int) ≤ (c : Int) := by omega
        clear hcell1 HCT HCD
        go_wp2
        go_ret
        exact G.out
end Go.Proofs.Ytpmfpgfgkeejnaa
/-
  The next lower list of a tree, in place.
-/
namespace Go.Proofs.Ytpmfpgfgkeejnaa
open Go.RowKit Fld
set_option linter.unusedVariables false
set_option linter.unusedSimpArgs false
set_option maxRecDepth 100000

theorem last_le (t : List Int) : ∀ k, Tr.lastF t k ≤ k
  | 0 => Nat.le_refl _
  | k+1 => by rw [Tr.lastF]; split; · have := last_le t k; omega
              · exact Nat.le_refl _
theorem par_le (t : List Int) (x : Int) : ∀ k, Tr.parF t x k ≤ k
  | 0 => Nat.le_refl _
  | k+1 => by rw [Tr.parF]; split; · have := par_le t x k; omega
              · exact Nat.le_refl _
/-- what lower leaves -/
def Lowered (base g n cap : Nat) (t : List Int) (w : World) (e : Ending) (w' : World) : Prop :=
  (Tr.lowerL t = none ∧ e = .returned (.bool false) ∧ w = w') ∨ (∃ u, Tr.lowerL t = some u ∧ e = .returned (.bool true) ∧ w'.ownsRow base 2 1 (.slice (some ⟨g, 0, none⟩) n cap) n (ints u) ∧ w.grownBy w' (some g))
theorem cpy_step {d f i : Nat} {t : List Int} {x : Int} (hx : t[i - d]? = some x) : Tr.cpyF d (f + 1) i t = Tr.cpyF d f (i + 1) (t.set i x) := by
  rw [Tr.cpyF, lv_at hx]
def Cpd (base g n cap : Nat) (w : World) (T : List Int) (wr : World) : Prop := wr.ownsRow base 2 1 (.slice (some ⟨g, 0, none⟩) n cap) n (ints T) ∧ w.grownBy wr (some g)
theorem Cpd.step {base g n cap i : Nat} {w wr : World} {T : List Int} {x : Int} (h : Cpd base g n cap w T wr) : Cpd base g n cap w (T.set i x) (wr.setCell ⟨g, i, none⟩ (.int .i64 x)) := by
  obtain ⟨h1, h2⟩ := h.1.stored i (.int .i64 x)
  have e : (ints T).set i (.int .i64 x) = ints (T.set i x) := by unfold ints intsK; rw [List.map_set]
  rw [e] at h1
  exact ⟨h1, grownBy_trans h.2 h2⟩
theorem Cpd.start {base g n cap : Nat} {w : World} {t : List Int} (h : w.ownsRow base 2 1 (.slice (some ⟨g, 0, none⟩) n cap) n (ints t)) (M : Nat) : Cpd base g n cap (w.drewN M) t (w.drewN M) := ⟨h, World.grownBy.refl _ _⟩
set_option maxHeartbeats 1000000 in
theorem lower_any (base g n cap : Nat) (t : List Int) (w : World) (hl : t.length = n) (hlv : Tr.isLv t = true) (h : w.ownsRow base 2 1 (.slice (some ⟨g, 0, none⟩) n cap) n (ints t)) :
    Calls Try.prog 45 #[.slice (some ⟨g, 0, none⟩) n cap] w fun e w' => ∃ m, Lowered base g n cap t (w.drewN m) e w' := by
  have h3 := Tr.isLv_iff.1 hlv
  have n1 : 1 ≤ n := by have := h3.1; omega
  have n8 : n ≤ 8 := by have := h3.2.1; omega
  have HST : Hid (StepsTo t n) := by rw [Hid, ← hl]; exact h3.2.2.2
  have HZ : Hid (t.getD 0 0 = 0) := h3.2.2.1
  have HL := Lib.hid hl
  have HO := Lib.hid h
  have HLAST : Hid (Tr.lastF t (t.length - 1) = Tr.lastF t (n - 1)) := by rw [Hid, hl]
  clear hl hlv h3 h
  go_enter Try.func45, Try.ntmps45
  go_wp2_with fail
  go_loop [3] (fun l => ∃ k : Nat, k < n ∧ l = .int .i64 k ∧ Hid (Tr.lastF t (n - 1) = Tr.lastF t k)) (fun l => (intOf l).toNat)
  case atStart => exact ⟨n - 1, by omega, by go_num, rfl⟩
  case round =>
    obtain ⟨k, hk, rfl, HK⟩ := hrel
    obtain ⟨x, hx⟩ := at_lt (show k < t.length by rw [HL.out]; exact hk)
    have hcx := HO.out.cellAt k (by omega)
    rw [ints_at hx] at hcx
    have HX := Lib.hid hx
    rcases Nat.eq_zero_or_pos k with k0 | k0
    · subst k0
      have G : Hid (Tr.lowerL t = none) := by
        rw [Hid, Tr.lowerL]
        simp only [HLAST.out, HK.out]
        rfl
      clear hx HK
      go_wp2
      go_ret
      exact ⟨0, .inl ⟨G.out, rfl, rfl⟩⟩
    · obtain ⟨j, rfl⟩ : ∃ j, k = j + 1 := ⟨k - 1, by omega⟩
      by_cases hx1 : x = 1
      · have G : Hid (Tr.lastF t (n - 1) = Tr.lastF t j) := by
          rw [Hid, HK.out, Tr.lastF, lv_at hx, if_pos hx1]
        subst hx1
        clear hx HK
        go_wp2
        go_round
        case rel => exact ⟨j, by omega, by go_num, G⟩
        case measure => simp [intOf]
      · have tx := beq_f hx1
        have HLL : Hid (Tr.lastF t (n - 1) = j + 1) := by
          rw [Hid, HK.out, Tr.lastF, lv_at hx, if_neg hx1]
        have hxp : 1 ≤ x := by have := (HST.out (j + 1) hk (by omega)).1; rw [lv_at hx] at this; exact this
        clear hx HK
        have tz : ((j : Int) + 1 == 0) = false := beq_f (by omega)
        go_wp2_with fail
        go_loopw [4] (fun pp wr => ∃ p m : Nat, p ≤ j ∧ pp = .int .i64 p ∧ wr = w.drewN m ∧ Hid (Tr.parF t x j = Tr.parF t x p)) (fun pp _ => (intOf pp).toNat)
        case atStart => exact ⟨j, 0, Nat.le_refl _, by go_num, rfl, rfl⟩
        case round =>
          obtain ⟨p, m, hp, rfl, rfl, HP⟩ := hrel
          obtain ⟨y, hy⟩ := at_lt (show p < t.length by rw [HL.out]; omega)
          have hcy := HO.out.cellAt p (by omega)
          rw [ints_at hy] at hcy
          have hcx' : (w.drewN m).cell? ⟨g, j + 1, none⟩ = some (.int .i64 x) := hcx
          have hcy' : (w.drewN m).cell? ⟨g, p, none⟩ = some (.int .i64 y) := hcy
          by_cases hxy : x ≤ y
          · have hd : decide (x ≤ y) = true := decide_eq_true hxy
            obtain ⟨q, rfl⟩ : ∃ q, p = q + 1 := ⟨p - 1, by
              rcases Nat.eq_zero_or_pos p with e | e
              · subst e; have h9 := HZ.out; rw [lv_at hy] at h9; omega
              · omega⟩
            have G : Hid (Tr.parF t x j = Tr.parF t x q) := by
              rw [Hid, HP.out, Tr.parF, lv_at hy, if_pos hxy]
            clear hy HP
            go_wp2_with fail
            go_quiet (fail)
            go_wp2
            go_roundw
            case rel => exact ⟨q, _, by omega, by go_num, rfl, G⟩
            case measure => simp [intOf]
          · have hd : decide (x ≤ y) = false := decide_eq_false hxy
            have HPP : Hid (Tr.parF t x j = p) := by
              rw [Hid, HP.out]
              match p, hy with
              | 0, _ => rfl
              | q+1, hy => rw [Tr.parF, lv_at hy, if_neg hxy]
            have HLO : Hid (Tr.lowerL t = some (Tr.cpyF (j + 1 - p) (n - (j + 1)) (j + 1) t)) := by
              rw [Hid, Tr.lowerL]
              simp only [HL.out, HLL.out, lv_at HX.out, Nat.add_sub_cancel, HPP.out]
              rfl
            clear hy HP HLL
            go_wp2_with fail
            go_quiet (fail)
            go_wp2_with fail
            go_loopw [5] (fun ii wr => ∃ (e : Nat) (T : List Int), j + 1 + e ≤ n ∧ ii = .int .i64 ((j + 1 + e : Nat) : Int) ∧ Hid (Tr.cpyF (j + 1 - p) (n - (j + 1)) (j + 1) t = Tr.cpyF (j + 1 - p) (n - (j + 1 + e)) (j + 1 + e) T) ∧ Hid (T.length = n) ∧ ∃ M, Cpd base g n cap (w.drewN M) T wr) (fun ii _ => n - (intOf ii).toNat)
            case atStart => exact ⟨0, t, by omega, by go_num, rfl, HL.out, _, by rw [World.drewN_drewN]; exact Cpd.start HO.out _⟩
            case round =>
              obtain ⟨e, T, he, rfl, HC, HT, M, HD⟩ := hrel
              by_cases hlt : j + 1 + e < n
              · have hep : e + p < j + 1 + e := by omega
                obtain ⟨z, hz⟩ := at_lt (show e + p < T.length by rw [HT.out]; omega)
                have hcz := HD.1.cellAt (e + p) (by omega)
                rw [ints_at hz] at hcz
                obtain ⟨old, hold⟩ := at_lt (show j + 1 + e < T.length by rw [HT.out]; exact hlt)
                have hco := HD.1.cellAt (j + 1 + e) (by omega)
                rw [ints_at hold] at hco
                have hfo := HD.1.frozenAt (j + 1 + e)
                have HC2 : Hid (Tr.cpyF (j + 1 - p) (n - (j + 1)) (j + 1) t = Tr.cpyF (j + 1 - p) (n - (j + 1 + (e + 1))) (j + 1 + (e + 1)) (T.set (j + 1 + e) z)) := by
                  rw [Hid, HC.out, show n - (j + 1 + e) = n - (j + 1 + (e + 1)) + 1 from by omega, cpy_step (x := z) (by rw [show j + 1 + e - (j + 1 - p) = e + p from by omega]; exact hz)]
                  rfl
                have HT2 : Hid ((T.set (j + 1 + e) z).length = n) := by rw [Hid, List.length_set]; exact HT.out
                have G := Lib.hid (HD.step (i := j + 1 + e) (x := z))
                have ew1 : ((j + 1 + e : Nat) : Int) - ((j : Int) + 1) = (e : Int) := by omega
                clear hz hold HD HC
                go_wp2
                go_roundw
                case rel => exact ⟨e + 1, T.set (j + 1 + e) z, by omega, by go_num, HC2, HT2, M, G.out⟩
                case measure => simp [intOf]; omega
              · have hne : n = j + 1 + e := by omega
                have G : Hid (∃ m, Lowered base g n cap t (w.drewN m) (.returned (.bool true)) wr) := by
                  have hc := HC.out
                  rw [show n - (j + 1 + e) = 0 from by omega, Tr.cpyF] at hc
                  exact ⟨M, .inr ⟨T, by rw [HLO.out, hc], rfl, HD.1, HD.2⟩⟩
                clear HD HC
                go_wp2
                go_ret
                exact G.out
end Go.Proofs.Ytpmfpgfgkeejnaa
/-
  All trees with so many nodes, the program's.
-/
namespace Go.Proofs.Ytpmfpgfgkeejnaa
open Go.RowKit Fld
set_option linter.unusedVariables false
set_option linter.unusedSimpArgs false
set_option maxRecDepth 100000

theorem slicesClone_any (ad : Addr) (n c B : Nat) (xs : List Int) (w : World) (hl : xs.length = n) (hn : n ≤ 1048576) (hB : B ≤ w.heap.size) (h : Row w B (some ad) (ints xs)) :
    Calls Try.prog 44 #[.slice (some ad) n c] w (NewRow 2 n (ints xs) w) := by
  obtain ⟨i0, hi, hz0, hz1, hz2⟩ := info_parts info_i64
  have hnews := (h.alloc hB (.cells #[] 2)).news
  have hlen : (ints xs).length = n * 1 := by rw [ints_length, hl, Nat.mul_one]
  have h1 := ints_cells xs
  have hown0 := (Growing.start w 2).1
  have hbel0 := (Growing.start w 2).2
  have q22 : ∀ (w : World) (a : Option Addr) (n c n' c' : Nat), (binOp .eql 31 (.slice a n c) (.slice none n' c')).run Try.prog w = .ok (.bool a.isNone) w := fun w a n c n' c' => Lib.run_eql_slice_nil w _ _ a n c n' c' Try.underlying31
  go_enter Try.func44, Try.ntmps44
  go_wp2_with (at_builtin; refine wpList_append_own _ rfl (.tmp 5) (.tmp 6) 31 rfl w.heap.size 2 i0 _ 1 8 Try.underlying31 hi hz0 hz1 hz2 rfl (by omega) (.slice (some ⟨w.heap.size, 0, none⟩) 0 0) 0 [] rfl hown0 ad n c (ints xs) rfl hlen hnews h1 (by simp only [maxLen]; omega) (by omega) (by simp) ?_; intro v' w' hown hgrow _)
  go_ret
  rw [Nat.zero_add] at hown
  exact NewRow.own hown (hbel0.grown hgrow (by simp) (fun k hk => (hown0.lt k hk).1))
def rangeL (n : Nat) : List Int := (List.range n).map fun k : Nat => (k : Int)
theorem rangeL_length (n : Nat) : (rangeL n).length = n := by simp [rangeL]
theorem rangeL_at {n k : Nat} (h : k < n) : (rangeL n)[k]? = some (k : Int) := by unfold rangeL; rw [List.getElem?_map, List.getElem?_range h]; rfl
def chkT (n : Nat) : Bool := (Tr.treesL (n + 1)).all (fun t => Tr.isLv t && decide (t.length = n + 1)) && decide ((Tr.treesL (n + 1)).length ≤ 115)
theorem chkT_all : (List.range 8).all chkT = true := by decide +kernel
theorem trees_all {n : Nat} (h1 : 1 ≤ n) (h8 : n ≤ 8) : (∀ t ∈ Tr.treesL n, Tr.isLv t = true ∧ t.length = n) ∧ (Tr.treesL n).length ≤ 115 := by
  have h := List.all_eq_true.1 chkT_all (n - 1) (by rw [List.mem_range]; omega)
  unfold chkT at h
  rw [show n - 1 + 1 = n from by omega] at h
  simp only [Bool.and_eq_true, List.all_eq_true, decide_eq_true_eq] at h
  exact h
/-- the trees so far, the last one of them as it stands in the levels -/
structure Listed (n : Nat) (m : List (List Int)) (T : List Int) : Prop where
  last : ∃ m', m = m' ++ [T] ∧ Tr.treesL n = m' ++ Tr.treesF (116 - m'.length) T
theorem Listed.bd {n : Nat} {m : List (List Int)} {T : List Int} (h : Listed n m T) (h1 : 1 ≤ n) (h8 : n ≤ 8) : Tr.isLv T = true ∧ T.length = n ∧ 1 ≤ m.length ∧ m.length ≤ 115 := by
  obtain ⟨m', rfl, e⟩ := h.last
  obtain ⟨hall, hlen⟩ := trees_all h1 h8
  rw [e, List.length_append] at hlen
  have hf : 116 - m'.length = (115 - m'.length) + 1 := by omega
  have hT : T ∈ Tr.treesL n := by rw [e, hf, Tr.treesF]; simp
  have h2 := hall T hT
  rw [hf, Tr.treesF, List.length_cons] at hlen
  exact ⟨h2.1, h2.2, by simp, by rw [List.length_append]; simp; omega⟩
theorem Listed.done {n : Nat} {m : List (List Int)} {T : List Int} (h : Listed n m T) (h1 : 1 ≤ n) (h8 : n ≤ 8) (hl : Tr.lowerL T = none) : m = Tr.treesL n := by
  have hb := h.bd h1 h8
  obtain ⟨m', rfl, e⟩ := h.last
  have hlen := hb.2.2.2
  rw [List.length_append] at hlen
  simp at hlen
  rw [e, show 116 - m'.length = (115 - m'.length) + 1 from by omega, Tr.treesF, hl]
theorem Listed.next {n : Nat} {m : List (List Int)} {T u : List Int} (h : Listed n m T) (h1 : 1 ≤ n) (h8 : n ≤ 8) (hl : Tr.lowerL T = some u) : Listed n (m ++ [u]) u := by
  have hb := h.bd h1 h8
  obtain ⟨m', rfl, e⟩ := h.last
  have hlen := hb.2.2.2
  rw [List.length_append] at hlen
  simp at hlen
  refine ⟨m' ++ [T], rfl, ?_⟩
  rw [e, show 116 - m'.length = (115 - m'.length) + 1 from by omega, Tr.treesF, hl, List.length_append]
  simp
theorem Listed.start (n : Nat) : Listed n [rangeL n] (rangeL n) := ⟨[], rfl, rfl⟩
set_option maxHeartbeats 2000000 in
theorem treesWith_any (n : Nat) (w : World) (h1 : 1 ≤ n) (h8 : n ≤ 8) :
    Calls Try.prog 29 #[.int .i64 n] w (NewMat (Tr.treesL n).length (Tr.treesL n) w) := by
  obtain ⟨i0, hi, hz0, hz1, hz2⟩ := info_parts info_i64
  obtain ⟨j0, hj, hy0, hy1, hy2⟩ := info_parts info_row
  go_enter Try.func29, Try.ntmps29
  go_wp2_with (at_make; refine wpList_make_full _ rfl (.tmp 6) (.tmp 6) 31 rfl w.heap.size 2 i0 _ 1 Try.underlying31 hi hz0 hz1 .i64 .i64 _ _ n rfl rfl rfl rfl (by rw [hz2]; omega) (by simp only [maxLen]; omega) (Nat.le_refl _) ?_; intro w1 hown hg)
  have F0 := Filling.start (xs := rangeL n) hown hg
  clear hown hg hz0 hz1 hz2 hi
  go_wp2_with fail
  go_loopw [10] (fun i wr => ∃ k : Nat, k ≤ n ∧ i = .int .i64 k ∧ Filling w 2 n (rangeL n) k wr) (fun i _ => n - (intOf i).toNat)
  case atStart => exact ⟨0, Nat.zero_le _, rfl, F0⟩
  case round =>
    obtain ⟨k, hk, rfl, HF⟩ := hrel
    by_cases hlt : k < n
    · have hf := HF.1.frozenAt k
      have ho := HF.1.cellAt k (by omega)
      rw [fill_at (by rw [ints_length]; exact rangeL_length n) hlt] at ho
      have G := Lib.hid (HF.step (rangeL_length n) (rangeL_at hlt))
      clear F0 HF
      go_wp2
      go_roundw
      case rel => exact ⟨k + 1, by omega, by go_num, G.out⟩
      case measure => simp [intOf]; omega
    · obtain rfl : k = n := by omega
      obtain ⟨A0, c0, e0, hown1, hbel1⟩ := HF.done (rangeL_length k)
      injection e0 with e0
      injection e0 with eA _ ec
      subst eA ec
      obtain ⟨wo, hwo⟩ : ∃ wo, wo = wr := ⟨wr, rfl⟩
      subst hwo
      have HLV := Lib.hid (OwnR.of hown1)
      have HB1 := Lib.hid hbel1
      have hs1 : w.heap.size < wo.heap.size := (hown1.lt w.heap.size rfl).2
      clear F0 HF hown1 hbel1
      go_wp2_with fail
      refine (slicesClone_any ⟨w.heap.size, 0, none⟩ k k wo.heap.size (rangeL k) _ (rangeL_length k) (by omega) (Nat.le_refl _) HLV.out.row).mono ?_
      rintro e w2 ⟨A2, c2, rfl, own2, bel2⟩
      have HO2 := Lib.hid own2
      have HB2 := Lib.hid bel2
      have hs2 := bel2.size
      clear own2 bel2
      go_wp2_with fail
      have HM0 : Hid (OwnMat (w2.alloc (.cells #[.slice A2 k c2] 31)) wo.heap.size (w2.alloc (.cells #[.slice A2 k c2] 31)).heap.size (.slice (some ⟨w2.heap.size, 0, none⟩) 1 1) 1 [rangeL k] [.slice A2 k c2]) := by
        have hal : Below w2.heap.size w2 (w2.alloc (.cells #[.slice A2 k c2] 31)) := (Below.refl _ _).alloc (Nat.le_refl _) _
        have hlit := World.ownsRow_lit (base := wo.heap.size) (size := 1) (e := 31) w2 #[.slice A2 k c2] 1 hs2 (by simp [maxLen]) rfl
        refine ⟨OwnR.of hlit, rfl, ?_, ?_⟩
        · intro r row hr
          match r, hr with
          | 0, hr =>
            simp only [List.getElem?_cons_zero, Option.some.injEq] at hr
            subst hr
            refine ⟨A2, c2, by rw [rangeL_length]; rfl, ?_⟩
            rw [rangeL_length]
            exact ((OwnR.of HO2.out).below hal (Nat.le_refl _)).more (Nat.le_refl _) hal.size
          | r+1, hr => simp at hr
        · intro r s u t g hne hu ht
          match r, s, hu, ht with
          | 0, 0, _, _ => exact absurd rfl hne
          | r+1, _, hu, _ => simp at hu
          | 0, s+1, _, ht => simp at ht
      have HL0 : Hid (OwnR (w2.alloc (.cells #[.slice A2 k c2] 31)) w.heap.size wo.heap.size 2 (.slice (some ⟨w.heap.size, 0, none⟩) k k) k (ints (rangeL k))) :=
        (HLV.out.below HB2.out (Nat.le_refl _)).below ((Below.refl w2.heap.size w2).alloc (Nat.le_refl _) _) hs2
      have HB0 : Hid (Below w.heap.size w (w2.alloc (.cells #[.slice A2 k c2] 31))) := (HB1.out.trans (HB2.out.mono (by omega))).alloc (by omega) _
      go_loopw [5] (fun v W => ∃ (g cap j : Nat) (m : List (List Int)) (vs : List Value) (T : List Int), v = .slice (some ⟨g, 0, none⟩) j cap ∧ 1 ≤ j ∧ j ≤ 115 ∧ Hid (Listed k m T) ∧ Hid (OwnMat W wo.heap.size W.heap.size (.slice (some ⟨g, 0, none⟩) j cap) j m vs) ∧ Hid (OwnR W w.heap.size wo.heap.size 2 (.slice (some ⟨w.heap.size, 0, none⟩) k k) k (ints T)) ∧ Below w.heap.size w W ∧ wo.heap.size ≤ W.heap.size) (fun v _ => 200 - (match v with | .slice _ n _ => n | _ => 0))
      case atStart => exact ⟨w2.heap.size, 1, 1, [rangeL k], [.slice A2 k c2], rangeL k, rfl, Nat.le_refl _, by omega, Listed.start k, HM0, HL0, HB0.out, by simp; omega⟩
      case round =>
        obtain ⟨g, cap, j, m, vs, T, rfl, j1, j115, HT, HM, HL, HB, hWo⟩ := hrel
        obtain ⟨tlv, tl, _, _⟩ := HT.out.bd h1 h8
        have HTL := Lib.hid tl
        have C0 := lower_any w.heap.size w.heap.size k k T wr tl tlv HL.out.1
        clear tl tlv
        go_wp2_with fail
        refine C0.mono ?_
        rintro e w3 ⟨md, ⟨hlo, rfl, rfl⟩ | ⟨u, hlo, rfl, hown3, hg3⟩⟩
        · have e := HT.out.done h1 h8 hlo
          have hjl : m.length = j := HM.out.size
          have G : Hid (NewMat (Tr.treesL k).length (Tr.treesL k) w (.returned (.slice (some ⟨g, 0, none⟩) j cap)) (wr.drewN md)) := by
            rw [Hid, ← e, hjl]
            exact ⟨_, _, vs, rfl, (HM.out.drewN md).more (by omega) (Nat.le_refl _), below_drewN HB md⟩
          clear hlo e hjl HB C0
          go_wp2
          go_ret
          exact G.out
        · have hsz3 : wr.heap.size ≤ w3.heap.size := hg3.size
          have hWI : Within w.heap.size wo.heap.size (wr.drewN md) w3 := Within.grown hg3 (fun g' e => by injection e with e; omega)
          have HM3 : Hid (OwnMat w3 wo.heap.size w3.heap.size (.slice (some ⟨g, 0, none⟩) j cap) j m vs) := ((HM.out.drewN md).within hWI (by show wr.heap.size ≤ wr.heap.size; omega) (.inr (Nat.le_refl _))).more (Nat.le_refl _) hsz3
          have HL3 : Hid (OwnR w3 w.heap.size wo.heap.size 2 (.slice (some ⟨w.heap.size, 0, none⟩) k k) k (ints u)) := ⟨hown3, fun g' e => by have : w.heap.size = g' := (by simpa [Value.ownBlock] using e); omega⟩
          have HB3 : Hid (Below w.heap.size w w3) := Below.then (below_drewN HB md) hWI (Nat.le_refl _) (by show w.heap.size ≤ wr.heap.size; omega)
          have HN := Lib.hid (HT.out.next h1 h8 hlo)
          have hul : u.length = k := (HN.out.bd h1 h8).2.1
          have huj : j + 1 ≤ 115 := by have := (HN.out.bd h1 h8).2.2.2; rw [List.length_append] at this; have := HM.out.size; simp at *; omega
          have HUL := Lib.hid hul
          have hW3 : wo.heap.size ≤ w3.heap.size := by omega
          clear hlo hown3 hg3 hWI HB C0 HM HL HT hul
          go_wp2_with fail
          refine (slicesClone_any ⟨w.heap.size, 0, none⟩ k k wo.heap.size u _ HUL.out (by omega) hW3 HL3.out.row).mono ?_
          rintro e w4 ⟨A4, c4, rfl, own4, bel4⟩
          have hs4 := bel4.size
          have HM4 := Lib.hid (HM3.out.below bel4 (Nat.le_refl _))
          have HL4 := Lib.hid (HL3.out.below bel4 hW3)
          have HB4 := Lib.hid (HB3.out.trans (bel4.mono (by omega)))
          have HO4 := Lib.hid own4
          have hownO := HM4.out.outer.1
          clear own4 bel4
          go_wp2_with (at_builtin; refine wpList_append_lies _ rfl (.tmp 23) (.tmp 26) 25 rfl wo.heap.size 31 j0 _ 1 24 Try.underlying25 hj hy0 hy1 hy2 rfl (by omega) (.slice (some ⟨g, 0, none⟩) j cap) j vs rfl (hownO.alloc _) ⟨w4.heap.size, 0, none⟩ 1 1 [.slice A4 k c4] rfl rfl (World.news_of_block (cs := #[.slice A4 k c4]) (heap_alloc_new _ _)) (by simp [Value.oneCell']) (by omega) (by simp only [maxLen]; omega) (by omega) (by simp; omega) (w4.heap.size + 1) (by simp) ?_; intro g5 cap5 w5 hown5 hgrow5 hat5 hlt5)
          have hs5 : w4.heap.size ≤ w5.heap.size := by have := hgrow5.size; simp at this; omega
          have GM : Hid (OwnMat w5 wo.heap.size w5.heap.size (.slice (some ⟨g5, 0, none⟩) (j + 1) cap5) (j + 1) (m ++ [u]) (vs ++ [.slice A4 k c4])) := HM4.out.push (row := u) hs4 HUL.out HO4.out hW3 hown5 hgrow5
          have GL : Hid (OwnR w5 w.heap.size wo.heap.size 2 (.slice (some ⟨w.heap.size, 0, none⟩) k k) k (ints u)) :=
            ((HL4.out.below ((Below.refl w4.heap.size w4).alloc (Nat.le_refl _) _) (by omega)).grown hgrow5 (own_types HL4.out.1 hownO (by decide)))
          have GB : Hid (Below w.heap.size w w5) := (HB4.out.alloc (by omega) _).grown hgrow5 (by simp; omega) (fun q hq => by have := (hownO.lt q hq).1; omega)
          clear hown5 hgrow5 hat5 hownO
          go_wp2
          go_roundw
          case rel => exact ⟨g5, cap5, j + 1, _, _, u, rfl, by omega, huj, HN, GM, GL, GB.out, by omega⟩
          case measure => simp; omega
end Go.Proofs.Ytpmfpgfgkeejnaa
/-
  The model's list of all trees with n nodes, plainly.
-/
namespace Go.Proofs.Ytpmfpgfgkeejnaa
set_option maxRecDepth 100000

theorem grow_trees {n : Nat} (h1 : 1 ≤ n) (h8 : n ≤ 8) : Tr.growF (n - 1) [0] [] = Tr.treesL n := by
  have h := List.all_eq_true.1 Tr.grow_eq (n - 1) (by rw [List.mem_range]; omega)
  rw [show n - 1 + 1 = n from by omega] at h
  exact eq_of_beq h
end Go.Proofs.Ytpmfpgfgkeejnaa
/-
  All trees with so many nodes, the model's.
-/
namespace Go.Proofs.Ytpmfpgfgkeejnaa
open Go.RowKit Fld
set_option linter.unusedVariables false
set_option linter.unusedSimpArgs false
set_option maxRecDepth 100000

theorem lv_last {t : List Int} (h : Tr.isLv t = true) : 0 ≤ t.getD (t.length - 1) 0 ∧ t.getD (t.length - 1) 0 ≤ (t.length : Int) - 1 := by
  have h1 := Tr.isLv_iff.1 h
  have h2 := StepsTo.bd (t := t) (n := t.length) (k := t.length - 1) h1.2.2.2 h1.2.2.1 (by have := h1.1; omega) rfl
  have := h1.1
  omega
theorem lv_push {t : List Int} {x : Int} (h : Tr.isLv t = true) (hl : t.length + 1 ≤ 8) (h1 : 1 ≤ x) (h2 : x ≤ t.getD (t.length - 1) 0 + 1) : Tr.isLv (t ++ [x]) = true := by
  have h3 := Tr.isLv_iff.1 h
  have hlt := h3.1
  have hg : ∀ i, i < t.length → (t ++ [x]).getD i 0 = t.getD i 0 := fun i hi => by
    rw [List.getD_eq_getElem?_getD, List.getElem?_append_left hi, ← List.getD_eq_getElem?_getD]
  have hx : (t ++ [x]).getD t.length 0 = x := by
    rw [List.getD_eq_getElem?_getD, List.getElem?_append_right (Nat.le_refl _), Nat.sub_self]; rfl
  refine Tr.isLv_iff.2 ⟨by simp, by simp; omega, by rw [hg 0 hlt]; exact h3.2.2.1, fun i hi h1' => ?_⟩
  rw [List.length_append, List.length_singleton] at hi
  by_cases e : i = t.length
  · subst e
    rw [hx, hg (t.length - 1) (by omega)]
    exact ⟨h1, h2⟩
  · rw [hg i (by omega), hg (i - 1) (by omega)]
    exact h3.2.2.2 i (by omega) h1'
def growTo (f : Nat) (t : List Int) (m : List (List Int)) (k : Nat) : List (List Int) := (List.range k).foldl (fun (o : List (List Int)) (j : Nat) => Tr.growF f (t ++ [t.getD (t.length - 1) 0 + 1 - (j : Int)]) o) m
theorem growTo_step (f : Nat) (t : List Int) (m : List (List Int)) (k : Nat) : growTo f t m (k + 1) = Tr.growF f (t ++ [t.getD (t.length - 1) 0 + 1 - (k : Int)]) (growTo f t m k) := by
  unfold growTo; rw [List.range_succ, List.foldl_append]; rfl
theorem growF_succ (f : Nat) (t : List Int) (m : List (List Int)) : Tr.growF (f + 1) t m = growTo f t m (t.getD (t.length - 1) 0 + 1).toNat := rfl
theorem grow_len : ∀ (f : Nat) (t : List Int) (m : List (List Int)), Tr.isLv t = true → t.length + f ≤ 8 → (Tr.growF f t m).length ≤ m.length + 9 ^ f
  | 0, t, m, _, _ => by
    rw [Tr.growF]; split
    · simp
    · simp
  | f+1, t, m, h, hl => by
    rw [growF_succ]
    have hb := lv_last h
    have key : ∀ k : Nat, (k : Int) ≤ t.getD (t.length - 1) 0 + 1 → (growTo f t m k).length ≤ m.length + k * 9 ^ f := by
      intro k
      induction k with
      | zero => intro _; simp [growTo]
      | succ k ih =>
        intro hk
        rw [growTo_step]
        have h1 := grow_len f (t ++ [t.getD (t.length - 1) 0 + 1 - (k : Int)]) (growTo f t m k) (lv_push h (by omega) (by omega) (by omega)) (by rw [List.length_append]; simp; omega)
        have h2 := ih (by omega)
        have e : (k + 1) * 9 ^ f = k * 9 ^ f + 9 ^ f := by rw [Nat.add_mul, Nat.one_mul]
        omega
    have h1 := key (t.getD (t.length - 1) 0 + 1).toNat (by omega)
    have h2 : (t.getD (t.length - 1) 0 + 1).toNat ≤ 9 := by omega
    have h3 : (t.getD (t.length - 1) 0 + 1).toNat * 9 ^ f ≤ 9 * 9 ^ f := Nat.mul_le_mul_right _ h2
    have e : 9 ^ (f + 1) = 9 * 9 ^ f := by rw [Nat.pow_succ, Nat.mul_comm]
    omega
/-- what was there stands, but for a row that grows -/
theorem grown_chain {a b c : World} {r r' : Option Nat} (h : a.grownBy b r) (k : b.grownBy c r') (hr : r' = r ∨ ∃ g, r' = some g ∧ a.heap.size ≤ g) : a.grownBy c r :=
  ⟨k.os.trans h.os, k.tape.trans h.tape, k.output.trans h.output, Nat.le_trans h.size k.size, fun i hi hne => by
    rw [k.block i (Nat.lt_of_lt_of_le hi h.size) (fun e => by
      rcases hr with hr | ⟨g, hr, hg⟩
      · exact hne (by rw [e, hr])
      · rw [hr] at e; injection e with e; omega)]
    exact h.block i hi hne⟩
theorem below_grown {a b : World} (h : Below a.heap.size a b) : a.grownBy b none := ⟨h.os, h.tape, h.output, h.size, fun i hi _ => h.block i hi⟩
theorem grown_any {a b : World} {r : Option Nat} (h : a.grownBy b none) : a.grownBy b r := ⟨h.os, h.tape, h.output, h.size, fun i hi _ => h.block i hi (by simp)⟩
/-- what l03Grow hands back -/
def Grown (lo : Nat) (v : Value) (m' : List (List Int)) (w : World) (e : Ending) (w' : World) : Prop :=
  ∃ A q c vs, e = .returned (.slice A q c) ∧ OwnMat w' lo w'.heap.size (.slice A q c) q m' vs ∧ w.grownBy w' v.ownBlock ∧ (Value.ownBlock (.slice A q c) = v.ownBlock ∨ ∃ g, Value.ownBlock (.slice A q c) = some g ∧ w.heap.size ≤ g)
def SGrow (f : Nat) : Prop := ∀ (At A : Option Addr) (ct q c n lo lot : Nat) (t : List Int) (m : List (List Int)) (vs : List Value) (w : World), t.length + f = n → n ≤ 8 → Tr.isLv t = true → q + 9 ^ f ≤ 100000000 → lo ≤ w.heap.size →
    w.ownsRow lot 2 1 (.slice At t.length ct) t.length (ints t) → OwnMat w lo w.heap.size (.slice A q c) q m vs →
    Calls Try.prog 36 #[.slice At t.length ct, .int .i64 n, .slice A q c] w (Grown lo (.slice A q c) (Tr.growF f t m) w)
set_option maxHeartbeats 1000000 in
theorem sGrow_zero : SGrow 0 := by
  obtain ⟨j0, hj, hy0, hy1, hy2⟩ := info_parts info_row
  intro At A ct q c n lo lot t m vs w hn hn8 hlv hq hlo ht hm
  have hnt : t.length = n := by omega
  obtain ⟨e1, e2⟩ := lv_can hlv
  have HE : Hid ((Tr.can t).length = n) := by rw [Hid, e2, hnt]
  have HT := Lib.hid ht
  have HM := Lib.hid hm
  have HLV := Lib.hid hlv
  have HN := Lib.hid hnt
  have h1 : 1 ≤ n := by have := (Tr.isLv_iff.1 hlv).1; omega
  have hq' : q ≤ 100000000 := by omega
  rw [hnt] at ht HT ⊢
  obtain ⟨gt, capt, hvt⟩ := own_form ht (by omega)
  injection hvt with hA _ hcap
  subst hA hcap
  clear hn hlv hq e1 e2 hnt hm
  go_enter Try.func36, Try.ntmps36
  go_wp2_with fail
  refine (l03Canon_any _ n ct w.heap.size t _ HN.out HLV.out (Nat.le_refl _) (row_of_own ht)).mono ?_
  rintro e w1 ⟨A1, c1, rfl, own1, bel1⟩
  have hs1 := bel1.size
  have HB1 := Lib.hid bel1
  have HT1 := Lib.hid ((OwnR.of HT.out).below bel1 (Nat.le_refl _))
  have C1 := l01Same_any A1 _ n n c1 ct _ _ (Tr.can t) t w1 HE.out HN.out (by omega) (by omega) (row_of_own own1) HT1.out.row
  clear own1 bel1 ht
  by_cases hct : Tr.can t = t
  · have G : Hid (Tr.growF 0 t m = m ++ [t]) := by rw [Hid, Tr.growF, if_pos hct]
    rw [hct, eqL_self] at C1
    clear hct
    go_wp2_with fail
    refine C1.mono ?_
    rintro e w2 ⟨rfl, m2, rfl⟩
    go_wp2_with fail
    refine (l01Own_any ⟨gt, 0, none⟩ n ct w1.heap.size t _ HN.out (by omega) (by show w1.heap.size ≤ w1.heap.size; omega) ((HT1.out.row.more hs1).drewN m2)).mono ?_
    rintro e w3 ⟨A3, c3, rfl, own3, bel3⟩
    have hs3 : w1.heap.size ≤ w3.heap.size := bel3.size
    have HM3 := Lib.hid ((((HM.out.below HB1.out (Nat.le_refl _)).more (Nat.le_refl _) hs1).drewN m2).below bel3 (Nat.le_refl _))
    have HB3 : Hid (Below w.heap.size w w3) := (below_drewN HB1.out m2).trans (bel3.mono (by show w.heap.size ≤ w1.heap.size; exact hs1))
    have HO3 : Hid (w3.ownsRow w1.heap.size 2 1 (.slice A3 n c3) n (ints t)) := own3
    have hownO := HM3.out.outer.1
    clear own3 bel3
    go_wp2_with (at_builtin; refine wpList_append_lies _ rfl (.tmp 16) (.tmp 19) 25 rfl lo 31 j0 _ 1 24 Try.underlying25 hj hy0 hy1 hy2 rfl (by omega) (.slice A q c) q vs rfl (hownO.alloc _) ⟨w3.heap.size, 0, none⟩ 1 1 [.slice A3 n c3] rfl rfl (World.news_of_block (cs := #[.slice A3 n c3]) (heap_alloc_new _ _)) (by simp [Value.oneCell']) (by omega) (by simp only [maxLen]; omega) (by omega) (by simp; omega) (w3.heap.size + 1) (by simp) ?_; intro g5 cap5 w5 hown5 hgrow5 hat5 hlt5)
    have hs5 : w3.heap.size ≤ w5.heap.size := by have := hgrow5.size; simp at this; omega
    have GG : Hid (Grown lo (.slice A q c) (Tr.growF 0 t m) w (.returned (.slice (some ⟨g5, 0, none⟩) (q + 1) cap5)) w5) := by
      rw [Hid, G.out]
      refine ⟨_, _, _, _, rfl, HM3.out.push (row := t) hs3 HN.out HO3.out (by omega) hown5 hgrow5, ?_, ?_⟩
      · have h1 : w.grownBy (w3.alloc (.cells #[.slice A3 n c3] 31)) none := below_grown (HB3.out.alloc (by omega) _)
        exact grown_chain (grown_any h1) hgrow5 (.inl rfl)
      · rcases hat5 with e | e
        · exact .inl e.symm
        · exact .inr ⟨g5, rfl, by omega⟩
    clear hown5 hgrow5 hat5 hownO
    go_wp2
    go_ret
    exact GG.out
  · have G : Hid (Tr.growF 0 t m = m) := by rw [Hid, Tr.growF, if_neg hct]
    have e : eqL (Tr.can t) t = false := by unfold eqL; exact decide_eq_false hct
    rw [e] at C1
    clear hct e
    go_wp2_with fail
    refine C1.mono ?_
    rintro e w2 ⟨rfl, m2, rfl⟩
    have GG : Hid (Grown lo (.slice A q c) (Tr.growF 0 t m) w (.returned (.slice A q c)) (w1.drewN m2)) := by
      rw [Hid, G.out]
      exact ⟨A, q, c, vs, rfl, ((HM.out.below HB1.out (Nat.le_refl _)).drewN m2).more (Nat.le_refl _) hs1, grown_any (below_grown (below_drewN HB1.out m2)), .inl rfl⟩
    go_wp2
    go_ret
    exact GG.out
set_option maxHeartbeats 2000000 in
theorem sGrow_succ (f : Nat) (IH : SGrow f) : SGrow (f + 1) := by
  obtain ⟨i0, hi, hz0, hz1, hz2⟩ := info_parts info_i64
  intro At A ct q c n lo lot t m vs w hn hn8 hlv hq hlo ht hm
  obtain ⟨nt, hnt⟩ : ∃ nt, nt = t.length := ⟨_, rfl⟩
  have h1 : 1 ≤ nt := by have := (Tr.isLv_iff.1 hlv).1; omega
  have HNT : Hid (t.length = nt) := hnt.symm
  rw [← hnt] at ht ⊢
  obtain ⟨gt, capt, hvt⟩ := own_form ht (by omega)
  injection hvt with hA _ hcap
  subst hA hcap
  obtain ⟨L, hL⟩ : ∃ L, L = t.getD (t.length - 1) 0 := ⟨_, rfl⟩
  have hLb := lv_last hlv
  rw [← hL, ← hnt] at hLb
  have hLc := ht.cellAt (nt - 1) (by omega)
  have hLx : t[nt - 1]? = some L := by
    obtain ⟨x, hx⟩ := at_lt (show nt - 1 < t.length by omega)
    rw [hx, hL, ← hnt, lv_at hx]
  rw [ints_at hLx] at hLc
  have hnlt : nt < n := by omega
  have HFN : Hid (nt + (f + 1) = n) := by rw [Hid, hnt]; exact hn
  have HT : Hid (OwnR w lot w.heap.size 2 (.slice (some ⟨gt, 0, none⟩) nt ct) nt (ints t)) := OwnR.of ht
  have HM := Lib.hid hm
  have HLV := Lib.hid hlv
  have HLL : Hid (t.getD (t.length - 1) 0 = L) := hL.symm
  have HG : Hid (Tr.growF (f + 1) t m = growTo f t m (L + 1).toNat) := by rw [Hid, growF_succ, ← hL]
  have hpow : 9 ^ (f + 1) = 9 * 9 ^ f := by rw [Nat.pow_succ, Nat.mul_comm]
  have HQ : Hid (q + 9 * 9 ^ f ≤ 100000000) := by rw [Hid, ← hpow]; exact hq
  have HML : Hid (m.length = q) := hm.size
  have tn := beq_f (show ¬ (nt : Int) = (n : Int) by omega)
  clear hn hlv hq hpow hL hLx ht hm hnt
  go_enter Try.func36, Try.ntmps36
  go_wp2_with fail
  go_loopw [2, 7] (fun v l wr => ∃ (k q' c' : Nat) (A' : Option Addr) (vs' : List Value), v = .slice A' q' c' ∧ l = .int .i64 (L + 1 - (k : Int)) ∧ (k : Int) ≤ L + 1 ∧ Hid (q' ≤ q + k * 9 ^ f) ∧ Hid (OwnMat wr lo wr.heap.size (.slice A' q' c') q' (growTo f t m k) vs') ∧ Hid (w.grownBy wr (Value.ownBlock (.slice A q c))) ∧ Hid (Value.ownBlock (.slice A' q' c') = Value.ownBlock (.slice A q c) ∨ ∃ g, Value.ownBlock (.slice A' q' c') = some g ∧ w.heap.size ≤ g) ∧ w.heap.size ≤ wr.heap.size) (fun _ l _ => (intOf l).toNat)
  case atStart => exact ⟨0, q, c, A, vs, rfl, by simp, by omega, by rw [Hid]; omega, HM.out, World.grownBy.refl _ _, .inl rfl, Nat.le_refl _⟩
  case round =>
    obtain ⟨k, q', c', A', vs', rfl, rfl, hk, HQ', HM', HGR, HOB, hsz⟩ := hrel
    by_cases hlt : (k : Int) < L + 1
    · have hlev : 1 ≤ L + 1 - (k : Int) := by omega
      obtain ⟨lev, hlv2⟩ : ∃ lev, lev = L + 1 - (k : Int) := ⟨_, rfl⟩
      have hl1 : 1 ≤ lev := by omega
      have hl8 : lev ≤ 9 := by omega
      have HS : Hid (growTo f t m (k + 1) = Tr.growF f (t ++ [lev]) (growTo f t m k)) := by rw [Hid, growTo_step, HLL.out, hlv2]
      have HPL : Hid (Tr.isLv (t ++ [lev]) = true) := lv_push HLV.out (by have := HNT.out; have := HFN.out; omega) hl1 (by rw [HLL.out]; omega)
      have HT' := Lib.hid (HT.out.grown HGR.out (own_types HT.out.1 HM.out.outer.1 (by decide)))
      have hk9 : k + 1 ≤ 9 := by omega
      have HQ2 : Hid (q' + 9 ^ f ≤ 100000000) := by
        have h2 := HQ'.out
        have h3 := HQ.out
        have h4 : (k + 1) * 9 ^ f ≤ 9 * 9 ^ f := Nat.mul_le_mul_right _ hk9
        rw [Nat.add_mul, Nat.one_mul] at h4
        rw [Hid]; omega
      have hrng : L + 1 - (k : Int) = lev := hlv2.symm
      rw [hrng]
      have hlm : lev - 1 = L + 1 - ((k + 1 : Nat) : Int) := by omega
      have HLM := Lib.hid hlm
      clear hrng hlm hlv2
      go_wp2_with fail
      refine (l01Own_any ⟨gt, 0, none⟩ nt ct w.heap.size t _ HNT.out (by omega) hsz HT'.out.row).mono ?_
      rintro e w1 ⟨A1, c1, rfl, own1, bel1⟩
      have hs1 := bel1.size
      have HB1 := Lib.hid bel1
      have HO1 := Lib.hid own1
      clear bel1
      go_wp2_with (at_builtin; refine wpList_append_lies _ rfl (.tmp 34) (.tmp 36) 31 rfl wr.heap.size 2 i0 _ 1 8 Try.underlying31 hi hz0 hz1 hz2 rfl (by omega) (.slice A1 nt c1) nt (ints t) rfl (own1.alloc _) ⟨w1.heap.size, 0, none⟩ 1 1 [.int .i64 lev] rfl rfl (World.news_of_block (cs := #[.int .i64 lev]) (heap_alloc_new _ _)) (by simp [Value.oneCell']) (by omega) (by simp only [maxLen]; omega) (by omega) (by simp; omega) (w1.heap.size + 1) (by simp) ?_; intro g2 c2 w2 hown2 hgrow2 hat2 hlt2)
      have BW2 : Hid (Below wr.heap.size wr w2) := (HB1.out.alloc hs1 _).grown hgrow2 (by simp; omega) (fun q hq => (HO1.out.lt q hq).1)
      have hs2 : wr.heap.size ≤ w2.heap.size := BW2.out.size
      have HLN : Hid ((t ++ [lev]).length = nt + 1) := by rw [Hid, List.length_append, HNT.out]; rfl
      have HM2 : Hid (OwnMat w2 lo w2.heap.size (.slice A' q' c') q' (growTo f t m k) vs') := (HM'.out.below BW2.out (Nat.le_refl _)).more (Nat.le_refl _) hs2
      have C1 := IH (some ⟨g2, 0, none⟩) A' c2 q' c' n lo wr.heap.size (t ++ [lev]) (growTo f t m k) vs' w2 (by rw [HLN.out]; have := HFN.out; omega) hn8 HPL.out HQ2.out (by omega) (by
        have e : ints t ++ [.int .i64 lev] = ints (t ++ [lev]) := by simp [ints, intsK]
        rw [e] at hown2
        rw [HLN.out]; exact hown2) HM2.out
      rw [HLN.out, ← HS.out] at C1
      clear hown2 hgrow2 hat2 own1
      go_wp2_with fail
      refine C1.mono ?_
      rintro e w3 ⟨A3, q3, c3, vs3, rfl, hm3, hg3, hb3⟩
      have HM3 := Lib.hid hm3
      have hs3 : w2.heap.size ≤ w3.heap.size := hg3.size
      have HGR3 : Hid (w.grownBy w3 (Value.ownBlock (.slice A q c))) := grown_chain (grown_chain HGR.out (grown_any (below_grown BW2.out)) (.inl rfl)) hg3 HOB.out
      have HOB3 : Hid (Value.ownBlock (.slice A3 q3 c3) = Value.ownBlock (.slice A q c) ∨ ∃ g, Value.ownBlock (.slice A3 q3 c3) = some g ∧ w.heap.size ≤ g) := by
        rcases hb3 with hb3 | ⟨g, hb3, hg⟩
        · rw [Hid, hb3]; exact HOB.out
        · exact .inr ⟨g, hb3, by omega⟩
      have HQ3 : Hid (q3 ≤ q + (k + 1) * 9 ^ f) := by
        have h1 := HM3.out.size
        rw [HS.out] at h1
        have h2 := grow_len f (t ++ [lev]) (growTo f t m k) HPL.out (by rw [HLN.out]; have := HFN.out; omega)
        have h3 := HM'.out.size
        have h4 := HQ'.out
        rw [Hid, Nat.add_mul, Nat.one_mul]; omega
      clear hm3 hg3 hb3 C1
      go_wp2
      go_roundw
      case rel => exact ⟨k + 1, q3, c3, A3, vs3, rfl, by rw [← HLM.out], by omega, HQ3, HM3, HGR3, HOB3, by omega⟩
      case measure => simp [intOf]; omega
    · have hk2 : (k : Int) = L + 1 := by omega
      have G : Hid (Grown lo (.slice A q c) (Tr.growF (f + 1) t m) w (.returned (.slice A' q' c')) wr) := by
        rw [Hid, HG.out, show (L + 1).toNat = k from by omega]
        exact ⟨A', q', c', vs', rfl, HM'.out, HGR.out, HOB.out⟩
      have e0 : L + 1 - (k : Int) = 0 := by omega
      rw [e0]
      clear hk2 e0
      go_wp2
      go_ret
      exact G.out
theorem sGrow_all : ∀ f, SGrow f
  | 0 => sGrow_zero
  | f+1 => sGrow_succ f (sGrow_all f)
theorem l03Trees_any (n : Nat) (w : World) (h1 : 1 ≤ n) (h8 : n ≤ 8) : Calls Try.prog 19 #[.int .i64 n] w (NewMat (Tr.treesL n).length (Tr.treesL n) w) := by
  have own1 := World.ownsRow_lit (base := w.heap.size) (size := 1) (e := 2) w #[.int .i64 0] 1 (Nat.le_refl _) (by simp [maxLen]) rfl
  have C1 := sGrow_all (n - 1) (some ⟨w.heap.size, 0, none⟩) none 1 0 0 n w.heap.size w.heap.size [0] [] [] (w.alloc (.cells #[.int .i64 0] 2)) (by simp; omega) h8 (by decide) (by
    have : n - 1 ≤ 7 := by omega
    have h2 : 9 ^ (n - 1) ≤ 9 ^ 7 := Nat.pow_le_pow_right (by omega) this
    omega) (by simp) own1 ⟨⟨World.ownsRow_nil _ _ _ _, fun g e => by simp [Value.ownBlock] at e⟩, rfl, fun r row hr => by simp at hr, fun r s u t g _ hu => by simp at hu⟩
  rw [grow_trees h1 h8] at C1
  go_enter Try.func19, Try.ntmps19
  go_wp2_with fail
  refine C1.mono ?_
  rintro e w3 ⟨A3, q3, c3, vs3, rfl, hm3, hg3, hb3⟩
  have e1 : (Tr.treesL n).length = q3 := hm3.size
  have G : Hid (NewMat (Tr.treesL n).length (Tr.treesL n) w (.returned (.slice A3 q3 c3)) w3) := by
    rw [Hid, e1]
    refine ⟨A3, c3, vs3, rfl, hm3, ?_⟩
    exact ((Below.refl _ _).alloc (Nat.le_refl _) _).grown hg3 (by simp) (fun b hb => by simp [Value.ownBlock] at hb)
  clear hm3 hg3 hb3 C1 e1
  go_wp2
  go_ret
  exact G.out
end Go.Proofs.Ytpmfpgfgkeejnaa
/-
  What TreesOf answers, the program's and the model's.
-/
namespace Go.Proofs.Ytpmfpgfgkeejnaa
open Go.RowKit Fld
set_option linter.unusedVariables false
set_option linter.unusedSimpArgs false
set_option maxRecDepth 100000

theorem total_bd {q : Nat} : ∀ {m : List (List Int)}, (∀ t ∈ m, t.length ≤ q) → total m ≤ m.length * q
  | [], _ => by simp [total]
  | x :: r, h => by
    have h1 := h x (by simp)
    have h2 := total_bd (fun t ht => h t (by simp [ht]) : ∀ t ∈ r, t.length ≤ q)
    have e : total (x :: r) = x.length + total r := by simp [total]
    rw [e, List.length_cons, Nat.add_mul, Nat.one_mul]; omega
theorem trees_total {n : Nat} (h1 : 1 ≤ n) (h8 : n ≤ 8) : (Tr.treesL n).length + total (Tr.treesL n) ≤ 1048576 := by
  obtain ⟨ha, hl⟩ := trees_all h1 h8
  have := total_bd (q := 8) (m := Tr.treesL n) (fun t ht => by rw [(ha t ht).2]; exact h8)
  omega
def treesOfA (a : Int) : List (List Int) × Int := if 1 ≤ a ∧ a ≤ 8 then (Tr.treesL a.toNat, 0) else ([], 2)
theorem treesOfA_yes {n : Nat} (h1 : 1 ≤ n) (h8 : n ≤ 8) : treesOfA (n : Int) = (Tr.treesL n, 0) := by
  unfold treesOfA; rw [if_pos (by omega)]; rfl
theorem treesOfA_no {a : Int} (h : ¬ (1 ≤ a ∧ a ≤ 8)) : treesOfA a = ([], 2) := if_neg h
theorem pTreesOf_L (a : Int) (w : World) (ha : -9223372036854775808 ≤ a ∧ a ≤ 9223372036854775807) : Calls Try.prog 12 #[.int .i64 a] w (ResM (treesOfA a) w) := by
  by_cases h : 1 ≤ a ∧ a ≤ 8
  · obtain ⟨n, rfl⟩ : ∃ n : Nat, a = (n : Int) := ⟨a.toNat, by omega⟩
    have h1 : 1 ≤ n := by omega
    have h8 : n ≤ 8 := by omega
    have G := Lib.hid (treesOfA_yes h1 h8)
    clear h ha
    go_enter Try.func12, Try.ntmps12
    go_wp2_with fail
    refine (treesWith_any n _ h1 h8).mono ?_
    rintro e w1 ⟨A1, c1, vs1, rfl, own1, bel1⟩
    have HO := Lib.hid own1
    have HB := Lib.hid bel1
    have HT := Lib.hid (trees_total h1 h8)
    clear own1 bel1
    go_wp2
    go_ret2
    exact ResM.of G.out HT.out HO.out HB.out
  · have G := Lib.hid (treesOfA_no h)
    by_cases h1 : a < 1
    · clear h
      go_enter Try.func12, Try.ntmps12
      go_wp2
      go_ret2
      exact ResM.nil G.out (Below.refl _ _)
    · have h8 : 8 < a := by omega
      clear h
      go_enter Try.func12, Try.ntmps12
      go_wp2
      go_ret2
      exact ResM.nil G.out (Below.refl _ _)
end Go.Proofs.Ytpmfpgfgkeejnaa
/-
  What FreeTreesOf answers, the program's and the model's.
-/
namespace Go.Proofs.Ytpmfpgfgkeejnaa
open Go.RowKit Fld
set_option linter.unusedVariables false
set_option linter.unusedSimpArgs false
set_option maxRecDepth 100000

theorem chk_trees : ((List.range 8).all fun n => (Tr.treesL (n + 1)).all (fun t => decide (Tr.can t = t)) && decide (1 ≤ (Tr.treesL (n + 1)).length)) = true := by decide +kernel
theorem trees_can {n : Nat} (h1 : 1 ≤ n) (h8 : n ≤ 8) : (∀ t ∈ Tr.treesL n, Tr.can t = t) ∧ 1 ≤ (Tr.treesL n).length := by
  obtain ⟨k, rfl⟩ : ∃ k, n = k + 1 := ⟨n - 1, by omega⟩
  have h := List.all_eq_true.1 chk_trees k (by rw [List.mem_range]; omega)
  simp only [Bool.and_eq_true, List.all_eq_true, decide_eq_true_eq] at h
  exact ⟨h.1, by omega⟩
theorem txt_eqF {s t : List Int} (hs : Tr.isLv s = true) (ht : Tr.isLv t = true) (cs : Tr.can s = s) (ct : Tr.can t = t) : decide (Tr.txt s = Tr.txt t) = eqL s t := by
  have this : s = t ↔ Tr.txt s = Tr.txt t := ⟨fun e => by rw [e], fun e => by rw [← cs, ← ct, ← (lv_txt hs).1, ← (lv_txt ht).1, e]⟩
  unfold eqL
  by_cases e : s = t
  · rw [decide_eq_true e, decide_eq_true (this.1 e)]
  · rw [decide_eq_false e, decide_eq_false (fun q => e (this.2 q))]
theorem keep_eq {t : List Int} (h : Tr.isLv t = true) (hc : Tr.can t = t) : eqL (freeL t) t = keepT t := by
  obtain ⟨_, q1, q2, q3, q4⟩ := free_parts h
  rw [← txt_eqF q2 h q3 hc, q1]
  rfl
def freeTreesA (a : Int) : List (List Int) × Int := if 1 ≤ a ∧ a ≤ 8 then ((Tr.treesL a.toNat).filter keepT, 0) else ([], 2)
theorem freeTreesA_yes {n : Nat} (h1 : 1 ≤ n) (h8 : n ≤ 8) : freeTreesA (n : Int) = ((Tr.treesL n).filter keepT, 0) := by
  unfold freeTreesA; rw [if_pos (by omega)]; rfl
theorem freeTreesA_no {a : Int} (h : ¬ (1 ≤ a ∧ a ≤ 8)) : freeTreesA a = ([], 2) := if_neg h
theorem total_filter (p : List Int → Bool) : ∀ m : List (List Int), total (m.filter p) ≤ total m
  | [] => Nat.le_refl _
  | t :: m => by
    have ih := total_filter p m
    unfold total at *
    rw [List.filter_cons]
    split
    · simp only [List.map_cons, List.sum_cons]; omega
    · simp only [List.map_cons, List.sum_cons]; omega
theorem free_total {n : Nat} (h1 : 1 ≤ n) (h8 : n ≤ 8) : ((Tr.treesL n).filter keepT).length + total ((Tr.treesL n).filter keepT) ≤ 1048576 := by
  have h2 := trees_total h1 h8
  have h3 := List.length_filter_le keepT (Tr.treesL n)
  have h4 := total_filter keepT (Tr.treesL n)
  omega
theorem Mat.select {w w' : World} {lo B n c q c' g : Nat} {A : Option Addr} {m : List (List Int)} {vs : List Value} {idx : List Nat} (h : OwnMat w lo w.heap.size (.slice A n c) n m vs) (hb : Below w.heap.size w w') (hi : ∀ k ∈ idx, k < m.length)
    (ho : w'.ownsRow B 31 1 (.slice (some ⟨g, 0, none⟩) q c') q (idx.map fun k => vs.getD k nilV)) : Mat w' w'.heap.size (some ⟨g, 0, none⟩) (idx.map fun k => m.getD k []) := by
  intro k r hr
  rw [List.getElem?_map, Option.map_eq_some_iff] at hr
  obtain ⟨l, hl, rfl⟩ := hr
  have hlm := hi l (List.mem_of_getElem? hl)
  have e : m[l]? = some (m.getD l []) := by rw [List.getD_eq_getElem?_getD, List.getElem?_eq_getElem hlm]; rfl
  obtain ⟨A', c'', e1, o1⟩ := h.inner l _ e
  have e2 : (idx.map fun k => vs.getD k nilV)[k]? = some (.slice A' (m.getD l []).length c'') := by
    rw [List.getElem?_map, hl, Option.map_some, List.getD_eq_getElem?_getD (l := vs), e1]; rfl
  obtain ⟨b, o, e3, hbl, hcl⟩ := row_of_own ho k _ e2
  obtain ⟨c1, c2⟩ := own_cap o1.1
  exact ⟨b, o, A', c'', e3, hbl, hcl, c1, c2, ((o1.below hb (Nat.le_refl _)).row).more hb.size⟩
theorem deleteF_none (A : Option Addr) (c : Nat) (w : World) : Calls Try.prog 17 #[.slice A 0 c, (.func (.func 14) #[] #[])] w fun e w' => e = .returned (.slice A 0 c) ∧ Below w.heap.size w w' := by
  have C0 := indexF_any A 0 c w.heap.size [] w rfl (by omega) (fun t ht => by cases ht) (Nat.le_refl _) (fun k r hr => by simp at hr)
  go_enter Try.func17, Try.ntmps17
  go_wp2_with fail
  refine C0.mono ?_
  rintro e w1 ⟨⟨i, rfl, hi⟩, bel1⟩
  rcases hi with ⟨rfl, _⟩ | ⟨k, _, hk, _⟩
  · have HB := Lib.hid bel1
    clear C0 bel1
    go_wp2
    go_ret
    exact ⟨rfl, HB.out⟩
  · omega
set_option maxHeartbeats 1000000 in
theorem pFreeTreesOf_L (a : Int) (w : World) (ha : -9223372036854775808 ≤ a ∧ a ≤ 9223372036854775807) : Calls Try.prog 6 #[.int .i64 a] w (ResM (freeTreesA a) w) := by
  by_cases h : 1 ≤ a ∧ a ≤ 8
  · obtain ⟨n, rfl⟩ : ∃ n : Nat, a = (n : Int) := ⟨a.toNat, by omega⟩
    have h1 : 1 ≤ n := by omega
    have h8 : n ≤ 8 := by omega
    have G := Lib.hid (freeTreesA_yes h1 h8)
    have E := treesOfA_yes h1 h8
    obtain ⟨t1, t2⟩ := trees_all h1 h8
    obtain ⟨_, t3⟩ := trees_can h1 h8
    have HT := Lib.hid (free_total h1 h8)
    have C0 := fun w => pTreesOf_L (n : Int) w (by omega)
    rw [E] at C0
    obtain ⟨m, hm⟩ : ∃ m, m = Tr.treesL n := ⟨_, rfl⟩
    rw [← hm] at C0 G t1 t2 t3 HT
    clear h ha E hm
    go_enter Try.func6, Try.ntmps6
    go_wp2_with fail
    refine (C0 _).mono ?_
    rintro e w1 ⟨_, A1, c1, vs1, rfl, own1, bel1⟩
    obtain ⟨g, cap, hv⟩ := own_form own1.outer.1 (by show 0 < m.length; omega)
    have hv2 : A1 = some ⟨g, 0, none⟩ := by injection hv
    subst hv2
    clear hv
    simp only at own1 ⊢
    have C1 := deleteF_any w.heap.size g m.length c1 m vs1 w1 (fun t ht => (t1 t ht).1) t3 (by omega) bel1.size own1
    have HB := Lib.hid bel1
    clear own1 bel1 t1 C0
    go_wp2_with fail
    refine C1.mono ?_
    rintro e w2 ⟨q, vs2, rfl, hq, own3, bel3⟩
    have HB3 : Hid (Below w.heap.size w w2) := HB.out.trans bel3
    have HQ := Lib.hid hq
    have HO := Lib.hid own3
    clear hq own3 bel3 C1
    go_wp2
    go_ret2
    exact ResM.of G.out HT.out HO.out HB3.out
  · have G := Lib.hid (freeTreesA_no h)
    have E := treesOfA_no h
    have C0 := fun w => pTreesOf_L a w ha
    rw [E] at C0
    clear h E
    go_enter Try.func6, Try.ntmps6
    go_wp2_with fail
    refine (C0 _).mono ?_
    rintro e w1 ⟨_, A1, c1, vs1, rfl, own1, bel1⟩
    simp only [List.length_nil] at own1 ⊢
    have C1 := deleteF_none A1 c1 w1
    have HO := Lib.hid own1
    have HB := Lib.hid bel1
    clear own1 bel1 C0
    go_wp2_with fail
    refine C1.mono ?_
    rintro e w2 ⟨rfl, bel2⟩
    have HB2 : Hid (Below w.heap.size w w2) := HB.out.trans (bel2.mono HB.out.size)
    have HO2 := Lib.hid ((HO.out.below bel2 (Nat.le_refl _)).more (Nat.le_refl _) bel2.size)
    clear bel2 C1
    go_wp2
    go_ret2
    exact ResM.of G.out (by decide) HO2.out HB2.out
set_option maxHeartbeats 4000000 in
theorem sFreeTreesOf_L (a : Int) (w : World) (ha : -9223372036854775808 ≤ a ∧ a ≤ 9223372036854775807) : Calls Try.prog 7 #[.int .i64 a] w (ResMl (freeTreesA a) w) := by
  obtain ⟨j0, hj, hy0, hy1, hy2⟩ := info_parts info_row
  by_cases h : 1 ≤ a ∧ a ≤ 8
  · obtain ⟨n, rfl⟩ : ∃ n : Nat, a = (n : Int) := ⟨a.toNat, by omega⟩
    have h1 : 1 ≤ n := by omega
    have h8 : n ≤ 8 := by omega
    have G := Lib.hid (freeTreesA_yes h1 h8)
    have T := isIn_yes (n := (n : Int)) (l := 1) (h := 8) (by omega) (by omega)
    obtain ⟨t1, t2⟩ := trees_all h1 h8
    obtain ⟨t4, t3⟩ := trees_can h1 h8
    have HT := Lib.hid (free_total h1 h8)
    have C0 := fun w => l03Trees_any n w h1 h8
    obtain ⟨m, hm⟩ : ∃ m, m = Tr.treesL n := ⟨_, rfl⟩
    simp only [← hm] at C0
    rw [← hm] at G t1 t2 t3 t4 HT
    obtain ⟨nm, hnm⟩ : ∃ nm, nm = m.length := ⟨_, rfl⟩
    rw [← hnm] at t2 t3
    simp only [← hnm] at C0
    have HN := Lib.hid hnm
    have H1 := Lib.hid t1
    have H4 := Lib.hid t4
    clear h ha hm hnm t1 t4
    go_enter Try.func7, Try.ntmps7
    go_wp2_with fail
    refine (l01In_any _ _ _ _).mono ?_
    rintro e w' ⟨rfl, rfl⟩
    rw [T]
    go_wp2_with fail
    refine (C0 _).mono ?_
    rintro e w1 ⟨A1, c1, vs1, rfl, own1, bel1⟩
    have HO := Lib.hid own1
    have HB := Lib.hid bel1
    have HRV : Hid (Row w1 w1.heap.size A1 vs1) := row_of_own own1.outer.1
    have hcap := own_cap own1.outer.1
    clear own1 bel1 C0
    go_wp2_with fail
    go_loopw [5, 6] (fun v i wr => ∃ (j q g cap : Nat) (C : List Value), v = .slice (some ⟨g, 0, none⟩) q cap ∧ i = .int .i64 j ∧ j ≤ nm ∧ Hid (q = (idxTo keepT m j).length) ∧ Hid (wr.ownsRow w1.heap.size 31 1 (.slice (some ⟨g, 0, none⟩) q cap) q C) ∧ Hid (C = selV keepT m vs1 j) ∧ Hid (Below w1.heap.size w1 wr)) (fun _ i _ => nm - (intOf i).toNat)
    case atStart => exact ⟨0, 0, _, 0, [], rfl, rfl, Nat.zero_le _, rfl, (Growing.start w1 31).1, rfl, (Growing.start w1 31).2⟩
    case round =>
      obtain ⟨j, q, g, cap, C, rfl, rfl, hjn, HQ, HOW, HC, HBW⟩ := hrel
      have hqj : q ≤ j := by rw [HQ.out]; exact idxTo_le _ _ _
      have hszw := HBW.out.size
      by_cases hlt : j < nm
      · obtain ⟨t, ht⟩ := at_lt (show j < m.length by rw [← HN.out]; exact hlt)
        have hmem := List.mem_of_getElem? ht
        have hlv := (H1.out t hmem).1
        obtain ⟨a1, a8⟩ := lv_bd hlv
        obtain ⟨Ak, ck, e5, o5⟩ := HO.out.inner j t ht
        obtain ⟨b, o, e1, hb, hck⟩ := (Row.below HRV.out HBW.out (Nat.le_refl _)) j _ e5
        obtain ⟨hlc, hcm⟩ := own_cap o5.1
        have hrow := (o5.below HBW.out (Nat.le_refl _)).row
        obtain ⟨tn, htn⟩ : ∃ tn, tn = t.length := ⟨_, rfl⟩
        rw [← htn] at hck hlc a1 a8 e5
        subst e1
        have hbz : b < wr.heap.size := by omega
        have HCL : Hid (∀ w', Below wr.heap.size wr w' → w'.cell? ⟨b, o + j, none⟩ = some (.slice Ak tn ck)) := fun w' hw' => (hw'.cell (p := ⟨b, o + j, none⟩) hbz).trans hck
        have BW1 : Hid (Below wr.heap.size wr wr) := Below.refl _ _
        have C1 := fun w' (bw : Below wr.heap.size wr w') => l04Roots_any Ak tn ck w1.heap.size t w' htn.symm hlv hlc (Nat.le_trans hszw bw.size) (Row.below hrow bw hszw)
        have HRT : Hid (Row wr wr.heap.size Ak (ints t)) := hrow.more hszw
        obtain ⟨⟨x, p0⟩, _, _, _, p4⟩ := free_parts hlv
        rw [← htn] at p4
        have HPK := Lib.hid p0
        have HFL := Lib.hid p4
        have HTL := Lib.hid htn.symm
        have HKE := Lib.hid (keep_eq hlv (H4.out t hmem))
        have HST := Lib.hid (idxTo_step (p := keepT) ht)
        have HEV : Hid (vs1[j]? = some (.slice Ak tn ck)) := e5
        obtain ⟨R, hR⟩ : ∃ R, R = rootsL t := ⟨_, rfl⟩
        rw [← hR] at HPK
        simp only [← hR] at C1
        have hR1 : 0 < R.length := by
          rcases Nat.lt_or_ge 0 R.length with q | q
          · exact q
          · have := HPK.out; rw [List.getElem?_eq_none q] at this; cases this
        obtain ⟨nr, hnr⟩ : ∃ nr, nr = R.length := ⟨_, rfl⟩
        simp only [← hnr] at C1
        rw [← hnr] at hR1
        clear hR hnr htn ht hmem hlv hck hlc hcm hrow p0 p4 hb e5 o5
        go_wp2_with fail
        refine wp_region_noPanic ?_
        refine wp_region_held_drew (S := (fun w' => w'.cell? ⟨b, o + j, none⟩ = some (.slice Ak tn ck))) (by kernel_rfl) ?_ (fun hHeld => ?_)
        · exact HCL.out _ (below_drew' BW1.out)
        refine wpAnyH_take (i := 0) (oi := _) (v := ?_) rfl (by kernel_rfl) (by kernel_rfl) (by kernel_rfl) (fun _ _ _ h => h) (Or.inl ⟨by kernel_rfl, ?_⟩) (by assumption) ?_
        rotate_left
        · (intro w hSw; (try dsimp only at hSw); go_simp; try (with_reducible rfl))
        try simp only [Act.put, List.setIfInBounds_toArray, List.set_cons_zero, List.set_cons_succ, List.getElem_toArray, List.getElem_cons_zero, List.getElem_cons_succ]
        refine wpAnyH_take (i := 1) (oi := _) (v := ?_) rfl (by kernel_rfl) (by kernel_rfl) (by kernel_rfl) (fun _ _ _ h => h) (Or.inl ⟨by kernel_rfl, ?_⟩) (by assumption) ?_
        rotate_left
        · (intro w hSw; (try dsimp only at hSw); go_simp; try (with_reducible rfl))
        try simp only [Act.put, List.setIfInBounds_toArray, List.set_cons_zero, List.set_cons_succ, List.getElem_toArray, List.getElem_cons_zero, List.getElem_cons_succ]
        refine wpAnyH_take (i := 2) (oi := _) (v := ?_) rfl (by kernel_rfl) (by kernel_rfl) (by kernel_rfl) (fun _ _ _ h => h) (Or.inl ⟨by kernel_rfl, ?_⟩) (by assumption) ?_
        rotate_left
        · (intro w hSw; (try dsimp only at hSw); go_simp; try (with_reducible rfl))
        try simp only [Act.put, List.setIfInBounds_toArray, List.set_cons_zero, List.set_cons_succ, List.getElem_toArray, List.getElem_cons_zero, List.getElem_cons_succ]
        refine wpAnyH_take (i := 3) (oi := _) (v := ?_) rfl (by kernel_rfl) (by kernel_rfl) (by kernel_rfl) (fun _ _ _ h => h) (Or.inl ⟨by kernel_rfl, ?_⟩) (by assumption) ?_
        rotate_left
        · (intro w hSw; (try dsimp only at hSw); go_simp; try (with_reducible rfl))
        try simp only [Act.put, List.setIfInBounds_toArray, List.set_cons_zero, List.set_cons_succ, List.getElem_toArray, List.getElem_cons_zero, List.getElem_cons_succ]
        refine wpAnyH_take (i := 8) (oi := _) (v := ?_) rfl (by kernel_rfl) (by kernel_rfl) (by kernel_rfl) (fun _ _ _ h => h) (Or.inl ⟨by kernel_rfl, ?_⟩) (by assumption) ?_
        rotate_left
        · (intro w hSw; (try dsimp only at hSw); go_simp; try (with_reducible rfl))
        try simp only [Act.put, List.setIfInBounds_toArray, List.set_cons_zero, List.set_cons_succ, List.getElem_toArray, List.getElem_cons_zero, List.getElem_cons_succ]
        refine wpAnyH_take (i := 9) (oi := _) (v := ?_) rfl (by kernel_rfl) (by kernel_rfl) (by kernel_rfl) (fun _ _ _ h => h) (Or.inl ⟨by kernel_rfl, ?_⟩) (by assumption) ?_
        rotate_left
        · (intro w hSw; (try dsimp only at hSw); go_simp; try (with_reducible rfl))
        try simp only [Act.put, List.setIfInBounds_toArray, List.set_cons_zero, List.set_cons_succ, List.getElem_toArray, List.getElem_cons_zero, List.getElem_cons_succ]
        refine wpAnyH_take (i := 10) (oi := _) (v := ?_) rfl (by kernel_rfl) (by kernel_rfl) (by kernel_rfl) (fun _ _ _ h => h) (Or.inl ⟨by kernel_rfl, ?_⟩) (by assumption) ?_
        rotate_left
        · (intro w hSw; (try dsimp only at hSw); go_simp; try (with_reducible rfl))
        try simp only [Act.put, List.setIfInBounds_toArray, List.set_cons_zero, List.set_cons_succ, List.getElem_toArray, List.getElem_cons_zero, List.getElem_cons_succ]
        refine wpAnyH_take (i := 11) (oi := _) (v := ?_) rfl (by kernel_rfl) (by kernel_rfl) (by kernel_rfl) (fun _ _ _ h => h) (Or.inl ⟨by kernel_rfl, ?_⟩) (by assumption) ?_
        rotate_left
        · (intro w hSw; (try dsimp only at hSw); go_simp; try (with_reducible rfl))
        try simp only [Act.put, List.setIfInBounds_toArray, List.set_cons_zero, List.set_cons_succ, List.getElem_toArray, List.getElem_cons_zero, List.getElem_cons_succ]
        have BW2 := below_drew' BW1.out
        refine wpAnyH_ready (rs := [4]) (by kernel_rfl) (by simp) (AllReadyH.cons (o := _) rfl (fun K hK => ?_) AllReadyH.nil)
        go_simp
        (go_at_call 21; refine (C1 _ BW2).mono ?_; rintro e w3 ⟨As, cs, rfl, hcs, hcsm, HS, bel3⟩)
        obtain ⟨bs, os, Ks, ks, es, hbs, hcs0, _, _, hks, hrows⟩ := HS.at HPK.out
        cases es
        rw [Nat.zero_mul, Nat.add_zero] at hcs0
        simp only at hcs0 hrows
        rw [HFL.out] at hcs0
        have HRs := Lib.hid hrows.row
        have BW3 := BW2.trans (bel3.mono BW2.size)
        clear HS hrows hks bel3 C1
        go_wp2_with fail
        refine hK.out _ _ ?_ (fun hHeld => ?_)
        · exact HCL.out _ BW3
        clear hK K
        try simp only [Act.put, List.setIfInBounds_toArray, List.set_cons_zero, List.set_cons_succ, List.getElem_toArray, List.getElem_cons_zero, List.getElem_cons_succ]
        refine wpAnyH_take (i := 5) (oi := _) (v := ?_) rfl (by kernel_rfl) (by kernel_rfl) (by kernel_rfl) (fun _ _ _ h => h) (Or.inl ⟨by kernel_rfl, ?_⟩) (by assumption) ?_
        rotate_left
        · (intro w hSw; (try dsimp only at hSw); go_simp; try (with_reducible rfl))
        try simp only [Act.put, List.setIfInBounds_toArray, List.set_cons_zero, List.set_cons_succ, List.getElem_toArray, List.getElem_cons_zero, List.getElem_cons_succ]
        refine wpAnyH_take (i := 6) (oi := _) (v := ?_) rfl (by kernel_rfl) (by kernel_rfl) (by kernel_rfl) (fun _ _ _ h => h) (Or.inl ⟨by kernel_rfl, ?_⟩) (by assumption) ?_
        rotate_left
        · (intro w hSw; (try dsimp only at hSw); go_simp; try (with_reducible rfl))
        try simp only [Act.put, List.setIfInBounds_toArray, List.set_cons_zero, List.set_cons_succ, List.getElem_toArray, List.getElem_cons_zero, List.getElem_cons_succ]
        refine wpAnyH_ready (rs := [7]) (by kernel_rfl) (by simp) (AllReadyH.cons (o := _) rfl (fun K hK => ?_) AllReadyH.nil)
        go_simp
        refine hK.out _ _ ?_ (fun hHeld => ?_)
        · exact HCL.out _ BW3
        clear hK K
        try simp only [Act.put, List.setIfInBounds_toArray, List.set_cons_zero, List.set_cons_succ, List.getElem_toArray, List.getElem_cons_zero, List.getElem_cons_succ]
        refine wpAnyH_ready (rs := [12]) (by kernel_rfl) (by simp) (AllReadyH.cons (o := _) rfl (fun K hK => ?_) AllReadyH.nil)
        go_simp
        (go_at_call 20; refine (l01Same_any Ks Ak tn tn ks ck _ _ (freeL t) t w3 HFL.out HTL.out (by omega) (by omega) HRs.out (HRT.out.below BW3 (Nat.le_refl _))).mono ?_; rintro e w4 ⟨rfl, m4, rfl⟩)
        have BW4 : Hid (Below wr.heap.size wr (w3.drewN m4)) := below_drewN BW3 _
        go_wp2_with fail
        refine hK.out _ _ ?_ (fun hHeld => ?_)
        · exact HCL.out _ BW4.out
        clear hK K
        try simp only [Act.put, List.setIfInBounds_toArray, List.set_cons_zero, List.set_cons_succ, List.getElem_toArray, List.getElem_cons_zero, List.getElem_cons_succ]
        refine wpAnyH_done (by kernel_rfl) ?_ _
        refine NoPanic.normal ?_
        rw [HKE.out]
        have GB : Hid (Below w1.heap.size w1 (w3.drewN m4)) := HBW.out.trans (BW4.out.mono hszw)
        have HOW2 : Hid ((w3.drewN m4).ownsRow w1.heap.size 31 1 (.slice (some ⟨g, 0, none⟩) q cap) q C) := ((OwnR.of HOW.out).below BW4.out (Nat.le_refl _)).1
        have hcell := HCL.out _ BW4.out
        have hszz := GB.out.size
        have hgl := (HOW2.out.lt g rfl).1
        clear HRs HRT HCL BW1 BW2 BW3 BW4 HBW HOW hHeld hcs0 hbs
        generalize w3.drewN m4 = W4 at *
        cases hs : keepT t
        · have HIX : Hid (idxTo keepT m (j + 1) = idxTo keepT m j) := by rw [Hid, HST.out, hs]; simp
          have HQ2 : Hid (q = (idxTo keepT m (j + 1)).length) := by rw [Hid, HIX.out]; exact HQ.out
          have HC2 : Hid (C = selV keepT m vs1 (j + 1)) := by unfold selV; rw [Hid, HIX.out]; exact HC.out
          clear hs hcell
          go_wp2
          go_roundw
          case rel => exact ⟨j + 1, q, g, cap, C, rfl, by go_num, by omega, HQ2, HOW2, HC2, GB⟩
          case measure => simp [intOf]; omega
        · have HIX : Hid (idxTo keepT m (j + 1) = idxTo keepT m j ++ [j]) := by rw [Hid, HST.out, hs]; simp
          have HQ2 : Hid (q + 1 = (idxTo keepT m (j + 1)).length) := by rw [Hid, HIX.out, List.length_append, ← HQ.out]; rfl
          have HC2 : Hid (C ++ [.slice Ak tn ck] = selV keepT m vs1 (j + 1)) := by
            unfold selV
            rw [Hid, HIX.out, List.map_append, HC.out, List.map_singleton, List.getD_eq_getElem?_getD, HEV.out]; rfl
          clear hs
          go_wp2_with (at_builtin; refine wpList_append_lies _ rfl (.tmp 32) (.tmp 37) 25 rfl w1.heap.size 31 j0 _ 1 24 Try.underlying25 hj hy0 hy1 hy2 rfl (by omega) (.slice (some ⟨g, 0, none⟩) q cap) q C rfl (HOW2.out.alloc _) ⟨W4.heap.size, 0, none⟩ 1 1 [.slice Ak tn ck] rfl rfl (World.news_of_block (cs := #[.slice Ak tn ck]) (heap_alloc_new _ _)) (by simp [Value.oneCell']) (by omega) (by simp only [maxLen]; omega) (by omega) (by simp; omega) (W4.heap.size + 1) (by simp) ?_; intro g5 cap5 w5 hown5 hgrow5 hat5 hlt5)
          have GB5 : Hid (Below w1.heap.size w1 w5) := (GB.out.alloc hszz _).grown hgrow5 (by simp; omega) (fun k hk => by cases hk; exact hgl)
          have HOW5 := Lib.hid hown5
          clear hown5 hgrow5 hat5
          go_wp2
          go_roundw
          case rel => exact ⟨j + 1, q + 1, g5, cap5, _, rfl, by go_num, by omega, HQ2, HOW5, HC2, GB5⟩
          case measure => simp [intOf]; omega
      · have hj9 : j = m.length := by rw [← HN.out]; omega
        have e8 : (idxTo keepT m j).map (fun k => m.getD k []) = m.filter keepT := by rw [hj9]; exact idxTo_all m
        have hq9 : Hid ((m.filter keepT).length = q) := by rw [Hid, ← e8, List.length_map, HQ.out]
        have hrow9 := HOW.out
        rw [HC.out] at hrow9
        have hM : Hid (Mat wr wr.heap.size (some ⟨g, 0, none⟩) (m.filter keepT)) := by
          have h9 := Mat.select HO.out HBW.out (fun k hk => Nat.lt_of_lt_of_le (idxTo_lt hk) (by rw [hj9]; exact Nat.le_refl _)) hrow9
          rw [e8] at h9
          exact h9
        have GB : Hid (Below w.heap.size w wr) := HB.out.trans (HBW.out.mono HB.out.size)
        clear hj9 e8 hrow9 HBW HOW HC
        go_wp2
        go_ret2
        exact ResMl.of G.out hq9.out HT.out hM.out GB.out
  · have G := Lib.hid (freeTreesA_no h)
    have T := isIn_no (n := a) (l := 1) (h := 8) (by omega)
    clear h
    go_enter Try.func7, Try.ntmps7
    go_wp2_with fail
    refine (l01In_any _ _ _ _).mono ?_
    rintro e w' ⟨rfl, rfl⟩
    rw [T]
    go_wp2
    go_ret2
    exact ResMl.nil G.out (Below.refl _ _)
end Go.Proofs.Ytpmfpgfgkeejnaa
/-
  Superfluous free trees, gone through.
-/
namespace Go.Proofs.Ytpmfpgfgkeejnaa.Tr
set_option maxRecDepth 100000

def halfL (t : List Int) (k : Nat) : Bool := decide ((trunkL t k).length = (branchL t k).length) && decide (turnF 9 (trunkL t k) (parL t (t.getD k 0 - 1) k) = can (branchL t k))
def doubleL (t : List Int) (n : Nat) : Bool := (List.range n).any fun k => halfL t (k + 1)
def sqT (x b : List UInt8) : Bool := decide (rootT (brT b ++ [b]) = x)
def supT (x : List UInt8) : Bool := ((List.range (x.length / 2)).map fun k => rerF 8 x k []).any fun y => (brT y).any (sqT y)
def chkW (t : List Int) : Bool := !decide (can t = t) || (doubleL t (t.length - 1) == supT (txt t))
theorem chkW_0 : ((allLv.drop 0).take 197).all chkW = true := by decide +kernel
theorem chkW_1 : ((allLv.drop 197).take 73).all chkW = true := by decide +kernel
theorem chkW_2 : ((allLv.drop 270).take 70).all chkW = true := by decide +kernel
theorem chkW_3 : ((allLv.drop 340).take 70).all chkW = true := by decide +kernel
theorem chkW_4 : ((allLv.drop 410).take 70).all chkW = true := by decide +kernel
theorem chkW_5 : ((allLv.drop 480).take 70).all chkW = true := by decide +kernel
theorem chkW_6 : ((allLv.drop 550).take 150).all chkW = true := by decide +kernel
theorem all_dropW {p : List Int → Bool} {l : List (List Int)} {a k : Nat} (h1 : ((l.drop a).take k).all p = true) (h2 : (l.drop (a + k)).all p = true) : (l.drop a).all p = true := by
  rw [← List.take_append_drop k (l.drop a), List.all_append, h1, List.drop_drop, h2]; rfl
theorem drop_noneW : (allLv.drop 700).all chkW = true := by
  rw [List.drop_of_length_le (by decide +kernel)]; rfl
theorem chkW_all : allLv.all chkW = true :=
  all_dropW (a := 0) (k := 197) chkW_0 (all_dropW (a := 197) (k := 73) chkW_1 (all_dropW (a := 270) (k := 70) chkW_2 (all_dropW (a := 340) (k := 70) chkW_3 (all_dropW (a := 410) (k := 70) chkW_4 (all_dropW (a := 480) (k := 70) chkW_5 (all_dropW (a := 550) (k := 150) chkW_6 drop_noneW))))))
theorem sup_eq {t : List Int} (h : isLv t = true) (hc : can t = t) : doubleL t (t.length - 1) = supT (txt t) := by
  have h1 := all_of chkW_all (isLv_iff.1 h)
  unfold chkW at h1
  rw [decide_eq_true hc] at h1
  simpa using h1
theorem doubleL_step (t : List Int) (n : Nat) : doubleL t (n + 1) = (doubleL t n || halfL t (n + 1)) := by
  unfold doubleL
  rw [List.range_succ, List.any_append]; simp
end Go.Proofs.Ytpmfpgfgkeejnaa.Tr
/-
  A test beside a code.
-/
namespace Go.Proofs.Ytpmfpgfgkeejnaa
open Go.RowKit Fld
set_option linter.unusedVariables false
set_option linter.unusedSimpArgs false
set_option maxRecDepth 100000

/-- a test beside a code -/
def ResBI (r : Bool × Int) (w : World) (e : Ending) (w' : World) : Prop := e = .returned (.tuple #[.bool r.1, .int .i64 r.2]) ∧ Below w.heap.size w w'
theorem ResBI.of {r : Bool × Int} {w w' : World} {b : Bool} {k : Int} (h : r = (b, k)) (hb : Below w.heap.size w w') : ResBI r w (.returned (.tuple #[.bool b, .int .i64 k])) w' := by
  subst h; exact ⟨rfl, hb⟩
end Go.Proofs.Ytpmfpgfgkeejnaa
/-
  What IsSuperfluous answers: is a tree the Butcher product of a branch with itself (the program's), slices.ContainsFunc, the program's and the model's answer.
-/
namespace Go.Proofs.Ytpmfpgfgkeejnaa
open Go.RowKit Fld
set_option linter.unusedVariables false
set_option linter.unusedSimpArgs false
set_option maxRecDepth 100000

def sqAt (x b : List UInt8) : Bool := decide (Tr.rootT (Tr.brT b ++ [b]) = x)
def squareT (x : List UInt8) : Bool := (Tr.brT x).any (sqAt x)
theorem any_step {l : List (List UInt8)} {p : List UInt8 → Bool} {k : Nat} {b : List UInt8} (h : l[k]? = some b) (h0 : (l.take k).any p = false) (hp : p b = false) : (l.take (k + 1)).any p = false := by
  rw [List.take_add_one, h, Option.toList_some, List.any_append, h0]; simp [hp]
theorem any_hit {l : List (List UInt8)} {p : List UInt8 → Bool} {k : Nat} {b : List UInt8} (h : l[k]? = some b) (hp : p b = true) : l.any p = true :=
  List.any_eq_true.2 ⟨b, List.mem_of_getElem? h, hp⟩
theorem str_eqb (a b : List UInt8) : ((⟨a.toArray⟩ : ByteArray).toList == (⟨b.toArray⟩ : ByteArray).toList) = decide (a = b) := by
  rw [ByteArray.toList_eq, ByteArray.toList_eq]
  by_cases h : a = b
  · subst h; simp
  · rw [decide_eq_false h]; exact beq_eq_false_iff_ne.2 h
set_option maxHeartbeats 1000000 in
theorem isSquare_any (x : List UInt8) (w : World) (hx : Tr.isTx x = true) : Calls Try.prog 27 #[.string ⟨x.toArray⟩] w fun e w' => e = .returned (.bool (squareT x)) ∧ Below w.heap.size w w' := by
  obtain ⟨_, hb, h7⟩ := Tr.br_parts hx
  have HB := Lib.hid hb
  have hx16 := (Tr.br_parts hx).1.2
  have C0 := branches_any x w hx
  obtain ⟨bs, hbs⟩ : ∃ bs, bs = Tr.brT x := ⟨_, rfl⟩
  have HBS := Lib.hid hbs
  rw [← hbs] at C0 h7 HB
  obtain ⟨X, hX⟩ : ∃ X : ByteArray, X = ⟨x.toArray⟩ := ⟨_, rfl⟩
  have HX := Lib.hid hX
  rw [← hX] at C0 ⊢
  clear hbs hb hX hx
  go_enter Try.func27, Try.ntmps27
  go_wp2_with fail
  refine C0.mono ?_
  rintro e w1 ⟨A, q, c, rfl, hq, own1, bel1⟩
  have HQ := Lib.hid hq
  have hq7 : q ≤ 7 := by omega
  have HR := Lib.hid (row_of_own own1)
  have HB1 := Lib.hid bel1
  clear own1 bel1 hq C0
  go_wp2_with fail
  go_loopw [8] (fun i wr => ∃ k : Nat, k ≤ q ∧ i = .int .i64 k ∧ Hid ((bs.take k).any (sqAt x) = false) ∧ Below w1.heap.size w1 wr) (fun i _ => q - (intOf i).toNat)
  case atStart => exact ⟨0, Nat.zero_le _, rfl, by simp [Hid], Below.refl _ _⟩
  case round =>
    obtain ⟨k, hk, rfl, HA, HBW⟩ := hrel
    have hsz := HBW.size
    by_cases hlt : k < q
    · obtain ⟨b, hbk⟩ := at_lt (show k < bs.length by have := HQ.out; omega)
      obtain ⟨bb, oo, rfl, _, hck⟩ := (Row.below HR.out HBW (Nat.le_refl _)) k _ (strs_at hbk)
      obtain ⟨hbt, hbl⟩ := HB.out b (List.mem_of_getElem? hbk)
      have C1 := tTimes_any b b wr hbt (by omega)
      have e1 := str_eqb (Tr.rootT (Tr.brT b ++ [b])) x
      rw [← HX.out] at e1
      obtain ⟨Y, hY⟩ : ∃ Y : ByteArray, Y = ⟨b.toArray⟩ := ⟨_, rfl⟩
      obtain ⟨Z, hZ⟩ : ∃ Z : ByteArray, Z = ⟨(Tr.rootT (Tr.brT b ++ [b])).toArray⟩ := ⟨_, rfl⟩
      rw [← hY] at hck
      rw [← hY, ← hZ] at C1
      rw [← hZ] at e1
      have HBW' := Lib.hid HBW
      cases hs : sqAt x b
      · have G := Lib.hid (any_step hbk HA.out hs)
        rw [show decide (Tr.rootT (Tr.brT b ++ [b]) = x) = false from hs] at e1
        clear hbk HA hs hY hZ HBW hbl hbt
        go_wp2_with fail
        refine C1.mono ?_
        rintro e w2 ⟨rfl, bel2⟩
        have GB := Lib.hid (HBW'.out.trans (bel2.mono hsz))
        clear bel2 C1 hck
        go_wp2
        go_roundw
        case rel => exact ⟨k + 1, by omega, by go_num, G, GB.out⟩
        case measure => simp [intOf]; omega
      · have G : Hid (squareT x = true) := by
          rw [HBS.out] at hbk
          exact any_hit hbk hs
        rw [show decide (Tr.rootT (Tr.brT b ++ [b]) = x) = true from hs] at e1
        clear hbk HA hs hY hZ HBW hbl hbt
        go_wp2_with fail
        refine C1.mono ?_
        rintro e w2 ⟨rfl, bel2⟩
        have GB := Lib.hid (HB1.out.trans ((HBW'.out.trans (bel2.mono hsz)).mono HB1.out.size))
        clear bel2 C1 hck
        go_wp2
        go_ret
        exact ⟨ret_bool G.out.symm, GB.out⟩
    · obtain rfl : k = q := by omega
      have G : Hid (squareT x = false) := by
        have e := HA.out
        rw [List.take_of_length_le (by have := HQ.out; omega), HBS.out] at e
        exact e
      have GB := Lib.hid (HB1.out.trans (HBW.mono HB1.out.size))
      clear HA HBW
      go_wp2
      go_ret
      exact ⟨ret_bool G.out.symm, GB.out⟩
set_option maxHeartbeats 1000000 in
/-- the library's search for a tree that is a square -/
theorem indexSq_any (A : Option Addr) (n c B : Nat) (ss : List (List UInt8)) (w : World) (hl : ss.length = n) (hn : n ≤ 1048576) (hs : ∀ s ∈ ss, Tr.isTx s = true) (hB : B ≤ w.heap.size) (h : Row w B A (strs ss)) :
    Calls Try.prog 39 #[.slice A n c, (.func (.func 27) #[] #[])] w fun e w' => (∃ i : Int, e = .returned (.int .i64 i) ∧ -1 ≤ i ∧ i ≤ 1048576 ∧ decide (0 ≤ i) = ss.any squareT) ∧ Below w.heap.size w w' := by
  have HL := Lib.hid hl
  have HS := Lib.hid hs
  clear hl hs
  go_enter Try.func39, Try.ntmps39
  go_wp2_with fail
  go_loopw [8] (fun i wr => ∃ k : Nat, k ≤ n ∧ i = .int .i64 k ∧ Hid ((ss.take k).any squareT = false) ∧ Below w.heap.size w wr) (fun i _ => n - (intOf i).toNat)
  case atStart => exact ⟨0, Nat.zero_le _, rfl, by simp [Hid], Below.refl _ _⟩
  case round =>
    obtain ⟨k, hk, rfl, HA, HBW⟩ := hrel
    have hsz := HBW.size
    by_cases hlt : k < n
    · obtain ⟨b, hbk⟩ := at_lt (show k < ss.length by rw [HL.out]; exact hlt)
      obtain ⟨bb, oo, rfl, _, hck⟩ := (Row.below h HBW hB) k _ (strs_at hbk)
      have C1 := isSquare_any b wr (HS.out b (List.mem_of_getElem? hbk))
      obtain ⟨Y, hY⟩ : ∃ Y : ByteArray, Y = ⟨b.toArray⟩ := ⟨_, rfl⟩
      rw [← hY] at hck C1
      have HBW' := Lib.hid HBW
      cases hs : squareT b
      · have G := Lib.hid (any_step hbk HA.out hs)
        rw [hs] at C1
        clear hbk HA hs hY HBW
        go_wp2_with fail
        refine C1.mono ?_
        rintro e w2 ⟨rfl, bel2⟩
        have GB := Lib.hid (HBW'.out.trans (bel2.mono hsz))
        clear bel2 C1 hck
        go_wp2
        go_roundw
        case rel => exact ⟨k + 1, by omega, by go_num, G, GB.out⟩
        case measure => simp [intOf]; omega
      · have G : Hid (ss.any squareT = true) := any_hit hbk hs
        rw [hs] at C1
        clear hbk HA hs hY HBW
        go_wp2_with fail
        refine C1.mono ?_
        rintro e w2 ⟨rfl, bel2⟩
        have GB := Lib.hid (HBW'.out.trans (bel2.mono hsz))
        clear bel2 C1 hck
        go_wp2
        go_ret
        exact ⟨⟨(k : Int), rfl, by omega, by omega, by rw [G.out]; exact decide_eq_true (Int.natCast_nonneg _)⟩, GB.out⟩
    · obtain rfl : k = n := by omega
      have G : Hid (ss.any squareT = false) := by
        have e := HA.out
        rw [List.take_of_length_le (by rw [HL.out]; exact Nat.le_refl _)] at e
        exact e
      have GB := Lib.hid HBW
      clear HA HBW
      go_wp2
      go_ret
      exact ⟨⟨-1, rfl, by omega, by omega, by rw [G.out]; rfl⟩, GB.out⟩
theorem containsSq_any (A : Option Addr) (n c B : Nat) (ss : List (List UInt8)) (w : World) (hl : ss.length = n) (hn : n ≤ 1048576) (hs : ∀ s ∈ ss, Tr.isTx s = true) (hB : B ≤ w.heap.size) (h : Row w B A (strs ss)) :
    Calls Try.prog 25 #[.slice A n c, (.func (.func 27) #[] #[])] w fun e w' => e = .returned (.bool (ss.any squareT)) ∧ Below w.heap.size w w' := by
  have C0 := indexSq_any A n c B ss w hl hn hs hB h
  clear hl hs h
  go_enter Try.func25, Try.ntmps25
  go_wp2_with fail
  refine C0.mono ?_
  rintro e w1 ⟨⟨i, rfl, h1, h2, h3⟩, bel1⟩
  have H3 := Lib.hid h3
  have GB := Lib.hid bel1
  clear h3 bel1 C0
  go_wp2
  go_ret
  exact ⟨by rw [← H3.out]; rfl, GB.out⟩
def supA (t : List Int) : Bool × Int := if Tr.isLv t = true then (Tr.supT (Tr.txt t), 0) else (false, 1)
theorem supA_no {t : List Int} (h : Tr.isLv t = false) : supA t = (false, 1) := if_neg (by rw [h]; simp)
theorem supA_yes {t : List Int} (h : Tr.isLv t = true) : supA t = ((rootsT (Tr.txt t)).any squareT, 0) := if_pos h
set_option maxHeartbeats 1000000 in
theorem pIsSuperfluous_L (A : Option Addr) (n c B : Nat) (t : List Int) (w : World) (hl : t.length = n) (hn : n ≤ 1048576) (hB : B ≤ w.heap.size) (h : Row w B A (ints t)) (hc : n ≤ c) :
    Calls Try.prog 9 #[.slice A n c] w (ResBI (supA t) w) := by
  have C0 := isLevels_any A n c B t w hl (by omega) h
  cases h1 : Tr.isLv t
  · have G := Lib.hid (supA_no h1)
    rw [h1] at C0
    clear hl h1
    go_enter Try.func9, Try.ntmps9
    go_wp2_with fail
    refine C0.mono ?_
    rintro e w1 ⟨rfl, d, rfl⟩
    go_wp2
    go_ret2
    exact ResBI.of G.out (below_drewN (Below.refl _ _) _)
  · rw [h1] at C0
    have G := Lib.hid (supA_yes h1)
    obtain ⟨a1, a8⟩ := lv_bd h1
    rw [hl] at a1 a8
    have z1 := (lv_txt h1).2.2.2
    rw [hl] at z1
    have hx := Tr.tx_txt h1
    have C2 := fun w => roots_any (Tr.txt t) w hx
    have HS : Hid (∀ s ∈ rootsT (Tr.txt t), Tr.isTx s = true) := fun s hs => roots_tx hx s hs
    have HL := Lib.hid hl
    have HR : Hid ((rootsT (Tr.txt t)).length = n) := by rw [Hid, rootsT_len, z1]; omega
    have hz : (Tr.txt t).length / 2 = n := by rw [z1]; omega
    rw [hz] at C2
    clear hl h1 z1 hx hz
    go_enter Try.func9, Try.ntmps9
    go_wp2_with fail
    refine C0.mono ?_
    rintro e w1 ⟨rfl, d, rfl⟩
    have B1 : Hid (Below w.heap.size w (w.drewN d)) := below_drewN (Below.refl _ _) d
    generalize w.drewN d = W1 at *
    go_wp2_with fail
    refine (treeOf_any A n c B t _ HL.out a1 a8 hc (Nat.le_trans hB B1.out.size) (Row.below h B1.out hB)).mono ?_
    rintro e w2 ⟨rfl, bel2⟩
    have B2 : Hid (Below w.heap.size w w2) := B1.out.trans (bel2.mono B1.out.size)
    clear bel2
    go_wp2_with fail
    refine (C2 _).mono ?_
    rintro e w3 ⟨rfl, own3, bel3⟩
    have B3 : Hid (Below w.heap.size w w3) := B2.out.trans (bel3.mono B2.out.size)
    have HROW := Lib.hid (row_of_own own3)
    clear own3 bel3 C2
    go_wp2_with fail
    refine (containsSq_any _ n n w3.heap.size (rootsT (Tr.txt t)) w3 HR.out (by omega) HS.out (Nat.le_refl _) HROW.out).mono ?_
    rintro e w4 ⟨rfl, bel4⟩
    have B4 : Hid (Below w.heap.size w w4) := B3.out.trans (bel4.mono B3.out.size)
    clear bel4
    go_wp2
    go_ret2
    exact ResBI.of G.out B4.out
end Go.Proofs.Ytpmfpgfgkeejnaa
/-
  Free conditions, picked out by the library's DeleteFunc.
-/
namespace Go.Proofs.Ytpmfpgfgkeejnaa
open Go.RowKit Fld
set_option linter.unusedVariables false
set_option linter.unusedSimpArgs false
set_option maxRecDepth 100000

theorem str_eqbfC (a b : List UInt8) : ((⟨a.toArray⟩ : ByteArray).toList == (⟨b.toArray⟩ : ByteArray).toList) = decide (a = b) := by
  rw [ByteArray.toList_eq, ByteArray.toList_eq]
  by_cases h : a = b
  · subst h; simp
  · rw [decide_eq_false h]; exact beq_eq_false_iff_ne.2 h
/-- its own free form, and not superfluous -/
def condT (x : List UInt8) : Bool := decide (x = minT (rootsT x)) && !(rootsT x).any squareT
def keepC (t : List Int) : Bool := condT (Tr.txt t)
set_option maxHeartbeats 1000000 in
theorem isFree_any (x : List UInt8) (w : World) (hx : Tr.isTx x = true) :
    Calls Try.prog 23 #[.string ⟨x.toArray⟩] w fun e w' => e = .returned (.bool (condT x)) ∧ Below w.heap.size w w' := by
  have CF := fun w => freeForm_any x w hx
  have CR := fun w => roots_any x w hx
  have e1 := str_eqbfC x (minT (rootsT x))
  have HT := Lib.hid (roots_tx hx)
  have HLN := Lib.hid (rootsT_len x)
  have hx16 := (Tr.br_parts hx).1.2
  obtain ⟨X, hX⟩ : ∃ X : ByteArray, X = ⟨x.toArray⟩ := ⟨_, rfl⟩
  obtain ⟨Z, hZ⟩ : ∃ Z : ByteArray, Z = ⟨(minT (rootsT x)).toArray⟩ := ⟨_, rfl⟩
  simp only [← hX, ← hZ] at CF CR ⊢
  rw [← hX, ← hZ] at e1
  cases hd : decide (x = minT (rootsT x))
  · have G : Hid (condT x = false) := by unfold condT; rw [Hid, hd]; rfl
    rw [hd] at e1
    have e2 : (X.toList == Z.toList) = false := e1
    have HE := Lib.hid e2
    clear hX hZ e1 e2 hd
    go_enter Try.func23, Try.ntmps23
    go_wp2_with fail
    refine (CF _).mono ?_
    rintro e w1 ⟨rfl, bel1⟩
    have HB1 := Lib.hid bel1
    have q := HE.out
    clear bel1
    go_wp2
    go_ret
    exact ⟨ret_bool G.out.symm, HB1.out⟩
  · have G : Hid (condT x = !(rootsT x).any squareT) := by unfold condT; rw [Hid, hd]; rfl
    rw [hd] at e1
    have e2 : (X.toList == Z.toList) = true := e1
    have HE := Lib.hid e2
    clear hX hZ e1 e2 hd
    go_enter Try.func23, Try.ntmps23
    go_wp2_with fail
    refine (CF _).mono ?_
    rintro e w1 ⟨rfl, bel1⟩
    have HB1 := Lib.hid bel1
    have q := HE.out
    clear bel1
    go_wp2_with fail
    refine (CR _).mono ?_
    rintro e w3 ⟨rfl, own3, bel3⟩
    have B3 : Hid (Below w.heap.size w w3) := HB1.out.trans (bel3.mono HB1.out.size)
    have HROW := Lib.hid (row_of_own own3)
    clear own3 bel3 CR CF
    go_wp2_with fail
    refine (containsSq_any _ _ _ w3.heap.size (rootsT x) w3 HLN.out (by omega) HT.out (Nat.le_refl _) HROW.out).mono ?_
    rintro e w4 ⟨rfl, bel4⟩
    have B4 : Hid (Below w.heap.size w w4) := B3.out.trans (bel4.mono B3.out.size)
    clear bel4
    go_wp2
    go_ret
    exact ⟨ret_bool G.out.symm, B4.out⟩
set_option maxHeartbeats 1000000 in
theorem isOther_anyC (A : Option Addr) (n c B : Nat) (t : List Int) (w : World) (hl : t.length = n) (ht : Tr.isLv t = true) (hc : n ≤ c) (hB : B ≤ w.heap.size) (h : Row w B A (ints t)) :
    Calls Try.prog 22 #[.slice A n c] w fun e w' => e = .returned (.bool (!keepC t)) ∧ Below w.heap.size w w' := by
  obtain ⟨a1, a8⟩ := lv_bd ht
  rw [hl] at a1 a8
  have CF := fun w => isFree_any (Tr.txt t) w (Tr.tx_txt ht)
  have CT := treeOf_any A n c B t w hl a1 a8 hc hB h
  obtain ⟨X, hX⟩ : ∃ X : ByteArray, X = ⟨(Tr.txt t).toArray⟩ := ⟨_, rfl⟩
  simp only [← hX] at CF CT
  have G : Hid (condT (Tr.txt t) = keepC t) := rfl
  clear hl hX h
  go_enter Try.func22, Try.ntmps22
  go_wp2_with fail
  refine CT.mono ?_
  rintro e w1 ⟨rfl, bel1⟩
  have HB1 := Lib.hid bel1
  clear bel1 CT
  go_wp2_with fail
  refine (CF _).mono ?_
  rintro e w2 ⟨rfl, bel2⟩
  have HB2 := Lib.hid (HB1.out.trans (bel2.mono HB1.out.size))
  clear bel2 CF
  rw [G.out]
  go_wp2
  go_ret
  exact ⟨rfl, HB2.out⟩
/-! the places of those that are kept -/
def idxToC (p : List Int → Bool) (m : List (List Int)) (j : Nat) : List Nat := (List.range j).filter fun k => p (m.getD k [])
theorem idxTo_stepC {p : List Int → Bool} {m : List (List Int)} {j : Nat} {t : List Int} (h : m[j]? = some t) : idxToC p m (j + 1) = idxToC p m j ++ if p t = true then [j] else [] := by
  unfold idxToC
  rw [List.range_succ, List.filter_append]
  congr 1
  have e : m.getD j [] = t := by rw [List.getD_eq_getElem?_getD, h]; rfl
  cases hp : p t <;> simp [List.filter, hp, h]
theorem idxTo_allC {p : List Int → Bool} (m : List (List Int)) : (idxToC p m m.length).map (fun k => m.getD k []) = m.filter p := by
  unfold idxToC
  have e : (List.range m.length).map (fun k => m.getD k []) = m := by
    apply List.ext_getElem?
    intro k
    rw [List.getElem?_map]
    rcases Nat.lt_or_ge k m.length with g | g
    · rw [List.getElem?_range g, List.getElem?_eq_getElem g, Option.map_some, List.getD_eq_getElem?_getD, List.getElem?_eq_getElem g]; rfl
    · rw [List.getElem?_eq_none (by simp; omega), List.getElem?_eq_none g]; rfl
  have h2 := List.filter_map (f := fun k => m.getD k []) (p := p) (l := List.range m.length)
  rw [e] at h2
  rw [h2]; rfl
theorem idxTo_firstC {p : List Int → Bool} {m : List (List Int)} {k : Nat} (hk : k ≤ m.length) (h : ∀ j t, j < k → m[j]? = some t → p t = true) : idxToC p m k = List.range k := by
  unfold idxToC
  rw [List.filter_eq_self]
  intro j hj
  rw [List.mem_range] at hj
  have e := List.getElem?_eq_getElem (show j < m.length by omega)
  rw [List.getD_eq_getElem?_getD, e]
  exact h j _ hj e
theorem idxTo_nodupC (p : List Int → Bool) (m : List (List Int)) (j : Nat) : (idxToC p m j).Nodup := List.Pairwise.filter _ List.nodup_range
theorem idxTo_ltC {p : List Int → Bool} {m : List (List Int)} {j k : Nat} (h : k ∈ idxToC p m j) : k < j := by
  unfold idxToC at h
  rw [List.mem_filter, List.mem_range] at h; exact h.1
theorem idxTo_leC (p : List Int → Bool) (m : List (List Int)) (j : Nat) : (idxToC p m j).length ≤ j := by
  have := List.length_filter_le (fun k => p (m.getD k [])) (List.range j)
  rw [List.length_range] at this; exact this
def nilVC : Value := .slice none 0 0
def selVC (p : List Int → Bool) (m : List (List Int)) (vs : List Value) (j : Nat) : List Value := (idxToC p m j).map fun k => vs.getD k nilVC
theorem OwnMat.selectC {w w' : World} {lo hi n c g i : Nat} {m : List (List Int)} {vs : List Value} {idx : List Nat} (h : OwnMat w lo hi (.slice (some ⟨g, 0, none⟩) n c) n m vs) (hg : w.grownBy w' (some g)) (hs : hi ≤ w.heap.size) (hn : idx.Nodup) (hb : ∀ k ∈ idx, k < m.length)
    (ho : w'.ownsRow lo 31 1 (.slice (some ⟨g, 0, none⟩) i c) i (idx.map fun k => vs.getD k nilVC)) : OwnMat w' lo w'.heap.size (.slice (some ⟨g, 0, none⟩) i c) i (idx.map fun k => m.getD k []) (idx.map fun k => vs.getD k nilVC) := by
  have hsz := hg.size
  refine ⟨OwnR.of ho, by simp, fun r row hr => ?_, fun r s u t g' hrs hu ht hbu => ?_⟩
  · rw [List.getElem?_map, Option.map_eq_some_iff] at hr
    obtain ⟨k, hk, rfl⟩ := hr
    have hkm := hb k (List.mem_of_getElem? hk)
    have e : m[k]? = some (m.getD k []) := by rw [List.getD_eq_getElem?_getD, List.getElem?_eq_getElem hkm]; rfl
    obtain ⟨A, c', e1, o1⟩ := h.inner k _ e
    refine ⟨A, c', ?_, (o1.grown hg (own_types o1.1 h.outer.1 (by decide))).more (Nat.le_refl _) (by omega)⟩
    rw [List.getElem?_map, hk, Option.map_some, List.getD_eq_getElem?_getD (l := vs), e1]; rfl
  · rw [List.getElem?_map, Option.map_eq_some_iff] at hu ht
    obtain ⟨k, hk, rfl⟩ := hu
    obtain ⟨l, hl, rfl⟩ := ht
    have hkl : k ≠ l := fun e => by
      subst e
      exact hrs ((List.getElem?_inj (by
        rcases Nat.lt_or_ge r idx.length with y | y
        · exact y
        · rw [List.getElem?_eq_none y] at hk; cases hk) hn).1 (hk.trans hl.symm))
    have hk' := hb k (List.mem_of_getElem? hk)
    have hl' := hb l (List.mem_of_getElem? hl)
    have e1 : vs[k]? = some (vs.getD k nilVC) := by rw [List.getD_eq_getElem?_getD, List.getElem?_eq_getElem (by rw [h.len]; exact hk')]; rfl
    have e2 : vs[l]? = some (vs.getD l nilVC) := by rw [List.getD_eq_getElem?_getD, List.getElem?_eq_getElem (by rw [h.len]; exact hl')]; rfl
    exact h.apart k l _ _ g' hkl e1 e2 hbu
theorem only_putC' {w a : World} {g k : Nat} {v : Value} (h : w.grownBy a (some g)) : w.grownBy (a.setCell ⟨g, k, none⟩ v) (some g) :=
  ⟨h.os, h.tape, h.output, by simpa [World.setCell] using h.size, fun i hi hne => (Below.heap_setCell a ⟨g, k, none⟩ v i (fun e => hne (by rw [e]))).trans (h.block i hi hne)⟩
theorem only_setsC {w : World} {g : Nat} : ∀ (vs : List Value) (o : Nat) (a : World), w.grownBy a (some g) → w.grownBy (a.setCells g o vs) (some g)
  | [], _, _, h => h
  | v :: r, o, a, h => only_setsC r (o + 1) _ (only_putC' h)
set_option maxHeartbeats 1000000 in
theorem indexF_anyC (A : Option Addr) (n c B : Nat) (m : List (List Int)) (w : World) (hl : m.length = n) (hn : n ≤ 1048576) (hm : ∀ t ∈ m, Tr.isLv t = true) (hB : B ≤ w.heap.size) (h : Mat w B A m) :
    Calls Try.prog 35 #[.slice A n c, (.func (.func 22) #[] #[])] w fun e w' => (∃ i : Int, e = .returned (.int .i64 i) ∧ ((i = -1 ∧ ∀ j t, j < n → m[j]? = some t → keepC t = true) ∨ ∃ k : Nat, i = k ∧ k < n ∧ (∀ j t, j < k → m[j]? = some t → keepC t = true) ∧ ∀ t, m[k]? = some t → keepC t = false)) ∧ Below w.heap.size w w' := by
  have HL := Lib.hid hl
  have HM := Lib.hid hm
  clear hl hm
  go_enter Try.func35, Try.ntmps35
  go_wp2_with fail
  go_loopw [8] (fun i wr => ∃ k : Nat, k ≤ n ∧ i = .int .i64 k ∧ Hid (∀ j t, j < k → m[j]? = some t → keepC t = true) ∧ Below w.heap.size w wr) (fun i _ => n - (intOf i).toNat)
  case atStart => exact ⟨0, Nat.zero_le _, rfl, fun j t hj => by omega, Below.refl _ _⟩
  case round =>
    obtain ⟨k, hk, rfl, HA, HBW⟩ := hrel
    have hsz := HBW.size
    by_cases hlt : k < n
    · obtain ⟨t, ht⟩ := at_lt (show k < m.length by rw [HL.out]; exact hlt)
      obtain ⟨bb, oo, Ak, ck, rfl, _, hck, hlc, _, hrow⟩ := (Mat.below h HBW hB) k _ ht
      have C1 := isOther_anyC Ak t.length ck B t wr rfl (HM.out t (List.mem_of_getElem? ht)) hlc (by omega) hrow
      have HBW' := Lib.hid HBW
      cases hs : keepC t
      · have G : Hid (∀ t, m[k]? = some t → keepC t = false) := fun t' ht' => by rw [ht] at ht'; injection ht' with ht'; rw [← ht']; exact hs
        rw [hs] at C1
        clear ht hs HBW hrow
        go_wp2_with fail
        refine C1.mono ?_
        rintro e w2 ⟨rfl, bel2⟩
        have GB := Lib.hid (HBW'.out.trans (bel2.mono hsz))
        clear bel2 C1 hck
        go_wp2
        go_ret
        exact ⟨⟨(k : Int), rfl, .inr ⟨k, rfl, hlt, HA.out, G.out⟩⟩, GB.out⟩
      · have G : Hid (∀ j t, j < k + 1 → m[j]? = some t → keepC t = true) := fun j t' hj ht' => by
          by_cases e : j = k
          · rw [e, ht] at ht'; injection ht' with ht'; rw [← ht']; exact hs
          · exact HA.out j t' (by omega) ht'
        rw [hs] at C1
        clear ht HA hs HBW hrow
        go_wp2_with fail
        refine C1.mono ?_
        rintro e w2 ⟨rfl, bel2⟩
        have GB := Lib.hid (HBW'.out.trans (bel2.mono hsz))
        clear bel2 C1 hck
        go_wp2
        go_roundw
        case rel => exact ⟨k + 1, by omega, by go_num, G, GB.out⟩
        case measure => simp [intOf]; omega
    · have hkn : k = n := by omega
      have G : Hid (∀ j t, j < n → m[j]? = some t → keepC t = true) := by rw [← hkn]; exact HA
      have GB := Lib.hid HBW
      clear HA HBW hkn
      go_wp2
      go_ret
      exact ⟨⟨-1, rfl, .inl ⟨rfl, G.out⟩⟩, GB.out⟩
/-- what DeleteFunc hands back -/
def DeletedC (lo g c : Nat) (m : List (List Int)) (w : World) (e : Ending) (w' : World) : Prop := ∃ q vs, e = .returned (.slice (some ⟨g, 0, none⟩) q c) ∧ (m.filter keepC).length = q ∧ OwnMat w' lo w'.heap.size (.slice (some ⟨g, 0, none⟩) q c) q (m.filter keepC) vs ∧ Below lo w w'
set_option maxHeartbeats 2000000 in
theorem deleteF_anyC (lo g n c : Nat) (m : List (List Int)) (vs : List Value) (w : World) (hm : ∀ t ∈ m, Tr.isLv t = true) (h1 : 1 ≤ n) (hn : n ≤ 1000) (hlo : lo ≤ w.heap.size) (h : OwnMat w lo w.heap.size (.slice (some ⟨g, 0, none⟩) n c) n m vs) :
    Calls Try.prog 17 #[.slice (some ⟨g, 0, none⟩) n c, (.func (.func 22) #[] #[])] w (DeletedC lo g c m w) := by
  have hl := h.size
  obtain ⟨hnc, hcm⟩ := own_cap h.outer.1
  have hgl : lo ≤ g := (h.outer.1.lt g rfl).1
  have HGL := Lib.hid hgl
  have C0 := indexF_anyC (some ⟨g, 0, none⟩) n c w.heap.size m w hl (by omega) hm (Nat.le_refl _) h.mat
  have HL := Lib.hid hl
  have HM := Lib.hid hm
  have HO := Lib.hid h
  clear hl hm h hgl
  go_enter Try.func17, Try.ntmps17
  go_wp2_with fail
  refine C0.mono ?_
  rintro e w1 ⟨⟨i, rfl, hi⟩, bel1⟩
  have hs1 : w.heap.size ≤ w1.heap.size := bel1.size
  have HB1 := Lib.hid bel1
  have HO1 := Lib.hid ((HO.out.below bel1 (Nat.le_refl _)).more (Nat.le_refl _) hs1)
  clear C0 bel1
  rcases hi with ⟨rfl, hall⟩ | ⟨k, rfl, hkn, hfirst, hno⟩
  · have e : m.filter keepC = m := List.filter_eq_self.2 fun t ht => by
      obtain ⟨j, hj⟩ := List.mem_iff_getElem?.1 ht
      have hjl : j < m.length := by
        rcases Nat.lt_or_ge j m.length with y | y
        · exact y
        · rw [List.getElem?_eq_none y] at hj; cases hj
      exact hall j t (by rw [← HL.out]; exact hjl) hj
    have G : Hid (DeletedC lo g c m w (.returned (.slice (some ⟨g, 0, none⟩) n c)) w1) := by
      refine ⟨n, vs, rfl, ?_, ?_, HB1.out.mono hlo⟩
      · rw [e]; exact HL.out
      · rw [e]; exact HO1.out
    clear hall e
    go_wp2
    go_ret
    exact G.out
  · have HI : Hid (idxToC keepC m (k + 1) = List.range k) := by
      obtain ⟨t, ht⟩ := at_lt (show k < m.length by rw [HL.out]; exact hkn)
      rw [Hid, idxTo_stepC ht, if_neg (by rw [hno t ht]; simp), List.append_nil]
      exact idxTo_firstC (by rw [HL.out]; omega) hfirst
    have HVL : Hid (vs.length = n) := by rw [Hid, HO.out.len, HL.out]
    clear hfirst hno
    have hk1 : (k : Int) ≠ -1 := by omega
    have tk1 := beq_f hk1
    go_wp2_with fail
    go_loopw [5, 6] (fun a j' wr => ∃ (i j : Nat) (C : List Value), a = .int .i64 i ∧ j' = .int .i64 j ∧ i < j ∧ j ≤ n ∧ Hid (i = (idxToC keepC m j).length) ∧ Hid (wr.ownsRow lo 31 1 (.slice (some ⟨g, 0, none⟩) n c) n C) ∧ Hid (C.take i = selVC keepC m vs j) ∧ Hid (C.drop j = vs.drop j) ∧ Hid (w1.grownBy wr (some g))) (fun _ j' _ => n - (intOf j').toNat)
    case atStart =>
      refine ⟨k, k + 1, vs, rfl, by go_num, by omega, by omega, ?_, HO1.out.outer.1, ?_, rfl, World.grownBy.refl _ _⟩
      · rw [Hid, HI.out, List.length_range]
      · unfold selVC
        rw [Hid, HI.out]
        apply List.ext_getElem?
        intro q
        rw [List.getElem?_take, List.getElem?_map]
        by_cases hq : q < k
        · rw [if_pos hq, List.getElem?_range hq, Option.map_some, List.getD_eq_getElem?_getD, List.getElem?_eq_getElem (by rw [HVL.out]; omega)]; rfl
        · rw [if_neg hq, List.getElem?_eq_none (by rw [List.length_range]; omega)]; rfl
    case round =>
      obtain ⟨i, j, C, rfl, rfl, hij, hj, HIL, HOW, HCT, HCD, HG⟩ := hrel
      have hsz := HG.out.size
      by_cases hlt : j < n
      · obtain ⟨t, ht⟩ := at_lt (show j < m.length by rw [HL.out]; exact hlt)
        obtain ⟨Aj, cj, ej, oj⟩ := HO1.out.inner j t ht
        have oj2 := oj.grown HG.out (own_types oj.1 HO1.out.outer.1 (by decide))
        obtain ⟨hcj, hcjm⟩ := own_cap oj.1
        have HCJ : Hid (C[j]? = some (.slice Aj t.length cj)) := by
          have e : (C.drop j)[0]? = (vs.drop j)[0]? := by rw [HCD.out]
          rw [List.getElem?_drop, List.getElem?_drop, Nat.add_zero, ej] at e
          exact e
        have hcell := HOW.out.cellAt j (by omega)
        rw [HCJ.out] at hcell
        have C1 := isOther_anyC Aj t.length cj w1.heap.size t wr rfl (HM.out t (List.mem_of_getElem? ht)) hcj hsz oj2.row
        have HST := Lib.hid (idxTo_stepC (p := keepC) ht)
        have HEJ := Lib.hid ej
        cases hs : keepC t
        · have HIX : Hid (idxToC keepC m (j + 1) = idxToC keepC m j) := by rw [Hid, HST.out, hs]; simp
          rw [hs] at C1
          clear ht hs oj oj2 ej
          go_wp2_with fail
          refine C1.mono ?_
          rintro e w2 ⟨rfl, bel2⟩
          have HG2 : Hid (w1.grownBy w2 (some g)) := ⟨bel2.os.trans HG.out.os, bel2.tape.trans HG.out.tape, bel2.output.trans HG.out.output, Nat.le_trans HG.out.size bel2.size, fun q hq hne => (bel2.block q (by omega)).trans (HG.out.block q hq hne)⟩
          have HOW2 : Hid (w2.ownsRow lo 31 1 (.slice (some ⟨g, 0, none⟩) n c) n C) := ((OwnR.of HOW.out).below bel2 (Nat.le_refl _)).1
          have HCD2 : Hid (C.drop (j + 1) = vs.drop (j + 1)) := by
            have e := congrArg (List.drop 1) HCD.out
            rw [List.drop_drop, List.drop_drop] at e; exact e
          have HIL2 : Hid (i = (idxToC keepC m (j + 1)).length) := by rw [Hid, HIX.out]; exact HIL.out
          have HCT2 : Hid (C.take i = selVC keepC m vs (j + 1)) := by unfold selVC; rw [Hid, HIX.out]; exact HCT.out
          clear bel2 C1 hcell
          go_wp2
          go_roundw
          case rel => exact ⟨i, j + 1, C, rfl, by go_num, by omega, by omega, HIL2, HOW2, HCT2, HCD2, HG2⟩
          case measure => simp [intOf]; omega
        · have HIX : Hid (idxToC keepC m (j + 1) = idxToC keepC m j ++ [j]) := by rw [Hid, HST.out, hs]; simp
          rw [hs] at C1
          clear ht hs oj oj2 ej
          go_wp2_with fail
          refine C1.mono ?_
          rintro e w2 ⟨rfl, bel2⟩
          have hs2 : wr.heap.size ≤ w2.heap.size := bel2.size
          have HG2 : Hid (w1.grownBy w2 (some g)) := ⟨bel2.os.trans HG.out.os, bel2.tape.trans HG.out.tape, bel2.output.trans HG.out.output, Nat.le_trans HG.out.size bel2.size, fun q hq hne => (bel2.block q (by omega)).trans (HG.out.block q hq hne)⟩
          have HOW2 : Hid (w2.ownsRow lo 31 1 (.slice (some ⟨g, 0, none⟩) n c) n C) := ((OwnR.of HOW.out).below bel2 (Nat.le_refl _)).1
          have hCL : C.length = n := own_len HOW2.out
          have ho := HOW2.out.cellAt i (by omega)
          have hf := HOW2.out.frozenAt i
          obtain ⟨u, hu⟩ := at_lt (show i < C.length by omega)
          rw [hu] at ho
          have HCD2 : Hid ((C.set i (.slice Aj t.length cj)).drop (j + 1) = vs.drop (j + 1)) := by
            have e := congrArg (List.drop 1) HCD.out
            rw [List.drop_drop, List.drop_drop] at e
            rw [Hid, List.drop_set_of_lt (by omega)]; exact e
          have HIL2 : Hid (i + 1 = (idxToC keepC m (j + 1)).length) := by rw [Hid, HIX.out, List.length_append, ← HIL.out]; rfl
          have HCT2 : Hid ((C.set i (.slice Aj t.length cj)).take (i + 1) = selVC keepC m vs (j + 1)) := by
            have e : (C.set i (.slice Aj t.length cj)).take (i + 1) = C.take i ++ [.slice Aj t.length cj] := by
              rw [List.take_add_one, List.getElem?_set_self (by omega), Option.toList_some, List.take_set_of_le (Nat.le_refl _)]
            unfold selVC
            rw [Hid, HIX.out, List.map_append, e, HCT.out, List.map_singleton, List.getD_eq_getElem?_getD, HEJ.out]; rfl
          have HOW3 : Hid ((w2.setCell ⟨g, i, none⟩ (.slice Aj t.length cj)).ownsRow lo 31 1 (.slice (some ⟨g, 0, none⟩) n c) n (C.set i (.slice Aj t.length cj))) := (HOW2.out.stored i _).1
          have HG3 : Hid (w1.grownBy (w2.setCell ⟨g, i, none⟩ (.slice Aj t.length cj)) (some g)) := only_putC' HG2.out
          clear bel2 C1 hcell hu hCL
          go_wp2
          go_roundw
          case rel => exact ⟨i + 1, j + 1, _, by go_num, by go_num, by omega, by omega, HIL2, HOW3, HCT2, HCD2, HG3⟩
          case measure => simp [intOf]; omega
      · have hjn : j = n := by omega
        have hin : i < n := by omega
        have hCL : C.length = n := own_len HOW.out
        have hcell1 : ∀ q, q < n → (wr.cell? ⟨g, q, none⟩).isSome = true ∧ wr.frozen? ⟨g, q, none⟩ = false := fun q hq => by
          have h9 := HOW.out.cellAt q (by omega)
          rw [List.getElem?_eq_getElem (by omega)] at h9
          exact ⟨by rw [h9]; rfl, HOW.out.frozenAt q⟩
        have hcl : ∀ ty, (Builtin.clear_ #[25] ty #[.slice (some ⟨g, i, none⟩) (n - i) (c - i)]).run Try.prog wr = .ok (.tuple #[]) (wr.setCells g i (List.replicate (n - i) (.slice none 0 0))) := fun ty =>
          Lib.run_clear_slice wr _ _ ty (.slice none 0 0) Try.underlying25 (fun w => by rfl) rfl rfl g i _ _ (by omega) (fun q hq => (hcell1 (i + q) (by omega)).1) (fun q hq => (hcell1 (i + q) (by omega)).2)
        have G : Hid (DeletedC lo g c m w (.returned (.slice (some ⟨g, 0, none⟩) i c)) (wr.setCells g i (List.replicate (n - i) (.slice none 0 0)))) := by
          have h7 := own_prefix (own_sets (List.replicate (n - i) (.slice none 0 0)) i wr C HOW.out) (show i ≤ n by omega)
          have e7 : (putL C i (List.replicate (n - i) (.slice none 0 0))).take i = selVC keepC m vs n := by
            rw [putL_eq _ _ _ (by rw [List.length_replicate, hCL]; omega), List.append_assoc, List.take_append_of_le_length (by rw [List.length_take]; omega), List.take_take, Nat.min_self, HCT.out, hjn]
          rw [e7] at h7
          have hgr : w1.grownBy (wr.setCells g i (List.replicate (n - i) (.slice none 0 0))) (some g) := only_setsC _ _ _ HG.out
          have h8 := HO1.out.selectC (i := i) hgr (Nat.le_refl _) (idxTo_nodupC keepC m n) (fun q hq => by rw [HL.out]; exact idxTo_ltC hq) h7
          have e8 : (idxToC keepC m n).map (fun k => m.getD k []) = m.filter keepC := by rw [← HL.out]; exact idxTo_allC m
          rw [e8] at h8
          refine ⟨i, _, rfl, ?_, h8, ?_⟩
          · rw [← e8, List.length_map, HIL.out, hjn]
          · exact (HB1.out.mono hlo).grown hgr (by omega) (fun q hq => by injection hq with hq; rw [← hq]; exact HGL.out)
        have hne : ¬ c = i := by omega
        have s0 : (0 : Int) ≤ (i : Int) := Int.natCast_nonneg _
        have s1 : (i : Int) ≤ (n : Int) := by omega
        have s2 : (i : Int) ≤ (c : Int) := by omega
        clear hcell1 HCT HCD
        go_wp2
        go_ret
        exact G.out
end Go.Proofs.Ytpmfpgfgkeejnaa
