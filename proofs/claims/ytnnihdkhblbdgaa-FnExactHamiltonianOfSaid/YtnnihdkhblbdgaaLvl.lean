/-
  The levels of a text of brackets.
-/
import Derived.Test.YtnnihdkhblbdgaaTreeOf
import Derived.Lib.OthersKept
namespace Go.Proofs.Ytnnihdkhblbdgaa
open Go.RowKit Fld
set_option linter.unusedVariables false
set_option linter.unusedSimpArgs false
set_option maxRecDepth 100000

theorem nodes_any (l : List UInt8) (w : World) (hn : l.length ≤ 1048576) : Calls Try.prog 84 #[.string ⟨l.toArray⟩] w fun e w' => e = .returned (.int .i64 ((l.length / 2 : Nat) : Int)) ∧ w = w' := by
  obtain ⟨s, hs⟩ : ∃ s : ByteArray, s = ⟨l.toArray⟩ := ⟨_, rfl⟩
  have hz : s.size = l.length := by rw [hs]; exact size_S l
  rw [← hs, ← hz]
  rw [← hz] at hn
  clear hz hs
  go_enter Try.func84, Try.ntmps84
  go_wp2
  go_ret
  exact ⟨rfl, rfl⟩
theorem own_ne_iter {w : World} {lo : Nat} {T : TypeId} {v : Value} {n : Nat} {vs : List Value} {k : Nat} {s : ByteArray} {p : Nat} (h : w.ownsRow lo T 1 v n vs) (hk : w.heap[k]? = some (.stringIter s p)) : some k ≠ v.ownBlock := by
  intro e
  rcases h.2 with ⟨rfl, _⟩ | ⟨g, cap, cur, rfl, _, hg, _⟩
  · cases e
  · have e2 : k = g := by simpa [Value.ownBlock] using e
    subst e2
    rw [hk] at hg
    cases hg
theorem own_iterAt {w : World} {lo : Nat} {T : TypeId} {v : Value} {n : Nat} {vs : List Value} {k : Nat} {s : ByteArray} {p p' : Nat} (h : w.ownsRow lo T 1 v n vs) (hk : w.heap[k]? = some (.stringIter s p)) : (w.iterAt k s p').ownsRow lo T 1 v n vs := by
  have hne := own_ne_iter h hk
  refine ⟨h.1, ?_⟩
  rcases h.2 with h1 | ⟨g, cap, cur, hv, hb, hg, r⟩
  · exact .inl h1
  · refine .inr ⟨g, cap, cur, hv, hb, ?_, r⟩
    rw [Lib.iterAt_other _ _ _ _ _ (fun e => hne (by rw [hv, ← e]; simp [Value.ownBlock]))]
    exact hg
/-- all bytes are brackets -/
def Brk (s : List UInt8) : Prop := ∀ c ∈ s, c = 91 ∨ c = 93
theorem byte_at {s : List UInt8} {p : Nat} {c : UInt8} (h : s[p]? = some c) (hp : p < (⟨s.toArray⟩ : ByteArray).size) : (⟨s.toArray⟩ : ByteArray)[p]'hp = c := by
  have h1 : p < s.length := by rw [← size_S]; exact hp
  rw [List.getElem?_eq_getElem h1] at h
  exact Option.some.inj h
theorem lvl_open {s : List UInt8} {p : Nat} (h : s[p]? = some 91) (l : Int) : Tr.lvlF l (s.drop p) = l :: Tr.lvlF (l + 1) (s.drop (p + 1)) := by
  have hlt : p < s.length := by
    rcases Nat.lt_or_ge p s.length with g | g
    · exact g
    · rw [List.getElem?_eq_none g] at h; cases h
  rw [List.getElem?_eq_getElem hlt] at h
  injection h with h
  rw [List.drop_eq_getElem_cons hlt, h, Tr.lvlF, if_pos rfl]
theorem lvl_close {s : List UInt8} {p : Nat} (h : s[p]? = some 93) (l : Int) : Tr.lvlF l (s.drop p) = Tr.lvlF (l - 1) (s.drop (p + 1)) := by
  have hlt : p < s.length := by
    rcases Nat.lt_or_ge p s.length with g | g
    · exact g
    · rw [List.getElem?_eq_none g] at h; cases h
  rw [List.getElem?_eq_getElem hlt] at h
  injection h with h
  rw [List.drop_eq_getElem_cons hlt, h, Tr.lvlF, if_neg (by decide)]
set_option maxHeartbeats 1000000 in
theorem levels_any (s : List UInt8) (w : World) (hn : s.length ≤ 1048576) (hb : Brk s) :
    Calls Try.prog 125 #[.string ⟨s.toArray⟩] w (NewRow 2 (Tr.lvl s).length (ints (Tr.lvl s)) w) := by
  obtain ⟨i0, hi, hz0, hz1, hz2⟩ := info_parts info_i64
  have HB := Lib.hid hb
  have HN := Lib.hid hn
  obtain ⟨S, hS⟩ : ∃ S : ByteArray, S = ⟨s.toArray⟩ := ⟨_, rfl⟩
  have hsz : S.size = s.length := by rw [hS]; exact size_S s
  have HSZ := Lib.hid hsz
  have HS := Lib.hid hS
  have C0 := nodes_any s w hn
  rw [← hS] at C0 ⊢
  have hcap : s.length / 2 ≤ 1048576 := by omega
  obtain ⟨q, hq⟩ : ∃ q, q = s.length / 2 := ⟨_, rfl⟩
  rw [← hq] at C0 hcap
  clear hb hS hsz hn hq
  go_enter Try.func125, Try.ntmps125
  go_wp2_with fail
  refine C0.mono ?_
  rintro e w' ⟨rfl, rfl⟩
  go_wp2_with (at_make; refine wpList_make_own _ rfl _ _ 23 rfl w.heap.size 2 i0 (.int .i64 0) 1 Try.underlying23 hi hz0 hz1 .i64 .i64 _ q rfl rfl rfl (by rw [hz2]; omega) (by unfold maxLen; omega) (Nat.le_refl _) ?_; intro w1 hown hg)
  have HO1 := Lib.hid hown
  have HB1 : Hid (Below w.heap.size w w1) := (Below.refl _ _).grown hg (Nat.le_refl _) (fun k hk => by cases hk)
  have hs1 := hg.size
  clear hown hg
  go_loopw [3, 4] (fun v l wr => ∃ (p g cap : Nat) (lv : Int) (L : List Int), p ≤ S.size ∧ -(p : Int) ≤ lv ∧ lv ≤ p ∧ v = .slice (some ⟨g, 0, none⟩) L.length cap ∧ l = .int .i64 lv ∧ L.length ≤ p ∧ wr.heap[w1.heap.size]? = some (.stringIter S p) ∧ Hid (Tr.lvl s = L ++ Tr.lvlF lv (s.drop p)) ∧ Hid (wr.ownsRow w.heap.size 2 1 (.slice (some ⟨g, 0, none⟩) L.length cap) L.length (ints L)) ∧ Below w.heap.size w wr) (fun _ _ wr => S.size - wr.iterPos w1.heap.size)
  case atStart =>
    have hit := World.iter_heap w1 S 0
    exact ⟨0, _, q, 0, [], Nat.zero_le _, by omega, by omega, rfl, rfl, Nat.le_refl _, hit, rfl, HO1.out.alloc _, HB1.out.alloc (by omega) _⟩
  case round =>
    obtain ⟨p, g, cap, lv, L, hp, l0, l1, rfl, rfl, hL, hit, HE, HO, HBw⟩ := hrel
    have hlt := (Array.getElem?_eq_some_iff.1 hit).1
    by_cases hps : p < S.size
    · obtain ⟨c, hc⟩ := at_lt (show p < s.length by rw [← HSZ.out]; exact hps)
      have hbyte : S[p]'hps = c := by
        have hS := HS.out
        subst hS
        exact byte_at hc hps
      have hcb := HB.out c (List.mem_of_getElem? hc)
      have hasc : (S[p]'hps).toNat < 128 := by rw [hbyte]; rcases hcb with rfl | rfl <;> decide
      have hnx : ∀ ty, (Instr.next (.pointer (some ⟨w1.heap.size, 0, none⟩)) true ty).run Try.prog wr = _ := fun ty => Lib.run_next_ascii_at wr w1.heap.size S p ty hit hps hasc
      rw [hbyte] at hnx
      have hp3 : p + 1 ≤ 1048576 := by have := HSZ.out; have := HN.out; omega
      have HIT := Lib.hid hit
      have hit2 := Lib.iterAt_heap wr w1.heap.size S p (p + 1) hit
      have HO2 := Lib.hid (own_iterAt (p' := p + 1) HO.out hit)
      have HB2 := Lib.hid (Lib.below_iterAt HBw (k := w1.heap.size) hs1 S (p + 1))
      have hsz2 : (wr.iterAt w1.heap.size S (p + 1)).heap.size = wr.heap.size := Lib.iterAt_size ..
      rcases hcb with rfl | rfl
      · have HE2 : Hid (Tr.lvl s = (L ++ [lv]) ++ Tr.lvlF (lv + 1) (s.drop (p + 1))) := by rw [Hid, HE.out, lvl_open hc]; simp
        have e91 : ((91 : UInt8).toNat : Int) = 91 := rfl
        rw [e91] at hnx
        generalize hW : wr.iterAt w1.heap.size S (p + 1) = W at *
        have hown2 := HO2.out
        have HH2 := Lib.hid hit2
        have hW1 : w1.heap.size < W.heap.size := by omega
        have hW2 : w.heap.size ≤ W.heap.size := by omega
        clear hc hbyte hasc HE HBw HO hit hW hit2 hsz2
        go_wp2_with (at_builtin; (refine wpList_append_lies _ rfl (.tmp 17) (.tmp 19) 23 rfl w.heap.size 2 i0 _ 1 8 Try.underlying23 hi hz0 hz1 hz2 rfl (by omega) (.slice (some ⟨g, 0, none⟩) L.length cap) L.length (ints L) rfl (hown2.alloc _) ⟨W.heap.size, 0, none⟩ 1 1 [.int .i64 lv] rfl rfl (World.news_of_block (cs := #[.int .i64 lv]) (heap_alloc_new _ _)) (by simp [Value.oneCell']) (by omega) (by simp only [maxLen]; omega) (by omega) (by simp; omega) (W.heap.size + 1) (by simp) ?_); intro g2 cap2 w3 hown3 hgrow3 hat3 hlt3)
        have G3 : Hid (w3.ownsRow w.heap.size 2 1 (.slice (some ⟨g2, 0, none⟩) (L ++ [lv]).length cap2) (L ++ [lv]).length (ints (L ++ [lv]))) := by
          have e : ints L ++ [.int .i64 lv] = ints (L ++ [lv]) := by simp [ints, intsK]
          rw [e] at hown3
          rw [Hid, List.length_append]; exact hown3
        have GB3 : Hid (Below w.heap.size w w3) := (HB2.out.alloc hW2 _).grown hgrow3 (by simp; omega) (fun q hq => (HO2.out.lt q hq).1)
        have GI : Hid (w3.heap[w1.heap.size]? = some (.stringIter S (p + 1))) := by
          rw [Hid, hgrow3.block _ (by simp; omega) (own_ne_iter HO2.out HH2.out), Lib.alloc_old _ _ _ hW1]
          exact HH2.out
        have hl2 : (L ++ [lv]).length = L.length + 1 := by simp
        have HL2 := Lib.hid hl2
        clear hown3 hgrow3 hat3 hown2 hl2
        go_wp2
        go_roundw
        case rel => exact ⟨p + 1, g2, cap2, lv + 1, L ++ [lv], by omega, by omega, by omega, by rw [HL2.out], by go_num, by have := HL2.out; omega, GI.out, HE2, G3, GB3.out⟩
        case measure =>
          simp only [World.iterPos, GI.out, HIT.out]
          omega
      · have HE2 : Hid (Tr.lvl s = L ++ Tr.lvlF (lv - 1) (s.drop (p + 1))) := by rw [Hid, HE.out, lvl_close hc]
        have e93 : ((93 : UInt8).toNat : Int) = 93 := rfl
        rw [e93] at hnx
        generalize hW : wr.iterAt w1.heap.size S (p + 1) = W at *
        have HH2 := Lib.hid hit2
        clear hc hbyte hasc HE HBw HO hit hW hit2 hsz2
        go_wp2
        go_roundw
        case rel => exact ⟨p + 1, g, cap, lv - 1, L, by omega, by omega, by omega, rfl, by go_num, by omega, HH2.out, HE2, HO2, HB2.out⟩
        case measure =>
          simp only [World.iterPos, HH2.out, HIT.out]
          omega
    · have hnx : ∀ ty, (Instr.next (.pointer (some ⟨w1.heap.size, 0, none⟩)) true ty).run Try.prog wr = _ := fun ty => Lib.run_next_end_at wr w1.heap.size S p ty hit hps
      have e : Tr.lvl s = L := by
        have := HE.out
        rw [List.drop_of_length_le (by have := HSZ.out; omega), Tr.lvlF, List.append_nil] at this
        exact this
      have G : Hid (NewRow 2 (Tr.lvl s).length (ints (Tr.lvl s)) w (.returned (.slice (some ⟨g, 0, none⟩) L.length cap)) wr) := by rw [e]; exact ⟨_, _, rfl, HO.out, HBw⟩
      clear HBw HE e hit
      go_wp2
      go_ret
      exact G.out
end Go.Proofs.Ytnnihdkhblbdgaa
