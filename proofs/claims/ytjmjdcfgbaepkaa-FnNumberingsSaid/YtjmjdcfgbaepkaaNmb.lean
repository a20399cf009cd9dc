/-
  The numbers of rising and strict numberings, the program's: arrays of eleven numbers.
-/
import Derived.Test.YtjmjdcfgbaepkaaNmbP
import Derived.Test.YtjmjdcfgbaepkaaBra
import Derived.Test.YtjmjdcfgbaepkaaOwnD
import Derived.Laws.Rows
import Derived.Laws.Tables
import Derived.Laws.CopyOwn
import Derived.Deep.AppendLies
import Derived.Deep.MidRow
import Derived.IntWalk
namespace Go.Proofs.Ytjmjdcfgbaepkaa
open Go.RowKit Fld
set_option linter.unusedVariables false
set_option linter.unusedSimpArgs false
set_option maxRecDepth 100000

theorem info_a11 : (Try.prog.info? 141).map (fun i => (i.zero, i.size, i.bytes)) = some (some (.agg (ints (List.replicate 11 0)).toArray), 11, 88) := by kernel_rfl
theorem size_a11 : (Try.prog.info? 141).map (·.size) = some 11 := by kernel_rfl
/-- block g is an array of numbers -/
def NArr (w : World) (g : Nat) (xs : List Int) : Prop := w.heap[g]? = some (.cells (ints xs).toArray 141 (0, 0))
theorem NArr.cell {w : World} {g k : Nat} {xs : List Int} {x : Int} (h : NArr w g xs) (hx : xs[k]? = some x) : w.cell? ⟨g, k, none⟩ = some (.int .i64 x) := by
  rw [cell_of_row w g k _ _ _ h]
  simp [ints_at hx]
theorem NArr.free {w : World} {g : Nat} {xs : List Int} (h : NArr w g xs) (k : Nat) : w.frozen? ⟨g, k, none⟩ = false := frozen_of_row w g k _ _ h
theorem NArr.lt {w : World} {g : Nat} {xs : List Int} (h : NArr w g xs) : g < w.heap.size := (Array.getElem?_eq_some_iff.1 h).1
theorem NArr.store {w : World} {g k : Nat} {xs : List Int} (h : NArr w g xs) (x : Int) : NArr (w.setCell ⟨g, k, none⟩ (.int .i64 x)) g (xs.set k x) := by
  have := heap_setCell_same w g k _ _ (.int .i64 x) h
  unfold NArr
  rw [this]
  simp [ints, intsK]
theorem NArr.below {w w' : World} {g B : Nat} {xs : List Int} (h : NArr w g xs) (hb : Below B w w') (hg : g < B) : NArr w' g xs := by
  unfold NArr
  rw [hb.block g hg]; exact h
def flatN (g : Nat) (l : List (List UInt8)) (k : Nat) : List Value := ((l.take k).map fun y => ints (Tr.nm g y)).flatten
theorem flatN_step {g : Nat} {l : List (List UInt8)} {k : Nat} {y : List UInt8} (h : l[k]? = some y) : flatN g l (k + 1) = flatN g l k ++ ints (Tr.nm g y) := by
  unfold flatN
  rw [List.take_add_one, h]; simp
theorem ownsRow_keep' {w w' : World} {base k n : Nat} {T : TypeId} {v : Value} {vs : List Value} (h : w.ownsRow base T k v n vs) (hk : ∀ g, v.ownBlock = some g → w'.heap[g]? = w.heap[g]?) : w'.ownsRow base T k v n vs := by
  refine ⟨h.1, ?_⟩
  rcases h.2 with h1 | ⟨g, cap, cur, hv, hb, hg, r⟩
  · exact .inl h1
  · exact .inr ⟨g, cap, cur, hv, hb, by rw [hk g (by rw [hv]; rfl)]; exact hg, r⟩
/-- the list of arrays, in a block below a bound -/
def OwnN (w : World) (lo hi : Nat) (A : Option Addr) (n c : Nat) (vs : List Value) : Prop := w.ownsRow lo 141 11 (.slice A n c) n vs ∧ ∀ z, Value.ownBlock (.slice A n c) = some z → z < hi
theorem eleven : ∀ (l : List Int), l.length = 11 → ∃ a0 a1 a2 a3 a4 a5 a6 a7 a8 a9 a10 : Int, l = [a0, a1, a2, a3, a4, a5, a6, a7, a8, a9, a10]
  | [a0, a1, a2, a3, a4, a5, a6, a7, a8, a9, a10], _ => ⟨a0, a1, a2, a3, a4, a5, a6, a7, a8, a9, a10, rfl⟩
def PNm (d : Nat) : Prop := ∀ (g : Nat) (x : List UInt8) (w : World), g ≤ 1 → x.length ≤ d → Tr.isTx x = true →
  Calls Try.prog 121 #[.string ⟨x.toArray⟩, .int .i64 g] w fun e w' => e = .returned (.agg (ints (Tr.nm g x)).toArray) ∧ Below w.heap.size w w'
set_option maxHeartbeats 4000000 in
theorem pNm_succ (d : Nat) (IH : PNm d) : PNm (d + 1) := by
  intro g x w hg hxd hx
  obtain ⟨i0, hi, hz0, hz1, hz2⟩ := info_parts info_a11
  obtain ⟨⟨h2, h16⟩, HB, h7⟩ := Tr.br_parts hx
  obtain ⟨hN, hNl, hNb, hW, hT⟩ := Tr.nm_parts hg hx
  have C1 := fun w => branches_any x w hx
  have HN := Lib.hid hN
  have HW := Lib.hid hW
  have HT := Lib.hid hT
  have HBR := Lib.hid HB
  have HNB : Hid (∀ y ∈ Tr.brT x, (Tr.nm g y).length = 11 ∧ ∀ z ∈ Tr.nm g y, 0 ≤ z ∧ z ≤ 1000000000) := fun y hy => by
    obtain ⟨_, q1, q2, _⟩ := Tr.nm_parts hg (HB y hy).1
    exact ⟨q1, q2⟩
  obtain ⟨P, hP⟩ : ∃ P, P = (Tr.brT x).length := ⟨_, rfl⟩
  have HP : Hid ((Tr.brT x).length = P) := hP.symm
  have hP7 : P ≤ 7 := by rw [hP]; exact h7
  have HXD := Lib.hid hxd
  obtain ⟨S, hS⟩ : ∃ S : ByteArray, S = ⟨x.toArray⟩ := ⟨_, rfl⟩
  rw [← hS] at C1 ⊢
  clear hN hNl hNb hW hT HB h7 hP hxd hx hS
  go_enter Try.func121, Try.ntmps121
  go_wp2_with fail
  obtain ⟨W0, hW0⟩ : ∃ W0, W0 = w.alloc (.cells #[Value.int IntKind.i64 0, Value.int IntKind.i64 0, Value.int IntKind.i64 0, Value.int IntKind.i64 0, Value.int IntKind.i64 0, Value.int IntKind.i64 0, Value.int IntKind.i64 0, Value.int IntKind.i64 0, Value.int IntKind.i64 0, Value.int IntKind.i64 0, Value.int IntKind.i64 0] 141) := ⟨_, rfl⟩
  have HR0 : NArr W0 w.heap.size (List.replicate 11 0) := by rw [hW0]; exact heap_alloc_new _ _
  have hs0 : W0.heap.size = w.heap.size + 1 := by rw [hW0]; simp
  have HB0 : Hid (Below w.heap.size w W0) := by rw [hW0]; exact (Below.refl _ _).alloc (Nat.le_refl _) _
  obtain ⟨r0, hr0⟩ : ∃ r, r = w.heap.size := ⟨_, rfl⟩
  rw [← hW0, ← hr0]
  rw [← hr0] at HR0 hs0
  have hr0l : w.heap.size ≤ r0 ∧ r0 < W0.heap.size := by omega
  clear hW0 hr0
  refine (C1 _).mono ?_
  rintro e w1 ⟨A, q, c, rfl, hq, own1, bel1⟩
  have hqP : q = P := by rw [hq]; exact HP.out
  subst hqP
  have hs1 : W0.heap.size ≤ w1.heap.size := bel1.size
  have HROW : Hid (Row w1 w1.heap.size A (strs (Tr.brT x))) := row_of_own own1
  have HR1 : Hid (NArr w1 r0 (List.replicate 11 0)) := HR0.below bel1 (by omega)
  have HB1 : Hid (Below w.heap.size w w1) := HB0.out.trans (bel1.mono (by omega))
  clear hq own1 bel1 C1 HR0 HB0
  go_wp2_with fail
  go_loopw [5, 16] (fun v i wr => ∃ (k cap : Nat) (A' : Option Addr), k ≤ q ∧ v = .slice A' k cap ∧ i = .int .i64 k ∧ Hid (wr.ownsRow w1.heap.size 141 11 (.slice A' k cap) k (flatN g (Tr.brT x) k)) ∧ Hid (Below w1.heap.size w1 wr)) (fun _ i _ => q - (intOf i).toNat)
  case atStart => exact ⟨0, 0, none, Nat.zero_le _, rfl, rfl, World.ownsRow_nil _ _ _ _, Below.refl _ _⟩
  case round =>
    obtain ⟨k, cap, A', hk, rfl, rfl, HO, HBw⟩ := hrel
    have hsz := HBw.out.size
    by_cases hlt : k < q
    · obtain ⟨y, hy⟩ := at_lt (show k < (Tr.brT x).length by rw [HP.out]; exact hlt)
      obtain ⟨hyt, hyl⟩ := HBR.out y (List.mem_of_getElem? hy)
      obtain ⟨b, o, rfl, _, hc⟩ := (HROW.out.below HBw.out (Nat.le_refl _)) k _ (strs_at hy)
      have C2 := fun w => IH g y w hg (by have := HXD.out; omega) hyt
      have HST := Lib.hid (flatN_step (g := g) hy)
      have HLY := Lib.hid (HNB.out y (List.mem_of_getElem? hy)).1
      obtain ⟨Y, hY⟩ : ∃ Y : ByteArray, Y = ⟨y.toArray⟩ := ⟨_, rfl⟩
      rw [← hY] at C2 hc
      obtain ⟨a0, a1, a2, a3, a4, a5, a6, a7, a8, a9, a10, hys⟩ := eleven _ HLY.out
      rw [hys] at HST
      simp only [hys] at C2
      simp only [ints, intsK, List.map_cons, List.map_nil] at C2 HST
      clear hy hyt hyl hY hys HR1 HLY
      go_wp2_with fail
      refine (C2 _).mono ?_
      rintro e w2 ⟨rfl, bel2⟩
      have HO2 := (ownsRow_keep' HO.out (fun z hz => bel2.block z (HO.out.lt z hz).2))
      have HB2 : Hid (Below w1.heap.size w1 w2) := HBw.out.trans (bel2.mono hsz)
      have hs2 : w1.heap.size ≤ w2.heap.size := HB2.out.size
      have HOO := Lib.hid HO2
      clear bel2 C2 HO
      go_wp2_with (first
        | (at_builtin; refine wpList_append_lies _ rfl _ _ 169 rfl w1.heap.size 141 i0 _ 11 88 Try.underlying169 hi hz0 hz1 hz2 rfl (by omega) (.slice A' k cap) k (flatN g (Tr.brT x) k) rfl (HOO.out.alloc _) ⟨w2.heap.size, 0, none⟩ 1 1 [Value.int IntKind.i64 a0, Value.int IntKind.i64 a1, Value.int IntKind.i64 a2, Value.int IntKind.i64 a3, Value.int IntKind.i64 a4, Value.int IntKind.i64 a5, Value.int IntKind.i64 a6, Value.int IntKind.i64 a7, Value.int IntKind.i64 a8, Value.int IntKind.i64 a9, Value.int IntKind.i64 a10] rfl rfl (World.news_of_block (cs := #[Value.int IntKind.i64 a0, Value.int IntKind.i64 a1, Value.int IntKind.i64 a2, Value.int IntKind.i64 a3, Value.int IntKind.i64 a4, Value.int IntKind.i64 a5, Value.int IntKind.i64 a6, Value.int IntKind.i64 a7, Value.int IntKind.i64 a8, Value.int IntKind.i64 a9, Value.int IntKind.i64 a10]) (heap_alloc_new _ _)) (by simp [Value.oneCell']) (by omega) (by simp only [maxLen]; omega) (by omega) (by simp; omega) (w2.heap.size + 1) (by simp) ?_; intro g4 cap4 w3 hown3 hgrow3 hat3 hlt3)
        | fail)
      refine ⟨⟨k + 1, cap4, some ⟨g4, 0, none⟩, by omega, rfl, by go_num, ?_, ?_⟩, by simp [intOf]; omega⟩
      · rw [Hid, HST.out]; exact hown3
      · exact (HB2.out.alloc hs2 _).grown hgrow3 (by simp; omega) (fun z hz => (HOO.out.lt z hz).1)
    · obtain rfl : k = q := by omega
      have HR2 : Hid (NArr wr r0 (List.replicate 11 0)) := HR1.out.below HBw.out (by omega)
      have HB2 : Hid (Below w.heap.size w wr) := HB1.out.trans (HBw.out.mono (by omega))
      have hrw : r0 < wr.heap.size := by omega
      clear HBw HB1 HR1
      obtain ⟨W2, hW2⟩ : ∃ W2, W2 = wr := ⟨_, rfl⟩
      rw [← hW2] at HO HR2 HB2 hsz hrw ⊢
      clear hW2
      go_wp2_with fail
      obtain ⟨W3, hW3⟩ : ∃ W3, W3 = W2.alloc (.cells #[Value.int IntKind.i64 0, Value.int IntKind.i64 0, Value.int IntKind.i64 0, Value.int IntKind.i64 0, Value.int IntKind.i64 0, Value.int IntKind.i64 0, Value.int IntKind.i64 0, Value.int IntKind.i64 0, Value.int IntKind.i64 0, Value.int IntKind.i64 0, Value.int IntKind.i64 0] 141) := ⟨_, rfl⟩
      have HC0 : Hid (NArr W3 W2.heap.size (Tr.numT ((Tr.brT x).map (Tr.nm g)) g 0)) := by rw [hW3]; exact heap_alloc_new _ _
      have BA : Below W2.heap.size W2 W3 := by rw [hW3]; exact (Below.refl _ _).alloc (Nat.le_refl _) _
      have hs3 : W3.heap.size = W2.heap.size + 1 := by rw [hW3]; simp
      obtain ⟨g8, hg8⟩ : ∃ r, r = W2.heap.size := ⟨_, rfl⟩
      have HO3 : Hid (OwnN W3 w1.heap.size g8 A' k cap (flatN g (Tr.brT x) k)) := ⟨ownsRow_keep' HO.out (fun z hz => BA.block z (HO.out.lt z hz).2), fun z hz => by rw [hg8]; exact (HO.out.lt z hz).2⟩
      have HR3 : Hid (NArr W3 r0 (List.replicate 11 0)) := HR2.out.below BA hrw
      have HB3 : Hid (Below w.heap.size w W3) := HB2.out.trans (BA.mono (by omega))
      have hrg : r0 < g8 := by omega
      have hwr0 : w.heap.size ≤ r0 := by omega
      rw [← hW3, ← hg8]
      rw [← hg8] at HC0
      obtain ⟨bs, hbs⟩ : ∃ bs, bs = (Tr.brT x).map (Tr.nm g) := ⟨_, rfl⟩
      have HBL : Hid (bs.length = k) := by rw [Hid, hbs, List.length_map]; exact HP.out
      have HBA : Hid (∀ i y, (Tr.brT x)[i]? = some y → bs[i]? = some (Tr.nm g y)) := fun i y hy => by rw [hbs, List.getElem?_map, hy]; rfl
      rw [← hbs] at HC0 HN HW HT
      have HFL : Hid (∀ i y j, (Tr.brT x)[i]? = some y → j < 11 → (flatN g (Tr.brT x) k)[i * 11 + j]? = (ints (Tr.nm g y))[j]?) := fun i y j hy hj => by
        unfold flatN
        rw [List.take_of_length_le (by rw [HP.out]; exact Nat.le_refl _)]
        refine flat_at (fun c hc => ?_) (by rw [List.getElem?_map, hy]; rfl) hj
        rw [List.mem_map] at hc
        obtain ⟨z, hz, e⟩ := hc
        rw [← e, ints_length]; exact (HNB.out z hz).1
      clear hW3 hg8 hbs hs3 HO HR2 HB2 BA
      go_loopw [9] (fun i wr => ∃ j : Nat, j ≤ 10 ∧ i = .int .i64 ((j : Int) + 1) ∧ Hid (NArr wr g8 (Tr.numT bs g j)) ∧ Hid (NArr wr r0 (List.replicate 11 0)) ∧ Hid (OwnN wr w1.heap.size g8 A' k cap (flatN g (Tr.brT x) k)) ∧ Hid (Below w.heap.size w wr)) (fun i _ => 11 - (intOf i).toNat)
      case atStart => exact ⟨0, by omega, rfl, HC0.out, HR3.out, HO3.out, HB3.out⟩
      case round =>
        obtain ⟨j, hj, rfl, HC, HR, HO, HBw⟩ := hrel
        have hg8l := HC.out.lt
        by_cases hlt : j < 10
        · have hle : decide (((j : Int) + 1) ≤ 10) = true := decide_eq_true (by omega)
          have hsub : IntKind.i64.wrap (((j : Int) + 1) - (g : Int)) = ((j + 1 - g : Nat) : Int) := by rw [IntWalk.i64_in _ (by omega)]; omega
          obtain ⟨e, he⟩ : ∃ e, e = j + 1 - g := ⟨_, rfl⟩
          have he11 : e ≤ 10 := by omega
          rw [← he] at hsub
          have HE := Lib.hid he
          clear he
          clear HC0 HR3 HO3 HB3
          go_wp2_with fail
          go_loopw [10, 33] (fun v ii wr => ∃ i : Nat, i ≤ k ∧ v = .int .i64 (Tr.wayK bs e i) ∧ ii = .int .i64 i ∧ Hid (NArr wr g8 (Tr.numT bs g j)) ∧ Hid (NArr wr r0 (List.replicate 11 0)) ∧ Hid (OwnN wr w1.heap.size g8 A' k cap (flatN g (Tr.brT x) k)) ∧ Hid (Below w.heap.size w wr)) (fun _ ii _ => k - (intOf ii).toNat)
          case atStart => exact ⟨0, Nat.zero_le _, by rw [Tr.wayK_zero], rfl, HC.out, HR.out, HO.out, HBw.out⟩
          case round =>
            obtain ⟨i, hik, rfl, rfl, HC, HR, HO, HBw⟩ := hrel
            have hg8l := HC.out.lt
            by_cases hil : i < k
            · obtain ⟨y, hy⟩ := at_lt (show i < (Tr.brT x).length by rw [HP.out]; exact hil)
              have HLY := Lib.hid (HNB.out y (List.mem_of_getElem? hy)).1
              have HSW := Lib.hid (Tr.wayK_step (j := e) (HBA.out i y hy))
              have hw1 := HW.out e i he11 (by rw [HP.out]; omega)
              have hw2 := HW.out e (i + 1) he11 (by rw [HP.out]; omega)
              rw [HSW.out] at hw2
              obtain ⟨b, hbb⟩ : ∃ b, A' = some ⟨b, 0, none⟩ := by
                rcases HO.out.1.2 with ⟨_, h0⟩ | ⟨b, cap', cur, hv, _⟩
                · omega
                · injection hv with a1 a2 a3; exact ⟨b, a1⟩
              subst hbb
              have hbg : b < g8 := HO.out.2 b rfl
              have HRA : Hid (wr.rangeAt b (i * 11) (ints (Tr.nm g y))) := fun jj u hu => by
                have hj11 : jj < 11 := by
                  rcases Nat.lt_or_ge jj 11 with q | q
                  · exact q
                  · rw [List.getElem?_eq_none (by rw [ints_length, HLY.out]; exact q)] at hu; cases hu
                have := HFL.out i y jj hy hj11
                have h9 : i * 11 + jj < k * 11 := by omega
                rw [HO.out.1.cellAt (i * 11 + jj) h9, this]; exact hu
              have hat : (Tr.nm g y)[e]? = some ((Tr.nm g y).getD e 0) := by
                rw [List.getD_eq_getElem?_getD, List.getElem?_eq_getElem (by rw [HLY.out]; omega)]; rfl
              obtain ⟨ys, hys⟩ : ∃ ys, ys = Tr.nm g y := ⟨_, rfl⟩
              rw [← hys] at HRA hat HLY HSW hw2
              obtain ⟨zz, hzz⟩ : ∃ z, z = ys.getD e 0 := ⟨_, rfl⟩
              rw [← hzz] at hat HSW hw2
              obtain ⟨ww, hww⟩ : ∃ z, z = Tr.wayK bs e i := ⟨_, rfl⟩
              rw [← hww] at HSW hw1 hw2 ⊢
              have hmul : IntKind.i64.wrap (ww * zz) = ww * zz := IntWalk.i64_in _ (by omega)
              have HNA : Hid (NArr ((wr.alloc (.cells #[Value.int IntKind.i64 0, Value.int IntKind.i64 0, Value.int IntKind.i64 0, Value.int IntKind.i64 0, Value.int IntKind.i64 0, Value.int IntKind.i64 0, Value.int IntKind.i64 0, Value.int IntKind.i64 0, Value.int IntKind.i64 0, Value.int IntKind.i64 0, Value.int IntKind.i64 0] 141)).setRow wr.heap.size (ints ys).toArray) wr.heap.size ys) := setRow_heap _ _ _ _ _ _ (heap_alloc_new wr _)
              have hc12 := HNA.out.cell hat
              have HBN : Hid (Below wr.heap.size wr ((wr.alloc (.cells #[Value.int IntKind.i64 0, Value.int IntKind.i64 0, Value.int IntKind.i64 0, Value.int IntKind.i64 0, Value.int IntKind.i64 0, Value.int IntKind.i64 0, Value.int IntKind.i64 0, Value.int IntKind.i64 0, Value.int IntKind.i64 0, Value.int IntKind.i64 0, Value.int IntKind.i64 0] 141)).setRow wr.heap.size (ints ys).toArray)) := below_setRow ((Below.refl _ _).alloc (Nat.le_refl _) _) (Nat.le_refl _) _
              have hIL : (Try.prog.info? 141).map (·.size) = some (ints ys).length := by rw [ints_length, HLY.out]; exact size_a11
              have hIA : (Try.prog.info? 141).map (·.size) = some (ints ys).toArray.size := by simp only [List.size_toArray]; exact hIL
              have hI1 : (ints ys).toArray.all (·.oneCell') = true := by simp [ints, intsK, Array.all_eq_true, Value.oneCell']
              have hOS : (#[Value.int IntKind.i64 0, Value.int IntKind.i64 0, Value.int IntKind.i64 0, Value.int IntKind.i64 0, Value.int IntKind.i64 0, Value.int IntKind.i64 0, Value.int IntKind.i64 0, Value.int IntKind.i64 0, Value.int IntKind.i64 0, Value.int IntKind.i64 0, Value.int IntKind.i64 0] : Array Value).size = (ints ys).toArray.size := by simp [ints_length, HLY.out]
              clear hy hys hzz hww hat
              go_wp2_with (first
                | (refine wpList_load_mid rfl 141 (.tmp 35) rfl b (i * 11) rfl (ints ys) _ HRA.out Try.underlying141 rfl hIL ?_)
                | (refine wpList_store_row rfl 141 (.tmp 12) (.tmp 36) rfl wr.heap.size (ints ys).toArray rfl rfl 141 #[Value.int IntKind.i64 0, Value.int IntKind.i64 0, Value.int IntKind.i64 0, Value.int IntKind.i64 0, Value.int IntKind.i64 0, Value.int IntKind.i64 0, Value.int IntKind.i64 0, Value.int IntKind.i64 0, Value.int IntKind.i64 0, Value.int IntKind.i64 0, Value.int IntKind.i64 0] (heap_alloc_new wr _) hIA hOS hI1 ?_)
                | fail)
              refine ⟨⟨i + 1, by omega, by rw [HSW.out], by go_num, HC.out.below HBN.out hg8l, HR.out.below HBN.out (by omega), ⟨ownsRow_keep' HO.out.1 (fun z hz => HBN.out.block z (by have := HO.out.2 z hz; omega)), HO.out.2⟩, HBw.out.trans (HBN.out.mono HBw.out.size)⟩, by simp [intOf]; omega⟩
            · obtain rfl : i = k := by omega
              have hlT := Tr.numT_length bs g j
              have hTb := HT.out j (by omega)
              have hwb := HW.out e i he11 (by rw [HP.out]; exact Nat.le_refl _)
              have hat : (Tr.numT bs g j)[j]? = some ((Tr.numT bs g j).getD j 0) := by rw [List.getD_eq_getElem?_getD, List.getElem?_eq_getElem (by rw [hlT]; omega)]; rfl
              have hat2 : (Tr.numT bs g j)[j + 1]? = some ((Tr.numT bs g j).getD (j + 1) 0) := by rw [List.getD_eq_getElem?_getD, List.getElem?_eq_getElem (by rw [hlT]; omega)]; rfl
              have hb1 := hTb _ (List.mem_of_getElem? hat)
              have hST : Hid (Tr.numT bs g (j + 1) = (Tr.numT bs g j).set (j + 1) ((Tr.numT bs g j).getD j 0 + Tr.wayK bs e i)) := by rw [Hid, Tr.numT, HE.out, HBL.out]
              have hc1 := HC.out.cell hat
              have hc2 := HC.out.cell hat2
              have hf2 := HC.out.free (j + 1)
              obtain ⟨ww, hww⟩ : ∃ z, z = Tr.wayK bs e i := ⟨_, rfl⟩
              obtain ⟨vv, hvv⟩ : ∃ z, z = (Tr.numT bs g j).getD j 0 := ⟨_, rfl⟩
              rw [← hww] at hST hwb ⊢
              rw [← hvv] at hST hb1 hc1
              have hm1 : IntKind.i64.wrap (((j : Int) + 1) - 1) = (j : Int) := by rw [IntWalk.i64_in _ (by omega)]; omega
              have hadd : IntKind.i64.wrap (vv + ww) = vv + ww := IntWalk.i64_in _ (by omega)
              have GC : Hid (NArr (wr.setCell ⟨g8, j + 1, none⟩ (.int .i64 (vv + ww))) g8 (Tr.numT bs g (j + 1))) := by rw [Hid, hST.out]; exact HC.out.store _
              have GB : Hid (Below g8 wr (wr.setCell ⟨g8, j + 1, none⟩ (.int .i64 (vv + ww)))) := (Below.refl _ _).setCell (p := ⟨g8, j + 1, none⟩) (Nat.le_refl _) _
              have GR : Hid (NArr (wr.setCell ⟨g8, j + 1, none⟩ (.int .i64 (vv + ww))) r0 (List.replicate 11 0)) := HR.out.below GB.out hrg
              have GO : Hid (OwnN (wr.setCell ⟨g8, j + 1, none⟩ (.int .i64 (vv + ww))) w1.heap.size g8 A' i cap (flatN g (Tr.brT x) i)) := ⟨ownsRow_keep' HO.out.1 (fun z hz => GB.out.block z (HO.out.2 z hz)), HO.out.2⟩
              have GW : Hid (Below w.heap.size w (wr.setCell ⟨g8, j + 1, none⟩ (.int .i64 (vv + ww)))) := HBw.out.trans (GB.out.mono (by omega))
              clear hat hat2 hTb hlT hww hvv HC HR HO HBw
              go_wp2
              exact ⟨⟨j + 1, by omega, by go_num, GC.out, GR.out, GO.out, GW.out⟩, by simp [intOf]; omega⟩
        · obtain rfl : j = 10 := by omega
          have hle : decide (((10 : Nat) : Int) + 1 ≤ 10) = false := by decide
          have hxs : Tr.numT bs g 10 = Tr.nm g x := HN.out.symm
          have HX := Lib.hid hxs
          have hlT := Tr.numT_length bs g 10
          rw [hxs] at HC hlT
          obtain ⟨ys, hys⟩ : ∃ ys, ys = Tr.nm g x := ⟨_, rfl⟩
          rw [← hys] at HC hlT
          have HYS := Lib.hid hys
          have hIL : (Try.prog.info? 141).map (·.size) = some (ints ys).toArray.size := by simp only [List.size_toArray, ints_length, hlT]; exact size_a11
          have hI1 : (ints ys).toArray.all (·.oneCell') = true := by simp [ints, intsK, Array.all_eq_true, Value.oneCell']
          have hOS : (ints (List.replicate 11 0)).toArray.size = (ints ys).toArray.size := by simp [ints_length, hlT]
          have HIL := Lib.hid hIL
          have HGW : Hid (Below w.heap.size w (wr.setRow r0 (ints ys).toArray)) := below_setRow HBw.out hwr0 _
          have HGR : Hid ((wr.setRow r0 (ints ys).toArray).heap[r0]? = some (.cells (ints ys).toArray 141 (0, 0))) := setRow_heap _ _ _ _ _ _ HR.out
          have hcg := HC.out
          have hrg2 := HR.out
          unfold NArr at hcg hrg2
          clear hys hxs HX HC0 HR3 HO3 HB3 hlT
          go_wp2_with (first
            | (refine wpList_load_row rfl 141 (.tmp 8) rfl g8 rfl 141 (ints ys).toArray (0, 0) _ hcg Try.underlying141 rfl hIL ?_)
            | (refine wpList_store_row rfl 141 (.tmp 4) (.tmp 53) rfl r0 (ints ys).toArray rfl rfl 141 (ints (List.replicate 11 0)).toArray hrg2 hIL hOS hI1 ?_)
            | fail)
          refine bodyPost_ret (v := .agg (ints ys).toArray) ?_ rfl ⟨by rw [HYS.out], HGW.out⟩
          exact results_cell_row rfl _ _ r0 141 _ (0, 0) _ rfl HGR.out Try.underlying141 rfl HIL.out
theorem numberings_any (g : Nat) (x : List UInt8) (w : World) (hg : g ≤ 1) (hx : Tr.isTx x = true) :
    Calls Try.prog 121 #[.string ⟨x.toArray⟩, .int .i64 g] w fun e w' => e = .returned (.agg (ints (Tr.nm g x)).toArray) ∧ Below w.heap.size w w' := by
  have key : ∀ d, PNm d := fun d => by
    induction d with
    | zero => intro g y w _ hy ht; have := (Tr.br_parts ht).1.1; omega
    | succ d ih => exact pNm_succ d ih
  exact key x.length g x w hg (Nat.le_refl _) hx
end Go.Proofs.Ytjmjdcfgbaepkaa
