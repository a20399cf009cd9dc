/-
  Sums, multiples and parts of maps, the program's and the model's.
-/
import Derived.Test.YtgklilckjpbdnaaMpA
import Derived.Test.YtgklilckjpbdnaaMpN
import Derived.Test.YtgklilckjpbdnaaMpAr
import Derived.Test.YtgklilckjpbdnaaLvl
import Derived.Test.YtgklilckjpbdnaaResO
import Derived.Deep.MidRow
import Derived.Deep.RegionHeld3
import Derived.Deep.AppendLies
namespace Go.Proofs.Ytgklilckjpbdnaa
open Go.RowKit Fld
set_option linter.unusedVariables false
set_option linter.unusedSimpArgs false
set_option maxRecDepth 100000

/-- the sum of a map and k times another one -/
def addL (a b : List Int) (k : Int) : List Int := List.zipWith (fun x y => (x + k * y) % 10007) a b
theorem addL_length {a b : List Int} (h : a.length = 38) (h' : b.length = 38) (k : Int) : (addL a b k).length = 38 := by unfold addL; rw [List.length_zipWith, h, h', Nat.min_self]
theorem addL_at {a b : List Int} {k : Int} {i : Nat} {x y : Int} (hx : a[i]? = some x) (hy : b[i]? = some y) : (addL a b k)[i]? = some ((x + k * y) % 10007) := by
  unfold addL; rw [List.getElem?_zipWith, hx, hy]
theorem addL_num (a b : List Int) (k : Int) : allNum (addL a b k) = true := by
  unfold allNum addL
  rw [List.all_eq_true]
  intro x hx
  obtain ⟨i, hi⟩ := List.mem_iff_getElem?.1 hx
  rw [List.getElem?_zipWith] at hi
  split at hi
  · injection hi with hi
    subst hi
    exact isNum_iff.2 ⟨by omega, by omega⟩
  · cases hi
def mulMp (a : List Int) (y : Int) : List Int := a.map (fun x => x * y % 10007)
theorem mulMp_length {a : List Int} (h : a.length = 38) (y : Int) : (mulMp a y).length = 38 := by unfold mulMp; rw [List.length_map]; exact h
theorem mulMp_at {a : List Int} {y : Int} {i : Nat} {x : Int} (hx : a[i]? = some x) : (mulMp a y)[i]? = some (x * y % 10007) := by unfold mulMp; rw [List.getElem?_map, hx]; rfl
theorem addL_zero {a : List Int} (h : a.length = 38) (y : Int) : addL zero38 a y = mulMp a y := by
  apply List.ext_getElem?
  intro i
  rcases Nat.lt_or_ge i 38 with g | g
  · obtain ⟨x, hx⟩ := at_lt (show i < a.length by omega)
    rw [addL_at (zero38_at g) hx, mulMp_at hx, Int.zero_add, Int.mul_comm]
  · rw [List.getElem?_eq_none (by rw [addL_length rfl h]; exact g), List.getElem?_eq_none (by rw [mulMp_length h]; exact g)]
def partLn (a : List Int) (n : Int) : List Int := List.zipWith (fun x (l : Nat) => if (l : Int) = n then x else 0) a lens
theorem partLn_length {a : List Int} (h : a.length = 38) (n : Int) : (partLn a n).length = 38 := by unfold partLn; rw [List.length_zipWith, h, lens_len, Nat.min_self]
theorem partLn_at {a : List Int} {n : Int} {k l : Nat} {x : Int} (hx : a[k]? = some x) (hl : lens[k]? = some l) : (partLn a n)[k]? = some (if (l : Int) = n then x else 0) := by
  unfold partLn; rw [List.getElem?_zipWith, hx, hl]
/-- the answers -/
def addMA (a b : List Int) : List Int × Int := if isMp a = true ∧ isMp b = true then (addL a b 1, 0) else ([], 1)
theorem addMA_no1 {a b : List Int} (h : isMp a = false) : addMA a b = ([], 1) := if_neg (by rw [h]; simp)
theorem addMA_no2 {a b : List Int} (h : isMp b = false) : addMA a b = ([], 1) := if_neg (by rw [h]; simp)
theorem addMA_yes {a b : List Int} (h : isMp a = true) (k : isMp b = true) : addMA a b = (addL a b 1, 0) := if_pos ⟨h, k⟩
def mulMA (a : List Int) (y : Int) : List Int × Int := if isMp a = true then (if 0 ≤ y ∧ y < 10007 then (mulMp a y, 0) else ([], 2)) else ([], 1)
theorem mulMA_no {a : List Int} {y : Int} (h : isMp a = false) : mulMA a y = ([], 1) := if_neg (by rw [h]; simp)
theorem mulMA_out {a : List Int} {y : Int} (h : isMp a = true) (hy : ¬ (0 ≤ y ∧ y < 10007)) : mulMA a y = ([], 2) := by unfold mulMA; rw [if_pos h, if_neg hy]
theorem mulMA_yes {a : List Int} {y : Int} (h : isMp a = true) (hy : 0 ≤ y ∧ y < 10007) : mulMA a y = (mulMp a y, 0) := by unfold mulMA; rw [if_pos h, if_pos hy]
def partA (a : List Int) (y : Int) : List Int × Int := if isMp a = true then (if 0 ≤ y ∧ y ≤ 6 then (partLn a y, 0) else ([], 2)) else ([], 1)
theorem partA_no {a : List Int} {y : Int} (h : isMp a = false) : partA a y = ([], 1) := if_neg (by rw [h]; simp)
theorem partA_out {a : List Int} {y : Int} (h : isMp a = true) (hy : ¬ (0 ≤ y ∧ y ≤ 6)) : partA a y = ([], 2) := by unfold partA; rw [if_pos h, if_neg hy]
theorem partA_yes {a : List Int} {y : Int} (h : isMp a = true) (hy : 0 ≤ y ∧ y ≤ 6) : partA a y = (partLn a y, 0) := by unfold partA; rw [if_pos h, if_pos hy]

set_option maxHeartbeats 2000000 in
theorem multiple_any (a : List Int) (y : Int) (w : World) (hl : a.length = 38) (na : allNum a = true) (y0 : 0 ≤ y) (y1 : y < 10007) :
    Calls Try.prog 34 #[.agg (arrM a), .int .i64 y] w fun e w' => e = .returned (.agg (arrM (mulMp a y))) ∧ Below w.heap.size w w' := by
  have HL := Lib.hid hl
  have NA := Lib.hid na
  have hTL := Lib.hid (mulMp_length hl y)
  have FX := Lib.hid (arrM_two w a zero38).1
  have FZ := Lib.hid (arrM_two w a zero38).2.1
  have FB := Lib.hid (arrM_two w a zero38).2.2
  have hsz : ((w.alloc (.cells (arrM a) 47)).alloc (.cells (arrM zero38) 47)).heap.size = w.heap.size + 2 := by simp
  clear hl na
  go_enter Try.func34, Try.ntmps34
  go_wp2_with fail
  obtain ⟨W0, hW0⟩ : ∃ W0 : World, W0 = (w.alloc (.cells (arrM a) 47)).alloc (.cells (arrM zero38) 47) := ⟨_, rfl⟩
  rw [← hW0] at FX FZ FB hsz
  first | rw [← hW0] | (change Code.wp _ _ _ _ ((w.alloc (.cells (arrM a) 47)).alloc (.cells (arrM zero38) 47)); rw [← hW0])
  clear hW0
  go_loopw [6] (fun i wr => ∃ k : Nat, k ≤ 38 ∧ i = .int .i64 k ∧ Hid (ArrM wr w.heap.size ((mulMp a y).take k ++ a.drop k)) ∧ Hid (ArrM wr (w.heap.size + 1) zero38) ∧ Hid (Below w.heap.size w wr)) (fun i _ => 38 - (intOf i).toNat)
  case atStart => exact ⟨0, by omega, rfl, FX, FZ, FB⟩
  case round =>
    obtain ⟨k, hk, rfl, HX, HZ, HB⟩ := hrel
    by_cases hlt : k < 38
    · obtain ⟨x, hx⟩ := at_lt (show k < a.length by rw [HL.out]; exact hlt)
      have hc := HX.out.cell (mixP_at (us := mulMp a y) (by rw [hTL.out, HL.out]) hx)
      have hf := HX.out.free k
      have k0 : (0 : Int) ≤ (k : Int) := Int.natCast_nonneg _
      have k1 : (k : Int) < 38 := by omega
      obtain ⟨x0, x1⟩ := num_at NA.out hx
      have TA := mulMp_at (y := y) hx
      have C3 := fun w' => times_any x y w' x0 x1 y0 y1
      obtain ⟨V, hV⟩ : ∃ V : Int, V = x * y % 10007 := ⟨_, rfl⟩
      rw [← hV] at TA C3
      have GX : Hid (ArrM (wr.setCell ⟨w.heap.size, k, none⟩ (.int .i64 V)) w.heap.size ((mulMp a y).take (k + 1) ++ a.drop (k + 1))) := by
        have := HX.out.store (k := k) V
        rw [mixP_step (by rw [HL.out]; exact hlt) (by rw [hTL.out, HL.out]) TA] at this
        exact this
      have GZ : Hid (ArrM (wr.setCell ⟨w.heap.size, k, none⟩ (.int .i64 V)) (w.heap.size + 1) zero38) := HZ.out.other (by omega) _
      have GB : Hid (Below w.heap.size w (wr.setCell ⟨w.heap.size, k, none⟩ (.int .i64 V))) := below_set HB.out (Nat.le_refl _) _
      clear hx TA HX HZ HB FX FZ FB hV
      go_wp2_with fail
      refine (C3 _).mono ?_
      rintro e w' ⟨rfl, rfl⟩
      go_wp2
      go_roundw
      case rel => exact ⟨k + 1, by omega, by go_num, GX, GZ, GB⟩
      case measure => simp [intOf]; omega
    · obtain rfl : k = 38 := by omega
      have GX : Hid (ArrM wr w.heap.size (mulMp a y)) := by
        have := HX.out
        rw [mixP_end hTL.out HL.out] at this
        exact this
      clear HX FX FZ FB
      go_wp2_with (first
        | (refine wpList_load_row rfl 47 (.tmp 2) rfl w.heap.size rfl 47 (arrM (mulMp a y)) (0, 0) _ GX.out Try.underlying47 rfl (by rw [arrM_size hTL.out]; exact info_arrM) ?_)
        | (refine wpList_store_row rfl 47 (.tmp 4) (.tmp 17) rfl (w.heap.size + 1) (arrM (mulMp a y)) rfl rfl 47 (arrM zero38) HZ.out (by rw [arrM_size hTL.out]; exact info_arrM) (by rw [arrM_size hTL.out]; rfl) (arrM_cells _) ?_))
      refine bodyPost_ret (v := .agg (arrM (mulMp a y))) ?_ rfl ⟨rfl, below_setRow HB.out (by omega) _⟩
      exact results_cell_row rfl _ _ (w.heap.size + 1) 47 _ (0, 0) _ rfl (setRow_heap _ _ _ _ _ _ HZ.out) Try.underlying47 rfl (by rw [arrM_size hTL.out]; exact info_arrM)
set_option maxHeartbeats 2000000 in
theorem pMultiplyMap_L (A : Option Addr) (n c B : Nat) (a : List Int) (y : Int) (w : World) (hl : a.length = n) (hn : n ≤ 1048576) (hB : B ≤ w.heap.size) (h : Row w B A (ints a)) (hy : -9223372036854775808 ≤ y ∧ y ≤ 9223372036854775807) :
    Calls Try.prog 16 #[.slice A n c, .int .i64 y] w (ResL (mulMA a y) w) := by
  have C0 := isMap_any A n c B a w hl (by omega) h
  cases ha : isMp a
  · have G := Lib.hid (mulMA_no (y := y) ha)
    rw [ha] at C0
    clear hl
    go_enter Try.func16, Try.ntmps16
    go_wp2_with fail
    refine C0.mono ?_
    rintro e w' ⟨rfl, rfl⟩
    go_wp2
    go_ret2
    exact ResL.nil G.out (Below.refl _ _)
  · obtain ⟨e1, na⟩ := isMp_parts ha hl
    rw [ha] at C0
    have HL0 := hl
    subst e1
    have HL := Lib.hid HL0
    have NA := Lib.hid na
    by_cases hyy : 0 ≤ y ∧ y < 10007
    · have G := Lib.hid (mulMA_yes ha hyy)
      have HN := isNum_iff.2 hyy
      obtain ⟨y0, y6⟩ := hyy
      have hTL := Lib.hid (mulMp_length HL0 y)
      clear hl ha na HL0
      go_enter Try.func16, Try.ntmps16
      go_wp2_with fail
      refine C0.mono ?_
      rintro e w' ⟨rfl, rfl⟩
      go_wp2_with fail
      refine (isNumber_any _ _).mono ?_
      rintro e w' ⟨rfl, rfl⟩
      rw [HN]
      go_wp2_with fail
      refine (treeMapOf_any A c B a _ HL.out NA.out hB h).mono ?_
      rintro e w1 ⟨rfl, b1⟩
      have B1 := Lib.hid b1
      clear b1
      go_wp2_with fail
      refine (multiple_any a y _ HL.out NA.out y0 y6).mono ?_
      rintro e w2 ⟨rfl, b2⟩
      have B2 := Lib.hid (B1.out.trans (b2.mono B1.out.size))
      clear b2
      go_wp2_with fail
      refine (listM_any (mulMp a y) _ hTL.out).mono ?_
      rintro e w4 ⟨A4, c4, rfl, own4, bel4⟩
      have N := Lib.hid (NewRow.after B2.out ⟨A4, c4, rfl, own4, bel4⟩)
      clear own4 bel4
      go_wp2
      go_ret2
      obtain ⟨A5, c5, e5, own5, b5⟩ := N.out
      cases e5
      exact ResL.of G.out hTL.out (by omega) own5 b5
    · have G := Lib.hid (mulMA_out ha hyy)
      have HN := isNum_no.2 (show y < 0 ∨ 10007 ≤ y by omega)
      clear hl HL0
      go_enter Try.func16, Try.ntmps16
      go_wp2_with fail
      refine C0.mono ?_
      rintro e w' ⟨rfl, rfl⟩
      go_wp2_with fail
      refine (isNumber_any _ _).mono ?_
      rintro e w' ⟨rfl, rfl⟩
      rw [HN]
      go_wp2
      go_ret2
      exact ResL.nil G.out (Below.refl _ _)
/-- maps that stand one behind the other in memory -/
def Mps (w : World) (B : Nat) (A : Option Addr) (ms : List (List Int)) : Prop := ∀ (j : Nat) (m : List Int), ms[j]? = some m → ∃ b o, A = some ⟨b, o, none⟩ ∧ b < B ∧ w.rangeAt b (o + j * 38) (ints m)
theorem Mps.below {w w' : World} {B B' : Nat} {A : Option Addr} {ms : List (List Int)} (h : Mps w B A ms) (hb : Below B' w w') (hB : B ≤ B') : Mps w' B A ms := fun j m hm => by
  obtain ⟨b, o, e, hlt, hr⟩ := h j m hm
  exact ⟨b, o, e, hlt, fun i v hv => (hb.cell (p := ⟨b, o + j * 38 + i, none⟩) (by show b < B'; omega)).trans (hr i v hv)⟩
def sumTo (ms : List (List Int)) (j : Nat) : List Int := (ms.take j).foldl (fun s a => addL s a 1) zero38
theorem sumTo_step {ms : List (List Int)} {j : Nat} {m : List Int} (h : ms[j]? = some m) : sumTo ms (j + 1) = addL (sumTo ms j) m 1 := by
  unfold sumTo; rw [List.take_add_one, h, Option.toList_some, List.foldl_append]; rfl
theorem sumTo_length {ms : List (List Int)} (hm : ∀ m ∈ ms, m.length = 38) : ∀ j, j ≤ ms.length → (sumTo ms j).length = 38
  | 0, _ => rfl
  | j+1, h => by
    rw [sumTo_step (List.getElem?_eq_getElem (show j < ms.length by omega))]
    exact addL_length (sumTo_length hm j (by omega)) (hm _ (List.getElem_mem _)) 1
theorem sumTo_num {ms : List (List Int)} : ∀ j, j ≤ ms.length → allNum (sumTo ms j) = true
  | 0, _ => (by decide : allNum zero38 = true)
  | j+1, h => by
    rw [sumTo_step (List.getElem?_eq_getElem (show j < ms.length by omega))]
    exact addL_num _ _ _
set_option maxHeartbeats 4000000 in
theorem sumOfMaps_any (A : Option Addr) (n c B : Nat) (ms : List (List Int)) (w : World) (hl : ms.length = n) (hn : n ≤ 1000) (hm : ∀ m ∈ ms, m.length = 38 ∧ allNum m = true) (hB : B ≤ w.heap.size) (h : Mps w B A ms) :
    Calls Try.prog 28 #[.slice A n c] w fun e w' => e = .returned (.agg (arrM (sumTo ms n))) ∧ Below w.heap.size w w' := by
  have HL := Lib.hid hl
  have HM := Lib.hid hm
  have HSL : Hid (∀ j, j ≤ n → (sumTo ms j).length = 38) := fun j hj => sumTo_length (fun m q => (hm m q).1) j (by omega)
  have HSN : Hid (∀ j, j ≤ n → allNum (sumTo ms j) = true) := fun j hj => sumTo_num j (by omega)
  have FX := Lib.hid (arrM_two w zero38 zero38).1
  have FZ := Lib.hid (arrM_two w zero38 zero38).2.1
  have FB := Lib.hid (arrM_two w zero38 zero38).2.2
  have hsz : ((w.alloc (.cells (arrM zero38) 47)).alloc (.cells (arrM zero38) 47)).heap.size = w.heap.size + 2 := by simp
  clear hl hm
  go_enter Try.func28, Try.ntmps28
  go_wp2_with fail
  obtain ⟨W0, hW0⟩ : ∃ W0 : World, W0 = (w.alloc (.cells (arrM zero38) 47)).alloc (.cells (arrM zero38) 47) := ⟨_, rfl⟩
  rw [← hW0] at FX FZ FB hsz
  first | rw [← hW0] | (change Code.wp _ _ _ _ ((w.alloc (.cells (arrM zero38) 47)).alloc (.cells (arrM zero38) 47)); rw [← hW0])
  have FS : Hid (w.heap.size + 2 ≤ W0.heap.size) := by rw [Hid, hsz]; exact Nat.le_refl _
  clear hW0 hsz
  go_loopw [9] (fun i wr => ∃ j : Nat, j ≤ n ∧ i = .int .i64 j ∧ Hid (ArrM wr w.heap.size zero38) ∧ Hid (ArrM wr (w.heap.size + 1) (sumTo ms j)) ∧ Hid (Below w.heap.size w wr) ∧ Hid (w.heap.size + 2 ≤ wr.heap.size)) (fun i _ => n - (intOf i).toNat)
  case atStart => exact ⟨0, by omega, rfl, FX, FZ, FB, FS⟩
  case round =>
    obtain ⟨j, hj, rfl, HX, HZ, HB, HS⟩ := hrel
    have hs2 := HS.out
    by_cases hlt : j < n
    · obtain ⟨m, hmj⟩ := at_lt (show j < ms.length by rw [HL.out]; exact hlt)
      obtain ⟨hm38, hmn⟩ := HM.out m (List.mem_of_getElem? hmj)
      obtain ⟨b, o, rfl, hbB, hrg⟩ := (h.below HB.out hB) j m hmj
      have HR := Lib.hid hrg
      have HM38 := Lib.hid hm38
      have HMN := Lib.hid hmn
      have HST := Lib.hid (sumTo_step hmj)
      have hSl := HSL.out j hj
      have HSl := Lib.hid hSl
      have HSn := Lib.hid (HSN.out j hj)
      have hIl : Hid ((ints m).length = 38) := by rw [Hid, ints_length]; exact hm38
      have EA : Hid ((ints m).toArray = arrM m) := rfl
      obtain ⟨S, hS⟩ : ∃ S, S = sumTo ms j := ⟨_, rfl⟩
      rw [← hS] at HZ HST HSl HSn
      clear hmj hrg hm38 hmn hSl hS FX FZ FB FS
      have hj0 : (0 : Int) ≤ (j : Int) := Int.natCast_nonneg _
      go_wp2_with (first
        | (refine wpList_load_mid rfl 47 (.tmp 11) rfl b (o + j * 38) rfl (ints m) _ HR.out Try.underlying47 rfl (by rw [hIl.out]; exact info_arrM) ?_; rw [EA.out])
        | (refine wpList_store_row rfl 47 (.tmp 5) (.tmp 12) rfl wr.heap.size (arrM m) rfl rfl 47 (arrM zero38) (ArrM.new wr zero38) (by rw [arrM_size HM38.out]; exact info_arrM) (by rw [arrM_size HM38.out]; rfl) (arrM_cells _) ?_))
      have FX1 : ArrM ((wr.alloc (.cells (arrM zero38) 47)).setRow wr.heap.size (arrM m)) w.heap.size zero38 := by
        unfold ArrM; rw [setRow_other _ _ _ _ (by omega)]; exact HX.out.alloc _
      have FZ1 : ArrM ((wr.alloc (.cells (arrM zero38) 47)).setRow wr.heap.size (arrM m)) (w.heap.size + 1) S := by
        unfold ArrM; rw [setRow_other _ _ _ _ (by omega)]; exact HZ.out.alloc _
      have FA1 : ArrM ((wr.alloc (.cells (arrM zero38) 47)).setRow wr.heap.size (arrM m)) wr.heap.size m := setRow_heap _ _ _ _ _ _ (ArrM.new wr zero38)
      have FB1 : Below w.heap.size w ((wr.alloc (.cells (arrM zero38) 47)).setRow wr.heap.size (arrM m)) := below_setRow (HB.out.alloc (by omega) _) (by omega) _
      have FS1 : ((wr.alloc (.cells (arrM zero38) 47)).setRow wr.heap.size (arrM m)).heap.size = wr.heap.size + 1 := by simp [World.setRow]
      obtain ⟨W1, hW1⟩ : ∃ W1 : World, W1 = (wr.alloc (.cells (arrM zero38) 47)).setRow wr.heap.size (arrM m) := ⟨_, rfl⟩
      rw [← hW1] at FX1 FZ1 FA1 FB1 FS1
      first | rw [← hW1] | (change Code.wp _ _ _ _ ((wr.alloc (.cells (arrM zero38) 47)).setRow wr.heap.size (arrM m)); rw [← hW1])
      obtain ⟨ga, hga⟩ : ∃ ga, ga = wr.heap.size := ⟨_, rfl⟩
      rw [← hga] at FA1 FS1 hs2 ⊢
      have TL := Lib.hid (addL_length HSl.out HM38.out 1)
      have GX1 := Lib.hid FX1
      have GA1 := Lib.hid FA1
      have GB1 := Lib.hid FB1
      have GZ1 : Hid (ArrM W1 (w.heap.size + 1) ((addL S m 1).take 0 ++ S.drop 0)) := by rw [Hid, List.take_zero, List.drop_zero, List.nil_append]; exact FZ1
      have GS1 : Hid (ga + 1 ≤ W1.heap.size) := by rw [Hid, FS1]; exact Nat.le_refl _
      clear hW1 hga FX1 FZ1 FA1 FB1 FS1 HX HZ HB HR HS
      go_loopw [13] (fun i wr => ∃ k : Nat, k ≤ 38 ∧ i = .int .i64 k ∧ Hid (ArrM wr w.heap.size zero38) ∧ Hid (ArrM wr (w.heap.size + 1) ((addL S m 1).take k ++ S.drop k)) ∧ Hid (ArrM wr ga m) ∧ Hid (Below w.heap.size w wr) ∧ Hid (ga + 1 ≤ wr.heap.size)) (fun i _ => 38 - (intOf i).toNat)
      case atStart => exact ⟨0, by omega, rfl, GX1, GZ1, GA1, GB1, GS1⟩
      case round =>
        obtain ⟨k, hk, rfl, HX, HZ, HA, HB, HS⟩ := hrel
        by_cases hlt : k < 38
        · obtain ⟨x, hx⟩ := at_lt (show k < S.length by rw [HSl.out]; exact hlt)
          obtain ⟨y, hy⟩ := at_lt (show k < m.length by rw [HM38.out]; exact hlt)
          have hc := HZ.out.cell (mixP_at (us := addL S m 1) (by rw [TL.out, HSl.out]) hx)
          have hf := HZ.out.free k
          have hca := HA.out.cell hy
          have k0 : (0 : Int) ≤ (k : Int) := Int.natCast_nonneg _
          have k1 : (k : Int) < 38 := by omega
          obtain ⟨x0, x1⟩ := num_at HSn.out hx
          obtain ⟨y0, y1⟩ := num_at HMN.out hy
          have TA := addL_at (k := 1) hx hy
          rw [Int.one_mul] at TA
          have C3 := fun w' => plus_any x y w' x0 x1 y0 y1
          obtain ⟨V, hV⟩ : ∃ V : Int, V = (x + y) % 10007 := ⟨_, rfl⟩
          rw [← hV] at TA C3
          have GX : Hid (ArrM (wr.setCell ⟨w.heap.size + 1, k, none⟩ (.int .i64 V)) w.heap.size zero38) := HX.out.other (by omega) _
          have GZ : Hid (ArrM (wr.setCell ⟨w.heap.size + 1, k, none⟩ (.int .i64 V)) (w.heap.size + 1) ((addL S m 1).take (k + 1) ++ S.drop (k + 1))) := by
            have := HZ.out.store (k := k) V
            rw [mixP_step (by rw [HSl.out]; exact hlt) (by rw [TL.out, HSl.out]) TA] at this
            exact this
          have GA : Hid (ArrM (wr.setCell ⟨w.heap.size + 1, k, none⟩ (.int .i64 V)) ga m) := HA.out.other (by omega) _
          have GB : Hid (Below w.heap.size w (wr.setCell ⟨w.heap.size + 1, k, none⟩ (.int .i64 V))) := below_set HB.out (by omega) _
          have GS : Hid (ga + 1 ≤ (wr.setCell ⟨w.heap.size + 1, k, none⟩ (.int .i64 V)).heap.size) := by rw [Hid, World.size_setCell]; exact HS.out
          clear hx hy TA hV HX HZ HA HB HS GX1 GZ1 GA1 GB1 GS1
          go_wp2_with fail
          refine wp_region_still_tail 9 (by kernel_rfl) (by kernel_rfl) ?_
          simp only [List.take_succ_cons, List.take_zero, List.drop_succ_cons, List.drop_zero]
          repeat still_step
          refine wpStill_step (fun K hK => ?_)
          go_simp
          refine ⟨_, stillCM (C3 _), hK _ ?_⟩
          clear hK K
          repeat still_step
          refine wpStill_nil ?_
          change wpList _ _ _ _ _ wr.drew
          go_wp2
          go_roundw
          case rel => exact ⟨k + 1, by omega, by go_num, GX.out.drewN 1, GZ.out.drewN 1, GA.out.drewN 1, below_drewN GB.out 1, GS⟩
          case measure => simp [intOf]; omega
        · obtain rfl : k = 38 := by omega
          have GZ : Hid (ArrM wr (w.heap.size + 1) (sumTo ms (j + 1))) := by
            have := HZ.out
            rw [mixP_end TL.out HSl.out, ← HST.out] at this
            exact this
          have GS : Hid (w.heap.size + 2 ≤ wr.heap.size) := by have := HS.out; rw [Hid]; omega
          clear HZ HA HS GX1 GZ1 GA1 GB1 GS1
          go_wp2
          go_roundw
          case rel => exact ⟨j + 1, by omega, by go_num, HX, GZ, HB, GS⟩
          case measure => simp [intOf]; omega
    · obtain rfl : j = n := by omega
      have hTL := HSL.out j (Nat.le_refl _)
      have HTL := Lib.hid hTL
      clear hTL FX FZ FB FS HS
      go_wp2_with (first
        | (refine wpList_load_row rfl 47 (.tmp 3) rfl (w.heap.size + 1) rfl 47 (arrM (sumTo ms j)) (0, 0) _ HZ.out Try.underlying47 rfl (by rw [arrM_size HTL.out]; exact info_arrM) ?_)
        | (refine wpList_store_row rfl 47 (.tmp 2) (.tmp 27) rfl w.heap.size (arrM (sumTo ms j)) rfl rfl 47 (arrM zero38) HX.out (by rw [arrM_size HTL.out]; exact info_arrM) (by rw [arrM_size HTL.out]; rfl) (arrM_cells _) ?_))
      refine bodyPost_ret (v := .agg (arrM (sumTo ms j))) ?_ rfl ⟨rfl, below_setRow HB.out (Nat.le_refl _) _⟩
      exact results_cell_row rfl _ _ w.heap.size 47 _ (0, 0) _ rfl (setRow_heap _ _ _ _ _ _ HX.out) Try.underlying47 rfl (by rw [arrM_size HTL.out]; exact info_arrM)
theorem foldZ (o : Nat) : ∀ (l : List Value) (s : Nat) (Z : Array Value) (k : Nat), ((l.zipIdx s).foldl (fun cs x => cs.setIfInBounds (o + x.snd) x.fst) Z)[k]? = if o + s ≤ k ∧ k < o + s + l.length ∧ k < Z.size then l[k - (o + s)]? else Z[k]?
  | [], s, Z, k => by rw [if_neg (by simp; omega)]; rfl
  | v :: r, s, Z, k => by
    rw [List.zipIdx_cons, List.foldl_cons, foldZ o r (s + 1) _ k, Array.size_setIfInBounds, List.length_cons]
    by_cases h1 : k = o + s
    · subst h1
      rw [if_neg (by omega)]
      by_cases h2 : o + s < Z.size
      · rw [if_pos ⟨by omega, by omega, h2⟩, Array.getElem?_setIfInBounds_self_of_lt h2, Nat.sub_self]; rfl
      · rw [if_neg (by omega), Array.getElem?_eq_none (by simp; omega), Array.getElem?_eq_none (by omega)]
    · by_cases h3 : o + (s + 1) ≤ k ∧ k < o + (s + 1) + r.length ∧ k < Z.size
      · rw [if_pos h3, if_pos ⟨by omega, by omega, h3.2.2⟩, show k - (o + s) = (k - (o + (s + 1))) + 1 by omega, List.getElem?_cons_succ]
      · rw [if_neg h3, if_neg (by omega), Array.getElem?_setIfInBounds_ne (by omega)]
theorem foldA (o : Nat) (vs Z : Array Value) (k : Nat) : (Array.foldl (fun cs x => cs.setIfInBounds (o + x.snd) x.fst) Z vs.zipIdx 0 vs.size)[k]? = if o ≤ k ∧ k < o + vs.size ∧ k < Z.size then vs[k - o]? else Z[k]? := by
  have e : Array.foldl (fun cs x => cs.setIfInBounds (o + x.snd) x.fst) Z vs.zipIdx 0 vs.size = (vs.toList.zipIdx 0).foldl (fun cs x => cs.setIfInBounds (o + x.snd) x.fst) Z := by
    have h : vs.size = vs.zipIdx.size := by simp
    rw [h, ← Array.foldl_toList, Array.toList_zipIdx]
  rw [e, foldZ o vs.toList 0 Z k]
  simp
theorem pairM {a b : List Int} (hl : a.length = 38) (hl' : b.length = 38) (Z : Array Value) (hZ : Z.size = 76) :
    Array.foldl (fun cs x => cs.setIfInBounds (38 + x.snd) x.fst) (Array.foldl (fun cs x => cs.setIfInBounds x.snd x.fst) Z (arrM a).zipIdx 0 (arrM a).size) (arrM b).zipIdx 0 (arrM b).size = (ints a ++ ints b).toArray := by
  have e0 : (fun (cs : Array Value) (x : Value × Nat) => cs.setIfInBounds x.snd x.fst) = fun cs x => cs.setIfInBounds (0 + x.snd) x.fst := by funext cs x; rw [Nat.zero_add]
  have hs : ∀ (vs Z : Array Value) (o : Nat), (Array.foldl (fun cs x => cs.setIfInBounds (o + x.snd) x.fst) Z vs.zipIdx 0 vs.size).size = Z.size := fun vs Z o => by
    have h : vs.size = vs.zipIdx.size := by simp
    rw [h, ← Array.foldl_toList]
    generalize vs.zipIdx.toList = l
    induction l generalizing Z with
    | nil => rfl
    | cons x r ih => rw [List.foldl_cons, ih]; simp
  rw [e0]
  apply Array.ext_getElem?
  intro k
  rw [foldA, hs, foldA, arrM_size hl, arrM_size hl', hZ]
  have la : (ints a).length = 38 := by rw [ints_length]; exact hl
  have lb : (ints b).length = 38 := by rw [ints_length]; exact hl'
  have e3 : (ints a ++ ints b).toArray[k]? = (ints a ++ ints b)[k]? := by simp only [List.getElem?_toArray]
  have e4 : ∀ (x : List Int) (i : Nat), (arrM x)[i]? = (ints x)[i]? := fun x i => by unfold arrM; simp only [List.getElem?_toArray]
  rw [e3, e4, e4]
  rcases Nat.lt_or_ge k 38 with g | g
  · rw [if_neg (by omega), if_pos ⟨by omega, by omega, by omega⟩, List.getElem?_append_left (by omega), Nat.sub_zero]
  · rcases Nat.lt_or_ge k 76 with g2 | g2
    · rw [if_pos ⟨by omega, by omega, by omega⟩, List.getElem?_append_right (by omega), la]
    · rw [if_neg (by omega), if_neg (by omega), Array.getElem?_eq_none (by omega), List.getElem?_eq_none (by rw [List.length_append]; omega)]
theorem foldS {vs : Array Value} (hv : vs.size = 38) (Z : Array Value) : (Array.foldl (fun cs x => cs.setIfInBounds x.snd x.fst) Z vs.zipIdx 0 38).size = Z.size := by
  have h : 38 = vs.zipIdx.size := by rw [Array.size_zipIdx, hv]
  rw [h, ← Array.foldl_toList]
  generalize vs.zipIdx.toList = l
  induction l generalizing Z with
  | nil => rfl
  | cons x r ih => rw [List.foldl_cons, ih]; simp
theorem pairM' {a b : List Int} (hl : a.length = 38) (hl' : b.length = 38) (Z : Array Value) (hZ : Z.size = 76) :
    Array.foldl (fun cs x => cs.setIfInBounds (38 + x.snd) x.fst) (Array.foldl (fun cs x => cs.setIfInBounds x.snd x.fst) Z (arrM a).zipIdx 0 38) (arrM b).zipIdx 0 38 = (ints a ++ ints b).toArray := by
  have := pairM hl hl' Z hZ
  rw [arrM_size hl, arrM_size hl'] at this
  exact this
theorem Mps.two {a b : List Int} (hl : a.length = 38) (hl' : b.length = 38) (w : World) (T : TypeId) : Mps (w.alloc (.cells (ints a ++ ints b).toArray T)) (w.heap.size + 1) (some ⟨w.heap.size, 0, none⟩) [a, b] := fun j m hm => by
  have la : (ints a).length = 38 := by rw [ints_length]; exact hl
  have hh := heap_alloc_new w (.cells (ints a ++ ints b).toArray T)
  refine ⟨w.heap.size, 0, rfl, by omega, fun i v hv => ?_⟩
  rw [cell_of_row _ _ _ _ _ _ hh, List.getElem?_toArray]
  rcases j with _ | _ | j
  · simp only [List.getElem?_cons_zero, Option.some.injEq] at hm
    subst hm
    rw [show 0 + 0 * 38 + i = i by omega, List.getElem?_append_left (List.getElem?_eq_some_iff.1 hv).1]; exact hv
  · simp only [List.getElem?_cons_succ, List.getElem?_cons_zero, Option.some.injEq, Nat.zero_add] at hm
    subst hm
    rw [show 0 + (0 + 1) * 38 + i = 38 + i by omega, List.getElem?_append_right (by omega), la, show 38 + i - 38 = i by omega]; exact hv
  · simp at hm
set_option maxHeartbeats 4000000 in
theorem pAddMaps_L (A A' : Option Addr) (n n' c c' B B' : Nat) (a b : List Int) (w : World) (hl : a.length = n) (hl' : b.length = n') (hn : n ≤ 1048576) (hn' : n' ≤ 1048576) (hB : B ≤ w.heap.size) (hB' : B' ≤ w.heap.size) (h : Row w B A (ints a)) (h' : Row w B' A' (ints b)) :
    Calls Try.prog 12 #[.slice A n c, .slice A' n' c'] w (ResL (addMA a b) w) := by
  have HM : Hid (ListsM (w.alloc (.cells #[.slice A n c, .slice A' n' c'] 22)) w.heap.size (some ⟨w.heap.size, 0, none⟩) [a, b]) := ListsM.two _ hl hl' (Nat.le_refl _) (h.more hB) (h'.more hB')
  have HQ : Hid (∀ r ∈ [a, b], r.length ≤ 1048576) := by intro r hr; simp at hr; rcases hr with rfl | rfl <;> omega
  have HT := mapsM_two a b
  cases hs : (isMp a && isMp b)
  · have G : Hid (addMA a b = ([], 1)) := by
      cases ha : isMp a
      · exact addMA_no1 ha
      · rw [ha, Bool.true_and] at hs
        exact addMA_no2 hs
    rw [hs] at HT
    have HT' := Lib.hid HT
    clear HT hl hl' hs
    go_enter Try.func12, Try.ntmps12
    go_wp2_with (go_at_call 27; refine (areMaps_any _ 2 _ w.heap.size [a, b] _ rfl (by omega) HQ.out (by exact HM.out)).mono ?_; rintro e w' ⟨rfl, rfl⟩; rw [HT'.out])
    go_ret2
    exact ResL.nil G.out ((Below.refl _ _).alloc (Nat.le_refl _) _)
  · obtain ⟨ha, hb⟩ := (Bool.and_eq_true _ _ ▸ hs : isMp a = true ∧ isMp b = true)
    have G := Lib.hid (addMA_yes ha hb)
    rw [hs] at HT
    have HT' := Lib.hid HT
    obtain ⟨e1, na⟩ := isMp_parts ha hl
    obtain ⟨e2, nb⟩ := isMp_parts hb hl'
    subst e1 e2
    have HL := Lib.hid hl
    have HL' := Lib.hid hl'
    have NA := Lib.hid na
    have NB := Lib.hid nb
    clear HT hl hl' ha hb hs na nb
    go_enter Try.func12, Try.ntmps12
    go_wp2_with fail
    refine (areMaps_any _ 2 _ w.heap.size [a, b] _ rfl (by omega) HQ.out (by exact HM.out)).mono ?_
    rintro e w' ⟨rfl, rfl⟩
    rw [HT'.out]
    have B1 : Below w.heap.size w (w.alloc (.cells #[.slice A 38 c, .slice A' 38 c'] 22)) := (Below.refl _ _).alloc (Nat.le_refl _) _
    go_wp2_with fail
    refine (treeMapOf_any _ _ B a _ HL.out NA.out (by simp; omega) (by exact h.below B1 hB)).mono ?_
    rintro e w1 ⟨rfl, b1⟩
    have B2 := B1.trans (b1.mono B1.size)
    clear b1
    go_wp2_with fail
    refine (treeMapOf_any _ _ B' b _ HL'.out NB.out (Nat.le_trans hB' B2.size) (by exact h'.below B2 hB')).mono ?_
    rintro e w2 ⟨rfl, b2⟩
    have B3 := B2.trans (b2.mono B2.size)
    clear b2
    have hz2 := B3.size
    have GB3 := Lib.hid B3
    have TLs : Hid ((sumTo [a, b] 2).length = 38) := sumTo_length (fun m hm => by simp at hm; rcases hm with rfl | rfl <;> first | exact HL.out | exact HL'.out) 2 (by simp)
    have TE : Hid (sumTo [a, b] 2 = addL a b 1) := by
      show addL (addL zero38 a 1) b 1 = _
      have e : addL zero38 a 1 = a := by
        rw [addL_zero HL.out]
        apply List.ext_getElem?
        intro i
        rcases Nat.lt_or_ge i 38 with g | g
        · obtain ⟨x, hx⟩ := at_lt (show i < a.length by rw [HL.out]; exact g)
          obtain ⟨x0, x1⟩ := num_at NA.out hx
          rw [mulMp_at hx, hx]; congr 1; omega
        · rw [List.getElem?_eq_none (by rw [mulMp_length HL.out]; exact g), List.getElem?_eq_none (by rw [HL.out]; exact g)]
      rw [e]
    clear B2 B1 B3
    have sa := arrM_size HL.out
    have sb := arrM_size HL'.out
    go_wp2_with fail
    case inl h => exact absurd h (by rw [foldS sa]; exact Nat.lt_irrefl 76)
    clear h
    first | rw [pairM HL.out HL'.out _ rfl] | rw [pairM' HL.out HL'.out _ rfl]
    clear sa sb
    refine (sumOfMaps_any _ 2 2 (w2.heap.size + 1) [a, b] _ rfl (by omega) (fun m hm => by simp at hm; rcases hm with rfl | rfl <;> first | exact ⟨HL.out, NA.out⟩ | exact ⟨HL'.out, NB.out⟩) (by simp) (Mps.two HL.out HL'.out w2 _)).mono ?_
    rintro e w3 ⟨rfl, b3⟩
    have GB4 : Hid (Below w.heap.size w w3) := (GB3.out.alloc hz2 _).trans (b3.mono (by simp; omega))
    clear b3
    go_wp2_with fail
    refine (listM_any _ _ TLs.out).mono ?_
    rintro e w4 ⟨A4, c4, rfl, own4, bel4⟩
    have N := Lib.hid (NewRow.after GB4.out ⟨A4, c4, rfl, own4, bel4⟩)
    clear own4 bel4
    go_wp2
    go_ret2
    obtain ⟨A5, c5, e5, own5, b5⟩ := N.out
    cases e5
    rw [TE.out] at own5 TLs
    exact ResL.of G.out TLs.out (by omega) own5 b5
set_option maxHeartbeats 2000000 in
theorem pPartOfMap_L (A : Option Addr) (n c B : Nat) (a : List Int) (y : Int) (w : World) (hl : a.length = n) (hn : n ≤ 1048576) (hB : B ≤ w.heap.size) (h : Row w B A (ints a)) (hy : -9223372036854775808 ≤ y ∧ y ≤ 9223372036854775807) :
    Calls Try.prog 18 #[.slice A n c, .int .i64 y] w (ResL (partA a y) w) := by
  have C0 := isMap_any A n c B a w hl (by omega) h
  cases ha : isMp a
  · have G := Lib.hid (partA_no (y := y) ha)
    rw [ha] at C0
    clear hl
    go_enter Try.func18, Try.ntmps18
    go_wp2_with fail
    refine C0.mono ?_
    rintro e w' ⟨rfl, rfl⟩
    go_wp2
    go_ret2
    exact ResL.nil G.out (Below.refl _ _)
  · obtain ⟨e1, na⟩ := isMp_parts ha hl
    rw [ha] at C0
    have HL0 := hl
    subst e1
    have HL := Lib.hid HL0
    have NA := Lib.hid na
    by_cases hyy : 0 ≤ y ∧ y ≤ 6
    · have G := Lib.hid (partA_yes ha hyy)
      obtain ⟨y0, y6⟩ := hyy
      have hTL := Lib.hid (partLn_length HL0 y)
      clear hl ha na HL0
      go_enter Try.func18, Try.ntmps18
      go_wp2_with fail
      refine C0.mono ?_
      rintro e w' ⟨rfl, rfl⟩
      go_wp2_with fail
      have FX0 : ArrM (w.alloc (.cells (arrM zero38) 47)) w.heap.size zero38 := ArrM.new w zero38
      have FB0 : Below w.heap.size w (w.alloc (.cells (arrM zero38) 47)) := (Below.refl _ _).alloc (Nat.le_refl _) _
      refine (mapTrees_any _).mono ?_
      rintro e w2 ⟨A2, c2, rfl, own2, bel2⟩
      have FX : Hid (ArrM w2 w.heap.size ((partLn a y).take 0 ++ zero38.drop 0)) := FX0.below bel2 (by simp)
      have FB : Hid (Below w.heap.size w w2) := FB0.trans (bel2.mono (by simp))
      obtain ⟨g2, rfl⟩ := own_addr own2 (by omega)
      have hg2 : w.heap.size < g2 := by have := (own2.lt g2 rfl).1; simp at this; omega
      have FT := Lib.hid (strs_cell (row_of_own own2))
      clear own2 bel2 FX0 FB0 C0
      go_wp2_with fail
      go_loopw [20] (fun i wr => ∃ k : Nat, k ≤ 38 ∧ i = .int .i64 k ∧ Hid (ArrM wr w.heap.size ((partLn a y).take k ++ zero38.drop k)) ∧ Hid (∀ k t, mapTx[k]? = some t → wr.cell? ⟨g2, k, none⟩ = some (.string ⟨t.toArray⟩)) ∧ Hid (Below w.heap.size w wr)) (fun i _ => 38 - (intOf i).toNat)
      case atStart => exact ⟨0, by omega, rfl, FX, FT, FB⟩
      case round =>
        obtain ⟨k, hk, rfl, HX, HT, HB⟩ := hrel
        by_cases hlt : k < 38
        · obtain ⟨x, hx⟩ := at_lt (show k < a.length by rw [HL.out]; exact hlt)
          obtain ⟨l, hll, l6⟩ := lens_at hlt
          obtain ⟨t, ht, htl⟩ := mapTx_at hll
          have hct := HT.out k t ht
          have hc := HX.out.cell (mixP_at (us := partLn a y) (by rw [hTL.out]; rfl) (zero38_at hlt))
          have hf := HX.out.free k
          obtain ⟨b, o, rfl, hbB, hcx0⟩ := h k _ (ints_at hx)
          have hcx := (HB.out.cell (p := ⟨b, o + k, none⟩) (by show b < w.heap.size; omega)).trans hcx0
          have htl2 : t.length / 2 = l := by omega
          have C1 := fun w' => nodes_any t w' (by omega)
          rw [htl2] at C1
          have k0 : (0 : Int) ≤ (k : Int) := Int.natCast_nonneg _
          have k1 : (k : Int) < 38 := by omega
          obtain ⟨X, hX⟩ : ∃ X : ByteArray, X = ⟨t.toArray⟩ := ⟨_, rfl⟩
          rw [← hX] at hct C1
          have TA := partLn_at (n := y) hx hll
          by_cases hyl : (l : Int) = y
          · rw [if_pos hyl] at TA
            have tt := beq_t hyl
            have GX : Hid (ArrM (wr.setCell ⟨w.heap.size, k, none⟩ (.int .i64 x)) w.heap.size ((partLn a y).take (k + 1) ++ zero38.drop (k + 1))) := by
              have := HX.out.store (k := k) x
              rw [mixP_step (by exact hlt) (by rw [hTL.out]; rfl) TA] at this
              exact this
            have GT : Hid (∀ j t, mapTx[j]? = some t → (wr.setCell ⟨w.heap.size, k, none⟩ (.int .i64 x)).cell? ⟨g2, j, none⟩ = some (.string ⟨t.toArray⟩)) := fun j t ht => cell_other (HT.out j t ht) (by omega)
            have GB : Hid (Below w.heap.size w (wr.setCell ⟨w.heap.size, k, none⟩ (.int .i64 x))) := below_set HB.out (Nat.le_refl _) _
            clear hx hll ht htl htl2 hX TA HX HT HB FX FT FB hyl hcx0
            go_wp2_with fail
            refine (C1 _).mono ?_
            rintro e w' ⟨rfl, rfl⟩
            go_wp2
            go_roundw
            case rel => exact ⟨k + 1, by omega, by go_num, GX, GT, GB⟩
            case measure => simp [intOf]; omega
          · rw [if_neg hyl] at TA
            have tt := beq_f hyl
            have GX : Hid (ArrM wr w.heap.size ((partLn a y).take (k + 1) ++ zero38.drop (k + 1))) := by
              have := HX.out
              rw [mixP_keep (zero38_at hlt) TA] at this
              exact this
            clear hx hll ht htl htl2 hX TA HX FX FT FB hyl hcx0
            go_wp2_with fail
            refine (C1 _).mono ?_
            rintro e w' ⟨rfl, rfl⟩
            go_wp2
            go_roundw
            case rel => exact ⟨k + 1, by omega, by go_num, GX, HT, HB⟩
            case measure => simp [intOf]; omega
        · obtain rfl : k = 38 := by omega
          have GX : Hid (ArrM wr w.heap.size (partLn a y)) := by
            have := HX.out
            rw [mixP_end hTL.out rfl] at this
            exact this
          clear HX FX FT FB HT
          go_wp2_with (refine wpList_load_row rfl 47 (.tmp 6) rfl w.heap.size rfl 47 (arrM (partLn a y)) (0, 0) _ GX.out Try.underlying47 rfl (by rw [arrM_size hTL.out]; exact info_arrM) ?_)
          refine (listM_any (partLn a y) _ hTL.out).mono ?_
          rintro e w4 ⟨A4, c4, rfl, own4, bel4⟩
          have N := Lib.hid (NewRow.after HB.out ⟨A4, c4, rfl, own4, bel4⟩)
          clear own4 bel4
          go_wp2
          go_ret2
          obtain ⟨A5, c5, e5, own5, b5⟩ := N.out
          cases e5
          exact ResL.of G.out hTL.out (by omega) own5 b5
    · have G := Lib.hid (partA_out ha hyy)
      clear hl HL0
      by_cases y0 : y < 0
      · go_enter Try.func18, Try.ntmps18
        go_wp2_with fail
        refine C0.mono ?_
        rintro e w' ⟨rfl, rfl⟩
        go_wp2
        go_ret2
        exact ResL.nil G.out (Below.refl _ _)
      · have y6 : 6 < y := by omega
        go_enter Try.func18, Try.ntmps18
        go_wp2_with fail
        refine C0.mono ?_
        rintro e w' ⟨rfl, rfl⟩
        go_wp2
        go_ret2
        exact ResL.nil G.out (Below.refl _ _)
set_option maxHeartbeats 4000000 in
theorem l08Add_any (A A' : Option Addr) (c c' B B' : Nat) (a b : List Int) (y : Int) (w : World) (hl : a.length = 38) (hl' : b.length = 38) (na : allNum a = true) (nb : allNum b = true) (hB : B ≤ w.heap.size) (hB' : B' ≤ w.heap.size) (h : Row w B A (ints a)) (h' : Row w B' A' (ints b)) (y0 : 0 ≤ y) (y1 : y < 10007) :
    Calls Try.prog 26 #[.slice A 38 c, .slice A' 38 c', .int .i64 y] w (NewRow 2 38 (ints (addL a b y)) w) := by
  obtain ⟨i0, hi, hz0, hz1, hz2⟩ := info_parts info_i64
  have HL := Lib.hid hl
  have HL' := Lib.hid hl'
  have NA := Lib.hid na
  have NB := Lib.hid nb
  have hTL := Lib.hid (addL_length hl hl' y)
  clear hl hl' na nb
  go_enter Try.func26, Try.ntmps26
  go_wp2_with fail
  go_loopw [7, 8] (fun v i wr => ∃ (k g cap : Nat), k ≤ 38 ∧ v = .slice (some ⟨g, 0, none⟩) k cap ∧ i = .int .i64 k ∧ Hid (wr.ownsRow w.heap.size 2 1 (.slice (some ⟨g, 0, none⟩) k cap) k (ints ((addL a b y).take k))) ∧ Hid (Below w.heap.size w wr)) (fun _ i _ => 38 - (intOf i).toNat)
  case atStart => exact ⟨0, w.heap.size, 0, by omega, rfl, rfl, World.ownsRow_lit (base := w.heap.size) (size := 1) (e := 2) w #[] 0 (Nat.le_refl _) (Nat.zero_le _) rfl, (Below.refl _ _).alloc (Nat.le_refl _) _⟩
  case round =>
    obtain ⟨k, g, cap, hk, rfl, rfl, HO, HB⟩ := hrel
    by_cases hlt : k < 38
    · obtain ⟨x, hx⟩ := at_lt (show k < a.length by rw [HL.out]; exact hlt)
      obtain ⟨z, hz⟩ := at_lt (show k < b.length by rw [HL'.out]; exact hlt)
      obtain ⟨b0, o0, rfl, hb0, hcw⟩ := h k _ (ints_at hx)
      obtain ⟨b1, o1, rfl, hb1, hcw1⟩ := h' k _ (ints_at hz)
      obtain ⟨x0, x1⟩ := num_at NA.out hx
      obtain ⟨z0, z1⟩ := num_at NB.out hz
      have hgl := (HO.out.lt g rfl)
      have hsz := HB.out.size
      have hcx : wr.cell? ⟨b0, o0 + k, none⟩ = some (.int .i64 x) := (HB.out.cell (p := ⟨b0, o0 + k, none⟩) (by show b0 < w.heap.size; omega)).trans hcw
      have hcz : wr.cell? ⟨b1, o1 + k, none⟩ = some (.int .i64 z) := (HB.out.cell (p := ⟨b1, o1 + k, none⟩) (by show b1 < w.heap.size; omega)).trans hcw1
      have TA := addL_at (k := y) hx hz
      have C2 := fun w' => l01Mul_any y z w' y0 y1 z0 z1
      obtain ⟨P, hP⟩ : ∃ P : Int, P = y * z % 10007 := ⟨_, rfl⟩
      have eP : (x + y * z) % 10007 = (x + P) % 10007 := by rw [hP]; omega
      rw [eP] at TA
      rw [← hP] at C2
      have p0 : 0 ≤ P := by rw [hP]; omega
      have p1 : P < 10007 := by rw [hP]; omega
      have C3 := fun w' => l01Add_any x P w' x0 x1 p0 p1
      obtain ⟨V, hV⟩ : ∃ V : Int, V = (x + P) % 10007 := ⟨_, rfl⟩
      rw [← hV] at TA C3
      have HD : Hid (ints ((addL a b y).take k) ++ [.int .i64 V] = ints ((addL a b y).take (k + 1))) := grow_ints TA
      have HKK : Hid (∀ W' : World, Below wr.heap.size wr W' → W'.cell? ⟨b0, o0 + k, none⟩ = some (.int .i64 x) ∧ W'.cell? ⟨b1, o1 + k, none⟩ = some (.int .i64 z)) := fun W' hb => ⟨(hb.cell (p := ⟨b0, o0 + k, none⟩) (World.block_lt_of_cell? wr _ hcx)).trans hcx, (hb.cell (p := ⟨b1, o1 + k, none⟩) (World.block_lt_of_cell? wr _ hcz)).trans hcz⟩
      have HOW : Hid (∀ W' : World, Below wr.heap.size wr W' → W'.ownsRow w.heap.size 2 1 (.slice (some ⟨g, 0, none⟩) k cap) k (ints ((addL a b y).take k))) := fun W' hb => ((OwnR.of HO.out).below hb (Nat.le_refl _)).1
      have HNE : Hid (some b0 ≠ Value.ownBlock (.slice (some ⟨g, 0, none⟩) k cap)) := fun e => by
        have h2 : b0 = g := by simpa [Value.ownBlock] using e
        omega
      have HNE' : Hid (some b1 ≠ Value.ownBlock (.slice (some ⟨g, 0, none⟩) k cap)) := fun e => by
        have h2 : b1 = g := by simpa [Value.ownBlock] using e
        omega
      have HBW := Lib.hid HB.out
      have k0 : (0 : Int) ≤ (k : Int) := Int.natCast_nonneg _
      have k1 : (k : Int) < 38 := by omega
      clear hx hz hcw hcw1 TA hP hV HO HB eP
      go_wp2_with fail
      go_region_held3 (fun w' => w'.cell? ⟨b0, o0 + k, none⟩ = some (.int .i64 x) ∧ w'.cell? ⟨b1, o1 + k, none⟩ = some (.int .i64 z)) (first | go_keep | exact HKK.out _ ((below_drewN (Below.refl _ _) _).alloc (Nat.le_refl _) _) | exact ⟨World.grownBy.cell hgrow3 (HKK.out _ ((below_drewN (Below.refl _ _) _).alloc (Nat.le_refl _) _)).1 HNE.out, World.grownBy.cell hgrow3 (HKK.out _ ((below_drewN (Below.refl _ _) _).alloc (Nat.le_refl _) _)).2 HNE'.out⟩)
        (first
          | (go_at_call 50; refine (C2 _).mono ?_; rintro e w2 ⟨rfl, rfl⟩)
          | (go_at_call 49; refine (C3 _).mono ?_; rintro e w2 ⟨rfl, rfl⟩)
          | (refine step_append_lies _ (by rfl) _ _ _ (by rfl) w.heap.size 2 i0 _ 1 8 Try.underlying22 hi hz0 hz1 hz2 rfl (by omega) (.slice (some ⟨g, 0, none⟩) k cap) k (ints ((addL a b y).take k)) (by rfl) (HOW.out _ (by exact (below_drewN (Below.refl _ _) _).alloc (Nat.le_refl _) _)) ⟨wr.heap.size, 0, none⟩ 1 1 [.int .i64 V] (by rfl) (by rfl) (World.news_of_block (cs := #[.int .i64 V]) (heap_alloc_new _ _)) (by simp [Value.oneCell']) (by omega) (by simp only [maxLen]; omega) (by omega) (by simp; omega) (wr.heap.size + 1) (by simp) ?_; intro g3 cap3 w3 hown3 hgrow3 hat3 hlt3))
      have hown3' := hown3
      rw [HD.out] at hown3'
      have GO := Lib.hid hown3'
      have GB : Hid (Below w.heap.size w w3) := (HBW.out.trans (((below_drewN (Below.refl wr.heap.size wr) _).alloc (Nat.le_refl _) _).mono hsz)).grown hgrow3 (by simp; omega) (fun z hz => by have : g = z := (by simpa [Value.ownBlock] using hz); omega)
      clear hown3 hown3' hgrow3 hat3
      go_wp2
      go_roundw
      case rel => exact ⟨k + 1, g3, cap3, by omega, rfl, by go_num, GO, GB⟩
      case measure => simp [intOf]; omega
    · obtain rfl : k = 38 := by omega
      have GO : Hid (wr.ownsRow w.heap.size 2 1 (.slice (some ⟨g, 0, none⟩) 38 cap) 38 (ints (addL a b y))) := by
        have := HO.out
        rw [List.take_of_length_le (by rw [hTL.out]; omega)] at this
        exact this
      clear HO
      go_wp2
      go_ret
      exact ⟨_, _, rfl, GO.out, HB.out⟩
set_option maxHeartbeats 2000000 in
theorem sAddMaps_L (A A' : Option Addr) (n n' c c' B B' : Nat) (a b : List Int) (w : World) (hl : a.length = n) (hl' : b.length = n') (hn : n ≤ 1048576) (hn' : n' ≤ 1048576) (hB : B ≤ w.heap.size) (hB' : B' ≤ w.heap.size) (h : Row w B A (ints a)) (h' : Row w B' A' (ints b)) :
    Calls Try.prog 11 #[.slice A n c, .slice A' n' c'] w (ResL (addMA a b) w) := by
  have C0 := l07Is_any A n c B a w hl (by omega) h
  have C1 := l07Is_any A' n' c' B' b w hl' (by omega) h'
  cases ha : isMp a
  · have G := Lib.hid (addMA_no1 (b := b) ha)
    rw [ha] at C0
    clear hl hl'
    go_enter Try.func11, Try.ntmps11
    go_wp2_with fail
    refine C0.mono ?_
    rintro e w' ⟨rfl, rfl⟩
    go_wp2
    go_ret2
    exact ResL.nil G.out (Below.refl _ _)
  · rw [ha] at C0
    cases hb : isMp b
    · have G := Lib.hid (addMA_no2 (a := a) hb)
      rw [hb] at C1
      clear hl hl'
      go_enter Try.func11, Try.ntmps11
      go_wp2_with fail
      refine C0.mono ?_
      rintro e w' ⟨rfl, rfl⟩
      go_wp2_with fail
      refine C1.mono ?_
      rintro e w' ⟨rfl, rfl⟩
      go_wp2
      go_ret2
      exact ResL.nil G.out (Below.refl _ _)
    · rw [hb] at C1
      have G := Lib.hid (addMA_yes ha hb)
      obtain ⟨e1, na⟩ := isMp_parts ha hl
      obtain ⟨e2, nb⟩ := isMp_parts hb hl'
      subst e1 e2
      have C2 := l08Add_any A A' c c' B B' a b 1 w hl hl' na nb hB hB' h h' (by omega) (by omega)
      have hTL := Lib.hid (addL_length hl hl' 1)
      clear hl hl' ha hb na nb
      go_enter Try.func11, Try.ntmps11
      go_wp2_with fail
      refine C0.mono ?_
      rintro e w' ⟨rfl, rfl⟩
      go_wp2_with fail
      refine C1.mono ?_
      rintro e w' ⟨rfl, rfl⟩
      go_wp2_with fail
      refine C2.mono ?_
      rintro e w1 ⟨A1, c1, rfl, own1, bel1⟩
      have N := Lib.hid (ResL.of G.out hTL.out (by omega) own1 bel1)
      clear own1 bel1
      go_wp2
      go_ret2
      exact N.out
set_option maxHeartbeats 2000000 in
theorem sMultiplyMap_L (A : Option Addr) (n c B : Nat) (a : List Int) (y : Int) (w : World) (hl : a.length = n) (hn : n ≤ 1048576) (hB : B ≤ w.heap.size) (h : Row w B A (ints a)) (hy : -9223372036854775808 ≤ y ∧ y ≤ 9223372036854775807) :
    Calls Try.prog 15 #[.slice A n c, .int .i64 y] w (ResL (mulMA a y) w) := by
  obtain ⟨i0, hi, hz0, hz1, hz2⟩ := info_parts info_i64
  have C0 := l07Is_any A n c B a w hl (by omega) h
  cases ha : isMp a
  · have G := Lib.hid (mulMA_no (y := y) ha)
    rw [ha] at C0
    clear hl
    go_enter Try.func15, Try.ntmps15
    go_wp2_with fail
    refine C0.mono ?_
    rintro e w' ⟨rfl, rfl⟩
    go_wp2
    go_ret2
    exact ResL.nil G.out (Below.refl _ _)
  · obtain ⟨e1, na⟩ := isMp_parts ha hl
    rw [ha] at C0
    have HL0 := hl
    subst e1
    have HL := Lib.hid HL0
    have NA := Lib.hid na
    by_cases hyy : 0 ≤ y ∧ y < 10007
    · have G := Lib.hid (mulMA_yes ha hyy)
      have T := isIn_yes (n := y) (l := 0) (h := 10006) hyy.1 (by omega)
      obtain ⟨y0, y6⟩ := hyy
      have hTL := Lib.hid (mulMp_length HL0 y)
      have HE := Lib.hid (addL_zero HL0 y)
      clear hl ha na HL0
      go_enter Try.func15, Try.ntmps15
      go_wp2_with fail
      refine C0.mono ?_
      rintro e w' ⟨rfl, rfl⟩
      go_wp2_with fail
      refine (l01In_any _ _ _ _).mono ?_
      rintro e w' ⟨rfl, rfl⟩
      rw [T]
      go_wp2_with (at_make; refine wpList_make_full _ rfl _ _ 22 rfl w.heap.size 2 i0 _ 1 Try.underlying22 hi hz0 hz1 .i64 .i64 _ _ 38 rfl rfl rfl rfl (by rw [hz2]; omega) (by simp only [maxLen]; omega) (Nat.le_refl _) ?_; intro w1 hown hg)
      have GB : Below w.heap.size w w1 := (Below.refl _ _).grown hg (Nat.le_refl _) (fun k hk => by cases hk)
      have hs1 := GB.size
      have hz := zero_row hown
      refine (l08Add_any _ A 38 c w1.heap.size w.heap.size zero38 a y w1 rfl HL.out (by decide) NA.out (Nat.le_refl _) hs1 (row_of_own hz) ((h.more hB).below GB (Nat.le_refl _)) y0 y6).mono ?_
      rintro e w2 ⟨A1, c1, rfl, own1, bel1⟩
      rw [HE.out] at own1
      have N := Lib.hid (ResL.of G.out hTL.out (by omega) ((OwnR.of own1).more hs1 (Nat.le_refl _)).1 (GB.trans (bel1.mono hs1)))
      clear own1 bel1 hown hg hz GB
      go_wp2
      go_ret2
      exact N.out
    · have G := Lib.hid (mulMA_out ha hyy)
      have T := isIn_no (n := y) (l := 0) (h := 10006) (by omega)
      clear hl HL0
      go_enter Try.func15, Try.ntmps15
      go_wp2_with fail
      refine C0.mono ?_
      rintro e w' ⟨rfl, rfl⟩
      go_wp2_with fail
      refine (l01In_any _ _ _ _).mono ?_
      rintro e w' ⟨rfl, rfl⟩
      rw [T]
      go_wp2
      go_ret2
      exact ResL.nil G.out (Below.refl _ _)
set_option maxHeartbeats 4000000 in
theorem sPartOfMap_L (A : Option Addr) (n c B : Nat) (a : List Int) (y : Int) (w : World) (hl : a.length = n) (hn : n ≤ 1048576) (hB : B ≤ w.heap.size) (h : Row w B A (ints a)) (hy : -9223372036854775808 ≤ y ∧ y ≤ 9223372036854775807) :
    Calls Try.prog 17 #[.slice A n c, .int .i64 y] w (ResL (partA a y) w) := by
  obtain ⟨i0, hi, hz0, hz1, hz2⟩ := info_parts info_i64
  have C0 := l07Is_any A n c B a w hl (by omega) h
  cases ha : isMp a
  · have G := Lib.hid (partA_no (y := y) ha)
    rw [ha] at C0
    clear hl
    go_enter Try.func17, Try.ntmps17
    go_wp2_with fail
    refine C0.mono ?_
    rintro e w' ⟨rfl, rfl⟩
    go_wp2
    go_ret2
    exact ResL.nil G.out (Below.refl _ _)
  · obtain ⟨x0, b0, o0, hx0, rfl, _, _, _, _⟩ := map_first ha hl h
    obtain ⟨e1, na⟩ := isMp_parts ha hl
    rw [ha] at C0
    have HL0 := hl
    subst e1
    have HL := Lib.hid HL0
    by_cases hyy : 0 ≤ y ∧ y ≤ 6
    · have G := Lib.hid (partA_yes ha hyy)
      have T := isIn_yes hyy.1 hyy.2
      obtain ⟨y0, y6⟩ := hyy
      have hTL := Lib.hid (partLn_length HL0 y)
      have C1 := fun w' => l03All_any 6 w' (by omega) (by omega)
      rw [to_len] at C1
      have HX0 := Lib.hid hx0
      clear hl ha na HL0 hx0
      go_enter Try.func17, Try.ntmps17
      go_wp2_with fail
      refine C0.mono ?_
      rintro e w' ⟨rfl, rfl⟩
      go_wp2_with fail
      refine (l01In_any _ _ _ _).mono ?_
      rintro e w' ⟨rfl, rfl⟩
      rw [T]
      go_wp2_with fail
      have CM : ∀ W : World, w.heap.size ≤ W.heap.size → ∃ w', (Instr.makeSlice 22 (.int .i64 38) (.int .i64 38)).run Try.prog W = .ok (.slice (some ⟨W.heap.size, 0, none⟩) 38 38) w' ∧ w'.ownsRow w.heap.size 2 1 (.slice (some ⟨W.heap.size, 0, none⟩) 38 38) 38 (ints zero38) ∧ W.grownBy w' none := fun W hW => by
        obtain ⟨w', q1, q2, q3⟩ := run_make_full (P := Try.prog) W w.heap.size 22 2 i0 _ 1 Try.underlying22 hi hz0 hz1 .i64 .i64 38 (by rw [hz2]; omega) (by simp only [maxLen]; omega) hW
        exact ⟨w', q1, zero_row q2, q3⟩
      go_region_held3 (fun w' => True) (first | trivial)
        (first
          | (go_at_call 35; refine (C1 _).mono ?_; rintro e w1 ⟨A1, c1, vs1, rfl, own1, bel1⟩)
          | (obtain ⟨w5, hrun5, r1, r2⟩ := CM w1 (by exact bel1.size); rw [hrun5]; go_simp)
          | (obtain ⟨w5, hrun5, r1, r2⟩ := CM w.drew (Nat.le_refl _); rw [hrun5]; go_simp)
          | (obtain ⟨w5, hrun5, r1, r2⟩ := CM (w.drewN 1) (Nat.le_refl _); rw [hrun5]; go_simp))
      case' refine_2.refine_1.refine_2.refine_3.refine_1.refine_2.refine_3 =>
        have hb5 : Below w1.heap.size w1 w5 := (Below.refl _ _).grown r2 (Nat.le_refl _) (fun k hk => by cases hk)
        have hs1 : w.heap.size ≤ w1.heap.size := bel1.size
        have hout := own1.outer.below hb5 (Nat.le_refl _)
        have hlen : ∀ (k : Nat) (t : List Int), (treesTo 6)[k]? = some t → ∃ (Ak : Option Addr) (ck : Nat), vs1[k]? = some (Value.slice Ak t.length ck) := fun k t ht => by
          obtain ⟨Ak, ck, e, _⟩ := own1.inner k t ht
          exact ⟨Ak, ck, e⟩
        obtain ⟨gm, rfl⟩ := own_addr own1.outer.1 (by omega)
        have hgm : gm < w1.heap.size := (own1.outer.1.lt gm rfl).2
        obtain ⟨g0, hg0⟩ : ∃ g0, g0 = w1.heap.size := ⟨_, rfl⟩
        have FNE : Hid (gm ≠ g0) := by rw [Hid]; omega
        have FM : Hid (∀ k t, (treesTo 6)[k]? = some t → ∃ Ak ck, w5.cell? ⟨gm, k, none⟩ = some (.slice Ak t.length ck)) := fun k t ht => by
          obtain ⟨Ak, ck, e⟩ := hlen k t ht
          have hk : k < 37 := by rw [← to_len]; exact (List.getElem?_eq_some_iff.1 ht).1
          exact ⟨Ak, ck, (hout.1.cellAt k hk).trans e⟩
        have FB : Hid (Below w.heap.size w w5) := (below_undrew' (a := 1) bel1).trans (hb5.mono hs1)
        have FO := Lib.hid r1
        rw [← hg0] at FO ⊢
        clear own1 bel1 hb5 hout hlen r1 r2 hg0 hgm
        obtain ⟨W, hW⟩ : ∃ W, W = w5 := ⟨_, rfl⟩
        rw [← hW] at FO FM FB ⊢
        clear hW
      case' refine_2.refine_2.refine_1.refine_2.refine_1.refine_2.refine_3.refine_3 =>
        have hb5 : Below w.heap.size w w5 := (below_drewN (Below.refl _ _) 1).trans ((Below.refl _ _).grown r2 (Nat.le_refl _) (fun k hk => by cases hk))
        have hs5 : w.heap.size < w5.heap.size := (r1.lt _ rfl).2
        have hlen : ∀ (k : Nat) (t : List Int), (treesTo 6)[k]? = some t → ∃ (Ak : Option Addr) (ck : Nat), vs1[k]? = some (Value.slice Ak t.length ck) := fun k t ht => by
          obtain ⟨Ak, ck, e, _⟩ := own1.inner k t ht
          exact ⟨Ak, ck, e⟩
        obtain ⟨gm, rfl⟩ := own_addr own1.outer.1 (by omega)
        have hgm : w5.heap.size ≤ gm := (own1.outer.1.lt gm rfl).1
        obtain ⟨g0, hg0⟩ : ∃ g0, g0 = w.heap.size := ⟨_, rfl⟩
        have FNE : Hid (gm ≠ g0) := by rw [Hid]; omega
        have FM : Hid (∀ k t, (treesTo 6)[k]? = some t → ∃ Ak ck, w1.cell? ⟨gm, k, none⟩ = some (.slice Ak t.length ck)) := fun k t ht => by
          obtain ⟨Ak, ck, e⟩ := hlen k t ht
          have hk : k < 37 := by rw [← to_len]; exact (List.getElem?_eq_some_iff.1 ht).1
          exact ⟨Ak, ck, (own1.outer.1.cellAt k hk).trans e⟩
        have FB : Hid (Below w.heap.size w w1) := hb5.trans (bel1.mono (by omega))
        have FO : Hid (w1.ownsRow w.heap.size 2 1 (.slice (some ⟨g0, 0, none⟩) 38 38) 38 (ints zero38)) := by rw [Hid, hg0]; exact ((OwnR.of r1).below bel1 (Nat.le_refl _)).1
        first | rw [show w.drew.heap.size = g0 from hg0.symm] | rw [← hg0]
        clear own1 bel1 hb5 hs5 hlen r1 r2 hg0 hgm
        obtain ⟨W, hW⟩ : ∃ W, W = w1 := ⟨_, rfl⟩
        rw [← hW] at FO FM FB ⊢
        clear hW
      all_goals
        clear C1 CM
        have hgl0 := (FO.out.lt g0 rfl).1
        by_cases hy0 : y = 0
        · have t0 := beq_t hy0
          have hca : W.cell? ⟨b0, o0, none⟩ = some (.int .i64 x0) := by
            obtain ⟨b, o, eb, hbB, hcx0⟩ := h 0 _ (ints_at HX0.out)
            injection eb with eb
            injection eb with eb1 eb2 _
            subst eb1 eb2
            exact (FB.out.cell (p := ⟨b0, o0 + 0, none⟩) (by show b0 < w.heap.size; omega)).trans hcx0
          have T0 := partLn_at (n := y) HX0.out (show lens[0]? = some 0 from rfl)
          rw [if_pos (by omega)] at T0
          have hf0 := FO.out.frozenAt 0
          have ho0 := (FO.out.cellAt 0 (by omega)).trans (show (ints zero38)[0]? = some (.int .i64 0) from rfl)
          have F1 : Hid ((W.setCell ⟨g0, 0, none⟩ (.int .i64 x0)).ownsRow w.heap.size 2 1 (.slice (some ⟨g0, 0, none⟩) 38 38) 38 (ints ((partLn a y).take (0 + 1) ++ zero38.drop (0 + 1)))) := by
            have := (FO.out.stored 0 (.int .i64 x0)).1
            have e : (ints zero38).set 0 (.int .i64 x0) = ints ((partLn a y).take (0 + 1) ++ zero38.drop (0 + 1)) := by
              rw [← mixP_step (us := partLn a y) (xs := zero38) (k := 0) (show 0 < 38 by omega) (by rw [hTL.out]; rfl) T0]
              rfl
            rw [e] at this
            exact this
          have F2 : Hid (∀ j t, (treesTo 6)[j]? = some t → ∃ Ak ck, (W.setCell ⟨g0, 0, none⟩ (.int .i64 x0)).cell? ⟨gm, j, none⟩ = some (.slice Ak t.length ck)) := fun j t ht => by
            obtain ⟨Ak, ck, e⟩ := FM.out j t ht
            exact ⟨Ak, ck, cell_other e FNE.out⟩
          have F3 : Hid (Below w.heap.size w (W.setCell ⟨g0, 0, none⟩ (.int .i64 x0))) := below_set FB.out hgl0 _
          clear FO FM FB hy0 T0
          go_wp2_with fail
          go_loopw [8] (fun i wr => ∃ k : Nat, k ≤ 37 ∧ i = .int .i64 k ∧ Hid (wr.ownsRow w.heap.size 2 1 (.slice (some ⟨g0, 0, none⟩) 38 38) 38 (ints ((partLn a y).take (k + 1) ++ zero38.drop (k + 1)))) ∧ Hid (∀ k t, (treesTo 6)[k]? = some t → ∃ Ak ck, wr.cell? ⟨gm, k, none⟩ = some (.slice Ak t.length ck)) ∧ Hid (Below w.heap.size w wr)) (fun i _ => 37 - (intOf i).toNat)
          case atStart => exact ⟨0, by omega, rfl, F1, F2, F3⟩
          case round =>
            obtain ⟨k, hk, rfl, HO, HM, HB⟩ := hrel
            by_cases hlt : k < 37
            · obtain ⟨x, hx⟩ := at_lt (show k + 1 < a.length by rw [HL.out]; omega)
              obtain ⟨t, ht⟩ := at_lt (show k < (treesTo 6).length by rw [to_len]; exact hlt)
              have hll := to_at ht
              obtain ⟨Ak, ck, hct⟩ := HM.out k t ht
              obtain ⟨b, o, eb, hbB, hcx0⟩ := h (k + 1) _ (ints_at hx)
              injection eb with eb
              injection eb with eb1 eb2 _
              subst eb1 eb2
              have hcx := (HB.out.cell (p := ⟨b0, o0 + (k + 1), none⟩) (by show b0 < w.heap.size; omega)).trans hcx0
              have TA := partLn_at (n := y) hx hll
              have hown := HO.out
              have hf := hown.frozenAt (k + 1)
              have ho := (hown.cellAt (k + 1) (by omega)).trans (ints_at (mixP_at (us := partLn a y) (by rw [hTL.out]; rfl) (zero38_at (show k + 1 < 38 by omega))))
              have k0 : (0 : Int) ≤ (k : Int) + 1 := by omega
              have k1 : (k : Int) + 1 < 38 := by omega
              have kk0 : (0 : Int) ≤ (k : Int) := Int.natCast_nonneg _
              have kk1 : (k : Int) < 37 := by omega
              have ew : IntKind.i64.wrap ((k : Int) + 1) = (k : Int) + 1 := IntWalk.i64_in _ (by omega)
              have en : ((k : Int) + 1).toNat = k + 1 := by omega
              have hgl := (hown.lt g0 rfl).1
              obtain ⟨tl, htl⟩ : ∃ tl : Nat, tl = t.length := ⟨_, rfl⟩
              rw [← htl] at hct TA
              by_cases hyl : (tl : Int) = y
              · rw [if_pos hyl] at TA
                have tt := beq_t hyl
                have GX : Hid ((wr.setCell ⟨g0, k + 1, none⟩ (.int .i64 x)).ownsRow w.heap.size 2 1 (.slice (some ⟨g0, 0, none⟩) 38 38) 38 (ints ((partLn a y).take (k + 1 + 1) ++ zero38.drop (k + 1 + 1)))) := by
                  have := (hown.stored (k + 1) (.int .i64 x)).1
                  have e : (ints ((partLn a y).take (k + 1) ++ zero38.drop (k + 1))).set (k + 1) (.int .i64 x) = ints ((partLn a y).take (k + 1 + 1) ++ zero38.drop (k + 1 + 1)) := by
                    rw [← mixP_step (us := partLn a y) (xs := zero38) (k := k + 1) (show k + 1 < 38 by omega) (by rw [hTL.out]; rfl) TA]
                    unfold ints intsK; rw [List.map_set]
                  rw [e] at this
                  exact this
                have GM : Hid (∀ k t, (treesTo 6)[k]? = some t → ∃ Ak ck, (wr.setCell ⟨g0, k + 1, none⟩ (.int .i64 x)).cell? ⟨gm, k, none⟩ = some (.slice Ak t.length ck)) → True := fun _ => trivial
                have GM' : Hid (∀ j t, (treesTo 6)[j]? = some t → ∃ Ak ck, (wr.setCell ⟨g0, k + 1, none⟩ (.int .i64 x)).cell? ⟨gm, j, none⟩ = some (.slice Ak t.length ck)) := fun j t ht => by
                  obtain ⟨Ak, ck, e⟩ := HM.out j t ht
                  exact ⟨Ak, ck, cell_other e FNE.out⟩
                have GB : Hid (Below w.heap.size w (wr.setCell ⟨g0, k + 1, none⟩ (.int .i64 x))) := below_set HB.out hgl _
                clear hx ht hll TA HO HB hown HM GM hcx0 htl hyl
                go_wp2
                go_roundw
                case rel => exact ⟨k + 1, by omega, by go_num, GX, GM', GB⟩
                case measure => simp [intOf]; omega
              · rw [if_neg hyl] at TA
                have tt := beq_f hyl
                have GX : Hid (wr.ownsRow w.heap.size 2 1 (.slice (some ⟨g0, 0, none⟩) 38 38) 38 (ints ((partLn a y).take (k + 1 + 1) ++ zero38.drop (k + 1 + 1)))) := by
                  rw [Hid, ← mixP_keep (zero38_at (show k + 1 < 38 by omega)) TA]; exact hown
                clear hx ht hll TA HO hown hcx0 htl hyl
                go_wp2
                go_roundw
                case rel => exact ⟨k + 1, by omega, by go_num, GX, HM, HB⟩
                case measure => simp [intOf]; omega
            · obtain rfl : k = 37 := by omega
              have GO : Hid (wr.ownsRow w.heap.size 2 1 (.slice (some ⟨g0, 0, none⟩) 38 38) 38 (ints (partLn a y))) := by
                have := HO.out
                rw [mixP_end hTL.out rfl] at this
                exact this
              clear HO HM
              go_wp2
              go_ret2
              exact ResL.of G.out hTL.out (by omega) GO.out HB.out
        · have t0 := beq_f hy0
          have T0 := partLn_at (n := y) HX0.out (show lens[0]? = some 0 from rfl)
          rw [if_neg (by omega)] at T0
          have F1 : Hid (W.ownsRow w.heap.size 2 1 (.slice (some ⟨g0, 0, none⟩) 38 38) 38 (ints ((partLn a y).take (0 + 1) ++ zero38.drop (0 + 1)))) := by
            rw [Hid, ← mixP_keep (zero38_at (show 0 < 38 by omega)) T0]; exact FO.out
          clear FO hy0 T0
          go_wp2_with fail
          go_loopw [8] (fun i wr => ∃ k : Nat, k ≤ 37 ∧ i = .int .i64 k ∧ Hid (wr.ownsRow w.heap.size 2 1 (.slice (some ⟨g0, 0, none⟩) 38 38) 38 (ints ((partLn a y).take (k + 1) ++ zero38.drop (k + 1)))) ∧ Hid (∀ k t, (treesTo 6)[k]? = some t → ∃ Ak ck, wr.cell? ⟨gm, k, none⟩ = some (.slice Ak t.length ck)) ∧ Hid (Below w.heap.size w wr)) (fun i _ => 37 - (intOf i).toNat)
          case atStart => exact ⟨0, by omega, rfl, F1, FM, FB⟩
          case round =>
            obtain ⟨k, hk, rfl, HO, HM, HB⟩ := hrel
            by_cases hlt : k < 37
            · obtain ⟨x, hx⟩ := at_lt (show k + 1 < a.length by rw [HL.out]; omega)
              obtain ⟨t, ht⟩ := at_lt (show k < (treesTo 6).length by rw [to_len]; exact hlt)
              have hll := to_at ht
              obtain ⟨Ak, ck, hct⟩ := HM.out k t ht
              obtain ⟨b, o, eb, hbB, hcx0⟩ := h (k + 1) _ (ints_at hx)
              injection eb with eb
              injection eb with eb1 eb2 _
              subst eb1 eb2
              have hcx := (HB.out.cell (p := ⟨b0, o0 + (k + 1), none⟩) (by show b0 < w.heap.size; omega)).trans hcx0
              have TA := partLn_at (n := y) hx hll
              have hown := HO.out
              have hf := hown.frozenAt (k + 1)
              have ho := (hown.cellAt (k + 1) (by omega)).trans (ints_at (mixP_at (us := partLn a y) (by rw [hTL.out]; rfl) (zero38_at (show k + 1 < 38 by omega))))
              have k0 : (0 : Int) ≤ (k : Int) + 1 := by omega
              have k1 : (k : Int) + 1 < 38 := by omega
              have kk0 : (0 : Int) ≤ (k : Int) := Int.natCast_nonneg _
              have kk1 : (k : Int) < 37 := by omega
              have ew : IntKind.i64.wrap ((k : Int) + 1) = (k : Int) + 1 := IntWalk.i64_in _ (by omega)
              have en : ((k : Int) + 1).toNat = k + 1 := by omega
              have hgl := (hown.lt g0 rfl).1
              obtain ⟨tl, htl⟩ : ∃ tl : Nat, tl = t.length := ⟨_, rfl⟩
              rw [← htl] at hct TA
              by_cases hyl : (tl : Int) = y
              · rw [if_pos hyl] at TA
                have tt := beq_t hyl
                have GX : Hid ((wr.setCell ⟨g0, k + 1, none⟩ (.int .i64 x)).ownsRow w.heap.size 2 1 (.slice (some ⟨g0, 0, none⟩) 38 38) 38 (ints ((partLn a y).take (k + 1 + 1) ++ zero38.drop (k + 1 + 1)))) := by
                  have := (hown.stored (k + 1) (.int .i64 x)).1
                  have e : (ints ((partLn a y).take (k + 1) ++ zero38.drop (k + 1))).set (k + 1) (.int .i64 x) = ints ((partLn a y).take (k + 1 + 1) ++ zero38.drop (k + 1 + 1)) := by
                    rw [← mixP_step (us := partLn a y) (xs := zero38) (k := k + 1) (show k + 1 < 38 by omega) (by rw [hTL.out]; rfl) TA]
                    unfold ints intsK; rw [List.map_set]
                  rw [e] at this
                  exact this
                have GM : Hid (∀ k t, (treesTo 6)[k]? = some t → ∃ Ak ck, (wr.setCell ⟨g0, k + 1, none⟩ (.int .i64 x)).cell? ⟨gm, k, none⟩ = some (.slice Ak t.length ck)) → True := fun _ => trivial
                have GM' : Hid (∀ j t, (treesTo 6)[j]? = some t → ∃ Ak ck, (wr.setCell ⟨g0, k + 1, none⟩ (.int .i64 x)).cell? ⟨gm, j, none⟩ = some (.slice Ak t.length ck)) := fun j t ht => by
                  obtain ⟨Ak, ck, e⟩ := HM.out j t ht
                  exact ⟨Ak, ck, cell_other e FNE.out⟩
                have GB : Hid (Below w.heap.size w (wr.setCell ⟨g0, k + 1, none⟩ (.int .i64 x))) := below_set HB.out hgl _
                clear hx ht hll TA HO HB hown HM GM hcx0 htl hyl
                go_wp2
                go_roundw
                case rel => exact ⟨k + 1, by omega, by go_num, GX, GM', GB⟩
                case measure => simp [intOf]; omega
              · rw [if_neg hyl] at TA
                have tt := beq_f hyl
                have GX : Hid (wr.ownsRow w.heap.size 2 1 (.slice (some ⟨g0, 0, none⟩) 38 38) 38 (ints ((partLn a y).take (k + 1 + 1) ++ zero38.drop (k + 1 + 1)))) := by
                  rw [Hid, ← mixP_keep (zero38_at (show k + 1 < 38 by omega)) TA]; exact hown
                clear hx ht hll TA HO hown hcx0 htl hyl
                go_wp2
                go_roundw
                case rel => exact ⟨k + 1, by omega, by go_num, GX, HM, HB⟩
                case measure => simp [intOf]; omega
            · obtain rfl : k = 37 := by omega
              have GO : Hid (wr.ownsRow w.heap.size 2 1 (.slice (some ⟨g0, 0, none⟩) 38 38) 38 (ints (partLn a y))) := by
                have := HO.out
                rw [mixP_end hTL.out rfl] at this
                exact this
              clear HO HM
              go_wp2
              go_ret2
              exact ResL.of G.out hTL.out (by omega) GO.out HB.out
    · have G := Lib.hid (partA_out ha hyy)
      have T := isIn_no (n := y) (l := 0) (h := 6) (by omega)
      clear hl HL0
      go_enter Try.func17, Try.ntmps17
      go_wp2_with fail
      refine C0.mono ?_
      rintro e w' ⟨rfl, rfl⟩
      go_wp2_with fail
      refine (l01In_any _ _ _ _).mono ?_
      rintro e w' ⟨rfl, rfl⟩
      rw [T]
      go_wp2
      go_ret2
      exact ResL.nil G.out (Below.refl _ _)
end Go.Proofs.Ytgklilckjpbdnaa
