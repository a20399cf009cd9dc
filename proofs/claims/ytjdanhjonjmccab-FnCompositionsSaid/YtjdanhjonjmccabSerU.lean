/-
  The model's operations on lists of numbers: units, inverses, exponentials, logarithms, compositions.
-/
import Derived.Test.YtjdanhjonjmccabSerL
import Derived.Deep.DeepCutAuto
namespace Go.Proofs.Ytjdanhjonjmccab
open Go.RowKit Fld Ser
set_option linter.unusedVariables false
set_option linter.unusedSimpArgs false
set_option maxRecDepth 100000

/-- one coefficient is 1 -/
def dl (m : Nat) : Nat → Int := fun k => if k = m then 1 else 0
theorem cl_zero_rep (n : Nat) : ints (cl n (fun _ => 0)) = List.replicate n (.int .i64 0) := by
  apply List.ext_getElem?
  intro i
  unfold ints intsK
  rw [List.getElem?_map, List.getElem?_replicate]
  rcases Nat.lt_or_ge i n with g | g
  · rw [cl_at _ g, if_pos g]; rfl
  · rw [List.getElem?_eq_none (by rw [cl_length]; exact g), if_neg (by omega)]; rfl
theorem cl_zero_get {n k : Nat} (h : k < n) : (ints (cl n (fun _ => 0)))[k]? = some (.int .i64 0) := ints_at (cl_at (fun _ => 0) h)
theorem cl_dl_set {n m : Nat} (h : m < n) : (ints (cl n (fun _ => 0))).set m (.int .i64 1) = ints (cl n (dl m)) := by
  apply List.ext_getElem?
  intro i
  rw [List.getElem?_set]
  rcases Nat.lt_or_ge i n with g | g
  · by_cases e : m = i
    · subst e
      rw [if_pos rfl, if_pos (by rw [ints_length, cl_length]; exact g), ints_at (cl_at (dl m) g)]
      unfold dl; rw [if_pos rfl]; rfl
    · rw [if_neg e, cl_zero_get g, ints_at (cl_at (dl m) g)]
      unfold dl; rw [if_neg (fun h => e h.symm)]; rfl
  · by_cases e : m = i
    · omega
    · rw [if_neg e, List.getElem?_eq_none (by rw [ints_length, cl_length]; exact g), List.getElem?_eq_none (by rw [ints_length, cl_length]; exact g)]
theorem cl_dl_out {n m : Nat} (h : n ≤ m) : cl n (dl m) = cl n (fun _ => 0) := cl_cg (fun k hk => by unfold dl; rw [if_neg (by omega)]; exact Eqm.refl _)
theorem made_own {w w1 : World} {n : Nat} (h : w1.ownsRow w.heap.size 2 1 (.slice (some ⟨w.heap.size, 0, none⟩) n n) n (madeCells (Value.int .i64 0).cells (n * 1)).toList) : w1.ownsRow w.heap.size 2 1 (.slice (some ⟨w.heap.size, 0, none⟩) n n) n (ints (cl n (fun _ => 0))) := by
  have e : (madeCells (Value.int .i64 0).cells (n * 1)).toList = ints (cl n (fun _ => 0)) := by
    rw [cl_zero_rep, Nat.mul_one]; exact toList_madeCells_one _ _
  rw [e] at h; exact h
set_option maxHeartbeats 1000000 in
theorem l02Unit_any (n m : Nat) (w : World) (hn : n ≤ 1048576) (hm : m ≤ 1048576) :
    Calls Try.prog 117 #[.int .i64 n, .int .i64 m] w (NewRow 2 n (ints (cl n (dl m))) w) := by
  obtain ⟨i0, hi, hz0, hz1, hz2⟩ := info_parts info_i64
  by_cases hlt : m < n
  · go_enter Try.func117, Try.ntmps117
    go_wp2_with (at_make; refine wpList_make_full _ rfl (.tmp 6) (.tmp 6) 24 rfl w.heap.size 2 i0 _ 1 Try.underlying24 hi hz0 hz1 .i64 .i64 _ _ n rfl rfl rfl rfl (by rw [hz2]; omega) (by simp only [maxLen]; omega) (Nat.le_refl _) ?_; intro w1 hown hg; have h1 := made_own hown; have hf := h1.frozenAt m; have ho := h1.cellAt m (by omega); rw [cl_zero_get hlt] at ho; have h2 := Lib.hid (h1.stored m (.int .i64 1)).1; have hb := Lib.hid (below_set ((Below.refl _ _).grown hg (Nat.le_refl _) (fun k hk => by cases hk)) (Nat.le_refl _) (.int .i64 1) (k := m)); clear hown hg h1)
    go_ret
    have h3 := h2.out
    rw [cl_dl_set hlt] at h3
    exact ⟨_, _, rfl, h3, hb.out⟩
  · go_enter Try.func117, Try.ntmps117
    go_wp2_with (at_make; refine wpList_make_full _ rfl (.tmp 6) (.tmp 6) 24 rfl w.heap.size 2 i0 _ 1 Try.underlying24 hi hz0 hz1 .i64 .i64 _ _ n rfl rfl rfl rfl (by rw [hz2]; omega) (by simp only [maxLen]; omega) (Nat.le_refl _) ?_; intro w1 hown hg; have h2 := Lib.hid (made_own hown); have hb := Lib.hid ((Below.refl _ _).grown hg (Nat.le_refl _) (fun k hk => by cases hk)); clear hown hg)
    go_ret
    rw [cl_dl_out (by omega)]
    exact ⟨_, _, rfl, h2.out, hb.out⟩
def zcells (n : Nat) : Array Value := (ints (cl n (fun _ => 0))).toArray
theorem run_zeros (n : Nat) (hn : n ≤ 1048576) (W : World) : (Instr.makeSlice 24 (.int .i64 (n : Int)) (.int .i64 (n : Int))).run Try.prog W = .ok (.slice (some ⟨W.heap.size, 0, none⟩) n n) (W.alloc (.cells (zcells n) 2)) := by
  obtain ⟨i0, hi, hz0, hz1, hz2⟩ := info_parts info_i64
  have hb : (i0.bytes : Int) * (n : Int) ≤ 281474976710656 := by rw [hz2]; omega
  have hr := run_make (P := Try.prog) W 24 2 i0 _ Try.underlying24 hi hz0 .i64 .i64 n n (by omega) (Int.le_refl _) hb (by omega)
  simp only [Int.toNat_natCast] at hr
  rw [hr]
  have e : madeCells (Value.int .i64 0).cells (n * i0.size) = zcells n := by
    rw [hz1, Nat.mul_one]
    apply Array.toList_inj.1
    refine (toList_madeCells_one _ _).trans ?_
    unfold zcells
    rw [cl_zero_rep]
  rw [e]
theorem zeros_own (w W : World) (n : Nat) (hn : n ≤ 1048576) (hB : w.heap.size ≤ W.heap.size) : (W.alloc (.cells (zcells n) 2)).ownsRow w.heap.size 2 1 (.slice (some ⟨W.heap.size, 0, none⟩) n n) n (ints (cl n (fun _ => 0))) := by
  have := World.ownsRow_lit (base := w.heap.size) (e := 2) (size := 1) W (zcells n) n hB (by simp only [maxLen]; omega) (by simp [zcells, ints_length, cl_length])
  simpa [zcells] using this
/-- two lists of the call's own -/
def TwoOwn (w : World) (n : Nat) (f g : Nat → Int) (p s : Value) (wx : World) : Prop :=
  ∃ A c A' c', p = .slice A n c ∧ s = .slice A' n c' ∧ wx.ownsRow w.heap.size 2 1 (.slice A n c) n (ints (cl n f)) ∧ wx.ownsRow w.heap.size 2 1 (.slice A' n c') n (ints (cl n g)) ∧ Below w.heap.size w wx
theorem two_first {w W w1 : World} {n c : Nat} {A : Option Addr} {f : Nat → Int} (hn : n ≤ 1048576) (hB : Below w.heap.size w W) (ho : w1.ownsRow W.heap.size 2 1 (.slice A n c) n (ints (cl n f))) (hb : Below W.heap.size W w1) : TwoOwn w n f (fun _ => 0) (.slice A n c) (.slice (some ⟨w1.heap.size, 0, none⟩) n n) (w1.alloc (.cells (zcells n) 2)) :=
  ⟨A, c, _, _, rfl, rfl, (((OwnR.of ho).more hB.size (Nat.le_refl _)).below ((Below.refl _ _).alloc (Nat.le_refl _) _) (Nat.le_refl _)).1, zeros_own w w1 n hn (Nat.le_trans hB.size hb.size), (hB.trans (hb.mono hB.size)).alloc (Nat.le_trans hB.size hb.size) _⟩
theorem two_last {w W w1 : World} {n c : Nat} {A : Option Addr} {f : Nat → Int} (hn : n ≤ 1048576) (hB : Below w.heap.size w W) (ho : w1.ownsRow (W.alloc (.cells (zcells n) 2)).heap.size 2 1 (.slice A n c) n (ints (cl n f))) (hb : Below (W.alloc (.cells (zcells n) 2)).heap.size (W.alloc (.cells (zcells n) 2)) w1) : TwoOwn w n f (fun _ => 0) (.slice A n c) (.slice (some ⟨W.heap.size, 0, none⟩) n n) w1 := by
  have hz := hB.size
  have h1 : Below w.heap.size w (W.alloc (.cells (zcells n) 2)) := hB.alloc hB.size _
  exact ⟨A, c, _, _, rfl, rfl, ((OwnR.of ho).more h1.size (Nat.le_refl _)).1, ((OwnR.of (zeros_own w W n hn hB.size)).below hb (Nat.le_refl _)).1, h1.trans (hb.mono h1.size)⟩
set_option maxHeartbeats 1000000 in
theorem l02Compose_any (A A' : Option Addr) (n c c' B B' : Nat) (xs ys : List Int) (w : World) (hl : xs.length = n) (hl' : ys.length = n) (hn : n ≤ 1048576) (ha : allNum xs = true) (ha' : allNum ys = true) (h0 : co ys 0 = 0) (hB : B ≤ w.heap.size) (hB' : B' ≤ w.heap.size) (h : Row w B A (ints xs)) (h' : Row w B' A' (ints ys)) :
    Calls Try.prog 86 #[.slice A n c, .slice A' n c'] w (NewRow 2 n (ints (cl n (cmp (co xs) (co ys)))) w) := by
  obtain ⟨i0, hi, hz0, hz1, hz2⟩ := info_parts info_i64
  have HL := Lib.hid hl
  have HL' := Lib.hid hl'
  have HA := Lib.hid ha
  have HA' := Lib.hid ha'
  have H00 := Lib.hid h0
  clear hl hl' ha ha' h0
  have hmk := run_zeros n hn
  go_enter Try.func86, Try.ntmps86
  go_upto_region 1 with fail
  go_cut [5, 6] (fun p s wx => TwoOwn w n one (fun _ => 0) p s wx)
  case first =>
    go_region_held3 (fun w' => True) (first | trivial)
      (first
        | (go_at_call 117; refine (l02Unit_any n 0 _ hn (by omega)).mono ?_; rintro e w1 ⟨A1, c1, rfl, own1, bel1⟩))
    all_goals (go_wp2_with fail; go_meet; first | exact two_first hn (Below.refl _ w) own1 (show Below w.heap.size w w1 from ⟨bel1.os, bel1.tape, bel1.output, bel1.size, bel1.block⟩) | exact two_last hn (Below.refl _ w) own1 (show Below (w.alloc (.cells (zcells n) 2)).heap.size (w.alloc (.cells (zcells n) 2)) w1 from ⟨bel1.os, bel1.tape, bel1.output, bel1.size, bel1.block⟩))
  case rest =>
    have HT := Lib.hid hcut
    clear hcut hmk hi hz0 hz1 hz2
    go_wp2_with fail
    go_loopw [5, 6, 7] (fun p s i wr => ∃ k : Nat, k ≤ n ∧ i = .int .i64 k ∧ TwoOwn w n (pwr (co ys) k) (cmT (co xs) (co ys) k) p s wr) (fun _ _ i _ => n - (intOf i).toNat)
    case atStart => exact ⟨0, by omega, rfl, HT.out⟩
    case round =>
      obtain ⟨k, hk, rfl, A1, c1, A2, c2, rfl, rfl, o1, o2, hbel⟩ := hrel
      have r1 := row_of_own o1
      have r2 := row_of_own o2
      have hsz := hbel.size
      have O2 := Lib.hid o2
      have HB2 := Lib.hid hbel
      by_cases hlt : k < n
      · obtain ⟨x, hx⟩ := at_lt (show k < xs.length by rw [HL.out]; exact hlt)
        obtain ⟨b, o, rfl, hbb, hc⟩ := h.below hbel hB k _ (ints_at hx)
        obtain ⟨x0, x1⟩ := num_at HA.out hx
        have HC := Lib.hid (cmT_step (n := n) (b := co ys) (co_at hx))
        have HP := Lib.hid (pwT_step (n := n) (co ys) k)
        have hrow := h'.below hbel hB'
        clear hx o1 o2 hbel HT
        go_wp2_with fail
        refine (l02Times_any A1 n c1 _ (cl n (pwr (co ys) k)) x _ (cl_length _ _) hn (cl_num _ _) x0 x1 (Nat.le_refl _) r1).mono ?_
        rintro e w1 ⟨A3, c3, rfl, o3, b3⟩
        have r3 := row_of_own o3
        have r2' := r2.below b3 (Nat.le_refl _)
        have r1' := r1.below b3 (Nat.le_refl _)
        have hrow' := hrow.below b3 (by omega)
        have s3 := b3.size
        have HB3 := Lib.hid (HB2.out.trans (b3.mono HB2.out.size))
        clear o3 b3 r1 r2 hrow
        go_wp2_with fail
        refine (l02Add_any A2 A3 n c2 c3 _ _ (cl n (cmT (co xs) (co ys) k)) (cl n (sc x (co (cl n (pwr (co ys) k))))) _ (cl_length _ _) (cl_length _ _) hn (cl_num _ _) (cl_num _ _) s3 (Nat.le_refl _) r2' r3).mono ?_
        rintro e w4 ⟨A4, c4, rfl, o4, b4⟩
        rw [HC.out] at o4
        have r1'' := r1'.below b4 s3
        have hrow'' := hrow'.below b4 (by omega)
        have s4 := b4.size
        have O4 := Lib.hid o4
        have HB4 := Lib.hid (HB3.out.trans (b4.mono HB3.out.size))
        clear o4 b4 r1' r2' r3 hrow'
        go_wp2_with fail
        refine (l02Mul_any A1 A' n c1 c' _ _ (cl n (pwr (co ys) k)) ys _ (cl_length _ _) HL'.out hn (cl_num _ _) HA'.out (Nat.le_trans s3 s4) (by omega) r1'' hrow'').mono ?_
        rintro e w5 ⟨A5, c5, rfl, o5, b5⟩
        rw [HP.out] at o5
        have HT5 : Hid (TwoOwn w n (pwr (co ys) (k + 1)) (cmT (co xs) (co ys) (k + 1)) (.slice A5 n c5) (.slice A4 n c4) w5) :=
          ⟨A5, c5, A4, c4, rfl, rfl, ((OwnR.of o5).more HB4.out.size (Nat.le_refl _)).1, (((OwnR.of O4.out).more HB3.out.size (Nat.le_refl _)).below b5 (Nat.le_refl _)).1, HB4.out.trans (b5.mono HB4.out.size)⟩
        clear o5 b5 r1'' hrow''
        go_wp2
        go_roundw
        case rel => exact ⟨k + 1, by omega, by go_num, HT5.out⟩
        case measure => simp [intOf]; omega
      · obtain rfl : k = n := by omega
        have HE : Hid (cl k (cmT (co xs) (co ys) k) = cl k (cmp (co xs) (co ys))) := cl_cg (cmT_end H00.out (fun j hj => Eqm.of_eq (pwr_low H00.out k j hj)))
        clear o1 o2 hbel HT r1 r2
        go_wp2
        go_ret
        exact ⟨A2, c2, rfl, by rw [← HE.out]; exact O2.out, HB2.out⟩
theorem ep_step {n : Nat} (b : Nat → Int) (k : Nat) (hk : k + 1 < 10007) : cl n (sc (inv ((k : Int) + 1)) (co (cl n (cv (co (cl n (sc (ex k) (pwr b k)))) b)))) = cl n (sc (ex (k + 1)) (pwr b (k + 1))) := by
  refine cl_cg (Cg.trans (Cg.sc (Eqm.refl _) ((co_cg n _).trans ((co_cg n _).cv (Cg.refl _ _)))) ?_)
  rw [sc_cv]
  intro j hj
  show Eqm (inv ((k : Int) + 1) * (ex k * cv (pwr b k) b j)) ((ex k * inv ((k : Int) + 1) % 10007) * cv (pwr b k) b j)
  refine Eqm.trans (Eqm.of_eq ?_) ((Eqm.mod (ex k * inv ((k : Int) + 1))).symm.mul (Eqm.refl _))
  generalize inv ((k : Int) + 1) = v
  generalize cv (pwr b k) b j = y
  grind
theorem es_step {n : Nat} (b : Nat → Int) (k : Nat) : cl n (ad (co (cl n (cmT ex b k))) (co (cl n (sc (ex k) (pwr b k))))) = cl n (cmT ex b (k + 1)) :=
  cl_cg (Cg.trans ((co_cg n _).ad (co_cg n _)) (Cg.of_eq rfl))
theorem ep_zero (n : Nat) (b : Nat → Int) : cl n (dl 0) = cl n (sc (ex 0) (pwr b 0)) := cl_cg (fun j _ => Eqm.of_eq (by show dl 0 j = 1 * one j; rw [Int.one_mul]; rfl))
set_option maxHeartbeats 1000000 in
theorem l02Exp_any (A : Option Addr) (n c B : Nat) (xs : List Int) (w : World) (hl : xs.length = n) (hn : n ≤ 64) (ha : allNum xs = true) (h0 : co xs 0 = 0) (hB : B ≤ w.heap.size) (h : Row w B A (ints xs)) :
    Calls Try.prog 76 #[.slice A n c] w (NewRow 2 n (ints (cl n (xp (co xs)))) w) := by
  have hn' : n ≤ 1048576 := by omega
  have HL := Lib.hid hl
  have HA := Lib.hid ha
  have H00 := Lib.hid h0
  clear hl ha h0
  have hmk := run_zeros n hn'
  go_enter Try.func76, Try.ntmps76
  go_upto_region 1 with fail
  go_cut [3, 4] (fun p s wx => TwoOwn w n (sc (ex 0) (pwr (co xs) 0)) (fun _ => 0) p s wx)
  case first =>
    go_region_held3 (fun w' => True) (first | trivial)
      (first
        | (go_at_call 117; refine (l02Unit_any n 0 _ hn' (by omega)).mono ?_; rintro e w1 ⟨A1, c1, rfl, own1, bel1⟩))
    all_goals (go_wp2_with fail; go_meet; rw [ep_zero n (co xs)] at own1; first | exact two_first hn' (Below.refl _ w) own1 (show Below w.heap.size w w1 from ⟨bel1.os, bel1.tape, bel1.output, bel1.size, bel1.block⟩) | exact two_last hn' (Below.refl _ w) own1 (show Below (w.alloc (.cells (zcells n) 2)).heap.size (w.alloc (.cells (zcells n) 2)) w1 from ⟨bel1.os, bel1.tape, bel1.output, bel1.size, bel1.block⟩))
  case rest =>
    have HT := Lib.hid hcut
    clear hcut hmk
    go_wp2_with fail
    go_loopw [3, 4, 5] (fun p s i wr => ∃ k : Nat, k ≤ n ∧ i = .int .i64 ((k : Int) + 1) ∧ TwoOwn w n (sc (ex k) (pwr (co xs) k)) (cmT ex (co xs) k) p s wr) (fun _ _ i _ => n + 1 - (intOf i).toNat)
    case atStart => exact ⟨0, by omega, rfl, HT.out⟩
    case round =>
      obtain ⟨k, hk, rfl, A1, c1, A2, c2, rfl, rfl, o1, o2, hbel⟩ := hrel
      have r1 := row_of_own o1
      have r2 := row_of_own o2
      have hsz := hbel.size
      have O2 := Lib.hid o2
      have HB2 := Lib.hid hbel
      by_cases hlt : k < n
      · have HC := Lib.hid (es_step (n := n) (co xs) k)
        have HP := Lib.hid (ep_step (n := n) (co xs) k (by omega))
        have hrow := h.below hbel hB
        have v0 := inv_lo ((k : Int) + 1)
        have v1 := inv_hi ((k : Int) + 1)
        obtain ⟨v, hv⟩ : ∃ v, v = inv ((k : Int) + 1) := ⟨_, rfl⟩
        rw [← hv] at HP v0 v1
        have HV := Lib.hid hv
        clear o1 o2 hbel HT hv
        go_wp2_with fail
        refine (l02Add_any A2 A1 n c2 c1 _ _ (cl n (cmT ex (co xs) k)) (cl n (sc (ex k) (pwr (co xs) k))) _ (cl_length _ _) (cl_length _ _) hn' (cl_num _ _) (cl_num _ _) (Nat.le_refl _) (Nat.le_refl _) r2 r1).mono ?_
        rintro e w4 ⟨A4, c4, rfl, o4, b4⟩
        rw [HC.out] at o4
        have r1' := r1.below b4 (Nat.le_refl _)
        have hrow' := hrow.below b4 (by omega)
        have s4 := b4.size
        have O4 := Lib.hid o4
        have HB4 := Lib.hid (HB2.out.trans (b4.mono HB2.out.size))
        clear o4 b4 r1 r2 hrow
        go_wp2_with fail
        refine (l02Mul_any A1 A n c1 c _ _ (cl n (sc (ex k) (pwr (co xs) k))) xs _ (cl_length _ _) HL.out hn' (cl_num _ _) HA.out s4 (by omega) r1' hrow').mono ?_
        rintro e w5 ⟨A5, c5, rfl, o5, b5⟩
        have r5 := row_of_own o5
        have O4' := Lib.hid (((OwnR.of O4.out).more HB2.out.size (Nat.le_refl _)).below b5 (Nat.le_refl _))
        have hw5 : OwnR w5 w.heap.size w4.heap.size 2 (.slice A4 n c4) n (ints (cl n (cmT ex (co xs) (k + 1)))) := O4'.out
        have s5 := b5.size
        have HB5 := Lib.hid (HB4.out.trans (b5.mono HB4.out.size))
        have HO4 := Lib.hid hw5
        clear o5 b5 r1' hrow' hw5 O4 O4'
        go_wp2_with (go_at_call 83; refine (l01Inv_any _ _ (by omega) (by omega)).mono ?_; rintro e w' ⟨rfl, rfl⟩; rw [← HV.out])
        refine (l02Times_any A5 n c5 _ (cl n (cv (co (cl n (sc (ex k) (pwr (co xs) k)))) (co xs))) v _ (cl_length _ _) hn' (cl_num _ _) v0 v1 (Nat.le_refl _) r5).mono ?_
        rintro e w6 ⟨A6, c6, rfl, o6, b6⟩
        rw [HP.out] at o6
        have HT6 : Hid (TwoOwn w n (sc (ex (k + 1)) (pwr (co xs) (k + 1))) (cmT ex (co xs) (k + 1)) (.slice A6 n c6) (.slice A4 n c4) w6) :=
          ⟨A6, c6, A4, c4, rfl, rfl, ((OwnR.of o6).more HB5.out.size (Nat.le_refl _)).1, (HO4.out.below b6 s5).1, HB5.out.trans (b6.mono HB5.out.size)⟩
        clear o6 b6 r5
        go_wp2
        go_roundw
        case rel => exact ⟨k + 1, by omega, by go_num, HT6.out⟩
        case measure => simp [intOf]; omega
      · obtain rfl : k = n := by omega
        have HE : Hid (cl k (cmT ex (co xs) k) = cl k (xp (co xs))) := cl_cg (cmT_end H00.out (fun j hj => Eqm.of_eq (pwr_low H00.out k j hj)))
        clear o1 o2 hbel HT r1 r2
        go_wp2
        go_ret
        exact ⟨A2, c2, rfl, by rw [← HE.out]; exact O2.out, HB2.out⟩
end Go.Proofs.Ytjdanhjonjmccab
