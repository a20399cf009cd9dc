/-
  The named tableaus of the model, as something that is drawn.
-/
import Derived.Test.YtpngohklicgbjaaGreatDrawK
import Derived.Test.YtpngohklicgbjaaGreatRoots
import Derived.Test.YtpngohklicgbjaaGreatTab
namespace Go.Proofs.YtpngohklicgbjaaGreat
open Go.RowKit Fld
set_option linter.unusedVariables false
set_option linter.unusedSimpArgs false
set_option maxRecDepth 100000

/-- rows and a list that lie apart -/
def ApartK (vs : List Value) (v : Value) : Prop := ∀ u ∈ vs, ∀ g, u.ownBlock = some g → v.ownBlock ≠ some g
/-- a new tableau of the field -/
def NewTb (w : World) (e : Ending) (w' : World) : Prop :=
  ∃ n A c vs m D d b, e = .returned (.agg #[.slice A n c, .slice D n d]) ∧ (1 ≤ n ∧ n ≤ 8) ∧ (m.length = n ∧ b.length = n) ∧ Wide m n ∧ OwnMat w' w.heap.size w'.heap.size (.slice A n c) n m vs ∧ OwnR w' w.heap.size w'.heap.size 2 (.slice D n d) n (ints b) ∧ ApartK vs (.slice D n d) ∧ Below w.heap.size w w'
theorem apart_of {w1 w3 : World} {lo hi lo2 n c n2 d : Nat} {A D : Option Addr} {m : List (List Int)} {vs us : List Value} (h : OwnMat w1 lo hi (.slice A n c) n m vs) (h2 : w3.ownsRow lo2 2 1 (.slice D n2 d) n2 us) (hd : hi ≤ lo2) : ApartK vs (.slice D n2 d) := fun u hu g hg e => by
  obtain ⟨k, hk, rfl⟩ := List.mem_iff_getElem.1 hu
  have hm : k < m.length := by rw [← h.len]; exact hk
  obtain ⟨A2, c2, e1, o1⟩ := h.inner k _ (List.getElem?_eq_getElem hm)
  rw [List.getElem?_eq_getElem hk] at e1
  injection e1 with e1
  rw [e1] at hg
  have h3 := o1.2 g hg
  have h4 := (h2.lt g e).1
  omega
theorem rootE (w : World) : Calls Tryz.prog 103 #[.int .i64 3, .int .i64 2] w fun e w' => (∃ f : Int, IsN f ∧ e = .returned (.int .i64 f)) ∧ w = w' := by
  refine (l01Root_any 3 2 w (by omega) (by omega)).mono ?_
  rintro e w' ⟨r, rfl, hr, rfl⟩
  refine ⟨⟨r, ?_, rfl⟩, rfl⟩
  rcases hr with ⟨_, h⟩ | ⟨h0, h1, _⟩
  · exact absurd (by decide +kernel) (h 1477 (by omega) (by omega))
  · exact ⟨h0, h1⟩
theorem row_lit (W : World) (T : TypeId) (vs : List Value) {k : Nat} (h : W.heap.size = k) : Row (W.alloc (.cells vs.toArray T)) (k + 1) (some ⟨k, 0, none⟩) vs := by subst h; exact Row.new W T vs
section
variable {w w1 w3 : World} {l1 l2 : Obj}
theorem tb_facts (b1 : Below ((w.alloc (.cells #[.slice none 0 0, .slice none 0 0] 27)).alloc l1).heap.size ((w.alloc (.cells #[.slice none 0 0, .slice none 0 0] 27)).alloc l1) w1) (b3 : Below (w1.alloc l2).heap.size (w1.alloc l2) w3) :
    Bx w3 w.heap.size 27 (.slice none 0 0) (.slice none 0 0) ∧ Below w.heap.size w w3 ∧ w.heap.size + 2 ≤ w1.heap.size ∧ w1.heap.size + 1 ≤ w3.heap.size := by
  have z1 := b1.size
  have z3 := b3.size
  simp only [World.size_alloc] at z1 z3
  have h0 : Bx (w.alloc (.cells #[.slice none 0 0, .slice none 0 0] 27)) w.heap.size 27 (.slice none 0 0) (.slice none 0 0) := Bx.new _ _ _ _
  have B0 : Below w.heap.size w ((w.alloc (.cells #[.slice none 0 0, .slice none 0 0] 27)).alloc l1) := ((Below.refl _ _).alloc (Nat.le_refl _) _).alloc (by simp) _
  refine ⟨(((h0.next ((Below.refl _ _).alloc (Nat.le_refl _) _)).next b1).next ((Below.refl _ _).alloc (Nat.le_refl _) _)).next b3, ?_, by omega, by omega⟩
  exact ((B0.trans (b1.mono B0.size)).alloc (by omega) _).trans (b3.mono (by simp; omega))
theorem tb_done {A1 A3 : Option Addr} {n c1 c3 : Nat} {m : List (List Int)} {vs : List Value} {zs : List Int} (F : Bx w3 w.heap.size 27 (.slice none 0 0) (.slice none 0 0)) (hb : Below w.heap.size w w3) (o1 : OwnMat w1 (w.heap.size + 1) w1.heap.size (.slice A1 n c1) n m vs) (z2 : w.heap.size + 1 ≤ w1.heap.size) (b3 : Below (w1.alloc l2).heap.size (w1.alloc l2) w3)
    (o3 : w3.ownsRow (w1.alloc l2).heap.size 2 1 (.slice A3 n c3) n (ints zs)) (hn : 1 ≤ n ∧ n ≤ 8) (hw : Wide m n) (hz : zs.length = n) :
    NewTb w (.returned (.agg #[.slice A1 n c1, .slice A3 n c3])) ((w3.setCell ⟨w.heap.size, 0, none⟩ (.slice A1 n c1)).setCell ⟨w.heap.size, 1, none⟩ (.slice A3 n c3)) ∧ Bx ((w3.setCell ⟨w.heap.size, 0, none⟩ (.slice A1 n c1)).setCell ⟨w.heap.size, 1, none⟩ (.slice A3 n c3)) w.heap.size 27 (.slice A1 n c1) (.slice A3 n c3) := by
  have z3 := b3.size
  have z4 : (w1.alloc l2).heap.size = w1.heap.size + 1 := by simp
  have hs : ((w3.setCell ⟨w.heap.size, 0, none⟩ (.slice A1 n c1)).setCell ⟨w.heap.size, 1, none⟩ (.slice A3 n c3)).heap.size = w3.heap.size := by simp [World.setCell]
  have hk : ∀ g, w.heap.size + 1 ≤ g → ((w3.setCell ⟨w.heap.size, 0, none⟩ (.slice A1 n c1)).setCell ⟨w.heap.size, 1, none⟩ (.slice A3 n c3)).heap[g]? = w3.heap[g]? := fun g hg => by
    rw [Below.heap_setCell _ _ _ _ (by show g ≠ w.heap.size; omega), Below.heap_setCell _ _ _ _ (by show g ≠ w.heap.size; omega)]
  refine ⟨⟨n, A1, c1, vs, m, A3, c3, zs, rfl, hn, ⟨o1.size, hz⟩, hw, ?_, ?_, apart_of o1 o3 (by omega), (hb.setCell (p := ⟨w.heap.size, 0, none⟩) (Nat.le_refl _) _).setCell (p := ⟨w.heap.size, 1, none⟩) (Nat.le_refl _) _⟩, F.stored _ _⟩
  · exact ((((o1.below ((Below.refl _ _).alloc (Nat.le_refl _) l2) (Nat.le_refl _)).below b3 (by omega)).keep (fun g h1 _ => hk g h1)).more (by omega) (by omega))
  · exact (((OwnR.of o3).keep (fun g h1 _ => hk g (by omega))).more (by omega) (by omega))
/-- a square of two rows that are written down -/
theorem gauss_mat (W : World) {s : Nat} (hs : W.heap.size = s) (a b c d : Int) : OwnMat (((W.alloc (.cells #[.int .i64 a, .int .i64 b] 2)).alloc (.cells #[.int .i64 c, .int .i64 d] 2)).alloc (.cells #[.slice (some ⟨s, 0, none⟩) 2 2, .slice (some ⟨s + 1, 0, none⟩) 2 2] 25)) s (s + 3) (.slice (some ⟨s + 2, 0, none⟩) 2 2) 2 [[a, b], [c, d]] [.slice (some ⟨s, 0, none⟩) 2 2, .slice (some ⟨s + 1, 0, none⟩) 2 2] := by
  subst hs
  have h1 : (W.alloc (.cells #[.int .i64 a, .int .i64 b] 2)).ownsRow W.heap.size 2 1 (.slice (some ⟨W.heap.size, 0, none⟩) 2 2) 2 (ints [a, b]) := World.ownsRow_lit W #[.int .i64 a, .int .i64 b] 2 (Nat.le_refl _) (by decide) rfl
  have h2 := World.ownsRow_lit (base := W.heap.size) (e := 2) (size := 1) (W.alloc (.cells #[.int .i64 a, .int .i64 b] 2)) #[.int .i64 c, .int .i64 d] 2 (by simp) (by decide) rfl
  have h3 := World.ownsRow_lit (base := W.heap.size) (e := 25) (size := 1) ((W.alloc (.cells #[.int .i64 a, .int .i64 b] 2)).alloc (.cells #[.int .i64 c, .int .i64 d] 2)) #[.slice (some ⟨W.heap.size, 0, none⟩) 2 2, .slice (some ⟨W.heap.size + 1, 0, none⟩) 2 2] 2 (by simp; omega) (by decide) rfl
  have e1 : (W.alloc (.cells #[.int .i64 a, .int .i64 b] 2)).heap.size = W.heap.size + 1 := by simp
  have e2 : ((W.alloc (.cells #[.int .i64 a, .int .i64 b] 2)).alloc (.cells #[.int .i64 c, .int .i64 d] 2)).heap.size = W.heap.size + 2 := by simp
  rw [e1] at h2
  rw [e2] at h3
  refine ⟨⟨h3, fun g hg => by have : W.heap.size + 2 = g := (by simpa [Value.ownBlock] using hg); omega⟩, rfl, ?_, ?_⟩
  · intro r row hr
    rcases r with _ | _ | r
    · simp only [List.getElem?_cons_zero, Option.some.injEq] at hr
      subst hr
      exact ⟨_, 2, rfl, ⟨(h1.alloc _).alloc _, fun g hg => by have : W.heap.size = g := (by simpa [Value.ownBlock] using hg); omega⟩⟩
    · simp only [List.getElem?_cons_succ, List.getElem?_cons_zero, Option.some.injEq] at hr
      subst hr
      exact ⟨_, 2, rfl, ⟨h2.alloc _, fun g hg => by have : W.heap.size + 1 = g := (by simpa [Value.ownBlock] using hg); omega⟩⟩
    · simp at hr
  · intro r s u t g hne hu ht hb hb'
    rcases r with _ | _ | r <;> rcases s with _ | _ | s <;> simp at hu ht <;> try omega
    all_goals
      subst hu ht
      simp [Value.ownBlock] at hb hb'
      omega
end
theorem info_tb : (Tryz.prog.info? 27).map (·.size) = some 2 := by kernel_rfl
set_option maxHeartbeats 8000000 in
theorem l09Named_any (nm : ByteArray) (w : World) : Calls Tryz.prog 79 #[.string nm] w (NewTb w) := by
  go_enter Tryz.func79, Tryz.ntmps79
  go_wp2_with fail
  · refine (l09Square_any 1 1 _ 1 1 (w.heap.size + 2) [0] _ rfl (by omega) (by omega) (by simp) (row_lit (w.alloc (.cells #[.slice none 0 0, .slice none 0 0] 27)) 2 (ints [0]) (by simp))).mono ?_
    rintro e w1 ⟨m, hw, hnm, A1, c1, vs, rfl, own1, b1⟩
    clear hnm
    go_wp2_with fail
    refine (l09Row_any 1 _ 1 1 (w1.heap.size + 1) [1] _ rfl (by omega) (by simp) (Row.new w1 2 (ints [1]))).mono ?_
    rintro e w3 ⟨zs, hz, hzn, A3, c3, rfl, own3, b3⟩
    clear hzn
    obtain ⟨F3, hb3, z2, z3⟩ := tb_facts b1 b3
    have k0 := F3.c0
    have k1 := F3.c1
    have f0 := F3.free 0
    have f1 := F3.free 1
    obtain ⟨hT, hX⟩ := tb_done F3 hb3 (own1.more (by simp) (Nat.le_refl _)) (by omega) b3 own3 (by omega) hw hz
    have HT := Lib.hid hT
    have HX := Lib.hid hX
    clear hT hX F3 own1 own3 b1 b3 hw hz hb3
    go_wp2
    exact bodyPost_ret (v := .agg #[.slice A1 1 c1, .slice A3 1 c3]) (results_cell_row rfl _ _ w.heap.size 27 _ (0, 0) _ rfl HX.out Tryz.underlying27 rfl info_tb) rfl HT.out
  · refine (rootE _).mono ?_
    rintro e w' ⟨⟨r, hr, rfl⟩, rfl⟩
    go_wp2_with fail
    refine (fracE _ _ _).mono ?_
    rintro e w' ⟨⟨f, hf, rfl⟩, rfl⟩
    go_wp2_with fail
    refine (l01Mul_any r f _ hr.1 hr.2 hf.1 hf.2).mono ?_
    rintro e w' ⟨rfl, rfl⟩
    obtain ⟨p, hp⟩ : ∃ p, p = r * f % 10007 := ⟨_, rfl⟩
    have p0 : 0 ≤ p := by omega
    have p1 : p < 10007 := by omega
    rw [← hp]
    clear hp hr hf
    go_wp2_with fail
    refine (fracE _ _ _).mono ?_
    rintro e w' ⟨⟨q, hq, rfl⟩, rfl⟩
    go_wp2_with fail
    refine (l01Sub_any q p _ hq.1 hq.2 p0 p1).mono ?_
    rintro e w' ⟨rfl, rfl⟩
    obtain ⟨x, hx⟩ : ∃ x, x = (q - p) % 10007 := ⟨_, rfl⟩
    rw [← hx]
    clear hx
    go_wp2_with fail
    refine (l01Add_any q p _ hq.1 hq.2 p0 p1).mono ?_
    rintro e w' ⟨rfl, rfl⟩
    obtain ⟨y, hy⟩ : ∃ y, y = (q + p) % 10007 := ⟨_, rfl⟩
    rw [← hy]
    clear hy p0 p1 hq
    go_wp2_with fail
    have hg := gauss_mat (w.alloc (.cells #[.slice none 0 0, .slice none 0 0] 27)) (s := w.heap.size + 1) (by simp) q x y q
    obtain ⟨l1, hl1⟩ : ∃ l : Obj, l = .cells #[.int .i64 q, .int .i64 x] 2 := ⟨_, rfl⟩
    refine (l09Row_any 2 _ 2 2 (w.heap.size + 5) [1, 1] _ rfl (by omega) (by simp) (row_lit _ 2 (ints [1, 1]) (by simp))).mono ?_
    rintro e w3 ⟨zs, hz, hzn, A3, c3, rfl, own3, b3⟩
    have b1 : Below ((w.alloc (.cells #[.slice none 0 0, .slice none 0 0] 27)).alloc l1).heap.size ((w.alloc (.cells #[.slice none 0 0, .slice none 0 0] 27)).alloc l1) (((((w.alloc (.cells #[.slice none 0 0, .slice none 0 0] 27)).alloc l1).alloc (.cells #[.int .i64 y, .int .i64 q] 2))).alloc (.cells #[.slice (some ⟨w.heap.size + 1, 0, none⟩) 2 2, .slice (some ⟨w.heap.size + 1 + 1, 0, none⟩) 2 2] 25)) := ((Below.refl _ _).alloc (Nat.le_refl _) _).alloc (by simp) _
    rw [← hl1] at own3 b3 hg
    have hw : Wide [[q, x], [y, q]] 2 := fun r hr => by simp at hr; rcases hr with rfl | rfl <;> rfl
    have own1 := hg.more (Nat.le_refl _) (show w.heap.size + 1 + 3 ≤ (((((w.alloc (.cells #[.slice none 0 0, .slice none 0 0] 27)).alloc l1).alloc (.cells #[.int .i64 y, .int .i64 q] 2))).alloc (.cells #[.slice (some ⟨w.heap.size + 1, 0, none⟩) 2 2, .slice (some ⟨w.heap.size + 1 + 1, 0, none⟩) 2 2] 25)).heap.size by simp)
    clear hg hzn hl1
    obtain ⟨F3, hb3, z2, z3⟩ := tb_facts b1 b3
    have k0 := F3.c0
    have k1 := F3.c1
    have f0 := F3.free 0
    have f1 := F3.free 1
    obtain ⟨hT, hX⟩ := tb_done F3 hb3 own1 (by omega) b3 own3 (by omega) hw hz
    have HT := Lib.hid hT
    have HX := Lib.hid hX
    clear hT hX F3 own1 own3 b1 b3 hw hz hb3
    go_wp2
    exact bodyPost_ret (v := .agg #[.slice (some ⟨w.heap.size + 1 + 2, 0, none⟩) 2 2, .slice A3 2 c3]) (results_cell_row rfl _ _ w.heap.size 27 _ (0, 0) _ rfl HX.out Tryz.underlying27 rfl info_tb) rfl HT.out
  · refine (l09Square_any 2 1 _ 4 4 (w.heap.size + 2) [0, 0, 1, 0] _ rfl (by omega) (by omega) (by simp) (row_lit (w.alloc (.cells #[.slice none 0 0, .slice none 0 0] 27)) 2 (ints [0, 0, 1, 0]) (by simp))).mono ?_
    rintro e w1 ⟨m, hw, hnm, A1, c1, vs, rfl, own1, b1⟩
    clear hnm
    go_wp2_with fail
    refine (l09Row_any 2 _ 2 2 (w1.heap.size + 1) [1, 1] _ rfl (by omega) (by simp) (Row.new w1 2 (ints [1, 1]))).mono ?_
    rintro e w3 ⟨zs, hz, hzn, A3, c3, rfl, own3, b3⟩
    clear hzn
    obtain ⟨F3, hb3, z2, z3⟩ := tb_facts b1 b3
    have k0 := F3.c0
    have k1 := F3.c1
    have f0 := F3.free 0
    have f1 := F3.free 1
    obtain ⟨hT, hX⟩ := tb_done F3 hb3 (own1.more (by simp) (Nat.le_refl _)) (by omega) b3 own3 (by omega) hw hz
    have HT := Lib.hid hT
    have HX := Lib.hid hX
    clear hT hX F3 own1 own3 b1 b3 hw hz hb3
    go_wp2
    exact bodyPost_ret (v := .agg #[.slice A1 2 c1, .slice A3 2 c3]) (results_cell_row rfl _ _ w.heap.size 27 _ (0, 0) _ rfl HX.out Tryz.underlying27 rfl info_tb) rfl HT.out
  · refine (l09Square_any 1 1 _ 1 1 (w.heap.size + 2) [1] _ rfl (by omega) (by omega) (by simp) (row_lit (w.alloc (.cells #[.slice none 0 0, .slice none 0 0] 27)) 2 (ints [1]) (by simp))).mono ?_
    rintro e w1 ⟨m, hw, hnm, A1, c1, vs, rfl, own1, b1⟩
    clear hnm
    go_wp2_with fail
    refine (l09Row_any 1 _ 1 1 (w1.heap.size + 1) [1] _ rfl (by omega) (by simp) (Row.new w1 2 (ints [1]))).mono ?_
    rintro e w3 ⟨zs, hz, hzn, A3, c3, rfl, own3, b3⟩
    clear hzn
    obtain ⟨F3, hb3, z2, z3⟩ := tb_facts b1 b3
    have k0 := F3.c0
    have k1 := F3.c1
    have f0 := F3.free 0
    have f1 := F3.free 1
    obtain ⟨hT, hX⟩ := tb_done F3 hb3 (own1.more (by simp) (Nat.le_refl _)) (by omega) b3 own3 (by omega) hw hz
    have HT := Lib.hid hT
    have HX := Lib.hid hX
    clear hT hX F3 own1 own3 b1 b3 hw hz hb3
    go_wp2
    exact bodyPost_ret (v := .agg #[.slice A1 1 c1, .slice A3 1 c3]) (results_cell_row rfl _ _ w.heap.size 27 _ (0, 0) _ rfl HX.out Tryz.underlying27 rfl info_tb) rfl HT.out
  · refine (l09Square_any 3 2 _ 9 9 (w.heap.size + 2) [0, 0, 0, 1, 0, 0, -2, 4, 0] _ rfl (by omega) (by omega) (by simp) (row_lit (w.alloc (.cells #[.slice none 0 0, .slice none 0 0] 27)) 2 (ints [0, 0, 0, 1, 0, 0, -2, 4, 0]) (by simp))).mono ?_
    rintro e w1 ⟨m, hw, hnm, A1, c1, vs, rfl, own1, b1⟩
    clear hnm
    go_wp2_with fail
    refine (l09Row_any 6 _ 3 3 (w1.heap.size + 1) [1, 4, 1] _ rfl (by omega) (by simp) (Row.new w1 2 (ints [1, 4, 1]))).mono ?_
    rintro e w3 ⟨zs, hz, hzn, A3, c3, rfl, own3, b3⟩
    clear hzn
    obtain ⟨F3, hb3, z2, z3⟩ := tb_facts b1 b3
    have k0 := F3.c0
    have k1 := F3.c1
    have f0 := F3.free 0
    have f1 := F3.free 1
    obtain ⟨hT, hX⟩ := tb_done F3 hb3 (own1.more (by simp) (Nat.le_refl _)) (by omega) b3 own3 (by omega) hw hz
    have HT := Lib.hid hT
    have HX := Lib.hid hX
    clear hT hX F3 own1 own3 b1 b3 hw hz hb3
    go_wp2
    exact bodyPost_ret (v := .agg #[.slice A1 3 c1, .slice A3 3 c3]) (results_cell_row rfl _ _ w.heap.size 27 _ (0, 0) _ rfl HX.out Tryz.underlying27 rfl info_tb) rfl HT.out
  · refine (l09Square_any 3 24 _ 9 9 (w.heap.size + 2) [0, 0, 0, 5, 8, -1, 4, 16, 4] _ rfl (by omega) (by omega) (by simp) (row_lit (w.alloc (.cells #[.slice none 0 0, .slice none 0 0] 27)) 2 (ints [0, 0, 0, 5, 8, -1, 4, 16, 4]) (by simp))).mono ?_
    rintro e w1 ⟨m, hw, hnm, A1, c1, vs, rfl, own1, b1⟩
    clear hnm
    go_wp2_with fail
    refine (l09Row_any 6 _ 3 3 (w1.heap.size + 1) [1, 4, 1] _ rfl (by omega) (by simp) (Row.new w1 2 (ints [1, 4, 1]))).mono ?_
    rintro e w3 ⟨zs, hz, hzn, A3, c3, rfl, own3, b3⟩
    clear hzn
    obtain ⟨F3, hb3, z2, z3⟩ := tb_facts b1 b3
    have k0 := F3.c0
    have k1 := F3.c1
    have f0 := F3.free 0
    have f1 := F3.free 1
    obtain ⟨hT, hX⟩ := tb_done F3 hb3 (own1.more (by simp) (Nat.le_refl _)) (by omega) b3 own3 (by omega) hw hz
    have HT := Lib.hid hT
    have HX := Lib.hid hX
    clear hT hX F3 own1 own3 b1 b3 hw hz hb3
    go_wp2
    exact bodyPost_ret (v := .agg #[.slice A1 3 c1, .slice A3 3 c3]) (results_cell_row rfl _ _ w.heap.size 27 _ (0, 0) _ rfl HX.out Tryz.underlying27 rfl info_tb) rfl HT.out
  · refine (l09Square_any 1 2 _ 1 1 (w.heap.size + 2) [1] _ rfl (by omega) (by omega) (by simp) (row_lit (w.alloc (.cells #[.slice none 0 0, .slice none 0 0] 27)) 2 (ints [1]) (by simp))).mono ?_
    rintro e w1 ⟨m, hw, hnm, A1, c1, vs, rfl, own1, b1⟩
    clear hnm
    go_wp2_with fail
    refine (l09Row_any 1 _ 1 1 (w1.heap.size + 1) [1] _ rfl (by omega) (by simp) (Row.new w1 2 (ints [1]))).mono ?_
    rintro e w3 ⟨zs, hz, hzn, A3, c3, rfl, own3, b3⟩
    clear hzn
    obtain ⟨F3, hb3, z2, z3⟩ := tb_facts b1 b3
    have k0 := F3.c0
    have k1 := F3.c1
    have f0 := F3.free 0
    have f1 := F3.free 1
    obtain ⟨hT, hX⟩ := tb_done F3 hb3 (own1.more (by simp) (Nat.le_refl _)) (by omega) b3 own3 (by omega) hw hz
    have HT := Lib.hid hT
    have HX := Lib.hid hX
    clear hT hX F3 own1 own3 b1 b3 hw hz hb3
    go_wp2
    exact bodyPost_ret (v := .agg #[.slice A1 1 c1, .slice A3 1 c3]) (results_cell_row rfl _ _ w.heap.size 27 _ (0, 0) _ rfl HX.out Tryz.underlying27 rfl info_tb) rfl HT.out
  · refine (l09Square_any 2 2 _ 4 4 (w.heap.size + 2) [0, 0, 1, 0] _ rfl (by omega) (by omega) (by simp) (row_lit (w.alloc (.cells #[.slice none 0 0, .slice none 0 0] 27)) 2 (ints [0, 0, 1, 0]) (by simp))).mono ?_
    rintro e w1 ⟨m, hw, hnm, A1, c1, vs, rfl, own1, b1⟩
    clear hnm
    go_wp2_with fail
    refine (l09Row_any 1 _ 2 2 (w1.heap.size + 1) [0, 1] _ rfl (by omega) (by simp) (Row.new w1 2 (ints [0, 1]))).mono ?_
    rintro e w3 ⟨zs, hz, hzn, A3, c3, rfl, own3, b3⟩
    clear hzn
    obtain ⟨F3, hb3, z2, z3⟩ := tb_facts b1 b3
    have k0 := F3.c0
    have k1 := F3.c1
    have f0 := F3.free 0
    have f1 := F3.free 1
    obtain ⟨hT, hX⟩ := tb_done F3 hb3 (own1.more (by simp) (Nat.le_refl _)) (by omega) b3 own3 (by omega) hw hz
    have HT := Lib.hid hT
    have HX := Lib.hid hX
    clear hT hX F3 own1 own3 b1 b3 hw hz hb3
    go_wp2
    exact bodyPost_ret (v := .agg #[.slice A1 2 c1, .slice A3 2 c3]) (results_cell_row rfl _ _ w.heap.size 27 _ (0, 0) _ rfl HX.out Tryz.underlying27 rfl info_tb) rfl HT.out
  · refine (l09Square_any 2 12 _ 4 4 (w.heap.size + 2) [5, -1, 9, 3] _ rfl (by omega) (by omega) (by simp) (row_lit (w.alloc (.cells #[.slice none 0 0, .slice none 0 0] 27)) 2 (ints [5, -1, 9, 3]) (by simp))).mono ?_
    rintro e w1 ⟨m, hw, hnm, A1, c1, vs, rfl, own1, b1⟩
    clear hnm
    go_wp2_with fail
    refine (l09Row_any 4 _ 2 2 (w1.heap.size + 1) [3, 1] _ rfl (by omega) (by simp) (Row.new w1 2 (ints [3, 1]))).mono ?_
    rintro e w3 ⟨zs, hz, hzn, A3, c3, rfl, own3, b3⟩
    clear hzn
    obtain ⟨F3, hb3, z2, z3⟩ := tb_facts b1 b3
    have k0 := F3.c0
    have k1 := F3.c1
    have f0 := F3.free 0
    have f1 := F3.free 1
    obtain ⟨hT, hX⟩ := tb_done F3 hb3 (own1.more (by simp) (Nat.le_refl _)) (by omega) b3 own3 (by omega) hw hz
    have HT := Lib.hid hT
    have HX := Lib.hid hX
    clear hT hX F3 own1 own3 b1 b3 hw hz hb3
    go_wp2
    exact bodyPost_ret (v := .agg #[.slice A1 2 c1, .slice A3 2 c3]) (results_cell_row rfl _ _ w.heap.size 27 _ (0, 0) _ rfl HX.out Tryz.underlying27 rfl info_tb) rfl HT.out
  · refine (l09Square_any 2 3 _ 4 4 (w.heap.size + 2) [0, 0, 2, 0] _ rfl (by omega) (by omega) (by simp) (row_lit (w.alloc (.cells #[.slice none 0 0, .slice none 0 0] 27)) 2 (ints [0, 0, 2, 0]) (by simp))).mono ?_
    rintro e w1 ⟨m, hw, hnm, A1, c1, vs, rfl, own1, b1⟩
    clear hnm
    go_wp2_with fail
    refine (l09Row_any 4 _ 2 2 (w1.heap.size + 1) [1, 3] _ rfl (by omega) (by simp) (Row.new w1 2 (ints [1, 3]))).mono ?_
    rintro e w3 ⟨zs, hz, hzn, A3, c3, rfl, own3, b3⟩
    clear hzn
    obtain ⟨F3, hb3, z2, z3⟩ := tb_facts b1 b3
    have k0 := F3.c0
    have k1 := F3.c1
    have f0 := F3.free 0
    have f1 := F3.free 1
    obtain ⟨hT, hX⟩ := tb_done F3 hb3 (own1.more (by simp) (Nat.le_refl _)) (by omega) b3 own3 (by omega) hw hz
    have HT := Lib.hid hT
    have HX := Lib.hid hX
    clear hT hX F3 own1 own3 b1 b3 hw hz hb3
    go_wp2
    exact bodyPost_ret (v := .agg #[.slice A1 2 c1, .slice A3 2 c3]) (results_cell_row rfl _ _ w.heap.size 27 _ (0, 0) _ rfl HX.out Tryz.underlying27 rfl info_tb) rfl HT.out
  · refine (l09Square_any 4 2 _ 16 16 (w.heap.size + 2) [0, 0, 0, 0, 1, 0, 0, 0, 0, 1, 0, 0, 0, 0, 2, 0] _ rfl (by omega) (by omega) (by simp) (row_lit (w.alloc (.cells #[.slice none 0 0, .slice none 0 0] 27)) 2 (ints [0, 0, 0, 0, 1, 0, 0, 0, 0, 1, 0, 0, 0, 0, 2, 0]) (by simp))).mono ?_
    rintro e w1 ⟨m, hw, hnm, A1, c1, vs, rfl, own1, b1⟩
    clear hnm
    go_wp2_with fail
    refine (l09Row_any 6 _ 4 4 (w1.heap.size + 1) [1, 2, 2, 1] _ rfl (by omega) (by simp) (Row.new w1 2 (ints [1, 2, 2, 1]))).mono ?_
    rintro e w3 ⟨zs, hz, hzn, A3, c3, rfl, own3, b3⟩
    clear hzn
    obtain ⟨F3, hb3, z2, z3⟩ := tb_facts b1 b3
    have k0 := F3.c0
    have k1 := F3.c1
    have f0 := F3.free 0
    have f1 := F3.free 1
    obtain ⟨hT, hX⟩ := tb_done F3 hb3 (own1.more (by simp) (Nat.le_refl _)) (by omega) b3 own3 (by omega) hw hz
    have HT := Lib.hid hT
    have HX := Lib.hid hX
    clear hT hX F3 own1 own3 b1 b3 hw hz hb3
    go_wp2
    exact bodyPost_ret (v := .agg #[.slice A1 4 c1, .slice A3 4 c3]) (results_cell_row rfl _ _ w.heap.size 27 _ (0, 0) _ rfl HX.out Tryz.underlying27 rfl info_tb) rfl HT.out
  · refine (l09Square_any 2 2 _ 4 4 (w.heap.size + 2) [0, 0, 1, 1] _ rfl (by omega) (by omega) (by simp) (row_lit (w.alloc (.cells #[.slice none 0 0, .slice none 0 0] 27)) 2 (ints [0, 0, 1, 1]) (by simp))).mono ?_
    rintro e w1 ⟨m, hw, hnm, A1, c1, vs, rfl, own1, b1⟩
    clear hnm
    go_wp2_with fail
    refine (l09Row_any 2 _ 2 2 (w1.heap.size + 1) [1, 1] _ rfl (by omega) (by simp) (Row.new w1 2 (ints [1, 1]))).mono ?_
    rintro e w3 ⟨zs, hz, hzn, A3, c3, rfl, own3, b3⟩
    clear hzn
    obtain ⟨F3, hb3, z2, z3⟩ := tb_facts b1 b3
    have k0 := F3.c0
    have k1 := F3.c1
    have f0 := F3.free 0
    have f1 := F3.free 1
    obtain ⟨hT, hX⟩ := tb_done F3 hb3 (own1.more (by simp) (Nat.le_refl _)) (by omega) b3 own3 (by omega) hw hz
    have HT := Lib.hid hT
    have HX := Lib.hid hX
    clear hT hX F3 own1 own3 b1 b3 hw hz hb3
    go_wp2
    exact bodyPost_ret (v := .agg #[.slice A1 2 c1, .slice A3 2 c3]) (results_cell_row rfl _ _ w.heap.size 27 _ (0, 0) _ rfl HX.out Tryz.underlying27 rfl info_tb) rfl HT.out
end Go.Proofs.YtpngohklicgbjaaGreat
