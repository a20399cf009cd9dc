/-
  Draws of tableaus: any tableau of the field.
-/
import Derived.Test.YtpngohklicgbjaaGreatDrawN
namespace Go.Proofs.YtpngohklicgbjaaGreat
open Go.RowKit Fld
set_option linter.unusedVariables false
set_option linter.unusedSimpArgs false
set_option maxRecDepth 100000

theorem heap_setK {w : World} {g k : Nat} {cs : Array Value} {T : TypeId} (h : w.heap[g]? = some (.cells cs T (0, 0))) (u : Value) : (w.setCell ⟨g, k, none⟩ u).heap[g]? = some (.cells (cs.setIfInBounds k u) T (0, 0)) := by
  simp only [World.setCell, Array.getElem?_modify, if_pos, h, Option.map_some]
  rfl
theorem ownmat_nilK (w : World) (lo hi : Nat) : OwnMat w lo hi (.slice none 0 0) 0 [] [] :=
  ⟨⟨World.ownsRow_nil .., fun g hg => by simp [Value.ownBlock] at hg⟩, rfl, fun r row hr => by simp at hr, fun r s u t g _ hu => by simp at hu⟩
/-- a tableau that was drawn: its own memory, and only the source has turned -/
def DrawnTb (T : TypeId) (G B : Nat) (xs : List Int) (w : World) (e : Ending) (w' : World) : Prop :=
  ∃ n A c vs m D d b, e = .returned (.agg #[.slice A n c, .slice D n d]) ∧ (1 ≤ n ∧ n ≤ 8) ∧ (m.length = n ∧ b.length = n) ∧ Wide m n ∧ OwnMat w' w.heap.size w'.heap.size (.slice A n c) n m vs ∧ OwnR w' w.heap.size w'.heap.size 2 (.slice D n d) n (ints b) ∧ ApartK vs (.slice D n d) ∧ Src w' T G B xs ∧ w.grownBy w' (some G)
/-- what a draw of a tableau holds while it goes on -/
structure KB (w : World) (xb hi n k : Nat) (A : Option Addr) (c : Nat) (m : List (List Int)) (vs : List Value) (D : Option Addr) (d : Nat) (bs : List Int) (wr : World) : Prop where
  box : Bx wr xb 27 (.slice A k c) (.slice D n d)
  res : Bx wr w.heap.size 27 (.slice none 0 0) (.slice none 0 0)
  mat : OwnMat wr (xb + 1) hi (.slice A k c) k m vs
  row : OwnR wr (w.heap.size + 1) xb 2 (.slice D n d) n (ints bs)
  lo : w.heap.size < xb
  mid : xb < hi
  top : hi ≤ wr.heap.size
theorem KB.keep {w wr wr' : World} {xb hi n k c d : Nat} {A D : Option Addr} {m : List (List Int)} {vs : List Value} {bs : List Int} (h : KB w xb hi n k A c m vs D d bs wr) (hs : wr.heap.size ≤ wr'.heap.size) (hk : ∀ g, w.heap.size ≤ g → g < hi → wr'.heap[g]? = wr.heap[g]?) : KB w xb hi n k A c m vs D d bs wr' := by
  have h1 := h.lo
  have h2 := h.mid
  have h3 := h.top
  exact ⟨(hk xb (by omega) h2).trans h.box, (hk _ (Nat.le_refl _) (by omega)).trans h.res, h.mat.keep (fun g a b => hk g (by omega) b), h.row.keep (fun g a b => hk g (by omega) (by omega)), h1, h2, by omega⟩
theorem KB.only {w wr wr' : World} {xb hi n k c d G : Nat} {A D : Option Addr} {m : List (List Int)} {vs : List Value} {bs : List Int} (h : KB w xb hi n k A c m vs D d bs wr) (o : wr.grownBy wr' (some G)) (hG : G < w.heap.size) : KB w xb hi n k A c m vs D d bs wr' :=
  h.keep o.size (fun g a b => o.block g (by have := h.top; omega) (fun e => by have := Option.some.inj e; omega))
theorem KB.up {w wr : World} {xb hi n k c d : Nat} {A D : Option Addr} {m : List (List Int)} {vs : List Value} {bs : List Int} (h : KB w xb hi n k A c m vs D d bs wr) : KB w xb wr.heap.size n k A c m vs D d bs wr :=
  ⟨h.box, h.res, h.mat.more (Nat.le_refl _) h.top, h.row, h.lo, Nat.lt_of_lt_of_le h.mid h.top, Nat.le_refl _⟩
theorem KB.apart {w wr : World} {xb hi n k c d : Nat} {A D : Option Addr} {m : List (List Int)} {vs : List Value} {bs : List Int} (h : KB w xb hi n k A c m vs D d bs wr) : ApartK vs (.slice D n d) := fun u hu g hg e => by
  obtain ⟨j, hj, rfl⟩ := List.mem_iff_getElem.1 hu
  have hm : j < m.length := by rw [← h.mat.len]; exact hj
  obtain ⟨A2, c2, e1, o1⟩ := h.mat.inner j _ (List.getElem?_eq_getElem hm)
  rw [List.getElem?_eq_getElem hj] at e1
  injection e1 with e1
  rw [e1] at hg
  have h3 := (o1.1.lt g hg).1
  have h4 := h.row.2 g e
  omega
theorem KB.push {w wr w5 : World} {xb hi n k c d q c2 g5 cap5 : Nat} {A A2 D : Option Addr} {m : List (List Int)} {vs : List Value} {bs row : List Int} {o : Obj} (h : KB w xb hi n k A c m vs D d bs wr) (hq : row.length = q) (ho : wr.ownsRow hi 2 1 (.slice A2 q c2) q (ints row))
    (h2 : w5.ownsRow (xb + 1) 25 1 (.slice (some ⟨g5, 0, none⟩) (k + 1) cap5) (k + 1) (vs ++ [.slice A2 q c2])) (hg : (wr.alloc o).grownBy w5 (Value.ownBlock (.slice A k c))) :
    KB w xb (w5.setCell ⟨xb, 0, none⟩ (.slice (some ⟨g5, 0, none⟩) (k + 1) cap5)).heap.size n (k + 1) (some ⟨g5, 0, none⟩) cap5 (m ++ [row]) (vs ++ [.slice A2 q c2]) D d bs (w5.setCell ⟨xb, 0, none⟩ (.slice (some ⟨g5, 0, none⟩) (k + 1) cap5)) := by
  have h1 := h.lo
  have h3 := h.mid
  have h4 := h.top
  have hz : wr.heap.size + 1 ≤ w5.heap.size := by have := hg.size; simpa using this
  have hs : (w5.setCell ⟨xb, 0, none⟩ (.slice (some ⟨g5, 0, none⟩) (k + 1) cap5)).heap.size = w5.heap.size := by simp [World.setCell]
  have hlow : ∀ g, g ≤ xb → w5.heap[g]? = wr.heap[g]? := fun g hg2 => by
    rw [hg.block g (by simp; omega) (fun e => by have := (h.mat.outer.1.lt g e.symm).1; omega), Below.heap_alloc _ _ _ (by omega)]
  have hP := h.mat.push h4 hq ho (by omega) h2 hg
  have hset : ∀ g, g ≠ xb → (w5.setCell ⟨xb, 0, none⟩ (.slice (some ⟨g5, 0, none⟩) (k + 1) cap5)).heap[g]? = w5.heap[g]? := fun g hg2 => Below.heap_setCell _ _ _ _ hg2
  have hb5 : Bx w5 xb 27 (.slice A k c) (.slice D n d) := (hlow xb (Nat.le_refl _)).trans h.box
  refine ⟨?_, (hset _ (by omega)).trans ((hlow _ (by omega)).trans h.res), ?_, h.row.keep (fun g a b => (hset g (by omega)).trans (hlow g (by omega))), h1, by rw [hs]; omega, Nat.le_refl _⟩
  · exact heap_setK hb5 _
  · rw [hs]; exact hP.keep (fun g a b => hset g (by omega))
theorem KB.put {w wr : World} {xb hi n k c d gb j : Nat} {A : Option Addr} {m : List (List Int)} {vs : List Value} {bs : List Int} (h : KB w xb hi n k A c m vs (some ⟨gb, 0, none⟩) d bs wr) (u : Int) : KB w xb hi n k A c m vs (some ⟨gb, 0, none⟩) d (bs.set j u) (wr.setCell ⟨gb, j, none⟩ (.int .i64 u)) := by
  have h1 := h.lo
  have h3 := h.mid
  have hgb := h.row.2 gb rfl
  have hgl := (h.row.1.lt gb rfl).1
  have hst := (h.row.1.stored j (.int .i64 u)).1
  have hs : (wr.setCell ⟨gb, j, none⟩ (.int .i64 u)).heap.size = wr.heap.size := by simp [World.setCell]
  have hset : ∀ g, g ≠ gb → (wr.setCell ⟨gb, j, none⟩ (.int .i64 u)).heap[g]? = wr.heap[g]? := fun g hg2 => Below.heap_setCell _ _ _ _ hg2
  refine ⟨(hset xb (by omega)).trans h.box, (hset _ (by omega)).trans h.res, h.mat.keep (fun g a b => hset g (by omega)), ⟨by rw [ints_put] at hst; exact hst, h.row.2⟩, h1, h3, by rw [hs]; exact h.top⟩
theorem KB.done {w wr : World} {xb hi n c d G B : Nat} {A D : Option Addr} {m : List (List Int)} {vs : List Value} {bs xs : List Int} {T : TypeId} (h : KB w xb hi n n A c m vs D d bs wr) (hn : 1 ≤ n ∧ n ≤ 8) (hw : Wide m n) (hb : bs.length = n) (s : Src wr T G B xs) (o : w.grownBy wr (some G)) (hB : B ≤ w.heap.size) (hG : G < w.heap.size) :
    DrawnTb T G B xs w (.returned (.agg #[.slice A n c, .slice D n d])) ((wr.setCell ⟨w.heap.size, 0, none⟩ (.slice A n c)).setCell ⟨w.heap.size, 1, none⟩ (.slice D n d)) ∧ Bx ((wr.setCell ⟨w.heap.size, 0, none⟩ (.slice A n c)).setCell ⟨w.heap.size, 1, none⟩ (.slice D n d)) w.heap.size 27 (.slice A n c) (.slice D n d) := by
  have h1 := h.lo
  have h3 := h.mid
  have h4 := h.top
  have hs : ((wr.setCell ⟨w.heap.size, 0, none⟩ (.slice A n c)).setCell ⟨w.heap.size, 1, none⟩ (.slice D n d)).heap.size = wr.heap.size := by simp [World.setCell]
  have hk : ∀ g, w.heap.size + 1 ≤ g → ((wr.setCell ⟨w.heap.size, 0, none⟩ (.slice A n c)).setCell ⟨w.heap.size, 1, none⟩ (.slice D n d)).heap[g]? = wr.heap[g]? := fun g hg => by
    rw [Below.heap_setCell _ _ _ _ (by show g ≠ w.heap.size; omega), Below.heap_setCell _ _ _ _ (by show g ≠ w.heap.size; omega)]
  refine ⟨⟨n, A, c, vs, m, D, d, bs, rfl, hn, ⟨h.mat.size, hb⟩, hw, ?_, ?_, h.apart, (s.put (g := w.heap.size) (by omega) hB).put (g := w.heap.size) (by omega) hB, only_put (g := w.heap.size) (only_put (g := w.heap.size) o (Nat.le_refl _)) (Nat.le_refl _)⟩, h.res.stored _ _⟩
  · exact (h.mat.keep (fun g a b => hk g (by omega))).more (by omega) (by omega)
  · exact (h.row.keep (fun g a b => hk g (by omega))).more (by omega) (by omega)
theorem KB.start {w w1 : World} {n d : Nat} {gb : Nat} {bs : List Int} {l : Obj} (h : w1.ownsRow (w.heap.size + 1) 2 1 (.slice (some ⟨gb, 0, none⟩) n d) n (ints bs)) (hr : Bx w1 w.heap.size 27 (.slice none 0 0) (.slice none 0 0)) :
    KB w w1.heap.size (w1.heap.size + 1) n 0 none 0 [] [] (some ⟨gb, 0, none⟩) d bs (w1.alloc (.cells #[.slice none 0 0, .slice (some ⟨gb, 0, none⟩) n d] 27)) := by
  have hb : Below w1.heap.size w1 (w1.alloc (.cells #[.slice none 0 0, .slice (some ⟨gb, 0, none⟩) n d] 27)) := (Below.refl _ _).alloc (Nat.le_refl _) _
  exact ⟨Bx.new _ _ _ _, hr.next hb, ownmat_nilK _ _ _, (OwnR.of h).below hb (Nat.le_refl _), hr.lt, by omega, by simp⟩
theorem Src.belowK {w w' : World} {T : TypeId} {G B lo : Nat} {xs : List Int} (s : Src w T G B xs) (hb : Below lo w w') (hG : G < lo) (hl : lo ≤ w.heap.size) : Src w' T G B xs := by
  obtain ⟨A, c, i, h, h1, h2, h3, h4, h5⟩ := s
  have hb2 : Below G w w' := ⟨hb.os, hb.tape, hb.output, hb.size, fun k hk => hb.block k (by omega)⟩
  exact ⟨A, c, i, h, (hb.block G hG).trans h1, h2, h3, h4.below hb2 h3, h5⟩
theorem grown_belowK {w a b : World} {G lo : Nat} (h : w.grownBy a (some G)) (k : Below lo a b) (hl : w.heap.size ≤ lo) : w.grownBy b (some G) :=
  ⟨k.os.trans h.os, k.tape.trans h.tape, k.output.trans h.output, Nat.le_trans h.size k.size, fun i hi hne => (k.block i (by omega)).trans (h.block i hi hne)⟩
theorem KB.below {w wr w5 : World} {xb hi n k c d : Nat} {A D : Option Addr} {m : List (List Int)} {vs : List Value} {bs : List Int} {o : Obj} (h : KB w xb hi n k A c m vs D d bs wr) (hg : (wr.alloc o).grownBy w5 (Value.ownBlock (.slice A k c))) : Below (xb + 1) wr w5 := by
  have h3 := h.mid
  have h4 := h.top
  exact ((Below.refl (xb + 1) wr).alloc (by omega) o).grown hg (by simp; omega) (fun q hq => (h.mat.outer.1.lt q hq).1)
/-- the twelve names -/
def NamesAt (w : World) (g : Nat) : Prop := ∃ vs : List Value, vs.length = 12 ∧ (∀ v ∈ vs, ∃ t, v = .string t) ∧ ∀ k v, vs[k]? = some v → w.cell? ⟨g, k, none⟩ = some v
theorem tableauNames_any (w : World) : Calls Tryz.prog 78 #[] w fun e w' => e = .returned (.slice (some ⟨w.heap.size, 0, none⟩) 12 12) ∧ NamesAt w' w.heap.size ∧ Below w.heap.size w w' ∧ w.heap.size < w'.heap.size := by
  go_enter Tryz.func78, Tryz.ntmps78
  go_wp2
  go_ret
  refine ⟨rfl, ⟨[.string ⟨#[101, 117, 108, 101, 114]⟩, .string ⟨#[103, 97, 117, 115, 115]⟩, .string ⟨#[104, 101, 117, 110]⟩, .string ⟨#[105, 109, 112, 108, 105, 99, 105, 116]⟩, .string ⟨#[107, 117, 116, 116, 97]⟩, .string ⟨#[108, 111, 98, 97, 116, 116, 111]⟩, .string ⟨#[109, 105, 100, 100, 108, 101]⟩, .string ⟨#[109, 105, 100, 112, 111, 105, 110, 116]⟩, .string ⟨#[114, 97, 100, 97, 117]⟩, .string ⟨#[114, 97, 108, 115, 116, 111, 110]⟩, .string ⟨#[114, 117, 110, 103, 101]⟩, .string ⟨#[116, 114, 97, 112, 101, 122, 111, 105, 100]⟩], rfl, by simp, ?_⟩, (Below.refl _ _).alloc (Nat.le_refl _) _, by simp⟩
  intro k v hv
  obtain ⟨b, o, e, _, hc⟩ := Row.new w 9 _ k v hv
  injection e with e
  injection e with e1 e2
  subst e1 e2
  simpa using hc
set_option maxHeartbeats 8000000 in
theorem l09Draw_any (G B : Nat) (xs : List Int) (most : Nat) (w : World) (h1 : 1 ≤ most) (h8 : most ≤ 8) (s : Src w 83 G B xs) :
    Calls Tryz.prog 48 #[.pointer (some ⟨G, 0, none⟩), .int .i64 most] w (DrawnTb 83 G B xs w) := by
  obtain ⟨i0, hi, hz0, hz1, hz2⟩ := info_parts info_i64
  obtain ⟨j0, hj, hy0, hy1, hy2⟩ := info_parts info_row
  have HG := s.lt
  have HBG := s.base
  have HS := Lib.hid (s.alloc (.cells #[.slice none 0 0, .slice none 0 0] 27))
  have HR : Hid (Bx (w.alloc (.cells #[.slice none 0 0, .slice none 0 0] 27)) w.heap.size 27 (.slice none 0 0) (.slice none 0 0)) := Bx.new _ _ _ _
  have HO : Hid (w.grownBy (w.alloc (.cells #[.slice none 0 0, .slice none 0 0] 27)) (some G)) := World.grownBy_alloc w _ _
  obtain ⟨W0, hW0⟩ : ∃ W0, W0 = w.alloc (.cells #[.slice none 0 0, .slice none 0 0] 27) := ⟨_, rfl⟩
  have z0 : W0.heap.size = w.heap.size + 1 := by rw [hW0]; simp
  rw [← hW0] at HS HR HO
  clear s
  go_enter Tryz.func48, Tryz.ntmps48
  go_upto_region 1 with fail
  go_cut [20] (fun v wx => ∃ b : Bool, v = .bool b ∧ Hid (Src wx 83 G B xs) ∧ Hid (Bx wx w.heap.size 27 (.slice none 0 0) (.slice none 0 0)) ∧ Hid (w.grownBy wx (some G)))
  case first =>
    by_cases h4 : (4 : Int) ≤ (most : Int)
    · go_wp2_with fail
      rw [← hW0]
      refine (l01Next_any G B xs _ _ (by omega) HS.out).mono ?_
      rintro e w2 ⟨r, rfl, r0, r1, s2, o2⟩
      have S2 := Lib.hid s2
      have R2 : Hid (Bx w2 w.heap.size 27 (.slice none 0 0) (.slice none 0 0)) := (o2.block _ HR.out.lt (fun e => by have := Option.some.inj e; omega)).trans HR.out
      have O2 := Lib.hid (only_trans HO.out o2)
      clear s2 o2
      go_wp2_with fail
      go_meet
      exact ⟨_, rfl, S2, R2, O2⟩
    · go_wp2_with fail
      go_meet
      exact ⟨_, rfl, by rw [← hW0]; exact HS, by rw [← hW0]; exact HR, by rw [← hW0]; exact HO⟩
  case rest =>
    obtain ⟨b, rfl, HS1, HR1, HO1⟩ := hcut
    have hsw := HO1.out.size
    cases b
    · clear HS HR HO
      go_wp2_with fail
      refine (l01Next_any G B xs _ _ (by omega) HS1.out).mono ?_
      rintro e w2 ⟨r, rfl, r0, r1, s2, o2⟩
      obtain ⟨N, hN⟩ : ∃ N : Nat, 1 + r = (N : Int) := ⟨(1 + r).toNat, by omega⟩
      have hN1 : 1 ≤ N := by omega
      have hN8 : N ≤ 8 := by omega
      have hNw : IntKind.i64.wrap (1 + r) = (N : Int) := by rw [hN]; exact IntWalk.i64_in _ (by omega)
      have S2 := Lib.hid s2
      have R2 : Hid (Bx w2 w.heap.size 27 (.slice none 0 0) (.slice none 0 0)) := (o2.block _ HR1.out.lt (fun e => by have := Option.some.inj e; omega)).trans HR1.out
      have O2 := Lib.hid (only_trans HO1.out o2)
      have hz2 := o2.size
      clear s2 o2 HS1 HR1 HO1
      go_wp2_with fail
      refine (l01Next_any G B xs _ _ (by omega) S2.out).mono ?_
      rintro e w3 ⟨q, rfl, q0, q1, s3, o3⟩
      have S3 := Lib.hid s3
      have R3 : Hid (Bx w3 w.heap.size 27 (.slice none 0 0) (.slice none 0 0)) := (o3.block _ R2.out.lt (fun e => by have := Option.some.inj e; omega)).trans R2.out
      have O3 := Lib.hid (only_trans O2.out o3)
      have hz3 := o3.size
      have z3 := R3.out.lt
      clear s3 o3 S2 R2 O2
      go_wp2_with fail
      try rw [hN]
      clear hN hNw r0 r1
      refine (l01List_any G B xs N _ (by omega) S3.out).mono ?_
      rintro e w4 ⟨gb, d, n', bs, rfl, hb, ⟨hb1, hbn⟩, own4, s4, o4⟩
      obtain rfl : n' = N := by omega
      have hz4 := o4.size
      have R4 : Hid (Bx w4 w.heap.size 27 (.slice none 0 0) (.slice none 0 0)) := (o4.block _ R3.out.lt (fun e => by have := Option.some.inj e; omega)).trans R3.out
      have K0 := Lib.hid (KB.start (w := w) (l := .cells #[] 0) (((OwnR.of own4).more (lo' := w.heap.size + 1) (by omega) (Nat.le_refl _)).1) R4.out)
      have O4 := Lib.hid (only_alloc (only_trans O3.out o4) (.cells #[.slice none 0 0, .slice (some ⟨gb, 0, none⟩) n' d] 27))
      have S4 := Lib.hid (s4.alloc (.cells #[.slice none 0 0, .slice (some ⟨gb, 0, none⟩) n' d] 27))
      have HB := Lib.hid hb
      have HBN := Lib.hid hbn
      clear own4 s4 o4 hb hbn hb1 R3 O3 S3 R4
      go_wp2_with fail
      obtain ⟨xb, hxb⟩ : ∃ xb, xb = w4.heap.size := ⟨_, rfl⟩
      rw [← hxb] at K0 ⊢
      clear hxb hsw hz2 hz3 z3 hz4
      go_loopw [9] (fun i wr => ∃ (k : Nat) (A : Option Addr) (c : Nat) (m : List (List Int)) (vs : List Value) (h : Nat), k ≤ n' ∧ i = .int .i64 k ∧ KB w xb h n' k A c m vs (some ⟨gb, 0, none⟩) d bs wr ∧ Wide m n' ∧ Src wr 83 G B xs ∧ w.grownBy wr (some G)) (fun i _ => n' - (intOf i).toNat)
      case atStart => exact ⟨0, none, 0, [], [], _, Nat.zero_le _, rfl, K0.out, fun _ h => by simp at h, S4.out, O4.out⟩
      case round =>
        obtain ⟨k, A, c, m, vs, h0, hk, rfl, hKB, hw, hs, ho⟩ := hrel
        have HK := Lib.hid hKB.up
        have HW := Lib.hid hw
        have HS := Lib.hid hs
        have HO := Lib.hid ho
        clear hKB hw hs ho K0 S4 O4
        generalize wr = wo at *
        have zlo := HK.out.lo
        have zmid := HK.out.mid
        by_cases hlt : k < n'
        · go_wp2_with fail
          refine (l01List_any G B xs n' _ (by omega) HS.out).mono ?_
          rintro e w5 ⟨g2, c2, n2, ys, rfl, hy, ⟨hy1, _⟩, own5, s5, o5⟩
          obtain rfl : n' = n2 := by omega
          have K5 := Lib.hid (HK.out.only o5 HG)
          have O5 := Lib.hid (only_trans HO.out o5)
          have S5 := Lib.hid s5
          have W5 := Lib.hid own5
          have Y5 := Lib.hid hy
          clear own5 s5 o5 hy hy1 HK HO HS
          go_wp2_with fail
          go_loopw [11] (fun i wj => ∃ (j : Nat) (ys : List Int), j ≤ n' ∧ i = .int .i64 j ∧ ys.length = n' ∧ wj.ownsRow wo.heap.size 2 1 (.slice (some ⟨g2, 0, none⟩) n' c2) n' (ints ys) ∧ KB w xb wo.heap.size n' k A c m vs (some ⟨gb, 0, none⟩) d bs wj ∧ Src wj 83 G B xs ∧ w.grownBy wj (some G)) (fun i _ => n' - (intOf i).toNat)
          case atStart => exact ⟨0, ys, Nat.zero_le _, rfl, Y5.out, W5.out, K5.out, S5.out, O5.out⟩
          case round =>
            obtain ⟨j, zs, hj2, rfl, hz, hown, hKB, hs, ho⟩ := hrel
            by_cases hjl : j < n'
            · obtain ⟨x, hx⟩ := at_lt (show j < zs.length by omega)
              have hf := hown.frozenAt j
              have hc := hown.cellAt j (by omega)
              rw [ints_at hx] at hc
              have hg2 := (hown.lt g2 rfl).1
              have HA : Hid (∃ (j' : Nat) (ys : List Int), j' = j + 1 ∧ ys.length = n' ∧ wr.ownsRow wo.heap.size 2 1 (.slice (some ⟨g2, 0, none⟩) n' c2) n' (ints ys) ∧ KB w xb wo.heap.size n' k A c m vs (some ⟨gb, 0, none⟩) d bs wr ∧ Src wr 83 G B xs ∧ w.grownBy wr (some G)) := ⟨j + 1, zs, rfl, hz, hown, hKB, hs, ho⟩
              have HZ : Hid (∃ (j' : Nat) (ys : List Int), j' = j + 1 ∧ ys.length = n' ∧ (wr.setCell ⟨g2, j, none⟩ (.int .i64 0)).ownsRow wo.heap.size 2 1 (.slice (some ⟨g2, 0, none⟩) n' c2) n' (ints ys) ∧ KB w xb wo.heap.size n' k A c m vs (some ⟨gb, 0, none⟩) d bs (wr.setCell ⟨g2, j, none⟩ (.int .i64 0)) ∧ Src (wr.setCell ⟨g2, j, none⟩ (.int .i64 0)) 83 G B xs ∧ w.grownBy (wr.setCell ⟨g2, j, none⟩ (.int .i64 0)) (some G)) :=
                ⟨j + 1, zs.set j 0, rfl, by rw [List.length_set]; exact hz, by have := (hown.stored j (.int .i64 0)).1; rw [ints_put] at this; exact this, hKB.keep (by simp [World.setCell]) (fun g a b => Below.heap_setCell _ _ _ _ (by show g ≠ g2; omega)), hs.put (g := g2) (by omega) (by omega), only_put (g := g2) ho (by omega)⟩
              have hsj : (j : Int) < (n' : Int) := by omega
              clear hx hown hKB hs ho hz K5 S5 W5 Y5 O5
              rcases (show (q = 0 ∧ k ≤ j) ∨ (q = 0 ∧ j < k) ∨ (q = 1 ∧ k < j) ∨ (q = 1 ∧ j ≤ k) ∨ q = 2 by omega) with ⟨rfl, h9⟩ | ⟨rfl, h9⟩ | ⟨rfl, h9⟩ | ⟨rfl, h9⟩ | rfl
              all_goals
                go_wp2
                go_roundw
                case rel =>
                  first
                    | (obtain ⟨j', ys', rfl, r1, r2, r3, r4, r5⟩ := HZ.out; exact ⟨j + 1, ys', by omega, by go_num, r1, r2, r3, r4, r5⟩)
                    | (obtain ⟨j', ys', rfl, r1, r2, r3, r4, r5⟩ := HA.out; exact ⟨j + 1, ys', by omega, by go_num, r1, r2, r3, r4, r5⟩)
                case measure => simp [intOf]; omega
            · obtain rfl : n' = j := by omega
              have HK6 := Lib.hid hKB
              have HS6 := Lib.hid hs
              have HO6 := Lib.hid ho
              have HW6 := Lib.hid hown
              have HZ6 := Lib.hid hz
              have hownO := hKB.mat.outer.1
              have hb0 := hKB.box
              have k0 := hb0.c0
              have hzo := hKB.top
              clear hKB hs ho hown hz K5 S5 W5 Y5 O5 hb0
              go_wp2_with (at_builtin; refine wpList_append_lies _ rfl (.tmp 73) (.tmp 75) 24 rfl (xb + 1) 25 j0 _ 1 24 Tryz.underlying24 hj hy0 hy1 hy2 rfl (by omega) (.slice A k c) k vs rfl (hownO.alloc _) ⟨wr.heap.size, 0, none⟩ 1 1 [.slice (some ⟨g2, 0, none⟩) n' c2] rfl rfl (World.news_of_block (cs := #[.slice (some ⟨g2, 0, none⟩) n' c2]) (heap_alloc_new _ _)) (by simp [Value.oneCell']) (by omega) (by simp only [maxLen]; omega) (by omega) (by simp; omega) (wr.heap.size + 1) (by simp) ?_; intro g5 cap5 w6 hown5 hgrow5 hat5 hlt5; have hBL := HK6.out.below hgrow5; have hb6 : Bx w6 xb 27 (.slice A k c) (.slice (some ⟨gb, 0, none⟩) n' d) := (hBL.block xb (by omega)).trans HK6.out.box; have k6 := hb6.c0; have f6 := hb6.free 0)
              have hzz := hBL.size
              have HKP := Lib.hid (HK6.out.push HZ6.out HW6.out hown5 hgrow5)
              have hBx : Below xb wr w6 := ⟨hBL.os, hBL.tape, hBL.output, hBL.size, fun i hi => hBL.block i (by omega)⟩
              have HBP : Hid (Below xb wr (w6.setCell ⟨xb, 0, none⟩ (.slice (some ⟨g5, 0, none⟩) (k + 1) cap5))) := hBx.setCell (p := ⟨xb, 0, none⟩) (Nat.le_refl _) _
              have HSP := Lib.hid (HS6.out.belowK HBP.out (by omega) (by omega))
              have HOP := Lib.hid (grown_belowK HO6.out HBP.out (by omega))
              clear hown5 hgrow5 hat5 hownO hb6 hBL hBx k0
              go_wp2
              go_roundw
              case rel => exact ⟨k + 1, _, _, _, _, _, by omega, by go_num, HKP.out, wide_push HW.out HZ6.out, HSP.out, HOP.out⟩
              case measure => simp [intOf]; omega
        · obtain rfl : n' = k := by omega
          go_wp2_with fail
          refine (l01Next_any G B xs _ _ (by omega) HS.out).mono ?_
          rintro e w5 ⟨r5, rfl, _, _, s5, o5⟩
          have K5 := Lib.hid (HK.out.only o5 HG)
          have O5 := Lib.hid (only_trans HO.out o5)
          have S5 := Lib.hid s5
          clear s5 o5 HK HO HS
          by_cases h5 : r5 = 0
          · have t5 := beq_t h5
            clear h5
            have b1 := K5.out.box.c1
            go_wp2_with fail
            go_loop [12, 13] (fun sv i => ∃ (j : Nat) (v : Int), 1 ≤ j ∧ sv = .int .i64 v ∧ 0 ≤ v ∧ v < 10007 ∧ i = .int .i64 j) (fun _ i => n' - (intOf i).toNat)
            case atStart => exact ⟨1, 0, by omega, rfl, by omega, by omega, rfl⟩
            case round =>
              obtain ⟨j, v, hj1, rfl, v0, v1, rfl⟩ := hrel
              by_cases hjl : j < n'
              · obtain ⟨y, hy⟩ := at_lt (show j < bs.length by rw [HB.out]; exact hjl)
                obtain ⟨y0, y1⟩ := num_at HBN.out hy
                have hc := K5.out.row.1.cellAt j (by omega)
                rw [ints_at hy] at hc
                have hjn : (j : Int) < (n' : Int) := by omega
                clear hy
                go_wp2_with fail
                refine (l01Add_any v y _ v0 v1 y0 y1).mono ?_
                rintro e w' ⟨rfl, rfl⟩
                obtain ⟨u, hu⟩ : ∃ u, u = (v + y) % 10007 := ⟨_, rfl⟩
                have u0 : 0 ≤ u := by omega
                have u1 : u < 10007 := by omega
                rw [← hu]
                clear hu
                go_wp2
                go_round
                case rel => exact ⟨j + 1, u, by omega, rfl, u0, u1, by go_num⟩
                case measure => simp [intOf]; omega
              · have hjn : ¬ (j : Int) < (n' : Int) := by omega
                obtain ⟨y, hy⟩ := at_lt (show 0 < bs.length by rw [HB.out]; omega)
                have hc := K5.out.row.1.cellAt 0 (by omega)
                rw [ints_at hy] at hc
                have hf := K5.out.row.1.frozenAt 0
                have CS := fun W => l01Sub_any 1 v W (by omega) (by omega) v0 v1
                clear hy
                go_wp2_with fail
                go_region_with (go_at_call 82; refine (CS _).mono ?_; rintro e w' ⟨rfl, rfl⟩)
                all_goals
                  obtain ⟨u, hu⟩ : ∃ u, u = (1 - v) % 10007 := ⟨_, rfl⟩
                  rw [← hu]
                  have hgb := (K5.out.row.1.lt gb rfl).1
                  have KP : KB w xb w5.heap.size n' n' A c m vs (some ⟨gb, 0, none⟩) d (bs.set 0 u) (w5.setCell ⟨gb, 0, none⟩ (.int .i64 u)).drew := (K5.out.up.put (j := 0) u).keep (Nat.le_refl _) (fun _ _ _ => rfl)
                  have SP : Src (w5.setCell ⟨gb, 0, none⟩ (.int .i64 u)).drew 83 G B xs := (S5.out.put (g := gb) (k := 0) (v := .int .i64 u) (by omega) (by omega)).belowK (lo := w.heap.size) (below_drewN (Below.refl _ _) 1) HG (by simp [World.setCell]; have := K5.out.top; have := K5.out.mid; have := K5.out.lo; omega)
                  have OP : w.grownBy (w5.setCell ⟨gb, 0, none⟩ (.int .i64 u)).drew (some G) := only_drewN (only_put (g := gb) (k := 0) (v := .int .i64 u) O5.out (by omega)) 1
                  obtain ⟨W6, hW6⟩ : ∃ W6, W6 = (w5.setCell ⟨gb, 0, none⟩ (.int .i64 u)).drew := ⟨_, rfl⟩
                  rw [← hW6] at KP SP OP ⊢
                  obtain ⟨hT, hX⟩ := KP.done (B := B) (G := G) (xs := xs) (T := 83) ⟨hN1, hN8⟩ HW.out (by rw [List.length_set]; exact HB.out) SP OP (by omega) HG
                  have HT := Lib.hid hT
                  have HX := Lib.hid hX
                  have x0 := KP.box.c0
                  have x1 := KP.box.c1
                  have y0 := KP.res.c0
                  have y1 := KP.res.c1
                  have f0 := KP.res.free 0
                  have f1 := KP.res.free 1
                  clear hT hX hW6 hu b1 hc hf CS KP SP OP
                  go_wp2
                  exact bodyPost_ret (v := .agg #[.slice A n' c, .slice (some ⟨gb, 0, none⟩) n' d]) (results_cell_row rfl _ _ w.heap.size 27 _ (0, 0) _ rfl HX.out Tryz.underlying27 rfl info_tb) rfl HT.out
          · have t5 := beq_f h5
            obtain ⟨hT, hX⟩ := K5.out.done (B := B) (G := G) (xs := xs) (T := 83) ⟨hN1, hN8⟩ HW.out HB.out S5.out O5.out (by omega) HG
            have HT := Lib.hid hT
            have HX := Lib.hid hX
            have b0 := K5.out.box.c0
            have b1 := K5.out.box.c1
            have q0 := K5.out.res.c0
            have q1 := K5.out.res.c1
            have f0 := K5.out.res.free 0
            have f1 := K5.out.res.free 1
            clear hT hX h5
            go_wp2
            exact bodyPost_ret (v := .agg #[.slice A n' c, .slice (some ⟨gb, 0, none⟩) n' d]) (results_cell_row rfl _ _ w.heap.size 27 _ (0, 0) _ rfl HX.out Tryz.underlying27 rfl info_tb) rfl HT.out
    · go_wp2_with fail
      refine (tableauNames_any _).mono ?_
      rintro e w2 ⟨rfl, ⟨vs, hvl, hvs, hvc⟩, b2, z2⟩
      have S2 := Lib.hid (HS1.out.below b2)
      have R2 := Lib.hid (HR1.out.next b2)
      have O2 := Lib.hid (only_below HO1.out b2)
      have HV := Lib.hid hvl
      have HVS := Lib.hid hvs
      have HVC := Lib.hid hvc
      clear hvl hvs hvc HS1 HR1 HO1 HS HR HO
      have hz2 := b2.size
      clear b2
      go_wp2_with fail
      refine (l01Next_any G B xs _ _ (by omega) S2.out).mono ?_
      rintro e w3 ⟨r, rfl, r0, r1, s3, o3⟩
      obtain ⟨rn, rfl⟩ : ∃ rn : Nat, r = (rn : Int) := ⟨r.toNat, by omega⟩
      obtain ⟨v, hv⟩ := at_lt (show rn < vs.length by rw [HV.out]; omega)
      obtain ⟨t, rfl⟩ := HVS.out v (List.mem_of_getElem? hv)
      have hc := o3.cell (a := ⟨wc.heap.size, rn, none⟩) (HVC.out rn _ hv) (fun e => by have := Option.some.inj e; simp at this; omega)
      have S3 := Lib.hid s3
      have R3 : Hid (Bx w3 w.heap.size 27 (.slice none 0 0) (.slice none 0 0)) := (o3.block _ R2.out.lt (fun e => by have := Option.some.inj e; omega)).trans R2.out
      have O3 := Lib.hid (only_trans O2.out o3)
      have hz3 := o3.size
      clear s3 o3 hv
      go_wp2_with fail
      refine (l09Named_any t w3).mono ?_
      rintro e w4 ⟨n, A, c, us, m, D, d, bs, rfl, hn, ⟨hml, hbl⟩, hw, own, ownB, hap, b4⟩
      have S4 := S3.out.below b4
      have R4 := R3.out.next b4
      have O4 := only_below O3.out b4
      have hz4 := b4.size
      have k0 := R4.c0
      have k1 := R4.c1
      have f0 := R4.free 0
      have f1 := R4.free 1
      obtain ⟨hT, hX⟩ : DrawnTb 83 G B xs w (.returned (.agg #[.slice A n c, .slice D n d])) ((w4.setCell ⟨w.heap.size, 0, none⟩ (.slice A n c)).setCell ⟨w.heap.size, 1, none⟩ (.slice D n d)) ∧ Bx ((w4.setCell ⟨w.heap.size, 0, none⟩ (.slice A n c)).setCell ⟨w.heap.size, 1, none⟩ (.slice D n d)) w.heap.size 27 (.slice A n c) (.slice D n d) := by
        have hs : ((w4.setCell ⟨w.heap.size, 0, none⟩ (.slice A n c)).setCell ⟨w.heap.size, 1, none⟩ (.slice D n d)).heap.size = w4.heap.size := by simp [World.setCell]
        have hk : ∀ g, w.heap.size + 1 ≤ g → ((w4.setCell ⟨w.heap.size, 0, none⟩ (.slice A n c)).setCell ⟨w.heap.size, 1, none⟩ (.slice D n d)).heap[g]? = w4.heap[g]? := fun g hg => by
          rw [Below.heap_setCell _ _ _ _ (by show g ≠ w.heap.size; omega), Below.heap_setCell _ _ _ _ (by show g ≠ w.heap.size; omega)]
        have hlt := R3.out.lt
        exact ⟨⟨n, A, c, us, m, D, d, bs, rfl, hn, ⟨hml, hbl⟩, hw, (own.keep (fun g a b => hk g (by omega))).more (by omega) (by omega), (ownB.keep (fun g a b => hk g (by omega))).more (by omega) (by omega), hap, (S4.put (g := w.heap.size) (by omega) (by omega)).put (g := w.heap.size) (by omega) (by omega), only_put (g := w.heap.size) (only_put (g := w.heap.size) O4 (Nat.le_refl _)) (Nat.le_refl _)⟩, R4.stored _ _⟩
      have HT := Lib.hid hT
      have HX := Lib.hid hX
      clear hT hX own ownB hap b4 S4 R4 O4 hw hml hbl hc
      go_wp2
      exact bodyPost_ret (v := .agg #[.slice A n c, .slice D n d]) (results_cell_row rfl _ _ w.heap.size 27 _ (0, 0) _ rfl HX.out Tryz.underlying27 rfl info_tb) rfl HT.out
end Go.Proofs.YtpngohklicgbjaaGreat
