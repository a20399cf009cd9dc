/-
  The model's tableau with its stages reordered.
-/
import Derived.Test.YtchimobmkmgkmaaTqZ
import Derived.Test.YtchimobmkmgkmaaTqT
namespace Go.Proofs.Ytchimobmkmgkmaa
open Go.RowKit Fld Ser
set_option linter.unusedVariables false
set_option linter.unusedSimpArgs false
set_option maxRecDepth 100000

/-- a tableau in box xb whose rows and whose list grow in blocks behind it, apart from each other -/
structure ZP (xb ka kb : Nat) (A : Option Addr) (c : Nat) (m : List (List Int)) (vs : List Value) (D : Option Addr) (d : Nat) (b : List Int) (wr : World) : Prop where
  box : Bx wr xb 27 (.slice A ka c) (.slice D kb d)
  mat : OwnMat wr (xb + 1) wr.heap.size (.slice A ka c) ka m vs
  row : OwnR wr (xb + 1) wr.heap.size 2 (.slice D kb d) kb (ints b)
  ap : ∀ u ∈ vs, ∀ g, u.ownBlock = some g → (Value.slice D kb d).ownBlock ≠ some g
theorem ZP.lt {xb ka kb c d : Nat} {A D : Option Addr} {m : List (List Int)} {vs : List Value} {b : List Int} {wr : World} (h : ZP xb ka kb A c m vs D d b wr) : xb < wr.heap.size := h.box.lt
theorem ZP.next {xb ka kb c d : Nat} {A D : Option Addr} {m : List (List Int)} {vs : List Value} {b : List Int} {wr w' : World} (h : ZP xb ka kb A c m vs D d b wr) (hb : Below wr.heap.size wr w') : ZP xb ka kb A c m vs D d b w' :=
  ⟨h.box.next hb, (h.mat.below hb (Nat.le_refl _)).more (Nat.le_refl _) hb.size, (h.row.below hb (Nat.le_refl _)).more (Nat.le_refl _) hb.size, h.ap⟩
theorem ZP.start (w : World) : ZP w.heap.size 0 0 none 0 [] [] none 0 [] (w.alloc (.cells #[.slice none 0 0, .slice none 0 0] 27)) :=
  ⟨Bx.new _ _ _ _, OwnMat.nil _ _ _, ⟨World.ownsRow_nil _ _ _ _, fun g hg => by simp [Value.ownBlock] at hg⟩, fun u hu => by cases hu⟩
/-- a new row behind the rows -/
theorem ZP.pushA {xb ka kb c d q c2 g5 cap5 lo : Nat} {A A2 D : Option Addr} {m : List (List Int)} {vs : List Value} {b row : List Int} {wr w5 : World} {o : Obj} (h : ZP xb ka kb A c m vs D d b wr) (hq : row.length = q) (ho : wr.ownsRow lo 2 1 (.slice A2 q c2) q (ints row)) (hlo : xb < lo) (hD : ∀ g, (Value.slice D kb d).ownBlock = some g → g < lo) (hap : ∀ u ∈ vs, ∀ g, u.ownBlock = some g → g < lo)
    (h2 : w5.ownsRow (xb + 1) 23 1 (.slice (some ⟨g5, 0, none⟩) (ka + 1) cap5) (ka + 1) (vs ++ [.slice A2 q c2])) (hg : (wr.alloc o).grownBy w5 (Value.ownBlock (.slice A ka c))) :
    ZP xb (ka + 1) kb (some ⟨g5, 0, none⟩) cap5 (m ++ [row]) (vs ++ [.slice A2 q c2]) D d b (w5.setCell ⟨xb, 0, none⟩ (.slice (some ⟨g5, 0, none⟩) (ka + 1) cap5)) ∧ Below xb wr (w5.setCell ⟨xb, 0, none⟩ (.slice (some ⟨g5, 0, none⟩) (ka + 1) cap5)) := by
  have h3 := h.lt
  have hz : wr.heap.size + 1 ≤ w5.heap.size := by have := hg.size; simpa using this
  have hs : (w5.setCell ⟨xb, 0, none⟩ (.slice (some ⟨g5, 0, none⟩) (ka + 1) cap5)).heap.size = w5.heap.size := by simp [World.setCell]
  have hal : Below wr.heap.size wr (wr.alloc o) := (Below.refl _ _).alloc (Nat.le_refl _) _
  have hlow : ∀ g, g ≤ xb → w5.heap[g]? = wr.heap[g]? := fun g hg2 => by
    rw [hg.block g (by simp; omega) (fun e => by have := (h.mat.outer.1.lt g e.symm).1; omega), Below.heap_alloc _ _ _ (by omega)]
  have hset : ∀ g, g ≠ xb → (w5.setCell ⟨xb, 0, none⟩ (.slice (some ⟨g5, 0, none⟩) (ka + 1) cap5)).heap[g]? = w5.heap[g]? := fun g hg2 => Below.heap_setCell _ _ _ _ hg2
  have hb5 : Bx w5 xb 27 (.slice A ka c) (.slice D kb d) := (hlow xb (Nat.le_refl _)).trans h.box
  have hm1 := h.mat.below hal (Nat.le_refl _)
  have hr1 := h.row.below hal (Nat.le_refl _)
  have ho1 : OwnR wr lo wr.heap.size 2 (.slice A2 q c2) q (ints row) := OwnR.of ho
  -- rows of the other type are left alone
  have hcar : ∀ (A9 : Option Addr) (q9 c9 : Nat) (r9 : List Int) (lo9 : Nat), OwnR wr lo9 wr.heap.size 2 (.slice A9 q9 c9) q9 (ints r9) → OwnR w5 lo9 wr.heap.size 2 (.slice A9 q9 c9) q9 (ints r9) := fun A9 q9 c9 r9 lo9 o9 =>
    (o9.below hal (Nat.le_refl _)).grown hg (own_types (o9.below hal (Nat.le_refl _)).1 hm1.outer.1 (by decide))
  have hM5 : OwnMat w5 (xb + 1) w5.heap.size (.slice (some ⟨g5, 0, none⟩) (ka + 1) cap5) (ka + 1) (m ++ [row]) (vs ++ [.slice A2 q c2]) := by
    subst hq
    refine ⟨OwnR.of h2, by simp [h.mat.len], ?_, ?_⟩
    · intro r rw_ hr
      rcases Nat.lt_or_ge r m.length with x | x
      · rw [List.getElem?_append_left x] at hr
        obtain ⟨A9, c9, e9, o9⟩ := h.mat.inner r rw_ hr
        exact ⟨A9, c9, by rw [List.getElem?_append_left (by rw [h.mat.len]; exact x)]; exact e9, (hcar _ _ _ _ _ o9).more (Nat.le_refl _) (by omega)⟩
      · rw [List.getElem?_append_right x] at hr
        have hx : r - m.length = 0 := by
          rcases Nat.eq_zero_or_pos (r - m.length) with y | y
          · exact y
          · rw [List.getElem?_eq_none (by simp; omega)] at hr; cases hr
        rw [hx] at hr
        simp at hr
        subst hr
        refine ⟨A2, c2, by rw [List.getElem?_append_right (by rw [h.mat.len]; exact x), h.mat.len, hx]; rfl, (hcar _ _ _ _ _ ho1).more (by omega) (by omega)⟩
    · intro r s u t g hne hu ht hb hb'
      have hnew : ∀ {v : Value}, v = Value.slice A2 row.length c2 → v.ownBlock = some g → lo ≤ g := fun e hv => by subst e; exact (ho.lt g hv).1
      have hidx : ∀ {p : Nat} {v : Value}, (vs ++ [Value.slice A2 row.length c2])[p]? = some v → (vs[p]? = some v ∧ p < vs.length) ∨ (v = Value.slice A2 row.length c2 ∧ p = vs.length) := fun {p v} hp => by
        rcases Nat.lt_or_ge p vs.length with x | x
        · rw [List.getElem?_append_left x] at hp; exact .inl ⟨hp, x⟩
        · rw [List.getElem?_append_right x] at hp
          have hx : p - vs.length = 0 := by
            rcases Nat.eq_zero_or_pos (p - vs.length) with y | y
            · exact y
            · rw [List.getElem?_eq_none (by simp; omega)] at hp; cases hp
          rw [hx] at hp
          simp at hp
          exact .inr ⟨hp.symm, by omega⟩
      rcases hidx hu with ⟨hu1, _⟩ | ⟨hu1, hp1⟩
      · rcases hidx ht with ⟨ht1, _⟩ | ⟨ht1, hp2⟩
        · exact h.mat.apart r s u t g hne hu1 ht1 hb hb'
        · have a1 := hap u (List.mem_of_getElem? hu1) g hb
          have a2 := hnew ht1 hb'
          omega
      · rcases hidx ht with ⟨ht1, _⟩ | ⟨ht1, hp2⟩
        · have a1 := hap t (List.mem_of_getElem? ht1) g hb'
          have a2 := hnew hu1 hb
          omega
        · omega
  have hR5 := (hcar D kb d b (xb + 1) h.row).more (Nat.le_refl (xb + 1)) (show wr.heap.size ≤ w5.heap.size by omega)
  refine ⟨⟨heap_setZ hb5 _, by rw [hs]; exact hM5.keep (fun g a b => hset g (by omega)), by rw [hs]; exact hR5.keep (fun g a b => hset g (by omega)), fun u hu g hg2 hD2 => ?_⟩, ⟨hg.os, hg.tape, hg.output, by rw [hs]; omega, fun g hlt => (hset g (by omega)).trans (hlow g (by omega))⟩⟩
  rcases List.mem_append.1 hu with hu | hu
  · exact h.ap u hu g hg2 hD2
  · simp at hu
    subst hu
    have a1 := (ho.lt g hg2).1
    have a2 := hD g hD2
    omega
/-- a number behind the list -/
theorem ZP.pushB {xb ka kb c d g5 cap5 : Nat} {A D : Option Addr} {m : List (List Int)} {vs : List Value} {b : List Int} {x : Int} {wr w5 : World} {o : Obj} (h : ZP xb ka kb A c m vs D d b wr)
    (h2 : w5.ownsRow (xb + 1) 2 1 (.slice (some ⟨g5, 0, none⟩) (kb + 1) cap5) (kb + 1) (ints (b ++ [x]))) (hg : (wr.alloc o).grownBy w5 (Value.ownBlock (.slice D kb d))) (hat : Value.ownBlock (.slice D kb d) = some g5 ∨ wr.heap.size ≤ g5) :
    ZP xb ka (kb + 1) A c m vs (some ⟨g5, 0, none⟩) cap5 (b ++ [x]) (w5.setCell ⟨xb, 1, none⟩ (.slice (some ⟨g5, 0, none⟩) (kb + 1) cap5)) ∧ Below xb wr (w5.setCell ⟨xb, 1, none⟩ (.slice (some ⟨g5, 0, none⟩) (kb + 1) cap5)) := by
  have h3 := h.lt
  have hz : wr.heap.size + 1 ≤ w5.heap.size := by have := hg.size; simpa using this
  have hs : (w5.setCell ⟨xb, 1, none⟩ (.slice (some ⟨g5, 0, none⟩) (kb + 1) cap5)).heap.size = w5.heap.size := by simp [World.setCell]
  have hal : Below wr.heap.size wr (wr.alloc o) := (Below.refl _ _).alloc (Nat.le_refl _) _
  have hlow : ∀ g, g ≤ xb → w5.heap[g]? = wr.heap[g]? := fun g hg2 => by
    rw [hg.block g (by simp; omega) (fun e => by have := (h.row.1.lt g e.symm).1; omega), Below.heap_alloc _ _ _ (by omega)]
  have hset : ∀ g, g ≠ xb → (w5.setCell ⟨xb, 1, none⟩ (.slice (some ⟨g5, 0, none⟩) (kb + 1) cap5)).heap[g]? = w5.heap[g]? := fun g hg2 => Below.heap_setCell _ _ _ _ hg2
  have hb5 : Bx w5 xb 27 (.slice A ka c) (.slice D kb d) := (hlow xb (Nat.le_refl _)).trans h.box
  have hm1 := h.mat.below hal (Nat.le_refl _)
  have hr1 := h.row.below hal (Nat.le_refl _)
  have hM5 : OwnMat w5 (xb + 1) w5.heap.size (.slice A ka c) ka m vs := by
    refine OwnMat.more (lo := xb + 1) (hi := wr.heap.size) ⟨hm1.outer.grown hg (own_types hm1.outer.1 hr1.1 (by decide)), hm1.len, fun r row hr => ?_, hm1.apart⟩ (Nat.le_refl _) (by omega)
    obtain ⟨A9, c9, e9, o9⟩ := hm1.inner r row hr
    refine ⟨A9, c9, e9, o9.grown hg ?_⟩
    cases hob : (Value.slice A9 row.length c9).ownBlock with
    | none => exact .inl rfl
    | some q => exact .inr (fun e => h.ap _ (List.mem_of_getElem? e9) q hob e.symm)
  refine ⟨⟨heap_setZ hb5 _, by rw [hs]; exact hM5.keep (fun g a b => hset g (by omega)), by rw [hs]; exact (OwnR.of h2).keep (fun g a b => hset g (by omega)), fun u hu g hg2 hD2 => ?_⟩, ⟨hg.os, hg.tape, hg.output, by rw [hs]; omega, fun g hlt => (hset g (by omega)).trans (hlow g (by omega))⟩⟩
  have e5 : g5 = g := Option.some.inj hD2
  rcases hat with hat | hat
  · exact h.ap u hu g hg2 (by rw [hat, e5])
  · obtain ⟨p, hp⟩ := List.mem_iff_getElem?.1 hu
    have hpm : p < m.length := by rw [← h.mat.len]; exact (List.getElem?_eq_some_iff.1 hp).1
    obtain ⟨A9, c9, e9, o9⟩ := h.mat.inner p _ (List.getElem?_eq_getElem hpm)
    rw [hp] at e9
    injection e9 with e9
    rw [e9] at hg2
    have := o9.2 g hg2
    omega
theorem ZP.rows_lt {xb ka kb c d : Nat} {A D : Option Addr} {m : List (List Int)} {vs : List Value} {b : List Int} {wr : World} (h : ZP xb ka kb A c m vs D d b wr) : ∀ u ∈ vs, ∀ g, u.ownBlock = some g → g < wr.heap.size := fun u hu g hg => by
  obtain ⟨p, hp⟩ := List.mem_iff_getElem?.1 hu
  have hpm : p < m.length := by rw [← h.mat.len]; exact (List.getElem?_eq_some_iff.1 hp).1
  obtain ⟨A9, c9, e9, o9⟩ := h.mat.inner p _ (List.getElem?_eq_getElem hpm)
  rw [hp] at e9
  injection e9 with e9
  rw [e9] at hg
  exact o9.2 g hg
theorem ints_snocP (b : List Int) (x : Int) : ints b ++ [.int .i64 x] = ints (b ++ [x]) := by simp [ints, intsK]
theorem take_snoc {α : Type} {l : List α} {k : Nat} {x : α} (h : l[k]? = some x) : l.take (k + 1) = l.take k ++ [x] := by rw [List.take_add_one, h]; rfl
set_option maxHeartbeats 8000000 in
theorem l10Permute_any (A D S : Option Addr) (n c d q cs B B' Bs : Nat) (m : List (List Int)) (b : List Int) (is : List Nat) (w : World) (hok : SchOk m b n) (hn : n ≤ 8) (hq : is.length = q) (hq8 : q ≤ 8) (hi : ∀ i ∈ is, i < n) (hB : B ≤ w.heap.size) (hB' : B' ≤ w.heap.size) (hBs : Bs ≤ w.heap.size) (h : Mat w B A m) (r : Row w B' D (ints b)) (hs : Row w Bs S (ints (idx is))) :
    Calls Try.prog 70 #[.agg #[.slice A n c, .slice D n d], .slice S q cs] w (NewF q q (takeM is m) (takeL is b) w) := by
  obtain ⟨i0, hi0, hz0, hz1, hz2⟩ := info_parts info_i64
  obtain ⟨j0, hj, hy0, hy1, hy2⟩ := info_parts info_row
  have HOK := Lib.hid hok
  have HQ := Lib.hid hq
  have HI := Lib.hid hi
  obtain ⟨Wz, hWz⟩ : ∃ W, W = ((w.alloc (.cells #[.slice A n c, .slice D n d] 27)).alloc (.cells #[.slice none 0 0, .slice none 0 0] 27)).alloc (.cells #[.slice none 0 0, .slice none 0 0] 27) := ⟨_, rfl⟩
  have B1 : Below w.heap.size w (w.alloc (.cells #[.slice A n c, .slice D n d] 27)) := (Below.refl _ _).alloc (Nat.le_refl _) _
  have FB : Below w.heap.size w Wz := by rw [hWz]; exact (B1.alloc (by simp) _).alloc (by simp; omega) _
  have FS : Wz.heap.size = w.heap.size + 3 := by rw [hWz]; simp
  have F1 : Bx Wz w.heap.size 27 (.slice A n c) (.slice D n d) := by
    rw [hWz]; exact ((Bx.new w _ _ _).next ((Below.refl _ _).alloc (Nat.le_refl _) _)).next ((Below.refl _ _).alloc (Nat.le_refl _) _)
  have F2 : Bx Wz (w.heap.size + 1) 27 (.slice none 0 0) (.slice none 0 0) := by
    rw [hWz]; refine Bx.next ?_ ((Below.refl _ _).alloc (Nat.le_refl _) _)
    have := Bx.new (w.alloc (.cells #[.slice A n c, .slice D n d] 27)) 27 (.slice none 0 0) (.slice none 0 0); simpa using this
  have Z0 : Hid (ZP (w.heap.size + 2) 0 0 none 0 ((takeM is m).take 0) [] none 0 ((takeL is b).take 0) Wz) := by
    rw [hWz]; have := ZP.start ((w.alloc (.cells #[.slice A n c, .slice D n d] 27)).alloc (.cells #[.slice none 0 0, .slice none 0 0] 27)); simp at this; exact this
  obtain ⟨zb, hzb⟩ : ∃ zb, zb = w.heap.size + 2 := ⟨_, rfl⟩
  have HM := Lib.hid (h.below FB hB)
  have HR := Lib.hid (r.below FB hB')
  have HSR := Lib.hid (hs.below FB hBs)
  have HX1 := Lib.hid F1
  have HX2 := Lib.hid F2
  have HB := Lib.hid FB
  have HS := Lib.hid FS
  have hs0 : B ≤ w.heap.size := hB
  clear hok hq hi h r hs F1 F2 FB B1
  go_enter Try.func70, Try.ntmps70
  go_wp2_with fail
  rw [← hWz]
  clear hWz
  rw [← hzb] at Z0
  rw [show w.heap.size + 1 + 1 = zb from by omega]
  have HZB := Lib.hid hzb
  have hzb1 : w.heap.size + 2 ≤ zb := by omega
  have hzb2 : zb ≤ w.heap.size + 2 := by omega
  clear hzb
  go_loopw [6] (fun i wr => ∃ (k : Nat) (A9 : Option Addr) (c9 : Nat) (vs : List Value) (D9 : Option Addr) (d9 : Nat), k ≤ q ∧ i = .int .i64 k ∧ Hid (ZP zb k k A9 c9 ((takeM is m).take k) vs D9 d9 ((takeL is b).take k) wr) ∧ Hid (Below zb Wz wr)) (fun i _ => q - (intOf i).toNat)
  case atStart => exact ⟨0, none, 0, [], none, 0, Nat.zero_le _, rfl, Z0, Below.refl _ _⟩
  case round =>
    obtain ⟨k, A9, c9, vs, D9, d9, hk, rfl, HZ, HBe⟩ := hrel
    clear Z0
    by_cases hlt : k < q
    · obtain ⟨i, hik⟩ := at_lt (show k < is.length by rw [HQ.out]; exact hlt)
      have hin := HI.out i (List.mem_of_getElem? hik)
      obtain ⟨r, hr, hrn, hrnum⟩ := HOK.out.at_ hin
      have hzl := HZ.out.lt
      have HBwo : Hid (∀ V, Below wr.heap.size wr V → Below zb Wz V) := fun V hV => HBe.out.trans (hV.mono (by omega))
      obtain ⟨b2, o2, Ak, ck, rfl, hb2, hcA, hlc, hcm, hrow⟩ := HM.out.below HBe.out (by omega) i r hr
      rw [hrn] at hcA hlc
      obtain ⟨bs, os, rfl, hbs, hcs⟩ := HSR.out.below HBe.out (by omega) k _ (ints_at (idx_at hik))
      have HRM := Lib.hid (take_snoc (takeM_at hik hr))
      have HRB : Hid (∃ x, b[i]? = some x ∧ (takeL is b).take (k + 1) = (takeL is b).take k ++ [x]) := by
        obtain ⟨x, hx⟩ := at_lt (show i < b.length by rw [HOK.out.lenb]; exact hin)
        exact ⟨x, hx, take_snoc (takeL_at hik hx)⟩
      have HRN := Lib.hid hrn
      have HIK := Lib.hid hik
      have HCS : Hid (∀ V, Below wr.heap.size wr V → V.cell? ⟨bs, os + k, none⟩ = some (.int .i64 i)) := fun V hV => (hV.cell (p := ⟨bs, os + k, none⟩) (lt_of_cell hcs)).trans hcs
      have HCA : Hid (∀ V, Below wr.heap.size wr V → V.cell? ⟨b2, o2 + i, none⟩ = some (.slice Ak n ck)) := fun V hV => (hV.cell (p := ⟨b2, o2 + i, none⟩) (lt_of_cell hcA)).trans hcA
      have HCX : Hid (∀ V, Below wr.heap.size wr V → V.cell? ⟨w.heap.size, 0, none⟩ = some (.slice (some ⟨b2, o2, none⟩) n c) ∧ V.cell? ⟨w.heap.size, 1, none⟩ = some (.slice D n d)) := fun V hV => by
        have hx : Bx V w.heap.size 27 (.slice (some ⟨b2, o2, none⟩) n c) (.slice D n d) := HX1.out.below (HBwo.out V hV) (by omega)
        exact ⟨hx.c0, hx.c1⟩
      have HRW := Lib.hid hrow
      have HAL : Hid ((takeL is r).length = q) := (takeL_length is r).trans HQ.out
      have hi0I : (0 : Int) ≤ (i : Int) := Int.natCast_nonneg _
      have hinI : (i : Int) < (n : Int) := by omega
      have hkI : (k : Int) < (q : Int) := by omega
      clear hr hrn hrnum hik hcA hcs hrow
      obtain ⟨wo, rfl⟩ : ∃ wo, wo = wr := ⟨_, rfl⟩
      go_wp2_with fail
      go_loopw [7, 8] (fun v jj wr => ∃ j g cap : Nat, j ≤ q ∧ v = .slice (some ⟨g, 0, none⟩) j cap ∧ jj = .int .i64 j ∧ Growing wo 2 g j cap (ints ((takeL is r).take j)) wr) (fun _ jj _ => q - (intOf jj).toNat)
      case atStart => exact ⟨0, _, 0, Nat.zero_le _, rfl, rfl, Growing.start ..⟩
      case round =>
        obtain ⟨j, g, cap, hj2, rfl, rfl, HF⟩ := hrel
        by_cases hlt2 : j < q
        · obtain ⟨i2, hik2⟩ := at_lt (show j < is.length by rw [HQ.out]; exact hlt2)
          have hin2 := HI.out i2 (List.mem_of_getElem? hik2)
          obtain ⟨x, hx⟩ := at_lt (show i2 < r.length by rw [HRN.out]; exact hin2)
          obtain ⟨b3, o3, rfl, _, hc3⟩ := HRW.out.below HF.2 (by have := HBwo.out wo (Below.refl _ _); have := this.size; omega) i2 _ (ints_at hx)
          obtain ⟨b4, o4, e4, _, hc4⟩ := HSR.out.below (HBwo.out wr HF.2) (by omega) j _ (ints_at (idx_at hik2))
          injection e4 with e4
          injection e4 with e4 e5
          subst e4 e5
          have q0 := (HCX.out wr HF.2).1
          have q1 := HCS.out wr HF.2
          have q2 := HCA.out wr HF.2
          have HC := Lib.hid (grow_ints (takeL_at hik2 hx))
          have hsz := HF.2.size
          have HOO : Hid (∀ V, Below wr.heap.size wr V → V.ownsRow wo.heap.size 2 1 (.slice (some ⟨g, 0, none⟩) j cap) j (ints ((takeL is r).take j))) := fun V hV => ((OwnR.of HF.1).below hV (Nat.le_refl _)).1
          have HF' := Lib.hid HF
          have h0I2 : (0 : Int) ≤ (i2 : Int) := Int.natCast_nonneg _
          have hnI2 : (i2 : Int) < (n : Int) := by omega
          have hjI : (j : Int) < (q : Int) := by omega
          clear hik2 hx HF
          go_wp2_with fail
          go_region_law (refine step_append_lies _ (by rfl) _ _ _ (by rfl) wo.heap.size 2 i0 _ 1 8 Try.underlying23 hi0 hz0 hz1 hz2 rfl (by omega) (.slice (some ⟨g, 0, none⟩) j cap) j (ints ((takeL is r).take j)) (by rfl) (HOO.out _ (by first | exact (Below.refl _ _).drew.alloc (Nat.le_refl _) _ | exact (below_drewN (Below.refl _ _) _).alloc (Nat.le_refl _) _)) ⟨wr.heap.size, 0, none⟩ 1 1 [.int .i64 x] (by rfl) (by rfl) (World.news_of_block (cs := #[.int .i64 x]) (heap_alloc_new _ _)) (by simp [Value.oneCell']) (by omega) (by simp only [maxLen]; omega) (by omega) (by simp; omega) (wr.heap.size + 1) (by simp) ?_; intro g3 cap3 w3 hown3 hgrow3 hat3 hlt3)
          all_goals
            rw [HC.out] at hown3
            have hg9 : (wr.alloc (.cells #[.int .i64 x] 2)).grownBy w3 (Value.ownBlock (.slice (some ⟨g, 0, none⟩) j cap)) := ⟨hgrow3.os, hgrow3.tape, hgrow3.output, hgrow3.size, hgrow3.block⟩
            have G := Lib.hid (HF'.out.step ((Below.refl _ _).alloc (Nat.le_refl _) _) hown3 hg9)
            clear hown3 hgrow3 hat3 hg9
            go_wp2
            go_roundw
            case rel => exact ⟨j + 1, _, _, by omega, rfl, by go_num, G.out⟩
            case measure => simp [intOf]; omega
        · obtain rfl : j = q := by omega
          have eall : (takeL is r).take j = takeL is r := List.take_of_length_le (by rw [HAL.out]; exact Nat.le_refl _)
          rw [eall] at HF
          have hsz := HF.2.size
          have HZ1 := Lib.hid (HZ.out.next HF.2)
          have HB1 := Lib.hid HF.2
          have HO1 := Lib.hid HF.1
          have z0 := HZ1.out.box.c0
          have hownO := HZ1.out.mat.outer.1
          have hne3 : some (Addr.block ⟨zb, 0, none⟩) ≠ Value.ownBlock (.slice A9 k c9) := fun e => by have h9 := (hownO.lt zb e.symm).1; omega
          have hcc : Hid (k ≤ c9) := (own_cap hownO).1
          clear HF eall
          go_wp2_with (at_builtin; refine wpList_append_lies _ rfl (.tmp 41) (.tmp 43) 22 rfl (zb + 1) 23 j0 _ 1 24 Try.underlying22 hj hy0 hy1 hy2 rfl (by omega) (.slice A9 k c9) k vs rfl (hownO.alloc _) ⟨wr.heap.size, 0, none⟩ 1 1 [.slice (some ⟨g, 0, none⟩) j cap] rfl rfl (World.news_of_block (cs := #[.slice (some ⟨g, 0, none⟩) j cap]) (heap_alloc_new _ _)) (by simp [Value.oneCell']) (by omega) (by simp only [maxLen]; omega) (by omega) (by have := HZ1.out.lt; simp; omega) (wr.heap.size + 1) (by simp) ?_; intro g5 cap5 w5 hown5 hgrow5 hat5 hlt5; have y9 : w5.cell? ⟨zb, 0, none⟩ = some (.slice A9 k c9) := hgrow5.cell ((HZ1.out.next ((Below.refl _ _).alloc (Nat.le_refl _) _)).box.c0) hne3; have f9 : w5.frozen? ⟨zb, 0, none⟩ = false := (World.frozen?_of_block (a := ⟨zb, 0, none⟩) (hgrow5.block zb (by have := HZ1.out.lt; simp; omega) hne3)).trans ((HZ1.out.next ((Below.refl _ _).alloc (Nat.le_refl _) _)).box.free 0))
          obtain ⟨hP, hL⟩ := ZP.pushA (lo := wo.heap.size) (row := takeL is r) HZ1.out HAL.out HO1.out (by omega) (fun g hg => HZ.out.row.2 g hg) HZ.out.rows_lt hown5 hgrow5
          rw [← HRM.out] at hP
          have hB6 := HBwo.out wr HB1.out
          have hB7 : Below zb Wz (w5.setCell ⟨zb, 0, none⟩ (.slice (some ⟨g5, 0, none⟩) (k + 1) cap5)) := hB6.trans (hL.mono (by have := hB6.size; omega))
          obtain ⟨W6, hW6⟩ : ∃ W6, W6 = w5.setCell ⟨zb, 0, none⟩ (.slice (some ⟨g5, 0, none⟩) (k + 1) cap5) := ⟨_, rfl⟩
          rw [← hW6] at hP hB7 ⊢
          have HZ6 := Lib.hid hP
          have HB6 := Lib.hid hB7
          obtain ⟨x, hx, hxs⟩ := HRB.out
          have HXS := Lib.hid hxs
          obtain ⟨b5, o5, rfl, _, hc5⟩ := HR.out.below hB7 (by omega) i _ (ints_at hx)
          obtain ⟨b4, o4, e4, _, hc4⟩ := HSR.out.below hB7 (by omega) k _ (ints_at (idx_at HIK.out))
          injection e4 with e4
          injection e4 with e4 e5
          subst e4 e5
          have hx6 : Bx W6 w.heap.size 27 (.slice (some ⟨b2, o2, none⟩) n c) (.slice (some ⟨b5, o5, none⟩) n d) := HX1.out.below hB7 (by omega)
          have q0 := hx6.c1
          have z1 := HZ6.out.box.c1
          have z2 : ∀ ob, (W6.alloc ob).cell? ⟨zb, 1, none⟩ = some (.slice D9 k d9) := fun ob => (HZ6.out.next ((Below.refl _ _).alloc (Nat.le_refl _) ob)).box.c1
          have z3 : ∀ ob, (W6.drew.alloc ob).cell? ⟨zb, 1, none⟩ = some (.slice D9 k d9) := fun ob => (HZ6.out.next ((Below.refl _ _).drew.alloc (Nat.le_refl _) ob)).box.c1
          have HOO : Hid (∀ V, Below W6.heap.size W6 V → V.ownsRow (zb + 1) 2 1 (.slice D9 k d9) k (ints ((takeL is b).take k))) := fun V hV => (HZ6.out.next hV).row.1
          have hne4 : some (Addr.block ⟨zb, 1, none⟩) ≠ Value.ownBlock (.slice D9 k d9) := fun e => by have h9 := ((HOO.out W6 (Below.refl _ _)).lt zb e.symm).1; omega
          have HF9 : Hid (∀ V V', Below W6.heap.size W6 V → V.grownBy V' (Value.ownBlock (.slice D9 k d9)) → V'.cell? ⟨zb, 1, none⟩ = some (.slice D9 k d9) ∧ V'.frozen? ⟨zb, 1, none⟩ = false) := fun V V' hV hg => by
            have hbx := (HZ6.out.next hV).box
            exact ⟨hg.cell hbx.c1 hne4, (World.frozen?_of_block (a := ⟨zb, 1, none⟩) (hg.block zb hbx.lt hne4)).trans (hbx.free 1)⟩
          have hdd : Hid (k ≤ d9) := (own_cap HZ6.out.row.1).1
          have hdk : k + 1 ≤ 9 := by omega
          have hz6 := HZ6.out.lt
          clear hP hL hB7 hB6 hW6 hown5 hgrow5 hat5 y9 f9 hx hxs hx6 z0 hne3 hownO
          go_region_law (refine step_append_lies _ (by rfl) _ _ _ (by rfl) (zb + 1) 2 i0 _ 1 8 Try.underlying23 hi0 hz0 hz1 hz2 rfl (by omega) (.slice D9 k d9) k (ints ((takeL is b).take k)) (by rfl) (HOO.out _ (by first | exact (Below.refl _ _).drew.alloc (Nat.le_refl _) _ | exact (below_drewN (Below.refl _ _) _).alloc (Nat.le_refl _) _)) ⟨W6.heap.size, 0, none⟩ 1 1 [.int .i64 x] (by rfl) (by rfl) (World.news_of_block (cs := #[.int .i64 x]) (heap_alloc_new _ _)) (by simp [Value.oneCell']) (by omega) (by simp only [maxLen]; omega) (by omega) (by simp; omega) (W6.heap.size + 1) (by simp) ?_; intro g7 cap7 w7 hown7 hgrow7 hat7 hlt7; have y79 := HF9.out _ _ (by first | exact (Below.refl _ _).drew.alloc (Nat.le_refl _) _ | exact (below_drewN (Below.refl _ _) _).alloc (Nat.le_refl _) _) hgrow7; have y7 := y79.1; have f7 := y79.2; clear y79)
          all_goals
            rw [ints_snocP, ← HXS.out] at hown7
            have hg9 : (W6.alloc (.cells #[.int .i64 x] 2)).grownBy w7 (Value.ownBlock (.slice D9 k d9)) := ⟨hgrow7.os, hgrow7.tape, hgrow7.output, hgrow7.size, hgrow7.block⟩
            rw [HXS.out] at hown7
            obtain ⟨hP, hL⟩ := ZP.pushB HZ6.out hown7 hg9 (hat7.imp id (fun e => by omega))
            rw [← HXS.out] at hP
            have GB : Hid (Below zb Wz (w7.setCell ⟨zb, 1, none⟩ (.slice (some ⟨g7, 0, none⟩) (k + 1) cap7))) := HB6.out.trans (hL.mono (by omega))
            have GP := Lib.hid hP
            obtain ⟨W9, hW9⟩ : ∃ W9, W9 = w7.setCell ⟨zb, 1, none⟩ (.slice (some ⟨g7, 0, none⟩) (k + 1) cap7) := ⟨_, rfl⟩
            rw [← hW9] at GB GP ⊢
            clear hg9 hP hL hW9 hown7 hgrow7 hat7 y7 f7 q0 z1 z2 z3
            go_wp2
            go_roundw
            case rel => exact ⟨k + 1, _, _, _, _, _, by omega, by go_num, GP, GB⟩
            case measure => simp [intOf]; omega
    · obtain rfl : k = q := by omega
      have hallA : (takeM is m).take k = takeM is m := List.take_of_length_le (by rw [takeM_length, HQ.out]; exact Nat.le_refl _)
      have hallB : (takeL is b).take k = takeL is b := List.take_of_length_le (by rw [takeL_length, HQ.out]; exact Nat.le_refl _)
      have hZ := HZ.out
      rw [hallA, hallB] at hZ
      have hc9 := (own_cap hZ.mat.outer.1).1
      have hd9 := (own_cap hZ.row.1).1
      have z0 := hZ.box.c0
      have z1 := hZ.box.c1
      have x2 : Bx wr (w.heap.size + 1) 27 (.slice none 0 0) (.slice none 0 0) := HX2.out.below HBe.out (by omega)
      have r0 := x2.c0
      have r1 := x2.c1
      have f0 := x2.free 0
      have f1 := x2.free 1
      have HXX := Lib.hid x2
      have M9 := Lib.hid (MatF.of_mat hZ.mat)
      have R9 := Lib.hid (RowF.of_own hZ.row.1)
      have B9 : Hid (Below w.heap.size w wr) := HB.out.trans (HBe.out.mono (by omega))
      clear hZ x2 hallA hallB
      go_wp2
      obtain ⟨hx7, hn7⟩ := NewF.put (w := w) (n := k) (n' := k) (c := c9) (d := d9) HXX.out (by omega) (by omega) hc9 hd9 M9.out R9.out B9.out
      exact bodyPost_ret (v := .agg #[.slice A9 k c9, .slice D9 k d9]) (results_cell_row rfl _ _ (w.heap.size + 1) 27 _ (0, 0) _ rfl hx7 Try.underlying27 rfl info_tabR) rfl hn7
end Go.Proofs.Ytchimobmkmgkmaa
