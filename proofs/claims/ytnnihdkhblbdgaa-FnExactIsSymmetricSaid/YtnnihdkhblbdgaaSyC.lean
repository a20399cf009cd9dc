/-
  The closures that fill grids, the program's sides of the conditions and its search for a fault.
-/
import Derived.Test.YtnnihdkhblbdgaaSyG
import Derived.Test.YtnnihdkhblbdgaaTabS
import Derived.Test.YtnnihdkhblbdgaaResBI
import Derived.BigQuiet
namespace Go.Proofs.Ytnnihdkhblbdgaa
open Go.RowKit Fld
set_option linter.unusedVariables false
set_option linter.unusedSimpArgs false
set_option maxRecDepth 100000

/-- a scheme in its box, with numbers -/
structure SchB (w : World) (kb n : Nat) (m : List (List Int)) (b : List Int) (A D : Option Addr) (c d B B' : Nat) : Prop where
  box : Bx w kb 60 (.slice A n c) (.slice D n d)
  mat : Mat w B A m
  row : Row w B' D (ints b)
structure TbOk (n : Nat) (m : List (List Int)) (b : List Int) : Prop where
  len : m.length = n
  len' : b.length = n
  le : n ≤ 8
  wide : Wide m n
  num : ∀ r ∈ m, allNum r = true
  num' : allNum b = true
theorem SchB.next {w w' : World} {kb n : Nat} {m : List (List Int)} {b : List Int} {A D : Option Addr} {c d B B' : Nat} (h : SchB w kb n m b A D c d B B') (hb : Below w.heap.size w w') (h1 : B ≤ w.heap.size) (h2 : B' ≤ w.heap.size) : SchB w' kb n m b A D c d B B' :=
  ⟨h.box.next hb, h.mat.below hb h1, h.row.below hb h2⟩
/-- one number of the tableau -/
theorem SchB.ent {w : World} {kb n : Nat} {m : List (List Int)} {b : List Int} {A D : Option Addr} {c d B B' : Nat} (h : SchB w kb n m b A D c d B B') (ok : TbOk n m b) {i k : Nat} (hi : i < n) (hk : k < n) :
    ∃ r x ba oa Ai ci bx ox, m[i]? = some r ∧ r[k]? = some x ∧ A = some ⟨ba, oa, none⟩ ∧ w.cell? ⟨ba, oa + i, none⟩ = some (.slice Ai n ci) ∧ Ai = some ⟨bx, ox, none⟩ ∧ w.cell? ⟨bx, ox + k, none⟩ = some (.int .i64 x) ∧ 0 ≤ x ∧ x < 10007 ∧ ent m i k = x := by
  obtain ⟨ri, hri⟩ := at_lt (show i < m.length by rw [ok.len]; exact hi)
  obtain ⟨x, hx⟩ := at_lt (show k < ri.length by rw [ok.wide.at_ hri]; exact hk)
  obtain ⟨x0, x1⟩ := num_at (ok.num ri (List.mem_of_getElem? hri)) hx
  obtain ⟨bi, oi, Ai, ci, eA, _, hci, _, _, rowi⟩ := h.mat i ri hri
  rw [ok.wide.at_ hri] at hci
  obtain ⟨bx, ox, e, _, hcx⟩ := rowi k _ (ints_at hx)
  exact ⟨ri, x, bi, oi, Ai, ci, bx, ox, hri, hx, eA, hci, e, hcx, x0, x1, ent_at hri hx⟩
theorem SchB.wt {w : World} {kb n : Nat} {m : List (List Int)} {b : List Int} {A D : Option Addr} {c d B B' : Nat} (h : SchB w kb n m b A D c d B B') (ok : TbOk n m b) {i : Nat} (hi : i < n) :
    ∃ x ba oa, D = some ⟨ba, oa, none⟩ ∧ w.cell? ⟨ba, oa + i, none⟩ = some (.int .i64 x) ∧ 0 ≤ x ∧ x < 10007 ∧ b.getD i 0 = x := by
  obtain ⟨p, hp⟩ := at_lt (show i < b.length by rw [ok.len']; exact hi)
  obtain ⟨p0, p1⟩ := num_at ok.num' hp
  obtain ⟨bp, op, e, _, hcp⟩ := h.row i _ (ints_at hp)
  exact ⟨p, bp, op, e, hcp, p0, p1, by rw [List.getD_eq_getElem?_getD, hp]; rfl⟩
theorem addr_eq {b o b' o' : Nat} (h : (some (⟨b, o, none⟩ : Addr)) = some ⟨b', o', none⟩) : b' = b ∧ o' = o := by
  injection h with e; injection e with e1 e2; exact ⟨e1.symm, e2.symm⟩
set_option maxHeartbeats 2000000 in
theorem left_any (kb i k : Nat) (A D : Option Addr) (n c d B B' : Nat) (m : List (List Int)) (b : List Int) (w : World) (ok : TbOk n m b) (h : SchB w kb n m b A D c d B B') (hi : i < n) (hk : k < n) :
    Calls Try.prog 71 #[.int .i64 i, .int .i64 k, .pointer (some ⟨kb, 0, none⟩)] w fun e w' => e = .returned (.int .i64 (syL m b i k)) ∧ ∃ m, w' = w.drewN m := by
  have q0 := h.box.c0
  have q1 := h.box.c1
  obtain ⟨ri, x, ba, oa, Ai, ci, bx, ox, hri, hx, rfl, hci, rfl, hcx, x0, x1, ex⟩ := h.ent ok hi hk
  obtain ⟨rk, y, ba2, oa2, Ak, ck, by_, oy, hrk, hy, eA, hck, rfl, hcy, y0, y1, ey⟩ := h.ent ok hk hi
  obtain ⟨rfl, rfl⟩ := addr_eq eA
  obtain ⟨p, bp, op, rfl, hcp, p0, p1, ep⟩ := h.wt ok hi
  obtain ⟨s, bs, os, eS, hcs, s0, s1, es⟩ := h.wt ok hk
  obtain ⟨rfl, rfl⟩ := addr_eq eS
  have GL : Hid (syL m b i k = (p * x % 10007 + s * y % 10007) % 10007) := by unfold syL; rw [Hid, ex, ey, ep, es]
  have i0 : (0 : Int) ≤ (i : Int) := Int.natCast_nonneg _
  have i1 : (i : Int) < (n : Int) := by omega
  have k0 : (0 : Int) ≤ (k : Int) := Int.natCast_nonneg _
  have k1 : (k : Int) < (n : Int) := by omega
  have CM1 := fun W => times_any p x W p0 p1 x0 x1
  have CM2 := fun W => times_any s y W s0 s1 y0 y1
  obtain ⟨u, hu⟩ : ∃ u, u = p * x % 10007 := ⟨_, rfl⟩
  obtain ⟨v, hv⟩ : ∃ v, v = s * y % 10007 := ⟨_, rfl⟩
  have CA := fun W => plus_any u v W (by omega) (by omega) (by omega) (by omega)
  obtain ⟨z, hz⟩ : ∃ z, z = (u + v) % 10007 := ⟨_, rfl⟩
  have G : Hid (syL m b i k = z) := by rw [Hid, GL.out, hz, hu, hv]
  simp only [← hu] at CM1
  simp only [← hv] at CM2
  simp only [← hz] at CA
  clear hu hv hz GL hri hrk hx hy eA eS h ok x0 x1 y0 y1 p0 p1 s0 s1 ex ey ep es
  go_enter Try.func71, Try.ntmps71
  go_wp2_with fail
  go_quiet ((first | (go_at_call 51; first | exact quietL (CM1 _) | exact quietL (CM2 _) | exact quietL2 (CM1 _) | exact quietL2 (CM2 _)) | (go_at_call 72; first | exact quietL (CA _) | exact quietL2 (CA _))))
  go_wp2
  go_ret
  exact ⟨ret_i64 G.out.symm, _, rfl⟩
set_option maxHeartbeats 2000000 in
theorem right_any (kb i k : Nat) (A D : Option Addr) (n c d B B' : Nat) (m : List (List Int)) (b : List Int) (w : World) (ok : TbOk n m b) (h : SchB w kb n m b A D c d B B') (hi : i < n) (hk : k < n) :
    Calls Try.prog 73 #[.int .i64 i, .int .i64 k, .pointer (some ⟨kb, 0, none⟩)] w fun e w' => e = .returned (.int .i64 (syR b i k)) ∧ ∃ m, w' = w.drewN m := by
  have q0 := h.box.c0
  have q1 := h.box.c1
  obtain ⟨p, bp, op, rfl, hcp, p0, p1, ep⟩ := h.wt ok hi
  obtain ⟨s, bs, os, eS, hcs, s0, s1, es⟩ := h.wt ok hk
  obtain ⟨rfl, rfl⟩ := addr_eq eS
  have GL : Hid (syR b i k = p * s % 10007) := by unfold syR; rw [Hid, ep, es]
  have i0 : (0 : Int) ≤ (i : Int) := Int.natCast_nonneg _
  have i1 : (i : Int) < (n : Int) := by omega
  have k0 : (0 : Int) ≤ (k : Int) := Int.natCast_nonneg _
  have k1 : (k : Int) < (n : Int) := by omega
  have CM1 := fun W => times_any p s W p0 p1 s0 s1
  obtain ⟨u, hu⟩ : ∃ u, u = p * s % 10007 := ⟨_, rfl⟩
  have G : Hid (syR b i k = u) := by rw [Hid, GL.out, hu]
  simp only [← hu] at CM1
  clear hu GL eS h ok p0 p1 s0 s1 ep es
  go_enter Try.func73, Try.ntmps73
  go_wp2_with fail
  go_quiet ((go_at_call 51; first | exact quietL (CM1 _) | exact quietL2 (CM1 _)))
  go_wp2
  go_ret
  exact ⟨ret_i64 G.out.symm, _, rfl⟩
set_option maxHeartbeats 2000000 in
theorem pairs_any (kb kl i k : Nat) (A D : Option Addr) (n c d B B' : Nat) (m : List (List Int)) (b : List Int) (w : World) (ok : TbOk n m b) (h : SchB w kb n m b A D c d B B') (hl : w.cell? ⟨kl, 0, none⟩ = some (.int .i64 ((n - 1 : Nat) : Int))) (hi : i < n) (hk : k < n) :
    Calls Try.prog 75 #[.int .i64 i, .int .i64 k, .pointer (some ⟨kb, 0, none⟩), .pointer (some ⟨kl, 0, none⟩)] w fun e w' => e = .returned (.int .i64 (smL m n i k)) ∧ ∃ m, w' = w.drewN m := by
  have hn8 := ok.le
  have q0 := h.box.c0
  have q1 := h.box.c1
  obtain ⟨ri, x, ba, oa, Ai, ci, bx, ox, hri, hx, rfl, hci, rfl, hcx, x0, x1, ex⟩ := h.ent ok hi hk
  obtain ⟨rk, y, ba2, oa2, Ak, ck, by_, oy, hrk, hy, eA, hck, rfl, hcy, y0, y1, ey⟩ := h.ent ok (show n - 1 - i < n by omega) (show n - 1 - k < n by omega)
  obtain ⟨rfl, rfl⟩ := addr_eq eA
  have hw2 : IntKind.i64.wrap (((n - 1 : Nat) : Int) - (i : Int)) = ((n - 1 - i : Nat) : Int) := by rw [IntWalk.i64_in _ (by omega)]; omega
  have hw3 : IntKind.i64.wrap (((n - 1 : Nat) : Int) - (k : Int)) = ((n - 1 - k : Nat) : Int) := by rw [IntWalk.i64_in _ (by omega)]; omega
  have i0 : (0 : Int) ≤ (i : Int) := Int.natCast_nonneg _
  have i1 : (i : Int) < (n : Int) := by omega
  have k0 : (0 : Int) ≤ (k : Int) := Int.natCast_nonneg _
  have k1 : (k : Int) < (n : Int) := by omega
  have jj0 : (0 : Int) ≤ ((n - 1 - i : Nat) : Int) := Int.natCast_nonneg _
  have jj1 : ((n - 1 - i : Nat) : Int) < (n : Int) := by omega
  have ll0 : (0 : Int) ≤ ((n - 1 - k : Nat) : Int) := Int.natCast_nonneg _
  have ll1 : ((n - 1 - k : Nat) : Int) < (n : Int) := by omega
  have CA := fun W => plus_any x y W x0 x1 y0 y1
  obtain ⟨z, hz⟩ : ∃ z, z = (x + y) % 10007 := ⟨_, rfl⟩
  have G : Hid (smL m n i k = z) := by unfold smL; rw [Hid, ex, ey, hz]
  simp only [← hz] at CA
  clear hz hri hrk hx hy eA h ok x0 x1 y0 y1 ex ey
  go_enter Try.func75, Try.ntmps75
  go_wp2_with fail
  go_quiet ((go_at_call 72; first | exact quietL (CA _) | exact quietL2 (CA _)))
  go_wp2
  go_ret
  exact ⟨ret_i64 G.out.symm, _, rfl⟩
set_option maxHeartbeats 2000000 in
theorem cols_any (kb i k : Nat) (A D : Option Addr) (n c d B B' : Nat) (m : List (List Int)) (b : List Int) (w : World) (ok : TbOk n m b) (h : SchB w kb n m b A D c d B B') (hi : i < n) (hk : k < n) :
    Calls Try.prog 76 #[.int .i64 i, .int .i64 k, .pointer (some ⟨kb, 0, none⟩)] w fun e w' => e = .returned (.int .i64 (b.getD k 0)) ∧ ∃ m, w' = w.drewN m := by
  have q0 := h.box.c0
  have q1 := h.box.c1
  obtain ⟨s, bs, os, rfl, hcs, s0, s1, es⟩ := h.wt ok hk
  have G := Lib.hid es
  have k0 : (0 : Int) ≤ (k : Int) := Int.natCast_nonneg _
  have k1 : (k : Int) < (n : Int) := by omega
  clear h ok s0 s1 es
  go_enter Try.func76, Try.ntmps76
  go_wp2
  go_ret
  exact ⟨ret_i64 G.out.symm, 0, rfl⟩
end Go.Proofs.Ytnnihdkhblbdgaa
