/-
  The numbers up to which a tableau meets its assumptions: the program's.
-/
import Derived.Test.YtfllcdcgfpjabaaAsT
import Derived.Test.YtfllcdcgfpjabaaTabI
import Derived.Test.YtfllcdcgfpjabaaResBI
import Derived.Test.YtfllcdcgfpjabaaResO
namespace Go.Proofs.Ytfllcdcgfpjabaa
open Go.RowKit Fld
set_option linter.unusedVariables false
set_option linter.unusedSimpArgs false
set_option maxRecDepth 100000

theorem sums_k0 (b : List Int) (m : List (List Int)) (c : List Int) (n k : Nat) : sumsL b m c n 0 k = [dotK b (pwL c k) n] := by
  unfold sumsL cntK sumI; rw [if_pos rfl]; rfl
theorem ints_k0 (b c : List Int) (n k : Nat) : intsL b c n 0 k = [1] := by
  unfold intsL cntK intI; rw [if_pos rfl]; rfl
theorem sums_k1 {b : List Int} {m : List (List Int)} {c : List Int} {n k : Nat} (hl : m.length = n) (hc : c.length = n) : sumsL b m c n 1 k = appL m (pwL c k) := by
  apply List.ext_getElem?
  intro i
  by_cases hi : i < n
  · obtain ⟨r, hr⟩ := at_lt (show i < m.length by omega)
    rw [sumsL_at (by unfold cntK; rw [if_neg (by omega)]; exact hi), appL_at hr ((pwL_length _ _).trans hc)]
    unfold sumI; rw [if_neg (by omega), if_pos rfl, List.getD_eq_getElem?_getD, hr]; rfl
  · rw [List.getElem?_eq_none (by unfold sumsL cntK; rw [if_neg (by omega), List.length_map, List.length_range]; omega), List.getElem?_eq_none (by rw [appL_length]; omega)]
theorem ints_k1 {b c : List Int} {n k : Nat} (hc : c.length = n) : intsL b c n 1 k = pwL c k := by
  apply List.ext_getElem?
  intro i
  by_cases hi : i < n
  · obtain ⟨x, hx⟩ := at_lt (show i < c.length by omega)
    rw [intsL_at (by unfold cntK; rw [if_neg (by omega)]; exact hi), pwL_at hx]
    unfold intI; rw [if_neg (by omega), if_pos rfl, List.getD_eq_getElem?_getD, hx]; rfl
  · rw [List.getElem?_eq_none (by unfold intsL cntK; rw [if_neg (by omega), List.length_map, List.length_range]; omega), List.getElem?_eq_none (by rw [pwL_length]; omega)]
theorem sums_k2 (b : List Int) (m : List (List Int)) (c : List Int) (n k : Nat) : sumsL b m c n 2 k = colL m (prL b (pwL c k)) n n 0 := by
  apply List.ext_getElem?
  intro i
  by_cases hi : i < n
  · rw [sumsL_at (by unfold cntK; rw [if_neg (by omega)]; exact hi), colL_at hi, if_neg (by omega)]
    unfold sumI; rw [if_neg (by omega), if_neg (by omega)]
  · rw [List.getElem?_eq_none (by unfold sumsL cntK; rw [if_neg (by omega), List.length_map, List.length_range]; omega), List.getElem?_eq_none (by rw [colL_length]; omega)]
theorem ints_k2 {b c : List Int} {n k : Nat} (hb : b.length = n) (hc : c.length = n) : intsL b c n 2 k = icL b (pwL c k) := by
  apply List.ext_getElem?
  intro i
  by_cases hi : i < n
  · obtain ⟨x, hx⟩ := at_lt (show i < c.length by omega)
    obtain ⟨y, hy⟩ := at_lt (show i < b.length by omega)
    rw [intsL_at (by unfold cntK; rw [if_neg (by omega)]; exact hi), icL_at hy (pwL_at hx)]
    unfold intI; rw [if_neg (by omega), if_neg (by omega), List.getD_eq_getElem?_getD, List.getD_eq_getElem?_getD, hx, hy]; rfl
  · rw [List.getElem?_eq_none (by unfold intsL cntK; rw [if_neg (by omega), List.length_map, List.length_range]; omega), List.getElem?_eq_none (by rw [icL_length]; omega)]
/-- the kinds, as the program holds them -/
def kindV (kd : Nat) : Value := .iface (if kd = 0 then 53 else if kd = 1 then 55 else 56) (.agg #[])
theorem kindV0 : kindV 0 = .iface 53 (.agg #[]) := rfl
theorem kindV1 : kindV 1 = .iface 55 (.agg #[]) := rfl
theorem kindV2 : kindV 2 = .iface 56 (.agg #[]) := rfl
theorem mt0 (W : World) : (method 266 53 (.agg #[]) "loop.example/g01100/impl.sums").run Try.prog W = .ok (157, .agg #[]) W := by kernel_rfl
theorem mt1 (W : World) : (method 266 55 (.agg #[]) "loop.example/g01100/impl.sums").run Try.prog W = .ok (158, .agg #[]) W := by kernel_rfl
theorem mt2 (W : World) : (method 266 56 (.agg #[]) "loop.example/g01100/impl.sums").run Try.prog W = .ok (159, .agg #[]) W := by kernel_rfl
theorem cf0 (args : Array Value) (W : World) : (callFunc 157 args).run Try.prog W = .ok (.enter 157 args) W := by kernel_rfl
theorem cf1 (args : Array Value) (W : World) : (callFunc 158 args).run Try.prog W = .ok (.enter 158 args) W := by kernel_rfl
theorem cf2 (args : Array Value) (W : World) : (callFunc 159 args).run Try.prog W = .ok (.enter 159 args) W := by kernel_rfl
theorem meetsTo_any (A D : Option Addr) (n c d B B' kd : Nat) (m : List (List Int)) (b : List Int) (w : World) (hl : m.length = n) (hl' : b.length = n) (hn1 : 1 ≤ n) (hn : n ≤ 8) (hq : Wide m n) (hnum : ∀ r ∈ m, allNum r = true) (hnb : allNum b = true) (hkd : kd ≤ 2) (hB : B ≤ w.heap.size) (hB' : B' ≤ w.heap.size) (h : Mat w B A m) (r : Row w B' D (ints b)) :
    Calls Try.prog 50 #[.agg #[.slice A n c, .slice D n d], kindV kd] w fun e w' => e = .returned (.int .i64 ((ordK m b kd : Nat) : Int)) ∧ Below w.heap.size w w' := by
  have HLC : (appL m (List.replicate n 1)).length = n := (appL_length _ _).trans hl
  have e : kd = 0 ∨ kd = 1 ∨ kd = 2 := by omega
  rcases e with rfl | rfl | rfl
  · refine meetsTo_gen 0 _ _ A D n c d B B' m b w hl hl' hn1 hn hq hnum hnb hB hB' h r mt0 cf0 (fun V A2 c2 k hV hr => ?_) (fun V A2 c2 k hV hr => ?_)
    · rw [sums_k0]
      exact sums0_any A D A2 n c d c2 B' V.heap.size b _ V hl' ((pwL_length _ _).trans HLC) hn hnb (pwL_num _ _) (by have := hV.size; omega) (Nat.le_refl _) (r.below hV hB') hr
    · rw [ints_k0]
      exact integrals0_any A D A2 n c d c2 V
  · refine meetsTo_gen 1 _ _ A D n c d B B' m b w hl hl' hn1 hn hq hnum hnb hB hB' h r mt1 cf1 (fun V A2 c2 k hV hr => ?_) (fun V A2 c2 k hV hr => ?_)
    · rw [sums_k1 hl HLC]
      exact sums1_any A D A2 n c d c2 B V.heap.size m _ V hl ((pwL_length _ _).trans HLC) hn hq hnum (pwL_num _ _) (by have := hV.size; omega) (Nat.le_refl _) (h.below hV hB) hr
    · rw [ints_k1 HLC]
      exact integrals1_any A D A2 n c d c2 V.heap.size _ V (Nat.le_refl _) hr
  · refine meetsTo_gen 2 _ _ A D n c d B B' m b w hl hl' hn1 hn hq hnum hnb hB hB' h r mt2 cf2 (fun V A2 c2 k hV hr => ?_) (fun V A2 c2 k hV hr => ?_)
    · rw [sums_k2]
      exact sums2_any A D A2 n c d c2 B B' V.heap.size m b _ V hl hl' ((pwL_length _ _).trans HLC) hn hq hnum hnb (pwL_num _ _) (by have := hV.size; omega) (by have := hV.size; omega) (Nat.le_refl _) (h.below hV hB) (r.below hV hB') hr
    · rw [ints_k2 hl' HLC]
      exact integrals2_any A D A2 n c d c2 B' V.heap.size b _ V hl' ((pwL_length _ _).trans HLC) hn hnb (pwL_num _ _) (by have := hV.size; omega) (Nat.le_refl _) (r.below hV hB') hr
set_option maxHeartbeats 2000000 in
theorem orderBy_any (A D : Option Addr) (n c n' d B B' : Nat) (m : List (List Int)) (b : List Int) (kd : Nat) (w : World) (hl : m.length = n) (hl' : b.length = n') (hn : n ≤ 9223372036854775807) (hn' : n' ≤ 9223372036854775807) (hB : B ≤ w.heap.size) (hB' : B' ≤ w.heap.size) (h : Mat w B A m) (r : Row w B' D (ints b)) (hkd : kd ≤ 2) :
    Calls Try.prog 44 #[kindV kd, .agg #[.slice A n c, .slice D n' d]] w (ResI (kindA kd m b) w) := by
  obtain ⟨KV, hKV⟩ : ∃ v, v = kindV kd := ⟨_, rfl⟩
  have HKV := Lib.hid hKV
  rw [← hKV]
  clear hKV
  have HL := Lib.hid hl
  have HL' := Lib.hid hl'
  obtain ⟨W0, hW0⟩ : ∃ W0, W0 = w.alloc (.cells #[.slice A n c, .slice D n' d] 29) := ⟨_, rfl⟩
  have HB : Hid (Below w.heap.size w W0) := by rw [hW0]; exact (Below.refl _ _).alloc (Nat.le_refl _) _
  have HM : Hid (Mat W0 B A m) := h.below HB.out hB
  have HR : Hid (Row W0 B' D (ints b)) := r.below HB.out hB'
  have HX : Hid (Bx W0 w.heap.size 29 (.slice A n c) (.slice D n' d)) := by rw [hW0]; exact Bx.new _ _ _ _
  have hz := HB.out.size
  clear hl hl' h r
  cases ht : isTabB m b
  · have G : Hid (kindA kd m b = (0, 1)) := by unfold kindA; rw [Hid, ht]; rfl
    go_enter Try.func44, Try.ntmps44
    go_wp2_with fail
    rw [← hW0]
    refine (isTableau_any A D n c n' d B B' m b W0 HL.out HL'.out hn hn' (by omega) (by omega) HM.out HR.out).mono ?_
    rintro e w2 ⟨rfl, b2⟩
    rw [ht]
    have HB2 := Lib.hid (HB.out.trans (b2.mono HB.out.size))
    clear b2 hW0 ht
    go_wp2
    go_ret2
    exact ResI.of' G.out HB2.out
  · obtain ⟨t1, t2, t3, t4, t5, t6⟩ := isTabB_parts ht
    rw [HL'.out] at t1 t2 t3 t5
    have hnn : n' = n := by rw [← t3]; exact HL.out
    subst hnn
    have HW := Lib.hid t5
    have HNB := Lib.hid t4
    have HN := Lib.hid t6
    clear t3 t4 t5 t6
    have G : Hid (kindA kd m b = (((ordK m b kd : Nat) : Int), 0)) := by unfold kindA; rw [Hid, ht]; rfl
    go_enter Try.func44, Try.ntmps44
    go_wp2_with fail
    rw [← hW0]
    refine (isTableau_any A D n' c n' d B B' m b W0 HL.out HL'.out hn hn' (by omega) (by omega) HM.out HR.out).mono ?_
    rintro e w2 ⟨rfl, b2⟩
    rw [ht]
    have HB2 := Lib.hid (HB.out.trans (b2.mono HB.out.size))
    have HM2 := Lib.hid (HM.out.below b2 (by omega))
    have HR2 := Lib.hid (HR.out.below b2 (by omega))
    have HX2 := HX.out.next b2
    have hz2 := b2.size
    have q0 := HX2.c0
    have q1 := HX2.c1
    clear b2 hW0 ht HX2
    go_wp2_with fail
    refine (schemeOf_any A D n' c n' d B B' n' m b w2 HL.out HL'.out t2 HW.out (by omega) (by omega) (by omega) (by omega) HM2.out HR2.out).mono ?_
    rintro e w3 ⟨A3, c3, D3, d3, rfl, hc3, hd3, m3, r3, b3⟩
    have HB3 := Lib.hid (HB2.out.trans (b3.mono HB2.out.size))
    have HM3 := Lib.hid m3
    have HR3 := Lib.hid r3
    clear b3 q0 q1 m3 r3
    go_wp2_with fail
    rw [HKV.out]
    refine (meetsTo_any A3 D3 n' c3 d3 w3.heap.size w3.heap.size kd m b w3 HL.out HL'.out t1 t2 HW.out HN.out HNB.out hkd (Nat.le_refl _) (Nat.le_refl _) HM3.out HR3.out).mono ?_
    rintro e w4 ⟨rfl, b4⟩
    have HB4 := Lib.hid (HB3.out.trans (b4.mono HB3.out.size))
    clear b4
    go_wp2
    go_ret2
    exact ResI.of' G.out HB4.out
set_option maxHeartbeats 2000000 in
theorem pQuadratureOrder_L (A D : Option Addr) (n c n' d B B' : Nat) (m : List (List Int)) (b : List Int) (w : World) (hl : m.length = n) (hl' : b.length = n') (hn : n ≤ 9223372036854775807) (hn' : n' ≤ 9223372036854775807) (hB : B ≤ w.heap.size) (hB' : B' ≤ w.heap.size) (h : Mat w B A m) (r : Row w B' D (ints b)) :
    Calls Try.prog 15 #[.agg #[.slice A n c, .slice D n' d]] w (ResI (quadratureA m b) w) := by
  have HL := Lib.hid hl
  have HL' := Lib.hid hl'
  obtain ⟨W0, hW0⟩ : ∃ W0, W0 = w.alloc (.cells #[.slice A n c, .slice D n' d] 29) := ⟨_, rfl⟩
  have HB : Hid (Below w.heap.size w W0) := by rw [hW0]; exact (Below.refl _ _).alloc (Nat.le_refl _) _
  have HM : Hid (Mat W0 B A m) := h.below HB.out hB
  have HR : Hid (Row W0 B' D (ints b)) := r.below HB.out hB'
  have HX : Hid (Bx W0 w.heap.size 29 (.slice A n c) (.slice D n' d)) := by rw [hW0]; exact Bx.new _ _ _ _
  have hz := HB.out.size
  clear hl hl' h r
  have C := orderBy_any A D n c n' d B B' m b 0 W0 HL.out HL'.out hn hn' (by omega) (by omega) HM.out HR.out (by omega)
  rw [kindV0] at C
  go_enter Try.func15, Try.ntmps15
  go_wp2_with fail
  rw [← hW0]
  refine C.mono ?_
  rintro e w2 ⟨rfl, b2⟩
  have G : Hid (ResI (quadratureA m b) w (.returned (.tuple #[.int .i64 (kindA 0 m b).1, .int .i64 (kindA 0 m b).2])) w2) := ⟨rfl, HB.out.trans (b2.mono HB.out.size)⟩
  clear C b2 hW0
  go_wp2
  go_ret2
  exact G.out
set_option maxHeartbeats 2000000 in
theorem pStageOrderOf_L (A D : Option Addr) (n c n' d B B' : Nat) (m : List (List Int)) (b : List Int) (w : World) (hl : m.length = n) (hl' : b.length = n') (hn : n ≤ 9223372036854775807) (hn' : n' ≤ 9223372036854775807) (hB : B ≤ w.heap.size) (hB' : B' ≤ w.heap.size) (h : Mat w B A m) (r : Row w B' D (ints b)) :
    Calls Try.prog 18 #[.agg #[.slice A n c, .slice D n' d]] w (ResI (stageOA m b) w) := by
  have HL := Lib.hid hl
  have HL' := Lib.hid hl'
  obtain ⟨W0, hW0⟩ : ∃ W0, W0 = w.alloc (.cells #[.slice A n c, .slice D n' d] 29) := ⟨_, rfl⟩
  have HB : Hid (Below w.heap.size w W0) := by rw [hW0]; exact (Below.refl _ _).alloc (Nat.le_refl _) _
  have HM : Hid (Mat W0 B A m) := h.below HB.out hB
  have HR : Hid (Row W0 B' D (ints b)) := r.below HB.out hB'
  have HX : Hid (Bx W0 w.heap.size 29 (.slice A n c) (.slice D n' d)) := by rw [hW0]; exact Bx.new _ _ _ _
  have hz := HB.out.size
  clear hl hl' h r
  have C := orderBy_any A D n c n' d B B' m b 1 W0 HL.out HL'.out hn hn' (by omega) (by omega) HM.out HR.out (by omega)
  rw [kindV1] at C
  go_enter Try.func18, Try.ntmps18
  go_wp2_with fail
  rw [← hW0]
  refine C.mono ?_
  rintro e w2 ⟨rfl, b2⟩
  have G : Hid (ResI (stageOA m b) w (.returned (.tuple #[.int .i64 (kindA 1 m b).1, .int .i64 (kindA 1 m b).2])) w2) := ⟨rfl, HB.out.trans (b2.mono HB.out.size)⟩
  clear C b2 hW0
  go_wp2
  go_ret2
  exact G.out
set_option maxHeartbeats 2000000 in
theorem pColumnOrder_L (A D : Option Addr) (n c n' d B B' : Nat) (m : List (List Int)) (b : List Int) (w : World) (hl : m.length = n) (hl' : b.length = n') (hn : n ≤ 9223372036854775807) (hn' : n' ≤ 9223372036854775807) (hB : B ≤ w.heap.size) (hB' : B' ≤ w.heap.size) (h : Mat w B A m) (r : Row w B' D (ints b)) :
    Calls Try.prog 20 #[.agg #[.slice A n c, .slice D n' d]] w (ResI (columnA m b) w) := by
  have HL := Lib.hid hl
  have HL' := Lib.hid hl'
  obtain ⟨W0, hW0⟩ : ∃ W0, W0 = w.alloc (.cells #[.slice A n c, .slice D n' d] 29) := ⟨_, rfl⟩
  have HB : Hid (Below w.heap.size w W0) := by rw [hW0]; exact (Below.refl _ _).alloc (Nat.le_refl _) _
  have HM : Hid (Mat W0 B A m) := h.below HB.out hB
  have HR : Hid (Row W0 B' D (ints b)) := r.below HB.out hB'
  have HX : Hid (Bx W0 w.heap.size 29 (.slice A n c) (.slice D n' d)) := by rw [hW0]; exact Bx.new _ _ _ _
  have hz := HB.out.size
  clear hl hl' h r
  have C := orderBy_any A D n c n' d B B' m b 2 W0 HL.out HL'.out hn hn' (by omega) (by omega) HM.out HR.out (by omega)
  rw [kindV2] at C
  go_enter Try.func20, Try.ntmps20
  go_wp2_with fail
  rw [← hW0]
  refine C.mono ?_
  rintro e w2 ⟨rfl, b2⟩
  have G : Hid (ResI (columnA m b) w (.returned (.tuple #[.int .i64 (kindA 2 m b).1, .int .i64 (kindA 2 m b).2])) w2) := ⟨rfl, HB.out.trans (b2.mono HB.out.size)⟩
  clear C b2 hW0
  go_wp2
  go_ret2
  exact G.out
set_option maxHeartbeats 2000000 in
theorem impliedOrder_any (A D : Option Addr) (n c d B B' : Nat) (m : List (List Int)) (b : List Int) (w : World) (hl : m.length = n) (hl' : b.length = n) (hn1 : 1 ≤ n) (hn : n ≤ 8) (hq : Wide m n) (hnum : ∀ r ∈ m, allNum r = true) (hnb : allNum b = true) (hB : B ≤ w.heap.size) (hB' : B' ≤ w.heap.size) (h : Mat w B A m) (r : Row w B' D (ints b)) :
    Calls Try.prog 51 #[.agg #[.slice A n c, .slice D n d]] w fun e w' => e = .returned (.int .i64 (min4 ((ordK m b 0 : Nat) : Int) (2 * ((ordK m b 1 : Nat) : Int) + 2) (((ordK m b 1 : Nat) : Int) + ((ordK m b 2 : Nat) : Int) + 1))) ∧ Below w.heap.size w w' := by
  obtain ⟨W0, hW0⟩ : ∃ W0, W0 = w.alloc (.cells #[.slice A n c, .slice D n d] 65) := ⟨_, rfl⟩
  have HB : Hid (Below w.heap.size w W0) := by rw [hW0]; exact (Below.refl _ _).alloc (Nat.le_refl _) _
  have HX : Hid (Bx W0 w.heap.size 65 (.slice A n c) (.slice D n d)) := by rw [hW0]; exact Bx.new _ _ _ _
  have hz := HB.out.size
  have CO := fun V (hV : Below W0.heap.size W0 V) kd hk => meetsTo_any A D n c d B B' kd m b V hl hl' hn1 hn hq hnum hnb hk (by have := hV.size; omega) (by have := hV.size; omega) ((h.below HB.out hB).below hV (by omega)) ((r.below HB.out hB').below hV (by omega))
  have C1 := CO W0 (Below.refl _ _) 1 (by omega)
  rw [kindV1] at C1
  have CO0 := fun V hV => CO V hV 0 (by omega)
  have CO2 := fun V hV => CO V hV 2 (by omega)
  rw [kindV0] at CO0
  rw [kindV2] at CO2
  have o1 := ordK_le m b 1
  have o2 := ordK_le m b 2
  obtain ⟨p1, hp1⟩ : ∃ q, q = ordK m b 1 := ⟨_, rfl⟩
  obtain ⟨p2, hp2⟩ : ∃ q, q = ordK m b 2 := ⟨_, rfl⟩
  obtain ⟨p0, hp0⟩ : ∃ q, q = ordK m b 0 := ⟨_, rfl⟩
  rw [← hp1] at o1 C1
  rw [← hp2] at o2 CO2
  rw [← hp0] at CO0
  rw [← hp1, ← hp2, ← hp0]
  have q0 := HX.out.c0
  have q1 := HX.out.c1
  clear hl hl' hq hnum hnb h r CO hp0 hp1 hp2
  go_enter Try.func51, Try.ntmps51
  go_wp2_with fail
  rw [← hW0]
  clear hW0
  refine C1.mono ?_
  rintro e w3 ⟨rfl, b3⟩
  have HB3 := Lib.hid (HB.out.trans (b3.mono HB.out.size))
  have KK : Hid (∀ V, Below w3.heap.size w3 V → V.cell? ⟨w.heap.size, 0, none⟩ = some (.slice A n c) ∧ V.cell? ⟨w.heap.size, 1, none⟩ = some (.slice D n d)) := fun V hV => ⟨((HX.out.next b3).next hV).c0, ((HX.out.next b3).next hV).c1⟩
  have D0 := fun V (hV : Below w3.heap.size w3 V) => CO0 V (b3.trans (hV.mono b3.size))
  have D2 := fun V (hV : Below w3.heap.size w3 V) => CO2 V (b3.trans (hV.mono b3.size))
  have hz3 := b3.size
  have hmin : ∀ (ts : Array TypeId) (t : TypeId) (x y z : Int) (W : World), (Builtin.min_ ts t #[.int .i64 6, .int .i64 x, .int .i64 y, .int .i64 z]).run Try.prog W = .ok (.int .i64 (min4 x y z)) W := fun ts t x y z W => run_min4 ts t x y z W
  have hw1 : IntKind.i64.wrap (2 * (p1 : Int)) = 2 * (p1 : Int) := IntWalk.i64_in _ (by omega)
  have hw2 : IntKind.i64.wrap (2 * (p1 : Int) + 2) = 2 * (p1 : Int) + 2 := IntWalk.i64_in _ (by omega)
  have hw3 : IntKind.i64.wrap ((p1 : Int) + (p2 : Int)) = (p1 : Int) + (p2 : Int) := IntWalk.i64_in _ (by omega)
  have hw4 : IntKind.i64.wrap ((p1 : Int) + (p2 : Int) + 1) = (p1 : Int) + (p2 : Int) + 1 := IntWalk.i64_in _ (by omega)
  clear b3 q0 q1 CO0 CO2 C1
  go_wp2_with fail
  go_region_held3 (fun V => V.cell? ⟨w.heap.size, 0, none⟩ = some (.slice A n c) ∧ V.cell? ⟨w.heap.size, 1, none⟩ = some (.slice D n d))
    (first | exact KK.out _ (Below.refl _ _) | exact KK.out _ (Below.refl _ _).drew | exact KK.out _ (below_drewN (Below.refl _ _) _) | exact KK.out _ (below_undrawn (a := 1) b4) | exact KK.out _ ((below_undrawn (a := 1) b4).trans (b5.mono (below_undrawn (a := 1) b4).size)))
    (first
      | (go_at_call 50; refine (D0 _ (by first | exact Below.refl _ _ | exact (Below.refl _ _).drew | exact below_drewN (Below.refl _ _) _)).mono ?_; clear D0; rintro e w4 ⟨rfl, b4⟩)
      | (go_at_call 50; refine (D2 _ (by exact below_undrawn (a := 1) b4)).mono ?_; clear D2; rintro e w5 ⟨rfl, b5⟩))
  have hb4 : Below w3.heap.size w3 w4 := below_undrawn (a := 1) b4
  have HBF := Lib.hid (HB3.out.trans ((hb4.trans (b5.mono hb4.size)).mono HB3.out.size))
  clear b4 b5 hb4 KK
  go_wp2
  go_ret
  exact ⟨rfl, HBF.out⟩
set_option maxHeartbeats 2000000 in
theorem pImpliedOrder_L (A D : Option Addr) (n c n' d B B' : Nat) (m : List (List Int)) (b : List Int) (w : World) (hl : m.length = n) (hl' : b.length = n') (hn : n ≤ 9223372036854775807) (hn' : n' ≤ 9223372036854775807) (hB : B ≤ w.heap.size) (hB' : B' ≤ w.heap.size) (h : Mat w B A m) (r : Row w B' D (ints b)) :
    Calls Try.prog 24 #[.agg #[.slice A n c, .slice D n' d]] w (ResI (impliedA m b) w) := by
  have HL := Lib.hid hl
  have HL' := Lib.hid hl'
  obtain ⟨W0, hW0⟩ : ∃ W0, W0 = w.alloc (.cells #[.slice A n c, .slice D n' d] 29) := ⟨_, rfl⟩
  have HB : Hid (Below w.heap.size w W0) := by rw [hW0]; exact (Below.refl _ _).alloc (Nat.le_refl _) _
  have HM : Hid (Mat W0 B A m) := h.below HB.out hB
  have HR : Hid (Row W0 B' D (ints b)) := r.below HB.out hB'
  have HX : Hid (Bx W0 w.heap.size 29 (.slice A n c) (.slice D n' d)) := by rw [hW0]; exact Bx.new _ _ _ _
  have hz := HB.out.size
  clear hl hl' h r
  cases ht : isTabB m b
  · have G : Hid (impliedA m b = (0, 1)) := by unfold impliedA; rw [Hid, ht]; rfl
    go_enter Try.func24, Try.ntmps24
    go_wp2_with fail
    rw [← hW0]
    refine (isTableau_any A D n c n' d B B' m b W0 HL.out HL'.out hn hn' (by omega) (by omega) HM.out HR.out).mono ?_
    rintro e w2 ⟨rfl, b2⟩
    rw [ht]
    have HB2 := Lib.hid (HB.out.trans (b2.mono HB.out.size))
    clear b2 hW0 ht
    go_wp2
    go_ret2
    exact ResI.of' G.out HB2.out
  · obtain ⟨t1, t2, t3, t4, t5, t6⟩ := isTabB_parts ht
    rw [HL'.out] at t1 t2 t3 t5
    have hnn : n' = n := by rw [← t3]; exact HL.out
    subst hnn
    have HW := Lib.hid t5
    have HNB := Lib.hid t4
    have HN := Lib.hid t6
    clear t3 t4 t5 t6
    have G : Hid (impliedA m b = (min4 ((ordK m b 0 : Nat) : Int) (2 * ((ordK m b 1 : Nat) : Int) + 2) (((ordK m b 1 : Nat) : Int) + ((ordK m b 2 : Nat) : Int) + 1), 0)) := by unfold impliedA; rw [Hid, ht]; rfl
    go_enter Try.func24, Try.ntmps24
    go_wp2_with fail
    rw [← hW0]
    refine (isTableau_any A D n' c n' d B B' m b W0 HL.out HL'.out hn hn' (by omega) (by omega) HM.out HR.out).mono ?_
    rintro e w2 ⟨rfl, b2⟩
    rw [ht]
    have HB2 := Lib.hid (HB.out.trans (b2.mono HB.out.size))
    have HM2 := Lib.hid (HM.out.below b2 (by omega))
    have HR2 := Lib.hid (HR.out.below b2 (by omega))
    have HX2 := HX.out.next b2
    have hz2 := b2.size
    have q0 := HX2.c0
    have q1 := HX2.c1
    clear b2 hW0 ht HX2
    go_wp2_with fail
    refine (schemeOf_any A D n' c n' d B B' n' m b w2 HL.out HL'.out t2 HW.out (by omega) (by omega) (by omega) (by omega) HM2.out HR2.out).mono ?_
    rintro e w3 ⟨A3, c3, D3, d3, rfl, hc3, hd3, m3, r3, b3⟩
    have HB3 := Lib.hid (HB2.out.trans (b3.mono HB2.out.size))
    have HM3 := Lib.hid m3
    have HR3 := Lib.hid r3
    clear b3 q0 q1 m3 r3
    go_wp2_with fail
    refine (impliedOrder_any A3 D3 n' c3 d3 w3.heap.size w3.heap.size m b w3 HL.out HL'.out t1 t2 HW.out HN.out HNB.out (Nat.le_refl _) (Nat.le_refl _) HM3.out HR3.out).mono ?_
    rintro e w4 ⟨rfl, b4⟩
    have HB4 := Lib.hid (HB3.out.trans (b4.mono HB3.out.size))
    clear b4
    go_wp2
    go_ret2
    exact ResI.of' G.out HB4.out
theorem assumptionOf_any (kd : Int) (w : World) : Calls Try.prog 48 #[.int .i64 kd] w fun e w' => e = .returned (if 0 ≤ kd ∧ kd ≤ 2 then kindV kd.toNat else .nilIface) ∧ w = w' := by
  by_cases h0 : kd = 0
  · subst h0
    go_enter Try.func48, Try.ntmps48
    go_wp2
    go_ret
    exact ⟨rfl, rfl⟩
  · by_cases h1 : kd = 1
    · subst h1
      go_enter Try.func48, Try.ntmps48
      go_wp2
      go_ret
      exact ⟨rfl, rfl⟩
    · by_cases h2 : kd = 2
      · subst h2
        go_enter Try.func48, Try.ntmps48
        go_wp2
        go_ret
        exact ⟨rfl, rfl⟩
      · rw [if_neg (by omega)]
        have t0 := beq_f h0
        have t1 := beq_f h1
        have t2 := beq_f h2
        go_enter Try.func48, Try.ntmps48
        go_wp2
        go_ret
        exact ⟨rfl, rfl⟩
set_option maxHeartbeats 2000000 in
theorem pMeetsAssumption_L (A D : Option Addr) (n c n' d B B' : Nat) (m : List (List Int)) (b : List Int) (kd k : Int) (w : World) (hkd : -9223372036854775808 ≤ kd ∧ kd ≤ 9223372036854775807) (hk : -9223372036854775808 ≤ k ∧ k ≤ 9223372036854775807) (hl : m.length = n) (hl' : b.length = n') (hn : n ≤ 9223372036854775807) (hn' : n' ≤ 9223372036854775807) (hB : B ≤ w.heap.size) (hB' : B' ≤ w.heap.size) (h : Mat w B A m) (r : Row w B' D (ints b)) :
    Calls Try.prog 22 #[.agg #[.slice A n c, .slice D n' d], .int .i64 kd, .int .i64 k] w (ResBI (meetsA m b kd k) w) := by
  have HL := Lib.hid hl
  have HL' := Lib.hid hl'
  obtain ⟨W0, hW0⟩ : ∃ W0, W0 = w.alloc (.cells #[.slice A n c, .slice D n' d] 29) := ⟨_, rfl⟩
  have HB : Hid (Below w.heap.size w W0) := by rw [hW0]; exact (Below.refl _ _).alloc (Nat.le_refl _) _
  have HM : Hid (Mat W0 B A m) := h.below HB.out hB
  have HR : Hid (Row W0 B' D (ints b)) := r.below HB.out hB'
  have HX : Hid (Bx W0 w.heap.size 29 (.slice A n c) (.slice D n' d)) := by rw [hW0]; exact Bx.new _ _ _ _
  have hz := HB.out.size
  clear hl hl' h r
  cases ht : isTabB m b
  · have G : Hid (meetsA m b kd k = (false, 1)) := by unfold meetsA; rw [Hid, ht]; rfl
    go_enter Try.func22, Try.ntmps22
    go_wp2_with fail
    rw [← hW0]
    refine (isTableau_any A D n c n' d B B' m b W0 HL.out HL'.out hn hn' (by omega) (by omega) HM.out HR.out).mono ?_
    rintro e w2 ⟨rfl, b2⟩
    rw [ht]
    have HB2 := Lib.hid (HB.out.trans (b2.mono HB.out.size))
    clear b2 hW0 ht
    go_wp2
    go_ret2
    exact ResBI.of G.out HB2.out
  · obtain ⟨t1, t2, t3, t4, t5, t6⟩ := isTabB_parts ht
    rw [HL'.out] at t1 t2 t3 t5
    have hnn : n' = n := by rw [← t3]; exact HL.out
    subst hnn
    have HW := Lib.hid t5
    have HNB := Lib.hid t4
    have HN := Lib.hid t6
    clear t3 t4 t5 t6
    have CAO := assumptionOf_any kd
    by_cases g1 : 0 ≤ kd ∧ kd ≤ 2
    · rw [if_pos g1] at CAO
      have g1' : kd.toNat = 0 ∨ kd.toNat = 1 ∨ kd.toNat = 2 := by omega
      obtain ⟨TV, hTV⟩ : ∃ T, kindV kd.toNat = .iface T (.agg #[]) := ⟨_, rfl⟩
      have HTV := Lib.hid hTV
      rw [hTV] at CAO
      clear hTV
      by_cases g2 : 0 ≤ k ∧ k ≤ 16
      · have G : Hid (meetsA m b kd k = (decide (k ≤ ((ordK m b kd.toNat : Nat) : Int)), 0)) := by unfold meetsA; rw [Hid, ht, if_pos rfl, if_pos ⟨g1.1, g1.2, g2.1, g2.2⟩]
        go_enter Try.func22, Try.ntmps22
        go_wp2_with fail
        rw [← hW0]
        refine (isTableau_any A D n' c n' d B B' m b W0 HL.out HL'.out hn hn' (by omega) (by omega) HM.out HR.out).mono ?_
        rintro e w2 ⟨rfl, b2⟩
        rw [ht]
        have HB2 := Lib.hid (HB.out.trans (b2.mono HB.out.size))
        have HM2 := Lib.hid (HM.out.below b2 (by omega))
        have HR2 := Lib.hid (HR.out.below b2 (by omega))
        have HX2 := HX.out.next b2
        have hz2 := b2.size
        have q0 := HX2.c0
        have q1 := HX2.c1
        clear b2 hW0 ht HX2
        go_wp2_with (go_at_call 48; refine (CAO _).mono ?_; rintro e w9 ⟨rfl, rfl⟩)
        refine (schemeOf_any A D n' c n' d B B' n' m b w2 HL.out HL'.out t2 HW.out (by omega) (by omega) (by omega) (by omega) HM2.out HR2.out).mono ?_
        rintro e w3 ⟨A3, c3, D3, d3, rfl, hc3, hd3, m3, r3, b3⟩
        have HB3 := Lib.hid (HB2.out.trans (b3.mono HB2.out.size))
        have HM3 := Lib.hid m3
        have HR3 := Lib.hid r3
        clear b3 q0 q1 m3 r3
        go_wp2_with fail
        rw [← HTV.out]
        refine (meetsTo_any A3 D3 n' c3 d3 w3.heap.size w3.heap.size kd.toNat m b w3 HL.out HL'.out t1 t2 HW.out HN.out HNB.out (by omega) (Nat.le_refl _) (Nat.le_refl _) HM3.out HR3.out).mono ?_
        rintro e w4 ⟨rfl, b4⟩
        have HB4 := Lib.hid (HB3.out.trans (b4.mono HB3.out.size))
        clear b4
        go_wp2
        go_ret2
        exact ResBI.of G.out HB4.out
      · have G : Hid (meetsA m b kd k = (false, 2)) := by unfold meetsA; rw [Hid, ht, if_pos rfl, if_neg (by omega)]
        go_enter Try.func22, Try.ntmps22
        go_wp2_with fail
        rw [← hW0]
        refine (isTableau_any A D n' c n' d B B' m b W0 HL.out HL'.out hn hn' (by omega) (by omega) HM.out HR.out).mono ?_
        rintro e w2 ⟨rfl, b2⟩
        rw [ht]
        have HB2 := Lib.hid (HB.out.trans (b2.mono HB.out.size))
        have HM2 := Lib.hid (HM.out.below b2 (by omega))
        have HR2 := Lib.hid (HR.out.below b2 (by omega))
        have HX2 := HX.out.next b2
        have hz2 := b2.size
        have q0 := HX2.c0
        have q1 := HX2.c1
        clear b2 hW0 ht HX2
        go_wp2_with (go_at_call 48; refine (CAO _).mono ?_; rintro e w9 ⟨rfl, rfl⟩)
        all_goals (go_ret2; exact ResBI.of G.out HB2.out)
    · rw [if_neg g1] at CAO
      have G : Hid (meetsA m b kd k = (false, 2)) := by unfold meetsA; rw [Hid, ht, if_pos rfl, if_neg (by omega)]
      go_enter Try.func22, Try.ntmps22
      go_wp2_with fail
      rw [← hW0]
      refine (isTableau_any A D n' c n' d B B' m b W0 HL.out HL'.out hn hn' (by omega) (by omega) HM.out HR.out).mono ?_
      rintro e w2 ⟨rfl, b2⟩
      rw [ht]
      have HB2 := Lib.hid (HB.out.trans (b2.mono HB.out.size))
      have HM2 := Lib.hid (HM.out.below b2 (by omega))
      have HR2 := Lib.hid (HR.out.below b2 (by omega))
      have HX2 := HX.out.next b2
      have hz2 := b2.size
      have q0 := HX2.c0
      have q1 := HX2.c1
      clear b2 hW0 ht HX2
      go_wp2_with (go_at_call 48; refine (CAO _).mono ?_; rintro e w9 ⟨rfl, rfl⟩)
      all_goals (go_ret2; exact ResBI.of G.out HB2.out)
end Go.Proofs.Ytfllcdcgfpjabaa
