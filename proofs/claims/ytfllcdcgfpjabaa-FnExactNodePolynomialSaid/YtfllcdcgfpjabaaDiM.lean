/-
  Lists of different numbers, the model's test: l11Nodes.
-/
import Derived.Test.YtfllcdcgfpjabaaSlices
import Derived.Test.YtfllcdcgfpjabaaBase
namespace Go.Proofs.Ytfllcdcgfpjabaa
open Go.RowKit Fld
set_option linter.unusedVariables false
set_option linter.unusedSimpArgs false
set_option maxRecDepth 100000

/-- the code of a list of nodes -/
def nodesC (ns : List Int) : Int := if 1 ≤ ns.length ∧ ns.length ≤ 8 ∧ allNum ns = true then (if ns.Nodup then 0 else 5) else 2
theorem nodesC_no {ns : List Int} (h : ¬ (1 ≤ ns.length ∧ ns.length ≤ 8 ∧ allNum ns = true)) : nodesC ns = 2 := if_neg h
theorem nodesC_yes {ns : List Int} (h : 1 ≤ ns.length ∧ ns.length ≤ 8 ∧ allNum ns = true) (d : ns.Nodup) : nodesC ns = 0 := by unfold nodesC; rw [if_pos h, if_pos d]
theorem nodesC_same {ns : List Int} (h : 1 ≤ ns.length ∧ ns.length ≤ 8 ∧ allNum ns = true) (d : ¬ ns.Nodup) : nodesC ns = 5 := by unfold nodesC; rw [if_pos h, if_neg d]
theorem nodup_next {ns : List Int} {k : Nat} {x : Int} (h : (ns.take k).Nodup) (hx : ns[k]? = some x) (hn : x ∉ ns.take k) : (ns.take (k + 1)).Nodup := by
  rw [List.take_add_one, hx, Option.toList_some, List.nodup_append]
  refine ⟨h, by simp, fun a ha b hb => ?_⟩
  rw [List.mem_singleton] at hb
  subst hb
  exact fun e => hn (e ▸ ha)
theorem nodup_not {ns : List Int} {k : Nat} {x : Int} (hx : ns[k]? = some x) (hn : x ∈ ns.take k) : ¬ ns.Nodup := fun h => by
  rw [← List.take_append_drop (k + 1) ns, List.nodup_append] at h
  have h1 := h.1
  rw [List.take_add_one, hx, Option.toList_some, List.nodup_append] at h1
  exact h1.2.2 x hn x (by simp) rfl
theorem has_next {xs : List Int} {k : Nat} {x y : Int} (h : x ∉ xs.take k) (hy : xs[k]? = some y) (hn : ¬ y = x) : x ∉ xs.take (k + 1) := by
  rw [List.take_add_one, hy, Option.toList_some, List.mem_append, List.mem_singleton]
  exact fun hh => hh.elim h fun e => hn e.symm
theorem take_rowD {w : World} {B : Nat} {A : Option Addr} {xs : List Int} (n : Nat) (h : Row w B A (ints xs)) : Row w B A (ints (xs.take n)) := by
  have e : ints xs = ints (xs.take n) ++ ints (xs.drop n) := by unfold ints intsK; rw [← List.map_append, List.take_append_drop]
  rw [e] at h
  exact h.take
theorem l01Index_any (A : Option Addr) (n c B : Nat) (xs : List Int) (x : Int) (w : World) (hl : xs.length = n) (hn : n ≤ 9223372036854775807) (h : Row w B A (ints xs)) :
    Calls Try.prog 108 #[.slice A n c, .int .i64 x] w fun e w' => (∃ j : Int, e = .returned (.int .i64 j) ∧ (0 ≤ j ↔ x ∈ xs)) ∧ w = w' := by
  have HL := Lib.hid hl
  clear hl
  go_enter Try.func108, Try.ntmps108
  go_wp2_with fail
  go_loop [5] (fun i => ∃ k : Nat, k ≤ n ∧ i = .int .i64 k ∧ Hid (x ∉ xs.take k)) (fun i => n - (intOf i).toNat)
  case atStart => exact ⟨0, Nat.zero_le _, rfl, by rw [Hid]; simp⟩
  case round =>
    obtain ⟨k, hk, rfl, HX⟩ := hrel
    by_cases hlt : k < n
    · obtain ⟨y, hy⟩ := at_lt (show k < xs.length by rw [HL.out]; exact hlt)
      obtain ⟨b0, o0, rfl, _, hcell⟩ := h k _ (ints_at hy)
      by_cases e : y = x
      · subst e
        have G : Hid (y ∈ xs) := List.mem_of_getElem? hy
        clear hy HX
        go_wp2
        go_ret
        exact ⟨⟨_, rfl, ⟨fun _ => G.out, fun _ => by omega⟩⟩, rfl⟩
      · have G := Lib.hid (has_next HX.out hy e)
        have t := beq_f e
        clear hy HX e
        go_wp2
        go_round
        case rel => exact ⟨k + 1, by omega, by go_num, G⟩
        case measure => simp [intOf]; omega
    · obtain rfl : k = n := by omega
      have G : Hid (x ∉ xs) := by have := HX.out; rwa [List.take_of_length_le (by rw [HL.out]; exact Nat.le_refl _)] at this
      clear HX
      go_wp2
      go_ret
      exact ⟨⟨_, rfl, ⟨fun h => by omega, fun h => absurd h G.out⟩⟩, rfl⟩
theorem l01Has_any (A : Option Addr) (n c B : Nat) (xs : List Int) (x : Int) (w : World) (hl : xs.length = n) (hn : n ≤ 9223372036854775807) (h : Row w B A (ints xs)) :
    Calls Try.prog 79 #[.slice A n c, .int .i64 x] w fun e w' => e = .returned (.bool (decide (x ∈ xs))) ∧ w = w' := by
  have C := l01Index_any A n c B xs x w hl hn h
  clear hl
  go_enter Try.func79, Try.ntmps79
  go_wp2_with fail
  refine C.mono ?_
  rintro e w' ⟨⟨j, rfl, hj⟩, rfl⟩
  have G : Hid (decide (0 ≤ j) = decide (x ∈ xs)) := decide_eq_decide.2 hj
  clear hj C
  go_wp2
  go_ret
  exact ⟨ret_bool G.out, rfl⟩
set_option maxHeartbeats 1000000 in
theorem l11Nodes_any (A : Option Addr) (n c B : Nat) (xs : List Int) (w : World) (hl : xs.length = n) (hn : n ≤ 9223372036854775807) (hc : n ≤ c) (hB : B ≤ w.heap.size) (h : Row w B A (ints xs)) :
    Calls Try.prog 52 #[.slice A n c] w fun e w' => e = .returned (.int .i64 (nodesC xs)) ∧ ∃ m, w' = w.drewN m := by
  have HL := Lib.hid hl
  by_cases h1 : 1 ≤ n
  · by_cases h8 : n ≤ 8
    · cases hnum : allNum xs
      · have G := Lib.hid (nodesC_no (ns := xs) (by rw [hnum]; simp))
        clear hl
        go_enter Try.func52, Try.ntmps52
        go_wp2_with fail
        refine (l01Numbers_any A n c B xs w HL.out hn h).mono ?_
        rintro e w' ⟨rfl, rfl⟩
        rw [hnum]
        clear hnum
        go_wp2
        go_ret
        exact ⟨ret_i64 G.out.symm, 0, rfl⟩
      · have HOK : Hid (1 ≤ xs.length ∧ xs.length ≤ 8 ∧ allNum xs = true) := ⟨by rw [hl]; exact h1, by rw [hl]; exact h8, hnum⟩
        clear hl
        go_enter Try.func52, Try.ntmps52
        go_wp2_with fail
        refine (l01Numbers_any A n c B xs w HL.out hn h).mono ?_
        rintro e w' ⟨rfl, rfl⟩
        rw [hnum]
        clear hnum
        go_wp2_with fail
        go_loopw [3] (fun i wr => ∃ k m : Nat, k ≤ n ∧ i = .int .i64 k ∧ wr = w.drewN m ∧ Hid ((xs.take k).Nodup)) (fun i _ => n - (intOf i).toNat)
        case atStart => exact ⟨0, 0, Nat.zero_le _, rfl, rfl, by rw [Hid]; simp⟩
        case round =>
          obtain ⟨k, m, hk, rfl, rfl, HD⟩ := hrel
          by_cases hlt : k < n
          · obtain ⟨y, hy⟩ := at_lt (show k < xs.length by rw [HL.out]; exact hlt)
            obtain ⟨b0, o0, rfl, _, hcell⟩ := h k _ (ints_at hy)
            have hkc : k ≤ c := by omega
            have C := fun j => l01Has_any (some ⟨b0, o0, none⟩) k c B (xs.take k) y (w.drewN j) (by rw [List.length_take, HL.out]; omega) (by omega) ((take_rowD k h).drewN j)
            by_cases hm : y ∈ xs.take k
            · have G := Lib.hid (nodesC_same HOK.out (nodup_not hy hm))
              have HM : decide (y ∈ xs.take k) = true := decide_eq_true hm
              rw [HM] at C
              clear hy HD hm HM
              go_wp2_with fail
              go_quiet ((go_at_call 79; first | exact quietL (C _) | exact quietL2 (C _)))
              go_wp2
              go_ret
              exact ⟨ret_i64 G.out.symm, _, by first | rfl | rw [World.drewN_drewN]⟩
            · have G := Lib.hid (nodup_next HD.out hy hm)
              have HM : decide (y ∈ xs.take k) = false := decide_eq_false hm
              rw [HM] at C
              clear hy HD hm HM
              go_wp2_with fail
              go_quiet ((go_at_call 79; first | exact quietL (C _) | exact quietL2 (C _)))
              go_wp2
              go_roundw
              case rel => exact ⟨k + 1, _, by omega, by go_num, by first | rfl | rw [World.drewN_drewN], G⟩
              case measure => simp [intOf]; omega
          · obtain rfl : k = n := by omega
            have G := Lib.hid (nodesC_yes HOK.out (by have := HD.out; rwa [List.take_of_length_le (by rw [HL.out]; exact Nat.le_refl _)] at this))
            clear HD
            go_wp2
            go_ret
            exact ⟨ret_i64 G.out.symm, _, by first | rfl | rw [World.drewN_drewN]⟩
    · have G := Lib.hid (nodesC_no (ns := xs) (by rw [hl]; omega))
      clear hl
      go_enter Try.func52, Try.ntmps52
      go_wp2
      go_ret
      exact ⟨ret_i64 G.out.symm, 0, rfl⟩
  · have G := Lib.hid (nodesC_no (ns := xs) (by rw [hl]; omega))
    clear hl
    go_enter Try.func52, Try.ntmps52
    go_wp2
    go_ret
    exact ⟨ret_i64 G.out.symm, 0, rfl⟩
end Go.Proofs.Ytfllcdcgfpjabaa
