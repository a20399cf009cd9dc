/-
  What ForestOf answers, the program's and the model's.
-/
import Derived.Test.YtgicbmfcojfjcaaForP
import Derived.Test.YtgicbmfcojfjcaaResM
import Derived.Test.YtgicbmfcojfjcaaPush
namespace Go.Proofs.Ytgicbmfcojfjcaa
open Go.RowKit Fld
set_option linter.unusedVariables false
set_option linter.unusedSimpArgs false
set_option maxRecDepth 100000

theorem lv_take_step {f : List (List Int)} {k : Nat} {r : List Int} (h : ∀ x ∈ f.take k, Tr.isLv x = true) (hr : f[k]? = some r) (hl : Tr.isLv r = true) : ∀ x ∈ f.take (k + 1), Tr.isLv x = true := fun x hx => by
  rw [List.take_add_one, hr, Option.toList_some, List.mem_append, List.mem_singleton] at hx
  rcases hx with hx | rfl
  · exact h x hx
  · exact hl
theorem allLvM_of {f : List (List Int)} (h : ∀ x ∈ f, Tr.isLv x = true) : allLvM f = true := by
  unfold allLvM; rw [List.all_eq_true]; exact h
set_option maxHeartbeats 2000000 in
theorem sForestOf_L (A : Option Addr) (n c B : Nat) (f : List (List Int)) (w : World) (hl : f.length = n) (hn : n + total f ≤ 1048576) (hB : B ≤ w.heap.size) (h : Mat w B A f) :
    Calls Try.prog 18 #[.slice A n c] w (ResMl (forestA f) w) := by
  obtain ⟨j0, hj, hy0, hy1, hy2⟩ := info_parts info_row
  have HL := Lib.hid hl
  have HN := Lib.hid hn
  have hn' : n ≤ 1048576 := by omega
  clear hl hn
  go_enter Try.func18, Try.ntmps18
  go_wp2_with fail
  go_loopw [4, 5] (fun v i wr => ∃ (k g cap : Nat), k ≤ n ∧ v = .slice (some ⟨g, 0, none⟩) k cap ∧ i = .int .i64 k ∧ Hid (∀ x ∈ f.take k, Tr.isLv x = true) ∧ GrowM w g k cap ((f.take k).map Tr.can) wr) (fun _ i _ => n - (intOf i).toNat)
  case atStart => exact ⟨0, _, 0, Nat.zero_le _, rfl, rfl, fun x hx => by simp at hx, GrowM.start ..⟩
  case round =>
    obtain ⟨k, g, cap, hk, rfl, rfl, HT, vs, HM, HBel⟩ := hrel
    have hsz := HBel.size
    by_cases hlt : k < n
    · obtain ⟨r, hr⟩ := at_lt (show k < f.length by rw [HL.out]; exact hlt)
      obtain ⟨b, o, Ak, ck, rfl, hb, hc, hrc, hcm, hrow⟩ := (h.below HBel hB) k r hr
      have hrl : r.length ≤ 1048576 := by have := row_total hr; have := HN.out; omega
      have C1 := l03Is_any Ak r.length ck B r wr rfl hrl hrow
      have HRR := Lib.hid hr
      have HB1 := Lib.hid HBel
      cases hlv : Tr.isLv r
      · have G := Lib.hid (forestA_no (allLvM_no hr hlv))
        rw [hlv] at C1
        clear hr HM HBel hlv
        go_wp2_with fail
        refine C1.mono ?_
        rintro e w' ⟨rfl, m, rfl⟩
        go_wp2
        go_ret2
        exact ResMl.nil G.out (below_drewN HB1.out _)
      · rw [hlv] at C1
        have HLV := Lib.hid hlv
        have GT : Hid (∀ x ∈ f.take (k + 1), Tr.isLv x = true) := lv_take_step HT.out hr hlv
        have HS : Hid ((f.take (k + 1)).map Tr.can = (f.take k).map Tr.can ++ [Tr.can r]) := by
          rw [Hid, List.take_add_one, hr, Option.toList_some, List.map_append]; rfl
        have HM' := Lib.hid HM
        have HRO := Lib.hid hrow
        have HCL : Hid ((Tr.can r).length = r.length) := (lv_can hlv).2
        have hr8 := (lv_bd hlv).2
        have hr1 := (lv_bd hlv).1
        clear hr HM HBel hlv HT hrow
        go_wp2_with fail
        refine C1.mono ?_
        rintro e w' ⟨rfl, m, rfl⟩
        go_wp2_with fail
        refine (l03Canon_any Ak r.length ck B r _ rfl HLV.out (by show B ≤ wr.heap.size; omega) (HRO.out.drewN m)).mono ?_
        rintro e w3 ⟨A3, c3, rfl, own3, bel3'⟩
        have bel3 : Below wr.heap.size wr w3 := below_undrew' bel3'
        have hs3 : wr.heap.size ≤ w3.heap.size := bel3.size
        have HM3 := Lib.hid (HM'.out.below bel3 (Nat.le_refl _))
        have HB3 : Hid (Below w.heap.size w w3) := HB1.out.trans (bel3.mono hsz)
        have HO3 : Hid (w3.ownsRow wr.heap.size 2 1 (.slice A3 r.length c3) r.length (ints (Tr.can r))) := own3
        have hownO := HM3.out.outer.1
        clear own3 bel3 bel3' C1
        go_wp2_with (at_builtin; refine wpList_append_lies _ rfl (.tmp 19) (.tmp 25) 22 rfl w.heap.size 30 j0 _ 1 24 Try.underlying22 hj hy0 hy1 hy2 rfl (by omega) (.slice (some ⟨g, 0, none⟩) k cap) k vs rfl (hownO.alloc _) ⟨w3.heap.size, 0, none⟩ 1 1 [.slice A3 r.length c3] rfl rfl (World.news_of_block (cs := #[.slice A3 r.length c3]) (heap_alloc_new _ _)) (by simp [Value.oneCell']) (by omega) (by simp only [maxLen]; omega) (by omega) (by simp; omega) (w3.heap.size + 1) (by simp) ?_; intro g5 cap5 w5 hown5 hgrow5 hat5 hlt5)
        have hs5 : w3.heap.size ≤ w5.heap.size := by have := hgrow5.size; simp at this; omega
        have G : Hid (GrowM w g5 (k + 1) cap5 ((f.take (k + 1)).map Tr.can) w5) := by
          rw [Hid, HS.out]
          refine ⟨_, HM3.out.push (row := Tr.can r) hs3 HCL.out HO3.out hsz hown5 hgrow5, ?_⟩
          exact (HB3.out.alloc (by omega) _).grown hgrow5 (by simp; omega) (fun q hq => (hownO.lt q hq).1)
        clear hown5 hgrow5 hat5 hownO
        go_wp2
        go_roundw
        case rel => exact ⟨k + 1, g5, cap5, by omega, rfl, by go_num, GT, G.out⟩
        case measure => simp [intOf]; omega
    · obtain rfl : k = n := by omega
      rw [List.take_of_length_le (by rw [HL.out]; exact Nat.le_refl _)] at HT HM
      have hall := allLvM_of HT.out
      have HTC : Hid (total (f.map Tr.can) = total f) := total_can HT.out
      have HLC : Hid ((f.map Tr.can).length = k) := by rw [Hid, List.length_map]; exact HL.out
      have HMat : Hid (Mat wr wr.heap.size (some ⟨g, 0, none⟩) (f.map Tr.can)) := HM.mat
      have GB := Lib.hid HBel
      have C1 := l03Nodes_any (some ⟨g, 0, none⟩) k cap wr.heap.size (f.map Tr.can) wr HLC.out (by rw [HTC.out]; exact HN.out) HMat.out
      rw [HTC.out] at C1
      by_cases h8 : total f ≤ 8
      · have G := Lib.hid (forestA_yes hall h8)
        obtain ⟨z1, z2, z3⟩ := forest_size hall h8
        rw [HL.out] at z1 z2
        have Z2 := Lib.hid z2
        have Z3 := Lib.hid z3
        have HLVC : Hid (∀ r ∈ f.map Tr.can, Tr.isLv r = true) := fun r hr => by
          rw [List.mem_map] at hr
          obtain ⟨t, ht, rfl⟩ := hr
          exact (lv_can (HT.out t ht)).1
        obtain ⟨s, hs⟩ : ∃ s, s = total f := ⟨_, rfl⟩
        rw [← hs] at C1 h8
        clear HM HBel HT hall hs z2 z3
        go_wp2_with fail
        refine C1.mono ?_
        rintro e w2 ⟨rfl, rfl⟩
        go_wp2_with fail
        refine (l03Sort_any (some ⟨g, 0, none⟩) k cap _ (f.map Tr.can) _ HLC.out z1 HLVC.out (Nat.le_refl _) HMat.out).mono ?_
        rintro e w3 ⟨b4, o4, cap4, rfl, hcap4, hrws, bel3⟩
        have GM := Lib.hid hrws.mat
        have GB3 := Lib.hid (GB.out.trans (bel3.mono hsz))
        clear hrws bel3 C1
        go_wp2
        go_ret2
        exact ResMl.of G.out rfl Z3.out GM.out GB3.out
      · have G := Lib.hid (forestA_big hall h8)
        have h8' : 8 < total f := by omega
        have ht : total f ≤ 1048576 := by have := HN.out; omega
        obtain ⟨s, hs⟩ : ∃ s, s = total f := ⟨_, rfl⟩
        rw [← hs] at C1 h8' ht
        clear HM HBel HT hall hs h8
        go_wp2_with fail
        refine C1.mono ?_
        rintro e w2 ⟨rfl, rfl⟩
        clear C1
        go_wp2
        go_ret2
        exact ResMl.nil G.out GB.out
set_option maxHeartbeats 1000000 in
theorem pForestOf_L (A : Option Addr) (n c B : Nat) (f : List (List Int)) (w : World) (hl : f.length = n) (hn : n + total f ≤ 1048576) (hB : B ≤ w.heap.size) (h : Mat w B A f) :
    Calls Try.prog 20 #[.slice A n c] w (ResM (forestA f) w) := by
  have C0 := areLevels_any A n c B f w hl (by omega) (fun r hr => by have := row_le_total r hr; omega) (Lsts.of_mat h)
  have C1 := fun m => nodesOf_any A n c B f (w.drewN m) hl hn (h.keep fun _ _ _ => rfl)
  have HL := Lib.hid hl
  have HN := Lib.hid hn
  have HN8 : Hid (n ≤ 1048576) := by rw [Hid]; omega
  cases hf : allLvM f
  · have G := Lib.hid (forestA_no hf)
    rw [hf] at C0
    clear hl hn
    go_enter Try.func20, Try.ntmps20
    go_wp2_with fail
    refine C0.mono ?_
    rintro e w' ⟨rfl, m, rfl⟩
    go_wp2
    go_ret2
    exact ResM.nil G.out (below_drewN (Below.refl _ _) _)
  · rw [hf] at C0
    by_cases h8 : total f ≤ 8
    · have G := Lib.hid (forestA_yes hf h8)
      obtain ⟨z1, z2, z3⟩ := forest_size hf h8
      rw [hl] at z1
      have Z3 := Lib.hid z3
      have hm := allLvM_mem hf
      have HLV := Lib.hid hm
      have HSC : Hid ((Tr.sortT (f.map Tr.txt)).map Tr.lvl = Tr.sortL (f.map Tr.can)) := sortL_can hm
      have H16 : Hid (∀ s ∈ f.map Tr.txt, s.length ≤ 16 ∧ Brk s) := fun s hs => by
        rw [List.mem_map] at hs
        obtain ⟨t, ht, rfl⟩ := hs
        have h1 := (lv_txt (hm t ht)).2.2.2
        have h2 := (lv_bd (hm t ht)).2
        exact ⟨by omega, txt_brk _ _⟩
      obtain ⟨s, hs⟩ : ∃ s, s = total f := ⟨_, rfl⟩
      simp only [← hs] at C1 h8
      clear hl hn hf hs z2 z3 hm
      go_enter Try.func20, Try.ntmps20
      go_wp2_with fail
      refine C0.mono ?_
      rintro e w' ⟨rfl, m, rfl⟩
      go_wp2_with fail
      refine (C1 _).mono ?_
      rintro e w2 ⟨rfl, rfl⟩
      go_wp2_with fail
      refine (treesOf_any A n c B f (w.drewN m) HL.out HN8.out HLV.out hB (h.keep fun _ _ _ => rfl)).mono ?_
      rintro e w2 ⟨rfl, own2, bel2'⟩
      have bel2 : Below w.heap.size w w2 := below_undrew' bel2'
      have hs2 := bel2.size
      have HB2 := Lib.hid bel2
      have HO2 := Lib.hid own2
      clear own2 bel2 bel2' C1
      go_wp2_with fail
      refine (forestOf_any _ w.heap.size n n (f.map Tr.txt) w2 (by omega) H16.out hs2 HO2.out).mono ?_
      rintro e w4 ⟨A4, c4, vs4, rfl, own4, bel4⟩
      rw [HSC.out] at own4
      have GO := Lib.hid own4
      have GB : Hid (Below w.heap.size w w4) := HB2.out.trans bel4
      clear own4 bel4
      go_wp2
      go_ret2
      exact ResM.of G.out Z3.out GO.out GB.out
    · have G := Lib.hid (forestA_big hf h8)
      have h8' : 8 < total f := by omega
      have ht : total f ≤ 1048576 := by omega
      obtain ⟨s, hs⟩ : ∃ s, s = total f := ⟨_, rfl⟩
      simp only [← hs] at C1 h8' ht
      clear hl hn hf hs h8
      go_enter Try.func20, Try.ntmps20
      go_wp2_with fail
      refine C0.mono ?_
      rintro e w' ⟨rfl, m, rfl⟩
      go_wp2_with fail
      refine (C1 _).mono ?_
      rintro e w2 ⟨rfl, rfl⟩
      clear C1
      go_wp2
      go_ret2
      exact ResM.nil G.out (below_drewN (Below.refl _ _) _)
end Go.Proofs.Ytgicbmfcojfjcaa
