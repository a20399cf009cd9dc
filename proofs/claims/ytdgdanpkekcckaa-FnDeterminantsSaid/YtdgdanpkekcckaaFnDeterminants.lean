/-
  PROVED: for every code the law FnDeterminants returns true: the determinant of a product is the product of the determinants, and a matrix has an inverse, whose products with it are the unit matrix, exactly if its determinant is not 0.
  CONDITIONS: none; every slice of bytes.
-/
import Derived.Test.YtdgdanpkekcckaaDrawR
import Derived.Test.YtdgdanpkekcckaaDmv
import Derived.Test.YtdgdanpkekcckaaLkR
import Derived.Test.YtdgdanpkekcckaaInvL
import Derived.Test.YtdgdanpkekcckaaSysOf
import Derived.Test.YtdgdanpkekcckaaFFnDeterminants
namespace Go.Proofs.Ytdgdanpkekcckaa.fnDeterminants
open Go.ChangeShapes Go.WideShapes Go.ChangeAt Go.RowKit Fld
set_option linter.unusedVariables false
set_option linter.unusedSimpArgs false
set_option maxRecDepth 100000

theorem mat_only {w w' : World} {B G : Nat} {A : Option Addr} {m : List (List Int)} (h : Mat w B A m) (hB : B ≤ w.heap.size) (k : w.grownBy w' (some G)) (hG : B ≤ G) : Mat w' B A m :=
  h.keep fun b o hb => World.cell?_of_block (a := ⟨b, o, none⟩) (k.block b (by omega) (fun e => by have := Option.some.inj e; omega))
theorem mat_next {w w' : World} {A : Option Addr} {m : List (List Int)} (h : Mat w w.heap.size A m) (b : Below w.heap.size w w') : Mat w' w'.heap.size A m := (h.below b (Nat.le_refl _)).more b.size
theorem resI_outD {a k : Int} {r : Int × Int} {w w' : World} {e : Ending} (h : ResI r w e w') (hr : r = (a, k)) : e = .returned (.tuple #[.int .i64 a, .int .i64 k]) ∧ Below w.heap.size w w' := by
  subst hr; exact h
theorem resM_outD {M : List (List Int)} {k : Int} {r : List (List Int) × Int} {w w' : World} {e : Ending} {n : Nat} (h : ResM r w e w') (hr : r = (M, k)) (hq : M.length = n) : ∃ A c, e = .returned (.tuple #[.slice A n c, .int .i64 k]) ∧ Mat w' w'.heap.size A M ∧ Below w.heap.size w w' := by
  subst hr hq
  obtain ⟨_, A, c, vs, rfl, o, b⟩ := h
  exact ⟨A, c, rfl, o.mat, b⟩
theorem matEnd_outD {M : List (List Int)} {k : Int} {r : List (List Int) × Int} {w w' : World} {e : Ending} {n : Nat} (h : MatEnd r w e w') (hr : r = (M, k)) (hq : M.length = n) : ∃ A c, e = .returned (.tuple #[.slice A n c, .int .i64 k]) ∧ Mat w' w'.heap.size A M ∧ Below w.heap.size w w' := by
  subst hr hq
  obtain ⟨A, n, c, vs, rfl, o, b⟩ := h
  have := o.size
  subst this
  exact ⟨A, c, rfl, o.mat, b⟩
theorem unit_madeD (n k : Nat) : ((madeCells (Value.int .i64 0).cells (n * 1)).toList).set k (.int .i64 1) = ints (unitRow n k) := by
  have e : (madeCells (Value.int .i64 0).cells (n * 1)).toList = List.replicate n (.int .i64 0) := by rw [Nat.mul_one]; exact toList_madeCells_one _ _
  rw [e]
  unfold unitRow ints intsK
  rw [List.map_set, List.map_replicate]
theorem made_cellD {w : World} {lo n g k : Nat} {T : TypeId} (h : w.ownsRow lo T 1 (.slice (some ⟨g, 0, none⟩) n n) n (madeCells (Value.int .i64 0).cells (n * 1)).toList) (hk : k < n) : w.cell? ⟨g, k, none⟩ = some (.int .i64 0) := by
  have hcl := h.cellAt k (by omega)
  rw [show (madeCells (Value.int .i64 0).cells (n * 1)).toList = List.replicate n (.int .i64 0) by rw [Nat.mul_one]; exact toList_madeCells_one _ _, List.getElem?_replicate, if_pos hk] at hcl
  exact hcl
theorem nums_pushD {m : List (List Int)} {r : List Int} (h : ∀ r ∈ m, allNum r = true) (hr : allNum r = true) : ∀ s ∈ m ++ [r], allNum s = true := fun s hs => by
  rcases List.mem_append.1 hs with h1 | h1
  · exact h s h1
  · rw [List.mem_singleton] at h1; subst h1; exact hr
theorem prod_in {a b : Int} (a0 : 0 ≤ a) (a1 : a < 10007) (b0 : 0 ≤ b) (b1 : b < 10007) : IntKind.i64.wrap (a * b) = a * b := by
  have h0 := Int.mul_nonneg a0 b0
  have h1 : a * b ≤ 10007 * 10007 := Int.mul_le_mul (by omega) (by omega) b0 (by omega)
  generalize a * b = x at *
  exact IntWalk.i64_in _ (by omega)

set_option maxHeartbeats 16000000 in
theorem walk (w : World) (a0 : Option Addr) (len0 cap0 : Nat) (z0 : List Int) (w0 : IsRow .u8 w a0 len0 cap0 z0) : Calls Try.prog 3 #[.slice a0 len0 cap0] w fun e w' => e = .returned (.bool true) ∧ Below w.heap.size w w' := by
  obtain ⟨i0, hi, hz0, hz1, hz2⟩ := info_parts info_i64
  obtain ⟨j0, hj, hy0, hy1, hy2⟩ := info_parts info_row
  have hcode := isCode_of w0
  have hcm := w0.2.2.1
  have hlc := w0.2.1
  unfold maxLen at hcm
  obtain ⟨xs, hxs⟩ : ∃ xs, IsCode w _ len0 xs := ⟨_, hcode⟩
  have HC := Lib.hid hxs
  clear hcode w0 hxs
  by_cases hn : len0 ≤ 4096
  · have t0 : decide ((4096 : Int) < len0) = false := decide_eq_false (by omega)
    go_enter Try.func3, Try.ntmps3
    go_wp2_with fail
    refine (big_any _ _ _ _ (by omega)).mono ?_
    rintro e w' ⟨rfl, rfl⟩
    go_wp2_with fail
    refine (drawDeterminant_any _ _ _ _ _ hn HC.out).mono ?_
    rintro e u1 ⟨A, n, c, m, rfl, hml, h9, M1, b1⟩
    have HL := Lib.hid hml
    have HM1 := Lib.hid M1
    have HB1 := Lib.hid b1
    have HC1 := Lib.hid (HC.out.below b1)
    have hbz := b1.size
    clear hml M1 b1 HC
    obtain ⟨D, K, hDK⟩ : ∃ D K, detA m = (D, K) := ⟨_, _, rfl⟩
    have HDK := Lib.hid hDK
    clear hDK
    go_wp2_with fail
    refine (pDeterminant_any A n c u1.heap.size m u1 HL.out (by omega) (Nat.le_refl _) HM1.out).mono ?_
    rintro e u2 hN
    obtain ⟨rfl, y⟩ := resI_outD hN HDK.out
    have hz2' := y.size
    have HM2 := Lib.hid (mat_next HM1.out y)
    have HB2 := Lib.hid (HB1.out.trans (y.mono hbz))
    have HC2 := Lib.hid (HC1.out.below y)
    clear hN y HM1 HB1 HC1
    go_wp2_with fail
    refine (sDeterminant_any A n c u2.heap.size m u2 HL.out (by omega) (Nat.le_refl _) HM2.out).mono ?_
    rintro e u3 hN
    obtain ⟨rfl, y⟩ := resI_outD hN HDK.out
    have hz3' := y.size
    have HM3 := Lib.hid (mat_next HM2.out y)
    have HB3 := Lib.hid (HB2.out.trans (y.mono (by omega)))
    have HC3 := Lib.hid (HC2.out.below y)
    have z1 := bne_f (show K = K from rfl)
    have z2 := bne_f (show D = D from rfl)
    clear hN y HM2 HB2 HC2
    by_cases hK : K = 0
    · have hsq := sq_of_det (m := m) (by rw [HDK.out]; exact hK)
      rw [HL.out] at hsq
      have hD : D = detL m := by have h := hsq.det; rw [HDK.out] at h; exact congrArg Prod.fst h
      subst hK
      have HSQ := Lib.hid hsq
      have HD := Lib.hid hD
      have n1 : 1 ≤ n := hsq.one
      have n8 : n ≤ 8 := hsq.eight
      have d0 : 0 ≤ D := by rw [hD]; exact detL_lo m
      have d1 : D < 10007 := by rw [hD]; exact detL_hi m
      clear hsq hD HDK
      go_wp2_with fail
      refine (roll_any _ _ _ u3.heap.size _ _ _ HC3.out.1 hn (Nat.le_refl _) HC3.out.2.1 HC3.out.2.2).mono ?_
      rintro e u4 ⟨G, rfl, hG, s4, b4⟩
      have hz4' := b4.size
      have hG4 := s4.lt
      have HM4 := Lib.hid (HM3.out.below b4 (Nat.le_refl _))
      have HB4 := Lib.hid (HB3.out.trans (b4.mono (by omega)))
      have HS4 := Lib.hid s4
      clear s4 b4 HM3 HB3 HC3
      go_wp2_with fail
      go_loopw [9, 10] (fun v i wr => ∃ k g cap : Nat, ∃ (b : List (List Int)) (vs : List Value), k ≤ n ∧ v = .slice (some ⟨g, 0, none⟩) k cap ∧ i = .int .i64 k ∧ Wide b n ∧ (∀ r ∈ b, allNum r = true) ∧ OwnMat wr u4.heap.size wr.heap.size (.slice (some ⟨g, 0, none⟩) k cap) k b vs ∧ Src wr 49 G u3.heap.size xs ∧ u4.grownBy wr (some G)) (fun _ i _ => n - (intOf i).toNat)
      case atStart => exact ⟨0, _, 0, [], [], Nat.zero_le _, rfl, rfl, fun _ h => by simp at h, fun _ h => by simp at h, by have := OwnMat.empty u4; simpa using this, HS4.out.alloc _, World.grownBy_alloc u4 _ _⟩
      case round =>
        clear HS4
        obtain ⟨k, g, cap, b, vs, hk, rfl, rfl, hw, hnb, hM, hs, ho⟩ := hrel
        have HW := Lib.hid hw
        have HNB := Lib.hid hnb
        have HMB := Lib.hid hM
        have HO := Lib.hid ho
        have HS1 := Lib.hid hs
        have hsz := ho.size
        have hgl1 := (hM.outer.1.lt g rfl).1
        clear hw hnb hM hs ho
        generalize wr = wo at *
        by_cases hlt : k < n
        · go_wp2_with fail
          refine (list5_any G _ xs n _ (by omega) HS1.out).mono ?_
          rintro e w1 ⟨g2, c2, n2, ys, rfl, hy, ⟨hy1', hyn⟩, own1, s1, o1⟩
          obtain rfl : n = n2 := by omega
          have hq1 := o1.size
          have M1 := Lib.hid (HMB.out.past (Nat.le_refl _) (by omega) o1)
          have O1 := Lib.hid (only_trans HO.out o1)
          have S1 := Lib.hid s1
          have Y := Lib.hid hy
          have YN := Lib.hid hyn
          have R1 := Lib.hid own1
          clear own1 s1 o1 hy hy1' hyn HMB HO HS1
          go_wp2_with (at_builtin; refine wpList_append_lies _ rfl (.tmp 59) (.tmp 64) 24 rfl u4.heap.size 31 j0 _ 1 24 Try.underlying24 hj hy0 hy1 hy2 rfl (by omega) (.slice (some ⟨g, 0, none⟩) k cap) k vs rfl (M1.out.outer.1.alloc _) ⟨w1.heap.size, 0, none⟩ 1 1 [.slice (some ⟨g2, 0, none⟩) n c2] rfl rfl (World.news_of_block (cs := #[.slice (some ⟨g2, 0, none⟩) n c2]) (heap_alloc_new _ _)) (by simp [Value.oneCell']) (by omega) (by simp only [maxLen]; omega) (by omega) (by simp; omega) (w1.heap.size + 1) (by simp) ?_; intro g5 cap5 w5 hown5 hgrow5 hat5 hlt5)
          have hM5 := M1.out.push (row := ys) hq1 Y.out R1.out (by omega) hown5 hgrow5
          have hS5 := (S1.out.alloc (.cells #[.slice (some ⟨g2, 0, none⟩) n c2] 31)).only (g := g) hgrow5 (by omega) (by omega)
          have hO5 := only_row (only_alloc O1.out (.cells #[.slice (some ⟨g2, 0, none⟩) n c2] 31)) hgrow5 hgl1
          have Q1 := Lib.hid hM5
          have Q2 := Lib.hid hS5
          have Q3 := Lib.hid hO5
          clear hM5 hS5 hO5 hown5 hgrow5 hat5
          go_wp2
          go_roundw
          case rel => exact ⟨k + 1, g5, cap5, b ++ [ys], _, by omega, rfl, by go_num, wide_pushR HW.out Y.out, nums_pushD HNB.out YN.out, Q1.out, Q2.out, Q3.out⟩
          case measure => simp [intOf]; omega
        · obtain rfl : k = n := by omega
          have hsb : Sq k b := ⟨HMB.out.size, n1, n8, HW.out, HNB.out⟩
          have HSB := Lib.hid hsb
          have HMA := Lib.hid ((mat_only HM4.out (by omega) HO.out hG).more (by omega : u3.heap.size ≤ wo.heap.size))
          have HBB := Lib.hid (below_only HB4.out HO.out (by omega) (by omega))
          have HBM := Lib.hid HMB.out.mat
          have hb5 := hsb.det
          obtain ⟨E, hE⟩ : ∃ E, E = detL b := ⟨_, rfl⟩
          have e0 : 0 ≤ E := by rw [hE]; exact detL_lo b
          have e1 : E < 10007 := by rw [hE]; exact detL_hi b
          rw [← hE] at hb5
          have HDB := Lib.hid hb5
          have HE := Lib.hid hE
          have hbl := hsb.len
          have HBL := Lib.hid hbl
          clear hsb hb5 hE hbl HW HNB HMB HO HS1 HM4 HB4
          go_wp2_with fail
          refine (pDeterminant_any _ k cap wo.heap.size b wo HBL.out (by omega) (Nat.le_refl _) HBM.out).mono ?_
          rintro e u5 hN
          obtain ⟨rfl, y⟩ := resI_outD hN HDB.out
          have hz5' := y.size
          have HMA5 := Lib.hid (mat_next HMA.out y)
          have HBM5 := Lib.hid (mat_next HBM.out y)
          have HBB5 := Lib.hid (HBB.out.trans (y.mono (by omega)))
          clear hN y HMA HBM HBB HDB
          go_wp2_with fail
          refine (multiplyMatrices_any _ _ k k _ _ u5.heap.size m b u5 HL.out HBL.out (by omega) (by omega) (Nat.le_refl _) HMA5.out HBM5.out).mono ?_
          rintro e u6 hN
          obtain ⟨A6, c6, rfl, M6, y⟩ := matEnd_outD (n := k) hN (mul_sq HSQ.out HSB.out) (prod_sq HSQ.out HSB.out).len
          have hz6' := y.size
          have HMP6 := Lib.hid M6
          have HMA6 := Lib.hid (mat_next HMA5.out y)
          have HBB6 := Lib.hid (HBB5.out.trans (y.mono (by omega)))
          clear hN y M6 HMA5 HBM5 HBB5
          have HPS := Lib.hid (prod_sq HSQ.out HSB.out)
          have hpd := prod_det HSQ.out HSB.out
          rw [← HD.out, ← HE.out] at hpd
          obtain ⟨Pm, hPm⟩ : ∃ Pm, Pm = prodM m b := ⟨_, rfl⟩
          rw [← hPm] at hpd HMP6 HPS
          have hpdet := HPS.out.det
          obtain ⟨F, hF⟩ : ∃ F, F = detL Pm := ⟨_, rfl⟩
          rw [← hF] at hpd hpdet
          have HFD := Lib.hid hpd
          have HPD := Lib.hid hpdet
          have CM : ∀ w : World, Calls Try.prog 12 #[.int .i64 (D * E)] w fun e w' => e = .returned (.int .i64 F) ∧ w = w' := fun w => by rw [HFD.out]; exact mod5_any _ _
          have hwr := prod_in d0 d1 e0 e1
          obtain ⟨DE, hDE⟩ : ∃ DE, DE = D * E := ⟨_, rfl⟩
          clear hpd hpdet hPm hF
          go_wp2_with fail
          refine (pDeterminant_any _ k c6 u6.heap.size Pm u6 HPS.out.len (by omega) (Nat.le_refl _) HMP6.out).mono ?_
          rintro e u7 hN
          obtain ⟨rfl, y⟩ := resI_outD hN HPD.out
          have hz7' := y.size
          have HMA7 := Lib.hid (mat_next HMA6.out y)
          have HBB7 := Lib.hid (HBB6.out.trans (y.mono (by omega)))
          clear hN y HMA6 HMP6 HBB6 HPD
          have htot : k + total m ≤ 1048576 := by
            rw [total_wide HSQ.out.wide, HL.out]
            have : k * k ≤ 8 * 8 := Nat.mul_le_mul n8 n8
            omega
          go_wp2_with fail
          refine (pInverseMatrix_L A k c u7.heap.size m u7 HL.out htot (Nat.le_refl _) HMA7.out).mono ?_
          rintro e u8 hN
          have f0 := bne_f (show F = F from rfl)
          by_cases hd : D = 0
          · have hinv := inv_no HSQ.out (by rw [← HD.out]; exact hd)
            obtain ⟨A8, c8, rfl, M8, y⟩ := resM_outD (n := 0) hN hinv rfl
            have HBB8 := Lib.hid (HBB7.out.trans (y.mono (by omega)))
            have tz := bne_f hd
            clear hN y M8 hinv HMA7 HBB7 htot hd
            go_wp2_with fail
            refine (CM _).mono ?_
            rintro e w' ⟨rfl, rfl⟩
            go_wp2
            go_ret
            exact ⟨rfl, HBB8.out⟩
          · have hdl : detL m ≠ 0 := by rw [← HD.out]; exact hd
            have hinv := inv_yes HSQ.out hdl
            obtain ⟨A8, c8, rfl, M8, y⟩ := resM_outD (n := k) hN hinv (inv_sq HSQ.out).len
            have hz8' := y.size
            have HMI8 := Lib.hid M8
            have HMA8 := Lib.hid (mat_next HMA7.out y)
            have HBB8 := Lib.hid (HBB7.out.trans (y.mono (by omega)))
            have tz := bne_t hd
            have HIS := Lib.hid (inv_sq HSQ.out)
            have HPI := Lib.hid (prod_inv HSQ.out hdl)
            have HIP := Lib.hid (inv_prod HSQ.out hdl)
            obtain ⟨I, hI⟩ : ∃ I, I = invL m := ⟨_, rfl⟩
            rw [← hI] at HMI8 HIS HPI HIP
            clear hN y M8 hinv HMA7 HBB7 htot hd hdl hI
            go_wp2_with fail
            refine (CM _).mono ?_
            rintro e w' ⟨rfl, rfl⟩
            clear CM hwr
            go_wp2_with fail
            refine (multiplyMatrices_any _ _ k k _ _ u8.heap.size m I u8 HL.out HIS.out.len (by omega) (by omega) (Nat.le_refl _) HMA8.out HMI8.out).mono ?_
            rintro e u9 hN
            obtain ⟨A9, c9, rfl, M9, y⟩ := matEnd_outD (n := k) hN ((mul_sq HSQ.out HIS.out).trans (by rw [HPI.out])) (unitM_length k k)
            have hz9' := y.size
            have HMX9 := Lib.hid M9
            have HMA9 := Lib.hid (mat_next HMA8.out y)
            have HMI9 := Lib.hid (mat_next HMI8.out y)
            have HBB9 := Lib.hid (HBB8.out.trans (y.mono (by omega)))
            clear hN y M9 HMA8 HMI8 HBB8
            go_wp2_with fail
            refine (multiplyMatrices_any _ _ k k _ _ u9.heap.size I m u9 HIS.out.len HL.out (by omega) (by omega) (Nat.le_refl _) HMI9.out HMA9.out).mono ?_
            rintro e ua hN
            obtain ⟨Aa, ca, rfl, Ma, y⟩ := matEnd_outD (n := k) hN ((mul_sq HIS.out HSQ.out).trans (by rw [HIP.out])) (unitM_length k k)
            have hza' := y.size
            have HMYa := Lib.hid Ma
            have HMXa := Lib.hid (mat_next HMX9.out y)
            have HBBa := Lib.hid (HBB9.out.trans (y.mono (by omega)))
            clear hN y Ma HMA9 HMI9 HMX9 HBB9 HIS HPI HIP
            go_wp2_with fail
            go_loopw [23, 24] (fun v i wr => ∃ q g cap : Nat, q ≤ k ∧ v = .slice (some ⟨g, 0, none⟩) q cap ∧ i = .int .i64 q ∧ GrowM ua g q cap (unitM k q) wr) (fun _ i _ => k - (intOf i).toNat)
            case atStart => exact ⟨0, _, 0, Nat.zero_le _, rfl, rfl, GrowM.start ua⟩
            case round =>
              obtain ⟨q, g9, cap9, hq, rfl, rfl, hGM⟩ := hrel
              obtain ⟨vs9, hO9, hB9⟩ := hGM
              have hsz9 := hB9.size
              have HO9 := Lib.hid hO9
              have HB9 := Lib.hid hB9
              clear hO9 hB9
              generalize wr = wp at *
              by_cases hlt9 : q < k
              · have k0 : (0 : Int) ≤ (q : Int) := Int.natCast_nonneg _
                have k1 : (q : Int) < (k : Int) := by omega
                go_upto_region 32 with (at_make; refine wpList_make_full _ rfl (.tmp 136) (.tmp 136) 31 rfl wp.heap.size 2 i0 _ 1 Try.underlying31 hi hz0 hz1 .i64 .i64 _ _ k rfl rfl rfl rfl (by rw [hz2]; omega) (by simp only [maxLen]; omega) (Nat.le_refl _) ?_; intro wq hownq hgq; have hcl := made_cellD hownq hlt9; have hfr := hownq.frozenAt q)
                have b4 : Below wp.heap.size wp wq := (Below.refl _ _).grown hgq (Nat.le_refl _) (fun k hk => by cases hk)
                have hset := (hownq.stored q (.int .i64 1)).1
                rw [unit_madeD] at hset
                have B4 : Below wp.heap.size wp (wq.setCell ⟨wp.heap.size, q, none⟩ (.int .i64 1)) := below_set b4 (Nat.le_refl _) _
                have hgw := (hownq.lt wp.heap.size rfl).2
                have hgw2 : wp.heap.size < (wq.setCell ⟨wp.heap.size, q, none⟩ (.int .i64 1)).heap.size := by simpa [World.setCell] using hgw
                obtain ⟨W, hW⟩ : ∃ W, W = wq.setCell ⟨wp.heap.size, q, none⟩ (.int .i64 1) := ⟨_, rfl⟩
                rw [← hW] at hset B4 hgw2 ⊢
                obtain ⟨gq, hgq2⟩ : ∃ gq, gq = wp.heap.size := ⟨_, rfl⟩
                have HSET : Hid (W.ownsRow wp.heap.size 2 1 (.slice (some ⟨gq, 0, none⟩) k k) k (ints (unitRow k q))) := by rw [Hid, hgq2]; exact hset
                rw [← hgq2]
                have HW9 := Lib.hid (HO9.out.below B4 (Nat.le_refl _))
                have HBW := Lib.hid (HB9.out.trans (B4.mono hsz9))
                have hzW := B4.size
                clear hgq2 hW b4 hset B4 hgw hownq hgq hcl hfr
                go_wp2_with (at_builtin; refine wpList_append_lies _ rfl (.tmp 141) (.tmp 143) 24 rfl ua.heap.size 31 j0 _ 1 24 Try.underlying24 hj hy0 hy1 hy2 rfl (by omega) (.slice (some ⟨g9, 0, none⟩) q cap9) q vs9 rfl (HW9.out.outer.1.alloc _) ⟨W.heap.size, 0, none⟩ 1 1 [.slice (some ⟨gq, 0, none⟩) k k] rfl rfl (World.news_of_block (cs := #[.slice (some ⟨gq, 0, none⟩) k k]) (heap_alloc_new _ _)) (by simp [Value.oneCell']) (by omega) (by simp only [maxLen]; omega) (by omega) (by simp; omega) (W.heap.size + 1) (by simp) ?_; intro g5 cap5 w5 hown5 hgrow5 hat5 hlt5)
                have hP := HW9.out.push (row := unitRow k q) hzW (unitRow_length k q) HSET.out hsz9 hown5 hgrow5
                have hBN := (HBW.out.alloc (by omega) (.cells #[.slice (some ⟨gq, 0, none⟩) k k] 31)).grown hgrow5 (by simp; omega) (fun z hz => (HW9.out.outer.1.lt z hz).1)
                have Q : Hid (GrowM ua g5 (q + 1) cap5 (unitM k (q + 1)) w5) := ⟨_, by rw [unitM_succ]; exact hP, hBN⟩
                clear hP hBN hown5 hgrow5 hat5
                go_wp2
                go_roundw
                case rel => exact ⟨q + 1, g5, cap5, by omega, rfl, by go_num, Q.out⟩
                case measure => simp [intOf]; omega
              · obtain rfl : q = k := by omega
                have HMU := Lib.hid HO9.out.mat
                have HMXb := Lib.hid (mat_next HMXa.out HB9.out)
                have HMYb := Lib.hid (mat_next HMYa.out HB9.out)
                have HBBb := Lib.hid (HBBa.out.trans (HB9.out.mono (by omega)))
                clear HO9 HMXa HMYa HBBa
                go_wp2_with fail
                refine (likeRows_yes _ _ q _ _ _ _ (unitM q q) wp (unitM_length q q) (by omega) HMXb.out HMU.out).mono ?_
                rintro e w' ⟨rfl, d1', rfl⟩
                go_wp2_with fail
                refine (likeRows_yes _ _ q _ _ _ _ (unitM q q) (wp.drewN d1') (unitM_length q q) (by omega) (HMYb.out.drewN d1') (HMU.out.drewN d1')).mono ?_
                rintro e w' ⟨rfl, d2', rfl⟩
                have BE := Lib.hid (below_drewN HBBb.out (d1' + d2'))
                go_wp2
                go_ret
                exact ⟨rfl, BE.out⟩
    · have z3 := bne_t hK
      go_wp2
      go_ret
      exact ⟨rfl, HB3.out⟩
  · have t0 : decide ((4096 : Int) < len0) = true := decide_eq_true (by omega)
    go_enter Try.func3, Try.ntmps3
    go_wp2_with fail
    refine (big_any _ _ _ _ (by omega)).mono ?_
    rintro e w' ⟨rfl, rfl⟩
    go_wp2
    go_ret
    exact ⟨rfl, Below.refl _ _⟩
/-- the statement -/
theorem holds : Rows.FnDeterminantsSaid := of_walk walk
end Go.Proofs.Ytdgdanpkekcckaa.fnDeterminants
