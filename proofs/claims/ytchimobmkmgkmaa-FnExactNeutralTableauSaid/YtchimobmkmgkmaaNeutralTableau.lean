/-
  PROVED: for all arguments the law FnExactNeutralTableau returns true: NeutralTableau answers as its model, leaves its arguments alone, and its result owns its memory.
  CONDITIONS: none; every argument that the types hold.
-/
import Derived.Test.YtchimobmkmgkmaaTqN
import Derived.Test.YtchimobmkmgkmaaFFnExactNeutralTableau
namespace Go.Proofs.Ytchimobmkmgkmaa.fnExactNeutralTableau
open Go.ChangeShapes Go.WideShapes Go.ChangeAt Go.RowKit Fld
set_option linter.unusedVariables false

set_option maxRecDepth 100000 in
set_option maxHeartbeats 4000000 in
theorem walk (w : World)  : Calls Try.prog 5 #[] w fun e w' => e = .returned (.bool true) ∧ Below w.heap.size w w' := by
  have b0 : Below w.heap.size w w := Below.refl _ _
  go_enter Try.func5, Try.ntmps5
  go_wp2_with fail
  refine (sNeutralTableau_L w).mono ?_
  rintro e u1 ⟨⟨saW, sbW, scW⟩, AW, cW, DW, dW, rfl, oW, qW, beu1⟩
  have HW := Lib.hid (show LowT u1 u1.heap.size AW neutralTA.1.1 DW neutralTA.1.2 from ⟨oW, qW⟩)
  clear oW qW
  have yu1 : Below w.heap.size w u1 := ⟨beu1.os, beu1.tape, beu1.output, beu1.size, beu1.block⟩
  have zu1 : w.heap.size ≤ u1.heap.size := yu1.size
  have bu1 : Below w.heap.size w u1 := b0.trans (yu1.mono b0.size)
  clear yu1 beu1
  obtain ⟨u2, hu2⟩ : ∃ V, V = u1.alloc (.cells #[.slice AW neutralTA.1.1.length cW, .slice DW neutralTA.1.2.length dW] 27) := ⟨_, rfl⟩
  have beu2 : Below u1.heap.size u1 u2 := by rw [hu2]; exact (Below.refl _ _).alloc (Nat.le_refl _) _
  have Hxwu2 := Lib.hid (show Bx u2 u1.heap.size 27 (.slice AW neutralTA.1.1.length cW) (.slice DW neutralTA.1.2.length dW) by rw [hu2]; exact Bx.new _ _ _ _)
  have zxw : u1.heap.size < u2.heap.size := Hxwu2.out.lt
  go_wp2_with fail
  rw [← hu2]
  clear hu2
  have yu2 : Below u1.heap.size u1 u2 := ⟨beu2.os, beu2.tape, beu2.output, beu2.size, beu2.block⟩
  have zu2 : u1.heap.size ≤ u2.heap.size := yu2.size
  have bu2 : Below w.heap.size w u2 := bu1.trans (yu2.mono bu1.size)
  have HWu2 := Lib.hid (HW.out.below yu2 (by omega))
  clear HW
  clear yu2 beu2
  clear bu1
  refine (pNeutralTableau_L u2).mono ?_
  rintro e u3 ⟨⟨saG, sbG, scG⟩, AG, cG, vsG, DG, dG, midG, rfl, laG, lbG, oG, qG, beu3⟩
  have HG := Lib.hid (show OwnMat u3 u2.heap.size midG (.slice AG neutralTA.1.1.length cG) neutralTA.1.1.length neutralTA.1.1 vsG from oG)
  have HGb := Lib.hid (show OwnR u3 midG u3.heap.size 2 (.slice DG neutralTA.1.2.length dG) neutralTA.1.2.length (ints neutralTA.1.2) from qG)
  clear oG qG
  have yu3 : Below u2.heap.size u2 u3 := ⟨beu3.os, beu3.tape, beu3.output, beu3.size, beu3.block⟩
  have zu3 : u2.heap.size ≤ u3.heap.size := yu3.size
  have bu3 : Below w.heap.size w u3 := bu2.trans (yu3.mono bu2.size)
  have HWu3 := Lib.hid (HWu2.out.below yu3 (by omega))
  clear HWu2
  have Hwu3 := Lib.hid (Hxwu2.out.next yu3)
  clear Hxwu2
  clear yu3 beu3
  clear bu2
  obtain ⟨u4, hu4⟩ : ∃ V, V = u3.alloc (.cells #[.slice AG neutralTA.1.1.length cG, .slice DG neutralTA.1.2.length dG] 27) := ⟨_, rfl⟩
  have beu4 : Below u3.heap.size u3 u4 := by rw [hu4]; exact (Below.refl _ _).alloc (Nat.le_refl _) _
  have Hxgu4 := Lib.hid (show Bx u4 u3.heap.size 27 (.slice AG neutralTA.1.1.length cG) (.slice DG neutralTA.1.2.length dG) by rw [hu4]; exact Bx.new _ _ _ _)
  have zxg : u3.heap.size < u4.heap.size := Hxgu4.out.lt
  have q2 : (u3.alloc (.cells #[.slice AG neutralTA.1.1.length cG, .slice DG neutralTA.1.2.length dG] 27)).cell? ⟨u1.heap.size, 0, none⟩ = some (.slice AW neutralTA.1.1.length cW) := by rw [← hu4]; exact (Hwu3.out.next beu4).c0
  have q3 : (u3.alloc (.cells #[.slice AG neutralTA.1.1.length cG, .slice DG neutralTA.1.2.length dG] 27)).cell? ⟨u1.heap.size, 1, none⟩ = some (.slice DW neutralTA.1.2.length dW) := by rw [← hu4]; exact (Hwu3.out.next beu4).c1
  go_wp2_with fail
  clear q2 q3
  rw [← hu4]
  clear hu4
  have yu4 : Below u3.heap.size u3 u4 := ⟨beu4.os, beu4.tape, beu4.output, beu4.size, beu4.block⟩
  have zu4 : u3.heap.size ≤ u4.heap.size := yu4.size
  have bu4 : Below w.heap.size w u4 := bu3.trans (yu4.mono bu3.size)
  have HWu4 := Lib.hid (HWu3.out.below yu4 (by omega))
  clear HWu3
  have HGu4 := Lib.hid (HG.out.below yu4 (by omega))
  clear HG
  have HGbu4 := Lib.hid (HGb.out.below yu4 (by omega))
  clear HGb
  have Hwu4 := Lib.hid (Hwu3.out.next yu4)
  clear Hwu3
  clear yu4 beu4
  clear bu3
  refine (eqTableau_same _ _ _ _ neutralTA.1.1.length _ _ neutralTA.1.2.length _ _ midG u1.heap.size u3.heap.size u1.heap.size neutralTA.1.1 neutralTA.1.2 _ rfl rfl (by omega) (by omega) (by omega) (by omega) (by omega) (by omega) (by exact HGu4.out.mat) (by exact HWu4.out.mat) (by exact HGbu4.out.row) (by exact HWu4.out.row)).mono ?_
  rintro e u5 ⟨rfl, beu5⟩
  have yu5 : Below u4.heap.size u4 u5 := ⟨beu5.os, beu5.tape, beu5.output, beu5.size, beu5.block⟩
  have zu5 : u4.heap.size ≤ u5.heap.size := yu5.size
  have bu5 : Below w.heap.size w u5 := bu4.trans (yu5.mono bu4.size)
  have HWu5 := Lib.hid (HWu4.out.below yu5 (by omega))
  clear HWu4
  have HGu5 := Lib.hid (HGu4.out.below yu5 (by omega))
  clear HGu4
  have HGbu5 := Lib.hid (HGbu4.out.below yu5 (by omega))
  clear HGbu4
  have Hwu5 := Lib.hid (Hwu4.out.next yu5)
  clear Hwu4
  have Hgu5 := Lib.hid (Hxgu4.out.next yu5)
  clear Hxgu4
  clear yu5 beu5
  clear bu4
  have q0 := Hgu5.out.c0
  have q1 := Hgu5.out.c1
  go_wp2_with fail
  clear q0 q1
  refine (markTableau_any _ _ neutralTA.1.1.length _ neutralTA.1.2.length _ u2.heap.size midG u3.heap.size neutralTA.1.1 vsG neutralTA.1.2 1 _ rfl (by omega) (by omega) (by omega) (by omega) (by omega) (by omega) (by omega) (by show u3.heap.size ≤ u5.heap.size; omega) (by exact HGu5.out) (by exact HGbu5.out)).mono ?_
  rintro e u6 ⟨rfl, ou6, qu6, wiu6⟩
  have yu6 : Within u2.heap.size u3.heap.size u5 u6 := ⟨wiu6.os, wiu6.tape, wiu6.output, wiu6.size, wiu6.block⟩
  have zu6 : u5.heap.size ≤ u6.heap.size := yu6.size
  have bu6 : Below w.heap.size w u6 := Below.then bu5 yu6 (by omega) (by omega)
  have HGu6 := Lib.hid ou6
  have HGbu6 := Lib.hid qu6
  clear ou6 qu6 HGu5 HGbu5
  have Hwu6 := Lib.hid (Hwu5.out.within yu6 (by omega))
  clear Hwu5
  have Hgu6 := Lib.hid (Hgu5.out.within yu6 (by omega))
  clear Hgu5
  have HWu6 := Lib.hid (HWu5.out.within yu6 (by omega) (by omega))
  clear HWu5
  clear yu6 wiu6 bu5
  have q0 := Hgu6.out.c0
  have q1 := Hgu6.out.c1
  go_wp2_with fail
  clear q0 q1
  refine (heldTableau_any _ _ neutralTA.1.1.length _ neutralTA.1.2.length _ midG u3.heap.size neutralTA.1.1 1 _ rfl (by omega) (by omega) (by omega) (by omega) (by omega) (by omega) (by omega) (by exact HGu6.out.mat) (by exact HGbu6.out.row)).mono ?_
  rintro e u7 ⟨rfl, beu7⟩
  have yu7 : Below u6.heap.size u6 u7 := ⟨beu7.os, beu7.tape, beu7.output, beu7.size, beu7.block⟩
  have zu7 : u6.heap.size ≤ u7.heap.size := yu7.size
  have bu7 : Below w.heap.size w u7 := bu6.trans (yu7.mono bu6.size)
  have HWu7 := Lib.hid (HWu6.out.below yu7 (by omega))
  clear HWu6
  have HGu7 := Lib.hid (HGu6.out.below yu7 (by omega))
  clear HGu6
  have HGbu7 := Lib.hid (HGbu6.out.below yu7 (by omega))
  clear HGbu6
  have Hwu7 := Lib.hid (Hwu6.out.next yu7)
  clear Hwu6
  have Hgu7 := Lib.hid (Hgu6.out.next yu7)
  clear Hgu6
  clear yu7 beu7
  clear bu6
  go_wp2_with fail
  refine (pNeutralTableau_L u7).mono ?_
  rintro e u8 ⟨⟨saK, sbK, scK⟩, AK, cK, vsK, DK, dK, midK, rfl, laK, lbK, oK, qK, beu8⟩
  have HK := Lib.hid (show OwnMat u8 u7.heap.size midK (.slice AK neutralTA.1.1.length cK) neutralTA.1.1.length neutralTA.1.1 vsK from oK)
  have HKb := Lib.hid (show OwnR u8 midK u8.heap.size 2 (.slice DK neutralTA.1.2.length dK) neutralTA.1.2.length (ints neutralTA.1.2) from qK)
  clear oK qK
  have yu8 : Below u7.heap.size u7 u8 := ⟨beu8.os, beu8.tape, beu8.output, beu8.size, beu8.block⟩
  have zu8 : u7.heap.size ≤ u8.heap.size := yu8.size
  have bu8 : Below w.heap.size w u8 := bu7.trans (yu8.mono bu7.size)
  have HWu8 := Lib.hid (HWu7.out.below yu8 (by omega))
  clear HWu7
  have HGu8 := Lib.hid (HGu7.out.below yu8 (by omega))
  clear HGu7
  have HGbu8 := Lib.hid (HGbu7.out.below yu8 (by omega))
  clear HGbu7
  have Hwu8 := Lib.hid (Hwu7.out.next yu8)
  clear Hwu7
  have Hgu8 := Lib.hid (Hgu7.out.next yu8)
  clear Hgu7
  clear yu8 beu8
  clear bu7
  obtain ⟨u9, hu9⟩ : ∃ V, V = u8.alloc (.cells #[.slice AK neutralTA.1.1.length cK, .slice DK neutralTA.1.2.length dK] 27) := ⟨_, rfl⟩
  have beu9 : Below u8.heap.size u8 u9 := by rw [hu9]; exact (Below.refl _ _).alloc (Nat.le_refl _) _
  have Hxku9 := Lib.hid (show Bx u9 u8.heap.size 27 (.slice AK neutralTA.1.1.length cK) (.slice DK neutralTA.1.2.length dK) by rw [hu9]; exact Bx.new _ _ _ _)
  have zxk : u8.heap.size < u9.heap.size := Hxku9.out.lt
  have q2 : (u8.alloc (.cells #[.slice AK neutralTA.1.1.length cK, .slice DK neutralTA.1.2.length dK] 27)).cell? ⟨u1.heap.size, 0, none⟩ = some (.slice AW neutralTA.1.1.length cW) := by rw [← hu9]; exact (Hwu8.out.next beu9).c0
  have q3 : (u8.alloc (.cells #[.slice AK neutralTA.1.1.length cK, .slice DK neutralTA.1.2.length dK] 27)).cell? ⟨u1.heap.size, 1, none⟩ = some (.slice DW neutralTA.1.2.length dW) := by rw [← hu9]; exact (Hwu8.out.next beu9).c1
  go_wp2_with fail
  clear q2 q3
  rw [← hu9]
  clear hu9
  have yu9 : Below u8.heap.size u8 u9 := ⟨beu9.os, beu9.tape, beu9.output, beu9.size, beu9.block⟩
  have zu9 : u8.heap.size ≤ u9.heap.size := yu9.size
  have bu9 : Below w.heap.size w u9 := bu8.trans (yu9.mono bu8.size)
  have HWu9 := Lib.hid (HWu8.out.below yu9 (by omega))
  clear HWu8
  have HGu9 := Lib.hid (HGu8.out.below yu9 (by omega))
  clear HGu8
  have HGbu9 := Lib.hid (HGbu8.out.below yu9 (by omega))
  clear HGbu8
  have HKu9 := Lib.hid (HK.out.below yu9 (by omega))
  clear HK
  have HKbu9 := Lib.hid (HKb.out.below yu9 (by omega))
  clear HKb
  have Hwu9 := Lib.hid (Hwu8.out.next yu9)
  clear Hwu8
  have Hgu9 := Lib.hid (Hgu8.out.next yu9)
  clear Hgu8
  clear yu9 beu9
  clear bu8
  refine (eqTableau_same _ _ _ _ neutralTA.1.1.length _ _ neutralTA.1.2.length _ _ midK u1.heap.size u8.heap.size u1.heap.size neutralTA.1.1 neutralTA.1.2 _ rfl rfl (by omega) (by omega) (by omega) (by omega) (by omega) (by omega) (by exact HKu9.out.mat) (by exact HWu9.out.mat) (by exact HKbu9.out.row) (by exact HWu9.out.row)).mono ?_
  rintro e u10 ⟨rfl, beu10⟩
  have yu10 : Below u9.heap.size u9 u10 := ⟨beu10.os, beu10.tape, beu10.output, beu10.size, beu10.block⟩
  have zu10 : u9.heap.size ≤ u10.heap.size := yu10.size
  have bu10 : Below w.heap.size w u10 := bu9.trans (yu10.mono bu9.size)
  have HWu10 := Lib.hid (HWu9.out.below yu10 (by omega))
  clear HWu9
  have HGu10 := Lib.hid (HGu9.out.below yu10 (by omega))
  clear HGu9
  have HGbu10 := Lib.hid (HGbu9.out.below yu10 (by omega))
  clear HGbu9
  have HKu10 := Lib.hid (HKu9.out.below yu10 (by omega))
  clear HKu9
  have HKbu10 := Lib.hid (HKbu9.out.below yu10 (by omega))
  clear HKbu9
  have Hwu10 := Lib.hid (Hwu9.out.next yu10)
  clear Hwu9
  have Hgu10 := Lib.hid (Hgu9.out.next yu10)
  clear Hgu9
  have Hku10 := Lib.hid (Hxku9.out.next yu10)
  clear Hxku9
  clear yu10 beu10
  clear bu9
  have q0 := Hgu10.out.c0
  have q1 := Hgu10.out.c1
  go_wp2_with fail
  clear q0 q1
  refine (heldTableau_any _ _ neutralTA.1.1.length _ neutralTA.1.2.length _ midG u3.heap.size neutralTA.1.1 1 _ rfl (by omega) (by omega) (by omega) (by omega) (by omega) (by omega) (by omega) (by exact HGu10.out.mat) (by exact HGbu10.out.row)).mono ?_
  rintro e u11 ⟨rfl, beu11⟩
  have yu11 : Below u10.heap.size u10 u11 := ⟨beu11.os, beu11.tape, beu11.output, beu11.size, beu11.block⟩
  have zu11 : u10.heap.size ≤ u11.heap.size := yu11.size
  have bu11 : Below w.heap.size w u11 := bu10.trans (yu11.mono bu10.size)
  have HWu11 := Lib.hid (HWu10.out.below yu11 (by omega))
  clear HWu10
  have HGu11 := Lib.hid (HGu10.out.below yu11 (by omega))
  clear HGu10
  have HGbu11 := Lib.hid (HGbu10.out.below yu11 (by omega))
  clear HGbu10
  have HKu11 := Lib.hid (HKu10.out.below yu11 (by omega))
  clear HKu10
  have HKbu11 := Lib.hid (HKbu10.out.below yu11 (by omega))
  clear HKbu10
  have Hwu11 := Lib.hid (Hwu10.out.next yu11)
  clear Hwu10
  have Hgu11 := Lib.hid (Hgu10.out.next yu11)
  clear Hgu10
  have Hku11 := Lib.hid (Hku10.out.next yu11)
  clear Hku10
  clear yu11 beu11
  clear bu10
  go_wp2
  go_ret
  exact ⟨rfl, bu11⟩
/-- the statement -/
theorem holds : Rows.FnExactNeutralTableauSaid := of_walk walk
end Go.Proofs.Ytchimobmkmgkmaa.fnExactNeutralTableau
