/- The law on NewDisk: the program answers as the specification, in memory of its own. -/
import Derived.Test.YtddjefmokpfplaaND17
namespace Go.Proofs.Ytddjefmokpfplaa
open Go.RowKit

set_option maxRecDepth 100000 in
set_option maxHeartbeats 3200000 in
theorem w_newDisk (w : World) :
    Calls Try.prog 3 #[] w fun e w' => e = .returned (.bool true) ∧ Below w.heap.size w w' := by
  have S := hide (fun w => s_newDisk w)
  have I := hide (fun w => i_newDisk w)
  have EQ := hide (fun a b a' b' c e c' e' w R Q => w_eqDisk a b a' b' c e c' e' nwD w (by decide) (by decide) R Q)
  have MK := hide (fun lo hi a b c e w (h : AnsD lo hi a b nwD w) => (show Calls Try.prog 8 #[.agg #[.slice a nwD.n c, .slice b nwD.m e], .int .i64 1] w _ from w_markDisk lo hi a b c e nwD 1 w (by decide) (by decide) (by decide) (by decide) h))
  have HD := hide (fun a b c e w R => (show Calls Try.prog 9 #[.agg #[.slice a nwD.n c, .slice b nwD.m e], .int .i64 1] w _ from w_heldDisk a b c e nwD 1 w (by decide) (by decide) (by decide) (by decide) R))
  have hkm : 1 + nwD.n + 2 * nwD.m = 11 := rfl
  rw [hkm] at MK HD
  clear hkm
  generalize mkD 1 nwD = MD at *
  generalize nwD = d0 at *
  go_enter Try.func3, Try.ntmps3
  go_wp2_with fail
  refine (S.out _).mono ?_
  rintro e w1 ⟨aw, bw, ⟨cw, ew, rfl⟩, AW, bb⟩
  have DA := bb
  have RW := hide AW.row
  clear AW bb S
  have MW := Mut.new w1 #[.slice aw d0.n cw, .slice bw d0.m ew] 25
  have bb : Below w1.heap.size w1 (w1.alloc (.cells #[.slice aw d0.n cw, .slice bw d0.m ew] 25)) := below_box (Below.refl _ _)
  replace DA := below_step DA bb
  have DW := bb
  clear bb
  go_wp2_with fail
  generalize w1.alloc (.cells #[.slice aw d0.n cw, .slice bw d0.m ew] 25) = w2 at *
  refine (I.out _).mono ?_
  rintro e w3 ⟨ag, bg, ⟨cg, eg, rfl⟩, AG, bb⟩
  have hlo : w1.heap.size ≤ w2.heap.size := DW.size
  have h0w : w.heap.size ≤ w2.heap.size := DA.size
  have hlw : w1.heap.size < w2.heap.size := MW.1
  obtain ⟨lo, hl⟩ : ∃ lo, lo = w2.heap.size := ⟨_, rfl⟩
  obtain ⟨hi, hh⟩ : ∃ hi, hi = w3.heap.size := ⟨_, rfl⟩
  rw [← hl, ← hh] at AG
  replace MW := MW.below bb
  replace DA := below_step DA bb
  replace DW := below_step DW bb
  clear bb
  have MG := Mut.new w3 #[.slice ag d0.n cg, .slice bg d0.m eg] 25
  have bb : Below w3.heap.size w3 (w3.alloc (.cells #[.slice ag d0.n cg, .slice bg d0.m eg] 25)) := below_box (Below.refl _ _)
  replace MW := MW.below bb
  replace DA := below_step DA bb
  replace DW := below_step DW bb
  replace AG := AG.below bb
  have hlo2 : w3.heap.size < (w3.alloc (.cells #[.slice ag d0.n cg, .slice bg d0.m eg] 25)).heap.size := MG.1
  clear bb
  have u0 := MW.2.1 0 _ rfl
  have u1 := MW.2.1 1 _ rfl
  have v0 := MG.2.1 0 _ rfl
  have v1 := MG.2.1 1 _ rfl
  go_wp2_with fail
  generalize w3.alloc (.cells #[.slice ag d0.n cg, .slice bg d0.m eg] 25) = w4 at *
  refine (EQ.out _ _ _ _ _ _ _ _ _ AG.row (RW.out.below DW)).mono ?_
  rintro e w5 ⟨rfl, bb⟩
  replace MW := MW.below bb
  replace MG := MG.below bb
  replace AG := AG.below bb
  replace DA := below_step DA bb
  replace DW := below_step DW bb
  clear bb u0 u1 v0 v1
  have v0 := MG.2.1 0 _ rfl
  have v1 := MG.2.1 1 _ rfl
  go_wp2_with fail
  refine (MK.out _ _ _ _ _ _ _ AG).mono ?_
  rintro e w6 ⟨rfl, AH, yy⟩
  have hloD := DA.size
  replace MW := MW.onlyP yy (by omega)
  replace MG := MG.onlyP yy (by omega)
  replace DW := DW.trans (yy.below (base := w1.heap.size) (fun x _ hx => by omega) DW.size)
  replace DA := DA.trans (yy.below (base := w.heap.size) (fun x _ hx => by omega) DA.size)
  clear yy v0 v1 AG
  have v0 := MG.2.1 0 _ rfl
  have v1 := MG.2.1 1 _ rfl
  go_wp2_with fail
  refine (HD.out _ _ _ _ _ AH.row).mono ?_
  rintro e w7 ⟨rfl, bb⟩
  replace MW := MW.below bb
  replace MG := MG.below bb
  replace AH := AH.below bb
  replace DA := below_step DA bb
  replace DW := below_step DW bb
  clear bb v0 v1
  go_wp2_with fail
  refine (I.out _).mono ?_
  rintro e w8 ⟨ah, bh, ⟨ch, eh, rfl⟩, AK, bb⟩
  replace MW := MW.below bb
  replace MG := MG.below bb
  replace AH := AH.below bb
  replace DA := below_step DA bb
  replace DW := below_step DW bb
  clear bb
  have RK := hide AK.row
  clear AK
  have MH := Mut.new w8 #[.slice ah d0.n ch, .slice bh d0.m eh] 25
  have bb : Below w8.heap.size w8 (w8.alloc (.cells #[.slice ah d0.n ch, .slice bh d0.m eh] 25)) := below_box (Below.refl _ _)
  replace MW := MW.below bb
  replace MG := MG.below bb
  replace AH := AH.below bb
  replace DA := below_step DA bb
  replace DW := below_step DW bb
  replace RK := hide (RK.out.below bb)
  clear bb
  have u0 := MW.2.1 0 _ rfl
  have u1 := MW.2.1 1 _ rfl
  have v0 := MH.2.1 0 _ rfl
  have v1 := MH.2.1 1 _ rfl
  go_wp2_with fail
  generalize w8.alloc (.cells #[.slice ah d0.n ch, .slice bh d0.m eh] 25) = w9 at *
  refine (EQ.out _ _ _ _ _ _ _ _ _ RK.out (RW.out.below DW)).mono ?_
  rintro e w10 ⟨rfl, bb⟩
  replace MG := MG.below bb
  replace AH := AH.below bb
  replace DA := below_step DA bb
  clear bb u0 u1 v0 v1
  have v0 := MG.2.1 0 _ rfl
  have v1 := MG.2.1 1 _ rfl
  go_wp2_with fail
  refine (HD.out _ _ _ _ _ AH.row).mono ?_
  rintro e w11 ⟨rfl, bb⟩
  replace DA := below_step DA bb
  clear v0 v1
  go_wp2_with fail
  go_ret
  exact ⟨rfl, DA⟩
end Go.Proofs.Ytddjefmokpfplaa
