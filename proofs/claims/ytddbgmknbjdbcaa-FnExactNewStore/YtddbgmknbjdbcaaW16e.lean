/- The law on NewStore: the program answers as the specification. -/
import Derived.Test.YtddbgmknbjdbcaaS16f
import Derived.Test.YtddbgmknbjdbcaaI16f
import Derived.Test.YtddbgmknbjdbcaaSt16c
import Derived.Test.YtddbgmknbjdbcaaSt16e
import Derived.Test.YtddbgmknbjdbcaaSt16f
namespace Go.Proofs.Ytddbgmknbjdbcaa
open Go.RowKit

set_option maxRecDepth 100000 in
set_option maxHeartbeats 3200000 in
theorem w_newStore (w : World) :
    Calls Try.prog 3 #[] w fun e w' => e = .returned (.bool true) ∧ Below w.heap.size w w' := by
  obtain ⟨st, hst, hl⟩ : ∃ st, st = st16 ∧ LowSt st := ⟨st16, rfl, low16⟩
  have S := hide (fun w => s_newStore w)
  have I := hide (fun w => i_newStore w)
  rw [← hst] at S I
  clear hst
  have EQ := hide (fun v v' w R Q => w_eqStore v v' st w ⟨hl.1.n, hl.1.2, hl.2.1.n, hl.2.1.2, hl.2.2.1, fun i hi => ⟨(hl.2.2.2.1 i hi).n, (hl.2.2.2.1 i hi).2⟩⟩ R Q)
  have MX := hide (fun v lo hi w A => (show Calls Try.prog 11 #[v, .int .i64 1] w _ from w_markStore v st lo hi 1 w hl (by omega) (by omega) A))
  have HX := hide (fun v w R => (show Calls Try.prog 12 #[v, .int .i64 1] w _ from w_heldStore v st 1 w hl (by omega) (by omega) R))
  have hks := kmSt_le (k0 := 1) hl (by omega)
  generalize kmSt 1 st = ks at *
  generalize mkSt 1 st = sm at *
  have km0 : ((ks : Int) != (ks : Int)) = false := by simp
  have kl0 : ¬ ((ks : Int) < 0) := by omega
  clear hks hl
  have d0 : Below w.heap.size w w := Below.refl _ _
  go_enter Try.func3, Try.ntmps3
  go_wp2_with fail
  refine (S.out _).mono ?_
  rintro e w1 ⟨vW, rfl, RW, bb⟩
  have d1 := d0.trans (bb.mono d0.size)
  clear bb 
  obtain ⟨caw, kcw, raw, krw, haw, khw, hfw⟩ := RW.form
  subst hfw
  have hw1 := d1.size
  go_wp2_with fail
  have bb : Below w1.heap.size w1 (w1.alloc (.cells #[.slice caw st.C.n kcw, .slice raw st.R.n krw, .slice haw st.h khw, .int .i64 st.l] 25)) := below_box (Below.refl _ _)
  have M1 := Mut.new w1 #[.slice caw st.C.n kcw, .slice raw st.R.n krw, .slice haw st.h khw, .int .i64 st.l] 25
  replace RW := RW.below bb
  have d2 := d1.trans (bb.mono d1.size)
  clear bb 
  generalize w1.alloc (.cells #[.slice caw st.C.n kcw, .slice raw st.R.n krw, .slice haw st.h khw, .int .i64 st.l] 25) = w2 at *
  have hz_bw : w1.heap.size < w2.heap.size := M1.1
  have hq_bw : w.heap.size ≤ w1.heap.size := d1.size
  generalize w1.heap.size = bw at *
  go_wp2_with fail
  obtain ⟨wA, hwA⟩ : ∃ wA, wA = w2 := ⟨_, rfl⟩
  have DA : Below wA.heap.size wA w2 := by rw [hwA]; exact Below.refl _ _
  have RA : Hid (RowSt true (.agg #[.slice caw st.C.n kcw, .slice raw st.R.n krw, .slice haw st.h khw, .int .i64 st.l]) st wA) := by rw [hwA]; exact RW
  have uA : w.heap.size ≤ wA.heap.size := by rw [hwA]; exact d2.size
  have uM : bw < wA.heap.size := by rw [hwA]; exact M1.1
  clear hwA RW
  refine (I.out _).mono ?_
  rintro e w3 ⟨vG, rfl, AG, bb⟩
  obtain ⟨cag, kcg, rag, krg, hag, khg, hfg⟩ := AG.form
  subst hfg
  have uI : wA.heap.size ≤ w2.heap.size := DA.size
  replace M1 := M1.below bb
  replace DA := DA.trans (bb.mono DA.size)
  have d3 := d2.trans (bb.mono d2.size)
  clear bb 
  obtain ⟨hi0, hhi⟩ : ∃ t, t = w3.heap.size := ⟨_, rfl⟩
  rw [← hhi] at AG
  have hle : hi0 ≤ w3.heap.size := by omega
  clear hhi
  generalize w2.heap.size = bI at *
  have e0 := (M1.alloc (.cells #[.slice cag st.C.n kcg, .slice rag st.R.n krg, .slice hag st.h khg, .int .i64 st.l] 25)).2.1 0 _ rfl
  have e1 := (M1.alloc (.cells #[.slice cag st.C.n kcg, .slice rag st.R.n krg, .slice hag st.h khg, .int .i64 st.l] 25)).2.1 1 _ rfl
  have e2 := (M1.alloc (.cells #[.slice cag st.C.n kcg, .slice rag st.R.n krg, .slice hag st.h khg, .int .i64 st.l] 25)).2.1 2 _ rfl
  have e3 := (M1.alloc (.cells #[.slice cag st.C.n kcg, .slice rag st.R.n krg, .slice hag st.h khg, .int .i64 st.l] 25)).2.1 3 _ rfl
  go_wp2_with fail
  have bb : Below w3.heap.size w3 (w3.alloc (.cells #[.slice cag st.C.n kcg, .slice rag st.R.n krg, .slice hag st.h khg, .int .i64 st.l] 25)) := below_box (Below.refl _ _)
  have N := Mut.new w3 #[.slice cag st.C.n kcg, .slice rag st.R.n krg, .slice hag st.h khg, .int .i64 st.l] 25
  replace M1 := M1.below bb
  replace AG := AG.below bb
  replace DA := DA.trans (bb.mono DA.size)
  have d4 := d3.trans (bb.mono d3.size)
  clear bb 
  generalize w3.alloc (.cells #[.slice cag st.C.n kcg, .slice rag st.R.n krg, .slice hag st.h khg, .int .i64 st.l] 25) = w4 at *
  have hz_bg : w3.heap.size < w4.heap.size := N.1
  have hq_bg : w.heap.size ≤ w3.heap.size := d3.size
  generalize w3.heap.size = bg at *
  clear e0 e1 e2 e3
  refine (EQ.out _ _ _ AG.row.any (RA.out.below DA).any).mono ?_
  rintro e w5 ⟨rfl, bb⟩
  replace M1 := M1.below bb
  replace AG := AG.below bb
  replace N := N.below bb
  replace DA := DA.trans (bb.mono DA.size)
  have d5 := d4.trans (bb.mono d4.size)
  clear bb 
  have x0 := N.2.1 0 _ rfl
  have x1 := N.2.1 1 _ rfl
  have x2 := N.2.1 2 _ rfl
  have x3 := N.2.1 3 _ rfl
  go_wp2_with fail
  refine (MX.out _ _ _ _ AG).mono ?_
  rintro e w6 ⟨rfl, AH, yy⟩
  have d6 := d5.trans (yy.below (base := w.heap.size) (fun k _ hk => by omega) d5.size)
  replace DA := DA.trans (yy.below (base := wA.heap.size) (fun k _ hk => by omega) DA.size)
  replace N := N.onlyP yy (fun hk => by omega)
  replace M1 := M1.onlyP yy (fun hk => by omega)
  clear AG
  clear yy x0 x1 x2 x3
  have x0 := N.2.1 0 _ rfl
  have x1 := N.2.1 1 _ rfl
  have x2 := N.2.1 2 _ rfl
  have x3 := N.2.1 3 _ rfl
  go_wp2_with fail
  refine (HX.out _ _ AH.row).mono ?_
  rintro e w7 ⟨rfl, bb⟩
  replace M1 := M1.below bb
  replace N := N.below bb
  replace AH := AH.below bb
  replace DA := DA.trans (bb.mono DA.size)
  have d7 := d6.trans (bb.mono d6.size)
  clear bb x0 x1 x2 x3
  go_wp2_with fail
  refine (I.out _).mono ?_
  rintro e w8 ⟨vH, rfl, AK, bb⟩
  obtain ⟨cak, kck, rak, krk, hak, khk, hfk⟩ := AK.form
  subst hfk
  replace M1 := M1.below bb
  replace N := N.below bb
  replace AH := AH.below bb
  replace DA := DA.trans (bb.mono DA.size)
  have d8 := d7.trans (bb.mono d7.size)
  clear bb 
  have e0 := (M1.alloc (.cells #[.slice cak st.C.n kck, .slice rak st.R.n krk, .slice hak st.h khk, .int .i64 st.l] 25)).2.1 0 _ rfl
  have e1 := (M1.alloc (.cells #[.slice cak st.C.n kck, .slice rak st.R.n krk, .slice hak st.h khk, .int .i64 st.l] 25)).2.1 1 _ rfl
  have e2 := (M1.alloc (.cells #[.slice cak st.C.n kck, .slice rak st.R.n krk, .slice hak st.h khk, .int .i64 st.l] 25)).2.1 2 _ rfl
  have e3 := (M1.alloc (.cells #[.slice cak st.C.n kck, .slice rak st.R.n krk, .slice hak st.h khk, .int .i64 st.l] 25)).2.1 3 _ rfl
  go_wp2_with fail
  have bb : Below w8.heap.size w8 (w8.alloc (.cells #[.slice cak st.C.n kck, .slice rak st.R.n krk, .slice hak st.h khk, .int .i64 st.l] 25)) := below_box (Below.refl _ _)
  have NK := Mut.new w8 #[.slice cak st.C.n kck, .slice rak st.R.n krk, .slice hak st.h khk, .int .i64 st.l] 25
  replace M1 := M1.below bb
  replace N := N.below bb
  replace AH := AH.below bb
  replace AK := AK.below bb
  replace DA := DA.trans (bb.mono DA.size)
  have d9 := d8.trans (bb.mono d8.size)
  clear bb 
  generalize w8.alloc (.cells #[.slice cak st.C.n kck, .slice rak st.R.n krk, .slice hak st.h khk, .int .i64 st.l] 25) = w9 at *
  have hz_bk : w8.heap.size < w9.heap.size := NK.1
  have hq_bk : w.heap.size ≤ w8.heap.size := d8.size
  generalize w8.heap.size = bk at *
  clear e0 e1 e2 e3
  refine (EQ.out _ _ _ AK.row.any (RA.out.below DA).any).mono ?_
  rintro e w10 ⟨rfl, bb⟩
  replace M1 := M1.below bb
  replace N := N.below bb
  replace AH := AH.below bb
  replace AK := AK.below bb
  replace NK := NK.below bb
  replace DA := DA.trans (bb.mono DA.size)
  have d10 := d9.trans (bb.mono d9.size)
  clear bb 
  clear AK
  have x0 := N.2.1 0 _ rfl
  have x1 := N.2.1 1 _ rfl
  have x2 := N.2.1 2 _ rfl
  have x3 := N.2.1 3 _ rfl
  go_wp2_with fail
  refine (HX.out _ _ AH.row).mono ?_
  rintro e w11 ⟨rfl, bb⟩
  replace M1 := M1.below bb
  replace N := N.below bb
  replace AH := AH.below bb
  replace NK := NK.below bb
  replace DA := DA.trans (bb.mono DA.size)
  have d11 := d10.trans (bb.mono d10.size)
  clear bb x0 x1 x2 x3
  go_wp2_with fail
  go_ret
  exact ⟨rfl, d11⟩
end Go.Proofs.Ytddbgmknbjdbcaa
