/- What comes to one of a pair of the specification. -/
import Derived.Test.YtjfalfjadleegaaS12q
import Derived.Deep.DeepCutAuto
import Derived.Deep.CutRange
namespace Go.Proofs.Ytjfalfjadleegaa
open Go.RowKit

theorem own12_set {e : TypeId} {k : IntKind} {w : World} {base x : Nat} {v : Value} {L : List Int} (h : OwnN e k base v L w) (hx : x < base) (i : Nat) (u : Value) : OwnN e k base v L (w.setCell ⟨x, i, none⟩ u) :=
  own12_off h hx ((Only.refl x w).setCell i u)
theorem RowN.next {k : IntKind} {b off : Nat} {m : Int} {q : List Int} {w : World} (h : RowN k (some ⟨b, off, none⟩) (m :: q) w) : RowN k (some ⟨b, off + 1, none⟩) q w := by
  intro i hi
  obtain ⟨b', off', ha, hlt, h0⟩ := h (i + 1) (by simp; omega)
  simp only [Option.some.injEq, Addr.mk.injEq, and_true] at ha
  obtain ⟨rfl, rfl⟩ := ha
  exact ⟨b, off + 1, rfl, hlt, by rw [show off + 1 + i = off + (i + 1) by omega]; simpa using h0⟩
set_option maxRecDepth 100000 in
set_option maxHeartbeats 1600000 in
theorem s_come0 (x0 x1 x2 x3 x4 : Int) (qa : Option Addr) (qc : Nat) (ak ot : Int) (w : World) :
    Calls Try.prog 17 #[.agg #[.int .i64 x0, .int .i64 x1, .int .i64 x2, .int .i64 x3, .int .i64 x4, .slice qa 0 qc, .int .i64 ak], .int .i64 ot] w fun e w' => e = .returned (.tuple #[.agg #[.int .i64 x0, .int .i64 x1, .int .i64 x2, .int .i64 x3, .int .i64 x4, .slice qa 0 qc, .int .i64 ak], .slice none 0 0]) ∧ Below w.heap.size w w' := by
  go_enter Try.func17, Try.ntmps17
  go_wp2_with fail
  exact bodyPost_ret (v := .tuple #[.agg #[.int .i64 x0, .int .i64 x1, .int .i64 x2, .int .i64 x3, .int .i64 x4, .slice qa 0 qc, .int .i64 ak], .slice none 0 0]) (by simp [results, Try.results17, go_sem]) rfl ⟨rfl, (by (repeat (first | with_reducible exact Below.refl _ _ | with_reducible exact d1 | with_reducible apply Below.setCell | with_reducible apply Below.alloc | with_reducible apply Below.drew | with_reducible refine below_drewN ?_ _)); all_goals (first | (simp; done) | (simp; omega) | omega))⟩
set_option maxRecDepth 100000 in
set_option maxHeartbeats 6400000 in
theorem s_come_1 (x0 x1 x2 x3 x4 : Int) (b off : Nat) (L : List Int) (qc : Nat) (ak ot : Int) (w : World) (hG : GS ⟨x0, x1, x2, x3, x4⟩) (hl : L.length ≤ 1000) (hc : L.length + 1 ≤ qc) (hR : RowN .i64 (some ⟨b, off, none⟩) (1 :: L) w) :
    Calls Try.prog 17 #[.agg #[.int .i64 x0, .int .i64 x1, .int .i64 x2, .int .i64 x3, .int .i64 x4, .slice (some ⟨b, off, none⟩) (L.length + 1) qc, .int .i64 ak], .int .i64 ot] w fun e w' => ∃ (vq v : Value) (B : Nat), e = .returned (.tuple #[.agg #[.int .i64 (stp ⟨x0, x1, x2, x3, x4⟩ 5 ot).1.st, .int .i64 (stp ⟨x0, x1, x2, x3, x4⟩ 5 ot).1.ho, .int .i64 (stp ⟨x0, x1, x2, x3, x4⟩ 5 ot).1.le, .int .i64 (stp ⟨x0, x1, x2, x3, x4⟩ 5 ot).1.qu, .int .i64 (stp ⟨x0, x1, x2, x3, x4⟩ 5 ot).1.up, vq, .int .i64 ak], v]) ∧ OwnN 3 .i64 w.heap.size vq L w' ∧ w.heap.size + 1 < B ∧ (∀ j, vq.ownBlock = some j → j < B) ∧ TB B v (stp ⟨x0, x1, x2, x3, x4⟩ 5 ot).2 w' ∧ Below w.heap.size w w' := by
  have s1 := hide (fun w => s_step ⟨x0, x1, x2, x3, x4⟩ 5 ot w hG)
  generalize stp ⟨x0, x1, x2, x3, x4⟩ 5 ot = T at *
  obtain ⟨⟨y0, y1, y2, y3, y4⟩, t⟩ := T
  have MS := (Mut.new w #[.int .i64 x0, .int .i64 x1, .int .i64 x2, .int .i64 x3, .int .i64 x4, .slice (some ⟨b, off, none⟩) (L.length + 1) qc, .int .i64 ak] 53).alloc (.cells #[.int .i64 0, .int .i64 0, .int .i64 0, .int .i64 0, .int .i64 0, .slice none 0 0, .int .i64 0] 53)
  have MR : Mut ((w.alloc (.cells #[.int .i64 x0, .int .i64 x1, .int .i64 x2, .int .i64 x3, .int .i64 x4, .slice (some ⟨b, off, none⟩) (L.length + 1) qc, .int .i64 ak] 53)).alloc (.cells #[.int .i64 0, .int .i64 0, .int .i64 0, .int .i64 0, .int .i64 0, .slice none 0 0, .int .i64 0] 53)) (w.heap.size + 1) [.int .i64 0, .int .i64 0, .int .i64 0, .int .i64 0, .int .i64 0, .slice none 0 0, .int .i64 0] := by
    simpa using Mut.new (w.alloc (.cells #[.int .i64 x0, .int .i64 x1, .int .i64 x2, .int .i64 x3, .int .i64 x4, .slice (some ⟨b, off, none⟩) (L.length + 1) qc, .int .i64 ak] 53)) #[.int .i64 0, .int .i64 0, .int .i64 0, .int .i64 0, .int .i64 0, .slice none 0 0, .int .i64 0] 53
  have dd : Below w.heap.size w ((w.alloc (.cells #[.int .i64 x0, .int .i64 x1, .int .i64 x2, .int .i64 x3, .int .i64 x4, .slice (some ⟨b, off, none⟩) (L.length + 1) qc, .int .i64 ak] 53)).alloc (.cells #[.int .i64 0, .int .i64 0, .int .i64 0, .int .i64 0, .int .i64 0, .slice none 0 0, .int .i64 0] 53)) := below_box2 (Below.refl _ _)
  have hR2 := hR.below dd
  have hwz : ((w.alloc (.cells #[.int .i64 x0, .int .i64 x1, .int .i64 x2, .int .i64 x3, .int .i64 x4, .slice (some ⟨b, off, none⟩) (L.length + 1) qc, .int .i64 ak] 53)).alloc (.cells #[.int .i64 0, .int .i64 0, .int .i64 0, .int .i64 0, .int .i64 0, .slice none 0 0, .int .i64 0] 53)).heap.size = w.heap.size + 2 := by simp
  have hne : ((L.length : Int) + 1 == 0) = false := by simp; omega
  have hlp : (0 : Int) < (L.length : Int) + 1 := by omega
  have hl1 : (L.length : Int) + 1 ≤ 1001 := by omega
  clear hG hR
  go_enter Try.func17, Try.ntmps17
  go_upto_region 1 with fail
  generalize (w.alloc (.cells #[.int .i64 x0, .int .i64 x1, .int .i64 x2, .int .i64 x3, .int .i64 x4, .slice (some ⟨b, off, none⟩) (L.length + 1) qc, .int .i64 ak] 53)).alloc (.cells #[.int .i64 0, .int .i64 0, .int .i64 0, .int .i64 0, .int .i64 0, .slice none 0 0, .int .i64 0] 53) = wz at *
  have hwz' := hide hwz
  clear hwz
  have hqm : wz.cell? ⟨b, off, none⟩ = some (.int .i64 1) := by
    obtain ⟨b', off', ha, _, h0⟩ := hR2 0 (by simp)
    simp only [Option.some.injEq, Addr.mk.injEq, and_true] at ha
    obtain ⟨rfl, rfl⟩ := ha
    simpa using h0
  have z5 := MS.2.1 5 _ rfl
  go_upto_region 4 with fail
  have hbs : w.heap.size < wz.heap.size := MS.1
  have hbr : w.heap.size + 1 < wz.heap.size := MR.1
  have own0 : OwnN 3 .i64 wz.heap.size (.slice (some ⟨wz.heap.size, 0, none⟩) 0 0) [] (wz.alloc (.cells #[] 3)) := ownN_made 3 .i64 wz [] (by simp)
  have bE : Below wz.heap.size wz (wz.alloc (.cells #[] 3)) := below_box (Below.refl _ _)
  have A0 := fun (o : Obj) k => old1 hbs o k
  have hsa := hide (And.intro (MS.below bE) (And.intro (MR.below bE) (dd.trans (bE.mono dd.size))))
  have hR3 := hR2.below bE
  have hl9 : Hid (([] : List Int).length + L.length ≤ 8589934593) := by show _ ≤ _; simp; omega
  have hzb := bE.size
  clear hR2 hqm
  clear bE MS MR dd
  by_cases hq1 : qc = 1
  · subst hq1
    have hL0 : L = [] := List.eq_nil_of_length_eq_zero (by omega)
    subst hL0
    have src : Hid (SrcN .i64 (some ⟨b, off, none⟩) ([] : List Int) 0 (wz.alloc (.cells #[] 3))) := ⟨RowN.nil _ _ _, .inr ⟨b, off, rfl⟩⟩
    go_upto_region 5 with (first | (at_builtin; refine wpList_appN numInt rfl _ _ rfl wz.heap.size _ [] rfl own0 (some ⟨b, off, none⟩) [] _ _ rfl (by simp) src.out hl9.out (by decide) hzb ?_; intro v6 w6 own6 b6 _ _; rw [List.nil_append] at own6; obtain ⟨va, vc, rfl, _⟩ := ownN_row own6; obtain ⟨MSa, MRa, dda⟩ := hsa.out; have MS6 := MSa.base hbs b6; have MR6 := MRa.base hbr b6; have d6 := dda.trans (b6.mono (by omega)); have m5 := MS6.2.1 5 _ rfl; have mf5 := MS6.2.2 5 (by simp); clear MSa MRa dda hsa))
    have MX := MS6.set 5 (.slice va 0 vc)
    simp only [List.set_cons_zero, List.set_cons_succ] at MX
    have MRX := MR6.other (c := w.heap.size) (by omega) 5 (.slice va 0 vc)
    have ownX : OwnN 3 .i64 wz.heap.size (.slice va 0 vc) [] (w6.setCell ⟨w.heap.size, 5, none⟩ (.slice va 0 vc)) := own12_set own6 hbs 5 _
    have dX : Below w.heap.size w (w6.setCell ⟨w.heap.size, 5, none⟩ (.slice va 0 vc)) := d6.setCell (Nat.le_refl _) _
    have hzX : wz.heap.size ≤ (w6.setCell ⟨w.heap.size, 5, none⟩ (.slice va 0 vc)).heap.size := by simpa using Nat.le_trans hzb b6.size
    clear m5 mf5 MS6 MR6 own6 d6 b6 A0 z5
    generalize w6.setCell ⟨w.heap.size, 5, none⟩ (.slice va 0 vc) = X at *
    have ME := Mut.new X #[.int .i64 5, .int .i64 ot] 63
    have bX : Below X.heap.size X (X.alloc (.cells #[.int .i64 5, .int .i64 ot] 63)) := below_box (Below.refl _ _)
    replace MX := MX.below bX
    replace MRX := MRX.below bX
    replace ownX := ownN_below ownX bX
    replace dX := dX.trans (bX.mono dX.size)
    replace hzX := Nat.le_trans hzX bX.size
    clear bX
    go_upto_region 13 with fail
    generalize X.alloc (.cells #[.int .i64 5, .int .i64 ot] 63) = E at *
    generalize X.heap.size = qe at *
    have hoB : Hid (∀ j, (.slice va 0 vc : Value).ownBlock = some j → j < E.heap.size) := fun j hj => (World.ownsRow.lt ownX j hj).2
    have c0 := MX.2.1 0 _ rfl
    have c1 := MX.2.1 1 _ rfl
    have c2 := MX.2.1 2 _ rfl
    have c3 := MX.2.1 3 _ rfl
    have c4 := MX.2.1 4 _ rfl
    have g0 := ME.2.1 0 _ rfl
    have g1 := ME.2.1 1 _ rfl
    go_wp2_with fail
    refine (s1.out _).mono ?_
    rintro e w7 ⟨v, rfl, T1, b7⟩
    have hE7 : wz.heap.size ≤ E.heap.size := hzX
    replace MX := MX.below b7
    replace MRX := MRX.below b7
    replace ownX := ownN_below ownX b7
    replace dX := dX.trans (b7.mono dX.size)
    have M8 := Mut.new w7 #[.int .i64 y0, .int .i64 y1, .int .i64 y2, .int .i64 y3, .int .i64 y4] 27
    have bF : Below w7.heap.size w7 (w7.alloc (.cells #[.int .i64 y0, .int .i64 y1, .int .i64 y2, .int .i64 y3, .int .i64 y4] 27)) := below_box (Below.refl _ _)
    replace MX := MX.below bF
    replace MRX := MRX.below bF
    replace ownX := ownN_below ownX bF
    replace T1 := T1.below bF
    replace dX := dX.trans (bF.mono dX.size)
    clear b7 bF c0 c1 c2 c3 c4 g0 g1 ME
    go_upto_region 14 with fail
    generalize w7.alloc (.cells #[.int .i64 y0, .int .i64 y1, .int .i64 y2, .int .i64 y3, .int .i64 y4] 27) = F at *
    generalize w7.heap.size = q8 at *
    have a0 := M8.2.1 0 _ rfl
    have a1 := M8.2.1 1 _ rfl
    have a2 := M8.2.1 2 _ rfl
    have a3 := M8.2.1 3 _ rfl
    have a4 := M8.2.1 4 _ rfl
    have u0 := MX.2.1 0 _ rfl
    have uf0 := MX.2.2 0 (by simp)
    have u1 := MX.2.1 1 _ rfl
    have uf1 := MX.2.2 1 (by simp)
    have u2 := MX.2.1 2 _ rfl
    have uf2 := MX.2.2 2 (by simp)
    have u3 := MX.2.1 3 _ rfl
    have uf3 := MX.2.2 3 (by simp)
    have u4 := MX.2.1 4 _ rfl
    have uf4 := MX.2.2 4 (by simp)
    have u5 := MX.2.1 5 _ rfl
    have uf5 := MX.2.2 5 (by simp)
    have u6 := MX.2.1 6 _ rfl
    have uf6 := MX.2.2 6 (by simp)
    have r0 := MRX.2.1 0 _ rfl
    have rf0 := MRX.2.2 0 (by simp)
    have r1 := MRX.2.1 1 _ rfl
    have rf1 := MRX.2.2 1 (by simp)
    have r2 := MRX.2.1 2 _ rfl
    have rf2 := MRX.2.2 2 (by simp)
    have r3 := MRX.2.1 3 _ rfl
    have rf3 := MRX.2.2 3 (by simp)
    have r4 := MRX.2.1 4 _ rfl
    have rf4 := MRX.2.2 4 (by simp)
    have r5 := MRX.2.1 5 _ rfl
    have rf5 := MRX.2.2 5 (by simp)
    have r6 := MRX.2.1 6 _ rfl
    have rf6 := MRX.2.2 6 (by simp)
    have hA : w.heap.size < E.heap.size := by omega
    have hB : w.heap.size + 1 < E.heap.size := by omega
    have hA' : w.heap.size < wz.heap.size := hbs
    have hB' : w.heap.size + 1 < wz.heap.size := hbr
    have d1 := dX
    clear M8 MX MRX dX
    go_wp2_with fail
    refine bodyPost_ret (v := .tuple #[.agg #[.int .i64 y0, .int .i64 y1, .int .i64 y2, .int .i64 y3, .int .i64 y4, .slice va 0 vc, .int .i64 ak], v]) (by simp [results, Try.results17, go_sem, r0, r1, r2, r3, r4, r5, r6]) rfl ⟨_, _, E.heap.size, rfl, ?_, hB, hoB.out, ?_, (by (repeat (first | with_reducible exact Below.refl _ _ | with_reducible exact d1 | with_reducible apply Below.setCell | with_reducible apply Below.alloc | with_reducible apply Below.drew | with_reducible refine below_drewN ?_ _)); all_goals (first | (simp; done) | (simp; omega) | omega))⟩
    · exact ownN_base (own12_set (own12_set (own12_set (own12_set (own12_set (own12_set (own12_set (own12_set (own12_set (own12_set (own12_set (own12_set ownX hA' _ _) hA' _ _) hA' _ _) hA' _ _) hA' _ _) hB' _ _) hB' _ _) hB' _ _) hB' _ _) hB' _ _) hB' _ _) hB' _ _) (by omega)
    · exact (TB.set (TB.set (TB.set (TB.set (TB.set (TB.set (TB.set (TB.set (TB.set (TB.set (TB.set (TB.set T1 hA _ _) hA _ _) hA _ _) hA _ _) hA _ _) hB _ _) hB _ _) hB _ _) hB _ _) hB _ _) hB _ _) hB _ _)
  · have src : Hid (∀ c, SrcN .i64 (some ⟨b, off + 1, none⟩) L c (wz.alloc (.cells #[] 3))) := fun c => ⟨hR3.next, .inr ⟨b, off + 1, rfl⟩⟩
    go_upto_region 5 with (first | (at_builtin; refine wpList_appN numInt rfl _ _ rfl wz.heap.size _ [] rfl own0 (some ⟨b, off + 1, none⟩) L _ _ rfl (by simp) (src.out _) hl9.out (by decide) hzb ?_; intro v6 w6 own6 b6 _ _; rw [List.nil_append] at own6; obtain ⟨va, vc, rfl, _⟩ := ownN_row own6; obtain ⟨MSa, MRa, dda⟩ := hsa.out; have MS6 := MSa.base hbs b6; have MR6 := MRa.base hbr b6; have d6 := dda.trans (b6.mono (by omega)); have m5 := MS6.2.1 5 _ rfl; have mf5 := MS6.2.2 5 (by simp); clear MSa MRa dda hsa))
    have MX := MS6.set 5 (.slice va L.length vc)
    simp only [List.set_cons_zero, List.set_cons_succ] at MX
    have MRX := MR6.other (c := w.heap.size) (by omega) 5 (.slice va L.length vc)
    have ownX : OwnN 3 .i64 wz.heap.size (.slice va L.length vc) L (w6.setCell ⟨w.heap.size, 5, none⟩ (.slice va L.length vc)) := own12_set own6 hbs 5 _
    have dX : Below w.heap.size w (w6.setCell ⟨w.heap.size, 5, none⟩ (.slice va L.length vc)) := d6.setCell (Nat.le_refl _) _
    have hzX : wz.heap.size ≤ (w6.setCell ⟨w.heap.size, 5, none⟩ (.slice va L.length vc)).heap.size := by simpa using Nat.le_trans hzb b6.size
    clear m5 mf5 MS6 MR6 own6 d6 b6 A0 z5
    generalize w6.setCell ⟨w.heap.size, 5, none⟩ (.slice va L.length vc) = X at *
    have ME := Mut.new X #[.int .i64 5, .int .i64 ot] 63
    have bX : Below X.heap.size X (X.alloc (.cells #[.int .i64 5, .int .i64 ot] 63)) := below_box (Below.refl _ _)
    replace MX := MX.below bX
    replace MRX := MRX.below bX
    replace ownX := ownN_below ownX bX
    replace dX := dX.trans (bX.mono dX.size)
    replace hzX := Nat.le_trans hzX bX.size
    clear bX
    go_upto_region 13 with fail
    generalize X.alloc (.cells #[.int .i64 5, .int .i64 ot] 63) = E at *
    generalize X.heap.size = qe at *
    have hoB : Hid (∀ j, (.slice va L.length vc : Value).ownBlock = some j → j < E.heap.size) := fun j hj => (World.ownsRow.lt ownX j hj).2
    have c0 := MX.2.1 0 _ rfl
    have c1 := MX.2.1 1 _ rfl
    have c2 := MX.2.1 2 _ rfl
    have c3 := MX.2.1 3 _ rfl
    have c4 := MX.2.1 4 _ rfl
    have g0 := ME.2.1 0 _ rfl
    have g1 := ME.2.1 1 _ rfl
    go_wp2_with fail
    refine (s1.out _).mono ?_
    rintro e w7 ⟨v, rfl, T1, b7⟩
    have hE7 : wz.heap.size ≤ E.heap.size := hzX
    replace MX := MX.below b7
    replace MRX := MRX.below b7
    replace ownX := ownN_below ownX b7
    replace dX := dX.trans (b7.mono dX.size)
    have M8 := Mut.new w7 #[.int .i64 y0, .int .i64 y1, .int .i64 y2, .int .i64 y3, .int .i64 y4] 27
    have bF : Below w7.heap.size w7 (w7.alloc (.cells #[.int .i64 y0, .int .i64 y1, .int .i64 y2, .int .i64 y3, .int .i64 y4] 27)) := below_box (Below.refl _ _)
    replace MX := MX.below bF
    replace MRX := MRX.below bF
    replace ownX := ownN_below ownX bF
    replace T1 := T1.below bF
    replace dX := dX.trans (bF.mono dX.size)
    clear b7 bF c0 c1 c2 c3 c4 g0 g1 ME
    go_upto_region 14 with fail
    generalize w7.alloc (.cells #[.int .i64 y0, .int .i64 y1, .int .i64 y2, .int .i64 y3, .int .i64 y4] 27) = F at *
    generalize w7.heap.size = q8 at *
    have a0 := M8.2.1 0 _ rfl
    have a1 := M8.2.1 1 _ rfl
    have a2 := M8.2.1 2 _ rfl
    have a3 := M8.2.1 3 _ rfl
    have a4 := M8.2.1 4 _ rfl
    have u0 := MX.2.1 0 _ rfl
    have uf0 := MX.2.2 0 (by simp)
    have u1 := MX.2.1 1 _ rfl
    have uf1 := MX.2.2 1 (by simp)
    have u2 := MX.2.1 2 _ rfl
    have uf2 := MX.2.2 2 (by simp)
    have u3 := MX.2.1 3 _ rfl
    have uf3 := MX.2.2 3 (by simp)
    have u4 := MX.2.1 4 _ rfl
    have uf4 := MX.2.2 4 (by simp)
    have u5 := MX.2.1 5 _ rfl
    have uf5 := MX.2.2 5 (by simp)
    have u6 := MX.2.1 6 _ rfl
    have uf6 := MX.2.2 6 (by simp)
    have r0 := MRX.2.1 0 _ rfl
    have rf0 := MRX.2.2 0 (by simp)
    have r1 := MRX.2.1 1 _ rfl
    have rf1 := MRX.2.2 1 (by simp)
    have r2 := MRX.2.1 2 _ rfl
    have rf2 := MRX.2.2 2 (by simp)
    have r3 := MRX.2.1 3 _ rfl
    have rf3 := MRX.2.2 3 (by simp)
    have r4 := MRX.2.1 4 _ rfl
    have rf4 := MRX.2.2 4 (by simp)
    have r5 := MRX.2.1 5 _ rfl
    have rf5 := MRX.2.2 5 (by simp)
    have r6 := MRX.2.1 6 _ rfl
    have rf6 := MRX.2.2 6 (by simp)
    have hA : w.heap.size < E.heap.size := by omega
    have hB : w.heap.size + 1 < E.heap.size := by omega
    have hA' : w.heap.size < wz.heap.size := hbs
    have hB' : w.heap.size + 1 < wz.heap.size := hbr
    have d1 := dX
    clear M8 MX MRX dX
    go_wp2_with fail
    refine bodyPost_ret (v := .tuple #[.agg #[.int .i64 y0, .int .i64 y1, .int .i64 y2, .int .i64 y3, .int .i64 y4, .slice va L.length vc, .int .i64 ak], v]) (by simp [results, Try.results17, go_sem, r0, r1, r2, r3, r4, r5, r6]) rfl ⟨_, _, E.heap.size, rfl, ?_, hB, hoB.out, ?_, (by (repeat (first | with_reducible exact Below.refl _ _ | with_reducible exact d1 | with_reducible apply Below.setCell | with_reducible apply Below.alloc | with_reducible apply Below.drew | with_reducible refine below_drewN ?_ _)); all_goals (first | (simp; done) | (simp; omega) | omega))⟩
    · exact ownN_base (own12_set (own12_set (own12_set (own12_set (own12_set (own12_set (own12_set (own12_set (own12_set (own12_set (own12_set (own12_set ownX hA' _ _) hA' _ _) hA' _ _) hA' _ _) hA' _ _) hB' _ _) hB' _ _) hB' _ _) hB' _ _) hB' _ _) hB' _ _) hB' _ _) (by omega)
    · exact (TB.set (TB.set (TB.set (TB.set (TB.set (TB.set (TB.set (TB.set (TB.set (TB.set (TB.set (TB.set T1 hA _ _) hA _ _) hA _ _) hA _ _) hA _ _) hB _ _) hB _ _) hB _ _) hB _ _) hB _ _) hB _ _) hB _ _)
set_option maxRecDepth 100000 in
set_option maxHeartbeats 6400000 in
theorem s_come_3 (x0 x1 x2 x3 x4 : Int) (b off : Nat) (L : List Int) (qc : Nat) (ak ot : Int) (w : World) (hG : GS ⟨x0, x1, x2, x3, x4⟩) (hl : L.length ≤ 1000) (hc : L.length + 1 ≤ qc) (hR : RowN .i64 (some ⟨b, off, none⟩) (3 :: L) w) :
    Calls Try.prog 17 #[.agg #[.int .i64 x0, .int .i64 x1, .int .i64 x2, .int .i64 x3, .int .i64 x4, .slice (some ⟨b, off, none⟩) (L.length + 1) qc, .int .i64 ak], .int .i64 ot] w fun e w' => ∃ (vq v : Value) (B : Nat), e = .returned (.tuple #[.agg #[.int .i64 (stp ⟨x0, x1, x2, x3, x4⟩ 9 0).1.st, .int .i64 (stp ⟨x0, x1, x2, x3, x4⟩ 9 0).1.ho, .int .i64 (stp ⟨x0, x1, x2, x3, x4⟩ 9 0).1.le, .int .i64 (stp ⟨x0, x1, x2, x3, x4⟩ 9 0).1.qu, .int .i64 (stp ⟨x0, x1, x2, x3, x4⟩ 9 0).1.up, vq, .int .i64 ak], v]) ∧ OwnN 3 .i64 w.heap.size vq L w' ∧ w.heap.size + 1 < B ∧ (∀ j, vq.ownBlock = some j → j < B) ∧ TB B v (stp ⟨x0, x1, x2, x3, x4⟩ 9 0).2 w' ∧ Below w.heap.size w w' := by
  have s1 := hide (fun w => s_step ⟨x0, x1, x2, x3, x4⟩ 9 0 w hG)
  generalize stp ⟨x0, x1, x2, x3, x4⟩ 9 0 = T at *
  obtain ⟨⟨y0, y1, y2, y3, y4⟩, t⟩ := T
  have MS := (Mut.new w #[.int .i64 x0, .int .i64 x1, .int .i64 x2, .int .i64 x3, .int .i64 x4, .slice (some ⟨b, off, none⟩) (L.length + 1) qc, .int .i64 ak] 53).alloc (.cells #[.int .i64 0, .int .i64 0, .int .i64 0, .int .i64 0, .int .i64 0, .slice none 0 0, .int .i64 0] 53)
  have MR : Mut ((w.alloc (.cells #[.int .i64 x0, .int .i64 x1, .int .i64 x2, .int .i64 x3, .int .i64 x4, .slice (some ⟨b, off, none⟩) (L.length + 1) qc, .int .i64 ak] 53)).alloc (.cells #[.int .i64 0, .int .i64 0, .int .i64 0, .int .i64 0, .int .i64 0, .slice none 0 0, .int .i64 0] 53)) (w.heap.size + 1) [.int .i64 0, .int .i64 0, .int .i64 0, .int .i64 0, .int .i64 0, .slice none 0 0, .int .i64 0] := by
    simpa using Mut.new (w.alloc (.cells #[.int .i64 x0, .int .i64 x1, .int .i64 x2, .int .i64 x3, .int .i64 x4, .slice (some ⟨b, off, none⟩) (L.length + 1) qc, .int .i64 ak] 53)) #[.int .i64 0, .int .i64 0, .int .i64 0, .int .i64 0, .int .i64 0, .slice none 0 0, .int .i64 0] 53
  have dd : Below w.heap.size w ((w.alloc (.cells #[.int .i64 x0, .int .i64 x1, .int .i64 x2, .int .i64 x3, .int .i64 x4, .slice (some ⟨b, off, none⟩) (L.length + 1) qc, .int .i64 ak] 53)).alloc (.cells #[.int .i64 0, .int .i64 0, .int .i64 0, .int .i64 0, .int .i64 0, .slice none 0 0, .int .i64 0] 53)) := below_box2 (Below.refl _ _)
  have hR2 := hR.below dd
  have hwz : ((w.alloc (.cells #[.int .i64 x0, .int .i64 x1, .int .i64 x2, .int .i64 x3, .int .i64 x4, .slice (some ⟨b, off, none⟩) (L.length + 1) qc, .int .i64 ak] 53)).alloc (.cells #[.int .i64 0, .int .i64 0, .int .i64 0, .int .i64 0, .int .i64 0, .slice none 0 0, .int .i64 0] 53)).heap.size = w.heap.size + 2 := by simp
  have hne : ((L.length : Int) + 1 == 0) = false := by simp; omega
  have hlp : (0 : Int) < (L.length : Int) + 1 := by omega
  have hl1 : (L.length : Int) + 1 ≤ 1001 := by omega
  clear hG hR
  go_enter Try.func17, Try.ntmps17
  go_upto_region 1 with fail
  generalize (w.alloc (.cells #[.int .i64 x0, .int .i64 x1, .int .i64 x2, .int .i64 x3, .int .i64 x4, .slice (some ⟨b, off, none⟩) (L.length + 1) qc, .int .i64 ak] 53)).alloc (.cells #[.int .i64 0, .int .i64 0, .int .i64 0, .int .i64 0, .int .i64 0, .slice none 0 0, .int .i64 0] 53) = wz at *
  have hwz' := hide hwz
  clear hwz
  have hqm : wz.cell? ⟨b, off, none⟩ = some (.int .i64 3) := by
    obtain ⟨b', off', ha, _, h0⟩ := hR2 0 (by simp)
    simp only [Option.some.injEq, Addr.mk.injEq, and_true] at ha
    obtain ⟨rfl, rfl⟩ := ha
    simpa using h0
  have z5 := MS.2.1 5 _ rfl
  go_upto_region 4 with fail
  have hbs : w.heap.size < wz.heap.size := MS.1
  have hbr : w.heap.size + 1 < wz.heap.size := MR.1
  have own0 : OwnN 3 .i64 wz.heap.size (.slice (some ⟨wz.heap.size, 0, none⟩) 0 0) [] (wz.alloc (.cells #[] 3)) := ownN_made 3 .i64 wz [] (by simp)
  have bE : Below wz.heap.size wz (wz.alloc (.cells #[] 3)) := below_box (Below.refl _ _)
  have A0 := fun (o : Obj) k => old1 hbs o k
  have hsa := hide (And.intro (MS.below bE) (And.intro (MR.below bE) (dd.trans (bE.mono dd.size))))
  have hR3 := hR2.below bE
  have hl9 : Hid (([] : List Int).length + L.length ≤ 8589934593) := by show _ ≤ _; simp; omega
  have hzb := bE.size
  clear hR2 hqm
  clear bE MS MR dd
  by_cases hq1 : qc = 1
  · subst hq1
    have hL0 : L = [] := List.eq_nil_of_length_eq_zero (by omega)
    subst hL0
    have src : Hid (SrcN .i64 (some ⟨b, off, none⟩) ([] : List Int) 0 (wz.alloc (.cells #[] 3))) := ⟨RowN.nil _ _ _, .inr ⟨b, off, rfl⟩⟩
    go_upto_region 5 with (first | (at_builtin; refine wpList_appN numInt rfl _ _ rfl wz.heap.size _ [] rfl own0 (some ⟨b, off, none⟩) [] _ _ rfl (by simp) src.out hl9.out (by decide) hzb ?_; intro v6 w6 own6 b6 _ _; rw [List.nil_append] at own6; obtain ⟨va, vc, rfl, _⟩ := ownN_row own6; obtain ⟨MSa, MRa, dda⟩ := hsa.out; have MS6 := MSa.base hbs b6; have MR6 := MRa.base hbr b6; have d6 := dda.trans (b6.mono (by omega)); have m5 := MS6.2.1 5 _ rfl; have mf5 := MS6.2.2 5 (by simp); clear MSa MRa dda hsa))
    have MX := MS6.set 5 (.slice va 0 vc)
    simp only [List.set_cons_zero, List.set_cons_succ] at MX
    have MRX := MR6.other (c := w.heap.size) (by omega) 5 (.slice va 0 vc)
    have ownX : OwnN 3 .i64 wz.heap.size (.slice va 0 vc) [] (w6.setCell ⟨w.heap.size, 5, none⟩ (.slice va 0 vc)) := own12_set own6 hbs 5 _
    have dX : Below w.heap.size w (w6.setCell ⟨w.heap.size, 5, none⟩ (.slice va 0 vc)) := d6.setCell (Nat.le_refl _) _
    have hzX : wz.heap.size ≤ (w6.setCell ⟨w.heap.size, 5, none⟩ (.slice va 0 vc)).heap.size := by simpa using Nat.le_trans hzb b6.size
    clear m5 mf5 MS6 MR6 own6 d6 b6 A0 z5
    generalize w6.setCell ⟨w.heap.size, 5, none⟩ (.slice va 0 vc) = X at *
    have ME := Mut.new X #[.int .i64 9, .int .i64 0] 63
    have bX : Below X.heap.size X (X.alloc (.cells #[.int .i64 9, .int .i64 0] 63)) := below_box (Below.refl _ _)
    replace MX := MX.below bX
    replace MRX := MRX.below bX
    replace ownX := ownN_below ownX bX
    replace dX := dX.trans (bX.mono dX.size)
    replace hzX := Nat.le_trans hzX bX.size
    clear bX
    go_upto_region 13 with fail
    generalize X.alloc (.cells #[.int .i64 9, .int .i64 0] 63) = E at *
    generalize X.heap.size = qe at *
    have hoB : Hid (∀ j, (.slice va 0 vc : Value).ownBlock = some j → j < E.heap.size) := fun j hj => (World.ownsRow.lt ownX j hj).2
    have c0 := MX.2.1 0 _ rfl
    have c1 := MX.2.1 1 _ rfl
    have c2 := MX.2.1 2 _ rfl
    have c3 := MX.2.1 3 _ rfl
    have c4 := MX.2.1 4 _ rfl
    have g0 := ME.2.1 0 _ rfl
    have g1 := ME.2.1 1 _ rfl
    go_wp2_with fail
    refine (s1.out _).mono ?_
    rintro e w7 ⟨v, rfl, T1, b7⟩
    have hE7 : wz.heap.size ≤ E.heap.size := hzX
    replace MX := MX.below b7
    replace MRX := MRX.below b7
    replace ownX := ownN_below ownX b7
    replace dX := dX.trans (b7.mono dX.size)
    have M8 := Mut.new w7 #[.int .i64 y0, .int .i64 y1, .int .i64 y2, .int .i64 y3, .int .i64 y4] 27
    have bF : Below w7.heap.size w7 (w7.alloc (.cells #[.int .i64 y0, .int .i64 y1, .int .i64 y2, .int .i64 y3, .int .i64 y4] 27)) := below_box (Below.refl _ _)
    replace MX := MX.below bF
    replace MRX := MRX.below bF
    replace ownX := ownN_below ownX bF
    replace T1 := T1.below bF
    replace dX := dX.trans (bF.mono dX.size)
    clear b7 bF c0 c1 c2 c3 c4 g0 g1 ME
    go_upto_region 14 with fail
    generalize w7.alloc (.cells #[.int .i64 y0, .int .i64 y1, .int .i64 y2, .int .i64 y3, .int .i64 y4] 27) = F at *
    generalize w7.heap.size = q8 at *
    have a0 := M8.2.1 0 _ rfl
    have a1 := M8.2.1 1 _ rfl
    have a2 := M8.2.1 2 _ rfl
    have a3 := M8.2.1 3 _ rfl
    have a4 := M8.2.1 4 _ rfl
    have u0 := MX.2.1 0 _ rfl
    have uf0 := MX.2.2 0 (by simp)
    have u1 := MX.2.1 1 _ rfl
    have uf1 := MX.2.2 1 (by simp)
    have u2 := MX.2.1 2 _ rfl
    have uf2 := MX.2.2 2 (by simp)
    have u3 := MX.2.1 3 _ rfl
    have uf3 := MX.2.2 3 (by simp)
    have u4 := MX.2.1 4 _ rfl
    have uf4 := MX.2.2 4 (by simp)
    have u5 := MX.2.1 5 _ rfl
    have uf5 := MX.2.2 5 (by simp)
    have u6 := MX.2.1 6 _ rfl
    have uf6 := MX.2.2 6 (by simp)
    have r0 := MRX.2.1 0 _ rfl
    have rf0 := MRX.2.2 0 (by simp)
    have r1 := MRX.2.1 1 _ rfl
    have rf1 := MRX.2.2 1 (by simp)
    have r2 := MRX.2.1 2 _ rfl
    have rf2 := MRX.2.2 2 (by simp)
    have r3 := MRX.2.1 3 _ rfl
    have rf3 := MRX.2.2 3 (by simp)
    have r4 := MRX.2.1 4 _ rfl
    have rf4 := MRX.2.2 4 (by simp)
    have r5 := MRX.2.1 5 _ rfl
    have rf5 := MRX.2.2 5 (by simp)
    have r6 := MRX.2.1 6 _ rfl
    have rf6 := MRX.2.2 6 (by simp)
    have hA : w.heap.size < E.heap.size := by omega
    have hB : w.heap.size + 1 < E.heap.size := by omega
    have hA' : w.heap.size < wz.heap.size := hbs
    have hB' : w.heap.size + 1 < wz.heap.size := hbr
    have d1 := dX
    clear M8 MX MRX dX
    go_wp2_with fail
    refine bodyPost_ret (v := .tuple #[.agg #[.int .i64 y0, .int .i64 y1, .int .i64 y2, .int .i64 y3, .int .i64 y4, .slice va 0 vc, .int .i64 ak], v]) (by simp [results, Try.results17, go_sem, r0, r1, r2, r3, r4, r5, r6]) rfl ⟨_, _, E.heap.size, rfl, ?_, hB, hoB.out, ?_, (by (repeat (first | with_reducible exact Below.refl _ _ | with_reducible exact d1 | with_reducible apply Below.setCell | with_reducible apply Below.alloc | with_reducible apply Below.drew | with_reducible refine below_drewN ?_ _)); all_goals (first | (simp; done) | (simp; omega) | omega))⟩
    · exact ownN_base (own12_set (own12_set (own12_set (own12_set (own12_set (own12_set (own12_set (own12_set (own12_set (own12_set (own12_set (own12_set ownX hA' _ _) hA' _ _) hA' _ _) hA' _ _) hA' _ _) hB' _ _) hB' _ _) hB' _ _) hB' _ _) hB' _ _) hB' _ _) hB' _ _) (by omega)
    · exact (TB.set (TB.set (TB.set (TB.set (TB.set (TB.set (TB.set (TB.set (TB.set (TB.set (TB.set (TB.set T1 hA _ _) hA _ _) hA _ _) hA _ _) hA _ _) hB _ _) hB _ _) hB _ _) hB _ _) hB _ _) hB _ _) hB _ _)
  · have src : Hid (∀ c, SrcN .i64 (some ⟨b, off + 1, none⟩) L c (wz.alloc (.cells #[] 3))) := fun c => ⟨hR3.next, .inr ⟨b, off + 1, rfl⟩⟩
    go_upto_region 5 with (first | (at_builtin; refine wpList_appN numInt rfl _ _ rfl wz.heap.size _ [] rfl own0 (some ⟨b, off + 1, none⟩) L _ _ rfl (by simp) (src.out _) hl9.out (by decide) hzb ?_; intro v6 w6 own6 b6 _ _; rw [List.nil_append] at own6; obtain ⟨va, vc, rfl, _⟩ := ownN_row own6; obtain ⟨MSa, MRa, dda⟩ := hsa.out; have MS6 := MSa.base hbs b6; have MR6 := MRa.base hbr b6; have d6 := dda.trans (b6.mono (by omega)); have m5 := MS6.2.1 5 _ rfl; have mf5 := MS6.2.2 5 (by simp); clear MSa MRa dda hsa))
    have MX := MS6.set 5 (.slice va L.length vc)
    simp only [List.set_cons_zero, List.set_cons_succ] at MX
    have MRX := MR6.other (c := w.heap.size) (by omega) 5 (.slice va L.length vc)
    have ownX : OwnN 3 .i64 wz.heap.size (.slice va L.length vc) L (w6.setCell ⟨w.heap.size, 5, none⟩ (.slice va L.length vc)) := own12_set own6 hbs 5 _
    have dX : Below w.heap.size w (w6.setCell ⟨w.heap.size, 5, none⟩ (.slice va L.length vc)) := d6.setCell (Nat.le_refl _) _
    have hzX : wz.heap.size ≤ (w6.setCell ⟨w.heap.size, 5, none⟩ (.slice va L.length vc)).heap.size := by simpa using Nat.le_trans hzb b6.size
    clear m5 mf5 MS6 MR6 own6 d6 b6 A0 z5
    generalize w6.setCell ⟨w.heap.size, 5, none⟩ (.slice va L.length vc) = X at *
    have ME := Mut.new X #[.int .i64 9, .int .i64 0] 63
    have bX : Below X.heap.size X (X.alloc (.cells #[.int .i64 9, .int .i64 0] 63)) := below_box (Below.refl _ _)
    replace MX := MX.below bX
    replace MRX := MRX.below bX
    replace ownX := ownN_below ownX bX
    replace dX := dX.trans (bX.mono dX.size)
    replace hzX := Nat.le_trans hzX bX.size
    clear bX
    go_upto_region 13 with fail
    generalize X.alloc (.cells #[.int .i64 9, .int .i64 0] 63) = E at *
    generalize X.heap.size = qe at *
    have hoB : Hid (∀ j, (.slice va L.length vc : Value).ownBlock = some j → j < E.heap.size) := fun j hj => (World.ownsRow.lt ownX j hj).2
    have c0 := MX.2.1 0 _ rfl
    have c1 := MX.2.1 1 _ rfl
    have c2 := MX.2.1 2 _ rfl
    have c3 := MX.2.1 3 _ rfl
    have c4 := MX.2.1 4 _ rfl
    have g0 := ME.2.1 0 _ rfl
    have g1 := ME.2.1 1 _ rfl
    go_wp2_with fail
    refine (s1.out _).mono ?_
    rintro e w7 ⟨v, rfl, T1, b7⟩
    have hE7 : wz.heap.size ≤ E.heap.size := hzX
    replace MX := MX.below b7
    replace MRX := MRX.below b7
    replace ownX := ownN_below ownX b7
    replace dX := dX.trans (b7.mono dX.size)
    have M8 := Mut.new w7 #[.int .i64 y0, .int .i64 y1, .int .i64 y2, .int .i64 y3, .int .i64 y4] 27
    have bF : Below w7.heap.size w7 (w7.alloc (.cells #[.int .i64 y0, .int .i64 y1, .int .i64 y2, .int .i64 y3, .int .i64 y4] 27)) := below_box (Below.refl _ _)
    replace MX := MX.below bF
    replace MRX := MRX.below bF
    replace ownX := ownN_below ownX bF
    replace T1 := T1.below bF
    replace dX := dX.trans (bF.mono dX.size)
    clear b7 bF c0 c1 c2 c3 c4 g0 g1 ME
    go_upto_region 14 with fail
    generalize w7.alloc (.cells #[.int .i64 y0, .int .i64 y1, .int .i64 y2, .int .i64 y3, .int .i64 y4] 27) = F at *
    generalize w7.heap.size = q8 at *
    have a0 := M8.2.1 0 _ rfl
    have a1 := M8.2.1 1 _ rfl
    have a2 := M8.2.1 2 _ rfl
    have a3 := M8.2.1 3 _ rfl
    have a4 := M8.2.1 4 _ rfl
    have u0 := MX.2.1 0 _ rfl
    have uf0 := MX.2.2 0 (by simp)
    have u1 := MX.2.1 1 _ rfl
    have uf1 := MX.2.2 1 (by simp)
    have u2 := MX.2.1 2 _ rfl
    have uf2 := MX.2.2 2 (by simp)
    have u3 := MX.2.1 3 _ rfl
    have uf3 := MX.2.2 3 (by simp)
    have u4 := MX.2.1 4 _ rfl
    have uf4 := MX.2.2 4 (by simp)
    have u5 := MX.2.1 5 _ rfl
    have uf5 := MX.2.2 5 (by simp)
    have u6 := MX.2.1 6 _ rfl
    have uf6 := MX.2.2 6 (by simp)
    have r0 := MRX.2.1 0 _ rfl
    have rf0 := MRX.2.2 0 (by simp)
    have r1 := MRX.2.1 1 _ rfl
    have rf1 := MRX.2.2 1 (by simp)
    have r2 := MRX.2.1 2 _ rfl
    have rf2 := MRX.2.2 2 (by simp)
    have r3 := MRX.2.1 3 _ rfl
    have rf3 := MRX.2.2 3 (by simp)
    have r4 := MRX.2.1 4 _ rfl
    have rf4 := MRX.2.2 4 (by simp)
    have r5 := MRX.2.1 5 _ rfl
    have rf5 := MRX.2.2 5 (by simp)
    have r6 := MRX.2.1 6 _ rfl
    have rf6 := MRX.2.2 6 (by simp)
    have hA : w.heap.size < E.heap.size := by omega
    have hB : w.heap.size + 1 < E.heap.size := by omega
    have hA' : w.heap.size < wz.heap.size := hbs
    have hB' : w.heap.size + 1 < wz.heap.size := hbr
    have d1 := dX
    clear M8 MX MRX dX
    go_wp2_with fail
    refine bodyPost_ret (v := .tuple #[.agg #[.int .i64 y0, .int .i64 y1, .int .i64 y2, .int .i64 y3, .int .i64 y4, .slice va L.length vc, .int .i64 ak], v]) (by simp [results, Try.results17, go_sem, r0, r1, r2, r3, r4, r5, r6]) rfl ⟨_, _, E.heap.size, rfl, ?_, hB, hoB.out, ?_, (by (repeat (first | with_reducible exact Below.refl _ _ | with_reducible exact d1 | with_reducible apply Below.setCell | with_reducible apply Below.alloc | with_reducible apply Below.drew | with_reducible refine below_drewN ?_ _)); all_goals (first | (simp; done) | (simp; omega) | omega))⟩
    · exact ownN_base (own12_set (own12_set (own12_set (own12_set (own12_set (own12_set (own12_set (own12_set (own12_set (own12_set (own12_set (own12_set ownX hA' _ _) hA' _ _) hA' _ _) hA' _ _) hA' _ _) hB' _ _) hB' _ _) hB' _ _) hB' _ _) hB' _ _) hB' _ _) hB' _ _) (by omega)
    · exact (TB.set (TB.set (TB.set (TB.set (TB.set (TB.set (TB.set (TB.set (TB.set (TB.set (TB.set (TB.set T1 hA _ _) hA _ _) hA _ _) hA _ _) hA _ _) hB _ _) hB _ _) hB _ _) hB _ _) hB _ _) hB _ _) hB _ _)
set_option maxRecDepth 100000 in
set_option maxHeartbeats 6400000 in
theorem s_come_4 (x0 x1 x2 x3 x4 : Int) (b off : Nat) (L : List Int) (qc : Nat) (ak ot : Int) (w : World) (hG : GS ⟨x0, x1, x2, x3, x4⟩) (hl : L.length ≤ 1000) (hc : L.length + 1 ≤ qc) (hR : RowN .i64 (some ⟨b, off, none⟩) (4 :: L) w) :
    Calls Try.prog 17 #[.agg #[.int .i64 x0, .int .i64 x1, .int .i64 x2, .int .i64 x3, .int .i64 x4, .slice (some ⟨b, off, none⟩) (L.length + 1) qc, .int .i64 ak], .int .i64 ot] w fun e w' => ∃ (vq v : Value) (B : Nat), e = .returned (.tuple #[.agg #[.int .i64 (stp ⟨x0, x1, x2, x3, x4⟩ 7 0).1.st, .int .i64 (stp ⟨x0, x1, x2, x3, x4⟩ 7 0).1.ho, .int .i64 (stp ⟨x0, x1, x2, x3, x4⟩ 7 0).1.le, .int .i64 (stp ⟨x0, x1, x2, x3, x4⟩ 7 0).1.qu, .int .i64 (stp ⟨x0, x1, x2, x3, x4⟩ 7 0).1.up, vq, .int .i64 ak], v]) ∧ OwnN 3 .i64 w.heap.size vq L w' ∧ w.heap.size + 1 < B ∧ (∀ j, vq.ownBlock = some j → j < B) ∧ TB B v (stp ⟨x0, x1, x2, x3, x4⟩ 7 0).2 w' ∧ Below w.heap.size w w' := by
  have s1 := hide (fun w => s_step ⟨x0, x1, x2, x3, x4⟩ 7 0 w hG)
  generalize stp ⟨x0, x1, x2, x3, x4⟩ 7 0 = T at *
  obtain ⟨⟨y0, y1, y2, y3, y4⟩, t⟩ := T
  have MS := (Mut.new w #[.int .i64 x0, .int .i64 x1, .int .i64 x2, .int .i64 x3, .int .i64 x4, .slice (some ⟨b, off, none⟩) (L.length + 1) qc, .int .i64 ak] 53).alloc (.cells #[.int .i64 0, .int .i64 0, .int .i64 0, .int .i64 0, .int .i64 0, .slice none 0 0, .int .i64 0] 53)
  have MR : Mut ((w.alloc (.cells #[.int .i64 x0, .int .i64 x1, .int .i64 x2, .int .i64 x3, .int .i64 x4, .slice (some ⟨b, off, none⟩) (L.length + 1) qc, .int .i64 ak] 53)).alloc (.cells #[.int .i64 0, .int .i64 0, .int .i64 0, .int .i64 0, .int .i64 0, .slice none 0 0, .int .i64 0] 53)) (w.heap.size + 1) [.int .i64 0, .int .i64 0, .int .i64 0, .int .i64 0, .int .i64 0, .slice none 0 0, .int .i64 0] := by
    simpa using Mut.new (w.alloc (.cells #[.int .i64 x0, .int .i64 x1, .int .i64 x2, .int .i64 x3, .int .i64 x4, .slice (some ⟨b, off, none⟩) (L.length + 1) qc, .int .i64 ak] 53)) #[.int .i64 0, .int .i64 0, .int .i64 0, .int .i64 0, .int .i64 0, .slice none 0 0, .int .i64 0] 53
  have dd : Below w.heap.size w ((w.alloc (.cells #[.int .i64 x0, .int .i64 x1, .int .i64 x2, .int .i64 x3, .int .i64 x4, .slice (some ⟨b, off, none⟩) (L.length + 1) qc, .int .i64 ak] 53)).alloc (.cells #[.int .i64 0, .int .i64 0, .int .i64 0, .int .i64 0, .int .i64 0, .slice none 0 0, .int .i64 0] 53)) := below_box2 (Below.refl _ _)
  have hR2 := hR.below dd
  have hwz : ((w.alloc (.cells #[.int .i64 x0, .int .i64 x1, .int .i64 x2, .int .i64 x3, .int .i64 x4, .slice (some ⟨b, off, none⟩) (L.length + 1) qc, .int .i64 ak] 53)).alloc (.cells #[.int .i64 0, .int .i64 0, .int .i64 0, .int .i64 0, .int .i64 0, .slice none 0 0, .int .i64 0] 53)).heap.size = w.heap.size + 2 := by simp
  have hne : ((L.length : Int) + 1 == 0) = false := by simp; omega
  have hlp : (0 : Int) < (L.length : Int) + 1 := by omega
  have hl1 : (L.length : Int) + 1 ≤ 1001 := by omega
  clear hG hR
  go_enter Try.func17, Try.ntmps17
  go_upto_region 1 with fail
  generalize (w.alloc (.cells #[.int .i64 x0, .int .i64 x1, .int .i64 x2, .int .i64 x3, .int .i64 x4, .slice (some ⟨b, off, none⟩) (L.length + 1) qc, .int .i64 ak] 53)).alloc (.cells #[.int .i64 0, .int .i64 0, .int .i64 0, .int .i64 0, .int .i64 0, .slice none 0 0, .int .i64 0] 53) = wz at *
  have hwz' := hide hwz
  clear hwz
  have hqm : wz.cell? ⟨b, off, none⟩ = some (.int .i64 4) := by
    obtain ⟨b', off', ha, _, h0⟩ := hR2 0 (by simp)
    simp only [Option.some.injEq, Addr.mk.injEq, and_true] at ha
    obtain ⟨rfl, rfl⟩ := ha
    simpa using h0
  have z5 := MS.2.1 5 _ rfl
  go_upto_region 4 with fail
  have hbs : w.heap.size < wz.heap.size := MS.1
  have hbr : w.heap.size + 1 < wz.heap.size := MR.1
  have own0 : OwnN 3 .i64 wz.heap.size (.slice (some ⟨wz.heap.size, 0, none⟩) 0 0) [] (wz.alloc (.cells #[] 3)) := ownN_made 3 .i64 wz [] (by simp)
  have bE : Below wz.heap.size wz (wz.alloc (.cells #[] 3)) := below_box (Below.refl _ _)
  have A0 := fun (o : Obj) k => old1 hbs o k
  have hsa := hide (And.intro (MS.below bE) (And.intro (MR.below bE) (dd.trans (bE.mono dd.size))))
  have hR3 := hR2.below bE
  have hl9 : Hid (([] : List Int).length + L.length ≤ 8589934593) := by show _ ≤ _; simp; omega
  have hzb := bE.size
  clear hR2 hqm
  clear bE MS MR dd
  by_cases hq1 : qc = 1
  · subst hq1
    have hL0 : L = [] := List.eq_nil_of_length_eq_zero (by omega)
    subst hL0
    have src : Hid (SrcN .i64 (some ⟨b, off, none⟩) ([] : List Int) 0 (wz.alloc (.cells #[] 3))) := ⟨RowN.nil _ _ _, .inr ⟨b, off, rfl⟩⟩
    go_upto_region 5 with (first | (at_builtin; refine wpList_appN numInt rfl _ _ rfl wz.heap.size _ [] rfl own0 (some ⟨b, off, none⟩) [] _ _ rfl (by simp) src.out hl9.out (by decide) hzb ?_; intro v6 w6 own6 b6 _ _; rw [List.nil_append] at own6; obtain ⟨va, vc, rfl, _⟩ := ownN_row own6; obtain ⟨MSa, MRa, dda⟩ := hsa.out; have MS6 := MSa.base hbs b6; have MR6 := MRa.base hbr b6; have d6 := dda.trans (b6.mono (by omega)); have m5 := MS6.2.1 5 _ rfl; have mf5 := MS6.2.2 5 (by simp); clear MSa MRa dda hsa))
    have MX := MS6.set 5 (.slice va 0 vc)
    simp only [List.set_cons_zero, List.set_cons_succ] at MX
    have MRX := MR6.other (c := w.heap.size) (by omega) 5 (.slice va 0 vc)
    have ownX : OwnN 3 .i64 wz.heap.size (.slice va 0 vc) [] (w6.setCell ⟨w.heap.size, 5, none⟩ (.slice va 0 vc)) := own12_set own6 hbs 5 _
    have dX : Below w.heap.size w (w6.setCell ⟨w.heap.size, 5, none⟩ (.slice va 0 vc)) := d6.setCell (Nat.le_refl _) _
    have hzX : wz.heap.size ≤ (w6.setCell ⟨w.heap.size, 5, none⟩ (.slice va 0 vc)).heap.size := by simpa using Nat.le_trans hzb b6.size
    clear m5 mf5 MS6 MR6 own6 d6 b6 A0 z5
    generalize w6.setCell ⟨w.heap.size, 5, none⟩ (.slice va 0 vc) = X at *
    have ME := Mut.new X #[.int .i64 7, .int .i64 0] 63
    have bX : Below X.heap.size X (X.alloc (.cells #[.int .i64 7, .int .i64 0] 63)) := below_box (Below.refl _ _)
    replace MX := MX.below bX
    replace MRX := MRX.below bX
    replace ownX := ownN_below ownX bX
    replace dX := dX.trans (bX.mono dX.size)
    replace hzX := Nat.le_trans hzX bX.size
    clear bX
    go_upto_region 13 with fail
    generalize X.alloc (.cells #[.int .i64 7, .int .i64 0] 63) = E at *
    generalize X.heap.size = qe at *
    have hoB : Hid (∀ j, (.slice va 0 vc : Value).ownBlock = some j → j < E.heap.size) := fun j hj => (World.ownsRow.lt ownX j hj).2
    have c0 := MX.2.1 0 _ rfl
    have c1 := MX.2.1 1 _ rfl
    have c2 := MX.2.1 2 _ rfl
    have c3 := MX.2.1 3 _ rfl
    have c4 := MX.2.1 4 _ rfl
    have g0 := ME.2.1 0 _ rfl
    have g1 := ME.2.1 1 _ rfl
    go_wp2_with fail
    refine (s1.out _).mono ?_
    rintro e w7 ⟨v, rfl, T1, b7⟩
    have hE7 : wz.heap.size ≤ E.heap.size := hzX
    replace MX := MX.below b7
    replace MRX := MRX.below b7
    replace ownX := ownN_below ownX b7
    replace dX := dX.trans (b7.mono dX.size)
    have M8 := Mut.new w7 #[.int .i64 y0, .int .i64 y1, .int .i64 y2, .int .i64 y3, .int .i64 y4] 27
    have bF : Below w7.heap.size w7 (w7.alloc (.cells #[.int .i64 y0, .int .i64 y1, .int .i64 y2, .int .i64 y3, .int .i64 y4] 27)) := below_box (Below.refl _ _)
    replace MX := MX.below bF
    replace MRX := MRX.below bF
    replace ownX := ownN_below ownX bF
    replace T1 := T1.below bF
    replace dX := dX.trans (bF.mono dX.size)
    clear b7 bF c0 c1 c2 c3 c4 g0 g1 ME
    go_upto_region 14 with fail
    generalize w7.alloc (.cells #[.int .i64 y0, .int .i64 y1, .int .i64 y2, .int .i64 y3, .int .i64 y4] 27) = F at *
    generalize w7.heap.size = q8 at *
    have a0 := M8.2.1 0 _ rfl
    have a1 := M8.2.1 1 _ rfl
    have a2 := M8.2.1 2 _ rfl
    have a3 := M8.2.1 3 _ rfl
    have a4 := M8.2.1 4 _ rfl
    have u0 := MX.2.1 0 _ rfl
    have uf0 := MX.2.2 0 (by simp)
    have u1 := MX.2.1 1 _ rfl
    have uf1 := MX.2.2 1 (by simp)
    have u2 := MX.2.1 2 _ rfl
    have uf2 := MX.2.2 2 (by simp)
    have u3 := MX.2.1 3 _ rfl
    have uf3 := MX.2.2 3 (by simp)
    have u4 := MX.2.1 4 _ rfl
    have uf4 := MX.2.2 4 (by simp)
    have u5 := MX.2.1 5 _ rfl
    have uf5 := MX.2.2 5 (by simp)
    have u6 := MX.2.1 6 _ rfl
    have uf6 := MX.2.2 6 (by simp)
    have r0 := MRX.2.1 0 _ rfl
    have rf0 := MRX.2.2 0 (by simp)
    have r1 := MRX.2.1 1 _ rfl
    have rf1 := MRX.2.2 1 (by simp)
    have r2 := MRX.2.1 2 _ rfl
    have rf2 := MRX.2.2 2 (by simp)
    have r3 := MRX.2.1 3 _ rfl
    have rf3 := MRX.2.2 3 (by simp)
    have r4 := MRX.2.1 4 _ rfl
    have rf4 := MRX.2.2 4 (by simp)
    have r5 := MRX.2.1 5 _ rfl
    have rf5 := MRX.2.2 5 (by simp)
    have r6 := MRX.2.1 6 _ rfl
    have rf6 := MRX.2.2 6 (by simp)
    have hA : w.heap.size < E.heap.size := by omega
    have hB : w.heap.size + 1 < E.heap.size := by omega
    have hA' : w.heap.size < wz.heap.size := hbs
    have hB' : w.heap.size + 1 < wz.heap.size := hbr
    have d1 := dX
    clear M8 MX MRX dX
    go_wp2_with fail
    refine bodyPost_ret (v := .tuple #[.agg #[.int .i64 y0, .int .i64 y1, .int .i64 y2, .int .i64 y3, .int .i64 y4, .slice va 0 vc, .int .i64 ak], v]) (by simp [results, Try.results17, go_sem, r0, r1, r2, r3, r4, r5, r6]) rfl ⟨_, _, E.heap.size, rfl, ?_, hB, hoB.out, ?_, (by (repeat (first | with_reducible exact Below.refl _ _ | with_reducible exact d1 | with_reducible apply Below.setCell | with_reducible apply Below.alloc | with_reducible apply Below.drew | with_reducible refine below_drewN ?_ _)); all_goals (first | (simp; done) | (simp; omega) | omega))⟩
    · exact ownN_base (own12_set (own12_set (own12_set (own12_set (own12_set (own12_set (own12_set (own12_set (own12_set (own12_set (own12_set (own12_set ownX hA' _ _) hA' _ _) hA' _ _) hA' _ _) hA' _ _) hB' _ _) hB' _ _) hB' _ _) hB' _ _) hB' _ _) hB' _ _) hB' _ _) (by omega)
    · exact (TB.set (TB.set (TB.set (TB.set (TB.set (TB.set (TB.set (TB.set (TB.set (TB.set (TB.set (TB.set T1 hA _ _) hA _ _) hA _ _) hA _ _) hA _ _) hB _ _) hB _ _) hB _ _) hB _ _) hB _ _) hB _ _) hB _ _)
  · have src : Hid (∀ c, SrcN .i64 (some ⟨b, off + 1, none⟩) L c (wz.alloc (.cells #[] 3))) := fun c => ⟨hR3.next, .inr ⟨b, off + 1, rfl⟩⟩
    go_upto_region 5 with (first | (at_builtin; refine wpList_appN numInt rfl _ _ rfl wz.heap.size _ [] rfl own0 (some ⟨b, off + 1, none⟩) L _ _ rfl (by simp) (src.out _) hl9.out (by decide) hzb ?_; intro v6 w6 own6 b6 _ _; rw [List.nil_append] at own6; obtain ⟨va, vc, rfl, _⟩ := ownN_row own6; obtain ⟨MSa, MRa, dda⟩ := hsa.out; have MS6 := MSa.base hbs b6; have MR6 := MRa.base hbr b6; have d6 := dda.trans (b6.mono (by omega)); have m5 := MS6.2.1 5 _ rfl; have mf5 := MS6.2.2 5 (by simp); clear MSa MRa dda hsa))
    have MX := MS6.set 5 (.slice va L.length vc)
    simp only [List.set_cons_zero, List.set_cons_succ] at MX
    have MRX := MR6.other (c := w.heap.size) (by omega) 5 (.slice va L.length vc)
    have ownX : OwnN 3 .i64 wz.heap.size (.slice va L.length vc) L (w6.setCell ⟨w.heap.size, 5, none⟩ (.slice va L.length vc)) := own12_set own6 hbs 5 _
    have dX : Below w.heap.size w (w6.setCell ⟨w.heap.size, 5, none⟩ (.slice va L.length vc)) := d6.setCell (Nat.le_refl _) _
    have hzX : wz.heap.size ≤ (w6.setCell ⟨w.heap.size, 5, none⟩ (.slice va L.length vc)).heap.size := by simpa using Nat.le_trans hzb b6.size
    clear m5 mf5 MS6 MR6 own6 d6 b6 A0 z5
    generalize w6.setCell ⟨w.heap.size, 5, none⟩ (.slice va L.length vc) = X at *
    have ME := Mut.new X #[.int .i64 7, .int .i64 0] 63
    have bX : Below X.heap.size X (X.alloc (.cells #[.int .i64 7, .int .i64 0] 63)) := below_box (Below.refl _ _)
    replace MX := MX.below bX
    replace MRX := MRX.below bX
    replace ownX := ownN_below ownX bX
    replace dX := dX.trans (bX.mono dX.size)
    replace hzX := Nat.le_trans hzX bX.size
    clear bX
    go_upto_region 13 with fail
    generalize X.alloc (.cells #[.int .i64 7, .int .i64 0] 63) = E at *
    generalize X.heap.size = qe at *
    have hoB : Hid (∀ j, (.slice va L.length vc : Value).ownBlock = some j → j < E.heap.size) := fun j hj => (World.ownsRow.lt ownX j hj).2
    have c0 := MX.2.1 0 _ rfl
    have c1 := MX.2.1 1 _ rfl
    have c2 := MX.2.1 2 _ rfl
    have c3 := MX.2.1 3 _ rfl
    have c4 := MX.2.1 4 _ rfl
    have g0 := ME.2.1 0 _ rfl
    have g1 := ME.2.1 1 _ rfl
    go_wp2_with fail
    refine (s1.out _).mono ?_
    rintro e w7 ⟨v, rfl, T1, b7⟩
    have hE7 : wz.heap.size ≤ E.heap.size := hzX
    replace MX := MX.below b7
    replace MRX := MRX.below b7
    replace ownX := ownN_below ownX b7
    replace dX := dX.trans (b7.mono dX.size)
    have M8 := Mut.new w7 #[.int .i64 y0, .int .i64 y1, .int .i64 y2, .int .i64 y3, .int .i64 y4] 27
    have bF : Below w7.heap.size w7 (w7.alloc (.cells #[.int .i64 y0, .int .i64 y1, .int .i64 y2, .int .i64 y3, .int .i64 y4] 27)) := below_box (Below.refl _ _)
    replace MX := MX.below bF
    replace MRX := MRX.below bF
    replace ownX := ownN_below ownX bF
    replace T1 := T1.below bF
    replace dX := dX.trans (bF.mono dX.size)
    clear b7 bF c0 c1 c2 c3 c4 g0 g1 ME
    go_upto_region 14 with fail
    generalize w7.alloc (.cells #[.int .i64 y0, .int .i64 y1, .int .i64 y2, .int .i64 y3, .int .i64 y4] 27) = F at *
    generalize w7.heap.size = q8 at *
    have a0 := M8.2.1 0 _ rfl
    have a1 := M8.2.1 1 _ rfl
    have a2 := M8.2.1 2 _ rfl
    have a3 := M8.2.1 3 _ rfl
    have a4 := M8.2.1 4 _ rfl
    have u0 := MX.2.1 0 _ rfl
    have uf0 := MX.2.2 0 (by simp)
    have u1 := MX.2.1 1 _ rfl
    have uf1 := MX.2.2 1 (by simp)
    have u2 := MX.2.1 2 _ rfl
    have uf2 := MX.2.2 2 (by simp)
    have u3 := MX.2.1 3 _ rfl
    have uf3 := MX.2.2 3 (by simp)
    have u4 := MX.2.1 4 _ rfl
    have uf4 := MX.2.2 4 (by simp)
    have u5 := MX.2.1 5 _ rfl
    have uf5 := MX.2.2 5 (by simp)
    have u6 := MX.2.1 6 _ rfl
    have uf6 := MX.2.2 6 (by simp)
    have r0 := MRX.2.1 0 _ rfl
    have rf0 := MRX.2.2 0 (by simp)
    have r1 := MRX.2.1 1 _ rfl
    have rf1 := MRX.2.2 1 (by simp)
    have r2 := MRX.2.1 2 _ rfl
    have rf2 := MRX.2.2 2 (by simp)
    have r3 := MRX.2.1 3 _ rfl
    have rf3 := MRX.2.2 3 (by simp)
    have r4 := MRX.2.1 4 _ rfl
    have rf4 := MRX.2.2 4 (by simp)
    have r5 := MRX.2.1 5 _ rfl
    have rf5 := MRX.2.2 5 (by simp)
    have r6 := MRX.2.1 6 _ rfl
    have rf6 := MRX.2.2 6 (by simp)
    have hA : w.heap.size < E.heap.size := by omega
    have hB : w.heap.size + 1 < E.heap.size := by omega
    have hA' : w.heap.size < wz.heap.size := hbs
    have hB' : w.heap.size + 1 < wz.heap.size := hbr
    have d1 := dX
    clear M8 MX MRX dX
    go_wp2_with fail
    refine bodyPost_ret (v := .tuple #[.agg #[.int .i64 y0, .int .i64 y1, .int .i64 y2, .int .i64 y3, .int .i64 y4, .slice va L.length vc, .int .i64 ak], v]) (by simp [results, Try.results17, go_sem, r0, r1, r2, r3, r4, r5, r6]) rfl ⟨_, _, E.heap.size, rfl, ?_, hB, hoB.out, ?_, (by (repeat (first | with_reducible exact Below.refl _ _ | with_reducible exact d1 | with_reducible apply Below.setCell | with_reducible apply Below.alloc | with_reducible apply Below.drew | with_reducible refine below_drewN ?_ _)); all_goals (first | (simp; done) | (simp; omega) | omega))⟩
    · exact ownN_base (own12_set (own12_set (own12_set (own12_set (own12_set (own12_set (own12_set (own12_set (own12_set (own12_set (own12_set (own12_set ownX hA' _ _) hA' _ _) hA' _ _) hA' _ _) hA' _ _) hB' _ _) hB' _ _) hB' _ _) hB' _ _) hB' _ _) hB' _ _) hB' _ _) (by omega)
    · exact (TB.set (TB.set (TB.set (TB.set (TB.set (TB.set (TB.set (TB.set (TB.set (TB.set (TB.set (TB.set T1 hA _ _) hA _ _) hA _ _) hA _ _) hA _ _) hB _ _) hB _ _) hB _ _) hB _ _) hB _ _) hB _ _) hB _ _)
theorem s_come (x0 x1 x2 x3 x4 : Int) (b off : Nat) (m : Int) (L : List Int) (qc : Nat) (ak ot : Int) (w : World) (hm : TMsg m) (hG : GS ⟨x0, x1, x2, x3, x4⟩) (hl : L.length ≤ 1000) (hc : L.length + 1 ≤ qc) (hR : RowN .i64 (some ⟨b, off, none⟩) (m :: L) w) :
    Calls Try.prog 17 #[.agg #[.int .i64 x0, .int .i64 x1, .int .i64 x2, .int .i64 x3, .int .i64 x4, .slice (some ⟨b, off, none⟩) (L.length + 1) qc, .int .i64 ak], .int .i64 ot] w fun e w' => ∃ (vq v : Value) (B : Nat), e = .returned (.tuple #[.agg #[.int .i64 (stp ⟨x0, x1, x2, x3, x4⟩ (evK m) (evN m ot)).1.st, .int .i64 (stp ⟨x0, x1, x2, x3, x4⟩ (evK m) (evN m ot)).1.ho, .int .i64 (stp ⟨x0, x1, x2, x3, x4⟩ (evK m) (evN m ot)).1.le, .int .i64 (stp ⟨x0, x1, x2, x3, x4⟩ (evK m) (evN m ot)).1.qu, .int .i64 (stp ⟨x0, x1, x2, x3, x4⟩ (evK m) (evN m ot)).1.up, vq, .int .i64 ak], v]) ∧ OwnN 3 .i64 w.heap.size vq L w' ∧ w.heap.size + 1 < B ∧ (∀ j, vq.ownBlock = some j → j < B) ∧ TB B v (stp ⟨x0, x1, x2, x3, x4⟩ (evK m) (evN m ot)).2 w' ∧ Below w.heap.size w w' := by
  rcases hm with rfl | rfl | rfl
  · rw [show evK 1 = 5 from rfl, show evN 1 ot = ot from rfl]; exact s_come_1 x0 x1 x2 x3 x4 b off L qc ak ot w hG hl hc hR
  · rw [show evK 3 = 9 from rfl, show evN 3 ot = 0 from rfl]; exact s_come_3 x0 x1 x2 x3 x4 b off L qc ak ot w hG hl hc hR
  · rw [show evK 4 = 7 from rfl, show evN 4 ot = 0 from rfl]; exact s_come_4 x0 x1 x2 x3 x4 b off L qc ak ot w hG hl hc hR
end Go.Proofs.Ytjfalfjadleegaa
