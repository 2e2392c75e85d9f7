/- What the specification's FeedReader answers. -/
import Derived.Test.YtoeephmdklmpfaaI5f
import Derived.Test.YtoeephmdklmpfaaS5g
import Derived.Test.YtoeephmdklmpfaaMemM2
import Derived.Deep.DeepCutAuto
import Derived.Deep.Cut
import Derived.Deep.CutRange
namespace Go.Proofs.Ytoeephmdklmpfaa
open Go.RowKit

set_option maxRecDepth 100000 in
set_option maxHeartbeats 6400000 in
theorem s_feed_no (Y : ByteArray) (c cap : Nat) (K : List Ms) (D : Int) (s : ByteArray) (w : World) (hY : Y.size ≤ 1048576) (hl : K.length ≤ 1048576) (hs : s.size ≤ 1048576) (hg : grB Y K D = false ∨ ¬ s.size ≤ 300) (hR : RowM (some ⟨c, 0, none⟩) K w) :
    Calls Try.prog 40 #[.agg #[.string Y, .slice (some ⟨c, 0, none⟩) K.length cap, .int .i64 D], .string s] w fun e w' => ∃ v, e = .returned (.tuple #[v, .bool false]) ∧ AnsR ByteArray.empty [] 0 w v w' := by
  have G := hide (fun w hR => s_goodReader Y (some ⟨c, 0, none⟩) cap K D w (by omega) hl hR)
  have M0 := (Mut.new w #[.string Y, .slice (some ⟨c, 0, none⟩) K.length cap, .int .i64 D] 48).alloc (.cells #[.string ⟨#[]⟩, .slice none 0 0, .int .i64 0] 48)
  have M1 := Mut.new (w.alloc (.cells #[.string Y, .slice (some ⟨c, 0, none⟩) K.length cap, .int .i64 D] 48)) #[.string ⟨#[]⟩, .slice none 0 0, .int .i64 0] 48
  simp only [World.size_alloc] at M1
  have hcase : Hid (grB Y K D = false ∨ (grB Y K D = true ∧ (s.size : Int) > 300)) := by
    show _ ∨ _
    cases h : grB Y K D with
    | false => exact .inl rfl
    | true => exact .inr ⟨rfl, by rcases hg with h2 | h2; · rw [h] at h2; cases h2
                                  · omega⟩
  clear hg hl hY
  go_enter Try.func40, Try.ntmps40
  go_wp2_with fail
  refine (G.out _ (hR.below (below_box2 (Below.refl _ _)))).mono ?_
  rintro e w1 ⟨rfl, b1⟩
  have M0 := M0.below b1
  have M1 := M1.below b1
  have d1 := below_box2 b1
  have R1 := hR.below d1
  clear b1 hR G
  have p0 := M1.2.1 0 _ rfl
  have p1 := M1.2.1 1 _ rfl
  have p2 := M1.2.1 2 _ rfl
  have a0 := M1.2.2 0 (by simp)
  have a1 := M1.2.2 1 (by simp)
  have a2 := M1.2.2 2 (by simp)
  have o1 : Only (w.heap.size + 1) w1 (((w1.setCell ⟨w.heap.size + 1, 0, none⟩ (.string ⟨#[]⟩)).setCell ⟨w.heap.size + 1, 1, none⟩ (.slice none 0 0)).setCell ⟨w.heap.size + 1, 2, none⟩ (.int .i64 0)) := (((Only.refl _ _).setCell _ _).setCell _ _).setCell _ _
  have y1 := M1.1
  have d5 := hide (d1.trans ((o1.below (by omega)).mono (by omega)))
  clear o1 M0 M1 d1 R1
  rcases hcase.out with h | ⟨h, hs3⟩
  · rw [h]
    clear h hcase
    go_wp2_with fail
    exact bodyPost_ret (v := .tuple #[.agg #[.string ByteArray.empty, .slice none 0 0, .int .i64 0], .bool false]) (by simp [results, Try.results40, go_sem, *] <;> rfl) rfl ⟨_, rfl, none, 0, 0, rfl, fun h => absurd rfl h, WrM.nil _ _ _, d5.out⟩
  · rw [h]
    clear h hcase
    go_wp2_with fail
    exact bodyPost_ret (v := .tuple #[.agg #[.string ByteArray.empty, .slice none 0 0, .int .i64 0], .bool false]) (by simp [results, Try.results40, go_sem, *] <;> rfl) rfl ⟨_, rfl, none, 0, 0, rfl, fun h => absurd rfl h, WrM.nil _ _ _, d5.out⟩
/-- The new reader in its box, its list one's own. -/
def FdB (w1 w3 : World) (bo : Nat) (Y : ByteArray) (K : List Ms) (D : Int) (v : Value) : Prop := Mut w3 bo [.string Y, v, .int .i64 D] ∧ OwnM w1.heap.size v K w3 ∧ v.ownBlock ≠ some bo ∧ w1.heap.size ≤ bo ∧ Below w1.heap.size w1 w3
theorem FdB.drew {w1 w3 : World} {bo : Nat} {Y : ByteArray} {K : List Ms} {D : Int} {v : Value} (h : FdB w1 w3 bo Y K D v) : FdB w1 w3.drew bo Y K D v := ⟨h.1.drew, ownM_below h.2.1 (Below.refl _ _).drew, h.2.2.1, h.2.2.2.1, h.2.2.2.2.drew⟩
theorem fdB_new {w1 wB : World} {Y : ByteArray} {K : List Ms} {D : Int} {v : Value} (ho : OwnM w1.heap.size v K wB) (d : Below w1.heap.size w1 wB) : FdB w1 (wB.alloc (.cells #[.string Y, v, .int .i64 D] 48)) wB.heap.size Y K D v :=
  ⟨Mut.new _ _ _, ownM_below ho (below_box (Below.refl _ _)), fun e => by have := (ownM_blk ho e).2; omega, d.size, d.trans ((below_box (Below.refl _ _)).mono d.size)⟩
theorem fdB_set {w1 wB : World} {bo : Nat} {Y : ByteArray} {K : List Ms} {D : Int} {v z0 z1 z2 : Value} (MB : Mut wB bo [z0, z1, z2]) (ho : OwnM w1.heap.size v K wB) (hne : v.ownBlock ≠ some bo) (hbo : w1.heap.size ≤ bo) (d : Below w1.heap.size w1 wB) :
    FdB w1 (((wB.setCell ⟨bo, 0, none⟩ (.string Y)).setCell ⟨bo, 1, none⟩ v).setCell ⟨bo, 2, none⟩ (.int .i64 D)) bo Y K D v := by
  have o : Only bo wB (((wB.setCell ⟨bo, 0, none⟩ (.string Y)).setCell ⟨bo, 1, none⟩ v).setCell ⟨bo, 2, none⟩ (.int .i64 D)) := (((Only.refl _ _).setCell _ _).setCell _ _).setCell _ _
  have M := ((MB.set 0 (.string Y)).set 1 v).set 2 (.int .i64 D)
  simp only [List.set_cons_succ, List.set_cons_zero] at M
  exact ⟨M, ownM_only ho o hne, hne, hbo, d.trans ((o.below (Nat.le_of_lt MB.1)).mono hbo)⟩
set_option maxRecDepth 100000 in
set_option maxHeartbeats 12800000 in
theorem s_feed_yes (Y : ByteArray) (c cap : Nat) (K : List Ms) (D : Int) (s : ByteArray) (w : World) (hY : Y.size ≤ 1048576) (hl : K.length ≤ 1048576) (hs : s.size ≤ 300) (hg : grB Y K D = true) (hR : RowM (some ⟨c, 0, none⟩) K w) :
    Calls Try.prog 40 #[.agg #[.string Y, .slice (some ⟨c, 0, none⟩) K.length cap, .int .i64 D], .string s] w fun e w' => ∃ v, e = .returned (.tuple #[v, .bool true]) ∧ AnsR (fdX Y D s) (fdL Y K D s) (fdB Y D s) w v w' := by
  have G := hide (fun w hR => s_goodReader Y (some ⟨c, 0, none⟩) cap K D w (by omega) hl hR)
  have M0 := (Mut.new w #[.string Y, .slice (some ⟨c, 0, none⟩) K.length cap, .int .i64 D] 48).alloc (.cells #[.string ⟨#[]⟩, .slice none 0 0, .int .i64 0] 48)
  have M1 := Mut.new (w.alloc (.cells #[.string Y, .slice (some ⟨c, 0, none⟩) K.length cap, .int .i64 D] 48)) #[.string ⟨#[]⟩, .slice none 0 0, .int .i64 0] 48
  simp only [World.size_alloc] at M1
  rw [hg] at G
  have hk40 := (gr_len hg).1
  have hs' : ¬ ((s.size : Int) > 300) := by omega
  clear hg
  go_enter Try.func40, Try.ntmps40
  go_wp2_with fail
  refine (G.out _ (hR.below (below_box2 (Below.refl _ _)))).mono ?_
  rintro e w1 ⟨rfl, b1⟩
  have M0 := M0.below b1
  have M1 := M1.below b1
  have d1 := below_box2 b1
  have R1 := hR.below d1
  clear b1 hR G
  have cu0 := M0.2.1 0 _ rfl
  have cu1 := M0.2.1 1 _ rfl
  have cu2 := M0.2.1 2 _ rfl
  have hW0 : w.heap.size < w1.heap.size := M0.1
  have hW1 : w.heap.size + 1 < w1.heap.size := M1.1
  have dZ : Below w1.heap.size w1 w1 := Below.refl _ _
  go_wp2_with fail
  go_cut [6] (fun b6 wx => ∃ (bo : Nat) (a' : Option Addr) (c' : Nat), b6 = .pointer (some ⟨bo, 0, none⟩) ∧ FdB w1 wx bo Y K D (.slice a' K.length c'))
  case first =>
    have hm1 : OwnM w1.heap.size (.slice (some ⟨w1.heap.size, 0, none⟩) 0 0) [] (w1.alloc (.cells #[] 37)) := World.ownsRow_made w1 #[] 0 (Nat.le_refl _) (by decide) rfl
    have dn1 : Below w1.heap.size w1 (w1.alloc (.cells #[] 37)) := below_box (Below.refl _ _)
    have dn2 : Below w1.heap.size w1 ((w1.alloc (.cells #[] 37)).alloc (.cells #[.string ⟨#[]⟩, .slice none 0 0, .int .i64 0] 48)) := below_box2 (Below.refl _ _)
    have hm2 := ownM_below hm1 (below_box (Below.refl _ _) : Below (w1.alloc (.cells #[] 37)).heap.size (w1.alloc (.cells #[] 37)) ((w1.alloc (.cells #[] 37)).alloc (.cells #[.string ⟨#[]⟩, .slice none 0 0, .int .i64 0] 48)))
    have B2 := Mut.new (w1.alloc (.cells #[] 37)) #[.string ⟨#[]⟩, .slice none 0 0, .int .i64 0] 48
    have dn3 : Below w1.heap.size w1 ((w1.alloc (.cells #[.string ⟨#[]⟩, .slice none 0 0, .int .i64 0] 48)).alloc (.cells #[] 37)) := below_box2 (Below.refl _ _)
    have hm3 : OwnM w1.heap.size (.slice (some ⟨w1.heap.size + 1, 0, none⟩) 0 0) [] ((w1.alloc (.cells #[.string ⟨#[]⟩, .slice none 0 0, .int .i64 0] 48)).alloc (.cells #[] 37)) := by
      have := World.ownsRow_made (e := 37) (size := 2) (base := w1.heap.size) (w1.alloc (.cells #[.string ⟨#[]⟩, .slice none 0 0, .int .i64 0] 48)) #[] 0 (by simp) (by decide) rfl
      unfold OwnM
      simpa [mcells] using this
    have B3 := (Mut.new w1 #[.string ⟨#[]⟩, .slice none 0 0, .int .i64 0] 48).alloc (.cells #[] 37)
    simp only [World.size_alloc] at B2
    go_region_held3 (fun w' => w'.cell? ⟨w.heap.size, 0, none⟩ = some (.string Y) ∧ w'.cell? ⟨w.heap.size, 1, none⟩ = some (.slice (some ⟨c, 0, none⟩) K.length cap) ∧ w'.cell? ⟨w.heap.size, 2, none⟩ = some (.int .i64 D)) (first | go_keep | exact ⟨(dB.cell (p := ⟨w.heap.size, 0, none⟩) hW0).trans cu0, (dB.cell (p := ⟨w.heap.size, 1, none⟩) hW0).trans cu1, (dB.cell (p := ⟨w.heap.size, 2, none⟩) hW0).trans cu2⟩ | exact ⟨(dB.drew.cell (p := ⟨w.heap.size, 0, none⟩) hW0).trans cu0, (dB.drew.cell (p := ⟨w.heap.size, 1, none⟩) hW0).trans cu1, (dB.drew.cell (p := ⟨w.heap.size, 2, none⟩) hW0).trans cu2⟩ | exact ⟨(dZ.cell (p := ⟨w.heap.size, 0, none⟩) hW0).trans cu0, (dZ.cell (p := ⟨w.heap.size, 1, none⟩) hW0).trans cu1, (dZ.cell (p := ⟨w.heap.size, 2, none⟩) hW0).trans cu2⟩ | exact ⟨(dZ.drew.cell (p := ⟨w.heap.size, 0, none⟩) hW0).trans cu0, (dZ.drew.cell (p := ⟨w.heap.size, 1, none⟩) hW0).trans cu1, (dZ.drew.cell (p := ⟨w.heap.size, 2, none⟩) hW0).trans cu2⟩ | exact ⟨((below_box (Below.refl _ _) : Below w1.heap.size w1 (w1.alloc (.cells #[] 37))).cell (p := ⟨w.heap.size, 0, none⟩) hW0).trans cu0, ((below_box (Below.refl _ _) : Below w1.heap.size w1 (w1.alloc (.cells #[] 37))).cell (p := ⟨w.heap.size, 1, none⟩) hW0).trans cu1, ((below_box (Below.refl _ _) : Below w1.heap.size w1 (w1.alloc (.cells #[] 37))).cell (p := ⟨w.heap.size, 2, none⟩) hW0).trans cu2⟩ | exact ⟨((below_box (Below.refl _ _) : Below w1.heap.size w1 (w1.alloc (.cells #[] 37))).drew.cell (p := ⟨w.heap.size, 0, none⟩) hW0).trans cu0, ((below_box (Below.refl _ _) : Below w1.heap.size w1 (w1.alloc (.cells #[] 37))).drew.cell (p := ⟨w.heap.size, 1, none⟩) hW0).trans cu1, ((below_box (Below.refl _ _) : Below w1.heap.size w1 (w1.alloc (.cells #[] 37))).drew.cell (p := ⟨w.heap.size, 2, none⟩) hW0).trans cu2⟩ | (refine ⟨?_, ?_, ?_⟩ <;> simp [go_sem, *])) (first | (refine step_appM2 (by rfl) _ _ (by rfl) w1.heap.size (.slice (some ⟨w1.heap.size, 0, none⟩) 0 0) [] (by rfl) (by first | exact hm1 | exact ownM_below hm1 (Below.refl _ _).drew) (some ⟨c, 0, none⟩) K _ _ (by rfl) rfl ⟨by first | exact R1.below dn1 | exact R1.below dn1.drew, .inr ⟨_, _, rfl⟩⟩ (by simp; omega) (by first | (simp; done) | (simp; omega)) ?_; intro v' wB hown bB hgr hbl; have dB : Below w1.heap.size w1 wB := (by first | exact dn1.trans bB | exact dn1.drew.trans bB); have hown : OwnM w1.heap.size v' K wB := hown; obtain ⟨a', c', hv', _⟩ := ownM_row hown; subst hv'; have cu0B := (dB.cell (p := ⟨w.heap.size, 0, none⟩) hW0).trans cu0; have cu1B := (dB.cell (p := ⟨w.heap.size, 1, none⟩) hW0).trans cu1; have cu2B := (dB.cell (p := ⟨w.heap.size, 2, none⟩) hW0).trans cu2) | (refine step_appM2 (by rfl) _ _ (by rfl) w1.heap.size (.slice (some ⟨w1.heap.size, 0, none⟩) 0 0) [] (by rfl) (by first | exact hm2 | exact ownM_below hm2 (Below.refl _ _).drew) (some ⟨c, 0, none⟩) K _ _ (by rfl) rfl ⟨by first | exact R1.below dn2 | exact R1.below dn2.drew, .inr ⟨_, _, rfl⟩⟩ (by simp; omega) (by first | (simp; done) | (simp; omega)) ?_; intro v' wB hown bB hgr hbl; have dB : Below w1.heap.size w1 wB := (by first | exact dn2.trans bB | exact dn2.drew.trans bB); have hown : OwnM w1.heap.size v' K wB := hown; obtain ⟨a', c', hv', _⟩ := ownM_row hown; subst hv'; have cu0B := (dB.cell (p := ⟨w.heap.size, 0, none⟩) hW0).trans cu0; have cu1B := (dB.cell (p := ⟨w.heap.size, 1, none⟩) hW0).trans cu1; have cu2B := (dB.cell (p := ⟨w.heap.size, 2, none⟩) hW0).trans cu2; have MB := (by first | exact Mut.grown B2 hgr (by simp [Value.ownBlock]) | exact Mut.grown (Mut.drew B2) hgr (by simp [Value.ownBlock])); have e0 := MB.2.1 0 _ rfl; have e1 := MB.2.1 1 _ rfl; have e2 := MB.2.1 2 _ rfl; have f0 := MB.2.2 0 (by simp); have f1 := MB.2.2 1 (by simp); have f2 := MB.2.2 2 (by simp)) | (refine step_appM2 (by rfl) _ _ (by rfl) w1.heap.size (.slice (some ⟨w1.heap.size + 1, 0, none⟩) 0 0) [] (by rfl) (by first | exact hm3 | exact ownM_below hm3 (Below.refl _ _).drew) (some ⟨c, 0, none⟩) K _ _ (by rfl) rfl ⟨by first | exact R1.below dn3 | exact R1.below dn3.drew, .inr ⟨_, _, rfl⟩⟩ (by simp; omega) (by first | (simp; done) | (simp; omega)) ?_; intro v' wB hown bB hgr hbl; have dB : Below w1.heap.size w1 wB := (by first | exact dn3.trans bB | exact dn3.drew.trans bB); have hown : OwnM w1.heap.size v' K wB := hown; obtain ⟨a', c', hv', _⟩ := ownM_row hown; subst hv'; have cu0B := (dB.cell (p := ⟨w.heap.size, 0, none⟩) hW0).trans cu0; have cu1B := (dB.cell (p := ⟨w.heap.size, 1, none⟩) hW0).trans cu1; have cu2B := (dB.cell (p := ⟨w.heap.size, 2, none⟩) hW0).trans cu2; have MB := (by first | exact Mut.grown B3 hgr (by simp [Value.ownBlock]) | exact Mut.grown (Mut.drew B3) hgr (by simp [Value.ownBlock])); have e0 := MB.2.1 0 _ rfl; have e1 := MB.2.1 1 _ rfl; have e2 := MB.2.1 2 _ rfl; have f0 := MB.2.2 0 (by simp); have f1 := MB.2.2 1 (by simp); have f2 := MB.2.2 2 (by simp)))
    all_goals (try go_wp2_with fail)
    all_goals go_meet
    all_goals (first | exact ⟨_, _, _, rfl, (fdB_new (Y := Y) (D := D) hown dB).drew⟩ | exact ⟨_, _, _, rfl, fdB_new (Y := Y) (D := D) hown dB⟩ | exact ⟨_, _, _, rfl, (fdB_set (Y := Y) (D := D) MB hown (by rcases hbl with h | h <;> (rw [h]; simp [Value.ownBlock] <;> omega)) (by omega) dB).drew⟩ | exact ⟨_, _, _, rfl, fdB_set (Y := Y) (D := D) MB hown (by rcases hbl with h | h <;> (rw [h]; simp [Value.ownBlock] <;> omega)) (by omega) dB⟩)
  case rest =>
    obtain ⟨bo, a', c', rfl, F⟩ := hcut
    clear dZ R1 cu0 cu1 cu2
    obtain ⟨MO, hOld, hne, hbo, dF⟩ := F
    have MA := M0.base hW0 dF
    have MR := M1.base hW1 dF
    have d3 := d1.trans (dF.mono d1.size)
    have hz3 := dF.size
    have hW01 : w.heap.size ≤ w1.heap.size := by omega
    clear dF d1 M0 M1
    by_cases hD : D = 0
    · subst hD
      have hcat := fun (w : World) => run_string_add_sum (P := Try.prog) w Y s (by omega)
      have C := hide (fun w => s_cut (Y ++ s) w (by rw [app_size]; omega))
      have hcl := (cut_len (Y ++ s) _ (Nat.le_refl _)).1
      rw [app_size] at hcl
      unfold CutP at C
      have hX := hide (show fdX Y 0 s = (cut (Y ++ s)).2.1 from if_pos rfl)
      have hB := hide (show fdB Y 0 s = (cut (Y ++ s)).2.2 from if_pos rfl)
      have hJ := hide (show fdL Y K 0 s = K ++ (cut (Y ++ s)).1.take (40 - K.length) from if_pos rfl)
      generalize (cut (Y ++ s)).2.1 = X' at *
      generalize (cut (Y ++ s)).2.2 = B' at *
      generalize hTT : (cut (Y ++ s)).1 = TT at *
      clear hTT
      have cu0 := MA.2.1 0 _ rfl
      have cu1 := MA.2.1 1 _ rfl
      have cu2 := MA.2.1 2 _ rfl
      go_wp2_with fail
      refine (C.out _).mono ?_
      rintro e w4 ⟨v4, rfl, ho, b4⟩
      have hbo3 := MO.1
      have MO4 := MO.below b4
      have MR4 := MR.below b4
      have hown4 := ownM_below hOld b4
      have hlt : ∀ g, (Value.slice a' K.length c').ownBlock = some g → g < wc.heap.size := fun g e => (ownM_blk hOld e).2
      have d4 := d3.trans (b4.mono d3.size)
      have hz4 := b4.size
      obtain ⟨ta, tc, rfl, hRT, hta⟩ := ownM_row ho
      have hta3 : ∀ b off, ta = some ⟨b, off, none⟩ → wc.heap.size ≤ b := by
        intro b off e1
        rcases hta with ⟨e3, _⟩ | ⟨g, e3, h4, _⟩
        · rw [e3] at e1; cases e1
        · rw [e3] at e1
          simp only [Option.some.injEq, Addr.mk.injEq, and_true] at e1
          omega
      have hdis : ∀ b off, ta = some ⟨b, off, none⟩ → (Value.slice a' K.length c').ownBlock ≠ some b := fun b off e1 e2 => by have := hlt b e2; have := hta3 b off e1; omega
      have hbt : ∀ b off, ta = some ⟨b, off, none⟩ → b ≠ bo := fun b off e1 e2 => by have := hta3 b off e1; omega
      have hTb : (TT.length : Int) ≤ 2097152 := by omega
      clear b4 d3 C hOld hlt hta hta3 ho MA MO MR cu0 cu1 cu2 hz3 hcl
      go_wp2_with fail
      go_loopw [45] (fun i wr => ∃ (k : Nat) (aa : Option Addr) (cc : Nat) (T : List Ms), k ≤ TT.length ∧ i = .int .i64 k ∧ Mut wr bo [.string Y, .slice aa T.length cc, .int .i64 0] ∧ OwnM w1.heap.size (.slice aa T.length cc) T wr ∧ Hid (T = K ++ TT.take (min k (40 - K.length))) ∧ (Value.slice aa T.length cc).ownBlock ≠ some bo ∧ (∀ b off, ta = some ⟨b, off, none⟩ → (Value.slice aa T.length cc).ownBlock ≠ some b) ∧ RowM ta TT wr ∧ Mut wr (w.heap.size + 1) [.string ⟨#[]⟩, .slice none 0 0, .int .i64 0] ∧ Below w.heap.size w wr ∧ w1.heap.size ≤ wr.heap.size) (fun i _ => TT.length - (intOf i).toNat)
      case atStart => exact ⟨0, a', c', K, Nat.zero_le _, rfl, MO4, hown4, by show _ = _; simp, hne, hdis, hRT, MR4, d4, by omega⟩
      case round =>
        clear MO4 hown4 hne hdis hRT MR4 d4
        obtain ⟨k, aa, cc, T, hk, rfl, MO, hown, hT, hne, hdis, hRT, MR, dw, hzr⟩ := hrel
        have hTl : T.length = K.length + min k (40 - K.length) := by rw [hT.out, List.length_append, List.length_take]; omega
        by_cases hlt : k < TT.length
        · obtain ⟨b, off, hta, hbw, x0, x1⟩ := hRT k hlt
          have hlt' : (k : Int) < (TT.length : Int) := by omega
          have MOA := MO.alloc (.cells #[.int .i64 (mAt TT k).1, .string (mAt TT k).2] 37)
          have v1 := MOA.2.1 1 _ rfl
          by_cases h40 : T.length < 40
          · have h40' : (T.length : Int) < 40 := by omega
            have hNx := hide (show T ++ [mAt TT k] = K ++ TT.take (min (k + 1) (40 - K.length)) by
              rw [hT.out, show min k (40 - K.length) = k by omega, show min (k + 1) (40 - K.length) = k + 1 by omega, take_succM hlt, List.append_assoc])
            have dA : Below wr.heap.size wr ((wr.alloc (.cells #[.int .i64 (mAt TT k).1, .string (mAt TT k).2] 37)).alloc (.cells #[.int .i64 (mAt TT k).1, .string (mAt TT k).2] 37)) := below_box2 (Below.refl _ _)
            have MO2 := MOA.alloc (.cells #[.int .i64 (mAt TT k).1, .string (mAt TT k).2] 37)
            have MR2 := MR.below dA
            have hown2 := ownM_below hown dA
            have hR2 := hRT.below dA
            have hsrc : SrcM (some ⟨wr.heap.size + 1, 0, none⟩) [mAt TT k] 1 ((wr.alloc (.cells #[.int .i64 (mAt TT k).1, .string (mAt TT k).2] 37)).alloc (.cells #[.int .i64 (mAt TT k).1, .string (mAt TT k).2] 37)) := ⟨RowM.one (by simp) (by simp [go_sem]) (by simp [go_sem]), .inr ⟨_, _, rfl⟩⟩
            have hz2 : w1.heap.size ≤ ((wr.alloc (.cells #[.int .i64 (mAt TT k).1, .string (mAt TT k).2] 37)).alloc (.cells #[.int .i64 (mAt TT k).1, .string (mAt TT k).2] 37)).heap.size := by simp; omega
            have hz2' : ((wr.alloc (.cells #[.int .i64 (mAt TT k).1, .string (mAt TT k).2] 37)).alloc (.cells #[.int .i64 (mAt TT k).1, .string (mAt TT k).2] 37)).heap.size = wr.heap.size + 1 + 1 := by simp
            have w1v := MO2.2.1 1 _ rfl
            have hbor := MO.1
            have hbT := hide (show T.length + [mAt TT k].length ≤ 8589934593 by simp; omega)
            have dwA := dw.trans (dA.mono dw.size)
            have hzH := hide hz2'
            clear hz2' MOA MO MR hown hRT hTl hT dA dw
            subst hta
            go_wp2_with (first | (at_builtin; refine wpList_appM2 rfl _ _ rfl w1.heap.size _ T rfl hown2 (some ⟨wr.heap.size + 1, 0, none⟩) [mAt TT k] 1 1 rfl rfl hsrc hbT.out hz2 ?_))
            intro v' wB hownB bB hgr hbl
            have hownJ : ∃ J, Hid (T ++ [mAt TT k] = J) ∧ OwnM w1.heap.size v' J wB := ⟨_, rfl, hownB⟩
            obtain ⟨J, hJ2, hownJ⟩ := hownJ
            obtain ⟨aB, cB, rfl, _⟩ := ownM_row hownJ
            have hne2 : (Value.slice aB J.length cB).ownBlock ≠ some bo := by
              rcases hbl with h | h
              · rw [h]; exact hne
              · rw [h]; intro e; first | (simp at e; omega) | (rw [hzH.out] at e; simp at e; omega)
            have hdis2 : (Value.slice aB J.length cB).ownBlock ≠ some b := by
              rcases hbl with h | h
              · rw [h]; exact hdis b off rfl
              · rw [h]; intro e; first | (simp at e; omega) | (rw [hzH.out] at e; simp at e; omega)
            have hbb := hbt b off rfl
            have MOB := MO2.grown hgr hne
            have MRB := MR2.base hW1 bB
            have hRB := hR2.grown hgr (fun b' off' e => by simp only [Option.some.injEq, Addr.mk.injEq, and_true] at e; rw [← e.1]; exact hdis b off rfl)
            have dB := dwA.trans (bB.mono hW01)
            have hzB := bB.size
            try rw [hzH.out] at hzB
            clear MO2 MR2 hown2 hR2 hownB bB hgr hbl hsrc hz2 dwA w1v v1 x0 x1
            have y1 := MOB.2.1 1 _ rfl
            have f1 := MOB.2.2 1 (by simp)
            have hQ : Hid (J = K ++ TT.take (min (k + 1) (40 - K.length))) := by show _ = _; rw [← hJ2.out]; exact hNx.out
            clear hJ2 hNx
            go_wp2_with fail
            have o1 : Only bo wB (wB.setCell ⟨bo, 1, none⟩ (.slice aB J.length cB)) := (Only.refl _ _).setCell _ _
            have MOF := MOB.set 1 (.slice aB J.length cB)
            simp only [List.set_cons_succ, List.set_cons_zero] at MOF
            refine ⟨⟨k + 1, aB, cB, J, by omega, by go_num, MOF, ownM_only hownJ o1 hne2, hQ, hne2, ?_, hRB.only o1 ?_, MRB.only o1 (by omega), dB.trans ((o1.below (by omega)).mono (by omega)), by have := o1.2.2.2.1; omega⟩, by simp [intOf]; omega⟩
            · intro b' off' e
              simp only [Option.some.injEq, Addr.mk.injEq, and_true] at e
              rw [← e.1]; exact hdis2
            · intro b' off' e
              simp only [Option.some.injEq, Addr.mk.injEq, and_true] at e
              rw [← e.1]; exact hbb
          · have h40' : ¬ ((T.length : Int) < 40) := by omega
            have hNx := hide (show T = K ++ TT.take (min (k + 1) (40 - K.length)) by rw [hT.out, show min (k + 1) (40 - K.length) = min k (40 - K.length) by omega])
            have dA : Below wr.heap.size wr (wr.alloc (.cells #[.int .i64 (mAt TT k).1, .string (mAt TT k).2] 37)) := below_box (Below.refl _ _)
            have MR2 := MR.below dA
            have hown2 := ownM_below hown dA
            have hR2 := hRT.below dA
            have dwA := dw.trans (dA.mono dw.size)
            have hzA := Nat.le_trans hzr dA.size
            clear MO MR hown hRT hTl hT dA dw
            subst hta
            go_wp2_with fail
            exact ⟨⟨k + 1, aa, cc, T, by omega, by go_num, MOA, hown2, hNx.out, hne, hdis, hR2, MR2, dwA, hzA⟩, by simp [intOf]; omega⟩
        · have hk' : k = TT.length := by omega
          subst hk'
          have hFin0 : T = fdL Y K 0 s := by
            rw [hT.out, hJ.out]
            congr 1
            by_cases h : TT.length ≤ 40 - K.length
            · rw [Nat.min_eq_left h, List.take_length, List.take_of_length_le h]
            · rw [Nat.min_eq_right (by omega)]
          have hFin := hide hFin0
          clear hFin0
          have q0 := MO.2.1 0 _ rfl
          have q1 := MO.2.1 1 _ rfl
          have q2 := MO.2.1 2 _ rfl
          have g0 := MO.2.2 0 (by simp)
          have g1 := MO.2.2 1 (by simp)
          have g2 := MO.2.2 2 (by simp)
          have p0 := MR.2.1 0 _ rfl
          have p1 := MR.2.1 1 _ rfl
          have p2 := MR.2.1 2 _ rfl
          have a0 := MR.2.2 0 (by simp)
          have a1 := MR.2.2 1 (by simp)
          have a2 := MR.2.2 2 (by simp)
          have yb := MO.1
          have yr := MR.1
          obtain ⟨a2, c2, g', hv, hg', O'⟩ := WrM.own hown
          simp only [Value.slice.injEq, true_and] at hv
          obtain ⟨rfl, rfl⟩ := hv
          have hgb : T ≠ [] → g' ≠ bo := fun h e => hne (by rw [(O'.1 h).1, e]; rfl)
          have hWW : w.heap.size + 1 ≠ bo := by omega
          have hWW2 : ¬ (bo = w.heap.size + 1) := by omega
          clear MO MR hT hTl hRT hdis hne hown
          go_wp2_with fail
          have o0 : Only bo wr ((wr.setCell ⟨bo, 0, none⟩ (.string X')).setCell ⟨bo, 2, none⟩ (.int .i64 B')) := ((Only.refl _ _).setCell _ _).setCell _ _
          have o1 : Only (w.heap.size + 1) ((wr.setCell ⟨bo, 0, none⟩ (.string X')).setCell ⟨bo, 2, none⟩ (.int .i64 B')) (((((wr.setCell ⟨bo, 0, none⟩ (.string X')).setCell ⟨bo, 2, none⟩ (.int .i64 B')).setCell ⟨w.heap.size + 1, 0, none⟩ (.string X')).setCell ⟨w.heap.size + 1, 1, none⟩ (.slice aa T.length cc)).setCell ⟨w.heap.size + 1, 2, none⟩ (.int .i64 B')) := (((Only.refl _ _).setCell _ _).setCell _ _).setCell _ _
          have O4 := (O'.only o0 hgb).only o1 (fun h => by have := hg' h; omega)
          have d5 := (dw.trans ((o0.below (by omega)).mono (by omega))).trans ((o1.below (by have := o0.2.2.2.1; omega)).mono (by omega))
          have hF : T ≠ [] → w.heap.size ≤ g' := fun h => by have := hg' h; omega
          clear o0 o1 O' dw
          exact bodyPost_ret (v := .tuple #[.agg #[.string X', .slice aa T.length cc, .int .i64 B'], .bool true]) (by simp [results, Try.results40, go_sem, *]) rfl ⟨_, rfl, aa, cc, g', by rw [hX.out, hB.out, ← hFin.out], by rw [← hFin.out]; exact hF, by rw [← hFin.out]; exact O4, d5⟩
    · have hD' : (D != 0) = true := by simpa using hD
      have hX := hide (show fdX Y D s = Y from if_neg hD)
      have hB := hide (show fdB Y D s = D from if_neg hD)
      have hJ := hide (show fdL Y K D s = K from if_neg hD)
      have cu0 := MA.2.1 0 _ rfl
      have cu1 := MA.2.1 1 _ rfl
      have cu2 := MA.2.1 2 _ rfl
      have q0 := MO.2.1 0 _ rfl
      have q1 := MO.2.1 1 _ rfl
      have q2 := MO.2.1 2 _ rfl
      have g0 := MO.2.2 0 (by simp)
      have g1 := MO.2.2 1 (by simp)
      have g2 := MO.2.2 2 (by simp)
      have p0 := MR.2.1 0 _ rfl
      have p1 := MR.2.1 1 _ rfl
      have p2 := MR.2.1 2 _ rfl
      have a0 := MR.2.2 0 (by simp)
      have a1 := MR.2.2 1 (by simp)
      have a2 := MR.2.2 2 (by simp)
      have yr := MR.1
      obtain ⟨a2, c2, g', hv, hg', O'⟩ := WrM.own hOld
      simp only [Value.slice.injEq, true_and] at hv
      obtain ⟨rfl, rfl⟩ := hv
      have hWW : w.heap.size + 1 ≠ bo := by omega
      have hWW2 : ¬ (bo = w.heap.size + 1) := by omega
      clear MO MR MA hOld
      go_wp2_with fail
      have o1 : Only (w.heap.size + 1) wc (((wc.setCell ⟨w.heap.size + 1, 0, none⟩ (.string Y)).setCell ⟨w.heap.size + 1, 1, none⟩ (.slice a' K.length c')).setCell ⟨w.heap.size + 1, 2, none⟩ (.int .i64 D)) := (((Only.refl _ _).setCell _ _).setCell _ _).setCell _ _
      have O4 := O'.only o1 (fun h => by have := hg' h; omega)
      have d5 := d3.trans ((o1.below (by omega)).mono (by omega))
      have hF : K ≠ [] → w.heap.size ≤ g' := fun h => by have := hg' h; omega
      clear o1 O' d3
      exact bodyPost_ret (v := .tuple #[.agg #[.string Y, .slice a' K.length c', .int .i64 D], .bool true]) (by simp [results, Try.results40, go_sem, *]) rfl ⟨_, rfl, a', c', g', by rw [hX.out, hB.out, hJ.out], by rw [hJ.out]; exact hF, by rw [hJ.out]; exact O4, d5⟩
end Go.Proofs.Ytoeephmdklmpfaa
