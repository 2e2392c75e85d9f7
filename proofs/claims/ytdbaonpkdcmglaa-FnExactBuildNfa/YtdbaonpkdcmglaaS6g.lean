/- What the specification's l6Make answers: a kind over tidy parts, tidy. -/
import Derived.Test.YtdbaonpkdcmglaaS6f
namespace Go.Proofs.Ytdbaonpkdcmglaa
open Go.RowKit

def mk1 : Re → Re
  | .thn a b => mkThn a b
  | .alt a b => mkAlt a b
  | .str a => mkStr a
  | .non => .non
  | .emp => .emp
  | .one n => .one n
  | .any => .any
def MakeA (S : Nat → Prop) (t : Re) (w : World) (e : Ending) (w' : World) : Prop := ∃ k : Option Addr × Nat × Nat, e = .returned (tv t k) ∧ Kids S w' t k ∧ Below w.heap.size w w'

set_option maxRecDepth 100000 in
set_option maxHeartbeats 6400000 in
theorem s_make (t : Re) (S : Nat → Prop) (k : Option Addr × Nat × Nat) (w : World) (hK : Kids S w t k) : Calls Try.prog 88 #[.int .i64 t.kind, .int .i64 t.num, .slice k.1 k.2.1 k.2.2] w (MakeA S (mk1 t) w) := by
  cases t with
  | non =>
    obtain rfl : k = (none, 0, 0) := hK
    simp only [Re.kind, Re.num, mk1]
    go_enter Try.func88, Try.ntmps88
    go_wp2_with fail
    refine bodyPost_ret (v := .agg #[.int .i64 1, .int .i64 0, .slice none 0 0]) (by simp [results, Try.results88, go_sem]) rfl ?_
    exact ⟨(none, 0, 0), rfl, rfl, below_box (Below.refl _ _)⟩
  | emp =>
    obtain rfl : k = (none, 0, 0) := hK
    simp only [Re.kind, Re.num, mk1]
    go_enter Try.func88, Try.ntmps88
    go_wp2_with fail
    refine bodyPost_ret (v := .agg #[.int .i64 2, .int .i64 0, .slice none 0 0]) (by simp [results, Try.results88, go_sem]) rfl ?_
    exact ⟨(none, 0, 0), rfl, rfl, below_box (Below.refl _ _)⟩
  | one n =>
    obtain rfl : k = (none, 0, 0) := hK
    simp only [Re.kind, Re.num, mk1]
    go_enter Try.func88, Try.ntmps88
    go_wp2_with fail
    refine bodyPost_ret (v := .agg #[.int .i64 3, .int .i64 n, .slice none 0 0]) (by simp [results, Try.results88, go_sem]) rfl ?_
    exact ⟨(none, 0, 0), rfl, rfl, below_box (Below.refl _ _)⟩
  | any =>
    obtain rfl : k = (none, 0, 0) := hK
    simp only [Re.kind, Re.num, mk1]
    go_enter Try.func88, Try.ntmps88
    go_wp2_with fail
    refine bodyPost_ret (v := .agg #[.int .i64 4, .int .i64 0, .slice none 0 0]) (by simp [results, Try.results88, go_sem]) rfl ?_
    exact ⟨(none, 0, 0), rfl, rfl, below_box (Below.refl _ _)⟩
  | thn a b =>
    have hK0 := hide hK
    obtain ⟨g, c, ⟨a1, a2, a3⟩, ⟨b1, b2, b3⟩, rfl, hSg, hR, hKa, hKb⟩ := hK
    obtain ⟨hg, u0, u1, u2⟩ := hR.one0
    obtain ⟨v0, v1, v2⟩ := hR.two0
    have n0 : ¬ g = w.heap.size := by omega
    have n1 : ¬ g = w.heap.size + 1 := by omega
    replace hKa := hide hKa
    replace hKb := hide hKb
    clear hR hSg
    simp only [Re.kind, Re.num, mk1]
    by_cases h1 : (a.kind == 1) = true
    · rw [show mkThn a b = .non from by simp [mkThn, h1]]
      go_enter Try.func88, Try.ntmps88
      go_wp2_with fail
      refine bodyPost_ret (v := .agg #[.int .i64 1, .int .i64 0, .slice none 0 0]) (by simp [results, Try.results88, go_sem]) rfl ?_
      exact ⟨(none, 0, 0), rfl, rfl, below_box3 (Below.refl _ _)⟩
    · replace h1 : (a.kind == 1) = false := by simpa using h1
      by_cases h2 : (b.kind == 1) = true
      · rw [show mkThn a b = .non from by simp [mkThn, h1, h2]]
        go_enter Try.func88, Try.ntmps88
        go_wp2_with fail
        refine bodyPost_ret (v := .agg #[.int .i64 1, .int .i64 0, .slice none 0 0]) (by simp [results, Try.results88, go_sem]) rfl ?_
        exact ⟨(none, 0, 0), rfl, rfl, below_box3 (Below.refl _ _)⟩
      · replace h2 : (b.kind == 1) = false := by simpa using h2
        by_cases h3 : (a.kind == 2) = true
        · rw [show mkThn a b = b from by simp [mkThn, h1, h2, h3]]
          go_enter Try.func88, Try.ntmps88
          go_wp2_with fail
          refine bodyPost_ret (v := .agg #[.int .i64 b.kind, .int .i64 b.num, .slice b1 b2 b3]) (by simp [results, Try.results88, go_sem]) rfl ?_
          exact ⟨(b1, b2, b3), rfl, hKb.out.below (below_box3 (Below.refl _ _)), below_box3 (Below.refl _ _)⟩
        · replace h3 : (a.kind == 2) = false := by simpa using h3
          by_cases h4 : (b.kind == 2) = true
          · rw [show mkThn a b = a from by simp [mkThn, h1, h2, h3, h4]]
            go_enter Try.func88, Try.ntmps88
            go_wp2_with fail
            refine bodyPost_ret (v := .agg #[.int .i64 a.kind, .int .i64 a.num, .slice a1 a2 a3]) (by simp [results, Try.results88, go_sem]) rfl ?_
            exact ⟨(a1, a2, a3), rfl, hKa.out.below (below_box3 (Below.refl _ _)), below_box3 (Below.refl _ _)⟩
          · replace h4 : (b.kind == 2) = false := by simpa using h4
            rw [show mkThn a b = .thn a b from by simp [mkThn, h1, h2, h3, h4]]
            go_enter Try.func88, Try.ntmps88
            go_wp2_with fail
            refine bodyPost_ret (v := .agg #[.int .i64 5, .int .i64 0, .slice (some ⟨g, 0, none⟩) 2 c]) (by simp [results, Try.results88, go_sem]) rfl ?_
            exact ⟨(some ⟨g, 0, none⟩, 2, c), rfl, hK0.out.below (below_box3 (Below.refl _ _)), below_box3 (Below.refl _ _)⟩
  | alt a b =>
    have hK0 := hide hK
    obtain ⟨g, c, ⟨a1, a2, a3⟩, ⟨b1, b2, b3⟩, rfl, hSg, hR, hKa, hKb⟩ := hK
    obtain ⟨hg, u0, u1, u2⟩ := hR.one0
    obtain ⟨v0, v1, v2⟩ := hR.two0
    have n0 : ¬ g = w.heap.size := by omega
    have n1 : ¬ g = w.heap.size + 1 := by omega
    replace hKa := hide hKa
    replace hKb := hide hKb
    clear hR hSg
    simp only [Re.kind, Re.num, mk1]
    by_cases h1 : (a.kind == 1) = true
    · rw [show mkAlt a b = b from by simp [mkAlt, h1]]
      go_enter Try.func88, Try.ntmps88
      go_wp2_with fail
      refine bodyPost_ret (v := .agg #[.int .i64 b.kind, .int .i64 b.num, .slice b1 b2 b3]) (by simp [results, Try.results88, go_sem]) rfl ?_
      exact ⟨(b1, b2, b3), rfl, hKb.out.below (below_box3 (Below.refl _ _)), below_box3 (Below.refl _ _)⟩
    · replace h1 : (a.kind == 1) = false := by simpa using h1
      by_cases h2 : (b.kind == 1) = true
      · rw [show mkAlt a b = a from by simp [mkAlt, h1, h2]]
        go_enter Try.func88, Try.ntmps88
        go_wp2_with fail
        refine bodyPost_ret (v := .agg #[.int .i64 a.kind, .int .i64 a.num, .slice a1 a2 a3]) (by simp [results, Try.results88, go_sem]) rfl ?_
        exact ⟨(a1, a2, a3), rfl, hKa.out.below (below_box3 (Below.refl _ _)), below_box3 (Below.refl _ _)⟩
      · replace h2 : (b.kind == 1) = false := by simpa using h2
        have SM := hide (fun w h h' => s_same a b S S (a1, a2, a3) (b1, b2, b3) w h h')
        have M0 := ((Mut.new w #[.int .i64 0, .int .i64 0, .slice none 0 0] 66).alloc (.cells #[.int .i64 a.kind, .int .i64 a.num, .slice a1 a2 a3] 66)).alloc (.cells #[.int .i64 b.kind, .int .i64 b.num, .slice b1 b2 b3] 66)
        have M1 := (Mut.new (w.alloc (.cells #[.int .i64 0, .int .i64 0, .slice none 0 0] 66)) #[.int .i64 a.kind, .int .i64 a.num, .slice a1 a2 a3] 66).alloc (.cells #[.int .i64 b.kind, .int .i64 b.num, .slice b1 b2 b3] 66)
        rw [show (w.alloc (.cells #[.int .i64 0, .int .i64 0, .slice none 0 0] 66)).heap.size = w.heap.size + 1 by simp] at M1
        have hW : Below w.heap.size w (((w.alloc (.cells #[.int .i64 0, .int .i64 0, .slice none 0 0] 66)).alloc (.cells #[.int .i64 a.kind, .int .i64 a.num, .slice a1 a2 a3] 66)).alloc (.cells #[.int .i64 b.kind, .int .i64 b.num, .slice b1 b2 b3] 66)) := below_box3 (Below.refl _ _)
        replace M0 := hide M0
        replace M1 := hide M1
        replace hW := hide hW
        cases hs : sameB a b with
        | true =>
          rw [hs] at SM
          replace hs := hide hs
          rw [show mkAlt a b = a from by have := hs.out; simp only [sameB] at this; simp [mkAlt, h1, h2, this]]
          go_enter Try.func88, Try.ntmps88
          go_wp2_with fail
          refine (SM.out _ (hKa.out.below hW.out) (hKb.out.below hW.out)).mono ?_
          rintro e w1 ⟨rfl, d1⟩
          have M0 := M0.out.below d1
          have M1 := M1.out.below d1
          have y0 := M0.2.1 0 _ rfl
          have y1 := M0.2.1 1 _ rfl
          have y2 := M0.2.1 2 _ rfl
          have f0 := M0.2.2 0 (by simp)
          have f1 := M0.2.2 1 (by simp)
          have f2 := M0.2.2 2 (by simp)
          have z0 := M1.2.1 0 _ rfl
          have z1 := M1.2.1 1 _ rfl
          have z2 := M1.2.1 2 _ rfl
          have d2 := below_step hW.out d1
          clear M0 M1 u0 u1 u2 v0 v1 v2
          replace d2 := hide d2
          replace d1 := hide d1
          go_wp2_with fail
          refine bodyPost_ret (v := .agg #[.int .i64 a.kind, .int .i64 a.num, .slice a1 a2 a3]) (by simp [results, Try.results88, go_sem, y0, y1, y2]) rfl ?_
          have hon : Only w.heap.size w1 (((w1.setCell ⟨w.heap.size, 0, none⟩ (.int .i64 a.kind)).setCell ⟨w.heap.size, 1, none⟩ (.int .i64 a.num)).setCell ⟨w.heap.size, 2, none⟩ (.slice a1 a2 a3)) := (((Only.refl _ _).setCell _ _).setCell _ _).setCell _ _
          have hKm := Kids.move (w' := (((w1.setCell ⟨w.heap.size, 0, none⟩ (.int .i64 a.kind)).setCell ⟨w.heap.size, 1, none⟩ (.int .i64 a.num)).setCell ⟨w.heap.size, 2, none⟩ (.slice a1 a2 a3))) (S := fun g => S g ∧ g < w.heap.size) ⟨hon.2.2.2.1, fun g _ hg hb => hon.cell hb (by have := hg.2; omega)⟩ _ _ (Kids.mono (fun g _ hg => hg) _ _ ((Kids.mono (S' := fun g => S g ∧ g < w.heap.size) (fun g h hg => ⟨hg, h⟩) _ _ hKa.out).below d2.out))
          exact ⟨(a1, a2, a3), rfl, Kids.mono (fun g _ hg => hg.1) _ _ hKm, ((d2.out.setCell (Nat.le_refl _) _).setCell (Nat.le_refl _) _).setCell (Nat.le_refl _) _⟩
        | false =>
          rw [hs] at SM
          replace hs := hide hs
          rw [show mkAlt a b = .alt a b from by have := hs.out; simp only [sameB] at this; simp [mkAlt, h1, h2, this]]
          go_enter Try.func88, Try.ntmps88
          go_wp2_with fail
          refine (SM.out _ (hKa.out.below hW.out) (hKb.out.below hW.out)).mono ?_
          rintro e w1 ⟨rfl, d1⟩
          have M0 := M0.out.below d1
          have M1 := M1.out.below d1
          have y0 := M0.2.1 0 _ rfl
          have y1 := M0.2.1 1 _ rfl
          have y2 := M0.2.1 2 _ rfl
          have f0 := M0.2.2 0 (by simp)
          have f1 := M0.2.2 1 (by simp)
          have f2 := M0.2.2 2 (by simp)
          have z0 := M1.2.1 0 _ rfl
          have z1 := M1.2.1 1 _ rfl
          have z2 := M1.2.1 2 _ rfl
          have d2 := below_step hW.out d1
          clear M0 M1 u0 u1 u2 v0 v1 v2
          replace d2 := hide d2
          replace d1 := hide d1
          go_wp2_with fail
          refine bodyPost_ret (v := .agg #[.int .i64 6, .int .i64 0, .slice (some ⟨g, 0, none⟩) 2 c]) (by simp [results, Try.results88, go_sem, y0, y1, y2]) rfl ?_
          have hon : Only w.heap.size w1 (((w1.setCell ⟨w.heap.size, 0, none⟩ (.int .i64 6)).setCell ⟨w.heap.size, 1, none⟩ (.int .i64 0)).setCell ⟨w.heap.size, 2, none⟩ (.slice (some ⟨g, 0, none⟩) 2 c)) := (((Only.refl _ _).setCell _ _).setCell _ _).setCell _ _
          have hKm := Kids.move (w' := (((w1.setCell ⟨w.heap.size, 0, none⟩ (.int .i64 6)).setCell ⟨w.heap.size, 1, none⟩ (.int .i64 0)).setCell ⟨w.heap.size, 2, none⟩ (.slice (some ⟨g, 0, none⟩) 2 c))) (S := fun g => S g ∧ g < w.heap.size) ⟨hon.2.2.2.1, fun g _ hg hb => hon.cell hb (by have := hg.2; omega)⟩ _ _ (Kids.mono (fun g _ hg => hg) _ _ ((Kids.mono (S' := fun g => S g ∧ g < w.heap.size) (fun g h hg => ⟨hg, h⟩) _ _ hK0.out).below d2.out))
          exact ⟨(some ⟨g, 0, none⟩, 2, c), rfl, Kids.mono (fun g _ hg => hg.1) _ _ hKm, ((d2.out.setCell (Nat.le_refl _) _).setCell (Nat.le_refl _) _).setCell (Nat.le_refl _) _⟩
  | str a =>
    have hK0 := hide hK
    obtain ⟨g, c, ⟨a1, a2, a3⟩, rfl, hSg, hR, hKa⟩ := hK
    obtain ⟨hg, u0, u1, u2⟩ := hR.one0
    have n0 : ¬ g = w.heap.size := by omega
    replace hKa := hide hKa
    clear hR hSg
    simp only [Re.kind, Re.num, mk1]
    by_cases h1 : (a.kind == 1) = true
    · rw [show mkStr a = .emp from by simp [mkStr, h1]]
      go_enter Try.func88, Try.ntmps88
      go_wp2_with fail
      refine bodyPost_ret (v := .agg #[.int .i64 2, .int .i64 0, .slice none 0 0]) (by simp [results, Try.results88, go_sem]) rfl ?_
      exact ⟨(none, 0, 0), rfl, rfl, below_box (Below.refl _ _)⟩
    · replace h1 : (a.kind == 1) = false := by simpa using h1
      by_cases h2 : (a.kind == 2) = true
      · rw [show mkStr a = .emp from by simp [mkStr, h1, h2]]
        go_enter Try.func88, Try.ntmps88
        go_wp2_with fail
        refine bodyPost_ret (v := .agg #[.int .i64 2, .int .i64 0, .slice none 0 0]) (by simp [results, Try.results88, go_sem]) rfl ?_
        exact ⟨(none, 0, 0), rfl, rfl, below_box (Below.refl _ _)⟩
      · replace h2 : (a.kind == 2) = false := by simpa using h2
        by_cases h3 : (a.kind == 7) = true
        · rw [show mkStr a = a from by simp [mkStr, h1, h2, h3]]
          go_enter Try.func88, Try.ntmps88
          go_wp2_with fail
          refine bodyPost_ret (v := .agg #[.int .i64 a.kind, .int .i64 a.num, .slice a1 a2 a3]) (by simp [results, Try.results88, go_sem]) rfl ?_
          exact ⟨(a1, a2, a3), rfl, hKa.out.below (below_box (Below.refl _ _)), below_box (Below.refl _ _)⟩
        · replace h3 : (a.kind == 7) = false := by simpa using h3
          rw [show mkStr a = .str a from by simp [mkStr, h1, h2, h3]]
          go_enter Try.func88, Try.ntmps88
          go_wp2_with fail
          refine bodyPost_ret (v := .agg #[.int .i64 7, .int .i64 0, .slice (some ⟨g, 0, none⟩) 1 c]) (by simp [results, Try.results88, go_sem]) rfl ?_
          exact ⟨(some ⟨g, 0, none⟩, 1, c), rfl, hK0.out.below (below_box (Below.refl _ _)), below_box (Below.refl _ _)⟩
end Go.Proofs.Ytdbaonpkdcmglaa
