/- What the specification's l6Flat answers: the cells of a tree behind others. -/
import Derived.Test.YtdbaonpkdcmglaaS6d
namespace Go.Proofs.Ytdbaonpkdcmglaa
open Go.RowKit

set_option maxRecDepth 100000 in
set_option maxHeartbeats 6400000 in
theorem s_flat (t : Re) : ∀ (S : Nat → Prop) (k : Option Addr × Nat × Nat) (base : Nat) (v : Value) (L : List Cl) (w : World), (∀ g, S g → g < base) → Kids S w t k → base ≤ w.heap.size → OwnQ base v L w → L.length + t.cells.length ≤ 8589934592 →
    Calls Try.prog 54 #[tv t k, v] w fun e w' => ∃ v', e = .returned v' ∧ OwnQ base v' (L ++ t.cells) w' ∧ Below base w w' := by
  induction t with
  | non =>
    rintro S k base v L w hS rfl hb0 ho hl
    simp only [tv, Re.kind, Re.num]
    have hlc : L.length + 1 ≤ 8589934592 := by simp only [Re.cells, List.length_cons, List.length_nil] at hl; omega
    have e0 : L ++ Re.cells (.non) = L ++ [(1, 0)] := by simp [Re.cells]
    rw [e0]
    clear hl e0
    have hW : Below w.heap.size w ((w.alloc (.cells #[.int .i64 1, .int .i64 0, .slice none 0 0] 66)).alloc (.cells #[.int .i64 1, .int .i64 0] 70)) := below_box2 (Below.refl _ _)
    have hO2 := ownQ_below ho hW
    have hM2 : SrcQ (some ⟨w.heap.size + 1, 0, none⟩) [(1, 0)] 1 ((w.alloc (.cells #[.int .i64 1, .int .i64 0, .slice none 0 0] 66)).alloc (.cells #[.int .i64 1, .int .i64 0] 70)) := by
      have M := Mut.new (w.alloc (.cells #[.int .i64 1, .int .i64 0, .slice none 0 0] 66)) #[.int .i64 1, .int .i64 0] 70
      rw [show (w.alloc (.cells #[.int .i64 1, .int .i64 0, .slice none 0 0] 66)).heap.size = w.heap.size + 1 by simp] at M
      exact ⟨RowQ.one M.1 (M.2.1 0 _ rfl) (M.2.1 1 _ rfl), .inr ⟨_, _, rfl⟩⟩
    have hz2 : base ≤ ((w.alloc (.cells #[.int .i64 1, .int .i64 0, .slice none 0 0] 66)).alloc (.cells #[.int .i64 1, .int .i64 0] 70)).heap.size := by simp; omega
    replace hO2 := hide hO2
    replace hM2 := hide hM2
    replace hz2 := hide hz2
    replace hW := hide hW
    go_enter Try.func54, Try.ntmps54
    go_wp2_with (first | (at_builtin; refine wpList_appQ rfl _ _ rfl base v L rfl hO2.out (some ⟨w.heap.size + 1, 0, none⟩) [(1, 0)] 1 rfl hM2.out (by simp only [List.length_cons, List.length_nil]; omega) hz2.out ?_))
    intro v1 w5 ho5 hb5 hg5
    have d5 := (hW.out.mono hb0).trans hb5
    have x2 : w5.cell? ⟨w.heap.size, 2, none⟩ = some (.slice none 0 0) := (World.cell?_of_block (w := ((w.alloc (.cells #[.int .i64 1, .int .i64 0, .slice none 0 0] 66)).alloc (.cells #[.int .i64 1, .int .i64 0] 70))) (hg5.block w.heap.size (by simp; omega) (fun e => by have := (World.ownsRow.lt ho _ e.symm).2; omega))).trans (by simp [go_sem])
    replace hb5 := hide hb5
    replace hg5 := hide hg5
    replace d5 := hide d5
    replace ho5 := hide ho5
    clear hO2 hM2 hz2
    go_wp2_with fail
    go_loopw [1, 18] (fun x y wr => (y = .int .i64 0 ∧ OwnQ base x (L ++ [(1, 0)]) wr) ∧ Below base w wr) (fun _ y _ => 0 - (intOf y).toNat)
    case atStart => exact ⟨⟨rfl, ho5.out⟩, d5.out⟩
    case round =>
      obtain ⟨⟨rfl, hox⟩, hbw⟩ := hrel
      go_wp2_with fail
      go_ret
      exact ⟨_, rfl, hox, hbw⟩
  | emp =>
    rintro S k base v L w hS rfl hb0 ho hl
    simp only [tv, Re.kind, Re.num]
    have hlc : L.length + 1 ≤ 8589934592 := by simp only [Re.cells, List.length_cons, List.length_nil] at hl; omega
    have e0 : L ++ Re.cells (.emp) = L ++ [(2, 0)] := by simp [Re.cells]
    rw [e0]
    clear hl e0
    have hW : Below w.heap.size w ((w.alloc (.cells #[.int .i64 2, .int .i64 0, .slice none 0 0] 66)).alloc (.cells #[.int .i64 2, .int .i64 0] 70)) := below_box2 (Below.refl _ _)
    have hO2 := ownQ_below ho hW
    have hM2 : SrcQ (some ⟨w.heap.size + 1, 0, none⟩) [(2, 0)] 1 ((w.alloc (.cells #[.int .i64 2, .int .i64 0, .slice none 0 0] 66)).alloc (.cells #[.int .i64 2, .int .i64 0] 70)) := by
      have M := Mut.new (w.alloc (.cells #[.int .i64 2, .int .i64 0, .slice none 0 0] 66)) #[.int .i64 2, .int .i64 0] 70
      rw [show (w.alloc (.cells #[.int .i64 2, .int .i64 0, .slice none 0 0] 66)).heap.size = w.heap.size + 1 by simp] at M
      exact ⟨RowQ.one M.1 (M.2.1 0 _ rfl) (M.2.1 1 _ rfl), .inr ⟨_, _, rfl⟩⟩
    have hz2 : base ≤ ((w.alloc (.cells #[.int .i64 2, .int .i64 0, .slice none 0 0] 66)).alloc (.cells #[.int .i64 2, .int .i64 0] 70)).heap.size := by simp; omega
    replace hO2 := hide hO2
    replace hM2 := hide hM2
    replace hz2 := hide hz2
    replace hW := hide hW
    go_enter Try.func54, Try.ntmps54
    go_wp2_with (first | (at_builtin; refine wpList_appQ rfl _ _ rfl base v L rfl hO2.out (some ⟨w.heap.size + 1, 0, none⟩) [(2, 0)] 1 rfl hM2.out (by simp only [List.length_cons, List.length_nil]; omega) hz2.out ?_))
    intro v1 w5 ho5 hb5 hg5
    have d5 := (hW.out.mono hb0).trans hb5
    have x2 : w5.cell? ⟨w.heap.size, 2, none⟩ = some (.slice none 0 0) := (World.cell?_of_block (w := ((w.alloc (.cells #[.int .i64 2, .int .i64 0, .slice none 0 0] 66)).alloc (.cells #[.int .i64 2, .int .i64 0] 70))) (hg5.block w.heap.size (by simp; omega) (fun e => by have := (World.ownsRow.lt ho _ e.symm).2; omega))).trans (by simp [go_sem])
    replace hb5 := hide hb5
    replace hg5 := hide hg5
    replace d5 := hide d5
    replace ho5 := hide ho5
    clear hO2 hM2 hz2
    go_wp2_with fail
    go_loopw [1, 18] (fun x y wr => (y = .int .i64 0 ∧ OwnQ base x (L ++ [(2, 0)]) wr) ∧ Below base w wr) (fun _ y _ => 0 - (intOf y).toNat)
    case atStart => exact ⟨⟨rfl, ho5.out⟩, d5.out⟩
    case round =>
      obtain ⟨⟨rfl, hox⟩, hbw⟩ := hrel
      go_wp2_with fail
      go_ret
      exact ⟨_, rfl, hox, hbw⟩
  | one n =>
    rintro S k base v L w hS rfl hb0 ho hl
    simp only [tv, Re.kind, Re.num]
    have hlc : L.length + 1 ≤ 8589934592 := by simp only [Re.cells, List.length_cons, List.length_nil] at hl; omega
    have e0 : L ++ Re.cells (.one n) = L ++ [(3, n)] := by simp [Re.cells]
    rw [e0]
    clear hl e0
    have hW : Below w.heap.size w ((w.alloc (.cells #[.int .i64 3, .int .i64 n, .slice none 0 0] 66)).alloc (.cells #[.int .i64 3, .int .i64 n] 70)) := below_box2 (Below.refl _ _)
    have hO2 := ownQ_below ho hW
    have hM2 : SrcQ (some ⟨w.heap.size + 1, 0, none⟩) [(3, n)] 1 ((w.alloc (.cells #[.int .i64 3, .int .i64 n, .slice none 0 0] 66)).alloc (.cells #[.int .i64 3, .int .i64 n] 70)) := by
      have M := Mut.new (w.alloc (.cells #[.int .i64 3, .int .i64 n, .slice none 0 0] 66)) #[.int .i64 3, .int .i64 n] 70
      rw [show (w.alloc (.cells #[.int .i64 3, .int .i64 n, .slice none 0 0] 66)).heap.size = w.heap.size + 1 by simp] at M
      exact ⟨RowQ.one M.1 (M.2.1 0 _ rfl) (M.2.1 1 _ rfl), .inr ⟨_, _, rfl⟩⟩
    have hz2 : base ≤ ((w.alloc (.cells #[.int .i64 3, .int .i64 n, .slice none 0 0] 66)).alloc (.cells #[.int .i64 3, .int .i64 n] 70)).heap.size := by simp; omega
    replace hO2 := hide hO2
    replace hM2 := hide hM2
    replace hz2 := hide hz2
    replace hW := hide hW
    go_enter Try.func54, Try.ntmps54
    go_wp2_with (first | (at_builtin; refine wpList_appQ rfl _ _ rfl base v L rfl hO2.out (some ⟨w.heap.size + 1, 0, none⟩) [(3, n)] 1 rfl hM2.out (by simp only [List.length_cons, List.length_nil]; omega) hz2.out ?_))
    intro v1 w5 ho5 hb5 hg5
    have d5 := (hW.out.mono hb0).trans hb5
    have x2 : w5.cell? ⟨w.heap.size, 2, none⟩ = some (.slice none 0 0) := (World.cell?_of_block (w := ((w.alloc (.cells #[.int .i64 3, .int .i64 n, .slice none 0 0] 66)).alloc (.cells #[.int .i64 3, .int .i64 n] 70))) (hg5.block w.heap.size (by simp; omega) (fun e => by have := (World.ownsRow.lt ho _ e.symm).2; omega))).trans (by simp [go_sem])
    replace hb5 := hide hb5
    replace hg5 := hide hg5
    replace d5 := hide d5
    replace ho5 := hide ho5
    clear hO2 hM2 hz2
    go_wp2_with fail
    go_loopw [1, 18] (fun x y wr => (y = .int .i64 0 ∧ OwnQ base x (L ++ [(3, n)]) wr) ∧ Below base w wr) (fun _ y _ => 0 - (intOf y).toNat)
    case atStart => exact ⟨⟨rfl, ho5.out⟩, d5.out⟩
    case round =>
      obtain ⟨⟨rfl, hox⟩, hbw⟩ := hrel
      go_wp2_with fail
      go_ret
      exact ⟨_, rfl, hox, hbw⟩
  | any =>
    rintro S k base v L w hS rfl hb0 ho hl
    simp only [tv, Re.kind, Re.num]
    have hlc : L.length + 1 ≤ 8589934592 := by simp only [Re.cells, List.length_cons, List.length_nil] at hl; omega
    have e0 : L ++ Re.cells (.any) = L ++ [(4, 0)] := by simp [Re.cells]
    rw [e0]
    clear hl e0
    have hW : Below w.heap.size w ((w.alloc (.cells #[.int .i64 4, .int .i64 0, .slice none 0 0] 66)).alloc (.cells #[.int .i64 4, .int .i64 0] 70)) := below_box2 (Below.refl _ _)
    have hO2 := ownQ_below ho hW
    have hM2 : SrcQ (some ⟨w.heap.size + 1, 0, none⟩) [(4, 0)] 1 ((w.alloc (.cells #[.int .i64 4, .int .i64 0, .slice none 0 0] 66)).alloc (.cells #[.int .i64 4, .int .i64 0] 70)) := by
      have M := Mut.new (w.alloc (.cells #[.int .i64 4, .int .i64 0, .slice none 0 0] 66)) #[.int .i64 4, .int .i64 0] 70
      rw [show (w.alloc (.cells #[.int .i64 4, .int .i64 0, .slice none 0 0] 66)).heap.size = w.heap.size + 1 by simp] at M
      exact ⟨RowQ.one M.1 (M.2.1 0 _ rfl) (M.2.1 1 _ rfl), .inr ⟨_, _, rfl⟩⟩
    have hz2 : base ≤ ((w.alloc (.cells #[.int .i64 4, .int .i64 0, .slice none 0 0] 66)).alloc (.cells #[.int .i64 4, .int .i64 0] 70)).heap.size := by simp; omega
    replace hO2 := hide hO2
    replace hM2 := hide hM2
    replace hz2 := hide hz2
    replace hW := hide hW
    go_enter Try.func54, Try.ntmps54
    go_wp2_with (first | (at_builtin; refine wpList_appQ rfl _ _ rfl base v L rfl hO2.out (some ⟨w.heap.size + 1, 0, none⟩) [(4, 0)] 1 rfl hM2.out (by simp only [List.length_cons, List.length_nil]; omega) hz2.out ?_))
    intro v1 w5 ho5 hb5 hg5
    have d5 := (hW.out.mono hb0).trans hb5
    have x2 : w5.cell? ⟨w.heap.size, 2, none⟩ = some (.slice none 0 0) := (World.cell?_of_block (w := ((w.alloc (.cells #[.int .i64 4, .int .i64 0, .slice none 0 0] 66)).alloc (.cells #[.int .i64 4, .int .i64 0] 70))) (hg5.block w.heap.size (by simp; omega) (fun e => by have := (World.ownsRow.lt ho _ e.symm).2; omega))).trans (by simp [go_sem])
    replace hb5 := hide hb5
    replace hg5 := hide hg5
    replace d5 := hide d5
    replace ho5 := hide ho5
    clear hO2 hM2 hz2
    go_wp2_with fail
    go_loopw [1, 18] (fun x y wr => (y = .int .i64 0 ∧ OwnQ base x (L ++ [(4, 0)]) wr) ∧ Below base w wr) (fun _ y _ => 0 - (intOf y).toNat)
    case atStart => exact ⟨⟨rfl, ho5.out⟩, d5.out⟩
    case round =>
      obtain ⟨⟨rfl, hox⟩, hbw⟩ := hrel
      go_wp2_with fail
      go_ret
      exact ⟨_, rfl, hox, hbw⟩
  | thn a b ha hb =>
    rintro S k base v L w hS ⟨g, c, ⟨a1, a2, a3⟩, ⟨b1, b2, b3⟩, rfl, hSg, hR, hKa, hKb⟩ hb0 ho hl
    have IA := hide (fun v L w h1 h2 h3 h4 => ha S (a1, a2, a3) base v L w hS h1 h2 h3 h4)
    have IB := hide (fun v L w h1 h2 h3 h4 => hb S (b1, b2, b3) base v L w hS h1 h2 h3 h4)
    clear ha hb
    simp only [tv, Re.kind, Re.num]
    have hlc : L.length + 1 + a.cells.length + b.cells.length ≤ 8589934592 := by simp only [Re.cells, List.length_cons, List.length_append] at hl; omega
    have e0 : L ++ Re.cells (.thn a b) = L ++ [(5, 0)] ++ a.cells ++ b.cells := by simp [Re.cells]
    rw [e0]
    clear hl e0
    have hW : Below w.heap.size w ((w.alloc (.cells #[.int .i64 5, .int .i64 0, .slice (some ⟨g, 0, none⟩) 2 c] 66)).alloc (.cells #[.int .i64 5, .int .i64 0] 70)) := below_box2 (Below.refl _ _)
    have hO2 := ownQ_below ho hW
    have hM2 : SrcQ (some ⟨w.heap.size + 1, 0, none⟩) [(5, 0)] 1 ((w.alloc (.cells #[.int .i64 5, .int .i64 0, .slice (some ⟨g, 0, none⟩) 2 c] 66)).alloc (.cells #[.int .i64 5, .int .i64 0] 70)) := by
      have M := Mut.new (w.alloc (.cells #[.int .i64 5, .int .i64 0, .slice (some ⟨g, 0, none⟩) 2 c] 66)) #[.int .i64 5, .int .i64 0] 70
      rw [show (w.alloc (.cells #[.int .i64 5, .int .i64 0, .slice (some ⟨g, 0, none⟩) 2 c] 66)).heap.size = w.heap.size + 1 by simp] at M
      exact ⟨RowQ.one M.1 (M.2.1 0 _ rfl) (M.2.1 1 _ rfl), .inr ⟨_, _, rfl⟩⟩
    have hz2 : base ≤ ((w.alloc (.cells #[.int .i64 5, .int .i64 0, .slice (some ⟨g, 0, none⟩) 2 c] 66)).alloc (.cells #[.int .i64 5, .int .i64 0] 70)).heap.size := by simp; omega
    replace hO2 := hide hO2
    replace hM2 := hide hM2
    replace hz2 := hide hz2
    replace hW := hide hW
    go_enter Try.func54, Try.ntmps54
    go_wp2_with (first | (at_builtin; refine wpList_appQ rfl _ _ rfl base v L rfl hO2.out (some ⟨w.heap.size + 1, 0, none⟩) [(5, 0)] 1 rfl hM2.out (by simp only [List.length_cons, List.length_nil]; omega) hz2.out ?_))
    intro v1 w5 ho5 hb5 hg5
    have d5 := (hW.out.mono hb0).trans hb5
    have x2 : w5.cell? ⟨w.heap.size, 2, none⟩ = some (.slice (some ⟨g, 0, none⟩) 2 c) := (World.cell?_of_block (w := ((w.alloc (.cells #[.int .i64 5, .int .i64 0, .slice (some ⟨g, 0, none⟩) 2 c] 66)).alloc (.cells #[.int .i64 5, .int .i64 0] 70))) (hg5.block w.heap.size (by simp; omega) (fun e => by have := (World.ownsRow.lt ho _ e.symm).2; omega))).trans (by simp [go_sem])
    replace hb5 := hide hb5
    replace hg5 := hide hg5
    replace d5 := hide d5
    replace ho5 := hide ho5
    clear hO2 hM2 hz2
    go_wp2_with fail
    go_loopw [1, 18] (fun x y wr => (y = .int .i64 0 ∧ OwnQ base x (L ++ [(5, 0)]) wr ∨ y = .int .i64 1 ∧ OwnQ base x (L ++ [(5, 0)] ++ a.cells) wr ∨ y = .int .i64 2 ∧ OwnQ base x (L ++ [(5, 0)] ++ a.cells ++ b.cells) wr) ∧ Below base w wr) (fun _ y _ => 2 - (intOf y).toNat)
    case atStart => exact ⟨.inl ⟨rfl, ho5.out⟩, d5.out⟩
    case round =>
      obtain ⟨⟨rfl, hox⟩ | ⟨rfl, hox⟩ | ⟨rfl, hox⟩, hbw⟩ := hrel
      · obtain ⟨_, u0, u1, u2⟩ := (hR.move (S := fun g => g < base) (hS _ hSg) ⟨hbw.size, fun g _ hg _ => hbw.cell (p := ⟨g, _, none⟩) hg⟩).one0
        have hd := hbw.size
        go_wp2_with fail
        refine (IA.out _ (L ++ [(5, 0)]) _ ((hKa.base hS hbw).below (below_box (Below.refl _ _))) (by simp; omega) (ownQ_below hox (below_box (Below.refl _ _))) (by simp only [List.length_append, List.length_cons, List.length_nil]; omega)).mono ?_
        rintro e w7 ⟨v7, rfl, ho7, hb7⟩
        have d7 := hbw.trans (((Below.refl _ wr).alloc (by omega) (.cells #[.int .i64 a.kind, .int .i64 a.num, .slice a1 a2 a3] 66)).trans hb7)
        replace ho7 := hide ho7
        replace d7 := hide d7
        clear hb7 u0 u1 u2
        go_wp2_with fail
        exact ⟨⟨.inr (.inl ⟨rfl, ho7.out⟩), d7.out⟩, by simp [intOf]⟩
      · obtain ⟨u0, u1, u2⟩ := (hR.move (S := fun g => g < base) (hS _ hSg) ⟨hbw.size, fun g _ hg _ => hbw.cell (p := ⟨g, _, none⟩) hg⟩).two0
        have hd := hbw.size
        go_wp2_with fail
        refine (IB.out _ (L ++ [(5, 0)] ++ a.cells) _ ((hKb.base hS hbw).below (below_box (Below.refl _ _))) (by simp; omega) (ownQ_below hox (below_box (Below.refl _ _))) (by simp only [List.length_append, List.length_cons, List.length_nil]; omega)).mono ?_
        rintro e w7 ⟨v7, rfl, ho7, hb7⟩
        have d7 := hbw.trans (((Below.refl _ wr).alloc (by omega) (.cells #[.int .i64 b.kind, .int .i64 b.num, .slice b1 b2 b3] 66)).trans hb7)
        replace ho7 := hide ho7
        replace d7 := hide d7
        clear hb7 u0 u1 u2
        go_wp2_with fail
        exact ⟨⟨.inr (.inr ⟨rfl, ho7.out⟩), d7.out⟩, by simp [intOf]⟩
      · go_wp2_with fail
        go_ret
        exact ⟨_, rfl, hox, hbw⟩
  | alt a b ha hb =>
    rintro S k base v L w hS ⟨g, c, ⟨a1, a2, a3⟩, ⟨b1, b2, b3⟩, rfl, hSg, hR, hKa, hKb⟩ hb0 ho hl
    have IA := hide (fun v L w h1 h2 h3 h4 => ha S (a1, a2, a3) base v L w hS h1 h2 h3 h4)
    have IB := hide (fun v L w h1 h2 h3 h4 => hb S (b1, b2, b3) base v L w hS h1 h2 h3 h4)
    clear ha hb
    simp only [tv, Re.kind, Re.num]
    have hlc : L.length + 1 + a.cells.length + b.cells.length ≤ 8589934592 := by simp only [Re.cells, List.length_cons, List.length_append] at hl; omega
    have e0 : L ++ Re.cells (.alt a b) = L ++ [(6, 0)] ++ a.cells ++ b.cells := by simp [Re.cells]
    rw [e0]
    clear hl e0
    have hW : Below w.heap.size w ((w.alloc (.cells #[.int .i64 6, .int .i64 0, .slice (some ⟨g, 0, none⟩) 2 c] 66)).alloc (.cells #[.int .i64 6, .int .i64 0] 70)) := below_box2 (Below.refl _ _)
    have hO2 := ownQ_below ho hW
    have hM2 : SrcQ (some ⟨w.heap.size + 1, 0, none⟩) [(6, 0)] 1 ((w.alloc (.cells #[.int .i64 6, .int .i64 0, .slice (some ⟨g, 0, none⟩) 2 c] 66)).alloc (.cells #[.int .i64 6, .int .i64 0] 70)) := by
      have M := Mut.new (w.alloc (.cells #[.int .i64 6, .int .i64 0, .slice (some ⟨g, 0, none⟩) 2 c] 66)) #[.int .i64 6, .int .i64 0] 70
      rw [show (w.alloc (.cells #[.int .i64 6, .int .i64 0, .slice (some ⟨g, 0, none⟩) 2 c] 66)).heap.size = w.heap.size + 1 by simp] at M
      exact ⟨RowQ.one M.1 (M.2.1 0 _ rfl) (M.2.1 1 _ rfl), .inr ⟨_, _, rfl⟩⟩
    have hz2 : base ≤ ((w.alloc (.cells #[.int .i64 6, .int .i64 0, .slice (some ⟨g, 0, none⟩) 2 c] 66)).alloc (.cells #[.int .i64 6, .int .i64 0] 70)).heap.size := by simp; omega
    replace hO2 := hide hO2
    replace hM2 := hide hM2
    replace hz2 := hide hz2
    replace hW := hide hW
    go_enter Try.func54, Try.ntmps54
    go_wp2_with (first | (at_builtin; refine wpList_appQ rfl _ _ rfl base v L rfl hO2.out (some ⟨w.heap.size + 1, 0, none⟩) [(6, 0)] 1 rfl hM2.out (by simp only [List.length_cons, List.length_nil]; omega) hz2.out ?_))
    intro v1 w5 ho5 hb5 hg5
    have d5 := (hW.out.mono hb0).trans hb5
    have x2 : w5.cell? ⟨w.heap.size, 2, none⟩ = some (.slice (some ⟨g, 0, none⟩) 2 c) := (World.cell?_of_block (w := ((w.alloc (.cells #[.int .i64 6, .int .i64 0, .slice (some ⟨g, 0, none⟩) 2 c] 66)).alloc (.cells #[.int .i64 6, .int .i64 0] 70))) (hg5.block w.heap.size (by simp; omega) (fun e => by have := (World.ownsRow.lt ho _ e.symm).2; omega))).trans (by simp [go_sem])
    replace hb5 := hide hb5
    replace hg5 := hide hg5
    replace d5 := hide d5
    replace ho5 := hide ho5
    clear hO2 hM2 hz2
    go_wp2_with fail
    go_loopw [1, 18] (fun x y wr => (y = .int .i64 0 ∧ OwnQ base x (L ++ [(6, 0)]) wr ∨ y = .int .i64 1 ∧ OwnQ base x (L ++ [(6, 0)] ++ a.cells) wr ∨ y = .int .i64 2 ∧ OwnQ base x (L ++ [(6, 0)] ++ a.cells ++ b.cells) wr) ∧ Below base w wr) (fun _ y _ => 2 - (intOf y).toNat)
    case atStart => exact ⟨.inl ⟨rfl, ho5.out⟩, d5.out⟩
    case round =>
      obtain ⟨⟨rfl, hox⟩ | ⟨rfl, hox⟩ | ⟨rfl, hox⟩, hbw⟩ := hrel
      · obtain ⟨_, u0, u1, u2⟩ := (hR.move (S := fun g => g < base) (hS _ hSg) ⟨hbw.size, fun g _ hg _ => hbw.cell (p := ⟨g, _, none⟩) hg⟩).one0
        have hd := hbw.size
        go_wp2_with fail
        refine (IA.out _ (L ++ [(6, 0)]) _ ((hKa.base hS hbw).below (below_box (Below.refl _ _))) (by simp; omega) (ownQ_below hox (below_box (Below.refl _ _))) (by simp only [List.length_append, List.length_cons, List.length_nil]; omega)).mono ?_
        rintro e w7 ⟨v7, rfl, ho7, hb7⟩
        have d7 := hbw.trans (((Below.refl _ wr).alloc (by omega) (.cells #[.int .i64 a.kind, .int .i64 a.num, .slice a1 a2 a3] 66)).trans hb7)
        replace ho7 := hide ho7
        replace d7 := hide d7
        clear hb7 u0 u1 u2
        go_wp2_with fail
        exact ⟨⟨.inr (.inl ⟨rfl, ho7.out⟩), d7.out⟩, by simp [intOf]⟩
      · obtain ⟨u0, u1, u2⟩ := (hR.move (S := fun g => g < base) (hS _ hSg) ⟨hbw.size, fun g _ hg _ => hbw.cell (p := ⟨g, _, none⟩) hg⟩).two0
        have hd := hbw.size
        go_wp2_with fail
        refine (IB.out _ (L ++ [(6, 0)] ++ a.cells) _ ((hKb.base hS hbw).below (below_box (Below.refl _ _))) (by simp; omega) (ownQ_below hox (below_box (Below.refl _ _))) (by simp only [List.length_append, List.length_cons, List.length_nil]; omega)).mono ?_
        rintro e w7 ⟨v7, rfl, ho7, hb7⟩
        have d7 := hbw.trans (((Below.refl _ wr).alloc (by omega) (.cells #[.int .i64 b.kind, .int .i64 b.num, .slice b1 b2 b3] 66)).trans hb7)
        replace ho7 := hide ho7
        replace d7 := hide d7
        clear hb7 u0 u1 u2
        go_wp2_with fail
        exact ⟨⟨.inr (.inr ⟨rfl, ho7.out⟩), d7.out⟩, by simp [intOf]⟩
      · go_wp2_with fail
        go_ret
        exact ⟨_, rfl, hox, hbw⟩
  | str a ha =>
    rintro S k base v L w hS ⟨g, c, ⟨a1, a2, a3⟩, rfl, hSg, hR, hKa⟩ hb0 ho hl
    have IA := hide (fun v L w h1 h2 h3 h4 => ha S (a1, a2, a3) base v L w hS h1 h2 h3 h4)
    clear ha
    simp only [tv, Re.kind, Re.num]
    have hlc : L.length + 1 + a.cells.length ≤ 8589934592 := by simp only [Re.cells, List.length_cons] at hl; omega
    have e0 : L ++ Re.cells (.str a) = L ++ [(7, 0)] ++ a.cells := by simp [Re.cells]
    rw [e0]
    clear hl e0
    have hW : Below w.heap.size w ((w.alloc (.cells #[.int .i64 7, .int .i64 0, .slice (some ⟨g, 0, none⟩) 1 c] 66)).alloc (.cells #[.int .i64 7, .int .i64 0] 70)) := below_box2 (Below.refl _ _)
    have hO2 := ownQ_below ho hW
    have hM2 : SrcQ (some ⟨w.heap.size + 1, 0, none⟩) [(7, 0)] 1 ((w.alloc (.cells #[.int .i64 7, .int .i64 0, .slice (some ⟨g, 0, none⟩) 1 c] 66)).alloc (.cells #[.int .i64 7, .int .i64 0] 70)) := by
      have M := Mut.new (w.alloc (.cells #[.int .i64 7, .int .i64 0, .slice (some ⟨g, 0, none⟩) 1 c] 66)) #[.int .i64 7, .int .i64 0] 70
      rw [show (w.alloc (.cells #[.int .i64 7, .int .i64 0, .slice (some ⟨g, 0, none⟩) 1 c] 66)).heap.size = w.heap.size + 1 by simp] at M
      exact ⟨RowQ.one M.1 (M.2.1 0 _ rfl) (M.2.1 1 _ rfl), .inr ⟨_, _, rfl⟩⟩
    have hz2 : base ≤ ((w.alloc (.cells #[.int .i64 7, .int .i64 0, .slice (some ⟨g, 0, none⟩) 1 c] 66)).alloc (.cells #[.int .i64 7, .int .i64 0] 70)).heap.size := by simp; omega
    replace hO2 := hide hO2
    replace hM2 := hide hM2
    replace hz2 := hide hz2
    replace hW := hide hW
    go_enter Try.func54, Try.ntmps54
    go_wp2_with (first | (at_builtin; refine wpList_appQ rfl _ _ rfl base v L rfl hO2.out (some ⟨w.heap.size + 1, 0, none⟩) [(7, 0)] 1 rfl hM2.out (by simp only [List.length_cons, List.length_nil]; omega) hz2.out ?_))
    intro v1 w5 ho5 hb5 hg5
    have d5 := (hW.out.mono hb0).trans hb5
    have x2 : w5.cell? ⟨w.heap.size, 2, none⟩ = some (.slice (some ⟨g, 0, none⟩) 1 c) := (World.cell?_of_block (w := ((w.alloc (.cells #[.int .i64 7, .int .i64 0, .slice (some ⟨g, 0, none⟩) 1 c] 66)).alloc (.cells #[.int .i64 7, .int .i64 0] 70))) (hg5.block w.heap.size (by simp; omega) (fun e => by have := (World.ownsRow.lt ho _ e.symm).2; omega))).trans (by simp [go_sem])
    replace hb5 := hide hb5
    replace hg5 := hide hg5
    replace d5 := hide d5
    replace ho5 := hide ho5
    clear hO2 hM2 hz2
    go_wp2_with fail
    go_loopw [1, 18] (fun x y wr => (y = .int .i64 0 ∧ OwnQ base x (L ++ [(7, 0)]) wr ∨ y = .int .i64 1 ∧ OwnQ base x (L ++ [(7, 0)] ++ a.cells) wr) ∧ Below base w wr) (fun _ y _ => 1 - (intOf y).toNat)
    case atStart => exact ⟨.inl ⟨rfl, ho5.out⟩, d5.out⟩
    case round =>
      obtain ⟨⟨rfl, hox⟩ | ⟨rfl, hox⟩, hbw⟩ := hrel
      · obtain ⟨_, u0, u1, u2⟩ := (hR.move (S := fun g => g < base) (hS _ hSg) ⟨hbw.size, fun g _ hg _ => hbw.cell (p := ⟨g, _, none⟩) hg⟩).one0
        have hd := hbw.size
        go_wp2_with fail
        refine (IA.out _ (L ++ [(7, 0)]) _ ((hKa.base hS hbw).below (below_box (Below.refl _ _))) (by simp; omega) (ownQ_below hox (below_box (Below.refl _ _))) (by simp only [List.length_append, List.length_cons, List.length_nil]; omega)).mono ?_
        rintro e w7 ⟨v7, rfl, ho7, hb7⟩
        have d7 := hbw.trans (((Below.refl _ wr).alloc (by omega) (.cells #[.int .i64 a.kind, .int .i64 a.num, .slice a1 a2 a3] 66)).trans hb7)
        replace ho7 := hide ho7
        replace d7 := hide d7
        clear hb7 u0 u1 u2
        go_wp2_with fail
        exact ⟨⟨.inr (⟨rfl, ho7.out⟩), d7.out⟩, by simp [intOf]⟩
      · go_wp2_with fail
        go_ret
        exact ⟨_, rfl, hox, hbw⟩
end Go.Proofs.Ytdbaonpkdcmglaa
