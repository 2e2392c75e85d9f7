/- What the specification's l6Empty, GoodRegex and TakesEmpty answer. -/
import Derived.Test.YtocgghhlfmgndaaGreatS6c
import Derived.Test.YtocgghhlfmgndaaGreatI6b
namespace Go.Proofs.YtocgghhlfmgndaaGreat
open Go.RowKit

/-- A tree as the specification hands it over. -/
abbrev tv (t : Re) (k : Option Addr × Nat × Nat) : Value := .agg #[.int .i64 t.kind, .int .i64 t.num, .slice k.1 k.2.1 k.2.2]
theorem RowK.one0 {g : Nat} {x y : Int} {z : Option Addr × Nat × Nat} {L : List Kd} {w : World} (h : RowK (some ⟨g, 0, none⟩) ((x, y, z) :: L) w) : g < w.heap.size ∧ w.cell? ⟨g, 0, none⟩ = some (.int .i64 x) ∧ w.cell? ⟨g, 1, none⟩ = some (.int .i64 y) ∧ w.cell? ⟨g, 2, none⟩ = some (.slice z.1 z.2.1 z.2.2) := by
  obtain ⟨b, off, ha, hb, h0, h1, h2⟩ := h 0 (by simp)
  simp only [Option.some.injEq, Addr.mk.injEq, and_true] at ha
  obtain ⟨rfl, rfl⟩ := ha
  rw [kAt_zero] at h0 h1 h2
  simp only [Nat.zero_mul, Nat.zero_add] at h0 h1 h2
  exact ⟨hb, h0, h1, h2⟩
theorem RowK.two0 {g : Nat} {e : Kd} {x y : Int} {z : Option Addr × Nat × Nat} {L : List Kd} {w : World} (h : RowK (some ⟨g, 0, none⟩) (e :: (x, y, z) :: L) w) : w.cell? ⟨g, 3, none⟩ = some (.int .i64 x) ∧ w.cell? ⟨g, 4, none⟩ = some (.int .i64 y) ∧ w.cell? ⟨g, 5, none⟩ = some (.slice z.1 z.2.1 z.2.2) := by
  obtain ⟨b, off, ha, hb, h0, h1, h2⟩ := h 1 (by simp)
  simp only [Option.some.injEq, Addr.mk.injEq, and_true] at ha
  obtain ⟨rfl, rfl⟩ := ha
  rw [kAt_cons, kAt_zero] at h0 h1 h2
  simp only [Nat.one_mul, Nat.zero_add, Nat.reduceAdd] at h0 h1 h2
  exact ⟨h0, h1, h2⟩
set_option maxRecDepth 100000 in
set_option maxHeartbeats 800000 in
theorem s_goodRegex (b off cap : Nat) (L : List Cl) (w : World) (hm : L.length ≤ 8589934592) (hR : RowQ (some ⟨b, off, none⟩) L w) : Calls Tryz.prog 101 #[.slice (some ⟨b, off, none⟩) L.length cap] w fun e w' => e = .returned (.bool (rgB L)) ∧ Below w.heap.size w w' := by
  have S1 := hide (fun w hR => s_tree L b off cap w hm hR)
  cases h : rg L with
  | none =>
    rw [show rgB L = false from by simp [rgB, h]]
    rw [h] at S1
    go_enter Tryz.func101, Tryz.ntmps101
    go_wp2_with fail
    refine (S1.out _ hR).mono ?_
    rintro e w1 ⟨x, y, ⟨k1, k2, k3⟩, rfl, b1⟩
    go_wp2_with fail
    go_ret
    exact ⟨rfl, b1.alloc b1.size _⟩
  | some t =>
    rw [show rgB L = true from by simp [rgB, h]]
    rw [h] at S1
    go_enter Tryz.func101, Tryz.ntmps101
    go_wp2_with fail
    refine (S1.out _ hR).mono ?_
    rintro e w1 ⟨⟨k1, k2, k3⟩, rfl, _, b1⟩
    go_wp2_with fail
    go_ret
    exact ⟨rfl, b1.alloc b1.size _⟩
end Go.Proofs.YtocgghhlfmgndaaGreat
