/- What the specification's l6Empty, GoodRegex and TakesEmpty answer. -/
import Derived.Test.YtdbaonpkdcmglaaS6c
import Derived.Test.YtdbaonpkdcmglaaI6b
namespace Go.Proofs.Ytdbaonpkdcmglaa
open Go.RowKit

/-- A tree as the specification hands it over. -/
abbrev tv (t : Re) (k : Option Addr × Nat × Nat) : Value := .agg #[.int .i64 t.kind, .int .i64 t.num, .slice k.1 k.2.1 k.2.2]
theorem RowK.one0 {g : Nat} {x y : Int} {z : Option Addr × Nat × Nat} {L : List Kd} {w : World} (h : RowK (some ⟨g, 0, none⟩) ((x, y, z) :: L) w) : g < w.heap.size ∧ w.cell? ⟨g, 0, none⟩ = some (.int .i64 x) ∧ w.cell? ⟨g, 1, none⟩ = some (.int .i64 y) ∧ w.cell? ⟨g, 2, none⟩ = some (.slice z.1 z.2.1 z.2.2) := by
  obtain ⟨b, off, ha, hb, h0, h1, h2⟩ := h 0 (by simp)
  simp only [Option.some.injEq, Addr.mk.injEq, and_true] at ha
  obtain ⟨rfl, rfl⟩ := ha
  rw [kAt_zero] at h0 h1 h2
  simp only [Nat.zero_mul, Nat.zero_add] at h0 h1 h2
  exact ⟨hb, h0, h1, h2⟩
theorem RowK.two0 {g : Nat} {e : Kd} {x y : Int} {z : Option Addr × Nat × Nat} {L : List Kd} {w : World} (h : RowK (some ⟨g, 0, none⟩) (e :: (x, y, z) :: L) w) : w.cell? ⟨g, 3, none⟩ = some (.int .i64 x) ∧ w.cell? ⟨g, 4, none⟩ = some (.int .i64 y) ∧ w.cell? ⟨g, 5, none⟩ = some (.slice z.1 z.2.1 z.2.2) := by
  obtain ⟨b, off, ha, hb, h0, h1, h2⟩ := h 1 (by simp)
  simp only [Option.some.injEq, Addr.mk.injEq, and_true] at ha
  obtain ⟨rfl, rfl⟩ := ha
  rw [kAt_cons, kAt_zero] at h0 h1 h2
  simp only [Nat.one_mul, Nat.zero_add, Nat.reduceAdd] at h0 h1 h2
  exact ⟨h0, h1, h2⟩
set_option maxRecDepth 100000 in
set_option maxHeartbeats 3200000 in
theorem s_te (t : Re) : ∀ (S : Nat → Prop) (k : Option Addr × Nat × Nat) (w : World), Kids S w t k → Calls Try.prog 47 #[tv t k] w fun e w' => e = .returned (.bool t.te) ∧ Below w.heap.size w w' := by
  induction t with
  | non =>
    rintro S k w rfl
    simp only [tv, Re.kind, Re.num, Re.te]
    go_enter Try.func47, Try.ntmps47
    go_wp2_with fail
    go_ret
    exact ⟨rfl, below_box (Below.refl _ _)⟩
  | emp =>
    rintro S k w rfl
    simp only [tv, Re.kind, Re.num, Re.te]
    go_enter Try.func47, Try.ntmps47
    go_wp2_with fail
    go_ret
    exact ⟨rfl, below_box (Below.refl _ _)⟩
  | one n =>
    rintro S k w rfl
    simp only [tv, Re.kind, Re.num, Re.te]
    go_enter Try.func47, Try.ntmps47
    go_wp2_with fail
    go_ret
    exact ⟨rfl, below_box (Below.refl _ _)⟩
  | any =>
    rintro S k w rfl
    simp only [tv, Re.kind, Re.num, Re.te]
    go_enter Try.func47, Try.ntmps47
    go_wp2_with fail
    go_ret
    exact ⟨rfl, below_box (Below.refl _ _)⟩
  | thn a b ha hb =>
    rintro S k w ⟨g, c, ⟨a1, a2, a3⟩, ⟨b1, b2, b3⟩, rfl, hS, hR, hKa, hKb⟩
    have IA := hide (fun w h => ha S (a1, a2, a3) w h)
    have IB := hide (fun w h => hb S (b1, b2, b3) w h)
    simp only [tv, Re.kind, Re.num, Re.te]
    have hW : Below w.heap.size w (w.alloc (.cells #[.int .i64 5, .int .i64 0, .slice (some ⟨g, 0, none⟩) 2 c] 66)) := below_box (Below.refl _ _)
    obtain ⟨hg, u0, u1, u2⟩ := (hR.below hW).one0
    obtain ⟨v0, v1, v2⟩ := (hR.below hW).two0
    clear hR ha hb
    cases ga : a.te with
    | false =>
      rw [ga] at IA
      go_enter Try.func47, Try.ntmps47
      go_wp2_with fail
      refine (IA.out _ (hKa.below hW)).mono ?_
      rintro e w1 ⟨rfl, d1⟩
      go_wp2_with fail
      go_ret
      exact ⟨rfl, below_box d1⟩
    | true =>
      rw [ga] at IA
      go_enter Try.func47, Try.ntmps47
      go_wp2_with fail
      refine (IA.out _ (hKa.below hW)).mono ?_
      rintro e w1 ⟨rfl, d1⟩
      obtain ⟨hc, _⟩ := bcell d1
      have z0 := (hc g 3 hg).trans v0
      have z1 := (hc g 4 hg).trans v1
      have z2 := (hc g 5 hg).trans v2
      have x2 : w1.cell? ⟨w.heap.size, 2, none⟩ = some (.slice (some ⟨g, 0, none⟩) 2 c) := (hc _ 2 (by simp)).trans (by simp [go_sem])
      clear hc u0 u1 u2 v0 v1 v2
      go_wp2_with fail
      refine (IB.out _ (hKb.below (below_step hW d1))).mono ?_
      rintro e w2 ⟨rfl, d2⟩
      go_wp2_with fail
      go_ret
      exact ⟨rfl, below_box (below_step d1 d2)⟩
  | alt a b ha hb =>
    rintro S k w ⟨g, c, ⟨a1, a2, a3⟩, ⟨b1, b2, b3⟩, rfl, hS, hR, hKa, hKb⟩
    have IA := hide (fun w h => ha S (a1, a2, a3) w h)
    have IB := hide (fun w h => hb S (b1, b2, b3) w h)
    simp only [tv, Re.kind, Re.num, Re.te]
    have hW : Below w.heap.size w (w.alloc (.cells #[.int .i64 6, .int .i64 0, .slice (some ⟨g, 0, none⟩) 2 c] 66)) := below_box (Below.refl _ _)
    obtain ⟨hg, u0, u1, u2⟩ := (hR.below hW).one0
    obtain ⟨v0, v1, v2⟩ := (hR.below hW).two0
    clear hR ha hb
    cases ga : a.te with
    | true =>
      rw [ga] at IA
      go_enter Try.func47, Try.ntmps47
      go_wp2_with fail
      refine (IA.out _ (hKa.below hW)).mono ?_
      rintro e w1 ⟨rfl, d1⟩
      go_wp2_with fail
      go_ret
      exact ⟨rfl, below_box d1⟩
    | false =>
      rw [ga] at IA
      go_enter Try.func47, Try.ntmps47
      go_wp2_with fail
      refine (IA.out _ (hKa.below hW)).mono ?_
      rintro e w1 ⟨rfl, d1⟩
      obtain ⟨hc, _⟩ := bcell d1
      have z0 := (hc g 3 hg).trans v0
      have z1 := (hc g 4 hg).trans v1
      have z2 := (hc g 5 hg).trans v2
      have x2 : w1.cell? ⟨w.heap.size, 2, none⟩ = some (.slice (some ⟨g, 0, none⟩) 2 c) := (hc _ 2 (by simp)).trans (by simp [go_sem])
      clear hc u0 u1 u2 v0 v1 v2
      go_wp2_with fail
      refine (IB.out _ (hKb.below (below_step hW d1))).mono ?_
      rintro e w2 ⟨rfl, d2⟩
      go_wp2_with fail
      go_ret
      exact ⟨rfl, below_box (below_step d1 d2)⟩
  | str a _ha =>
    rintro S k w ⟨g, c, ⟨a1, a2, a3⟩, rfl, hS, hR, hKa⟩
    simp only [tv, Re.kind, Re.num, Re.te]
    go_enter Try.func47, Try.ntmps47
    go_wp2_with fail
    go_ret
    exact ⟨rfl, below_box (Below.refl _ _)⟩
set_option maxRecDepth 100000 in
set_option maxHeartbeats 800000 in
theorem s_goodRegex (b off cap : Nat) (L : List Cl) (w : World) (hm : L.length ≤ 8589934592) (hR : RowQ (some ⟨b, off, none⟩) L w) : Calls Try.prog 13 #[.slice (some ⟨b, off, none⟩) L.length cap] w fun e w' => e = .returned (.bool (rgB L)) ∧ Below w.heap.size w w' := by
  have S1 := hide (fun w hR => s_tree L b off cap w hm hR)
  cases h : rg L with
  | none =>
    rw [show rgB L = false from by simp [rgB, h]]
    rw [h] at S1
    go_enter Try.func13, Try.ntmps13
    go_wp2_with fail
    refine (S1.out _ hR).mono ?_
    rintro e w1 ⟨x, y, ⟨k1, k2, k3⟩, rfl, b1⟩
    go_wp2_with fail
    go_ret
    exact ⟨rfl, b1.alloc b1.size _⟩
  | some t =>
    rw [show rgB L = true from by simp [rgB, h]]
    rw [h] at S1
    go_enter Try.func13, Try.ntmps13
    go_wp2_with fail
    refine (S1.out _ hR).mono ?_
    rintro e w1 ⟨⟨k1, k2, k3⟩, rfl, _, b1⟩
    go_wp2_with fail
    go_ret
    exact ⟨rfl, b1.alloc b1.size _⟩
set_option maxRecDepth 100000 in
set_option maxHeartbeats 800000 in
theorem s_takesEmpty (b off cap : Nat) (L : List Cl) (w : World) (hm : L.length ≤ 8589934592) (hR : RowQ (some ⟨b, off, none⟩) L w) : Calls Try.prog 17 #[.slice (some ⟨b, off, none⟩) L.length cap] w fun e w' => e = .returned (.tuple #[.bool (teA L), .bool (rgB L)]) ∧ Below w.heap.size w w' := by
  have S1 := hide (fun w hR => s_tree L b off cap w hm hR)
  cases h : rg L with
  | none =>
    rw [show rgB L = false from by simp [rgB, h], show teA L = false from by simp [teA, h]]
    rw [h] at S1
    go_enter Try.func17, Try.ntmps17
    go_wp2_with fail
    refine (S1.out _ hR).mono ?_
    rintro e w1 ⟨x, y, ⟨k1, k2, k3⟩, rfl, b1⟩
    go_wp2_with fail
    go_ret2
    exact ⟨rfl, by first | exact b1 | exact b1.alloc b1.size _⟩
  | some t =>
    rw [show rgB L = true from by simp [rgB, h], show teA L = t.te from by simp [teA, h]]
    rw [h] at S1
    go_enter Try.func17, Try.ntmps17
    go_wp2_with fail
    refine (S1.out _ hR).mono ?_
    rintro e w1 ⟨⟨k1, k2, k3⟩, rfl, hK, b1⟩
    have S2 := hide (fun w' (h : Kids (fun g => w.heap.size ≤ g) w' t (k1, k2, k3)) => s_te t _ (k1, k2, k3) w' h)
    go_wp2_with fail
    refine (S2.out _ (hK.below (by first | exact Below.refl _ _ | exact below_box (Below.refl _ _)))).mono ?_
    rintro e w2 ⟨rfl, b2⟩
    go_wp2_with fail
    go_ret2
    exact ⟨rfl, by first | exact below_step b1 b2 | exact below_step b1 (below_box b2)⟩
end Go.Proofs.Ytdbaonpkdcmglaa
