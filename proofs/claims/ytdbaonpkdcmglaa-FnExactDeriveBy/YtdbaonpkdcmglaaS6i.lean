/- What the specification's l6Derive answers. -/
import Derived.Test.YtdbaonpkdcmglaaS6h
import Derived.Deep.RegionHeld3
import Derived.Deep.DeepCutAuto
import Derived.Deep.Cut
import Derived.Deep.CutRange
namespace Go.Proofs.Ytdbaonpkdcmglaa
open Go.RowKit

/-- The six cells of two trees. -/
abbrev twoC (x y : Re) (kx ky : Option Addr × Nat × Nat) : Array Value := #[.int .i64 x.kind, .int .i64 x.num, .slice kx.1 kx.2.1 kx.2.2, .int .i64 y.kind, .int .i64 y.num, .slice ky.1 ky.2.1 ky.2.2]
theorem row_two {M : World} {g : Nat} (x y : Re) (kx ky : Option Addr × Nat × Nat) (h : Mut M g (twoC x y kx ky).toList) : RowK (some ⟨g, 0, none⟩) [(x.kind, x.num, kx), (y.kind, y.num, ky)] M := by
  intro i hi
  have : i = 0 ∨ i = 1 := by simp at hi; omega
  rcases this with rfl | rfl
  · exact ⟨g, 0, rfl, h.1, h.2.1 0 _ rfl, h.2.1 1 _ rfl, h.2.1 2 _ rfl⟩
  · exact ⟨g, 0, rfl, h.1, h.2.1 3 _ rfl, h.2.1 4 _ rfl, h.2.1 5 _ rfl⟩
theorem kids_two {S : Nat → Prop} {M : World} {g : Nat} (x y : Re) (kx ky : Option Addr × Nat × Nat) (hK : Kids S M x kx) (hK' : Kids S M y ky) (hg : S g) (h : Mut M g (twoC x y kx ky).toList) : Kids S M (.thn x y) (some ⟨g, 0, none⟩, 2, 2) ∧ Kids S M (.alt x y) (some ⟨g, 0, none⟩, 2, 2) :=
  ⟨⟨g, 2, kx, ky, rfl, hg, row_two x y kx ky h, hK, hK'⟩, ⟨g, 2, kx, ky, rfl, hg, row_two x y kx ky h, hK, hK'⟩⟩
theorem kids_set {S : Nat → Prop} {w : World} {t : Re} {k : Option Addr × Nat × Nat} (b : Nat) (hK : Kids S w t k) (hb : ∀ g, S g → g ≠ b) (x y z : Value) : Kids S (((w.setCell ⟨b, 0, none⟩ x).setCell ⟨b, 1, none⟩ y).setCell ⟨b, 2, none⟩ z) t k := by
  have hon : Only b w (((w.setCell ⟨b, 0, none⟩ x).setCell ⟨b, 1, none⟩ y).setCell ⟨b, 2, none⟩ z) := (((Only.refl _ _).setCell _ _).setCell _ _).setCell _ _
  exact Kids.move ⟨hon.2.2.2.1, fun g _ hg h => hon.cell h (hb g hg)⟩ _ _ hK
/-- A box with two trees under a kind, made since Z. -/
def FirstB (S : Nat → Prop) (Z wx : World) (bo : Nat) (x y : Re) : Prop := ∃ kf : Option Addr × Nat × Nat, Mut wx bo [.int .i64 5, .int .i64 0, .slice kf.1 kf.2.1 kf.2.2] ∧ Kids (fun g => S g ∨ Z.heap.size ≤ g) wx (.thn x y) kf ∧ Below Z.heap.size Z wx ∧ Z.heap.size ≤ bo
theorem FirstB.drew {S : Nat → Prop} {Z wx : World} {bo : Nat} {x y : Re} (h : FirstB S Z wx bo x y) : FirstB S Z wx.drew bo x y := by
  obtain ⟨kf, h1, h2, h3, h4⟩ := h
  exact ⟨kf, h1.drew, h2.below (Below.refl _ _).drew, h3.drew, h4⟩
theorem firstB_3 {S : Nat → Prop} {Z N : World} {x y : Re} {kx ky : Option Addr × Nat × Nat} (hb : Below Z.heap.size Z N) (hx : Kids (fun g => S g ∨ Z.heap.size ≤ g) N x kx) (hy : Kids S N y ky) :
    FirstB S Z ((N.alloc (.cells (twoC x y kx ky) 66)).alloc (.cells #[.int .i64 5, .int .i64 0, .slice (some ⟨N.heap.size, 0, none⟩) 2 2] 66)) (N.heap.size + 1) x y := by
  have hb' : Below Z.heap.size Z (N.alloc (.cells (twoC x y kx ky) 66)) := hb.alloc hb.size _
  refine ⟨(some ⟨N.heap.size, 0, none⟩, 2, 2), ?_, ?_, hb'.alloc hb'.size _, by have := hb.size; omega⟩
  · have := Mut.new (N.alloc (.cells (twoC x y kx ky) 66)) #[.int .i64 5, .int .i64 0, .slice (some ⟨N.heap.size, 0, none⟩) 2 2] 66
    rw [show (N.alloc (.cells (twoC x y kx ky) 66)).heap.size = N.heap.size + 1 by simp] at this
    exact this
  · have b1 : Below N.heap.size N (N.alloc (.cells (twoC x y kx ky) 66)) := below_box (Below.refl _ _)
    exact ((kids_two x y kx ky (hx.below b1) ((Kids.mono (fun g _ h => .inl h) _ _ hy).below b1) (.inr hb.size) (Mut.new N _ _)).1).below (below_box (Below.refl _ _))
theorem firstB_2 {S : Nat → Prop} {Z N : World} {x y : Re} {kx ky : Option Addr × Nat × Nat} (hb : Below Z.heap.size Z N) (hx : Kids (fun g => S g ∨ Z.heap.size ≤ g) N x kx) (hy : Kids S N y ky) :
    FirstB S Z ((N.alloc (.cells #[.int .i64 5, .int .i64 0, .slice (some ⟨N.heap.size + 1, 0, none⟩) 2 2] 66)).alloc (.cells (twoC x y kx ky) 66)) N.heap.size x y := by
  have b1 : Below N.heap.size N ((N.alloc (.cells #[.int .i64 5, .int .i64 0, .slice (some ⟨N.heap.size + 1, 0, none⟩) 2 2] 66)).alloc (.cells (twoC x y kx ky) 66)) := below_box2 (Below.refl _ _)
  have hM := Mut.new (N.alloc (.cells #[.int .i64 5, .int .i64 0, .slice (some ⟨N.heap.size + 1, 0, none⟩) 2 2] 66)) (twoC x y kx ky) 66
  rw [show (N.alloc (.cells #[.int .i64 5, .int .i64 0, .slice (some ⟨N.heap.size + 1, 0, none⟩) 2 2] 66)).heap.size = N.heap.size + 1 by simp] at hM
  have hz := hb.size
  exact ⟨(some ⟨N.heap.size + 1, 0, none⟩, 2, 2), (Mut.new N _ _).alloc _, (kids_two x y kx ky (hx.below b1) ((Kids.mono (fun g _ h => .inl h) _ _ hy).below b1) (.inr (by omega)) hM).1, hb.trans (b1.mono hz), hz⟩
theorem firstB_1 {S : Nat → Prop} {Z N : World} {x y : Re} {kx ky : Option Addr × Nat × Nat} (hS : ∀ g, S g → g < Z.heap.size) (hb : Below Z.heap.size Z N) (hM : Mut N Z.heap.size [.int .i64 0, .int .i64 0, .slice none 0 0]) (hx : Kids (fun g => S g ∨ Z.heap.size + 1 ≤ g) N x kx) (hy : Kids S N y ky) :
    FirstB S Z ((((N.alloc (.cells (twoC x y kx ky) 66)).setCell ⟨Z.heap.size, 0, none⟩ (.int .i64 5)).setCell ⟨Z.heap.size, 1, none⟩ (.int .i64 0)).setCell ⟨Z.heap.size, 2, none⟩ (.slice (some ⟨N.heap.size, 0, none⟩) 2 2)) Z.heap.size x y := by
  have b1 : Below N.heap.size N (N.alloc (.cells (twoC x y kx ky) 66)) := below_box (Below.refl _ _)
  have hb' := hb.trans (b1.mono hb.size)
  have hz := hM.1
  refine ⟨(some ⟨N.heap.size, 0, none⟩, 2, 2), ?_, ?_, ((hb'.setCell (Nat.le_refl _) _).setCell (Nat.le_refl _) _).setCell (Nat.le_refl _) _, Nat.le_refl _⟩
  · exact (((hM.alloc _).set 0 _).set 1 _).set 2 _
  · have k2 := Kids.mono (S' := fun g => S g ∨ Z.heap.size + 1 ≤ g) (fun g _ h => .inl h) _ _ hy
    have k3 := (kids_two x y kx ky (hx.below b1) (k2.below b1) (.inr (by omega)) (Mut.new N _ _)).1
    exact Kids.mono (fun g _ h => by rcases h with h | h; exact .inl h; exact .inr (by omega)) _ _ (kids_set _ k3 (fun g h => by rcases h with h | h; (have := hS g h; omega); omega) _ _ _)
/-- What is stored into the result's box. -/
theorem derive_end {S : Nat → Prop} {w M : World} {t : Re} {kk : Option Addr × Nat × Nat} (hK : Kids (fun g => (S g ∧ g < w.heap.size) ∨ w.heap.size + 1 + 1 ≤ g) M t kk) (hb : Below w.heap.size w M) : MakeA (fun g => S g ∨ w.heap.size ≤ g) t w (.returned (tv t kk)) (((M.setCell ⟨w.heap.size + 1, 0, none⟩ (.int .i64 t.kind)).setCell ⟨w.heap.size + 1, 1, none⟩ (.int .i64 t.num)).setCell ⟨w.heap.size + 1, 2, none⟩ (.slice kk.1 kk.2.1 kk.2.2)) :=
  ⟨kk, rfl, Kids.mono (fun g _ h => by rcases h with h | h; exact .inl h.1; exact .inr (by omega)) _ _ (kids_set _ hK (fun g h => by rcases h with h | h <;> omega) _ _ _), ((hb.setCell (by simp) _).setCell (by simp) _).setCell (by simp) _⟩
theorem lo_boxQ' {w M : World} (h : Below w.heap.size w M) (n : Nat) (o : Obj) : Below w.heap.size w ((M.drewN n).alloc o) :=
  below_step (below_drewN h n) (show Below (M.drewN n).heap.size (M.drewN n) _ from below_box (Below.refl _ _))
set_option maxRecDepth 100000 in
set_option maxHeartbeats 12800000 in
theorem s_derive (n : Int) (t : Re) : ∀ (S : Nat → Prop) (k : Option Addr × Nat × Nat) (w : World), Kids S w t k → Calls Try.prog 59 #[tv t k, .int .i64 n] w (MakeA (fun g => S g ∨ w.heap.size ≤ g) (t.der n) w) := by
  induction t with
  | non =>
    rintro S k w rfl
    simp only [tv, Re.kind, Re.num, Re.der]
    go_enter Try.func59, Try.ntmps59
    go_wp2_with fail
    refine bodyPost_ret (v := .agg #[.int .i64 1, .int .i64 0, .slice none 0 0]) (by simp [results, Try.results59, go_sem]) rfl ?_
    exact ⟨(none, 0, 0), rfl, rfl, below_box3 (Below.refl _ _)⟩
  | emp =>
    rintro S k w rfl
    simp only [tv, Re.kind, Re.num, Re.der]
    go_enter Try.func59, Try.ntmps59
    go_wp2_with fail
    refine bodyPost_ret (v := .agg #[.int .i64 1, .int .i64 0, .slice none 0 0]) (by simp [results, Try.results59, go_sem]) rfl ?_
    exact ⟨(none, 0, 0), rfl, rfl, below_box3 (Below.refl _ _)⟩
  | any =>
    rintro S k w rfl
    simp only [tv, Re.kind, Re.num, Re.der]
    go_enter Try.func59, Try.ntmps59
    go_wp2_with fail
    refine bodyPost_ret (v := .agg #[.int .i64 2, .int .i64 0, .slice none 0 0]) (by simp [results, Try.results59, go_sem]) rfl ?_
    exact ⟨(none, 0, 0), rfl, rfl, below_box3 (Below.refl _ _)⟩
  | one m =>
    rintro S k w rfl
    cases h : (m == n) with
    | true =>
      rw [show Re.der n (.one m) = .emp from by simp [Re.der, h]]
      simp only [tv, Re.kind, Re.num]
      go_enter Try.func59, Try.ntmps59
      go_wp2_with fail
      refine bodyPost_ret (v := .agg #[.int .i64 2, .int .i64 0, .slice none 0 0]) (by simp [results, Try.results59, go_sem]) rfl ?_
      exact ⟨(none, 0, 0), rfl, rfl, below_box3 (Below.refl _ _)⟩
    | false =>
      rw [show Re.der n (.one m) = .non from by simp [Re.der, h]]
      simp only [tv, Re.kind, Re.num]
      go_enter Try.func59, Try.ntmps59
      go_wp2_with fail
      refine bodyPost_ret (v := .agg #[.int .i64 1, .int .i64 0, .slice none 0 0]) (by simp [results, Try.results59, go_sem]) rfl ?_
      exact ⟨(none, 0, 0), rfl, rfl, below_box3 (Below.refl _ _)⟩
  | alt a b ha hb =>
    rintro S k w ⟨g, c, ⟨a1, a2, a3⟩, ⟨b1, b2, b3⟩, rfl, hSg, hR, hKa, hKb⟩
    have IA := hide (fun w' (h : Kids (fun g => S g ∧ g < w.heap.size) w' a (a1, a2, a3)) => ha _ (a1, a2, a3) w' h)
    have IB := hide (fun w' (h : Kids (fun g => S g ∧ g < w.heap.size) w' b (b1, b2, b3)) => hb _ (b1, b2, b3) w' h)
    replace hKa := Kids.mono (S' := fun g => S g ∧ g < w.heap.size) (fun g h hg => ⟨hg, h⟩) _ _ hKa
    replace hKb := Kids.mono (S' := fun g => S g ∧ g < w.heap.size) (fun g h hg => ⟨hg, h⟩) _ _ hKb
    clear ha hb
    simp only [tv, Re.kind, Re.num, Re.der]
    have hZ : Below w.heap.size w (((w.alloc (.cells #[.int .i64 6, .int .i64 0, .slice (some ⟨g, 0, none⟩) 2 c] 66)).alloc (.cells #[.int .i64 0, .int .i64 0, .slice none 0 0] 66)).alloc (.cells #[.int .i64 1, .int .i64 0, .slice none 0 0] 66)) := below_box3 (Below.refl _ _)
    have M0 := ((Mut.new w #[.int .i64 6, .int .i64 0, .slice (some ⟨g, 0, none⟩) 2 c] 66).alloc (.cells #[.int .i64 0, .int .i64 0, .slice none 0 0] 66)).alloc (.cells #[.int .i64 1, .int .i64 0, .slice none 0 0] 66)
    have M1 := (Mut.new (w.alloc (.cells #[.int .i64 6, .int .i64 0, .slice (some ⟨g, 0, none⟩) 2 c] 66)) #[.int .i64 0, .int .i64 0, .slice none 0 0] 66).alloc (.cells #[.int .i64 1, .int .i64 0, .slice none 0 0] 66)
    rw [show (w.alloc (.cells #[.int .i64 6, .int .i64 0, .slice (some ⟨g, 0, none⟩) 2 c] 66)).heap.size = w.heap.size + 1 by simp] at M1
    have hZs : (((w.alloc (.cells #[.int .i64 6, .int .i64 0, .slice (some ⟨g, 0, none⟩) 2 c] 66)).alloc (.cells #[.int .i64 0, .int .i64 0, .slice none 0 0] 66)).alloc (.cells #[.int .i64 1, .int .i64 0, .slice none 0 0] 66)).heap.size = w.heap.size + 1 + 1 + 1 := by simp
    go_enter Try.func59, Try.ntmps59
    go_wp2_with fail
    generalize hWZ : ((w.alloc (.cells #[.int .i64 6, .int .i64 0, .slice (some ⟨g, 0, none⟩) 2 c] 66)).alloc (.cells #[.int .i64 0, .int .i64 0, .slice none 0 0] 66)).alloc (.cells #[.int .i64 1, .int .i64 0, .slice none 0 0] 66) = Z at *
    clear hWZ
    have hS : ∀ w' : World, Below Z.heap.size Z w' → w'.cell? ⟨w.heap.size, 2, none⟩ = some (.slice (some ⟨g, 0, none⟩) 2 c) ∧ w'.cell? ⟨g, 0, none⟩ = some (.int .i64 a.kind) ∧ w'.cell? ⟨g, 1, none⟩ = some (.int .i64 a.num) ∧ w'.cell? ⟨g, 2, none⟩ = some (.slice a1 a2 a3) ∧ w'.cell? ⟨g, 3, none⟩ = some (.int .i64 b.kind) ∧ w'.cell? ⟨g, 4, none⟩ = some (.int .i64 b.num) ∧ w'.cell? ⟨g, 5, none⟩ = some (.slice b1 b2 b3) := fun w' h => ⟨((M0.below h).2.1 2 _ rfl), ((hR.below (below_step hZ h)).one0).2.1, ((hR.below (below_step hZ h)).one0).2.2.1, ((hR.below (below_step hZ h)).one0).2.2.2, ((hR.below (below_step hZ h)).two0).1, ((hR.below (below_step hZ h)).two0).2.1, ((hR.below (below_step hZ h)).two0).2.2⟩
    have hgw := hR.lt
    have ng1 : ¬ g = w.heap.size + 1 := by omega
    have hSx : ∀ (w' : World) (x y z : Value), Below Z.heap.size Z w' → (((w'.setCell ⟨w.heap.size + 1, 0, none⟩ x).setCell ⟨w.heap.size + 1, 1, none⟩ y).setCell ⟨w.heap.size + 1, 2, none⟩ z).cell? ⟨w.heap.size, 2, none⟩ = some (.slice (some ⟨g, 0, none⟩) 2 c) ∧ (((w'.setCell ⟨w.heap.size + 1, 0, none⟩ x).setCell ⟨w.heap.size + 1, 1, none⟩ y).setCell ⟨w.heap.size + 1, 2, none⟩ z).cell? ⟨g, 0, none⟩ = some (.int .i64 a.kind) ∧ (((w'.setCell ⟨w.heap.size + 1, 0, none⟩ x).setCell ⟨w.heap.size + 1, 1, none⟩ y).setCell ⟨w.heap.size + 1, 2, none⟩ z).cell? ⟨g, 1, none⟩ = some (.int .i64 a.num) ∧ (((w'.setCell ⟨w.heap.size + 1, 0, none⟩ x).setCell ⟨w.heap.size + 1, 1, none⟩ y).setCell ⟨w.heap.size + 1, 2, none⟩ z).cell? ⟨g, 2, none⟩ = some (.slice a1 a2 a3) ∧ (((w'.setCell ⟨w.heap.size + 1, 0, none⟩ x).setCell ⟨w.heap.size + 1, 1, none⟩ y).setCell ⟨w.heap.size + 1, 2, none⟩ z).cell? ⟨g, 3, none⟩ = some (.int .i64 b.kind) ∧ (((w'.setCell ⟨w.heap.size + 1, 0, none⟩ x).setCell ⟨w.heap.size + 1, 1, none⟩ y).setCell ⟨w.heap.size + 1, 2, none⟩ z).cell? ⟨g, 4, none⟩ = some (.int .i64 b.num) ∧ (((w'.setCell ⟨w.heap.size + 1, 0, none⟩ x).setCell ⟨w.heap.size + 1, 1, none⟩ y).setCell ⟨w.heap.size + 1, 2, none⟩ z).cell? ⟨g, 5, none⟩ = some (.slice b1 b2 b3) := by
      intro w' x y z h
      have hon : Only (w.heap.size + 1) w' (((w'.setCell ⟨w.heap.size + 1, 0, none⟩ x).setCell ⟨w.heap.size + 1, 1, none⟩ y).setCell ⟨w.heap.size + 1, 2, none⟩ z) := (((Only.refl _ _).setCell _ _).setCell _ _).setCell _ _
      have hz' := h.size
      obtain ⟨q0, q1, q2, q3, q4, q5, q6⟩ := hS w' h
      exact ⟨(hon.cell (by omega) (by omega)).trans q0, (hon.cell (by omega) (by omega)).trans q1, (hon.cell (by omega) (by omega)).trans q2, (hon.cell (by omega) (by omega)).trans q3, (hon.cell (by omega) (by omega)).trans q4, (hon.cell (by omega) (by omega)).trans q5, (hon.cell (by omega) (by omega)).trans q6⟩
    obtain ⟨R0, R1, R2, R3, R4, R5, R6⟩ := hS Z (Below.refl _ _)
    go_region_held3 (fun w' => w'.cell? ⟨w.heap.size, 2, none⟩ = some (.slice (some ⟨g, 0, none⟩) 2 c) ∧ w'.cell? ⟨g, 0, none⟩ = some (.int .i64 a.kind) ∧ w'.cell? ⟨g, 1, none⟩ = some (.int .i64 a.num) ∧ w'.cell? ⟨g, 2, none⟩ = some (.slice a1 a2 a3) ∧ w'.cell? ⟨g, 3, none⟩ = some (.int .i64 b.kind) ∧ w'.cell? ⟨g, 4, none⟩ = some (.int .i64 b.num) ∧ w'.cell? ⟨g, 5, none⟩ = some (.slice b1 b2 b3))
      (first | exact hS _ (Below.refl _ _) | exact hS _ (Below.refl _ _).drew | exact hS _ hbM | exact hS _ hbM.drew | exact hS _ hbN | exact hS _ hbN.drew | exact hS _ (hMx 0 _) | exact hS _ (hMx 1 _) | (refine hSx _ _ _ _ ?_; first | exact hbM.alloc hbM.size _ | exact hbM.drew.alloc hbM.size _ | exact (hbM.alloc hbM.size _).drew) | go_keep | (refine ⟨?_, ?_, ?_, ?_, ?_, ?_, ?_⟩ <;> simp [go_sem, *]))
      ((first
        | (have hq0 := hbN; go_at_call 59; refine (IB.out _ (by first | exact (hKb.below hZ).below hbN | exact (hKb.below hZ).below hbN.drew)).mono ?_; rintro e M ⟨⟨y1', y2', y3'⟩, rfl, hKy, hbM0⟩; have hbM : Below Z.heap.size Z M := (by first | exact below_step hbN hbM0 | exact below_step hbN.drew hbM0); have hKxM := (by first | exact hKx.below hbM0 | exact (hKx.below (Below.refl _ _).drew).below hbM0); have hMx := lo_boxQ' hbM; have hzM := hbM.size; have hzN := hbN.size; have nb : ¬ w.heap.size + 1 = M.heap.size := (by omega); have ngM : ¬ g = M.heap.size := (by omega); have MM := M1.below hbM; have y0 := fun o => (MM.alloc o).2.1 0 _ rfl; have yd0 := fun o => (MM.drew.alloc o).2.1 0 _ rfl; have y1 := fun o => (MM.alloc o).2.1 1 _ rfl; have yd1 := fun o => (MM.drew.alloc o).2.1 1 _ rfl; have y2 := fun o => (MM.alloc o).2.1 2 _ rfl; have yd2 := fun o => (MM.drew.alloc o).2.1 2 _ rfl; have f0 := fun o => (MM.alloc o).2.2 0 (by simp); have fd0 := fun o => (MM.drew.alloc o).2.2 0 (by simp); have f1 := fun o => (MM.alloc o).2.2 1 (by simp); have fd1 := fun o => (MM.drew.alloc o).2.2 1 (by simp); have f2 := fun o => (MM.alloc o).2.2 2 (by simp); have fd2 := fun o => (MM.drew.alloc o).2.2 2 (by simp); clear MM; replace hKy := hide (Kids.mono (S' := fun g => (S g ∧ g < w.heap.size) ∨ w.heap.size + 1 + 1 + 1 ≤ g) (fun g _ h => (by rcases h with h | h; exact .inl h; exact .inr (by (try simp at h); omega))) _ _ hKy); clear hbM0)
        | (go_at_call 59; refine (IA.out _ (by first | exact hKa.below hZ | exact (hKa.below hZ).below (Below.refl _ _).drew)).mono ?_; rintro e N ⟨⟨x1', x2', x3'⟩, rfl, hKx0, hbN0⟩; have hbN : Below Z.heap.size Z N := (by first | exact hbN0 | exact (Below.refl _ _).drew.trans hbN0); have hKx := Kids.mono (S' := fun g => (S g ∧ g < w.heap.size) ∨ w.heap.size + 1 + 1 + 1 ≤ g) (fun g _ h => (by rcases h with h | h; exact .inl h; exact .inr (by (try simp at h); omega))) _ _ hKx0; clear hKx0 hbN0)))
    go_wp2_with fail
    refine bodyPost_ret (v := .agg #[.int .i64 6, .int .i64 0, .slice (some ⟨M.heap.size, 0, none⟩) 2 2]) (by simp [results, Try.results59, go_sem, *]) rfl ?_
    have b1 : Below M.heap.size M (M.alloc (.cells (twoC (a.der n) (b.der n) (x1', x2', x3') (y1', y2', y3')) 66)) := below_box (Below.refl _ _)
    have kt := (kids_two (S := fun g => (S g ∧ g < w.heap.size) ∨ w.heap.size + 1 + 1 ≤ g) (a.der n) (b.der n) (x1', x2', x3') (y1', y2', y3') (Kids.mono (fun g _ h => by rcases h with h | h; exact .inl h; exact .inr (by omega)) _ _ (hKxM.below b1)) (Kids.mono (fun g _ h => by rcases h with h | h; exact .inl h; exact .inr (by omega)) _ _ (Kids.below hKy.out b1)) (.inr (by omega)) (Mut.new M _ _)).2
    have hbw := (hZ.trans (hbM.mono hZ.size)).trans (b1.mono (by have := hZ.size; omega))
    first
      | exact derive_end kt hbw
      | exact derive_end (kt.below (Below.refl _ _).drew) hbw.drew
  | str a ha =>
    rintro S k w hK0
    have hK0' := hide (Kids.mono (S' := fun g => S g ∧ g < w.heap.size) (fun g h hg => ⟨hg, h⟩) _ _ hK0)
    obtain ⟨g, c, ⟨a1, a2, a3⟩, rfl, hSg, hR, hKa⟩ := hK0
    have IA := hide (fun w' (h : Kids (fun g => S g ∧ g < w.heap.size) w' a (a1, a2, a3)) => ha _ (a1, a2, a3) w' h)
    replace hKa := Kids.mono (S' := fun g => S g ∧ g < w.heap.size) (fun g h hg => ⟨hg, h⟩) _ _ hKa
    clear ha
    simp only [tv, Re.kind, Re.num, Re.der]
    have hZ : Below w.heap.size w (((w.alloc (.cells #[.int .i64 7, .int .i64 0, .slice (some ⟨g, 0, none⟩) 1 c] 66)).alloc (.cells #[.int .i64 0, .int .i64 0, .slice none 0 0] 66)).alloc (.cells #[.int .i64 1, .int .i64 0, .slice none 0 0] 66)) := below_box3 (Below.refl _ _)
    have M0 := ((Mut.new w #[.int .i64 7, .int .i64 0, .slice (some ⟨g, 0, none⟩) 1 c] 66).alloc (.cells #[.int .i64 0, .int .i64 0, .slice none 0 0] 66)).alloc (.cells #[.int .i64 1, .int .i64 0, .slice none 0 0] 66)
    have M1 := (Mut.new (w.alloc (.cells #[.int .i64 7, .int .i64 0, .slice (some ⟨g, 0, none⟩) 1 c] 66)) #[.int .i64 0, .int .i64 0, .slice none 0 0] 66).alloc (.cells #[.int .i64 1, .int .i64 0, .slice none 0 0] 66)
    rw [show (w.alloc (.cells #[.int .i64 7, .int .i64 0, .slice (some ⟨g, 0, none⟩) 1 c] 66)).heap.size = w.heap.size + 1 by simp] at M1
    have hZs : (((w.alloc (.cells #[.int .i64 7, .int .i64 0, .slice (some ⟨g, 0, none⟩) 1 c] 66)).alloc (.cells #[.int .i64 0, .int .i64 0, .slice none 0 0] 66)).alloc (.cells #[.int .i64 1, .int .i64 0, .slice none 0 0] 66)).heap.size = w.heap.size + 1 + 1 + 1 := by simp
    go_enter Try.func59, Try.ntmps59
    go_wp2_with fail
    generalize hWZ : ((w.alloc (.cells #[.int .i64 7, .int .i64 0, .slice (some ⟨g, 0, none⟩) 1 c] 66)).alloc (.cells #[.int .i64 0, .int .i64 0, .slice none 0 0] 66)).alloc (.cells #[.int .i64 1, .int .i64 0, .slice none 0 0] 66) = Z at *
    clear hWZ
    have hS : ∀ w' : World, Below Z.heap.size Z w' → w'.cell? ⟨w.heap.size, 2, none⟩ = some (.slice (some ⟨g, 0, none⟩) 1 c) ∧ w'.cell? ⟨g, 0, none⟩ = some (.int .i64 a.kind) ∧ w'.cell? ⟨g, 1, none⟩ = some (.int .i64 a.num) ∧ w'.cell? ⟨g, 2, none⟩ = some (.slice a1 a2 a3) ∧ w'.cell? ⟨w.heap.size, 0, none⟩ = some (.int .i64 7) ∧ w'.cell? ⟨w.heap.size, 1, none⟩ = some (.int .i64 0) := fun w' h => ⟨((M0.below h).2.1 2 _ rfl), ((hR.below (below_step hZ h)).one0).2.1, ((hR.below (below_step hZ h)).one0).2.2.1, ((hR.below (below_step hZ h)).one0).2.2.2, ((M0.below h).2.1 0 _ rfl), ((M0.below h).2.1 1 _ rfl)⟩
    have hgw := hR.lt
    have ng1 : ¬ g = w.heap.size + 1 := by omega
    have hSx : ∀ (w' : World) (x y z : Value), Below Z.heap.size Z w' → (((w'.setCell ⟨w.heap.size + 1, 0, none⟩ x).setCell ⟨w.heap.size + 1, 1, none⟩ y).setCell ⟨w.heap.size + 1, 2, none⟩ z).cell? ⟨w.heap.size, 2, none⟩ = some (.slice (some ⟨g, 0, none⟩) 1 c) ∧ (((w'.setCell ⟨w.heap.size + 1, 0, none⟩ x).setCell ⟨w.heap.size + 1, 1, none⟩ y).setCell ⟨w.heap.size + 1, 2, none⟩ z).cell? ⟨g, 0, none⟩ = some (.int .i64 a.kind) ∧ (((w'.setCell ⟨w.heap.size + 1, 0, none⟩ x).setCell ⟨w.heap.size + 1, 1, none⟩ y).setCell ⟨w.heap.size + 1, 2, none⟩ z).cell? ⟨g, 1, none⟩ = some (.int .i64 a.num) ∧ (((w'.setCell ⟨w.heap.size + 1, 0, none⟩ x).setCell ⟨w.heap.size + 1, 1, none⟩ y).setCell ⟨w.heap.size + 1, 2, none⟩ z).cell? ⟨g, 2, none⟩ = some (.slice a1 a2 a3) ∧ (((w'.setCell ⟨w.heap.size + 1, 0, none⟩ x).setCell ⟨w.heap.size + 1, 1, none⟩ y).setCell ⟨w.heap.size + 1, 2, none⟩ z).cell? ⟨w.heap.size, 0, none⟩ = some (.int .i64 7) ∧ (((w'.setCell ⟨w.heap.size + 1, 0, none⟩ x).setCell ⟨w.heap.size + 1, 1, none⟩ y).setCell ⟨w.heap.size + 1, 2, none⟩ z).cell? ⟨w.heap.size, 1, none⟩ = some (.int .i64 0) := by
      intro w' x y z h
      have hon : Only (w.heap.size + 1) w' (((w'.setCell ⟨w.heap.size + 1, 0, none⟩ x).setCell ⟨w.heap.size + 1, 1, none⟩ y).setCell ⟨w.heap.size + 1, 2, none⟩ z) := (((Only.refl _ _).setCell _ _).setCell _ _).setCell _ _
      have hz' := h.size
      obtain ⟨q0, q1, q2, q3, q4, q5⟩ := hS w' h
      exact ⟨(hon.cell (by omega) (by omega)).trans q0, (hon.cell (by omega) (by omega)).trans q1, (hon.cell (by omega) (by omega)).trans q2, (hon.cell (by omega) (by omega)).trans q3, (hon.cell (by omega) (by omega)).trans q4, (hon.cell (by omega) (by omega)).trans q5⟩
    obtain ⟨R0, R1, R2, R3, R4, R5⟩ := hS Z (Below.refl _ _)
    go_region_held3 (fun w' => w'.cell? ⟨w.heap.size, 2, none⟩ = some (.slice (some ⟨g, 0, none⟩) 1 c) ∧ w'.cell? ⟨g, 0, none⟩ = some (.int .i64 a.kind) ∧ w'.cell? ⟨g, 1, none⟩ = some (.int .i64 a.num) ∧ w'.cell? ⟨g, 2, none⟩ = some (.slice a1 a2 a3) ∧ w'.cell? ⟨w.heap.size, 0, none⟩ = some (.int .i64 7) ∧ w'.cell? ⟨w.heap.size, 1, none⟩ = some (.int .i64 0))
      (first | exact hS _ (Below.refl _ _) | exact hS _ (Below.refl _ _).drew | exact hS _ hbM | exact hS _ hbM.drew | exact hS _ (hMx 0 _) | exact hS _ (hMx 1 _) | (refine hSx _ _ _ _ ?_; first | exact hbM.alloc hbM.size _ | exact hbM.drew.alloc hbM.size _ | exact (hbM.alloc hbM.size _).drew) | go_keep | (refine ⟨?_, ?_, ?_, ?_, ?_, ?_⟩ <;> simp [go_sem, *]))
      ((go_at_call 59; refine (IA.out _ (by first | exact hKa.below hZ | exact (hKa.below hZ).below (Below.refl _ _).drew)).mono ?_; rintro e M ⟨⟨x1', x2', x3'⟩, rfl, hKx0, hbM0⟩; have hbM : Below Z.heap.size Z M := (by first | exact hbM0 | exact (Below.refl _ _).drew.trans hbM0); have hKx := Kids.mono (S' := fun g => (S g ∧ g < w.heap.size) ∨ w.heap.size + 1 + 1 + 1 ≤ g) (fun g _ h => (by rcases h with h | h; exact .inl h; exact .inr (by (try simp at h); omega))) _ _ hKx0; have hMx := lo_boxQ' hbM; have hzM := hbM.size; have nb : ¬ w.heap.size + 1 = M.heap.size := (by omega); have ngM : ¬ g = M.heap.size := (by omega); have MM := M1.below hbM; have y0 := fun o => (MM.alloc o).2.1 0 _ rfl; have yd0 := fun o => (MM.drew.alloc o).2.1 0 _ rfl; have y1 := fun o => (MM.alloc o).2.1 1 _ rfl; have yd1 := fun o => (MM.drew.alloc o).2.1 1 _ rfl; have y2 := fun o => (MM.alloc o).2.1 2 _ rfl; have yd2 := fun o => (MM.drew.alloc o).2.1 2 _ rfl; have f0 := fun o => (MM.alloc o).2.2 0 (by simp); have fd0 := fun o => (MM.drew.alloc o).2.2 0 (by simp); have f1 := fun o => (MM.alloc o).2.2 1 (by simp); have fd1 := fun o => (MM.drew.alloc o).2.2 1 (by simp); have f2 := fun o => (MM.alloc o).2.2 2 (by simp); have fd2 := fun o => (MM.drew.alloc o).2.2 2 (by simp); clear MM; clear hKx0 hbM0))
    go_wp2_with fail
    refine bodyPost_ret (v := .agg #[.int .i64 5, .int .i64 0, .slice (some ⟨M.heap.size, 0, none⟩) 2 2]) (by simp [results, Try.results59, go_sem, *]) rfl ?_
    have b1 : Below M.heap.size M (M.alloc (.cells (twoC (a.der n) (.str a) (x1', x2', x3') (some ⟨g, 0, none⟩, 1, c)) 66)) := below_box (Below.refl _ _)
    have kt := (kids_two (S := fun g => (S g ∧ g < w.heap.size) ∨ w.heap.size + 1 + 1 ≤ g) (a.der n) (.str a) (x1', x2', x3') (some ⟨g, 0, none⟩, 1, c) (Kids.mono (fun g _ h => by rcases h with h | h; exact .inl h; exact .inr (by omega)) _ _ (hKx.below b1)) (Kids.mono (fun g _ h => by rcases h with h | h; exact .inl h; exact .inr (by omega)) _ _ (Kids.below (Kids.mono (S' := fun g => (S g ∧ g < w.heap.size) ∨ w.heap.size + 1 + 1 + 1 ≤ g) (fun g _ h => .inl h) _ _ (((hK0'.out).below hZ).below hbM)) b1)) (.inr (by omega)) (Mut.new M _ _)).1
    have hbw := (hZ.trans (hbM.mono hZ.size)).trans (b1.mono (by have := hZ.size; omega))
    first
      | exact derive_end kt hbw
      | exact derive_end (kt.below (Below.refl _ _).drew) hbw.drew
  | thn a b ha hb =>
    rintro S k w ⟨g, c, ⟨a1, a2, a3⟩, ⟨b1, b2, b3⟩, rfl, hSg, hR, hKa, hKb⟩
    have IA := hide (fun w' (h : Kids (fun g => S g ∧ g < w.heap.size) w' a (a1, a2, a3)) => ha _ (a1, a2, a3) w' h)
    have IB := hide (fun w' (h : Kids (fun g => S g ∧ g < w.heap.size) w' b (b1, b2, b3)) => hb _ (b1, b2, b3) w' h)
    have TE := hide (fun w' (h : Kids (fun g => S g ∧ g < w.heap.size) w' a (a1, a2, a3)) => s_te a _ (a1, a2, a3) w' h)
    replace hKa := Kids.mono (S' := fun g => S g ∧ g < w.heap.size) (fun g h hg => ⟨hg, h⟩) _ _ hKa
    replace hKb := Kids.mono (S' := fun g => S g ∧ g < w.heap.size) (fun g h hg => ⟨hg, h⟩) _ _ hKb
    clear ha hb
    have hF : a.te = false → Re.der n (.thn a b) = .thn (a.der n) b := fun h => by simp [Re.der, h]
    have hT : a.te = true → Re.der n (.thn a b) = .alt (.thn (a.der n) b) (b.der n) := fun h => by simp [Re.der, h]
    generalize Re.der n (.thn a b) = RR at *
    replace hF := hide hF
    replace hT := hide hT
    simp only [tv, Re.kind, Re.num]
    have hZ : Below w.heap.size w (((w.alloc (.cells #[.int .i64 5, .int .i64 0, .slice (some ⟨g, 0, none⟩) 2 c] 66)).alloc (.cells #[.int .i64 0, .int .i64 0, .slice none 0 0] 66)).alloc (.cells #[.int .i64 1, .int .i64 0, .slice none 0 0] 66)) := below_box3 (Below.refl _ _)
    have M0 := ((Mut.new w #[.int .i64 5, .int .i64 0, .slice (some ⟨g, 0, none⟩) 2 c] 66).alloc (.cells #[.int .i64 0, .int .i64 0, .slice none 0 0] 66)).alloc (.cells #[.int .i64 1, .int .i64 0, .slice none 0 0] 66)
    have M1 := (Mut.new (w.alloc (.cells #[.int .i64 5, .int .i64 0, .slice (some ⟨g, 0, none⟩) 2 c] 66)) #[.int .i64 0, .int .i64 0, .slice none 0 0] 66).alloc (.cells #[.int .i64 1, .int .i64 0, .slice none 0 0] 66)
    rw [show (w.alloc (.cells #[.int .i64 5, .int .i64 0, .slice (some ⟨g, 0, none⟩) 2 c] 66)).heap.size = w.heap.size + 1 by simp] at M1
    have hZs : (((w.alloc (.cells #[.int .i64 5, .int .i64 0, .slice (some ⟨g, 0, none⟩) 2 c] 66)).alloc (.cells #[.int .i64 0, .int .i64 0, .slice none 0 0] 66)).alloc (.cells #[.int .i64 1, .int .i64 0, .slice none 0 0] 66)).heap.size = w.heap.size + 1 + 1 + 1 := by simp
    go_enter Try.func59, Try.ntmps59
    go_wp2_with fail
    generalize hWZ : ((w.alloc (.cells #[.int .i64 5, .int .i64 0, .slice (some ⟨g, 0, none⟩) 2 c] 66)).alloc (.cells #[.int .i64 0, .int .i64 0, .slice none 0 0] 66)).alloc (.cells #[.int .i64 1, .int .i64 0, .slice none 0 0] 66) = Z at *
    clear hWZ
    replace hZs := hide hZs
    have hS : ∀ w' : World, Below Z.heap.size Z w' → w'.cell? ⟨w.heap.size, 2, none⟩ = some (.slice (some ⟨g, 0, none⟩) 2 c) ∧ w'.cell? ⟨g, 0, none⟩ = some (.int .i64 a.kind) ∧ w'.cell? ⟨g, 1, none⟩ = some (.int .i64 a.num) ∧ w'.cell? ⟨g, 2, none⟩ = some (.slice a1 a2 a3) ∧ w'.cell? ⟨g, 3, none⟩ = some (.int .i64 b.kind) ∧ w'.cell? ⟨g, 4, none⟩ = some (.int .i64 b.num) ∧ w'.cell? ⟨g, 5, none⟩ = some (.slice b1 b2 b3) := fun w' h => ⟨((M0.below h).2.1 2 _ rfl), ((hR.below (below_step hZ h)).one0).2.1, ((hR.below (below_step hZ h)).one0).2.2.1, ((hR.below (below_step hZ h)).one0).2.2.2, ((hR.below (below_step hZ h)).two0).1, ((hR.below (below_step hZ h)).two0).2.1, ((hR.below (below_step hZ h)).two0).2.2⟩
    have hgw := hR.lt
    have ng1 : ¬ g = w.heap.size + 1 := by omega
    obtain ⟨R0, R1, R2, R3, R4, R5, R6⟩ := hS Z (Below.refl _ _)
    have hZz : ∀ g, S g ∧ g < w.heap.size → g < Z.heap.size := fun g h => by have := hZ.size; omega
    go_cut [6] (fun b6 wx => ∃ bo : Nat, b6 = .pointer (some ⟨bo, 0, none⟩) ∧ FirstB (fun g => S g ∧ g < w.heap.size) Z wx bo (a.der n) b)
    case first =>
      have hZb : Below Z.heap.size Z (Z.alloc (.cells #[.int .i64 0, .int .i64 0, .slice none 0 0] 66)) := below_box (Below.refl _ _)
      have hMb := Mut.new Z #[.int .i64 0, .int .i64 0, .slice none 0 0] 66
      go_region_held3 (fun w' => w'.cell? ⟨w.heap.size, 2, none⟩ = some (.slice (some ⟨g, 0, none⟩) 2 c) ∧ w'.cell? ⟨g, 0, none⟩ = some (.int .i64 a.kind) ∧ w'.cell? ⟨g, 1, none⟩ = some (.int .i64 a.num) ∧ w'.cell? ⟨g, 2, none⟩ = some (.slice a1 a2 a3) ∧ w'.cell? ⟨g, 3, none⟩ = some (.int .i64 b.kind) ∧ w'.cell? ⟨g, 4, none⟩ = some (.int .i64 b.num) ∧ w'.cell? ⟨g, 5, none⟩ = some (.slice b1 b2 b3))
        (first | exact hS _ (Below.refl _ _) | exact hS _ (Below.refl _ _).drew | exact hS _ hbN | exact hS _ hbN.drew | exact hS _ hZb | exact hS _ hZb.drew | (refine hS _ ?_; first | exact hbN.alloc hbN.size _ | exact hbN.drew.alloc hbN.size _ | exact (hbN.alloc hbN.size _).alloc (by simp; exact Nat.le_succ_of_le hbN.size) _ | exact (hbN.drew.alloc hbN.size _).alloc (by simp; exact Nat.le_succ_of_le hbN.size) _ | exact ((((hbN.alloc hbN.size _).setCell (by simp) _).setCell (by simp) _).setCell (by simp) _) | exact ((((hbN.drew.alloc hbN.size _).setCell (by simp) _).setCell (by simp) _).setCell (by simp) _) | exact (((((hbN.alloc hbN.size _).alloc (by simp; exact Nat.le_succ_of_le hbN.size) _).setCell (by simp; exact hbN.size) _).setCell (by simp; exact hbN.size) _).setCell (by simp; exact hbN.size) _) | exact (((((hbN.drew.alloc hbN.size _).alloc (by simp; exact Nat.le_succ_of_le hbN.size) _).setCell (by simp; exact hbN.size) _).setCell (by simp; exact hbN.size) _).setCell (by simp; exact hbN.size) _)) | go_keep)
        ((first
          | (go_at_call 59; refine (IA.out _ (by first | exact (hKa.below hZ).below hZb | exact (hKa.below hZ).below hZb.drew)).mono ?_; rintro e N ⟨⟨x1', x2', x3'⟩, rfl, hKx0, hbN0⟩; have hMN := (by first | exact hMb.below hbN0 | exact hMb.drew.below hbN0); have hbN : Below Z.heap.size Z N := (by first | exact below_step hZb hbN0 | exact below_step hZb.drew hbN0); have hKx := Kids.mono (S' := fun g => (S g ∧ g < w.heap.size) ∨ Z.heap.size + 1 ≤ g) (fun g _ h => (by rcases h with h | h; exact .inl h; exact .inr (by (try simp at h); omega))) _ _ hKx0; have hKbN := (hKb.below hZ).below hbN; have y0 := fun o => (hMN.alloc o).2.1 0 _ rfl; have yd0 := fun o => (hMN.drew.alloc o).2.1 0 _ rfl; have f0 := fun o => (hMN.alloc o).2.2 0 (by simp); have fd0 := fun o => (hMN.drew.alloc o).2.2 0 (by simp); have y1 := fun o => (hMN.alloc o).2.1 1 _ rfl; have yd1 := fun o => (hMN.drew.alloc o).2.1 1 _ rfl; have f1 := fun o => (hMN.alloc o).2.2 1 (by simp); have fd1 := fun o => (hMN.drew.alloc o).2.2 1 (by simp); have y2 := fun o => (hMN.alloc o).2.1 2 _ rfl; have yd2 := fun o => (hMN.drew.alloc o).2.1 2 _ rfl; have f2 := fun o => (hMN.alloc o).2.2 2 (by simp); have fd2 := fun o => (hMN.drew.alloc o).2.2 2 (by simp); clear hbN0 hKx0)
          | (go_at_call 59; refine (IA.out _ (by first | exact hKa.below hZ | exact (hKa.below hZ).below (Below.refl _ _).drew)).mono ?_; rintro e N ⟨⟨x1', x2', x3'⟩, rfl, hKx0, hbN0⟩; have hbN : Below Z.heap.size Z N := (by first | exact hbN0 | exact (Below.refl _ _).drew.trans hbN0); have hKx := Kids.mono (S' := fun g => (S g ∧ g < w.heap.size) ∨ Z.heap.size ≤ g) (fun g _ h => (by rcases h with h | h; exact .inl h; exact .inr (by (try simp at h); omega))) _ _ hKx0; have hKbN := (hKb.below hZ).below hbN; have MZ := fun o => (Mut.new N #[.int .i64 0, .int .i64 0, .slice none 0 0] 66).alloc o; have MY := fun o => (show Mut (N.drew.alloc (.cells #[.int .i64 0, .int .i64 0, .slice none 0 0] 66)) N.heap.size [.int .i64 0, .int .i64 0, .slice none 0 0] from Mut.new N.drew #[.int .i64 0, .int .i64 0, .slice none 0 0] 66).alloc o; have p0 := fun o => (MZ o).2.1 0 _ rfl; have q0 := fun o => (MZ o).2.2 0 (by simp); have r0 := fun o => (MY o).2.1 0 _ rfl; have s0 := fun o => (MY o).2.2 0 (by simp); have p1 := fun o => (MZ o).2.1 1 _ rfl; have q1 := fun o => (MZ o).2.2 1 (by simp); have r1 := fun o => (MY o).2.1 1 _ rfl; have s1 := fun o => (MY o).2.2 1 (by simp); have p2 := fun o => (MZ o).2.1 2 _ rfl; have q2 := fun o => (MZ o).2.2 2 (by simp); have r2 := fun o => (MY o).2.1 2 _ rfl; have s2 := fun o => (MY o).2.2 2 (by simp); clear MZ MY; clear hbN0 hKx0)))
      all_goals (try go_wp2_with fail)
      all_goals go_meet
      all_goals (first
        | (have hq := hMN; refine ⟨Z.heap.size, rfl, ?_⟩; first | exact firstB_1 (kx := (x1', x2', x3')) (ky := (b1, b2, b3)) hZz hbN hMN hKx hKbN | exact (firstB_1 (kx := (x1', x2', x3')) (ky := (b1, b2, b3)) hZz hbN hMN hKx hKbN).drew | exact firstB_1 (kx := (x1', x2', x3')) (ky := (b1, b2, b3)) hZz hbN.drew hMN.drew (hKx.below (Below.refl _ _).drew) (hKbN.below (Below.refl _ _).drew))
        | (refine ⟨N.heap.size + 1, rfl, ?_⟩; first | exact firstB_3 (kx := (x1', x2', x3')) (ky := (b1, b2, b3)) hbN hKx hKbN | exact (firstB_3 (kx := (x1', x2', x3')) (ky := (b1, b2, b3)) hbN hKx hKbN).drew | exact firstB_3 (kx := (x1', x2', x3')) (ky := (b1, b2, b3)) hbN.drew (hKx.below (Below.refl _ _).drew) (hKbN.below (Below.refl _ _).drew))
        | (refine ⟨N.heap.size, rfl, ?_⟩; first | exact firstB_2 (kx := (x1', x2', x3')) (ky := (b1, b2, b3)) hbN hKx hKbN | exact (firstB_2 (kx := (x1', x2', x3')) (ky := (b1, b2, b3)) hbN hKx hKbN).drew | exact firstB_2 (kx := (x1', x2', x3')) (ky := (b1, b2, b3)) hbN.drew (hKx.below (Below.refl _ _).drew) (hKbN.below (Below.refl _ _).drew)))
    case rest =>
      obtain ⟨bo, rfl, ⟨k1, k2, k3⟩, ML, hKf, dL, hbo⟩ := hcut
      have hzs := hZs.out
      have dA := hZ.trans (dL.mono hZ.size)
      have hKf' := hide (Kids.mono (S' := fun g => (S g ∧ g < w.heap.size) ∨ w.heap.size + 1 + 1 + 1 ≤ g) (fun g _ h => by rcases h with h | h; exact .inl h; exact .inr (by omega)) _ _ hKf)
      have hnb : ¬ bo = w.heap.size + 1 := by omega
      clear R0 R1 R2 R3 R4 R5 R6 hKf
      obtain ⟨R0, R1, R2, R3, R4, R5, R6⟩ := hS _ dL
      replace dA := hide dA
      clear hzs hbo
      cases gt : a.te with
      | false =>
        rw [gt] at TE
        have hres := hide (hF.out gt)
        clear hF hT gt IA IB R4 R5 R6
        go_wp2_with fail
        refine (TE.out _ ((hKa.below hZ).below dL)).mono ?_
        rintro e w2 ⟨rfl, bb2⟩
        have ML2 := ML.below bb2
        have MR2 := (M1.below dL).below bb2
        have x0 := ML2.2.1 0 _ rfl
        have x1 := ML2.2.1 1 _ rfl
        have x2 := ML2.2.1 2 _ rfl
        have y0 := MR2.2.1 0 _ rfl
        have y1 := MR2.2.1 1 _ rfl
        have y2 := MR2.2.1 2 _ rfl
        have f0 := MR2.2.2 0 (by simp)
        have f1 := MR2.2.2 1 (by simp)
        have f2 := MR2.2.2 2 (by simp)
        have d2 := hide (dA.out.trans (bb2.mono dA.out.size))
        have k2' := hide (Kids.mono (S' := fun g => (S g ∧ g < w.heap.size) ∨ w.heap.size + 1 + 1 ≤ g) (fun g _ h => by rcases h with h | h; exact .inl h; exact .inr (by omega)) _ _ (hKf'.out.below bb2))
        clear ML2 MR2 bb2 R0 R1 R2 R3
        go_wp2_with fail
        refine bodyPost_ret (v := .agg #[.int .i64 5, .int .i64 0, .slice k1 k2 k3]) (by simp [results, Try.results59, go_sem, y0, y1, y2]) rfl ?_
        rw [hres.out]
        exact derive_end k2'.out d2.out
      | true =>
        rw [gt] at TE
        have hres := hide (hT.out gt)
        clear hF hT gt IA
        go_wp2_with fail
        refine (TE.out _ ((hKa.below hZ).below dL)).mono ?_
        rintro e w2 ⟨rfl, bb2⟩
        have hKbW := (((hKb.below hZ).below dL).below bb2)
        have hS2 : ∀ w' : World, Below w2.heap.size w2 w' → w'.cell? ⟨w.heap.size, 2, none⟩ = some (.slice (some ⟨g, 0, none⟩) 2 c) ∧ w'.cell? ⟨g, 3, none⟩ = some (.int .i64 b.kind) ∧ w'.cell? ⟨g, 4, none⟩ = some (.int .i64 b.num) ∧ w'.cell? ⟨g, 5, none⟩ = some (.slice b1 b2 b3) ∧ w'.cell? ⟨bo, 0, none⟩ = some (.int .i64 5) ∧ w'.cell? ⟨bo, 1, none⟩ = some (.int .i64 0) ∧ w'.cell? ⟨bo, 2, none⟩ = some (.slice k1 k2 k3) := fun w' h =>
          have h1 := hS w' (below_step (below_step dL bb2) h)
          have h2 := (ML.below bb2).below h
          ⟨h1.1, h1.2.2.2.2.1, h1.2.2.2.2.2.1, h1.2.2.2.2.2.2, h2.2.1 0 _ rfl, h2.2.1 1 _ rfl, h2.2.1 2 _ rfl⟩
        have hz2 := bb2.size
        have hzL := dL.size
        have hzZ := hZ.size
        have hbl := ML.1
        have hSx : ∀ (w' : World) (x y z : Value), Below w2.heap.size w2 w' → (((w'.setCell ⟨w.heap.size + 1, 0, none⟩ x).setCell ⟨w.heap.size + 1, 1, none⟩ y).setCell ⟨w.heap.size + 1, 2, none⟩ z).cell? ⟨w.heap.size, 2, none⟩ = some (.slice (some ⟨g, 0, none⟩) 2 c) ∧ (((w'.setCell ⟨w.heap.size + 1, 0, none⟩ x).setCell ⟨w.heap.size + 1, 1, none⟩ y).setCell ⟨w.heap.size + 1, 2, none⟩ z).cell? ⟨g, 3, none⟩ = some (.int .i64 b.kind) ∧ (((w'.setCell ⟨w.heap.size + 1, 0, none⟩ x).setCell ⟨w.heap.size + 1, 1, none⟩ y).setCell ⟨w.heap.size + 1, 2, none⟩ z).cell? ⟨g, 4, none⟩ = some (.int .i64 b.num) ∧ (((w'.setCell ⟨w.heap.size + 1, 0, none⟩ x).setCell ⟨w.heap.size + 1, 1, none⟩ y).setCell ⟨w.heap.size + 1, 2, none⟩ z).cell? ⟨g, 5, none⟩ = some (.slice b1 b2 b3) ∧ (((w'.setCell ⟨w.heap.size + 1, 0, none⟩ x).setCell ⟨w.heap.size + 1, 1, none⟩ y).setCell ⟨w.heap.size + 1, 2, none⟩ z).cell? ⟨bo, 0, none⟩ = some (.int .i64 5) ∧ (((w'.setCell ⟨w.heap.size + 1, 0, none⟩ x).setCell ⟨w.heap.size + 1, 1, none⟩ y).setCell ⟨w.heap.size + 1, 2, none⟩ z).cell? ⟨bo, 1, none⟩ = some (.int .i64 0) ∧ (((w'.setCell ⟨w.heap.size + 1, 0, none⟩ x).setCell ⟨w.heap.size + 1, 1, none⟩ y).setCell ⟨w.heap.size + 1, 2, none⟩ z).cell? ⟨bo, 2, none⟩ = some (.slice k1 k2 k3) := by
          intro w' x y z h
          have hon : Only (w.heap.size + 1) w' (((w'.setCell ⟨w.heap.size + 1, 0, none⟩ x).setCell ⟨w.heap.size + 1, 1, none⟩ y).setCell ⟨w.heap.size + 1, 2, none⟩ z) := (((Only.refl _ _).setCell _ _).setCell _ _).setCell _ _
          have hz' := h.size
          have hq := hZs.out
          obtain ⟨q0, q1, q2, q3, q4, q5, q6⟩ := hS2 w' h
          exact ⟨(hon.cell (by omega) (by omega)).trans q0, (hon.cell (by omega) (by omega)).trans q1, (hon.cell (by omega) (by omega)).trans q2, (hon.cell (by omega) (by omega)).trans q3, (hon.cell (by omega) (by omega)).trans q4, (hon.cell (by omega) (by omega)).trans q5, (hon.cell (by omega) (by omega)).trans q6⟩
        have hzz := hZs.out
        have hMr := (M1.below dL).below bb2
        have d2 := hide (dA.out.trans (bb2.mono dA.out.size))
        replace hzz := hide hzz
        clear R0 R1 R2 R3 R4 R5 R6
        obtain ⟨Q0, Q1, Q2, Q3, Q4, Q5, Q6⟩ := hS2 w2 (Below.refl _ _)
        go_wp2_with fail
        go_region_held3 (fun w' => w'.cell? ⟨w.heap.size, 2, none⟩ = some (.slice (some ⟨g, 0, none⟩) 2 c) ∧ w'.cell? ⟨g, 3, none⟩ = some (.int .i64 b.kind) ∧ w'.cell? ⟨g, 4, none⟩ = some (.int .i64 b.num) ∧ w'.cell? ⟨g, 5, none⟩ = some (.slice b1 b2 b3) ∧ w'.cell? ⟨bo, 0, none⟩ = some (.int .i64 5) ∧ w'.cell? ⟨bo, 1, none⟩ = some (.int .i64 0) ∧ w'.cell? ⟨bo, 2, none⟩ = some (.slice k1 k2 k3))
          (first | exact hS2 _ (Below.refl _ _) | exact hS2 _ (Below.refl _ _).drew | exact hS2 _ hbM | exact hS2 _ hbM.drew | exact hS2 _ (hMx 0 _) | exact hS2 _ (hMx 1 _) | (refine hSx _ _ _ _ ?_; first | exact hbM.alloc hbM.size _ | exact hbM.drew.alloc hbM.size _ | exact (hbM.alloc hbM.size _).drew) | go_keep)
          ((go_at_call 59; refine (IB.out _ (by first | exact hKbW | exact hKbW.below (Below.refl _ _).drew)).mono ?_; rintro e M ⟨⟨y1', y2', y3'⟩, rfl, hKy0, hbM0⟩; have hbM : Below w2.heap.size w2 M := (by first | exact hbM0 | exact (Below.refl _ _).drew.trans hbM0); have hKy := hide (Kids.mono (S' := fun g => (S g ∧ g < w.heap.size) ∨ w.heap.size + 1 + 1 ≤ g) (fun g _ h => (by rcases h with h | h; exact .inl h; exact .inr (by have := hzz.out; (try simp at h); omega))) _ _ hKy0); have hMx := lo_boxQ' hbM; have hzM := hbM.size; have MM := hMr.below hbM; have y0 := fun o => (MM.alloc o).2.1 0 _ rfl; have yd0 := fun o => (MM.drew.alloc o).2.1 0 _ rfl; have y1 := fun o => (MM.alloc o).2.1 1 _ rfl; have yd1 := fun o => (MM.drew.alloc o).2.1 1 _ rfl; have y2 := fun o => (MM.alloc o).2.1 2 _ rfl; have yd2 := fun o => (MM.drew.alloc o).2.1 2 _ rfl; have f0 := fun o => (MM.alloc o).2.2 0 (by simp); have fd0 := fun o => (MM.drew.alloc o).2.2 0 (by simp); have f1 := fun o => (MM.alloc o).2.2 1 (by simp); have fd1 := fun o => (MM.drew.alloc o).2.2 1 (by simp); have f2 := fun o => (MM.alloc o).2.2 2 (by simp); have fd2 := fun o => (MM.drew.alloc o).2.2 2 (by simp); clear MM; clear hKy0 hbM0))
        have hzo := hzz.out
        go_wp2_with fail
        refine bodyPost_ret (v := .agg #[.int .i64 6, .int .i64 0, .slice (some ⟨M.heap.size, 0, none⟩) 2 2]) (by simp [results, Try.results59, go_sem, *]) rfl ?_
        have bb1 : Below M.heap.size M (M.alloc (.cells (twoC (.thn (a.der n) b) (b.der n) (k1, k2, k3) (y1', y2', y3')) 66)) := below_box (Below.refl _ _)
        have hKfM := Kids.mono (S' := fun g => (S g ∧ g < w.heap.size) ∨ w.heap.size + 1 + 1 ≤ g) (fun g _ h => by rcases h with h | h; exact .inl h; exact .inr (by omega)) _ _ ((hKf'.out.below bb2).below hbM)
        have kt := (kids_two (.thn (a.der n) b) (b.der n) (k1, k2, k3) (y1', y2', y3') (hKfM.below bb1) (hKy.out.below bb1) (.inr (by omega)) (Mut.new M _ _)).2
        have hbw := (d2.out.trans (hbM.mono d2.out.size)).trans (bb1.mono (by have := d2.out.size; omega))
        rw [hres.out]
        first
          | exact derive_end kt hbw
          | exact derive_end (kt.below (Below.refl _ _).drew) hbw.drew
end Go.Proofs.Ytdbaonpkdcmglaa
