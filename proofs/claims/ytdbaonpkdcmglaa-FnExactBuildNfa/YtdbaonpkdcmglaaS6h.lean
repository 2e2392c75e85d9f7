/- What the specification's l6Tidy answers. -/
import Derived.Test.YtdbaonpkdcmglaaS6g
namespace Go.Proofs.Ytdbaonpkdcmglaa
open Go.RowKit

/-- Trees in a list of one's own behind block tb. -/
def KidsOwn (tb : Nat) (ts : List Re) (x : Value) (w : World) : Prop := ∃ KL, OwnK (tb + 1) x KL w ∧ Trees (Off tb x) w ts KL ∧ (ts ≠ [] ∨ x = .slice none 0 0)
theorem KidsOwn.nil (tb : Nat) (w : World) : KidsOwn tb [] (.slice none 0 0) w := ⟨[], ownK_nil _ _, trivial, .inr rfl⟩
theorem KidsOwn.app {tb : Nat} {ts : List Re} {t : Re} {k : Option Addr × Nat × Nat} {x v' : Value} {KL : List Kd} {W w5 : World} (hT : Trees (Off tb x) W ts KL) (hK : Kids (Off tb x) W t k) (hg : GrowK W w5 x v') (ho : OwnK (tb + 1) v' (KL ++ [(t.kind, t.num, k)]) w5) : KidsOwn tb (ts ++ [t]) v' w5 :=
  ⟨_, ho, trees_grow (hT.snoc hK) hg, .inl (by simp)⟩
theorem KidsOwn.mk {tb : Nat} (k n : Int) {ts : List Re} {x : Value} {w : World} (h : KidsOwn tb ts x w) (hl : ts.length = arN k) : ∃ kk : Option Addr × Nat × Nat, x = .slice kk.1 kk.2.1 kk.2.2 ∧ Kids (fun g => tb < g) w (mkT k n ts) kk := by
  obtain ⟨KL, ho, hT, hn⟩ := h
  exact kids_mk k n hl hT ho (fun e => by rcases hn with h | h; exact absurd e h; exact h) (fun g _ hg => hg.1) (fun g hg => by have := (ownK_blk ho hg).1; omega)
set_option maxRecDepth 100000 in
set_option maxHeartbeats 6400000 in
theorem s_tidy (t : Re) : ∀ (S : Nat → Prop) (k : Option Addr × Nat × Nat) (w : World), Kids S w t k → Calls Try.prog 55 #[tv t k] w (MakeA (fun g => w.heap.size ≤ g) t.tidy w) := by
  induction t with
  | non =>
    rintro S k w rfl
    simp only [tv, Re.kind, Re.num, Re.tidy]
    have M0 := (Mut.new w #[.int .i64 1, .int .i64 0, .slice none 0 0] 66).alloc (.cells #[.int .i64 0, .int .i64 0, .slice none 0 0] 66)
    have M1 := Mut.new (w.alloc (.cells #[.int .i64 1, .int .i64 0, .slice none 0 0] 66)) #[.int .i64 0, .int .i64 0, .slice none 0 0] 66
    rw [show (w.alloc (.cells #[.int .i64 1, .int .i64 0, .slice none 0 0] 66)).heap.size = w.heap.size + 1 by simp] at M1
    have hW : Below w.heap.size w ((w.alloc (.cells #[.int .i64 1, .int .i64 0, .slice none 0 0] 66)).alloc (.cells #[.int .i64 0, .int .i64 0, .slice none 0 0] 66)) := below_box2 (Below.refl _ _)
    replace M0 := hide M0
    replace M1 := hide M1
    replace hW := hide hW
    go_enter Try.func55, Try.ntmps55
    go_wp2_with fail
    go_loopw [3, 9] (fun x y wr => (y = .int .i64 0 ∧ KidsOwn (w.heap.size + 1) [] x wr) ∧ Mut wr w.heap.size [.int .i64 1, .int .i64 0, .slice none 0 0] ∧ Mut wr (w.heap.size + 1) [.int .i64 0, .int .i64 0, .slice none 0 0] ∧ Below w.heap.size w wr) (fun _ y _ => 0 - (intOf y).toNat)
    case atStart => exact ⟨⟨rfl, KidsOwn.nil _ _⟩, M0.out, M1.out, hW.out⟩
    case round =>
      obtain ⟨⟨rfl, hko⟩, N0, N1, hbw⟩ := hrel
      obtain ⟨kk, rfl, hKt⟩ := hko.mk 1 0 rfl
      obtain ⟨k1, k2, k3⟩ := kk
      have SM := hide (fun w' (h : Kids (fun g => w.heap.size + 1 < g) w' (.non) (k1, k2, k3)) => s_make (.non) _ (k1, k2, k3) w' h)
      have u0 := N0.2.1 0 _ rfl
      have u1 := N0.2.1 1 _ rfl
      go_wp2_with fail
      refine (SM.out _ hKt).mono ?_
      rintro e w8 ⟨⟨y1, y2, y3⟩, rfl, hK8, b8⟩
      replace hK8 : Kids (fun g => w.heap.size + 1 < g) w8 Re.non (y1, y2, y3) := hK8
      have N1 := N1.below b8
      have v0 := N1.2.1 0 _ rfl
      have v1 := N1.2.1 1 _ rfl
      have v2 := N1.2.1 2 _ rfl
      have f0 := N1.2.2 0 (by simp)
      have f1 := N1.2.2 1 (by simp)
      have f2 := N1.2.2 2 (by simp)
      have d8 := hbw.trans (b8.mono hbw.size)
      replace d8 := hide d8
      replace hK8 := hide hK8
      clear N0 N1 u0 u1 b8 hko hKt
      simp only [mk1]
      generalize hrr : Re.non = r at *
      replace hrr := hide hrr
      go_wp2_with fail
      refine bodyPost_ret (v := .agg #[.int .i64 r.kind, .int .i64 r.num, .slice y1 y2 y3]) (by simp [results, Try.results55, go_sem, v0, v1, v2]) rfl ?_
      rw [hrr.out]
      have hon : Only (w.heap.size + 1) w8 (((w8.setCell ⟨w.heap.size + 1, 0, none⟩ (.int .i64 r.kind)).setCell ⟨w.heap.size + 1, 1, none⟩ (.int .i64 r.num)).setCell ⟨w.heap.size + 1, 2, none⟩ (.slice y1 y2 y3)) := (((Only.refl _ _).setCell _ _).setCell _ _).setCell _ _
      exact ⟨(y1, y2, y3), rfl, Kids.mono (S := fun g => w.heap.size + 1 < g) (S' := fun g => w.heap.size ≤ g) (fun g _ hg => by omega) _ _ (Kids.move ⟨hon.2.2.2.1, fun g _ hg hb => hon.cell hb (by omega)⟩ _ _ hK8.out), ((d8.out.setCell (by simp) _).setCell (by simp) _).setCell (by simp) _⟩
  | emp =>
    rintro S k w rfl
    simp only [tv, Re.kind, Re.num, Re.tidy]
    have M0 := (Mut.new w #[.int .i64 2, .int .i64 0, .slice none 0 0] 66).alloc (.cells #[.int .i64 0, .int .i64 0, .slice none 0 0] 66)
    have M1 := Mut.new (w.alloc (.cells #[.int .i64 2, .int .i64 0, .slice none 0 0] 66)) #[.int .i64 0, .int .i64 0, .slice none 0 0] 66
    rw [show (w.alloc (.cells #[.int .i64 2, .int .i64 0, .slice none 0 0] 66)).heap.size = w.heap.size + 1 by simp] at M1
    have hW : Below w.heap.size w ((w.alloc (.cells #[.int .i64 2, .int .i64 0, .slice none 0 0] 66)).alloc (.cells #[.int .i64 0, .int .i64 0, .slice none 0 0] 66)) := below_box2 (Below.refl _ _)
    replace M0 := hide M0
    replace M1 := hide M1
    replace hW := hide hW
    go_enter Try.func55, Try.ntmps55
    go_wp2_with fail
    go_loopw [3, 9] (fun x y wr => (y = .int .i64 0 ∧ KidsOwn (w.heap.size + 1) [] x wr) ∧ Mut wr w.heap.size [.int .i64 2, .int .i64 0, .slice none 0 0] ∧ Mut wr (w.heap.size + 1) [.int .i64 0, .int .i64 0, .slice none 0 0] ∧ Below w.heap.size w wr) (fun _ y _ => 0 - (intOf y).toNat)
    case atStart => exact ⟨⟨rfl, KidsOwn.nil _ _⟩, M0.out, M1.out, hW.out⟩
    case round =>
      obtain ⟨⟨rfl, hko⟩, N0, N1, hbw⟩ := hrel
      obtain ⟨kk, rfl, hKt⟩ := hko.mk 2 0 rfl
      obtain ⟨k1, k2, k3⟩ := kk
      have SM := hide (fun w' (h : Kids (fun g => w.heap.size + 1 < g) w' (.emp) (k1, k2, k3)) => s_make (.emp) _ (k1, k2, k3) w' h)
      have u0 := N0.2.1 0 _ rfl
      have u1 := N0.2.1 1 _ rfl
      go_wp2_with fail
      refine (SM.out _ hKt).mono ?_
      rintro e w8 ⟨⟨y1, y2, y3⟩, rfl, hK8, b8⟩
      replace hK8 : Kids (fun g => w.heap.size + 1 < g) w8 Re.emp (y1, y2, y3) := hK8
      have N1 := N1.below b8
      have v0 := N1.2.1 0 _ rfl
      have v1 := N1.2.1 1 _ rfl
      have v2 := N1.2.1 2 _ rfl
      have f0 := N1.2.2 0 (by simp)
      have f1 := N1.2.2 1 (by simp)
      have f2 := N1.2.2 2 (by simp)
      have d8 := hbw.trans (b8.mono hbw.size)
      replace d8 := hide d8
      replace hK8 := hide hK8
      clear N0 N1 u0 u1 b8 hko hKt
      simp only [mk1]
      generalize hrr : Re.emp = r at *
      replace hrr := hide hrr
      go_wp2_with fail
      refine bodyPost_ret (v := .agg #[.int .i64 r.kind, .int .i64 r.num, .slice y1 y2 y3]) (by simp [results, Try.results55, go_sem, v0, v1, v2]) rfl ?_
      rw [hrr.out]
      have hon : Only (w.heap.size + 1) w8 (((w8.setCell ⟨w.heap.size + 1, 0, none⟩ (.int .i64 r.kind)).setCell ⟨w.heap.size + 1, 1, none⟩ (.int .i64 r.num)).setCell ⟨w.heap.size + 1, 2, none⟩ (.slice y1 y2 y3)) := (((Only.refl _ _).setCell _ _).setCell _ _).setCell _ _
      exact ⟨(y1, y2, y3), rfl, Kids.mono (S := fun g => w.heap.size + 1 < g) (S' := fun g => w.heap.size ≤ g) (fun g _ hg => by omega) _ _ (Kids.move ⟨hon.2.2.2.1, fun g _ hg hb => hon.cell hb (by omega)⟩ _ _ hK8.out), ((d8.out.setCell (by simp) _).setCell (by simp) _).setCell (by simp) _⟩
  | one n =>
    rintro S k w rfl
    simp only [tv, Re.kind, Re.num, Re.tidy]
    have M0 := (Mut.new w #[.int .i64 3, .int .i64 n, .slice none 0 0] 66).alloc (.cells #[.int .i64 0, .int .i64 0, .slice none 0 0] 66)
    have M1 := Mut.new (w.alloc (.cells #[.int .i64 3, .int .i64 n, .slice none 0 0] 66)) #[.int .i64 0, .int .i64 0, .slice none 0 0] 66
    rw [show (w.alloc (.cells #[.int .i64 3, .int .i64 n, .slice none 0 0] 66)).heap.size = w.heap.size + 1 by simp] at M1
    have hW : Below w.heap.size w ((w.alloc (.cells #[.int .i64 3, .int .i64 n, .slice none 0 0] 66)).alloc (.cells #[.int .i64 0, .int .i64 0, .slice none 0 0] 66)) := below_box2 (Below.refl _ _)
    replace M0 := hide M0
    replace M1 := hide M1
    replace hW := hide hW
    go_enter Try.func55, Try.ntmps55
    go_wp2_with fail
    go_loopw [3, 9] (fun x y wr => (y = .int .i64 0 ∧ KidsOwn (w.heap.size + 1) [] x wr) ∧ Mut wr w.heap.size [.int .i64 3, .int .i64 n, .slice none 0 0] ∧ Mut wr (w.heap.size + 1) [.int .i64 0, .int .i64 0, .slice none 0 0] ∧ Below w.heap.size w wr) (fun _ y _ => 0 - (intOf y).toNat)
    case atStart => exact ⟨⟨rfl, KidsOwn.nil _ _⟩, M0.out, M1.out, hW.out⟩
    case round =>
      obtain ⟨⟨rfl, hko⟩, N0, N1, hbw⟩ := hrel
      obtain ⟨kk, rfl, hKt⟩ := hko.mk 3 n rfl
      obtain ⟨k1, k2, k3⟩ := kk
      have SM := hide (fun w' (h : Kids (fun g => w.heap.size + 1 < g) w' (.one n) (k1, k2, k3)) => s_make (.one n) _ (k1, k2, k3) w' h)
      have u0 := N0.2.1 0 _ rfl
      have u1 := N0.2.1 1 _ rfl
      go_wp2_with fail
      refine (SM.out _ hKt).mono ?_
      rintro e w8 ⟨⟨y1, y2, y3⟩, rfl, hK8, b8⟩
      replace hK8 : Kids (fun g => w.heap.size + 1 < g) w8 (Re.one n) (y1, y2, y3) := hK8
      have N1 := N1.below b8
      have v0 := N1.2.1 0 _ rfl
      have v1 := N1.2.1 1 _ rfl
      have v2 := N1.2.1 2 _ rfl
      have f0 := N1.2.2 0 (by simp)
      have f1 := N1.2.2 1 (by simp)
      have f2 := N1.2.2 2 (by simp)
      have d8 := hbw.trans (b8.mono hbw.size)
      replace d8 := hide d8
      replace hK8 := hide hK8
      clear N0 N1 u0 u1 b8 hko hKt
      simp only [mk1]
      generalize hrr : (Re.one n) = r at *
      replace hrr := hide hrr
      go_wp2_with fail
      refine bodyPost_ret (v := .agg #[.int .i64 r.kind, .int .i64 r.num, .slice y1 y2 y3]) (by simp [results, Try.results55, go_sem, v0, v1, v2]) rfl ?_
      rw [hrr.out]
      have hon : Only (w.heap.size + 1) w8 (((w8.setCell ⟨w.heap.size + 1, 0, none⟩ (.int .i64 r.kind)).setCell ⟨w.heap.size + 1, 1, none⟩ (.int .i64 r.num)).setCell ⟨w.heap.size + 1, 2, none⟩ (.slice y1 y2 y3)) := (((Only.refl _ _).setCell _ _).setCell _ _).setCell _ _
      exact ⟨(y1, y2, y3), rfl, Kids.mono (S := fun g => w.heap.size + 1 < g) (S' := fun g => w.heap.size ≤ g) (fun g _ hg => by omega) _ _ (Kids.move ⟨hon.2.2.2.1, fun g _ hg hb => hon.cell hb (by omega)⟩ _ _ hK8.out), ((d8.out.setCell (by simp) _).setCell (by simp) _).setCell (by simp) _⟩
  | any =>
    rintro S k w rfl
    simp only [tv, Re.kind, Re.num, Re.tidy]
    have M0 := (Mut.new w #[.int .i64 4, .int .i64 0, .slice none 0 0] 66).alloc (.cells #[.int .i64 0, .int .i64 0, .slice none 0 0] 66)
    have M1 := Mut.new (w.alloc (.cells #[.int .i64 4, .int .i64 0, .slice none 0 0] 66)) #[.int .i64 0, .int .i64 0, .slice none 0 0] 66
    rw [show (w.alloc (.cells #[.int .i64 4, .int .i64 0, .slice none 0 0] 66)).heap.size = w.heap.size + 1 by simp] at M1
    have hW : Below w.heap.size w ((w.alloc (.cells #[.int .i64 4, .int .i64 0, .slice none 0 0] 66)).alloc (.cells #[.int .i64 0, .int .i64 0, .slice none 0 0] 66)) := below_box2 (Below.refl _ _)
    replace M0 := hide M0
    replace M1 := hide M1
    replace hW := hide hW
    go_enter Try.func55, Try.ntmps55
    go_wp2_with fail
    go_loopw [3, 9] (fun x y wr => (y = .int .i64 0 ∧ KidsOwn (w.heap.size + 1) [] x wr) ∧ Mut wr w.heap.size [.int .i64 4, .int .i64 0, .slice none 0 0] ∧ Mut wr (w.heap.size + 1) [.int .i64 0, .int .i64 0, .slice none 0 0] ∧ Below w.heap.size w wr) (fun _ y _ => 0 - (intOf y).toNat)
    case atStart => exact ⟨⟨rfl, KidsOwn.nil _ _⟩, M0.out, M1.out, hW.out⟩
    case round =>
      obtain ⟨⟨rfl, hko⟩, N0, N1, hbw⟩ := hrel
      obtain ⟨kk, rfl, hKt⟩ := hko.mk 4 0 rfl
      obtain ⟨k1, k2, k3⟩ := kk
      have SM := hide (fun w' (h : Kids (fun g => w.heap.size + 1 < g) w' (.any) (k1, k2, k3)) => s_make (.any) _ (k1, k2, k3) w' h)
      have u0 := N0.2.1 0 _ rfl
      have u1 := N0.2.1 1 _ rfl
      go_wp2_with fail
      refine (SM.out _ hKt).mono ?_
      rintro e w8 ⟨⟨y1, y2, y3⟩, rfl, hK8, b8⟩
      replace hK8 : Kids (fun g => w.heap.size + 1 < g) w8 Re.any (y1, y2, y3) := hK8
      have N1 := N1.below b8
      have v0 := N1.2.1 0 _ rfl
      have v1 := N1.2.1 1 _ rfl
      have v2 := N1.2.1 2 _ rfl
      have f0 := N1.2.2 0 (by simp)
      have f1 := N1.2.2 1 (by simp)
      have f2 := N1.2.2 2 (by simp)
      have d8 := hbw.trans (b8.mono hbw.size)
      replace d8 := hide d8
      replace hK8 := hide hK8
      clear N0 N1 u0 u1 b8 hko hKt
      simp only [mk1]
      generalize hrr : Re.any = r at *
      replace hrr := hide hrr
      go_wp2_with fail
      refine bodyPost_ret (v := .agg #[.int .i64 r.kind, .int .i64 r.num, .slice y1 y2 y3]) (by simp [results, Try.results55, go_sem, v0, v1, v2]) rfl ?_
      rw [hrr.out]
      have hon : Only (w.heap.size + 1) w8 (((w8.setCell ⟨w.heap.size + 1, 0, none⟩ (.int .i64 r.kind)).setCell ⟨w.heap.size + 1, 1, none⟩ (.int .i64 r.num)).setCell ⟨w.heap.size + 1, 2, none⟩ (.slice y1 y2 y3)) := (((Only.refl _ _).setCell _ _).setCell _ _).setCell _ _
      exact ⟨(y1, y2, y3), rfl, Kids.mono (S := fun g => w.heap.size + 1 < g) (S' := fun g => w.heap.size ≤ g) (fun g _ hg => by omega) _ _ (Kids.move ⟨hon.2.2.2.1, fun g _ hg hb => hon.cell hb (by omega)⟩ _ _ hK8.out), ((d8.out.setCell (by simp) _).setCell (by simp) _).setCell (by simp) _⟩
  | thn a b ha hb =>
    rintro S k w ⟨g, c, ⟨a1, a2, a3⟩, ⟨b1, b2, b3⟩, rfl, hSg, hR, hKa, hKb⟩
    have IA := hide (fun w h => ha S (a1, a2, a3) w h)
    have IB := hide (fun w h => hb S (b1, b2, b3) w h)
    clear ha hb
    simp only [tv, Re.kind, Re.num, Re.tidy]
    have M0 := (Mut.new w #[.int .i64 5, .int .i64 0, .slice (some ⟨g, 0, none⟩) 2 c] 66).alloc (.cells #[.int .i64 0, .int .i64 0, .slice none 0 0] 66)
    have M1 := Mut.new (w.alloc (.cells #[.int .i64 5, .int .i64 0, .slice (some ⟨g, 0, none⟩) 2 c] 66)) #[.int .i64 0, .int .i64 0, .slice none 0 0] 66
    rw [show (w.alloc (.cells #[.int .i64 5, .int .i64 0, .slice (some ⟨g, 0, none⟩) 2 c] 66)).heap.size = w.heap.size + 1 by simp] at M1
    have hW : Below w.heap.size w ((w.alloc (.cells #[.int .i64 5, .int .i64 0, .slice (some ⟨g, 0, none⟩) 2 c] 66)).alloc (.cells #[.int .i64 0, .int .i64 0, .slice none 0 0] 66)) := below_box2 (Below.refl _ _)
    replace M0 := hide M0
    replace M1 := hide M1
    replace hW := hide hW
    go_enter Try.func55, Try.ntmps55
    go_wp2_with fail
    go_loopw [3, 9] (fun x y wr => (y = .int .i64 0 ∧ KidsOwn (w.heap.size + 1) [] x wr ∨ y = .int .i64 1 ∧ KidsOwn (w.heap.size + 1) [a.tidy] x wr ∨ y = .int .i64 2 ∧ KidsOwn (w.heap.size + 1) [a.tidy, b.tidy] x wr) ∧ Mut wr w.heap.size [.int .i64 5, .int .i64 0, .slice (some ⟨g, 0, none⟩) 2 c] ∧ Mut wr (w.heap.size + 1) [.int .i64 0, .int .i64 0, .slice none 0 0] ∧ Below w.heap.size w wr) (fun _ y _ => 2 - (intOf y).toNat)
    case atStart => exact ⟨.inl ⟨rfl, KidsOwn.nil _ _⟩, M0.out, M1.out, hW.out⟩
    case round =>
      obtain ⟨⟨rfl, hko⟩ | ⟨rfl, hko⟩ | ⟨rfl, hko⟩, N0, N1, hbw⟩ := hrel
      · obtain ⟨_, u0, u1, u2⟩ := (hR.below hbw).one0
        obtain ⟨KL, ho, hT, _⟩ := hko
        replace ho := hide ho
        replace hT := hide hT
        replace N0 := hide N0
        replace N1 := hide N1
        have hz1 := N1.out.1
        go_wp2_with fail
        refine (IA.out _ ((hKa.below hbw).below (below_box (Below.refl _ _)))).mono ?_
        rintro e w7 ⟨⟨x1, x2, x3⟩, rfl, hKx, b7⟩
        have d7 := below_box b7
        have dw := hbw.trans (d7.mono hbw.size)
        have b8 : Below w7.heap.size w7 (w7.alloc (.cells #[.int .i64 a.tidy.kind, .int .i64 a.tidy.num, .slice x1 x2 x3] 66)) := below_box (Below.refl _ _)
        have hO3 := ownK_below (ownK_below ho.out d7) b8
        have hM3 : RowK (some ⟨w7.heap.size, 0, none⟩) [(a.tidy.kind, a.tidy.num, x1, x2, x3)] (w7.alloc (.cells #[.int .i64 a.tidy.kind, .int .i64 a.tidy.num, .slice x1 x2 x3] 66)) := by
          have M := Mut.new w7 #[.int .i64 a.tidy.kind, .int .i64 a.tidy.num, .slice x1 x2 x3] 66
          exact RowK.one M.1 (M.2.1 0 _ rfl) (M.2.1 1 _ rfl) (M.2.1 2 _ rfl)
        have hz7 := d7.size
        have hW3 : w.heap.size + 1 + 1 ≤ (w7.alloc (.cells #[.int .i64 a.tidy.kind, .int .i64 a.tidy.num, .slice x1 x2 x3] 66)).heap.size := by simp; omega
        have hKL := hT.out.len
        have hKo : ∀ g', u3.ownBlock = some g' → g' < wr.heap.size := fun g' e => (ownK_blk ho.out e).2
        replace hO3 := hide hO3
        replace hM3 := hide hM3
        replace hW3 := hide hW3
        replace d7 := hide d7
        replace dw := hide dw
        replace b8 := hide b8
        replace hKx := hide hKx
        replace hKL := hide (show KL.length ≤ 8589934592 by simp only [List.length_nil] at hKL; omega)
        replace hKo := hide hKo
        clear u0 u1 u2 b7
        go_wp2_with (first | (at_builtin; refine wpList_app1K rfl _ _ rfl (w.heap.size + 1 + 1) u3 KL rfl hO3.out w7.heap.size (a.tidy.kind, a.tidy.num, x1, x2, x3) _ rfl hM3.out hKL.out hW3.out ?_))
        intro v9 w9 hown9 hgr
        have hb9 := hgr.below hO3.out hW3.out
        have P0 := ((N0.out.below d7.out).below b8.out).base (by omega) hb9
        have P1 := ((N1.out.below d7.out).below b8.out).base (by omega) hb9
        have hKf : KidsOwn (w.heap.size + 1) [a.tidy] v9 w9 := by
          refine KidsOwn.app (ts := []) (t := a.tidy) (k := (x1, x2, x3)) (W := (w7.alloc (.cells #[.int .i64 a.tidy.kind, .int .i64 a.tidy.num, .slice x1 x2 x3] 66))) ((hT.out.move (moves_below d7.out)).move (moves_below b8.out)) (Kids.mono (fun g' _ hg => ⟨by simp at hg; omega, fun e => by have := hKo.out g' e.symm; simp at hg; omega⟩) _ _ (hKx.out.below b8.out)) hgr hown9
        have d9 := (dw.out.trans (b8.out.mono (by omega))).trans (hb9.mono (by omega))
        replace hKf := hide hKf
        replace d9 := hide d9
        replace P0 := hide P0
        replace P1 := hide P1
        clear hown9 hgr hb9 hz7 hz1
        go_wp2_with fail
        exact ⟨⟨.inr (.inl ⟨rfl, hKf.out⟩), P0.out, P1.out, d9.out⟩, by simp [intOf]⟩
      · obtain ⟨u0, u1, u2⟩ := (hR.below hbw).two0
        obtain ⟨KL, ho, hT, _⟩ := hko
        replace ho := hide ho
        replace hT := hide hT
        replace N0 := hide N0
        replace N1 := hide N1
        have hz1 := N1.out.1
        go_wp2_with fail
        refine (IB.out _ ((hKb.below hbw).below (below_box (Below.refl _ _)))).mono ?_
        rintro e w7 ⟨⟨x1, x2, x3⟩, rfl, hKx, b7⟩
        have d7 := below_box b7
        have dw := hbw.trans (d7.mono hbw.size)
        have b8 : Below w7.heap.size w7 (w7.alloc (.cells #[.int .i64 b.tidy.kind, .int .i64 b.tidy.num, .slice x1 x2 x3] 66)) := below_box (Below.refl _ _)
        have hO3 := ownK_below (ownK_below ho.out d7) b8
        have hM3 : RowK (some ⟨w7.heap.size, 0, none⟩) [(b.tidy.kind, b.tidy.num, x1, x2, x3)] (w7.alloc (.cells #[.int .i64 b.tidy.kind, .int .i64 b.tidy.num, .slice x1 x2 x3] 66)) := by
          have M := Mut.new w7 #[.int .i64 b.tidy.kind, .int .i64 b.tidy.num, .slice x1 x2 x3] 66
          exact RowK.one M.1 (M.2.1 0 _ rfl) (M.2.1 1 _ rfl) (M.2.1 2 _ rfl)
        have hz7 := d7.size
        have hW3 : w.heap.size + 1 + 1 ≤ (w7.alloc (.cells #[.int .i64 b.tidy.kind, .int .i64 b.tidy.num, .slice x1 x2 x3] 66)).heap.size := by simp; omega
        have hKL := hT.out.len
        have hKo : ∀ g', u3.ownBlock = some g' → g' < wr.heap.size := fun g' e => (ownK_blk ho.out e).2
        replace hO3 := hide hO3
        replace hM3 := hide hM3
        replace hW3 := hide hW3
        replace d7 := hide d7
        replace dw := hide dw
        replace b8 := hide b8
        replace hKx := hide hKx
        replace hKL := hide (show KL.length ≤ 8589934592 by simp only [List.length_cons, List.length_nil] at hKL; omega)
        replace hKo := hide hKo
        clear u0 u1 u2 b7
        go_wp2_with (first | (at_builtin; refine wpList_app1K rfl _ _ rfl (w.heap.size + 1 + 1) u3 KL rfl hO3.out w7.heap.size (b.tidy.kind, b.tidy.num, x1, x2, x3) _ rfl hM3.out hKL.out hW3.out ?_))
        intro v9 w9 hown9 hgr
        have hb9 := hgr.below hO3.out hW3.out
        have P0 := ((N0.out.below d7.out).below b8.out).base (by omega) hb9
        have P1 := ((N1.out.below d7.out).below b8.out).base (by omega) hb9
        have hKf : KidsOwn (w.heap.size + 1) [a.tidy, b.tidy] v9 w9 := by
          refine KidsOwn.app (ts := [a.tidy]) (t := b.tidy) (k := (x1, x2, x3)) (W := (w7.alloc (.cells #[.int .i64 b.tidy.kind, .int .i64 b.tidy.num, .slice x1 x2 x3] 66))) ((hT.out.move (moves_below d7.out)).move (moves_below b8.out)) (Kids.mono (fun g' _ hg => ⟨by simp at hg; omega, fun e => by have := hKo.out g' e.symm; simp at hg; omega⟩) _ _ (hKx.out.below b8.out)) hgr hown9
        have d9 := (dw.out.trans (b8.out.mono (by omega))).trans (hb9.mono (by omega))
        replace hKf := hide hKf
        replace d9 := hide d9
        replace P0 := hide P0
        replace P1 := hide P1
        clear hown9 hgr hb9 hz7 hz1
        go_wp2_with fail
        exact ⟨⟨.inr (.inr ⟨rfl, hKf.out⟩), P0.out, P1.out, d9.out⟩, by simp [intOf]⟩
      · obtain ⟨kk, rfl, hKt⟩ := hko.mk 5 0 rfl
        obtain ⟨k1, k2, k3⟩ := kk
        have SM := hide (fun w' (h : Kids (fun g => w.heap.size + 1 < g) w' (.thn a.tidy b.tidy) (k1, k2, k3)) => s_make (.thn a.tidy b.tidy) _ (k1, k2, k3) w' h)
        have u0 := N0.2.1 0 _ rfl
        have u1 := N0.2.1 1 _ rfl
        go_wp2_with fail
        refine (SM.out _ hKt).mono ?_
        rintro e w8 ⟨⟨y1, y2, y3⟩, rfl, hK8, b8⟩
        replace hK8 : Kids (fun g => w.heap.size + 1 < g) w8 (mkThn a.tidy b.tidy) (y1, y2, y3) := hK8
        have N1 := N1.below b8
        have v0 := N1.2.1 0 _ rfl
        have v1 := N1.2.1 1 _ rfl
        have v2 := N1.2.1 2 _ rfl
        have f0 := N1.2.2 0 (by simp)
        have f1 := N1.2.2 1 (by simp)
        have f2 := N1.2.2 2 (by simp)
        have d8 := hbw.trans (b8.mono hbw.size)
        replace d8 := hide d8
        replace hK8 := hide hK8
        clear N0 N1 u0 u1 b8 hko hKt
        simp only [mk1]
        generalize hrr : (mkThn a.tidy b.tidy) = r at *
        replace hrr := hide hrr
        go_wp2_with fail
        refine bodyPost_ret (v := .agg #[.int .i64 r.kind, .int .i64 r.num, .slice y1 y2 y3]) (by simp [results, Try.results55, go_sem, v0, v1, v2]) rfl ?_
        rw [hrr.out]
        have hon : Only (w.heap.size + 1) w8 (((w8.setCell ⟨w.heap.size + 1, 0, none⟩ (.int .i64 r.kind)).setCell ⟨w.heap.size + 1, 1, none⟩ (.int .i64 r.num)).setCell ⟨w.heap.size + 1, 2, none⟩ (.slice y1 y2 y3)) := (((Only.refl _ _).setCell _ _).setCell _ _).setCell _ _
        exact ⟨(y1, y2, y3), rfl, Kids.mono (S := fun g => w.heap.size + 1 < g) (S' := fun g => w.heap.size ≤ g) (fun g _ hg => by omega) _ _ (Kids.move ⟨hon.2.2.2.1, fun g _ hg hb => hon.cell hb (by omega)⟩ _ _ hK8.out), ((d8.out.setCell (by simp) _).setCell (by simp) _).setCell (by simp) _⟩
  | alt a b ha hb =>
    rintro S k w ⟨g, c, ⟨a1, a2, a3⟩, ⟨b1, b2, b3⟩, rfl, hSg, hR, hKa, hKb⟩
    have IA := hide (fun w h => ha S (a1, a2, a3) w h)
    have IB := hide (fun w h => hb S (b1, b2, b3) w h)
    clear ha hb
    simp only [tv, Re.kind, Re.num, Re.tidy]
    have M0 := (Mut.new w #[.int .i64 6, .int .i64 0, .slice (some ⟨g, 0, none⟩) 2 c] 66).alloc (.cells #[.int .i64 0, .int .i64 0, .slice none 0 0] 66)
    have M1 := Mut.new (w.alloc (.cells #[.int .i64 6, .int .i64 0, .slice (some ⟨g, 0, none⟩) 2 c] 66)) #[.int .i64 0, .int .i64 0, .slice none 0 0] 66
    rw [show (w.alloc (.cells #[.int .i64 6, .int .i64 0, .slice (some ⟨g, 0, none⟩) 2 c] 66)).heap.size = w.heap.size + 1 by simp] at M1
    have hW : Below w.heap.size w ((w.alloc (.cells #[.int .i64 6, .int .i64 0, .slice (some ⟨g, 0, none⟩) 2 c] 66)).alloc (.cells #[.int .i64 0, .int .i64 0, .slice none 0 0] 66)) := below_box2 (Below.refl _ _)
    replace M0 := hide M0
    replace M1 := hide M1
    replace hW := hide hW
    go_enter Try.func55, Try.ntmps55
    go_wp2_with fail
    go_loopw [3, 9] (fun x y wr => (y = .int .i64 0 ∧ KidsOwn (w.heap.size + 1) [] x wr ∨ y = .int .i64 1 ∧ KidsOwn (w.heap.size + 1) [a.tidy] x wr ∨ y = .int .i64 2 ∧ KidsOwn (w.heap.size + 1) [a.tidy, b.tidy] x wr) ∧ Mut wr w.heap.size [.int .i64 6, .int .i64 0, .slice (some ⟨g, 0, none⟩) 2 c] ∧ Mut wr (w.heap.size + 1) [.int .i64 0, .int .i64 0, .slice none 0 0] ∧ Below w.heap.size w wr) (fun _ y _ => 2 - (intOf y).toNat)
    case atStart => exact ⟨.inl ⟨rfl, KidsOwn.nil _ _⟩, M0.out, M1.out, hW.out⟩
    case round =>
      obtain ⟨⟨rfl, hko⟩ | ⟨rfl, hko⟩ | ⟨rfl, hko⟩, N0, N1, hbw⟩ := hrel
      · obtain ⟨_, u0, u1, u2⟩ := (hR.below hbw).one0
        obtain ⟨KL, ho, hT, _⟩ := hko
        replace ho := hide ho
        replace hT := hide hT
        replace N0 := hide N0
        replace N1 := hide N1
        have hz1 := N1.out.1
        go_wp2_with fail
        refine (IA.out _ ((hKa.below hbw).below (below_box (Below.refl _ _)))).mono ?_
        rintro e w7 ⟨⟨x1, x2, x3⟩, rfl, hKx, b7⟩
        have d7 := below_box b7
        have dw := hbw.trans (d7.mono hbw.size)
        have b8 : Below w7.heap.size w7 (w7.alloc (.cells #[.int .i64 a.tidy.kind, .int .i64 a.tidy.num, .slice x1 x2 x3] 66)) := below_box (Below.refl _ _)
        have hO3 := ownK_below (ownK_below ho.out d7) b8
        have hM3 : RowK (some ⟨w7.heap.size, 0, none⟩) [(a.tidy.kind, a.tidy.num, x1, x2, x3)] (w7.alloc (.cells #[.int .i64 a.tidy.kind, .int .i64 a.tidy.num, .slice x1 x2 x3] 66)) := by
          have M := Mut.new w7 #[.int .i64 a.tidy.kind, .int .i64 a.tidy.num, .slice x1 x2 x3] 66
          exact RowK.one M.1 (M.2.1 0 _ rfl) (M.2.1 1 _ rfl) (M.2.1 2 _ rfl)
        have hz7 := d7.size
        have hW3 : w.heap.size + 1 + 1 ≤ (w7.alloc (.cells #[.int .i64 a.tidy.kind, .int .i64 a.tidy.num, .slice x1 x2 x3] 66)).heap.size := by simp; omega
        have hKL := hT.out.len
        have hKo : ∀ g', u3.ownBlock = some g' → g' < wr.heap.size := fun g' e => (ownK_blk ho.out e).2
        replace hO3 := hide hO3
        replace hM3 := hide hM3
        replace hW3 := hide hW3
        replace d7 := hide d7
        replace dw := hide dw
        replace b8 := hide b8
        replace hKx := hide hKx
        replace hKL := hide (show KL.length ≤ 8589934592 by simp only [List.length_nil] at hKL; omega)
        replace hKo := hide hKo
        clear u0 u1 u2 b7
        go_wp2_with (first | (at_builtin; refine wpList_app1K rfl _ _ rfl (w.heap.size + 1 + 1) u3 KL rfl hO3.out w7.heap.size (a.tidy.kind, a.tidy.num, x1, x2, x3) _ rfl hM3.out hKL.out hW3.out ?_))
        intro v9 w9 hown9 hgr
        have hb9 := hgr.below hO3.out hW3.out
        have P0 := ((N0.out.below d7.out).below b8.out).base (by omega) hb9
        have P1 := ((N1.out.below d7.out).below b8.out).base (by omega) hb9
        have hKf : KidsOwn (w.heap.size + 1) [a.tidy] v9 w9 := by
          refine KidsOwn.app (ts := []) (t := a.tidy) (k := (x1, x2, x3)) (W := (w7.alloc (.cells #[.int .i64 a.tidy.kind, .int .i64 a.tidy.num, .slice x1 x2 x3] 66))) ((hT.out.move (moves_below d7.out)).move (moves_below b8.out)) (Kids.mono (fun g' _ hg => ⟨by simp at hg; omega, fun e => by have := hKo.out g' e.symm; simp at hg; omega⟩) _ _ (hKx.out.below b8.out)) hgr hown9
        have d9 := (dw.out.trans (b8.out.mono (by omega))).trans (hb9.mono (by omega))
        replace hKf := hide hKf
        replace d9 := hide d9
        replace P0 := hide P0
        replace P1 := hide P1
        clear hown9 hgr hb9 hz7 hz1
        go_wp2_with fail
        exact ⟨⟨.inr (.inl ⟨rfl, hKf.out⟩), P0.out, P1.out, d9.out⟩, by simp [intOf]⟩
      · obtain ⟨u0, u1, u2⟩ := (hR.below hbw).two0
        obtain ⟨KL, ho, hT, _⟩ := hko
        replace ho := hide ho
        replace hT := hide hT
        replace N0 := hide N0
        replace N1 := hide N1
        have hz1 := N1.out.1
        go_wp2_with fail
        refine (IB.out _ ((hKb.below hbw).below (below_box (Below.refl _ _)))).mono ?_
        rintro e w7 ⟨⟨x1, x2, x3⟩, rfl, hKx, b7⟩
        have d7 := below_box b7
        have dw := hbw.trans (d7.mono hbw.size)
        have b8 : Below w7.heap.size w7 (w7.alloc (.cells #[.int .i64 b.tidy.kind, .int .i64 b.tidy.num, .slice x1 x2 x3] 66)) := below_box (Below.refl _ _)
        have hO3 := ownK_below (ownK_below ho.out d7) b8
        have hM3 : RowK (some ⟨w7.heap.size, 0, none⟩) [(b.tidy.kind, b.tidy.num, x1, x2, x3)] (w7.alloc (.cells #[.int .i64 b.tidy.kind, .int .i64 b.tidy.num, .slice x1 x2 x3] 66)) := by
          have M := Mut.new w7 #[.int .i64 b.tidy.kind, .int .i64 b.tidy.num, .slice x1 x2 x3] 66
          exact RowK.one M.1 (M.2.1 0 _ rfl) (M.2.1 1 _ rfl) (M.2.1 2 _ rfl)
        have hz7 := d7.size
        have hW3 : w.heap.size + 1 + 1 ≤ (w7.alloc (.cells #[.int .i64 b.tidy.kind, .int .i64 b.tidy.num, .slice x1 x2 x3] 66)).heap.size := by simp; omega
        have hKL := hT.out.len
        have hKo : ∀ g', u3.ownBlock = some g' → g' < wr.heap.size := fun g' e => (ownK_blk ho.out e).2
        replace hO3 := hide hO3
        replace hM3 := hide hM3
        replace hW3 := hide hW3
        replace d7 := hide d7
        replace dw := hide dw
        replace b8 := hide b8
        replace hKx := hide hKx
        replace hKL := hide (show KL.length ≤ 8589934592 by simp only [List.length_cons, List.length_nil] at hKL; omega)
        replace hKo := hide hKo
        clear u0 u1 u2 b7
        go_wp2_with (first | (at_builtin; refine wpList_app1K rfl _ _ rfl (w.heap.size + 1 + 1) u3 KL rfl hO3.out w7.heap.size (b.tidy.kind, b.tidy.num, x1, x2, x3) _ rfl hM3.out hKL.out hW3.out ?_))
        intro v9 w9 hown9 hgr
        have hb9 := hgr.below hO3.out hW3.out
        have P0 := ((N0.out.below d7.out).below b8.out).base (by omega) hb9
        have P1 := ((N1.out.below d7.out).below b8.out).base (by omega) hb9
        have hKf : KidsOwn (w.heap.size + 1) [a.tidy, b.tidy] v9 w9 := by
          refine KidsOwn.app (ts := [a.tidy]) (t := b.tidy) (k := (x1, x2, x3)) (W := (w7.alloc (.cells #[.int .i64 b.tidy.kind, .int .i64 b.tidy.num, .slice x1 x2 x3] 66))) ((hT.out.move (moves_below d7.out)).move (moves_below b8.out)) (Kids.mono (fun g' _ hg => ⟨by simp at hg; omega, fun e => by have := hKo.out g' e.symm; simp at hg; omega⟩) _ _ (hKx.out.below b8.out)) hgr hown9
        have d9 := (dw.out.trans (b8.out.mono (by omega))).trans (hb9.mono (by omega))
        replace hKf := hide hKf
        replace d9 := hide d9
        replace P0 := hide P0
        replace P1 := hide P1
        clear hown9 hgr hb9 hz7 hz1
        go_wp2_with fail
        exact ⟨⟨.inr (.inr ⟨rfl, hKf.out⟩), P0.out, P1.out, d9.out⟩, by simp [intOf]⟩
      · obtain ⟨kk, rfl, hKt⟩ := hko.mk 6 0 rfl
        obtain ⟨k1, k2, k3⟩ := kk
        have SM := hide (fun w' (h : Kids (fun g => w.heap.size + 1 < g) w' (.alt a.tidy b.tidy) (k1, k2, k3)) => s_make (.alt a.tidy b.tidy) _ (k1, k2, k3) w' h)
        have u0 := N0.2.1 0 _ rfl
        have u1 := N0.2.1 1 _ rfl
        go_wp2_with fail
        refine (SM.out _ hKt).mono ?_
        rintro e w8 ⟨⟨y1, y2, y3⟩, rfl, hK8, b8⟩
        replace hK8 : Kids (fun g => w.heap.size + 1 < g) w8 (mkAlt a.tidy b.tidy) (y1, y2, y3) := hK8
        have N1 := N1.below b8
        have v0 := N1.2.1 0 _ rfl
        have v1 := N1.2.1 1 _ rfl
        have v2 := N1.2.1 2 _ rfl
        have f0 := N1.2.2 0 (by simp)
        have f1 := N1.2.2 1 (by simp)
        have f2 := N1.2.2 2 (by simp)
        have d8 := hbw.trans (b8.mono hbw.size)
        replace d8 := hide d8
        replace hK8 := hide hK8
        clear N0 N1 u0 u1 b8 hko hKt
        simp only [mk1]
        generalize hrr : (mkAlt a.tidy b.tidy) = r at *
        replace hrr := hide hrr
        go_wp2_with fail
        refine bodyPost_ret (v := .agg #[.int .i64 r.kind, .int .i64 r.num, .slice y1 y2 y3]) (by simp [results, Try.results55, go_sem, v0, v1, v2]) rfl ?_
        rw [hrr.out]
        have hon : Only (w.heap.size + 1) w8 (((w8.setCell ⟨w.heap.size + 1, 0, none⟩ (.int .i64 r.kind)).setCell ⟨w.heap.size + 1, 1, none⟩ (.int .i64 r.num)).setCell ⟨w.heap.size + 1, 2, none⟩ (.slice y1 y2 y3)) := (((Only.refl _ _).setCell _ _).setCell _ _).setCell _ _
        exact ⟨(y1, y2, y3), rfl, Kids.mono (S := fun g => w.heap.size + 1 < g) (S' := fun g => w.heap.size ≤ g) (fun g _ hg => by omega) _ _ (Kids.move ⟨hon.2.2.2.1, fun g _ hg hb => hon.cell hb (by omega)⟩ _ _ hK8.out), ((d8.out.setCell (by simp) _).setCell (by simp) _).setCell (by simp) _⟩
  | str a ha =>
    rintro S k w ⟨g, c, ⟨a1, a2, a3⟩, rfl, hSg, hR, hKa⟩
    have IA := hide (fun w h => ha S (a1, a2, a3) w h)
    clear ha
    simp only [tv, Re.kind, Re.num, Re.tidy]
    have M0 := (Mut.new w #[.int .i64 7, .int .i64 0, .slice (some ⟨g, 0, none⟩) 1 c] 66).alloc (.cells #[.int .i64 0, .int .i64 0, .slice none 0 0] 66)
    have M1 := Mut.new (w.alloc (.cells #[.int .i64 7, .int .i64 0, .slice (some ⟨g, 0, none⟩) 1 c] 66)) #[.int .i64 0, .int .i64 0, .slice none 0 0] 66
    rw [show (w.alloc (.cells #[.int .i64 7, .int .i64 0, .slice (some ⟨g, 0, none⟩) 1 c] 66)).heap.size = w.heap.size + 1 by simp] at M1
    have hW : Below w.heap.size w ((w.alloc (.cells #[.int .i64 7, .int .i64 0, .slice (some ⟨g, 0, none⟩) 1 c] 66)).alloc (.cells #[.int .i64 0, .int .i64 0, .slice none 0 0] 66)) := below_box2 (Below.refl _ _)
    replace M0 := hide M0
    replace M1 := hide M1
    replace hW := hide hW
    go_enter Try.func55, Try.ntmps55
    go_wp2_with fail
    go_loopw [3, 9] (fun x y wr => (y = .int .i64 0 ∧ KidsOwn (w.heap.size + 1) [] x wr ∨ y = .int .i64 1 ∧ KidsOwn (w.heap.size + 1) [a.tidy] x wr) ∧ Mut wr w.heap.size [.int .i64 7, .int .i64 0, .slice (some ⟨g, 0, none⟩) 1 c] ∧ Mut wr (w.heap.size + 1) [.int .i64 0, .int .i64 0, .slice none 0 0] ∧ Below w.heap.size w wr) (fun _ y _ => 1 - (intOf y).toNat)
    case atStart => exact ⟨.inl ⟨rfl, KidsOwn.nil _ _⟩, M0.out, M1.out, hW.out⟩
    case round =>
      obtain ⟨⟨rfl, hko⟩ | ⟨rfl, hko⟩, N0, N1, hbw⟩ := hrel
      · obtain ⟨_, u0, u1, u2⟩ := (hR.below hbw).one0
        obtain ⟨KL, ho, hT, _⟩ := hko
        replace ho := hide ho
        replace hT := hide hT
        replace N0 := hide N0
        replace N1 := hide N1
        have hz1 := N1.out.1
        go_wp2_with fail
        refine (IA.out _ ((hKa.below hbw).below (below_box (Below.refl _ _)))).mono ?_
        rintro e w7 ⟨⟨x1, x2, x3⟩, rfl, hKx, b7⟩
        have d7 := below_box b7
        have dw := hbw.trans (d7.mono hbw.size)
        have b8 : Below w7.heap.size w7 (w7.alloc (.cells #[.int .i64 a.tidy.kind, .int .i64 a.tidy.num, .slice x1 x2 x3] 66)) := below_box (Below.refl _ _)
        have hO3 := ownK_below (ownK_below ho.out d7) b8
        have hM3 : RowK (some ⟨w7.heap.size, 0, none⟩) [(a.tidy.kind, a.tidy.num, x1, x2, x3)] (w7.alloc (.cells #[.int .i64 a.tidy.kind, .int .i64 a.tidy.num, .slice x1 x2 x3] 66)) := by
          have M := Mut.new w7 #[.int .i64 a.tidy.kind, .int .i64 a.tidy.num, .slice x1 x2 x3] 66
          exact RowK.one M.1 (M.2.1 0 _ rfl) (M.2.1 1 _ rfl) (M.2.1 2 _ rfl)
        have hz7 := d7.size
        have hW3 : w.heap.size + 1 + 1 ≤ (w7.alloc (.cells #[.int .i64 a.tidy.kind, .int .i64 a.tidy.num, .slice x1 x2 x3] 66)).heap.size := by simp; omega
        have hKL := hT.out.len
        have hKo : ∀ g', u3.ownBlock = some g' → g' < wr.heap.size := fun g' e => (ownK_blk ho.out e).2
        replace hO3 := hide hO3
        replace hM3 := hide hM3
        replace hW3 := hide hW3
        replace d7 := hide d7
        replace dw := hide dw
        replace b8 := hide b8
        replace hKx := hide hKx
        replace hKL := hide (show KL.length ≤ 8589934592 by simp only [List.length_nil] at hKL; omega)
        replace hKo := hide hKo
        clear u0 u1 u2 b7
        go_wp2_with (first | (at_builtin; refine wpList_app1K rfl _ _ rfl (w.heap.size + 1 + 1) u3 KL rfl hO3.out w7.heap.size (a.tidy.kind, a.tidy.num, x1, x2, x3) _ rfl hM3.out hKL.out hW3.out ?_))
        intro v9 w9 hown9 hgr
        have hb9 := hgr.below hO3.out hW3.out
        have P0 := ((N0.out.below d7.out).below b8.out).base (by omega) hb9
        have P1 := ((N1.out.below d7.out).below b8.out).base (by omega) hb9
        have hKf : KidsOwn (w.heap.size + 1) [a.tidy] v9 w9 := by
          refine KidsOwn.app (ts := []) (t := a.tidy) (k := (x1, x2, x3)) (W := (w7.alloc (.cells #[.int .i64 a.tidy.kind, .int .i64 a.tidy.num, .slice x1 x2 x3] 66))) ((hT.out.move (moves_below d7.out)).move (moves_below b8.out)) (Kids.mono (fun g' _ hg => ⟨by simp at hg; omega, fun e => by have := hKo.out g' e.symm; simp at hg; omega⟩) _ _ (hKx.out.below b8.out)) hgr hown9
        have d9 := (dw.out.trans (b8.out.mono (by omega))).trans (hb9.mono (by omega))
        replace hKf := hide hKf
        replace d9 := hide d9
        replace P0 := hide P0
        replace P1 := hide P1
        clear hown9 hgr hb9 hz7 hz1
        go_wp2_with fail
        exact ⟨⟨.inr ⟨rfl, hKf.out⟩, P0.out, P1.out, d9.out⟩, by simp [intOf]⟩
      · obtain ⟨kk, rfl, hKt⟩ := hko.mk 7 0 rfl
        obtain ⟨k1, k2, k3⟩ := kk
        have SM := hide (fun w' (h : Kids (fun g => w.heap.size + 1 < g) w' (.str a.tidy) (k1, k2, k3)) => s_make (.str a.tidy) _ (k1, k2, k3) w' h)
        have u0 := N0.2.1 0 _ rfl
        have u1 := N0.2.1 1 _ rfl
        go_wp2_with fail
        refine (SM.out _ hKt).mono ?_
        rintro e w8 ⟨⟨y1, y2, y3⟩, rfl, hK8, b8⟩
        replace hK8 : Kids (fun g => w.heap.size + 1 < g) w8 (mkStr a.tidy) (y1, y2, y3) := hK8
        have N1 := N1.below b8
        have v0 := N1.2.1 0 _ rfl
        have v1 := N1.2.1 1 _ rfl
        have v2 := N1.2.1 2 _ rfl
        have f0 := N1.2.2 0 (by simp)
        have f1 := N1.2.2 1 (by simp)
        have f2 := N1.2.2 2 (by simp)
        have d8 := hbw.trans (b8.mono hbw.size)
        replace d8 := hide d8
        replace hK8 := hide hK8
        clear N0 N1 u0 u1 b8 hko hKt
        simp only [mk1]
        generalize hrr : (mkStr a.tidy) = r at *
        replace hrr := hide hrr
        go_wp2_with fail
        refine bodyPost_ret (v := .agg #[.int .i64 r.kind, .int .i64 r.num, .slice y1 y2 y3]) (by simp [results, Try.results55, go_sem, v0, v1, v2]) rfl ?_
        rw [hrr.out]
        have hon : Only (w.heap.size + 1) w8 (((w8.setCell ⟨w.heap.size + 1, 0, none⟩ (.int .i64 r.kind)).setCell ⟨w.heap.size + 1, 1, none⟩ (.int .i64 r.num)).setCell ⟨w.heap.size + 1, 2, none⟩ (.slice y1 y2 y3)) := (((Only.refl _ _).setCell _ _).setCell _ _).setCell _ _
        exact ⟨(y1, y2, y3), rfl, Kids.mono (S := fun g => w.heap.size + 1 < g) (S' := fun g => w.heap.size ≤ g) (fun g _ hg => by omega) _ _ (Kids.move ⟨hon.2.2.2.1, fun g _ hg hb => hon.cell hb (by omega)⟩ _ _ hK8.out), ((d8.out.setCell (by simp) _).setCell (by simp) _).setCell (by simp) _⟩
/-- The answer of a function: a list of cells of its own, and a flag. -/
def AnsQ (fl : Bool) (R : List Cl) (w : World) (e : Ending) (w' : World) : Prop := ∃ v, e = .returned (.tuple #[v, .bool fl]) ∧ OwnQ w.heap.size v R w' ∧ Below w.heap.size w w'
/-- What TidyRegex answers. -/
def tdA (L : List Cl) : List Cl := match rg L with
  | some t => t.tidy.cells
  | none => []
theorem tdA_len (L : List Cl) : (tdA L).length ≤ 30 := by
  unfold tdA
  cases h : rg L with
  | none => simp
  | some t =>
    obtain ⟨h1, h2, _⟩ := rg_cells h
    rw [h1] at h2
    exact Nat.le_trans (tidy_len t) h2
set_option maxRecDepth 100000 in
set_option maxHeartbeats 1600000 in
theorem s_tidyRegex (b off cap : Nat) (L : List Cl) (w : World) (hm : L.length ≤ 8589934592) (hR : RowQ (some ⟨b, off, none⟩) L w) : Calls Try.prog 23 #[.slice (some ⟨b, off, none⟩) L.length cap] w (AnsQ (rgB L) (tdA L) w) := by
  have S1 := hide (fun w hR => s_tree L b off cap w hm hR)
  have hlen := tdA_len L
  cases h : rg L with
  | none =>
    rw [show rgB L = false from by simp [rgB, h], show tdA L = [] from by simp [tdA, h]]
    rw [h] at S1
    clear hlen
    go_enter Try.func23, Try.ntmps23
    go_wp2_with fail
    refine (S1.out _ hR).mono ?_
    rintro e w1 ⟨x, y, ⟨k1, k2, k3⟩, rfl, b1⟩
    go_wp2_with fail
    go_ret2
    exact ⟨_, rfl, ownQ_nil _ _, b1.alloc b1.size _⟩
  | some t =>
    rw [show tdA L = t.tidy.cells from by simp [tdA, h]] at hlen ⊢
    rw [show rgB L = true from by simp [rgB, h]]
    rw [h] at S1
    go_enter Try.func23, Try.ntmps23
    go_wp2_with fail
    refine (S1.out _ hR).mono ?_
    rintro e w1 ⟨⟨k1, k2, k3⟩, rfl, hK, b1⟩
    have S2 := hide (fun w' (h : Kids (fun g => w.heap.size ≤ g) w' t (k1, k2, k3)) => s_tidy t _ (k1, k2, k3) w' h)
    go_wp2_with fail
    refine (S2.out _ (hK.below (below_box (Below.refl _ _)))).mono ?_
    rintro e w2 ⟨⟨y1, y2, y3⟩, rfl, hK2, b2⟩
    have d2 := below_step b1 (below_box b2)
    have S3 := hide (fun (h : Kids (fun g => g < w2.heap.size) w2 t.tidy (y1, y2, y3)) => s_flat t.tidy (fun g => g < w2.heap.size) (y1, y2, y3) w2.heap.size (.slice none 0 0) [] w2 (fun g h => h) h (Nat.le_refl _) (ownQ_nil _ _) (by simp only [List.length_nil]; omega))
    rw [List.nil_append] at S3
    have K2 := hide hK2.all
    clear hK hK2 b1 b2 S1 S2 hlen
    go_wp2_with fail
    refine (S3.out K2.out).mono ?_
    rintro e w3 ⟨v, rfl, ho, b3⟩
    go_wp2_with fail
    go_ret2
    exact ⟨_, rfl, ownQ_base ho d2.size, below_step d2 b3⟩
end Go.Proofs.Ytdbaonpkdcmglaa
